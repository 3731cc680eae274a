/- A map of files, read and written by the program; what the closures of the things do. -/
import Derived.Test.YtpngcmlaimcceaaWld
import Derived.BigRegion
import Derived.Deep.RegionHeld3
import Derived.BigQuiet
namespace Go.Proofs.Ytpngcmlaimcceaa
open Go.RowKit Go.Maps Go.WideMaps
theorem zero69 (W : World) : (zeroValue 69).run Try.prog W = .ok (.agg #[.string ⟨#[]⟩]) W := by go_simp
theorem Mp.look {w : World} {b : Nat} {l : Fs} (h : Mp w b l) {n : List UInt8} (hn : n.length ≤ maxLen) : (Instr.lookup 54 (.map (some b)) (.string ⟨n.toArray⟩) false).run Try.prog w = .ok (.agg #[.string ⟨(get l n).toArray⟩]) w := by
  obtain ⟨v, ps, hr, hv⟩ := World.ownsMap.lookup (t := 54) (e := 69) h law9 Try.underlying54 (zero69 w) (zd := .lit (.string [])) (zp := []) (fileE_mk (b := []) (by simp [maxLen])) (key_ok hn)
  rw [fD_at] at hv
  obtain ⟨c, rfl, hz, _⟩ := fileE_inv hv
  cases hz
  exact hr
theorem Mp.look_ok {w : World} {b : Nat} {l : Fs} (h : Mp w b l) {n : List UInt8} (hn : n.length ≤ maxLen) : (Instr.lookup 54 (.map (some b)) (.string ⟨n.toArray⟩) true).run Try.prog w = .ok (.tuple #[.agg #[.string ⟨(get l n).toArray⟩], .bool (hasF l n)]) w := by
  obtain ⟨v, ps, hr, hv⟩ := World.ownsMap.look_ok (t := 54) (e := 69) h law9 Try.underlying54 (zero69 w) (zd := .lit (.string [])) (zp := []) (fileE_mk (b := []) (by simp [maxLen])) (key_ok hn)
  rw [fD_at] at hv
  obtain ⟨c, rfl, hz, _⟩ := fileE_inv hv
  cases hz
  rw [fD_has] at hr
  exact hr
theorem Mp.leng {w : World} {b : Nat} {l : Fs} (h : Mp w b l) (ty : TypeId) : (Builtin.len_ #[54] ty #[.map (some b)]).run Try.prog w = .ok (.int .i64 l.length) w := by
  have := World.ownsMap.len h Try.underlying54 ty
  rw [fD_size] at this
  exact this
theorem Mp.store {w : World} {b : Nat} {l : Fs} (h : Mp w b l) (hl : l.length ≤ 1000000) {n t : List UInt8} (hn : n.length ≤ maxLen) (ht : t.length ≤ maxLen) :
    ∃ w', (Instr.mapUpdate 54 (.map (some b)) (.string ⟨n.toArray⟩) (.agg #[.string ⟨t.toArray⟩])).run Try.prog w = .ok () w' ∧ Mp w' b (put l n t) ∧ w.mapTurned w' b := by
  obtain ⟨w', h1, h2, h3⟩ := World.ownsMap.store (t := 54) (e := 69) h law9 Try.underlying54 (by unfold maxLen; omega) (key_ok hn) (fileE_mk ht)
  rw [fD_put] at h2
  exact ⟨w', h1, Mp.of h2, h3⟩
theorem ext_str (x : List UInt8) (k : Nat) : (⟨x.toArray⟩ : ByteArray).extract 0 k = ⟨(x.take k).toArray⟩ := by
  apply ByteArray.ext
  apply Array.toList_inj.1
  simp
section
variable {ops : Array Oper} {rest : List Oper} {o : Oper} {a : Act} {Q : Exit → Act → World → Prop}
theorem wpList_look (w : World) (hg : o.guard = none) (m x : Operand) (hop : o.op = Op.lookup 54 m x false) (b : Nat) (l : Fs) (hm : a.eval m = .map (some b)) (h : Mp w b l) (n : List UInt8) (hn : n.length ≤ maxLen) (hx : a.eval x = .string ⟨n.toArray⟩)
    (hK : wpList Try.prog ops Q rest (a.put o.dst (.agg #[.string ⟨(get l n).toArray⟩])) w) : wpList Try.prog ops Q (o :: rest) a w := by
  refine wpList_plain hg fun K' hK' => ?_
  unfold Oper.wp
  simp [execOp, hop, hm, hx, h.look hn, Result.andThen]
  exact hK' _ _ hK
theorem wpList_look_ok (w : World) (hg : o.guard = none) (m x : Operand) (hop : o.op = Op.lookup 54 m x true) (b : Nat) (l : Fs) (hm : a.eval m = .map (some b)) (h : Mp w b l) (n : List UInt8) (hn : n.length ≤ maxLen) (hx : a.eval x = .string ⟨n.toArray⟩)
    (hK : wpList Try.prog ops Q rest (a.put o.dst (.tuple #[.agg #[.string ⟨(get l n).toArray⟩], .bool (hasF l n)])) w) : wpList Try.prog ops Q (o :: rest) a w := by
  refine wpList_plain hg fun K' hK' => ?_
  unfold Oper.wp
  simp [execOp, hop, hm, hx, h.look_ok hn, Result.andThen]
  exact hK' _ _ hK
theorem wpList_stor (w : World) (hg : o.guard = none) (m x v : Operand) (hop : o.op = Op.mapUpdate 54 m x v) (b : Nat) (l : Fs) (hm : a.eval m = .map (some b)) (h : Mp w b l) (hl : l.length ≤ 1000000) (n t : List UInt8) (hn : n.length ≤ maxLen) (ht : t.length ≤ maxLen)
    (hx : a.eval x = .string ⟨n.toArray⟩) (hv : a.eval v = .agg #[.string ⟨t.toArray⟩])
    (hK : ∀ w', Mp w' b (put l n t) → w.mapTurned w' b → wpList Try.prog ops Q rest (a.put o.dst undef) w') : wpList Try.prog ops Q (o :: rest) a w :=
  wpList_mapUpdate_in w hg m x v 54 hop 9 69 law9 Try.underlying54 fileE b l.length (fD l) hm h (by unfold maxLen; omega) _ _ (.string n) hx hv (key_ok hn) (.lit (.string t)) [] (fileE_mk ht) (fun w' h1 h2 => hK w' (Mp.of (by rw [fD_put] at h1; exact h1)) h2)
theorem wpList_dele (w : World) (hg : o.guard = none) (m x : Operand) (hop : o.op = Op.call { callee := Callee.builtin Builtin.delete, args := #[m, x], argTypes := #[54, 9] }) (b : Nat) (l : Fs) (hm : a.eval m = .map (some b)) (h : Mp w b l) (n : List UInt8) (hn : n.length ≤ maxLen)
    (hx : a.eval x = .string ⟨n.toArray⟩)
    (hK : ∀ w', Mp w' b (del l n) → w.mapTurned w' b → wpList Try.prog ops Q rest (a.put o.dst (.tuple #[])) w') : wpList Try.prog ops Q (o :: rest) a w :=
  wpList_delete_own w hg m x 54 9 hop 69 law9 Try.underlying54 fileE b l.length (fD l) hm h _ (.string n) hx (key_ok hn) (fun w' h1 h2 => hK w' (Mp.of (by rw [fD_del] at h1; exact h1)) h2)
end
theorem Ch.turned {M : Nat → Prop} {a b c : World} {k : Nat} (h : Ch M a b) (t : b.mapTurned c k) (hm : M k ∨ a.heap.size ≤ k) : Ch M a c := h.grown t.grown (fun i hi => by cases hi; exact hm)
theorem at_new (w : World) (o : Obj) : (w.alloc o).heap[w.heap.size]? = some o := (MapKept.heap_alloc w o).1
/-- What the closure of a thing leaves. -/
def Did (b : Nat) (l : Fs) (w : World) (e : Ending) (w' : World) : Prop := e = .returned (.tuple #[]) ∧ Mp w' b l ∧ Ch (fun i => i = b) w w'
theorem turned_cell {w w' : World} {b x : Nat} {c : Array Value} {t : TypeId} {fr : Nat × Nat} (h : w.mapTurned w' b) (hx : w.heap[x]? = some (.cells c t fr)) : w'.heap[x]? = some (.cells c t fr) := by
  obtain ⟨es, clock, es', clock', hb, rfl⟩ := h
  have hne : x ≠ b := fun e => by rw [e, hb] at hx; cases hx
  exact (ChangeMaps.heap_setBlock_other hb _ hne).trans hx
theorem fld69 (c : ByteArray) (W : World) : (Instr.field 69 (.agg #[.string c]) 0).run Try.prog W = .ok (.string c) W := by
  simp [Instr.field, run_underlying Try.underlying69, Result.andThen, part, asAgg]
theorem app_str (x y : List UInt8) : (⟨x.toArray⟩ : ByteArray) ++ ⟨y.toArray⟩ = ⟨(x ++ y).toArray⟩ := by
  apply ByteArray.ext
  simp
set_option maxRecDepth 100000 in
theorem clo_app (n t : List UInt8) (l : Fs) (b x : Nat) (w : World) (hM : Mp w b l) (hx : w.heap[x]? = some (.cells #[.string ⟨n.toArray⟩] 9)) (hn : n.length ≤ 128) (hl : l.length ≤ 4096) (ht : (get l n).length + t.length ≤ 1099511627776) :
    Calls Try.prog 40 #[.map (some b), .string ⟨t.toArray⟩, .pointer (some ⟨x, 0, none⟩)] w fun e w' => Did b (put l n (get l n ++ t)) w e w' := by
  have hc : w.cell? ⟨x, 0, none⟩ = some (.string ⟨n.toArray⟩) := cell_of hx
  have hn' : n.length ≤ maxLen := by unfold maxLen; omega
  have h69 := fld69
  go_enter Try.func40, Try.ntmps40
  go_wp2_with (first | (at_lookup; refine wpList_look _ rfl _ _ rfl b l rfl hM n hn' rfl ?_) | (at_mapUpdate; refine wpList_stor _ rfl _ _ _ rfl b l rfl hM (by omega) n (get l n ++ t) hn' (by simp [maxLen]; omega) rfl (by show Value.agg #[Value.string (_ ++ _)] = _; rw [app_str]) ?_; intro w1 h1 h2) | go_in)
  go_end0
  exact ⟨rfl, h1, (Ch.refl _ w).turned h2 (Or.inl rfl)⟩
set_option maxRecDepth 100000 in
theorem clo_wr (n t : List UInt8) (l : Fs) (b x : Nat) (w : World) (hM : Mp w b l) (hx : w.heap[x]? = some (.cells #[.string ⟨n.toArray⟩] 9)) (hn : n.length ≤ 128) (hl : l.length ≤ 4096) (ht : t.length ≤ 1099511627776) :
    Calls Try.prog 38 #[.map (some b), .string ⟨t.toArray⟩, .pointer (some ⟨x, 0, none⟩)] w fun e w' => Did b (put l n t) w e w' := by
  have hc : w.cell? ⟨x, 0, none⟩ = some (.string ⟨n.toArray⟩) := cell_of hx
  have hn' : n.length ≤ maxLen := by unfold maxLen; omega
  go_enter Try.func38, Try.ntmps38
  go_wp2_with (first | (at_mapUpdate; refine wpList_stor _ rfl _ _ _ rfl b l rfl hM (by omega) n t hn' (by simp [maxLen]; omega) rfl rfl ?_; intro w1 h1 h2) | go_in)
  go_end0
  exact ⟨rfl, h1, (Ch.refl _ w).turned h2 (Or.inl rfl)⟩
set_option maxRecDepth 100000 in
theorem clo_rm (n t : List UInt8) (l : Fs) (b x : Nat) (w : World) (hM : Mp w b l) (hx : w.heap[x]? = some (.cells #[.string ⟨n.toArray⟩] 9)) (hn : n.length ≤ 128) :
    Calls Try.prog 47 #[.map (some b), .string ⟨t.toArray⟩, .pointer (some ⟨x, 0, none⟩)] w fun e w' => Did b (del l n) w e w' := by
  have hc : w.cell? ⟨x, 0, none⟩ = some (.string ⟨n.toArray⟩) := cell_of hx
  have hn' : n.length ≤ maxLen := by unfold maxLen; omega
  go_enter Try.func47, Try.ntmps47
  go_wp2_with (first | (at_delete; refine wpList_dele _ rfl _ _ rfl b l rfl hM n hn' rfl ?_; intro w1 h1 h2) | go_in)
  go_end0
  exact ⟨rfl, h1, (Ch.refl _ w).turned h2 (Or.inl rfl)⟩
set_option maxRecDepth 100000 in
theorem clo_tr (n t : List UInt8) (k : Nat) (l : Fs) (b x y : Nat) (w : World) (hM : Mp w b l) (hx : w.heap[x]? = some (.cells #[.string ⟨n.toArray⟩] 9)) (hy : w.heap[y]? = some (.cells #[.int .i64 k] 3)) (hn : n.length ≤ 128) (hl : l.length ≤ 4096) (hk : k ≤ (get l n).length) (ht : (get l n).length ≤ 1099511627776) :
    Calls Try.prog 45 #[.map (some b), .string ⟨t.toArray⟩, .pointer (some ⟨x, 0, none⟩), .pointer (some ⟨y, 0, none⟩)] w fun e w' => Did b (put l n ((get l n).take k)) w e w' := by
  have hc : w.cell? ⟨x, 0, none⟩ = some (.string ⟨n.toArray⟩) := cell_of hx
  have hd : w.cell? ⟨y, 0, none⟩ = some (.int .i64 k) := cell_of hy
  have hn' : n.length ≤ maxLen := by unfold maxLen; omega
  have h69 := fld69
  have hL : (Instr.lookup 54 (.map (some b)) (.string ⟨n.toArray⟩) false).run Try.prog w.drew = .ok (.agg #[.string ⟨(get l n).toArray⟩]) w.drew := Mp.look (w := w.drew) hM hn'
  obtain ⟨w1, hU, h1, h2⟩ := Mp.store (w := w.drew) hM (by omega) hn' (t := (get l n).take k) (by simp [maxLen]; omega)
  rw [← ext_str] at hU
  go_enter Try.func45, Try.ntmps45
  go_region
  go_wp2_with fail
  go_end0
  exact ⟨rfl, h1, (Bel.refl w).drew.ch _ |>.turned h2 (Or.inl rfl)⟩
set_option maxRecDepth 100000 in
theorem clo_ren (n m t : List UInt8) (l : Fs) (b x y : Nat) (w : World) (hM : Mp w b l) (hx : w.heap[x]? = some (.cells #[.string ⟨n.toArray⟩] 9)) (hy : w.heap[y]? = some (.cells #[.string ⟨m.toArray⟩] 9)) (hn : n.length ≤ 128) (hm : m.length ≤ 128) (hl : l.length ≤ 4096) (ht : (get l n).length ≤ 1099511627776) :
    Calls Try.prog 46 #[.map (some b), .string ⟨t.toArray⟩, .pointer (some ⟨x, 0, none⟩), .pointer (some ⟨y, 0, none⟩)] w fun e w' => Did b (put (del l n) m (get l n)) w e w' := by
  have hc : w.cell? ⟨x, 0, none⟩ = some (.string ⟨n.toArray⟩) := cell_of hx
  have hd : w.cell? ⟨y, 0, none⟩ = some (.string ⟨m.toArray⟩) := cell_of hy
  have hn' : n.length ≤ maxLen := by unfold maxLen; omega
  go_enter Try.func46, Try.ntmps46
  have hm' : m.length ≤ maxLen := by unfold maxLen; omega
  have hcA : ∀ o, (w.alloc o).cell? ⟨x, 0, none⟩ = some (.string ⟨n.toArray⟩) := fun o => cell_of (((Bel.refl w).alloc o).row hx)
  go_wp2_with (first
    | (at_lookup; refine wpList_look _ rfl _ _ rfl b l rfl hM n hn' rfl ?_)
    | (at_delete; refine wpList_dele _ rfl _ _ rfl b l rfl (hM.bel ((Bel.refl w).alloc _)) n hn' rfl ?_; intro w1 h1 h2; have f1 : w1.cell? ⟨y, 0, none⟩ = some (.string ⟨m.toArray⟩) := cell_of (turned_cell h2 (((Bel.refl w).alloc _).row hy)); have f2 : w1.cell? ⟨w.heap.size, 0, none⟩ = some (.string ⟨(get l n).toArray⟩) := cell_of (turned_cell h2 (at_new w _)))
    | (at_mapUpdate; refine wpList_stor _ rfl _ _ _ rfl b (del l n) rfl h1 (by have := len_del l n; omega) m (get l n) hm' (by simp [maxLen]; omega) rfl rfl ?_; intro w2 h3 h4)
    | go_in)
  go_end0
  exact ⟨rfl, h3, (((Ch.refl (fun i => i = b) w).alloc _).turned h2 (Or.inl rfl)).turned h4 (Or.inl rfl)⟩
/-- A function with a body is entered. -/
def En (fn : Nat) : Prop := ∀ (args : Array Value) (W : World), (callFunc fn args).run Try.prog W = .ok (.enter fn args) W
theorem en40 : En 40 := fun _ _ => by kernel_rfl
theorem en38 : En 38 := fun _ _ => by kernel_rfl
theorem en45 : En 45 := fun _ _ => by kernel_rfl
theorem en46 : En 46 := fun _ _ => by kernel_rfl
theorem en47 : En 47 := fun _ _ => by kernel_rfl
/-- Any thing, done with any bytes. -/
theorem clo_any (w : World) (B : Nat → Prop) (f : Value) (o : Op5) (t : List UInt8) (l : Fs) (b : Nat) (C : Nat) (hf : Clo w B f o) (hM : Mp w b l) (hF : Fine C l) (hk : ok5 l o) (hC : C + t.length ≤ 1099511627776) :
    ∃ fn cap, f = .func (.func fn) #[] cap ∧ En fn ∧ Calls Try.prog fn (#[.map (some b), .string ⟨t.toArray⟩] ++ cap) w fun e w' => Did b (run5 l (with5 o t)) w e w' := by
  have hg := fun n => Nat.le_trans (get_le l n) hF.tot
  cases o using Op5.on with
  | app n s =>
    obtain ⟨x, h1, rfl⟩ := hf
    exact ⟨_, _, rfl, en40, clo_app n t l b x w hM h1.2 hk.2 hF.len (by have := hg n; omega)⟩
  | wr n s =>
    obtain ⟨x, h1, rfl⟩ := hf
    exact ⟨_, _, rfl, en38, clo_wr n t l b x w hM h1.2 hk.2 hF.len (by omega)⟩
  | tr n k =>
    obtain ⟨x, y, h1, h2, rfl⟩ := hf
    exact ⟨_, _, rfl, en45, clo_tr n t k l b x y w hM h1.2 h2.2 hk.1.2 hF.len hk.2.2 (by have := hg n; omega)⟩
  | ren n m =>
    obtain ⟨x, y, h1, h2, rfl⟩ := hf
    exact ⟨_, _, rfl, en46, clo_ren n m t l b x y w hM h1.2 h2.2 hk.1.2 hk.2.1.2 hF.len (by have := hg n; omega)⟩
  | rm n =>
    obtain ⟨x, h1, rfl⟩ := hf
    exact ⟨_, _, rfl, en47, clo_rm n t l b x w hM h1.2 hk.2⟩
end Go.Proofs.Ytpngcmlaimcceaa
