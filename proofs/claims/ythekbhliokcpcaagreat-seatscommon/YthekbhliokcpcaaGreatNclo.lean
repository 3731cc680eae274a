/- The library's Clone, at numbers, entries, follows and reads; Equal at numbers. Last; mayEntry, mayEntries, mayNumbers, mayLog of members that may be. Structs in boxes: made, read whole, written whole or a field, handed back. -/
import Derived.Test.YthekbhliokcpcaaGreatNrow
import Derived.Laws.Tables
import Derived.Laws.CopyRow
namespace Go.Proofs.YthekbhliokcpcaaGreat
open Go.RowKit Go.Maps
/-- Rows of reads: there are none. -/
def E72 : El Unit := { enc := fun _ => [.int .u64 0, .int .u64 0, .slice none 0 0], k := 3, e := 104, t := 29, bytes := 40, z := .agg #[.int .u64 0, .int .u64 0, .slice none 0 0], hk := by decide, len := fun _ => rfl, one := fun x u hu => by simp at hu; rcases hu with rfl | rfl <;> rfl, ht := Tryz.underlying29, hi := by kernel_rfl, hz := rfl, hb := by decide }
theorem bel_grown {w A B : World} {row : Option Nat} (h : Bel w A) (hg : A.grownBy B row) (hr : ∀ k, row = some k → w.heap.size ≤ k) : Bel w B := Below.trans h ((Below.refl _ A).grown hg h.size hr)
/-- append of a row to another one. -/
theorem app_el {α : Type} {E : El α} {ops : Array Oper} {rest : List Oper} {o : Oper} {a : Act} {Q : Exit → Act → World → Prop} {W : World} {base : Nat} {v : Value} {L : List α} (N : List α) (h : E.O base W v L) (hbase : base ≤ W.heap.size) (ad : Option Addr) (n cap : Nat) (hn : N.length = n) (hN : Sl E W ad N) (hb : L.length + N.length ≤ 100000000000)
    (hgd : o.guard = none) (s y : Operand) (t : TypeId) (ht : t = E.t) (ho : o.op = .call { callee := .builtin .append, args := #[s, y], argTypes := #[t, t] }) (hs : a.eval s = v) (hy : a.eval y = .slice ad n cap)
    (hK : ∀ v' w', E.O base w' v' (L ++ N) → W.grownBy w' v.ownBlock → wpList Tryz.prog ops Q rest (a.put o.dst v') w') : wpList Tryz.prog ops Q (o :: rest) a W := by
  subst hn ht
  obtain ⟨g, off, ha, hR⟩ := hN
  refine wpList_plain hgd fun K hK' => ?_
  obtain ⟨v', w', hrun, r1, r2, r3⟩ := El.run_app (E := E) W base v L N h hbase ad g off cap ha hR hb o.type
  unfold Oper.wp execOp
  simp only [ho, resolve, invoke, builtin, Sem.run_bind, Sem.run_pure, Result.andThen_ok, List.map_toArray, List.map_cons, List.map_nil, hs, hy, hrun]
  exact hK' _ _ (hK v' w' r1 r2)
/-- A row of nothing that was just made. -/
theorem El.O.made {α : Type} {E : El α} (W : World) : E.O W.heap.size (W.alloc (.cells #[] E.e)) (.slice (some ⟨W.heap.size, 0, none⟩) 0 0) [] := ⟨by simp [El.fl], Or.inr ⟨W.heap.size, 0, #[], rfl, Nat.le_refl _, at_new W _, Nat.le_refl _, Nat.zero_le _, by simp, by simp [El.fl]⟩⟩
theorem eql24 (ad : Option Addr) (n cap : Nat) (W : World) : (binOp BinOp.eql 22 (.slice ad n cap) (.slice none 0 0)).run Tryz.prog W = .ok (.bool ad.isNone) W := by
  simp only [binOp]
  simp [Op.equal, Op.maxDepth, Lib.run_equalIn_slice_nil W 9999 22 _ ad n cap 0 0 Tryz.underlying22]
set_option maxRecDepth 100000 in
set_option maxHeartbeats 1000000 in
theorem clone3 {W : World} {a : Option Addr} {n cap : Nat} {l : List Int} (hn : l.length = n) (hR : Sl E3 W a l) (hl : n ≤ 10000000000) : Calls Tryz.prog 99 #[.slice a n cap] W fun e w' => ∃ a' c', e = .returned (.slice a' n c') ∧ E3.O W.heap.size w' (.slice a' n c') l ∧ Bel W w' := by
  have HR := hide hR
  have HN := hide hn
  have HL := hide hl
  have hq := eql24 a n cap
  cases a with
  | none =>
    have h0 : l = [] := by
      obtain ⟨g, off, h1, _⟩ := hR
      cases l with
      | nil => rfl
      | cons x l => exact absurd (h1 (by simp)) (by simp)
    subst h0
    obtain rfl : n = 0 := by simpa using hn.symm
    clear hR hn hl
    go_enter Tryz.func99, Tryz.ntmps99
    go_wp2_with fail
    go_ret
    exact ⟨_, _, rfl, El.O.nil _ _, Bel.refl _⟩
  | some ad =>
    clear hR hn hl
    go_enter Tryz.func99, Tryz.ntmps99
    go_wp2_with (first
      | (at_builtin; refine app_el (E := E3) (L := []) l (El.O.made W) (by simp) (some ad) n cap (unhide HN) ((unhide HR).bel ((Bel.refl W).alloc _)) (by have := unhide HL; have := unhide HN; simp; omega) rfl _ _ 22 rfl rfl rfl rfl ?_; intro v' w' ho hg; rw [List.nil_append] at ho; obtain ⟨a', c', g', hv', _, _, _⟩ := ho.shape; rw [unhide HN] at hv'; subst hv'; have HF := hide (And.intro ho (bel_grown ((Bel.refl W).alloc _) hg (fun z hz => by cases hz; exact Nat.le_refl _))); clear ho hg))
    go_ret
    exact ⟨_, _, rfl, (unhide HF).1, (unhide HF).2⟩
theorem eql29 (ad : Option Addr) (n cap : Nat) (W : World) : (binOp BinOp.eql 28 (.slice ad n cap) (.slice none 0 0)).run Tryz.prog W = .ok (.bool ad.isNone) W := by
  simp only [binOp]
  simp [Op.equal, Op.maxDepth, Lib.run_equalIn_slice_nil W 9999 28 _ ad n cap 0 0 Tryz.underlying28]
set_option maxRecDepth 100000 in
set_option maxHeartbeats 1000000 in
theorem clone65 {W : World} {a : Option Addr} {n cap : Nat} {l : List (Int × Int × Int)} (hn : l.length = n) (hR : Sl E65 W a l) (hl : n ≤ 10000000000) : Calls Tryz.prog 100 #[.slice a n cap] W fun e w' => ∃ a' c', e = .returned (.slice a' n c') ∧ E65.O W.heap.size w' (.slice a' n c') l ∧ Bel W w' := by
  have HR := hide hR
  have HN := hide hn
  have HL := hide hl
  have hq := eql29 a n cap
  cases a with
  | none =>
    have h0 : l = [] := by
      obtain ⟨g, off, h1, _⟩ := hR
      cases l with
      | nil => rfl
      | cons x l => exact absurd (h1 (by simp)) (by simp)
    subst h0
    obtain rfl : n = 0 := by simpa using hn.symm
    clear hR hn hl
    go_enter Tryz.func100, Tryz.ntmps100
    go_wp2_with fail
    go_ret
    exact ⟨_, _, rfl, El.O.nil _ _, Bel.refl _⟩
  | some ad =>
    clear hR hn hl
    go_enter Tryz.func100, Tryz.ntmps100
    go_wp2_with (first
      | (at_builtin; refine app_el (E := E65) (L := []) l (El.O.made W) (by simp) (some ad) n cap (unhide HN) ((unhide HR).bel ((Bel.refl W).alloc _)) (by have := unhide HL; have := unhide HN; simp; omega) rfl _ _ 28 rfl rfl rfl rfl ?_; intro v' w' ho hg; rw [List.nil_append] at ho; obtain ⟨a', c', g', hv', _, _, _⟩ := ho.shape; rw [unhide HN] at hv'; subst hv'; have HF := hide (And.intro ho (bel_grown ((Bel.refl W).alloc _) hg (fun z hz => by cases hz; exact Nat.le_refl _))); clear ho hg))
    go_ret
    exact ⟨_, _, rfl, (unhide HF).1, (unhide HF).2⟩
theorem eql28 (ad : Option Addr) (n cap : Nat) (W : World) : (binOp BinOp.eql 27 (.slice ad n cap) (.slice none 0 0)).run Tryz.prog W = .ok (.bool ad.isNone) W := by
  simp only [binOp]
  simp [Op.equal, Op.maxDepth, Lib.run_equalIn_slice_nil W 9999 27 _ ad n cap 0 0 Tryz.underlying27]
set_option maxRecDepth 100000 in
set_option maxHeartbeats 1000000 in
theorem clone69 {W : World} {a : Option Addr} {n cap : Nat} {l : List PE} (hn : l.length = n) (hR : Sl E69 W a l) (hl : n ≤ 10000000000) : Calls Tryz.prog 148 #[.slice a n cap] W fun e w' => ∃ a' c', e = .returned (.slice a' n c') ∧ E69.O W.heap.size w' (.slice a' n c') l ∧ Bel W w' := by
  have HR := hide hR
  have HN := hide hn
  have HL := hide hl
  have hq := eql28 a n cap
  cases a with
  | none =>
    have h0 : l = [] := by
      obtain ⟨g, off, h1, _⟩ := hR
      cases l with
      | nil => rfl
      | cons x l => exact absurd (h1 (by simp)) (by simp)
    subst h0
    obtain rfl : n = 0 := by simpa using hn.symm
    clear hR hn hl
    go_enter Tryz.func148, Tryz.ntmps148
    go_wp2_with fail
    go_ret
    exact ⟨_, _, rfl, El.O.nil _ _, Bel.refl _⟩
  | some ad =>
    clear hR hn hl
    go_enter Tryz.func148, Tryz.ntmps148
    go_wp2_with (first
      | (at_builtin; refine app_el (E := E69) (L := []) l (El.O.made W) (by simp) (some ad) n cap (unhide HN) ((unhide HR).bel ((Bel.refl W).alloc _)) (by have := unhide HL; have := unhide HN; simp; omega) rfl _ _ 27 rfl rfl rfl rfl ?_; intro v' w' ho hg; rw [List.nil_append] at ho; obtain ⟨a', c', g', hv', _, _, _⟩ := ho.shape; rw [unhide HN] at hv'; subst hv'; have HF := hide (And.intro ho (bel_grown ((Bel.refl W).alloc _) hg (fun z hz => by cases hz; exact Nat.le_refl _))); clear ho hg))
    go_ret
    exact ⟨_, _, rfl, (unhide HF).1, (unhide HF).2⟩
theorem eql30 (ad : Option Addr) (n cap : Nat) (W : World) : (binOp BinOp.eql 29 (.slice ad n cap) (.slice none 0 0)).run Tryz.prog W = .ok (.bool ad.isNone) W := by
  simp only [binOp]
  simp [Op.equal, Op.maxDepth, Lib.run_equalIn_slice_nil W 9999 29 _ ad n cap 0 0 Tryz.underlying29]
set_option maxRecDepth 100000 in
set_option maxHeartbeats 1000000 in
theorem clone72 {W : World} {a : Option Addr} {n cap : Nat} {l : List Unit} (hn : l.length = n) (hR : Sl E72 W a l) (hl : n ≤ 10000000000) : Calls Tryz.prog 102 #[.slice a n cap] W fun e w' => ∃ a' c', e = .returned (.slice a' n c') ∧ E72.O W.heap.size w' (.slice a' n c') l ∧ Bel W w' := by
  have HR := hide hR
  have HN := hide hn
  have HL := hide hl
  have hq := eql30 a n cap
  cases a with
  | none =>
    have h0 : l = [] := by
      obtain ⟨g, off, h1, _⟩ := hR
      cases l with
      | nil => rfl
      | cons x l => exact absurd (h1 (by simp)) (by simp)
    subst h0
    obtain rfl : n = 0 := by simpa using hn.symm
    clear hR hn hl
    go_enter Tryz.func102, Tryz.ntmps102
    go_wp2_with fail
    go_ret
    exact ⟨_, _, rfl, El.O.nil _ _, Bel.refl _⟩
  | some ad =>
    clear hR hn hl
    go_enter Tryz.func102, Tryz.ntmps102
    go_wp2_with (first
      | (at_builtin; refine app_el (E := E72) (L := []) l (El.O.made W) (by simp) (some ad) n cap (unhide HN) ((unhide HR).bel ((Bel.refl W).alloc _)) (by have := unhide HL; have := unhide HN; simp; omega) rfl _ _ 29 rfl rfl rfl rfl ?_; intro v' w' ho hg; rw [List.nil_append] at ho; obtain ⟨a', c', g', hv', _, _, _⟩ := ho.shape; rw [unhide HN] at hv'; subst hv'; have HF := hide (And.intro ho (bel_grown ((Bel.refl W).alloc _) hg (fun z hz => by cases hz; exact Nat.le_refl _))); clear ho hg))
    go_ret
    exact ⟨_, _, rfl, (unhide HF).1, (unhide HF).2⟩
set_option maxRecDepth 100000 in
set_option maxHeartbeats 1000000 in
theorem equal_any {W : World} {a b : Option Addr} {l k : List Int} (h : Sl E3 W a l) (h2 : Sl E3 W b k) (cap cap2 : Nat) (hl : l.length ≤ 9000000000000000000) : Calls Tryz.prog 113 #[.slice a l.length cap, .slice b k.length cap2] W fun e w' => e = .returned (.bool (decide (l = k))) ∧ Bel W w' := by
  by_cases hnm : l.length = k.length
  case neg =>
    have e : decide (l = k) = false := decide_eq_false (fun e => hnm (by rw [e]))
    rw [e]
    have hne : ((l.length : Int) == k.length) = false := by simp; omega
    clear h h2 hl hnm e
    generalize l.length = n at *
    generalize k.length = m at *
    go_enter Tryz.func113, Tryz.ntmps113
    go_wp2_with fail
    go_ret
    exact ⟨rfl, Bel.refl _⟩
  case pos =>
  rw [← hnm]
  obtain ⟨g, off, hg, hR⟩ := h
  obtain ⟨g2, off2, hg2, hR2⟩ := h2
  have hm : k.length = l.length := hnm.symm
  clear hnm
  generalize hn : l.length = n at *
  have HN := hide hn
  have HM := hide hm
  have HG := hide hg
  have HR := hide hR
  have HG2 := hide hg2
  have HR2 := hide hR2
  clear hn hg hR hm hg2 hR2
  go_enter Tryz.func113, Tryz.ntmps113
  go_wp2_with fail
  go_loopw [13] (fun vk wr => ∃ (i : Nat), i ≤ n ∧ vk = .int .i64 i ∧ Bel W wr ∧ Hid (l.take i = k.take i)) (fun vk _ => n - (intOf vk).toNat)
  case atStart => exact ⟨0, Nat.zero_le _, rfl, Bel.refl _, hide (by simp)⟩
  case round =>
    obtain ⟨i, hk, rfl, hb, HE⟩ := hrel
    by_cases hlt : i < n
    · have hil : i < l.length := by rw [unhide HN]; exact hlt
      have hik : i < k.length := by rw [unhide HM]; exact hlt
      obtain rfl := (unhide HG) (by omega)
      obtain rfl := (unhide HG2) (by rw [unhide HM]; omega)
      have hkn : (i : Int) < n := by omega
      have r0 := hb.cell (E3_cell (unhide HR) i hil)
      have r1 := hb.cell (E3_cell (unhide HR2) i hik)
      have HB := hide hb
      have HD : Hid (l[i] = k[i] → l.take (i + 1) = k.take (i + 1)) := hide (fun e => by rw [List.take_add_one, List.take_add_one, unhide HE, List.getElem?_eq_getElem hil, List.getElem?_eq_getElem hik, e])
      have HD2 : Hid (l[i] ≠ k[i] → l ≠ k) := hide (fun e h => e (by simp [h]))
      generalize l[i] = x at *
      generalize k[i] = y at *
      clear hb
      cases h1 : (x == y) with
      | true =>
        go_wp2_with fail
        go_quiet (fail)
        go_wp2_with fail
        go_roundw
        case rel => exact ⟨i + 1, by omega, by go_num, (unhide HB).drewN _, hide ((unhide HD) (by simpa using h1))⟩
        case measure => simp [intOf]; omega
      | false =>
        have HF : Hid (decide (l = k) = false) := hide (decide_eq_false ((unhide HD2) (by simpa using h1)))
        go_wp2_with fail
        go_quiet (fail)
        go_wp2_with fail
        go_ret
        exact ⟨by rw [unhide HF]; rfl, (unhide HB).drewN _⟩
    · obtain rfl : i = n := by omega
      have HF : Hid (decide (l = k) = true) := hide (decide_eq_true (by
        have := unhide HE
        rwa [List.take_of_length_le (by rw [unhide HN]; omega), List.take_of_length_le (by rw [unhide HM]; omega)] at this))
      have HB := hide hb
      clear hb
      go_wp2_with fail
      go_ret
      exact ⟨by rw [unhide HF]; rfl, unhide HB⟩
end Go.Proofs.YthekbhliokcpcaaGreat
namespace Go.Proofs.YthekbhliokcpcaaGreat
open Go.RowKit Go.Maps
theorem wrapU {n : Int} (h0 : 0 ≤ n) (h1 : n < 18446744073709551616) : IntKind.u64.wrap n = n := by
  rw [IntKind.wrap_u64]
  omega
theorem E69_cell {W : World} {g off : Nat} {l : List PE} (h : E69.R W g off l) (j : Nat) (hj : j < l.length) : W.cell? ⟨g, off + j * 4, none⟩ = some (.int .u64 l[j].t) ∧ W.cell? ⟨g, off + j * 4 + 1, none⟩ = some (.int .u8 l[j].k) ∧ W.cell? ⟨g, off + j * 4 + 2, none⟩ = some (.string l[j].d) ∧ W.cell? ⟨g, off + j * 4 + 3, none⟩ = some (.slice none 0 0) := by
  have h0 := h j hj 0 _ rfl
  have h1 := h j hj 1 _ rfl
  have h2 := h j hj 2 _ rfl
  have h3 := h j hj 3 _ rfl
  exact ⟨by simpa [E69] using h0, by simpa [E69] using h1, by simpa [E69] using h2, by simpa [E69] using h3⟩
set_option maxRecDepth 100000 in
set_option maxHeartbeats 1000000 in
theorem last_any {W : World} {n : Nat} {s : PP} {x : Px} (h : Sl E69 W x.aL s.log) (hl : s.log.length ≤ 1000000) : Calls Tryz.prog 79 #[.agg (pc n s x)] W fun e w' => e = .returned (.tuple #[.int .u64 s.lastI, .int .u64 s.lastT]) ∧ Bel W w' := by
  obtain ⟨g, off, hg, hR⟩ := h
  unfold pc
  by_cases h0 : s.log.length = 0
  · have e1 : s.lastI = 0 := by unfold PP.lastI; omega
    have e2 : s.lastT = 0 := by unfold PP.lastT; rw [List.eq_nil_of_length_eq_zero h0]; rfl
    rw [h0, e1, e2]
    clear hg hR hl h0 e1 e2
    go_enter Tryz.func79, Tryz.ntmps79
    go_wp2_with fail
    go_quiet (fail)
    go_wp2_with fail
    go_ret2
    exact ⟨rfl, ((Bel.refl W).alloc _).drewN _⟩
  · obtain ⟨k, hk⟩ : ∃ k, s.log.length = k + 1 := ⟨s.log.length - 1, by omega⟩
    have hkl : k < s.log.length := by omega
    have e2 : s.lastT = s.log[k].t := by
      unfold PP.lastT
      rw [List.getLast?_eq_getElem?, hk, Nat.add_sub_cancel, List.getElem?_eq_getElem hkl]
    have r0 := (E69_cell hR k hkl).1
    have ea := hg h0
    rw [show s.lastI = (s.log.length : Int) from rfl, e2, ea]
    generalize s.log[k].t = t at *
    have hw : IntKind.i64.wrap ((s.log.length : Int) - 1) = k := by rw [wrapI (by omega) (by omega)]; omega
    have hw2 : IntKind.u64.wrap (s.log.length : Int) = (s.log.length : Int) := by rw [IntKind.wrap_u64]; omega
    have hz : ((s.log.length : Int) == 0) = false := beq_eq_false_iff_ne.2 (by omega)
    have hlt : (k : Int) < s.log.length := by omega
    generalize s.log.length = m at *
    have r0 := ((Bel.refl W).alloc (.cells #[.int .i64 s.id, .slice x.aM n x.cM, .int .u64 s.term, .int .i64 s.vote, .int .u8 s.role, .int .i64 s.lead, .int .u64 0, .int .u64 0, .slice x.aB n x.cB, .string ⟨#[]⟩, .slice (some ⟨g, off, none⟩) m x.cL, .int .u64 s.commit, .int .i64 s.idle, .int .i64 s.wait, .slice x.aV s.votes.length x.cV, .slice x.aF s.fol.length x.cF, .int .u64 0, .slice x.aR 0 x.cR] 31)).cell r0
    clear hg hR h0 e2 ea hk hkl hl
    go_enter Tryz.func79, Tryz.ntmps79
    go_wp2_with fail
    go_quiet (fail)
    go_wp2_with fail
    go_ret2
    exact ⟨rfl, ((Bel.refl W).alloc _).drewN _⟩
set_option maxRecDepth 100000 in
theorem entry_any (x : PE) (hx : x.k = 0 ∨ (x.k = 1 ∧ x.d = ⟨#[]⟩)) (W : World) : Calls Tryz.prog 187 #[.agg (encE x).toArray] W fun e w' => e = .returned (.bool true) ∧ Bel W w' := by
  unfold encE
  rcases hx with h | ⟨h, h'⟩
  · rw [h]
    go_enter Tryz.func187, Tryz.ntmps187
    go_wp2_with fail
    go_ret
    exact ⟨rfl, (Bel.refl W).alloc _⟩
  · rw [h, h']
    go_enter Tryz.func187, Tryz.ntmps187
    go_wp2_with fail
    go_ret
    exact ⟨rfl, (Bel.refl W).alloc _⟩
end Go.Proofs.YthekbhliokcpcaaGreat
namespace Go.Proofs.YthekbhliokcpcaaGreat
open Go.RowKit Go.Maps
section
variable {ops : Array Oper} {rest : List Oper} {o : Oper} {a : Act} {Q : Exit → Act → World → Prop} {W : World}
theorem bx_box (hgd : o.guard = none) (t : TypeId) (x : Operand) (ho : o.op = .box t x) (cs : Array Value) (hx : a.eval x = .agg cs)
    (hK : ∀ b w', w'.heap[b]? = some (.cells cs t) → W.heap.size = b → Bel W w' → wpList Tryz.prog ops Q rest (a.put o.dst (.pointer (some ⟨b, 0, none⟩))) w') : wpList Tryz.prog ops Q (o :: rest) a W := by
  refine wpList_plain hgd fun K hK' => ?_
  unfold Oper.wp execOp
  simp only [ho, hx]
  simp [go_sem, Instr.box, newVar, Value.cells]
  exact hK' _ _ (hK _ _ (at_new W _) rfl ((Bel.refl W).alloc _))
theorem bx_new (hgd : o.guard = none) (t : TypeId) (ho : o.op = .alloc t) (cs : Array Value) (hz : ∀ w, (zeroValue t).run Tryz.prog w = .ok (.agg cs) w)
    (hK : ∀ b w', w'.heap[b]? = some (.cells cs t) → W.heap.size = b → Bel W w' → wpList Tryz.prog ops Q rest (a.put o.dst (.pointer (some ⟨b, 0, none⟩))) w') : wpList Tryz.prog ops Q (o :: rest) a W := by
  refine wpList_plain hgd fun K hK' => ?_
  unfold Oper.wp execOp
  simp only [ho]
  simp [go_sem, Instr.alloc, newVar, Value.cells, hz]
  exact hK' _ _ (hK _ _ (at_new W _) rfl ((Bel.refl W).alloc _))
theorem bx_ld (hgd : o.guard = none) (t : TypeId) (x : Operand) (ho : o.op = .load t x) (b : Nat) (hx : a.eval x = .pointer (some ⟨b, 0, none⟩)) (cs : Array Value) (fs : Array Field) (hg : W.heap[b]? = some (.cells cs t)) (hu : Tryz.prog.underlying t = some (.struct fs)) (hi : (Tryz.prog.info? t).map (·.size) = some cs.size)
    (h : wpList Tryz.prog ops Q rest (a.put o.dst (.agg cs)) W) : wpList Tryz.prog ops Q (o :: rest) a W := wpList_load_row hgd t x ho b hx t cs (0, 0) _ hg hu rfl hi h
theorem ch_row {W : World} {b : Nat} {c c' : Array Value} {t : TypeId} (h : W.heap[b]? = some (.cells c t)) : (W.setRow b c').heap[b]? = some (.cells c' t) ∧ Ch (fun k => k = b) W (W.setRow b c') := by
  refine ⟨setRow_heap W b c c' t (0, 0) h, rfl, rfl, rfl, ?_, fun k _ hk => ?_⟩
  · simp [World.setRow]
  · simp only [World.setRow]
    rw [Array.getElem?_modify, if_neg (fun e => hk e.symm)]
theorem bx_st (hgd : o.guard = none) (t : TypeId) (x y : Operand) (ho : o.op = .store t x y) (b : Nat) (cs old : Array Value) (hx : a.eval x = .pointer (some ⟨b, 0, none⟩)) (hy : a.eval y = .agg cs) (hg : W.heap[b]? = some (.cells old t)) (hi : (Tryz.prog.info? t).map (·.size) = some cs.size) (hold : old.size = cs.size) (h1 : cs.all (·.oneCell') = true)
    (hK : ∀ w', w'.heap[b]? = some (.cells cs t) → Ch (fun k => k = b) W w' → wpList Tryz.prog ops Q rest (a.put o.dst undef) w') : wpList Tryz.prog ops Q (o :: rest) a W :=
  wpList_store_row hgd t x y ho b cs hx hy t old hg hi hold h1 (hK _ (ch_row hg).1 (ch_row hg).2)
theorem bx_set (hgd : o.guard = none) (t : TypeId) (x y : Operand) (ho : o.op = .store t x y) (b i : Nat) (v : Value) (hx : a.eval x = .pointer (some ⟨b, i, none⟩)) (hy : a.eval y = v) (hv : v.cells = #[v]) (hv1 : v.oneCell' = true) (cs : Array Value) (ty : TypeId) (hg : W.heap[b]? = some (.cells cs ty)) (hi : (Tryz.prog.info? t).map (·.size) = some 1) (hlt : i < cs.size)
    (hK : ∀ w', w'.heap[b]? = some (.cells (cs.setIfInBounds i v) ty) → Ch (fun k => k = b) W w' → wpList Tryz.prog ops Q rest (a.put o.dst undef) w') : wpList Tryz.prog ops Q (o :: rest) a W := by
  refine wpList_plain hgd fun K hK' => ?_
  have hrun := run_storeCells_at (P := Tryz.prog) b i ty [v] 0 cs W hg (by simp; omega) (fun u hu => by simp at hu; rw [hu]; exact hv1)
  have e : (cs.toList.take (i + 0) ++ [v] ++ cs.toList.drop (i + 0 + [v].length)).toArray = cs.setIfInBounds i v := by
    apply Array.ext'
    simp only [Array.toList_setIfInBounds, Nat.add_zero, List.length_cons, List.length_nil, Nat.zero_add]
    rw [List.set_eq_take_append_cons_drop, if_pos (by simpa using hlt)]
    simp
  rw [e] at hrun
  unfold Oper.wp execOp
  cases hq : Tryz.prog.info? t with
  | none => rw [hq] at hi; simp at hi
  | some j =>
    have hs : j.size = 1 := by rw [hq] at hi; simpa using hi
    have hrun2 : (storeVar t ⟨b, i, none⟩ v).run Tryz.prog W = .ok () (W.setRow b (cs.setIfInBounds i v)) := by
      simp [storeVar, sizeOf, typeInfo, hq, hv, hs, hrun]
    simp only [ho, hx, hy, Instr.storeAt, Instr.sureAddr, Sem.run_bind, Sem.run_pure, Result.andThen_ok, hrun2]
    exact hK' _ _ (hK _ (ch_row hg).1 (ch_row hg).2)
end
theorem res1 {fn : Func} {p : Tmp} {t : TypeId} (hr : fn.results = #[.cell p t]) {W : World} {B : Nat} {cs : Array Value} {fs : Array Field} (hu : Tryz.prog.underlying t = some (.struct fs)) (hs : (Tryz.prog.info? t).map (·.size) = some cs.size) (hg : W.heap[B]? = some (.cells cs t)) (tmps : Array Value) (hp : tmps.getD p undef = .pointer (some ⟨B, 0, none⟩)) : (results fn tmps).run Tryz.prog W = .ok (.agg cs) W := by
  have hp' : tmps[p]?.getD undef = .pointer (some ⟨B, 0, none⟩) := by simpa using hp
  simp [results, hr, hp', asAddr, run_loadVar_row W B t t cs (0, 0) _ hg hu rfl hs]
theorem res2 {fn : Func} {p q : Tmp} {t : TypeId} (hr : fn.results = #[.cell p t, .tmp q]) {W : World} {B : Nat} {cs : Array Value} {fs : Array Field} (hu : Tryz.prog.underlying t = some (.struct fs)) (hs : (Tryz.prog.info? t).map (·.size) = some cs.size) (hg : W.heap[B]? = some (.cells cs t)) (tmps : Array Value) (x : Value) (hp : tmps.getD p undef = .pointer (some ⟨B, 0, none⟩)) (hx : tmps.getD q undef = x) : (results fn tmps).run Tryz.prog W = .ok (.tuple #[.agg cs, x]) W := by
  have hp' : tmps[p]?.getD undef = .pointer (some ⟨B, 0, none⟩) := by simpa using hp
  have hx' : tmps[q]?.getD undef = x := by simpa using hx
  simp [results, hr, hp', hx', asAddr, run_loadVar_row W B t t cs (0, 0) _ hg hu rfl hs]
theorem res3 {fn : Func} {p q r : Tmp} {t : TypeId} (hr : fn.results = #[.cell p t, .tmp q, .tmp r]) {W : World} {B : Nat} {cs : Array Value} {fs : Array Field} (hu : Tryz.prog.underlying t = some (.struct fs)) (hs : (Tryz.prog.info? t).map (·.size) = some cs.size) (hg : W.heap[B]? = some (.cells cs t)) (tmps : Array Value) (x y : Value) (hp : tmps.getD p undef = .pointer (some ⟨B, 0, none⟩)) (hx : tmps.getD q undef = x) (hy : tmps.getD r undef = y) : (results fn tmps).run Tryz.prog W = .ok (.tuple #[.agg cs, x, y]) W := by
  have hp' : tmps[p]?.getD undef = .pointer (some ⟨B, 0, none⟩) := by simpa using hp
  have hx' : tmps[q]?.getD undef = x := by simpa using hx
  have hy' : tmps[r]?.getD undef = y := by simpa using hy
  simp [results, hr, hp', hx', hy', asAddr, run_loadVar_row W B t t cs (0, 0) _ hg hu rfl hs]
/-! ### members in boxes -/
theorem bel_off {w w2 w3 : World} {B : Nat} (h : Bel w w2) (hc : Ch (fun i => i = B) w2 w3) (hB : w.heap.size ≤ B) : Bel w w3 := ((h.ch (fun i => w.heap.size ≤ i)).trans hc (fun i hi => by rw [hi]; exact Or.inl hB)).below (Nat.le_refl _) (fun i hi => hi)
theorem pc_size (n : Nat) (s : PP) (x : Px) : (pc n s x).size = 18 := rfl
theorem pc_one (n : Nat) (s : PP) (x : Px) : (pc n s x).all (·.oneCell') = true := by simp [pc, Value.oneCell']
theorem Tryz.size32 (n : Nat) (s : PP) (x : Px) : (Tryz.prog.info? 31).map (·.size) = some (pc n s x).size := by rw [pc_size]; kernel_rfl
/-- Block b holds this member. -/
structure Bx (W : World) (b n : Nat) (s : PP) (x : Px) : Prop where
  c0 : W.cell? ⟨b, 0, none⟩ = some (.int .i64 s.id)
  c1 : W.cell? ⟨b, 1, none⟩ = some (.slice x.aM n x.cM)
  c2 : W.cell? ⟨b, 2, none⟩ = some (.int .u64 s.term)
  c3 : W.cell? ⟨b, 3, none⟩ = some (.int .i64 s.vote)
  c4 : W.cell? ⟨b, 4, none⟩ = some (.int .u8 s.role)
  c5 : W.cell? ⟨b, 5, none⟩ = some (.int .i64 s.lead)
  c6 : W.cell? ⟨b, 6, none⟩ = some (.int .u64 0)
  c7 : W.cell? ⟨b, 7, none⟩ = some (.int .u64 0)
  c8 : W.cell? ⟨b, 8, none⟩ = some (.slice x.aB n x.cB)
  c9 : W.cell? ⟨b, 9, none⟩ = some (.string ⟨#[]⟩)
  c10 : W.cell? ⟨b, 10, none⟩ = some (.slice x.aL s.log.length x.cL)
  c11 : W.cell? ⟨b, 11, none⟩ = some (.int .u64 s.commit)
  c12 : W.cell? ⟨b, 12, none⟩ = some (.int .i64 s.idle)
  c13 : W.cell? ⟨b, 13, none⟩ = some (.int .i64 s.wait)
  c14 : W.cell? ⟨b, 14, none⟩ = some (.slice x.aV s.votes.length x.cV)
  c15 : W.cell? ⟨b, 15, none⟩ = some (.slice x.aF s.fol.length x.cF)
  c16 : W.cell? ⟨b, 16, none⟩ = some (.int .u64 0)
  c17 : W.cell? ⟨b, 17, none⟩ = some (.slice x.aR 0 x.cR)
theorem Bx.of {W : World} {b n : Nat} {s : PP} {x : Px} (h : W.heap[b]? = some (.cells (pc n s x) 31)) : Bx W b n s x :=
  ⟨(cell_of h).trans rfl, (cell_of h).trans rfl, (cell_of h).trans rfl, (cell_of h).trans rfl, (cell_of h).trans rfl, (cell_of h).trans rfl, (cell_of h).trans rfl, (cell_of h).trans rfl, (cell_of h).trans rfl, (cell_of h).trans rfl, (cell_of h).trans rfl, (cell_of h).trans rfl, (cell_of h).trans rfl, (cell_of h).trans rfl, (cell_of h).trans rfl, (cell_of h).trans rfl, (cell_of h).trans rfl, (cell_of h).trans rfl⟩
end Go.Proofs.YthekbhliokcpcaaGreat
