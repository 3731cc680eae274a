/- MayMsg; a builder; IdBytes, EntryBytes of the program. -/
import Derived.Test.YtgofdkheffoilaaGreatMsx
import Derived.Test.YtgofdkheffoilaaGreatShb
namespace Go.Proofs.YtgofdkheffoilaaGreat
open Go.RowKit Go.Maps
/-- A whole struct is read, at a guard or not. -/
theorem ld_w {ops : Array Oper} {rest : List Oper} {o : Oper} {a : Act} {Q : Exit → Act → World → Prop} {W : World} (t : TypeId) (x : Operand) (ho : o.op = .load t x) (b : Nat) (hx : a.eval x = .pointer (some ⟨b, 0, none⟩)) (hw : Region.wanted o (yielded ops a.tmps) = true) (cs : Array Value) (fs : Array Field) (hg : W.heap[b]? = some (.cells cs t)) (hu : Tryz.prog.underlying t = some (.struct fs)) (hi : (Tryz.prog.info? t).map (·.size) = some cs.size)
    (h : wpList Tryz.prog ops Q rest (a.put o.dst (.agg cs)) W) : wpList Tryz.prog ops Q (o :: rest) a W :=
  wpList_step fun K hK => by
    rw [if_pos hw]
    exact wp_load_row t x ho b hx t cs (0, 0) _ hg hu rfl hi (hK _ _ h)
/-- A message that may be. -/
def mayMB (m : GM) : Bool := headB m && placeB m && listsB m && emptyB (unm m)
set_option maxRecDepth 100000 in
set_option maxHeartbeats 2000000 in
theorem maymsg_any {W : World} {m : GM} {x : GX} (h : Gw W m x) (hl : m.ents.length ≤ 1048576) (hm : m.mem.length ≤ 1048576) (hq : ∀ y ∈ x.ls, y.1.m.length ≤ 1048576) : Calls Tryz.prog 19 #[.agg (mg m x)] W fun e w' => e = .returned (.int .i64 (if mayMB m then 0 else 2)) ∧ Bel W w' := by
  have H1 : Hid (∀ W', Calls Tryz.prog 56 #[.agg (mg m x)] W' fun e w' => e = .returned (.bool (headB m)) ∧ Bel W' w') := hide (fun W' => head_any)
  have H2 : Hid (∀ W', Calls Tryz.prog 57 #[.agg (mg m x)] W' fun e w' => e = .returned (.bool (placeB m)) ∧ Bel W' w') := hide (fun W' => place_any)
  have H3 : Hid (∀ W', Bel W W' → Calls Tryz.prog 58 #[.agg (mg m x)] W' fun e w' => e = .returned (.bool (listsB m)) ∧ Bel W' w') := hide (fun W' hb => lists_any (h.bel hb) hl hm hq)
  have H4 : Hid (∀ W', Calls Tryz.prog 60 #[.agg (mg m x)] W' fun e w' => e = .returned (.agg (mg (unm m) (unx m x))) ∧ Bel W' w') := hide (fun W' => unnamed_any)
  have H5 : Hid (∀ W', Calls Tryz.prog 59 #[.agg (mg (unm m) (unx m x))] W' fun e w' => e = .returned (.bool (emptyB (unm m))) ∧ Bel W' w') := hide (fun W' => empty_any)
  unfold mayMB
  generalize headB m = a1 at *
  generalize placeB m = a2 at *
  generalize listsB m = a3 at *
  generalize emptyB (unm m) = a4 at *
  clear h hl hm hq
  cases a1 <;> cases a2 <;> cases a3 <;> cases a4
  all_goals
    go_enter Tryz.func19, Tryz.ntmps19
    go_wp2_with (first
      | go_skip
      | (refine bx_box rfl 27 _ rfl (mg m x) rfl ?_; intro b w0 hr0 hs0 hb0; have HB := hide (And.intro hr0 hb0); clear hr0 hs0 hb0)
      | (refine ld_w 27 (.tmp 1) (by exact rfl) b (by exact rfl) (by exact rfl) _ _ (unhide HB).1 Tryz.underlying27 (szM _ _) ?_)
      | (go_at_call 56; refine ((unhide H1) _).mono ?_; rintro e w1 ⟨rfl, hb1⟩; replace HB := hide (And.intro (hb1.row (unhide HB).1) ((unhide HB).2.trans hb1)); clear hb1)
      | (go_at_call 57; refine ((unhide H2) _).mono ?_; rintro e w1 ⟨rfl, hb1⟩; replace HB := hide (And.intro (hb1.row (unhide HB).1) ((unhide HB).2.trans hb1)); clear hb1)
      | (go_at_call 58; refine ((unhide H3) _ (unhide HB).2).mono ?_; rintro e w1 ⟨rfl, hb1⟩; replace HB := hide (And.intro (hb1.row (unhide HB).1) ((unhide HB).2.trans hb1)); clear hb1)
      | (go_at_call 60; refine ((unhide H4) _).mono ?_; rintro e w1 ⟨rfl, hb1⟩; replace HB := hide (And.intro (hb1.row (unhide HB).1) ((unhide HB).2.trans hb1)); clear hb1)
      | (go_at_call 59; refine ((unhide H5) _).mono ?_; rintro e w1 ⟨rfl, hb1⟩; replace HB := hide (And.intro (hb1.row (unhide HB).1) ((unhide HB).2.trans hb1)); clear hb1)
      | go_guarded)
    go_ret
    exact ⟨rfl, (unhide HB).2⟩
/-- A builder that the call has made, and its bytes. -/
structure Bd (W w : World) (b : Nat) (l : List UInt8) : Prop where
  is : Lib.IsBuilderF 62 5 W.heap.size b (Lib.byteCells l) w
  bel : Bel W w
theorem bat_bel {T e : TypeId} {B b : Nat} {p : Value} {bs : List Value} {w w' : World} (h : Lib.BuilderAtF T e B b p bs w) (hb : Bel w w') : Lib.BuilderAtF T e B b p bs w' := by
  obtain ⟨h1, v, h2, h3, h4⟩ := h
  refine ⟨h1, v, hb.row h2, ?_, h4⟩
  refine ⟨h3.1, ?_⟩
  rcases h3.2 with h' | ⟨g, cap, cur, fz, rfl, q1, q2, q3⟩
  · exact Or.inl h'
  · exact Or.inr ⟨g, cap, cur, fz, rfl, q1, hb.row q2, q3⟩
theorem Bd.next {W w w' : World} {b : Nat} {l : List UInt8} (h : Bd W w b l) (hb : Bel w w') : Bd W w' b l := ⟨h.is.elim (fun h' => Or.inl (bat_bel h' hb)) (fun h' => Or.inr (bat_bel h' hb)), h.bel.trans hb⟩
theorem Bd.new {W w : World} (hb : Bel W w) : Bd W (w.alloc (.cells #[.pointer none, .slice none 0 0] 62)) w.heap.size [] :=
  ⟨Lib.IsBuilderF.of (Or.inl ⟨hb.size, .slice none 0 0, at_new w _, World.ownsRow_nil _ _ _ _, by simp [Value.ownBlock]⟩), hb.alloc _⟩
theorem below_trans {B : Nat} {a b c : World} (h : Below B a b) (k : Below B b c) : Below B a c := Below.trans h k
/-- What a call upon a builder leaves: rows that are no bytes, and no builder. -/
def Ok5 (b : Nat) (w w' : World) : Prop := Lib.OthersKept 5 (some b) w w'
theorem Ok5.row {b g : Nat} {w w' : World} {c : Array Value} {t : TypeId} (h : Ok5 b w w') (hr : w.heap[g]? = some (.cells c t)) (hg : g ≠ b) (ht : t ≠ 5) : w'.heap[g]? = some (.cells c t) := h g _ hr (fun e => hg (Option.some.inj e)) (fun c2 fz e => by
  injection e with _ e2
  exact ht e2)
theorem Bd.ws {W w : World} {b : Nat} {l : List UInt8} (h : Bd W w b l) (s : ByteArray) (hl : l.length + s.size ≤ 140737488355328) : Calls Tryz.prog 21 #[.pointer (some ⟨b, 0, none⟩), .string s] w fun e w' => e = .returned (.tuple #[.int .i64 s.size, .nilIface]) ∧ Bd W w' b (l ++ s.data.toList) ∧ Ok5 b w w' :=
  (Tryz.Builder_WriteString_k W.heap.size b (Lib.byteCells l) s w h.is (by rw [Lib.byteCells_length]; exact hl) h.bel.size).mono (fun _ _ ⟨he, h1, h2, h3⟩ => ⟨he, ⟨Or.inr (by
    have e1 : Lib.byteCells (l ++ s.data.toList) = Lib.byteCells l ++ Lib.strCells s := by simp [Lib.byteCells, Lib.strCells]
    rw [e1]; exact h1), below_trans h.bel h2⟩, h3⟩)
theorem Bd.wb {W w : World} {b : Nat} {l : List UInt8} (h : Bd W w b l) (c : Nat) (hc : c < 256) (hl : l.length + 1 ≤ 140737488355328) : Calls Tryz.prog 20 #[.pointer (some ⟨b, 0, none⟩), .int .u8 (c : Int)] w fun e w' => e = .returned .nilIface ∧ Bd W w' b (l ++ [UInt8.ofNat c]) ∧ Ok5 b w w' :=
  (Tryz.Builder_WriteByte_k W.heap.size b (Lib.byteCells l) c w h.is (by rw [Lib.byteCells_length]; exact hl) h.bel.size).mono (fun _ _ ⟨he, h1, h2, h3⟩ => ⟨he, ⟨Or.inr (by
    have e1 : Lib.byteCells (l ++ [UInt8.ofNat c]) = Lib.byteCells l ++ [.int .u8 (c : Int)] := by
      simp [Lib.byteCells]
      omega
    rw [e1]; exact h1), below_trans h.bel h2⟩, h3⟩)
theorem Bd.str {W w : World} {b : Nat} {l : List UInt8} (h : Bd W w b l) : Calls Tryz.prog 26 #[.pointer (some ⟨b, 0, none⟩)] w fun e w' => e = .returned (.string ⟨l.toArray⟩) ∧ Bel W w' :=
  (Tryz.Builder_String_any_k W.heap.size b l w h.is h.bel.size).mono (fun _ _ ⟨he, _, h2, _⟩ => ⟨he, below_trans h.bel h2⟩)
/-- Numbers of members as bytes. -/
def idb (l : List Int) : List UInt8 := num l.length ++ l.flatMap (fun x => num x.toNat)
theorem idb_len (l : List Int) (h : ∀ x ∈ l, 0 ≤ x ∧ x < 9223372036854775808) (hl : l.length < 1000000000) : (idb l).length ≤ 9 + 9 * l.length := by
  have h1 : ∀ k : List Int, (∀ x ∈ k, 0 ≤ x ∧ x < 9223372036854775808) → (k.flatMap (fun x => num x.toNat)).length ≤ 9 * k.length := by
    intro k
    induction k with
    | nil => intro _; simp
    | cons x k ih =>
      intro hk
      have h2 := ih (fun y hy => hk y (List.mem_cons_of_mem _ hy))
      have h3 := num_len x.toNat (by have := hk x List.mem_cons_self; omega)
      simp only [List.flatMap_cons, List.length_append, List.length_cons]
      omega
  have h4 := num_len l.length (by omega)
  unfold idb
  rw [List.length_append]
  have := h1 l h
  omega
set_option maxRecDepth 100000 in
set_option maxHeartbeats 1000000 in
theorem idBytes_any {W : World} {a : Option Addr} {l : List Int} (h : Sl E3 W a l) (cap : Nat) (hx : ∀ x ∈ l, 0 ≤ x ∧ x < 9223372036854775808) (hl : l.length ≤ 1048576) : Calls Tryz.prog 24 #[.slice a l.length cap] W fun e w' => e = .returned (.string ⟨(idb l).toArray⟩) ∧ Bel W w' := by
  obtain ⟨g, off, hg, hR⟩ := h
  have HN := hide (fun (k : Nat) (hk : Hid (k < 2 ^ 64)) W' => num_any k hk W')
  have HNL : Hid (∀ k : Nat, k < 2 ^ 64 → (num k).length ≤ 9) := hide (fun k hk => num_len k hk)
  have HX := hide hx
  generalize hn : l.length = n at *
  have HLN := hide hn
  have HG := hide hg
  have HR := hide hR
  have hwn : IntKind.u64.wrap (n : Int) = (n : Int) := by rw [IntKind.wrap_u64]; omega
  have HNn : Hid (n < 2 ^ 64) := hide (by omega)
  clear hg hR hx hn
  go_enter Tryz.func24, Tryz.ntmps24
  go_wp2_with (first
    | (go_at_call 22; refine ((unhide HN) _ (by assumption) _).mono ?_; rintro e w1 ⟨rfl, hb1⟩; have HB : Hid (Bd W w1 W.heap.size []) := hide ((Bd.new (Bel.refl W)).next hb1); clear hb1)
    | (go_at_call 21; refine ((unhide HB).ws _ (by have := (unhide HNL) n (unhide HNn); simp [ByteArray.size]; omega)).mono ?_; rintro e w2 ⟨rfl, hb2, _⟩; replace HB : Hid (Bd W w2 W.heap.size (num n)) := hide (by simpa using hb2); clear hb2))
  go_loopw [13] (fun vk wr => ∃ k : Nat, k ≤ n ∧ vk = .int .i64 k ∧ Hid (Bd W wr W.heap.size (num n ++ (l.take k).flatMap (fun x => num x.toNat)))) (fun vk _ => n - (intOf vk).toNat)
  case atStart => exact ⟨0, Nat.zero_le _, rfl, hide (by simpa using unhide HB)⟩
  case round =>
    obtain ⟨k, hk, rfl, HK⟩ := hrel
    by_cases hlt : k < n
    · have hkl : k < l.length := by rw [unhide HLN]; exact hlt
      obtain rfl := (unhide HG) (by omega)
      have hkn : (k : Int) < n := by omega
      have r0 := (unhide HK).bel.cell (E3_cell (unhide HR) k hkl)
      have hxk := (unhide HX) _ (List.getElem_mem hkl)
      have HLen : Hid ((num n ++ (l.take k).flatMap (fun x => num x.toNat)).length ≤ 9 + 9 * n) := hide (by
        have h1 := idb_len (l.take k) (fun x hx => (unhide HX) x (List.mem_of_mem_take hx)) (by rw [List.length_take]; omega)
        have h2 := (unhide HNL) n (unhide HNn)
        unfold idb at h1
        rw [List.length_append] at h1 ⊢
        rw [List.length_take] at h1
        have : 1 ≤ (num (l.take k).length).length := by unfold num; simp
        have h3 : ((l.take k).flatMap (fun x => num x.toNat)).length ≤ 9 * n := by
          have h4 : ∀ q : List Int, (∀ x ∈ q, 0 ≤ x ∧ x < 9223372036854775808) → (q.flatMap (fun x => num x.toNat)).length ≤ 9 * q.length := by
            intro q
            induction q with
            | nil => intro _; simp
            | cons x q ih =>
              intro hq
              have h5 := ih (fun y hy => hq y (List.mem_cons_of_mem _ hy))
              have h6 := num_len x.toNat (by have := hq x List.mem_cons_self; omega)
              simp only [List.flatMap_cons, List.length_append, List.length_cons]
              omega
          have := h4 (l.take k) (fun x hx => (unhide HX) x (List.mem_of_mem_take hx))
          rw [List.length_take] at this
          omega
        omega)
      have HT : Hid (l.take (k + 1) = l.take k ++ [l[k]]) := hide (by rw [List.take_add_one, List.getElem?_eq_getElem hkl]; rfl)
      generalize l[k] = y at *
      obtain ⟨z, rfl⟩ : ∃ z : Nat, y = (z : Int) := ⟨y.toNat, by omega⟩
      have hwz : IntKind.u64.wrap (z : Int) = (z : Int) := by rw [IntKind.wrap_u64]; omega
      have HZz : Hid (z < 2 ^ 64) := hide (by omega)
      clear hxk
      go_wp2_with (first
        | (go_at_call 22; refine ((unhide HN) _ (by assumption) _).mono ?_; rintro e w1 ⟨rfl, hb1⟩; replace HK := hide ((unhide HK).next hb1); clear hb1)
        | (go_at_call 21; refine ((unhide HK).ws _ (by have := (unhide HNL) z (unhide HZz); have := unhide HLen; simp [ByteArray.size] at *; omega)).mono ?_; rintro e w2 ⟨rfl, hb2, _⟩; replace HK := hide hb2; clear hb2))
      go_roundw
      case rel => exact ⟨k + 1, by omega, by go_num, hide (by rw [unhide HT, List.flatMap_append, ← List.append_assoc]; simpa using unhide HK)⟩
      case measure => simp [intOf]; omega
    · obtain rfl : k = n := by omega
      have HI : Hid (idb l = num k ++ (l.take k).flatMap (fun x => num x.toNat)) := hide (by unfold idb; rw [unhide HLN, List.take_of_length_le (by rw [unhide HLN]; omega)])
      go_wp2_with (first
        | (go_at_call 26; refine (unhide HK).str.mono ?_; rintro e w3 ⟨rfl, hb3⟩; have HE := hide hb3; clear hb3))
      go_ret
      exact ⟨by rw [unhide HI]; rfl, unhide HE⟩
end Go.Proofs.YtgofdkheffoilaaGreat
