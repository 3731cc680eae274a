/- What the document's Terms gathers. -/
import Derived.Test.YtomnajoflcjnfaaDoorTrmD
namespace Go.Proofs.YtomnajoflcjnfaaDoor
open Go.RowKit
/-- The terms and the run of the document's Terms, as they stand. -/
structure DR (B : Nat) (w W : World) (L : List (List UInt8)) (R : List UInt8) (vt vr : Value) : Prop where
  ot : W.ownsRow B 9 1 vt L.length (L.map encStr)
  ob : W.ownsRow B 5 1 vr R.length (R.map vb)
  bel : Below B w W
  base : B ≤ W.heap.size
theorem dr_run {ops : Array Oper} {rest : List Oper} {o : Oper} {a : Act} {Q : Exit → Act → World → Prop} {B : Nat} {w W : World} {L : List (List UInt8)} {R : List UInt8} {vt vr : Value} (h : DR B w W L R vt vr) (c : UInt8) (hb : R.length + 1 ≤ 1048577)
    (hgd : o.guard = none) (s x : Operand) (ho : o.op = .call { callee := .builtin .append, args := #[s, x], argTypes := #[55, 55] }) (hs : a.eval s = vr) (hx : a.eval x = .slice (some ⟨W.heap.size, 0, none⟩) 1 1)
    (hK : ∀ g cap w', DR B w w' L (R ++ [c]) vt (.slice (some ⟨g, 0, none⟩) (R.length + 1) cap) → wpList Tryd.prog ops Q rest (a.put o.dst (.slice (some ⟨g, 0, none⟩) (R.length + 1) cap)) w') : wpList Tryd.prog ops Q (o :: rest) a (W.alloc (.cells #[vb c] 5)) := by
  obtain ⟨i0, hi, hz0, hz1, hz2⟩ := Tryd.i5
  have hBW := h.base
  refine wpList_append_lies (P := Tryd.prog) _ hgd s x 55 ho B 5 i0 (.int .u8 0) 1 1 Tryd.underlying55 hi hz0 hz1 hz2 rfl (by decide) vr R.length (R.map vb) hs (h.ob.alloc _) ⟨W.heap.size, 0, none⟩ 1 1 [vb c] hx rfl (cells_new W _ 5) (fun u hu => by rw [List.mem_singleton.1 hu]; exact vb_one c) (by decide) (by unfold maxLen; omega) (by omega) (Nat.le_trans hBW (by simp)) _ rfl ?_
  intro g cap w' hown hgrow _ _
  refine hK g cap w' ⟨(h.ot.alloc _).kept hgrow (rows_apart h.ot h.ob (by decide)), ?_, (h.bel.alloc hBW _).grown hgrow (Nat.le_trans hBW (by simp)) (fun k hk => (h.ob.lt k hk).1), Nat.le_trans hBW (Nat.le_trans (by simp) hgrow.size)⟩
  rw [List.length_append, List.map_append]
  exact hown
theorem dr_text {ops : Array Oper} {rest : List Oper} {o : Oper} {a : Act} {Q : Exit → Act → World → Prop} {B : Nat} {w W : World} {L : List (List UInt8)} {R : List UInt8} {vt vr : Value} (h : DR B w W L R vt vr) (c : List UInt8) (hb : L.length + 1 ≤ 1048577)
    (hgd : o.guard = none) (s x : Operand) (ho : o.op = .call { callee := .builtin .append, args := #[s, x], argTypes := #[50, 50] }) (hs : a.eval s = vt) (hx : a.eval x = .slice (some ⟨W.heap.size, 0, none⟩) 1 1)
    (hK : ∀ g cap w', DR B w w' (L ++ [c]) [] (.slice (some ⟨g, 0, none⟩) (L.length + 1) cap) (.slice none 0 0) → wpList Tryd.prog ops Q rest (a.put o.dst (.slice (some ⟨g, 0, none⟩) (L.length + 1) cap)) w') : wpList Tryd.prog ops Q (o :: rest) a (W.alloc (.cells #[.string ⟨c.toArray⟩] 9)) := by
  obtain ⟨i0, hi, hz0, hz1, hz2⟩ := Tryd.i9
  have hBW := h.base
  refine wpList_append_lies (P := Tryd.prog) _ hgd s x 50 ho B 9 i0 (.string ⟨#[]⟩) 1 16 Tryd.underlying50 hi hz0 hz1 hz2 rfl (by decide) vt L.length (L.map encStr) hs (h.ot.alloc _) ⟨W.heap.size, 0, none⟩ 1 1 [.string ⟨c.toArray⟩] hx rfl (cells_new W _ 9) (fun u hu => by rw [List.mem_singleton.1 hu]; rfl) (by decide) (by unfold maxLen; omega) (by omega) (Nat.le_trans hBW (by simp)) _ rfl ?_
  intro g cap w' hown hgrow _ _
  refine hK g cap w' ⟨?_, World.ownsRow_nil _ _ _ _, (h.bel.alloc hBW _).grown hgrow (Nat.le_trans hBW (by simp)) (fun k hk => (h.ot.lt k hk).1), Nat.le_trans hBW (Nat.le_trans (by simp) hgrow.size)⟩
  rw [List.length_append, List.map_append]
  exact hown
/-- The bytes at the front of the run, as a text. -/
theorem run_text {B : Nat} {W : World} {g n cap : Nat} {R : List UInt8} (h : W.ownsRow B 5 1 (.slice (some ⟨g, 0, none⟩) n cap) R.length (R.map vb)) (T : List UInt8) (hT : T = R.take 64) : (convert 55 9 (.slice (some ⟨g, 0, none⟩) T.length cap)).run Tryd.prog W = .ok (.string ⟨T.toArray⟩) W := by
  have hn : n = R.length := by
    rcases h.2 with ⟨e, _⟩ | ⟨_, _, _, e, _⟩
    · cases e
    · injection e
  subst hn
  refine run_convert_bytes_back (P := Tryd.prog) W 55 9 5 ⟨g, 0, none⟩ cap T Tryd.underlying55 Tryd.underlying5 Tryd.underlying9 (fun j hj => ?_)
  have hj' : j < R.length := by rw [hT, List.length_take] at hj; omega
  rw [addr_add0, h.cellAt j (by omega)]
  subst hT
  simp [vb, hj']
def DG (w W : World) (s : List UInt8) (k : Nat) (vt vr : Value) : Prop := ∃ L R, DR w.heap.size w W L R vt vr ∧ L.length ≤ k ∧ R.length ≤ k ∧ ((k ≤ s.length ∧ gat (s.drop k) L R = gat s [] []) ∨ (k = s.length + 1 ∧ L = gat s [] []))
theorem DG.start (w : World) (s : List UInt8) : DG w w s 0 (.slice none 0 0) (.slice none 0 0) :=
  ⟨[], [], ⟨World.ownsRow_nil _ _ _ _, World.ownsRow_nil _ _ _ _, Below.refl _ _, Nat.le_refl _⟩, Nat.le_refl _, Nat.le_refl _, Or.inl ⟨Nat.zero_le _, rfl⟩⟩
theorem DR.shape {B : Nat} {w W : World} {L : List (List UInt8)} {R : List UInt8} {vt vr : Value} (h : DR B w W L R vt vr) : (vr = .slice none 0 0 ∧ R = []) ∨ ∃ g cap, vr = .slice (some ⟨g, 0, none⟩) R.length cap ∧ R.length ≤ cap := by
  rcases h.ob.2 with ⟨e, h0⟩ | ⟨g, cap, cur, e, _, _, hn, _⟩
  · exact Or.inl ⟨e, List.length_eq_zero_iff.1 h0⟩
  · exact Or.inr ⟨g, cap, e, hn⟩
theorem flush_nil (L : List (List UInt8)) : flush L [] = L := rfl
theorem flush_some (L : List (List UInt8)) {R : List UInt8} (h : 0 < R.length) : flush L R = L ++ [R.take 64] := by
  rw [flush, if_neg (fun e => by rw [e] at h; simp at h)]
/-- The four shapes of a run that ends. -/
theorem DR.ends {B : Nat} {w W : World} {L : List (List UInt8)} {R : List UInt8} {vt vr : Value} (h : DR B w W L R vt vr) :
    (vr = .slice none 0 0 ∧ DR B w W (flush L R) [] vt (.slice none 0 0)) ∨
    (∃ g cap, vr = .slice (some ⟨g, 0, none⟩) 0 cap ∧ DR B w W (flush L R) [] vt (.slice none 0 0)) ∨
    (∃ g n cap T, vr = .slice (some ⟨g, 0, none⟩) n cap ∧ 0 < n ∧ n ≤ 64 ∧ n ≤ cap ∧ flush L R = L ++ [T] ∧ (convert 55 9 (.slice (some ⟨g, 0, none⟩) n cap)).run Tryd.prog W = .ok (.string ⟨T.toArray⟩) W) ∨
    (∃ g n cap T, vr = .slice (some ⟨g, 0, none⟩) n cap ∧ 64 < n ∧ n ≤ cap ∧ flush L R = L ++ [T] ∧ (convert 55 9 (.slice (some ⟨g, 0, none⟩) 64 cap)).run Tryd.prog W = .ok (.string ⟨T.toArray⟩) W) := by
  rcases h.shape with ⟨rfl, rfl⟩ | ⟨g, cap, rfl, hc⟩
  · exact Or.inl ⟨rfl, h⟩
  · right
    by_cases h0 : R.length = 0
    · obtain rfl : R = [] := List.length_eq_zero_iff.1 h0
      exact Or.inl ⟨g, cap, rfl, h.ot, World.ownsRow_nil _ _ _ _, h.bel, h.base⟩
    · right
      by_cases h64 : R.length ≤ 64
      · have e : R.take 64 = R := List.take_of_length_le h64
        refine Or.inl ⟨g, R.length, cap, R, rfl, by omega, h64, hc, by rw [flush_some L (by omega), e], run_text h.ob R e.symm⟩
      · have hl : (R.take 64).length = 64 := by rw [List.length_take]; omega
        have := run_text h.ob (R.take 64) rfl
        rw [hl] at this
        exact Or.inr ⟨g, R.length, cap, R.take 64, rfl, by omega, hc, flush_some L (by omega), this⟩
theorem sm_cap {c : UInt8} (h : 65 ≤ c.toNat ∧ c.toNat ≤ 90) : IntKind.u8.wrap ((c.toNat : Int) + 32) = ((sm c).toNat : Int) := by
  rw [sm_nat, if_pos h, IntKind.wrap_u8]; omega
theorem inT_yes {c : UInt8} (h : inT c = true) : (97 ≤ (c.toNat : Int) ∧ (c.toNat : Int) ≤ 122) ∨ ((c.toNat : Int) < 97 ∧ 48 ≤ (c.toNat : Int) ∧ (c.toNat : Int) ≤ 57) ∨ (122 < (c.toNat : Int) ∧ 127 < (c.toNat : Int)) := by
  have := of_decide_eq_true h
  omega
theorem inT_no {c : UInt8} (h : inT c = false) : ((c.toNat : Int) < 48) ∨ (57 < (c.toNat : Int) ∧ (c.toNat : Int) < 97) ∨ (122 < (c.toNat : Int) ∧ (c.toNat : Int) ≤ 127) := by
  have := of_decide_eq_false h
  omega
theorem rs_of {B : Nat} {W : World} {v : Value} {l : List (List UInt8)} (h : W.ownsRow B 9 1 v l.length (l.map encStr)) : RS W v l := by
  rcases h.2 with ⟨rfl, h0⟩ | ⟨g, cap, cur, rfl, _, hg, hn, _⟩
  · obtain rfl : l = [] := List.length_eq_zero_iff.1 h0
    exact ⟨none, 0, rfl, Nat.le_refl _, fun h => absurd rfl h⟩
  · refine ⟨some ⟨g, 0, none⟩, cap, rfl, hn, fun _ => ⟨g, rfl, (Array.getElem?_eq_some_iff.1 hg).1, fun j hj => ?_⟩⟩
    rw [h.cellAt j (by omega)]
    simp [hj, encStr]
end Go.Proofs.YtomnajoflcjnfaaDoor
