/- The terms of a text, plain: what is gathered, and that a term's terms are itself; two rising lists of the same members are one. Rising, plain: what is put in its place, and what is moved up. Rows of texts while the document's Rising puts a text in its place. What the document's Rising returns: the texts, rising, each once. -/
import Derived.Test.YtgghcfmpfneehaaGreatDoorOwn
import Derived.Sort.Walk0
import Derived.Lib.SlicesCompact
import Derived.Test.YtgghcfmpfneehaaGreatDoorValA
import Derived.Test.YtgghcfmpfneehaaGreatDoorClaB
import Derived.Laws.OwnMore
import Derived.Deep.AppendLies
import Derived.Deep.RegionLaw
import Derived.Lib.OwnBridge
import Derived.Deep.RegionHeld3
import Derived.BigQuiet
import Derived.Deep.QuietTactic
namespace Go.Proofs.YtgghcfmpfneehaaGreatDoor
open Go.RowKit
def sm (c : UInt8) : UInt8 := if 65 ≤ c.toNat ∧ c.toNat ≤ 90 then c + 32 else c
def inT (c : UInt8) : Bool := decide ((97 ≤ c.toNat ∧ c.toNat ≤ 122) ∨ (48 ≤ c.toNat ∧ c.toNat ≤ 57) ∨ 127 < c.toNat)
def flush (L : List (List UInt8)) (R : List UInt8) : List (List UInt8) := if R = [] then L else L ++ [R.take 64]
def gat : List UInt8 → List (List UInt8) → List UInt8 → List (List UInt8)
  | [], L, R => flush L R
  | c :: s, L, R => if inT (sm c) then gat s L (R ++ [sm c]) else gat s (flush L R) []
theorem sm_nat (c : UInt8) : (sm c).toNat = if 65 ≤ c.toNat ∧ c.toNat ≤ 90 then c.toNat + 32 else c.toNat := by
  unfold sm
  split
  · rename_i h
    rw [UInt8.toNat_add]
    show (c.toNat + 32) % 256 = _
    omega
  · rfl
theorem sm_sm (c : UInt8) : sm (sm c) = sm c := by
  apply UInt8.toNat_inj.1
  rw [sm_nat (sm c), sm_nat c]
  repeat' split
  all_goals omega
/-- A term: 1 to 64 bytes that may stand in one. -/
def isTm (t : List UInt8) : Prop := t ≠ [] ∧ t.length ≤ 64 ∧ ∀ c ∈ t, inT c = true ∧ sm c = c
theorem flush_tm {L : List (List UInt8)} {R : List UInt8} (hL : ∀ t ∈ L, isTm t) (hR : ∀ c ∈ R, inT c = true ∧ sm c = c) : ∀ t ∈ flush L R, isTm t := by
  unfold flush
  split
  · exact hL
  · rename_i h
    intro t ht
    rcases List.mem_append.1 ht with h1 | h1
    · exact hL t h1
    · rw [List.mem_singleton.1 h1]
      refine ⟨?_, by rw [List.length_take]; omega, fun c hc => hR c (List.mem_of_mem_take hc)⟩
      cases R with
      | nil => exact absurd rfl h
      | cons a r => simp
theorem gat_tm : ∀ (s : List UInt8) (L : List (List UInt8)) (R : List UInt8), (∀ t ∈ L, isTm t) → (∀ c ∈ R, inT c = true ∧ sm c = c) → ∀ t ∈ gat s L R, isTm t
  | [], L, R, hL, hR => flush_tm hL hR
  | c :: s, L, R, hL, hR => by
    unfold gat
    split
    · rename_i h
      refine gat_tm s L (R ++ [sm c]) hL (fun d hd => ?_)
      rcases List.mem_append.1 hd with h1 | h1
      · exact hR d h1
      · rw [List.mem_singleton.1 h1]; exact ⟨h, sm_sm c⟩
    · exact gat_tm s _ [] (flush_tm hL hR) (by simp)
theorem gat_one : ∀ (t R : List UInt8), (∀ c ∈ t, inT c = true ∧ sm c = c) → gat t [] R = flush [] (R ++ t)
  | [], R, _ => by simp [gat]
  | c :: s, R, h => by
    have hc := h c (by simp)
    rw [gat, hc.2, if_pos hc.1, gat_one s (R ++ [c]) (fun d hd => h d (by simp [hd]))]
    simp
/-- A term's terms are itself. -/
theorem terms_one {t : List UInt8} (h : isTm t) : gat t [] [] = [t] := by
  rw [gat_one t [] h.2.2, List.nil_append]
  unfold flush
  rw [if_neg h.1, List.take_of_length_le h.2.1]
  rfl
theorem flush_len (L : List (List UInt8)) (R : List UInt8) : (flush L R).length ≤ L.length + 1 := by
  unfold flush
  split <;> simp
/-- Rising, each once. -/
def ris (l : List (List UInt8)) : Prop := l.Pairwise (· < ·)
theorem lt_irr (a : List UInt8) : ¬ a < a := List.lt_irrefl a
theorem ris_ext : ∀ (a b : List (List UInt8)), ris a → ris b → (∀ x, x ∈ a ↔ x ∈ b) → a = b
  | [], [], _, _, _ => rfl
  | [], y :: b, _, _, h => by have := (h y).2 (by simp); simp at this
  | x :: a, [], _, _, h => by have := (h x).1 (by simp); simp at this
  | x :: a, y :: b, ha, hb, h => by
    obtain ⟨ha1, ha2⟩ := List.pairwise_cons.1 ha
    obtain ⟨hb1, hb2⟩ := List.pairwise_cons.1 hb
    have hxy : x = y := by
      rcases List.mem_cons.1 ((h x).1 (by simp)) with h1 | h1
      · exact h1
      · rcases List.mem_cons.1 ((h y).2 (by simp)) with h2 | h2
        · exact h2.symm
        · exact absurd (List.lt_trans (hb1 x h1) (ha1 y h2)) (lt_irr y)
    subst hxy
    rw [ris_ext a b ha2 hb2 (fun z => ⟨fun hz => ?_, fun hz => ?_⟩)]
    · rcases List.mem_cons.1 ((h z).1 (List.mem_cons_of_mem _ hz)) with h1 | h1
      · rw [h1] at hz; exact absurd (ha1 x hz) (lt_irr x)
      · exact h1
    · rcases List.mem_cons.1 ((h z).2 (List.mem_cons_of_mem _ hz)) with h1 | h1
      · rw [h1] at hz; exact absurd (hb1 x hz) (lt_irr x)
      · exact h1
/-- Of a list that does not fall, made compact: rising, of the same members. -/
theorem compactUpTo_ris (d : Array (List UInt8)) (hd : ∀ i j, i ≤ j → j < d.size → d[i]! ≤ d[j]!) : ∀ m, m ≤ d.size →
    ris (Lib.compactUpTo d m) ∧ (∀ x, x ∈ Lib.compactUpTo d m ↔ ∃ j, j < m ∧ d[j]! = x)
  | 0, _ => by simp [Lib.compactUpTo, ris]
  | m + 1, hm => by
    obtain ⟨h1, h2⟩ := compactUpTo_ris d hd m (by omega)
    rw [Lib.compactUpTo_succ]
    cases hk : Lib.keeps d m with
    | true =>
      simp only [if_true]
      refine ⟨List.pairwise_append.2 ⟨h1, by simp, fun a ha b hb => ?_⟩, fun x => ?_⟩
      · rw [List.mem_singleton.1 hb]
        obtain ⟨j, hj, rfl⟩ := (h2 a).1 ha
        have hne : d[m]! ≠ d[m - 1]! := by
          have := of_decide_eq_true hk
          rcases this with h | h
          · omega
          · exact h
        have h3 := hd j (m - 1) (by omega) (by omega)
        have h4 := hd (m - 1) m (by omega) (by omega)
        refine List.lt_of_le_of_lt h3 ?_
        rcases List.le_iff_lt_or_eq.1 h4 with h5 | h5
        · exact h5
        · exact absurd h5.symm hne
      · rw [List.mem_append, h2, List.mem_singleton]
        constructor
        · rintro (⟨j, hj, e⟩ | e)
          · exact ⟨j, by omega, e⟩
          · exact ⟨m, by omega, e.symm⟩
        · rintro ⟨j, hj, e⟩
          by_cases hjm : j = m
          · right; rw [← e, hjm]
          · left; exact ⟨j, by omega, e⟩
    | false =>
      rw [if_neg (by simp), List.append_nil]
      refine ⟨h1, fun x => ?_⟩
      have hk' : ¬ (m = 0 ∨ d[m]! ≠ d[m - 1]!) := of_decide_eq_false hk
      have hm0 : m ≠ 0 := fun h => hk' (Or.inl h)
      have he : d[m]! = d[m - 1]! := Classical.byContradiction fun h => hk' (Or.inr h)
      rw [h2]
      constructor
      · rintro ⟨j, hj, e⟩
        exact ⟨j, by omega, e⟩
      · rintro ⟨j, hj, e⟩
        by_cases hjm : j = m
        · exact ⟨m - 1, by omega, by rw [← he, ← hjm]; exact e⟩
        · exact ⟨j, by omega, e⟩
theorem sorted_ris (l : List (List UInt8)) : ris (Lib.compact (l.mergeSort fun x y => decide (x ≤ y))) ∧ ∀ x, x ∈ Lib.compact (l.mergeSort fun x y => decide (x ≤ y)) ↔ x ∈ l := by
  have hs : (l.mergeSort fun x y => decide (x ≤ y)).Pairwise (fun a b => decide (a ≤ b) = true) := List.pairwise_mergeSort (fun a b c h1 h2 => by
      simp only [decide_eq_true_eq] at *
      exact List.le_trans h1 h2) (fun a b => by
      simp only [Bool.or_eq_true, decide_eq_true_eq]
      exact List.le_total a b) l
  have hp : (l.mergeSort fun x y => decide (x ≤ y)).Perm l := List.mergeSort_perm l _
  generalize l.mergeSort (fun x y => decide (x ≤ y)) = z at *
  have h := compactUpTo_ris z.toArray (fun i j hij hj => by
    have hj' : j < z.length := by simpa using hj
    rw [getElem!_pos _ i (by simp; omega), getElem!_pos _ j hj]
    by_cases he : i = j
    · subst he; exact List.le_refl _
    · have := List.pairwise_iff_getElem.1 hs i j (by omega) hj' (by omega)
      simpa using this) z.length (by simp)
  refine ⟨h.1, fun x => (h.2 x).trans ⟨?_, fun hx => ?_⟩⟩
  · rintro ⟨j, hj, rfl⟩
    rw [getElem!_pos _ j (by simpa using hj)]
    exact hp.mem_iff.1 (by simp)
  · obtain ⟨j, hj, e⟩ := List.mem_iff_getElem.1 (hp.mem_iff.2 hx)
    exact ⟨j, hj, by rw [getElem!_pos _ j (by simpa using hj)]; simpa using e⟩
end Go.Proofs.YtgghcfmpfneehaaGreatDoor
namespace Go.Proofs.YtgghcfmpfneehaaGreatDoor
open Go.RowKit
/-- A row of texts as it is read. -/
def RS (W : World) (v : Value) (l : List (List UInt8)) : Prop := ∃ a cap, v = .slice a l.length cap ∧ l.length ≤ cap ∧ (l ≠ [] → ∃ g, a = some ⟨g, 0, none⟩ ∧ g < W.heap.size ∧ ∀ j (hj : j < l.length), W.cell? ⟨g, j, none⟩ = some (.string ⟨l[j].toArray⟩))
/-- The texts, rising, each once, are returned. -/
def trmR (t : List (List UInt8)) (w : World) (e : Ending) (w' : World) : Prop := ∃ v l, e = .returned v ∧ RS w' v l ∧ Bel w w' ∧ ris l ∧ ∀ x, x ∈ l ↔ x ∈ t
theorem rs_of {B : Nat} {W : World} {v : Value} {l : List (List UInt8)} (h : W.ownsRow B 9 1 v l.length (l.map encStr)) : RS W v l := by
  rcases h.2 with ⟨rfl, h0⟩ | ⟨g, cap, cur, rfl, _, hg, hn, _⟩
  · obtain rfl : l = [] := List.length_eq_zero_iff.1 h0
    exact ⟨none, 0, rfl, Nat.le_refl _, fun h => absurd rfl h⟩
  · refine ⟨some ⟨g, 0, none⟩, cap, rfl, hn, fun _ => ⟨g, rfl, (Array.getElem?_eq_some_iff.1 hg).1, fun j hj => ?_⟩⟩
    rw [h.cellAt j (by omega)]
    simp [hj, encStr]
theorem RS.next {W W' : World} {v : Value} {l : List (List UInt8)} (h : RS W v l) (hb : Bel W W') : RS W' v l := by
  obtain ⟨a, cap, hv, hc, hn⟩ := h
  refine ⟨a, cap, hv, hc, fun h0 => ?_⟩
  obtain ⟨g, ha, hg, hj⟩ := hn h0
  exact ⟨g, ha, Nat.lt_of_lt_of_le hg hb.size, fun j h => hb.cell (hj j h)⟩
theorem ris_put {out : List (List UInt8)} {x : List UInt8} {k : Nat} (hk : k ≤ out.length) (hr : ris out) (h1 : ∀ j (hj : j < out.length), k ≤ j → x < out[j]) (h0 : ∀ j (hj : j < out.length), j < k → out[j] < x) : ris (out.take k ++ x :: out.drop k) := by
  refine List.pairwise_append.2 ⟨List.Pairwise.sublist (List.take_sublist _ _) hr, List.pairwise_cons.2 ⟨fun y hy => ?_, List.Pairwise.sublist (List.drop_sublist _ _) hr⟩, fun a ha b hb => ?_⟩
  · obtain ⟨j, hj, e⟩ := List.mem_iff_getElem.1 hy
    rw [List.getElem_drop] at e
    rw [← e]
    exact h1 _ _ (by omega)
  · obtain ⟨i, hi, e⟩ := List.mem_iff_getElem.1 ha
    rw [List.getElem_take] at e
    have hi' : i < k := by rw [List.length_take] at hi; omega
    have hil : i < out.length := by omega
    rcases List.mem_cons.1 hb with rfl | hb
    · rw [← e]; exact h0 i hil hi'
    · obtain ⟨j, hj, e2⟩ := List.mem_iff_getElem.1 hb
      rw [List.getElem_drop] at e2
      rw [← e, ← e2]
      exact List.pairwise_iff_getElem.1 hr i (k + j) hil (by rw [List.length_drop] at hj; omega) (by omega)
theorem mem_put {out : List (List UInt8)} {x : List UInt8} {k : Nat} (y : List UInt8) : y ∈ out.take k ++ x :: out.drop k ↔ y ∈ out ∨ y = x := by
  have h : y ∈ out ↔ y ∈ out.take k ∨ y ∈ out.drop k := by rw [← List.mem_append, List.take_append_drop]
  rw [List.mem_append, List.mem_cons, h]
  constructor
  · rintro (h | h | h)
    · exact Or.inl (Or.inl h)
    · exact Or.inr h
    · exact Or.inl (Or.inr h)
  · rintro ((h | h) | h)
    · exact Or.inl h
    · exact Or.inr (Or.inr h)
    · exact Or.inr (Or.inl h)
/-- The row while its end is moved up. -/
def shf (out : List (List UInt8)) (j : Nat) : List (List UInt8) := (out ++ [[]]).take (j + 1) ++ out.drop j
theorem shf_len {out : List (List UInt8)} {j : Nat} (hj : j ≤ out.length) : (shf out j).length = out.length + 1 := by
  unfold shf; simp; omega
theorem shf_start (out : List (List UInt8)) : shf out out.length = out ++ [[]] := by
  unfold shf; simp [List.take_of_length_le]
theorem shf_at {out : List (List UInt8)} {j : Nat} (hj : j < out.length) : (shf out (j + 1))[j]? = some out[j] := by
  unfold shf
  rw [List.getElem?_append_left (by simp; omega), List.getElem?_take_of_lt (by omega), List.getElem?_append_left hj]
  exact List.getElem?_eq_getElem hj
theorem shf_step {out : List (List UInt8)} {j : Nat} (hj : j < out.length) : (shf out (j + 1)).set (j + 1) out[j] = shf out j := by
  unfold shf
  rw [List.set_append_left _ _ (by simp; omega)]
  have e1 : ((out ++ [[]]).take (j + 1 + 1)).set (j + 1) out[j] = (out ++ [[]]).take (j + 1) ++ [out[j]] := by
    apply List.ext_getElem?
    intro i
    have hm : ((out ++ [[]]).take (j + 1)).length = j + 1 := by simp; omega
    rw [List.getElem?_set, List.getElem?_append, hm]
    by_cases h1 : j + 1 = i
    · subst h1
      rw [if_pos rfl, if_pos (by simp; omega), if_neg (by omega)]
      simp
    · rw [if_neg h1]
      by_cases h2 : i < j + 1
      · rw [if_pos h2, List.getElem?_take_of_lt (by omega), List.getElem?_take_of_lt h2]
      · rw [if_neg h2, List.getElem?_eq_none (by simp; omega), List.getElem?_eq_none (by simp; omega)]
  rw [e1, List.append_assoc]
  congr 1
  rw [List.drop_eq_getElem_cons hj]
  rfl
theorem shf_end {out : List (List UInt8)} {k : Nat} (hk : k ≤ out.length) (x : List UInt8) : (shf out k).set k x = out.take k ++ x :: out.drop k := by
  unfold shf
  rw [List.set_append_left _ _ (by simp; omega)]
  have e1 : ((out ++ [[]]).take (k + 1)).set k x = out.take k ++ [x] := by
    apply List.ext_getElem?
    intro i
    have hm : (out.take k).length = k := by simp; omega
    rw [List.getElem?_set, List.getElem?_append, hm]
    by_cases h1 : k = i
    · subst h1
      rw [if_pos rfl, if_pos (by simp; omega), if_neg (by omega)]
      simp
    · rw [if_neg h1]
      by_cases h2 : i < k
      · rw [if_pos h2, List.getElem?_take_of_lt (by omega), List.getElem?_take_of_lt h2, List.getElem?_append_left (by omega)]
      · rw [if_neg h2, List.getElem?_eq_none (by simp; omega), List.getElem?_eq_none (by simp; omega)]
  rw [e1, List.append_assoc]
  rfl
end Go.Proofs.YtgghcfmpfneehaaGreatDoor
namespace Go.Proofs.YtgghcfmpfneehaaGreatDoor
open Go.RowKit
structure RO (w W : World) (vo : Value) (out : List (List UInt8)) : Prop where
  own : W.ownsRow w.heap.size 9 1 vo out.length (out.map encStr)
  bel : Bel w W
theorem RO.next {w W W' : World} {vo : Value} {out : List (List UInt8)} (h : RO w W vo out) (hb : W' = W.drew) : RO w W' vo out := by
  subst hb; exact ⟨h.own.drew, Below.drew h.bel⟩
theorem str_lt {x y : List UInt8} (h : x < y) : Op.bytesLess x y = true := by rw [bytesLess_eq]; simpa using h
theorem str_nlt {x y : List UInt8} (h : ¬ x < y) : Op.bytesLess x y = false := by rw [bytesLess_eq]; simpa using h
theorem str_eq {x y : List UInt8} (h : x = y) : (x == y) = true := by subst h; simp
theorem str_ne {x y : List UInt8} (h : x ≠ y) : (x == y) = false := by simpa using h
theorem RO.drewN {w W : World} {vo : Value} {out : List (List UInt8)} (h : RO w W vo out) (q : Nat) : RO w (W.drewN q) vo out := ⟨h.own, ⟨h.bel.os, h.bel.tape, h.bel.output, h.bel.size, h.bel.block⟩⟩
/-- A row of N texts, in its place. -/
structure RO2 (w W : World) (g N co : Nat) (xs : List (List UInt8)) : Prop where
  own : W.ownsRow w.heap.size 9 1 (.slice (some ⟨g, 0, none⟩) N co) N (xs.map encStr)
  bel : Bel w W
  le : N ≤ co
theorem ro_push {ops : Array Oper} {rest : List Oper} {o : Oper} {a : Act} {Q : Exit → Act → World → Prop} {w W : World} {vo : Value} {out : List (List UInt8)} (h : RO w W vo out) (hb : out.length + 1 ≤ 1048577)
    (hgd : o.guard = none) (s x : Operand) (ho : o.op = .call { callee := .builtin .append, args := #[s, x], argTypes := #[43, 43] }) (hs : a.eval s = vo) (hx : a.eval x = .slice (some ⟨W.heap.size, 0, none⟩) 1 1)
    (hK : ∀ g cap w', RO2 w w' g (out.length + 1) cap (shf out out.length) → wpList Tryz.prog ops Q rest (a.put o.dst (.slice (some ⟨g, 0, none⟩) (out.length + 1) cap)) w') : wpList Tryz.prog ops Q (o :: rest) a (W.alloc (.cells #[.string ⟨#[]⟩] 9)) := by
  obtain ⟨i0, hi, hz0, hz1, hz2⟩ := Tryz.i9
  have hBW : w.heap.size ≤ W.heap.size := h.bel.size
  refine wpList_append_lies (P := Tryz.prog) _ hgd s x 43 ho w.heap.size 9 i0 (.string ⟨#[]⟩) 1 16 Tryz.underlying43 hi hz0 hz1 hz2 rfl (by decide) vo out.length (out.map encStr) hs (h.own.alloc _) ⟨W.heap.size, 0, none⟩ 1 1 [.string ⟨#[]⟩] hx rfl (cells_new W _ 9) (fun u hu => by rw [List.mem_singleton.1 hu]; rfl) (by decide) (by unfold maxLen; omega) (by omega) (Nat.le_trans hBW (by simp)) _ rfl ?_
  intro g cap w' hown hgrow _ _
  refine hK g cap w' ⟨?_, (Below.alloc h.bel hBW _).grown hgrow (Nat.le_trans hBW (by simp)) (fun k hk => (h.own.lt k hk).1), ?_⟩
  · rw [shf_start, List.map_append]
    exact hown
  · rcases hown.2 with ⟨e, _⟩ | ⟨_, _, _, e, _, _, hn, _⟩
    · cases e
    · injection e with _ _ e3; rw [e3]; exact hn
theorem RO2.put {w W : World} {g N co : Nat} {xs : List (List UInt8)} (h : RO2 w W g N co xs) (j : Nat) (x : List UInt8) (ys : List (List UInt8)) (hy : xs.set j x = ys) : RO2 w (W.setCell ⟨g, j, none⟩ (.string ⟨x.toArray⟩)) g N co ys := by
  subst hy
  refine ⟨?_, Below.setCell h.bel (show w.heap.size ≤ g from (h.own.lt g rfl).1) _, h.le⟩
  have h1 := h.own.stored j (.string ⟨x.toArray⟩)
  rw [List.map_set]
  exact h1.1
theorem RO2.cell {w W : World} {g N co : Nat} {xs : List (List UInt8)} (h : RO2 w W g N co xs) {j : Nat} {x : List UInt8} (hj : j < N) (hx : xs[j]? = some x) : W.cell? ⟨g, j, none⟩ = some (.string ⟨x.toArray⟩) := by
  rw [h.own.cellAt j (by omega), List.getElem?_map, hx]
  rfl
theorem lt_of_not {x y : List UInt8} (h : ¬ x < y) (hne : y ≠ x) : y < x := by
  rcases List.le_iff_lt_or_eq.1 (List.not_lt.1 h) with h | h
  · exact h
  · exact absurd h hne
theorem RO2.ro {w W : World} {g N co : Nat} {xs : List (List UInt8)} (h : RO2 w W g N co xs) (hN : N = xs.length) : RO w W (.slice (some ⟨g, 0, none⟩) N co) xs := by
  subst hN; exact ⟨h.own, h.bel⟩
theorem takeT_next {l : List (List UInt8)} {n : Nat} (h : n < l.length) (y : List UInt8) : y ∈ l.take (n + 1) ↔ y ∈ l.take n ∨ y = l[n] := by
  rw [List.take_succ_eq_append_getElem h, List.mem_append, List.mem_singleton]
end Go.Proofs.YtgghcfmpfneehaaGreatDoor
namespace Go.Proofs.YtgghcfmpfneehaaGreatDoor
open Go.RowKit
theorem RO2.has {w W : World} {g N co : Nat} {xs : List (List UInt8)} (h : RO2 w W g N co xs) {j : Nat} (hj : j < N) : ∃ x : List UInt8, W.cell? ⟨g, j, none⟩ = some (.string ⟨x.toArray⟩) := by
  have hl : xs.length = N := by have := h.own.1; simpa using this
  exact ⟨xs[j], h.cell hj (List.getElem?_eq_getElem (by omega))⟩
set_option maxHeartbeats 8000000 in
set_option maxRecDepth 100000 in
theorem rising_any (l : List (List UInt8)) (v : Value) (w : World) (hr : RS w v l) (hl : l.length ≤ 16385) : Calls Tryz.prog 49 #[v] w fun e w' => trmR l w e w' := by
  obtain ⟨a, cap, rfl, hc, hne⟩ := hr
  have HNE := hide hne
  clear hne
  go_enter Tryz.func49, Tryz.ntmps49
  go_wp2_with fail
  go_loopw [3, 4] (fun vo i W => ∃ n : Nat, ∃ out, n ≤ l.length ∧ i = .int .i64 n ∧ RO w W vo out ∧ ris out ∧ (∀ x, x ∈ out ↔ x ∈ l.take n) ∧ out.length ≤ n) (fun _ i _ => l.length - (intOf i).toNat)
  case atStart => exact ⟨0, [], Nat.zero_le _, rfl, ⟨World.ownsRow_nil _ _ _ _, Below.refl _ _⟩, List.Pairwise.nil, by simp, Nat.le_refl _⟩
  case round =>
    obtain ⟨n, out, hn, rfl, hO, hris, hmem, hlen⟩ := hrel
    have HO := hide hO
    have HRS := hide hris
    have HMEM := hide hmem
    obtain ⟨ao, co, hvo, hco, hout⟩ := rs_of hO.own
    subst hvo
    have HOUT := hide hout
    clear hO hris hmem hout
    by_cases hlt : n < l.length
    · obtain ⟨g, rfl, hgl, hcell⟩ := HNE.out (fun e => by rw [e] at hlt; simp at hlt)
      have HX := hide (fun (W : World) (hb : Bel w W) => Bel.cell hb (hcell n hlt))
      clear hcell
      obtain ⟨x, hx⟩ : ∃ x, x = l[n] := ⟨_, rfl⟩
      rw [← hx] at HX
      have HXL := hide hx
      clear hx
      go_wp2_with fail
      go_loopw [5] (fun kv W => ∃ k : Nat, k ≤ out.length ∧ kv = .int .i64 k ∧ RO w W (.slice ao out.length co) out ∧ ∀ j (hj : j < out.length), k ≤ j → x < out[j]) (fun kv _ => (intOf kv).toNat)
      case atStart => exact ⟨out.length, Nat.le_refl _, rfl, HO.out, fun j hj h => absurd hj (by omega)⟩
      case round =>
        clear HO
        obtain ⟨k, hk, rfl, hO, hgt⟩ := hrel
        have HO := hide hO
        have HGT := hide hgt
        have d2 := HX.out _ hO.bel
        clear hgt
        by_cases hk0 : k = 0
        · have z0 : (k : Int) ≤ 0 := by omega
          have z1 : ¬ 0 < k := by omega
          have HLO := hide (show ∀ j (hj : j < out.length), j < k → out[j] < x from fun j hj h => by omega)
          clear hO hk0
          go_wp2_with fail
          go_quiet (fail)
          go_wp2_with fail
          go_quiet (fail)
          go_wp2_with (at_builtin; refine ro_push (HO.out.drewN _) (by omega) rfl _ _ rfl rfl rfl ?_; intro g2 co2 w1 hO1; have HO1 := hide hO1; clear hO1)
          have eL : IntKind.i64.wrap ((out.length : Int) + 1 - 1) = (out.length : Int) := by rw [IntKind.wrap_i64]; omega
          go_wp2_with fail
          go_loopw [6] (fun jv W => ∃ j : Nat, k ≤ j ∧ j ≤ out.length ∧ jv = .int .i64 j ∧ RO2 w W g2 (out.length + 1) co2 (shf out j)) (fun jv _ => (intOf jv).toNat)
          case atStart => exact ⟨out.length, hk, Nat.le_refl _, rfl, HO1.out⟩
          case round =>
            clear HO1 d2
            obtain ⟨j, hj1, hj2, rfl, hO2⟩ := hrel
            have HO2 := hide hO2
            have d3 := HX.out _ hO2.bel
            have d5 := hO2.own.frozenAt
            have d6 := hO2.le
            by_cases hjk : k < j
            · obtain ⟨j', hj'⟩ : ∃ j', j = j' + 1 := ⟨j - 1, by omega⟩
              have hjl : j' < out.length := by omega
              obtain ⟨y2, hy2⟩ : ∃ y2, y2 = out[j'] := ⟨_, rfl⟩
              have d4 : wr.cell? ⟨g2, j', none⟩ = some (.string ⟨y2.toArray⟩) := hO2.cell (by omega) (by rw [hj', hy2]; exact shf_at hjl)
              have d7 := d5 j
              obtain ⟨old, d8⟩ := hO2.has (show j < out.length + 1 by omega)
              have HS := hide (RO2.put hO2 j y2 (shf out j') (by rw [hj', hy2]; exact shf_step hjl))
              have e4 : IntKind.i64.wrap ((j : Int) - 1) = (j' : Int) := by rw [IntKind.wrap_i64]; omega
              have HJ := hide hj'
              clear hO2 hj' hy2 d5
              go_wp2_with fail
              refine ⟨⟨j', by have := HJ.out; omega, by omega, rfl, HS.out⟩, ?_⟩
              have := HJ.out
              simp [intOf]
              omega
            · obtain rfl : k = j := by omega
              have d7 := d5 k
              obtain ⟨old, d8⟩ := hO2.has (show k < out.length + 1 by omega)
              have HS := hide (RO2.put hO2 k x _ (shf_end hk x))
              clear hO2 d5
              go_wp2_with fail
              refine ⟨⟨n + 1, out.take k ++ x :: out.drop k, by omega, by simp, HS.out.ro (by simp; omega), ris_put hk HRS.out HGT.out HLO.out, fun z => by rw [mem_put, takeT_next hlt, HMEM.out z, ← HXL.out], by simp; omega⟩, ?_⟩
              simp [intOf]
              omega
        · obtain ⟨m, hm⟩ : ∃ m, k = m + 1 := ⟨k - 1, by omega⟩
          obtain ⟨go, rfl, _, _⟩ := HOUT.out (fun e => by rw [e] at hk; simp at hk; omega)
          have hml : m < out.length := by omega
          obtain ⟨y, hy⟩ : ∃ y, y = out[m] := ⟨_, rfl⟩
          have d1 : wr.cell? ⟨go, m, none⟩ = some (.string ⟨y.toArray⟩) := by
            rw [hO.own.cellAt m (by omega), hy]
            simp [encStr, hml]
          have e1 : IntKind.i64.wrap ((k : Int) - 1) = (m : Int) := by rw [IntKind.wrap_i64]; omega
          have z0 : 0 < k := by omega
          clear hO HOUT
          by_cases hxy : x < y
          · have b1 := str_nlt (show ¬ y < x from fun h => lt_irr x (List.lt_trans hxy h))
            have b2 := str_ne (show y ≠ x from fun h => lt_irr x (by rw [h] at hxy; exact hxy))
            have HG2 := hide (show ∀ j (hj : j < out.length), m ≤ j → x < out[j] from fun j hj h => by
              by_cases e : j = m
              · subst e; rw [← hy]; exact hxy
              · exact HGT.out j hj (by omega))
            clear hxy hy
            have HM := hide hm
            clear hm hk0
            go_wp2_with fail
            go_quiet (fail)
            go_wp2_with fail
            go_roundw
            case rel => exact ⟨m, by omega, by first | rfl | go_num, HO.out.drewN _, HG2.out⟩
            case measure => have := HM.out; simp [intOf]; omega
          · by_cases hyx : y = x
            · have b1 := str_nlt (show ¬ y < x from fun h => lt_irr x (by rw [hyx] at h; exact h))
              have b2 := str_eq hyx
              have HIN := hide (show x ∈ out by rw [← hyx, hy]; exact List.getElem_mem hml)
              clear hxy hy hyx hm hk0
              go_wp2_with fail
              go_quiet (fail)
              go_wp2_with fail
              go_quiet (fail)
              go_wp2_with fail
              go_roundw
              case rel => exact ⟨n + 1, out, by omega, by go_num, HO.out.drewN _, HRS.out, fun z => by rw [takeT_next hlt, HMEM.out z, ← HXL.out]; constructor <;> (intro h; first | exact Or.inl h | (rcases h with h | h; exact h; rw [h]; exact (HMEM.out x).1 HIN.out)), by omega⟩
              case measure => simp [intOf]; omega
            · have b1 := str_lt (lt_of_not hxy hyx)
              have b2 := str_ne hyx
              have HLO := hide (show ∀ j (hj : j < out.length), j < k → out[j] < x from fun j hj h => by
                by_cases e : j = m
                · subst e; rw [← hy]; exact lt_of_not hxy hyx
                · exact List.lt_trans (List.pairwise_iff_getElem.1 HRS.out j m hj hml (by omega)) (by rw [← hy]; exact lt_of_not hxy hyx))
              have HM := hide hm
              clear hxy hy hyx hm hk0
              go_wp2_with fail
              go_quiet (fail)
              go_wp2_with fail
              go_quiet (fail)
              go_wp2_with (at_builtin; refine ro_push (HO.out.drewN _) (by omega) rfl _ _ rfl rfl rfl ?_; intro g2 co2 w1 hO1; have HO1 := hide hO1; clear hO1)
              have eL : IntKind.i64.wrap ((out.length : Int) + 1 - 1) = (out.length : Int) := by rw [IntKind.wrap_i64]; omega
              go_wp2_with fail
              go_loopw [6] (fun jv W => ∃ j : Nat, k ≤ j ∧ j ≤ out.length ∧ jv = .int .i64 j ∧ RO2 w W g2 (out.length + 1) co2 (shf out j)) (fun jv _ => (intOf jv).toNat)
              case atStart => exact ⟨out.length, hk, Nat.le_refl _, rfl, HO1.out⟩
              case round =>
                clear HO1 d2
                obtain ⟨j, hj1, hj2, rfl, hO2⟩ := hrel
                have HO2 := hide hO2
                have d3 := HX.out _ hO2.bel
                have d5 := hO2.own.frozenAt
                have d6 := hO2.le
                by_cases hjk : k < j
                · obtain ⟨j', hj'⟩ : ∃ j', j = j' + 1 := ⟨j - 1, by omega⟩
                  have hjl : j' < out.length := by omega
                  obtain ⟨y2, hy2⟩ : ∃ y2, y2 = out[j'] := ⟨_, rfl⟩
                  have d4 : wr.cell? ⟨g2, j', none⟩ = some (.string ⟨y2.toArray⟩) := hO2.cell (by omega) (by rw [hj', hy2]; exact shf_at hjl)
                  have d7 := d5 j
                  obtain ⟨old, d8⟩ := hO2.has (show j < out.length + 1 by omega)
                  have HS := hide (RO2.put hO2 j y2 (shf out j') (by rw [hj', hy2]; exact shf_step hjl))
                  have e4 : IntKind.i64.wrap ((j : Int) - 1) = (j' : Int) := by rw [IntKind.wrap_i64]; omega
                  have HJ := hide hj'
                  clear hO2 hj' hy2 d5
                  go_wp2_with fail
                  refine ⟨⟨j', by have := HJ.out; omega, by omega, rfl, HS.out⟩, ?_⟩
                  have := HJ.out
                  simp [intOf]
                  omega
                · obtain rfl : k = j := by omega
                  have d7 := d5 k
                  obtain ⟨old, d8⟩ := hO2.has (show k < out.length + 1 by omega)
                  have HS := hide (RO2.put hO2 k x _ (shf_end hk x))
                  clear hO2 d5
                  go_wp2_with fail
                  refine ⟨⟨n + 1, out.take k ++ x :: out.drop k, by omega, by simp, HS.out.ro (by simp; omega), ris_put hk HRS.out HGT.out HLO.out, fun z => by rw [mem_put, takeT_next hlt, HMEM.out z, ← HXL.out], by simp; omega⟩, ?_⟩
                  simp [intOf]
                  omega
    · go_wp2_with fail
      go_ret
      exact ⟨_, out, rfl, rs_of HO.out.own, HO.out.bel, HRS.out, by rw [List.take_of_length_le (by omega)] at HMEM; exact HMEM.out⟩
end Go.Proofs.YtgghcfmpfneehaaGreatDoor
