/- alive. -/
import Derived.Test.YtkpallbnmckbaaaGet
namespace Go.Proofs.Ytkpallbnmckbaaa
open Go.RowKit
def cA : C := (⟨#[107]⟩, 5, false, ⟨#[97]⟩)
def cB : C := (⟨#[107]⟩, 3, false, ⟨#[98]⟩)
def cX : C := (⟨#[]⟩, 1, false, ⟨#[]⟩)
theorem putA_ab : putA [cA, cB] = (2, 0) := by decide +kernel
theorem putL_ab : putL [] [cA, cB] = [cA, cB] := by decide +kernel
theorem putA_x : putA [cX] = (0, 2) := by decide +kernel
theorem putL_x (l : List C) : putL l [cX] = l := by
  have : bad [cX] = some (0, 2) := by decide +kernel
  unfold putL; rw [this]
theorem getP_ab : getP [cA, cB] ⟨#[107]⟩ 4 = some cB := by decide +kernel
theorem Ch.cs_new {w w' : World} {p : Nat} (h : Ch (fun i => i = p) w w') (hp : w.heap.size ≤ p) : Bel w w' := h.below (Nat.le_refl _) (fun i hi => by rw [hi]; exact hp)
theorem Ch.after {w W w' : World} {p : Nat} (h : Ch (fun i => i = p) W w') (hb : Bel w W) (hp : w.heap.size ≤ p) : Bel w w' := ((hb.ch (fun i => i = p)).trans h (fun _ hi => Or.inl hi)).cs_new hp
theorem at_new2 (w : World) (o o' : Obj) : ((w.alloc o).alloc o').heap[w.heap.size + 1]? = some o' := by
  have := at_new (w.alloc o) o'
  rw [show (w.alloc o).heap.size = w.heap.size + 1 by simp] at this
  exact this
theorem Row.two {W : World} {B : Nat} {x y : C} (h : W.heap[B]? = some (.cells #[.string x.k, .int .u64 x.t, .bool x.d, .string x.v, .string y.k, .int .u64 y.t, .bool y.d, .string y.v] 38)) : Row W B 0 [x, y] := by
  intro j hj
  rcases j with _ | _ | j
  · exact ⟨cell_of h, cell_of h, cell_of h, cell_of h⟩
  · exact ⟨cell_of h, cell_of h, cell_of h, cell_of h⟩
  · simp at hj; omega
theorem Row.one {W : World} {B : Nat} {x : C} (h : W.heap[B]? = some (.cells #[.string x.k, .int .u64 x.t, .bool x.d, .string x.v] 38)) : Row W B 0 [x] := by
  intro j hj
  rcases j with _ | j
  · exact ⟨cell_of h, cell_of h, cell_of h, cell_of h⟩
  · simp at hj
set_option maxRecDepth 100000 in
set_option maxHeartbeats 2000000 in
theorem alive_any (w : World) : Calls Try.prog 8 #[] w fun e w' => e = .returned (.bool true) ∧ Bel w w' := by
  have P1 : Hid (∀ (W : World) (p B : Nat), Cs W p [] → Row W B 0 [cA, cB] → Calls Try.prog 9 #[.pointer (some ⟨p, 0, none⟩), .slice (some ⟨B, 0, none⟩) 2 2] W fun e w' => e = .returned (.tuple #[.int .i64 2, .int .i64 0]) ∧ Cs w' p [cA, cB] ∧ Ch (fun i => i = p) W w') := hide (fun W p B h hr => by
    have := put_any (cap := 2) (a := some ⟨B, 0, none⟩) h hr (fun _ => rfl) (by decide)
    rw [putA_ab, putL_ab] at this
    exact this)
  have P2 : Hid (∀ (W : World) (p B : Nat), Cs W p [cA, cB] → Row W B 0 [cX] → Calls Try.prog 9 #[.pointer (some ⟨p, 0, none⟩), .slice (some ⟨B, 0, none⟩) 1 1] W fun e w' => e = .returned (.tuple #[.int .i64 0, .int .i64 2]) ∧ Cs w' p [cA, cB] ∧ Ch (fun i => i = p) W w') := hide (fun W p B h hr => by
    have := put_any (cap := 1) (a := some ⟨B, 0, none⟩) h hr (fun _ => rfl) (by decide)
    rw [putA_x, putL_x] at this
    exact this)
  have G : Hid (∀ (W : World) (p : Nat), Cs W p [cA, cB] → Calls Try.prog 13 #[.pointer (some ⟨p, 0, none⟩), .string ⟨#[107]⟩, .int .u64 4] W fun e w' => e = .returned (.tuple #[.agg #[.string ⟨#[107]⟩, .int .u64 3, .bool false, .string ⟨#[98]⟩], .bool true]) ∧ Bel W w') := hide (fun W p h => by
    have := get_any ⟨#[107]⟩ 4 h
    rw [getP_ab] at this
    exact this)
  have LN : Hid (∀ (W : World) (p : Nat), Cs W p [cA, cB] → Calls Try.prog 20 #[.pointer (some ⟨p, 0, none⟩)] W fun e w' => e = .returned (.int .i64 2) ∧ w' = W) := hide (fun W p h => lenC_any h)
  go_enter Try.func8, Try.ntmps8
  go_wp2_with (go_at_call 7; refine (new_any _).mono ?_; rintro e w1 ⟨rfl, hw1⟩; rw [hw1]; clear hw1)
  refine (P1.out _ _ _ ((Cs.new w).bel ((Bel.refl _).alloc _)) (Row.two (x := cA) (y := cB) (at_new2 w _ _))).mono ?_
  rintro e w2 ⟨rfl, hc2, hch2⟩
  have hb2 := hide (hch2.after (((Bel.refl w).alloc _).alloc _) (Nat.le_refl _))
  have HC2 := hide hc2
  clear hc2 hch2
  go_wp2_with (go_at_call 13; refine (G.out _ _ (unhide HC2)).mono ?_; rintro e w3 ⟨rfl, hb3⟩)
  obtain ⟨W3, hW3⟩ : ∃ W3, W3 = w3.alloc (.cells #[.string ⟨#[107]⟩, .int .u64 3, .bool false, .string ⟨#[98]⟩] 38) := ⟨_, rfl⟩
  have q3 : W3.heap[w3.heap.size]? = some (.cells #[.string ⟨#[107]⟩, .int .u64 3, .bool false, .string ⟨#[98]⟩] 38) := by rw [hW3]; exact at_new _ _
  have hbW3 : Bel w3 W3 := by rw [hW3]; exact (Bel.refl _).alloc _
  have HC3 := hide ((unhide HC2).bel (hb3.trans hbW3))
  have HB3 := hide ((unhide hb2).trans (hb3.trans hbW3))
  rw [← hW3]
  rw [show w3.heap.size + 1 = W3.heap.size by rw [hW3]; simp]
  have Q3 := hide q3
  have hlt : w.heap.size < w3.heap.size := by
    obtain ⟨v, h1, _⟩ := ((unhide HC2).bel hb3).see
    exact lt_of_some h1
  clear hW3 q3 hbW3 hb3
  refine (P2.out _ _ _ ((unhide HC3).bel ((Bel.refl _).alloc _)) (Row.one (x := cX) (at_new W3 _))).mono ?_
  rintro e w4 ⟨rfl, hc4, hch4⟩
  have q4 : w4.cell? ⟨w3.heap.size, 3, none⟩ = some (.string ⟨#[98]⟩) := cell_of (hch4.row (((Bel.refl _).alloc _).row (unhide Q3)) (by omega))
  have HB4 := hide (hch4.after ((unhide HB3).trans ((Bel.refl _).alloc _)) (Nat.le_refl _))
  have HC4 := hide hc4
  clear hc4 hch4
  go_wp2_with (go_at_call 20; refine (LN.out _ _ (unhide HC4)).mono ?_; rintro e w5 ⟨rfl, rfl⟩)
  go_ret
  exact ⟨rfl, HB4.out⟩
end Go.Proofs.Ytkpallbnmckbaaa
