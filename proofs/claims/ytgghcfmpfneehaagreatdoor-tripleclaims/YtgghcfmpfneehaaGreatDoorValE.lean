/- What the program's Text returns; for every value; where the library's variables are as they are laid. -/
import Derived.Test.YtgghcfmpfneehaaGreatDoorValD
namespace Go.Proofs.YtgghcfmpfneehaaGreatDoor
open Go.RowKit
/-- What the library's variables hold. -/
def Gl (w : World) : Prop :=
  Lib.TabIs Tryz.prog w "internal/strconv.uint64pow10" .u64 Lib.pow10Tab ∧ w.cell? ⟨7, 15, none⟩ = some (.int .u8 4) ∧ (∃ te pe, w.cell? ⟨4, 0, none⟩ = some (.iface te pe)) ∧ (∃ te pe, w.cell? ⟨5, 0, none⟩ = some (.iface te pe))
theorem Gl.next {w w' : World} (h : Gl w) (hb : Bel w w') : Gl w' := by
  obtain ⟨h1, h2, ⟨a, b, h3⟩, c, d, h4⟩ := h
  exact ⟨Lib.tabBelow_of_tabIs h1 w' hb, hb.cell h2, ⟨a, b, hb.cell h3⟩, c, d, hb.cell h4⟩
/-- A value's literal. -/
def ltr (k : Int) (b : Bool) (n : Int) (s : ByteArray) (u : Int) : List UInt8 :=
  if k = 1 then tf b else if k = 2 then Lib.itoa n else if k = 3 then quo s.data.toList else 48 :: 120 :: hexL u.toNat
theorem OB.int {w W W' : World} {v v' : Value} {l x : List UInt8} (ob : OB w W v l) (h1 : W'.ownsRow w.heap.size 5 1 v' (l.length + x.length) (l.map vb ++ Lib.byteCells x)) (h2 : Below w.heap.size W W') : OB w W' v' (l ++ x) := by
  refine ⟨?_, ob.bel.trans h2⟩
  rw [List.length_append, List.map_append]
  exact h1
theorem appendInt_any (w : World) (n : Int) (h0 : -9223372036854775808 ≤ n) (h1 : n < 9223372036854775808) (hG : Gl w) :
    Calls Tryz.prog 90 #[.slice none 0 0, .int .i64 n, .int .i64 10] w fun e W' => ∃ v', e = .returned v' ∧ OB w W' v' (Lib.itoa n) := by
  have h := Tryz.strconv_AppendInt_10 w.heap.size 0 n h0 (by omega) (.slice none 0 0) [] w (OB.nil w).own (Nat.le_refl _) (by omega) (Lib.tabBelow_of_tabIs hG.1)
  refine h.mono ?_
  rintro e w' ⟨v', rfl, h1, h2, _⟩
  exact ⟨v', rfl, OB.int (x := Lib.itoa n) (OB.nil w) h1 h2⟩
set_option maxRecDepth 100000 in
theorem text_no {k : Int} {b : Bool} {n : Int} {s : ByteArray} {u : Int} (h : ¬ mayV k b n s u) (w : World) :
    Calls Tryz.prog 53 #[ev k b n s u] w fun e w' => e = .returned (.tuple #[.string ⟨#[]⟩, .int .i64 30]) ∧ Bel w w' := by
  have hC := hide (fun W => may_no h W)
  clear h
  unfold ev at hC ⊢
  go_enter Tryz.func53, Tryz.ntmps53
  go_wp2_with (go_at_call 60; refine (hC.out _).mono ?_; rintro e w' ⟨rfl, hb⟩)
  go_ret2
  exact ⟨rfl, ((Bel.refl _).alloc _).trans hb⟩
theorem OB.done {w0 w W : World} {v : Value} {l : List UInt8} (h0 : Bel w0 w) (h : OB w W v l) : Bel w0 W := h0.trans h.bel
set_option maxRecDepth 100000 in
theorem text_1 (b : Bool) (w : World) :
    Calls Tryz.prog 53 #[ev 1 b 0 ⟨#[]⟩ 0] w fun e w' => e = .returned (.tuple #[.string ⟨(tf b).toArray⟩, .int .i64 0]) ∧ Bel w w' := by
  have hC := hide (fun W => may_yes (b := b) (Or.inl ⟨rfl, rfl, rfl, rfl⟩) W)
  have h5 := hide (S5.first 1 b 0 ⟨#[]⟩ 0 w)
  unfold ev at hC ⊢
  go_enter Tryz.func53, Tryz.ntmps53
  go_wp2_with (first | (go_at_call 60; refine (hC.out _).mono ?_; rintro e w1 ⟨rfl, hb1⟩; obtain ⟨c0, c1, c2, c3, c4⟩ := h5.out.next hb1; have hb2 := ((Bel.refl w).alloc _).trans hb1) | (go_at_call 89; refine (appendBool_any _ _ _ _ (OB.nil _) (by simp) b).mono ?_; rintro e w2 ⟨v2, rfl, ho2⟩; have hcv := ho2.text))
  go_ret2
  exact ⟨rfl, OB.done hb2 ho2⟩
set_option maxRecDepth 100000 in
theorem text_2 (n : Int) (n0 : -9223372036854775808 ≤ n) (n1 : n < 9223372036854775808) (w : World) (hG : Gl w) :
    Calls Tryz.prog 53 #[ev 2 false n ⟨#[]⟩ 0] w fun e w' => e = .returned (.tuple #[.string ⟨(Lib.itoa n).toArray⟩, .int .i64 0]) ∧ Bel w w' := by
  have hC := hide (fun W => may_yes (n := n) (Or.inr (Or.inl ⟨rfl, rfl, rfl, rfl⟩)) W)
  have h5 := hide (S5.first 2 false n ⟨#[]⟩ 0 w)
  have h01 := hide (And.intro n0 n1)
  clear n0 n1
  unfold ev at hC ⊢
  go_enter Tryz.func53, Tryz.ntmps53
  go_wp2_with (first | (go_at_call 60; refine (hC.out _).mono ?_; rintro e w1 ⟨rfl, hb1⟩; obtain ⟨c0, c1, c2, c3, c4⟩ := h5.out.next hb1; have hb2 := ((Bel.refl w).alloc _).trans hb1) | (go_at_call 90; refine (appendInt_any _ n h01.out.1 h01.out.2 (hG.next hb2)).mono ?_; rintro e w2 ⟨v2, rfl, ho2⟩; have hcv := ho2.text))
  go_ret2
  exact ⟨rfl, OB.done hb2 ho2⟩
set_option maxRecDepth 100000 in
theorem text_3 (s : ByteArray) (hs : s.size ≤ 4096) (w : World) :
    Calls Tryz.prog 53 #[ev 3 false 0 s 0] w fun e w' => e = .returned (.tuple #[.string ⟨(quo s.data.toList).toArray⟩, .int .i64 0]) ∧ Bel w w' := by
  have hC := hide (fun W => may_yes (s := s) (Or.inr (Or.inr (Or.inl ⟨rfl, rfl, rfl, rfl, hs⟩))) W)
  have h5 := hide (S5.first 3 false 0 s 0 w)
  unfold ev at hC ⊢
  go_enter Tryz.func53, Tryz.ntmps53
  go_wp2_with (first | (go_at_call 60; refine (hC.out _).mono ?_; rintro e w1 ⟨rfl, hb1⟩; obtain ⟨c0, c1, c2, c3, c4⟩ := h5.out.next hb1; have hb2 := ((Bel.refl w).alloc _).trans hb1) | (go_at_call 91; refine (appendQuoted_any _ _ _ (OB.nil _) s hs).mono ?_; rintro e w2 ⟨v2, rfl, ho2⟩; have hcv := ho2.text))
  go_ret2
  exact ⟨rfl, OB.done hb2 ho2⟩
set_option maxRecDepth 100000 in
theorem text_4 (u : Nat) (hu : u < 18446744073709551616) (h0 : (u : Int) ≠ 0) (w : World) (hG : Gl w) :
    Calls Tryz.prog 53 #[ev 4 false 0 ⟨#[]⟩ u] w fun e w' => e = .returned (.tuple #[.string ⟨(48 :: 120 :: hexL u).toArray⟩, .int .i64 0]) ∧ Bel w w' := by
  have hC := hide (fun W => may_yes (u := u) (Or.inr (Or.inr (Or.inr ⟨rfl, rfl, rfl, rfl, h0⟩))) W)
  have h5 := hide (S5.first 4 false 0 ⟨#[]⟩ u w)
  have hU := hide hu
  clear hu h0
  unfold ev at hC ⊢
  go_enter Tryz.func53, Tryz.ntmps53
  go_wp2_with (first | (go_at_call 60; refine (hC.out _).mono ?_; rintro e w1 ⟨rfl, hb1⟩; obtain ⟨c0, c1, c2, c3, c4⟩ := h5.out.next hb1; have hb2 := ((Bel.refl w).alloc _).trans hb1))
  have c4' : w1.drew.cell? ⟨w.heap.size, 4, none⟩ = some (.int .u64 (u : Int)) := Bel.cell (Bel.refl _).drew c4
  have hG2 := hG.next hb2
  clear hG c0 c1 c2 c3
  generalize w.heap.size = B at *
  go_region_held3 (fun W => W.cell? ⟨B, 4, none⟩ = some (.int .u64 (u : Int))) (first | assumption | exact Bel.cell ho1.bel c4 | exact Bel.cell ho2.bel c4) ((first | (refine step_str (OB.nil w1).drew ⟨#[48, 120]⟩ (by show 0 + 2 ≤ _; omega) rfl _ _ rfl rfl rfl ?_; intro v1 w2 ho1) | (go_at_call 92; refine (appendUint_any w1 _ _ _ ho1 (by show 2 ≤ 100; omega) u hU.out ((hG2.next ho1.bel).2.1)).mono ?_; rintro e w3 ⟨v2, rfl, ho2⟩)))
  all_goals
    have hcv := ho2.text
    go_wp2
    go_ret2
    exact ⟨rfl, OB.done hb2 ho2⟩
theorem text_yes {k : Int} {b : Bool} {n : Int} {s : ByteArray} {u : Int} (h : mayV k b n s u) (n0 : -9223372036854775808 ≤ n) (n1 : n < 9223372036854775808) (u0 : 0 ≤ u) (u1 : u < 18446744073709551616) (w : World) (hG : Gl w) :
    Calls Tryz.prog 53 #[ev k b n s u] w fun e w' => e = .returned (.tuple #[.string ⟨(ltr k b n s u).toArray⟩, .int .i64 0]) ∧ Bel w w' := by
  rcases h with ⟨rfl, rfl, rfl, rfl⟩ | ⟨rfl, rfl, rfl, rfl⟩ | ⟨rfl, rfl, rfl, rfl, h⟩ | ⟨rfl, rfl, rfl, rfl, h⟩
  · exact text_1 b w
  · exact text_2 n n0 n1 w hG
  · exact text_3 s h w
  · obtain ⟨m, rfl⟩ : ∃ m : Nat, u = (m : Int) := ⟨u.toNat, by omega⟩
    exact text_4 m (by omega) h w hG
end Go.Proofs.YtgghcfmpfneehaaGreatDoor
