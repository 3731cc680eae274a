/- CellsNil's walk. -/
import Derived.Test.YtkpallbnmckbaaaAll
import Derived.Test.YtkpallbnmckbaaaSci
import Derived.Test.YtkpallbnmckbaaaTri
namespace Go.Proofs.Ytkpallbnmckbaaa
open Go.RowKit Go.Shelf
theorem nil_took {w w0 : World} {gf : Nat} {lb : Array Value} (en : En gf) (hb : Bel w0 w) (hit : It w 4 900000 gf lb []) : Calls Try.prog 17 #[.func (.func gf) #[] lb, .int .i64 (-1)] w fun e w' => ∃ a cap, e = .returned (.slice a 0 cap) ∧ Bel w0 w' := by
  refine (took_any en hit).mono ?_
  rintro e w' ⟨v, rfl, hor, hb'⟩
  obtain ⟨a, cap, g, rfl, _, _⟩ := hor.shape
  exact ⟨a, cap, rfl, hb.trans hb'⟩
theorem tookN (W : World) : Calls Try.prog 17 #[.func (.func 37) #[] #[.pointer (some ⟨W.heap.size, 0, none⟩)], .int .i64 (-1)] (W.alloc (.cells #[.pointer none] 23)) fun e w' => ∃ a cap, e = .returned (.slice a 0 cap) ∧ Bel W w' :=
  nil_took en37 ((Bel.refl _).alloc _) (allN_it (at_new W _))
theorem tookS (W : World) (a b : ByteArray) (t : Int) : Calls Try.prog 17 #[.func (.func 35) #[] #[.pointer (some ⟨W.heap.size + 1, 0, none⟩), .pointer (some ⟨W.heap.size + 1 + 1 + 1, 0, none⟩), .pointer (some ⟨W.heap.size, 0, none⟩), .pointer (some ⟨W.heap.size + 1 + 1, 0, none⟩)], .int .i64 (-1)] ((((W.alloc (.cells #[.pointer none] 23)).alloc (.cells #[.string a] 9)).alloc (.cells #[.string b] 9)).alloc (.cells #[.int .u64 t] 27)) fun e w' => ∃ a cap, e = .returned (.slice a 0 cap) ∧ Bel W w' := by
  refine nil_took en35 ((((((Bel.refl _).alloc _).alloc _).alloc _).alloc _)) ?_
  have h := scan_it (w := (((W.alloc (.cells #[.pointer none] 23)).alloc (.cells #[.string a] 9)).alloc (.cells #[.string b] 9)).alloc (.cells #[.int .u64 t] 27)) (bc := W.heap.size) (bfrom := W.heap.size + 1) (bto := W.heap.size + 1 + 1) (bt := W.heap.size + 1 + 1 + 1) (q := none) (tv := .pointer none) (l := []) (a := a) (b := b) (t := t)
    (((((Bel.refl _).alloc _).alloc _).alloc _).row (at_new W _)) ((((Bel.refl _).alloc _).alloc _).row (at_new2 W _ _)) (((Bel.refl _).alloc _).row (at_new3 W _ _ _)) (by
      have := at_new3 (W.alloc (.cells #[.pointer none] 23)) (.cells #[.string a] 9) (.cells #[.string b] 9) (.cells #[.int .u64 t] 27)
      rw [show (W.alloc (.cells #[.pointer none] 23)).heap.size = W.heap.size + 1 by simp] at this
      exact this) (fun W _ => tree_nil W) (Tree.zero _).tv Srt.nil (by simp)
  exact h
set_option maxRecDepth 100000 in
set_option maxHeartbeats 4000000 in
theorem nil_law (x : C) (key : ByteArray) (t : Int) (w : World) : Calls Try.prog 6 #[vC x, .string key, .int .u64 t] w fun e w' => e = .returned (.bool true) ∧ Bel w w' := by
  obtain ⟨xk, xt, xd, xv⟩ := x
  show Calls Try.prog 6 #[.agg #[.string xk, .int .u64 xt, .bool xd, .string xv], .string key, .int .u64 t] w _
  have h37 : ∀ (l : Array Value) (W : World), (binOp BinOp.eql 43 (.func (.func 37) #[] l) .nilFunc).run Try.prog W = .ok (.bool false) W := fun l W => eql43 37 l W (Or.inl rfl)
  have h35 : ∀ (l : Array Value) (W : World), (binOp BinOp.eql 43 (.func (.func 35) #[] l) .nilFunc).run Try.prog W = .ok (.bool false) W := fun l W => eql43 35 l W (Or.inr rfl)
  have G : Hid (∀ W, Calls Try.prog 13 #[.pointer none, .string key, .int .u64 t] W fun e w' => e = .returned (.tuple #[.agg #[.string ⟨#[]⟩, .int .u64 0, .bool false, .string ⟨#[]⟩], .bool false]) ∧ Bel W w') := hide (fun W => get_nil key t W)
  have HB0 := hide ((((Bel.refl w).alloc (.cells #[.string xk, .int .u64 xt, .bool xd, .string xv] 38)).alloc (.cells #[.string xk, .int .u64 xt, .bool xd, .string xv] 38)))
  go_enter Try.func6, Try.ntmps6
  go_wp2_with (first
    | (go_at_call 9; refine (put_nil _ _).mono ?_; rintro e w1 ⟨rfl, hw1⟩; rw [hw1]; clear hw1)
    | (go_at_call 13; refine (G.out _).mono ?_; rintro e w2 ⟨rfl, hb2⟩; have HB2 := hide ((unhide HB0).trans hb2); clear hb2))
  have hbx := at_new w2 (.cells #[.string ⟨#[]⟩, .int .u64 0, .bool false, .string ⟨#[]⟩] 38)
  have hb3 := (unhide HB2).trans ((Bel.refl w2).alloc (.cells #[.string ⟨#[]⟩, .int .u64 0, .bool false, .string ⟨#[]⟩] 38))
  generalize w2.alloc (.cells #[.string ⟨#[]⟩, .int .u64 0, .bool false, .string ⟨#[]⟩] 38) = W3 at hbx hb3 ⊢
  generalize w2.heap.size = b at hbx ⊢
  have H3 := hide (And.intro hbx hb3)
  clear hbx hb3 HB2 HB0 G
  refine (all_any (.pointer none) rfl W3).mono ?_
  rintro e w4 ⟨rfl, hw4⟩
  have hb4 : Bel W3 w4 := by rw [hw4]; exact (Bel.refl _).alloc _
  have HB4 := hide hb4
  clear hw4 hb4
  generalize W3.heap.size = b3
  go_wp2_with fail
  refine (scan_any (.pointer none) rfl key ⟨#[]⟩ t w4).mono ?_
  rintro e w5 ⟨rfl, hw5⟩
  have hb5 : Bel W3 w5 := by rw [hw5]; exact (((((unhide HB4).alloc _).alloc _).alloc _).alloc _)
  obtain ⟨z0, z1, z2, z3⟩ : N4 w5 b (⟨#[]⟩, 0, false, ⟨#[]⟩) := N4.of (hb5.row (unhide H3).1)
  simp only [C.k, C.t, C.d, C.v] at z0 z1 z2 z3
  have HB5 := hide ((unhide H3).2.trans hb5)
  clear hw5 hb5 HB4 H3
  generalize w4.heap.size = b4
  go_wp2_with fail
  refine (all_any (.pointer none) rfl w5).mono ?_
  rintro e w6 ⟨rfl, hw6⟩
  rw [hw6]
  clear hw6
  go_wp2_with fail
  refine (tookN w5).mono ?_
  rintro e w7 ⟨a7, c7, rfl, hb7⟩
  have HB7 := hide ((unhide HB5).trans hb7)
  clear hb7 HB5 z0 z1 z2 z3
  go_wp2_with fail
  refine (scan_any (.pointer none) rfl key ⟨#[]⟩ t w7).mono ?_
  rintro e w8 ⟨rfl, hw8⟩
  rw [hw8]
  clear hw8
  go_wp2_with fail
  refine (tookS w7 key ⟨#[]⟩ t).mono ?_
  rintro e w9 ⟨a9, c9, rfl, hb9⟩
  have HB9 := hide ((unhide HB7).trans hb9)
  clear hb9 HB7
  go_wp2_with (first
    | (go_at_call 20; refine (len_nil _).mono ?_; rintro e w10 ⟨rfl, hw10⟩; rw [hw10]; clear hw10)
    | (go_at_call 12; refine (trim_nil t _).mono ?_; rintro e w11 ⟨rfl, hb11⟩; have HB11 := hide ((unhide HB9).trans hb11); clear hb11)
    | (go_at_call 23; refine (copy_nil _).mono ?_; rintro e w12 ⟨rfl, hw12⟩; rw [hw12]; clear hw12)
    | (go_at_call 8; refine (alive_any _).mono ?_; rintro e w13 ⟨rfl, hb13⟩))
  go_ret
  exact ⟨rfl, (unhide HB11).trans hb13⟩
end Go.Proofs.Ytkpallbnmckbaaa
