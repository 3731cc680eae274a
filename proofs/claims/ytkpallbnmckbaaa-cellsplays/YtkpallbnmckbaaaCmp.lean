/- The library's Compare of texts and of numbers, the program's and the document's Cmp. -/
import Derived.Shelf.Small.Strs
import Derived.Test.YtkpallbnmckbaaaWld
namespace Go.Proofs
open Go.Shelf
def Try.lays106_ren : Go.Shelf.Ren := ⟨fun | 106 => 39 | 213 => 43 | 265 => 48 | n => n, fun | 9 => 9 | 3 => 3 | n => n, fun | n => n⟩
theorem Try.lays106 : Go.Proofs.Lays.n106 Try.prog Try.lays106_ren := {
  mixed := by kernel_rfl
  f106 := Try.func39.trans (congrArg some (by kernel_rfl))
  f213 := Try.func43.trans (congrArg some (by kernel_rfl))
  f265 := Try.func48.trans (congrArg some (by kernel_rfl))
  t3 := Try.underlying3
  a3 := Try.isAgg3
  z3 := Try.sizeOf3
  v3 := Try.zeroValue3
  t9 := Try.underlying9
  a9 := Try.isAgg9
  z9 := Try.sizeOf9
  v9 := Try.zeroValue9 }
open Go.RowKit in
theorem Try.strings_Compare (a b : ByteArray) (w : World) :
    Calls Try.prog 39 #[.string a, .string b] w fun e w' => e = .returned (.int .i64 (Lib.compareBytes a.data.toList b.data.toList)) ∧ w' = w := Any.strings_Compare Try.lays106 a b w
end Go.Proofs
namespace Go.Proofs.Ytkpallbnmckbaaa
open Go.RowKit
theorem nan_any (x : Int) (w : World) : Calls Try.prog 44 #[.int .u64 x] w fun e w' => e = .returned (.bool false) ∧ w' = w := by
  go_enter Try.func44, Try.ntmps44
  go_wp2
  go_ret
  exact ⟨rfl, rfl⟩
set_option maxRecDepth 100000 in
theorem cmp40 (x y : Int) (w : World) : Calls Try.prog 40 #[.int .u64 x, .int .u64 y] w fun e w' => e = .returned (.int .i64 (cmpI x y)) ∧ w' = w := by
  have C := hide (fun z W => nan_any z W)
  by_cases h1 : x < y
  · have HE : Hid (cmpI x y = -1) := hide (by unfold cmpI; rw [if_pos h1])
    go_enter Try.func40, Try.ntmps40
    go_wp2_with (go_at_call 44; refine (C.out _ _).mono ?_; rintro e w' ⟨rfl, rfl⟩)
    go_ret
    exact ⟨by rw [HE.out]; rfl, rfl⟩
  · by_cases h2 : y < x
    · have HE : Hid (cmpI x y = 1) := hide (by unfold cmpI; rw [if_neg h1, if_pos h2])
      have i1 : y ≤ x := by omega
      clear h1
      go_enter Try.func40, Try.ntmps40
      go_wp2_with (go_at_call 44; refine (C.out _ _).mono ?_; rintro e w' ⟨rfl, rfl⟩)
      go_ret
      exact ⟨by rw [HE.out]; rfl, rfl⟩
    · obtain rfl : x = y := by omega
      have HE : Hid (cmpI x x = 0) := hide (cmpI_self x)
      clear h1 h2
      go_enter Try.func40, Try.ntmps40
      go_wp2_with (go_at_call 44; refine (C.out _ _).mono ?_; rintro e w' ⟨rfl, rfl⟩)
      go_ret
      exact ⟨by rw [HE.out]; rfl, rfl⟩
set_option maxRecDepth 100000 in
theorem cmp_any (a b : C) (w : World) : Calls Try.prog 21 #[vC a, vC b] w fun e w' => e = .returned (.int .i64 (cmpC a b)) ∧ Bel w w' := by
  obtain ⟨k, t, d, v⟩ := a
  obtain ⟨k', t', d', v'⟩ := b
  show Calls Try.prog 21 #[.agg #[.string k, .int .u64 t, .bool d, .string v], .agg #[.string k', .int .u64 t', .bool d', .string v']] w _
  have C39 := hide (fun W => Try.strings_Compare k k' W)
  have C40 := hide (fun W => cmp40 t' t W)
  obtain ⟨z, hz⟩ : ∃ z, Lib.compareBytes k.data.toList k'.data.toList = z := ⟨_, rfl⟩
  rw [hz] at C39
  by_cases h : z = 0
  · have HE : Hid (cmpC (k, t, d, v) (k', t', d', v') = cmpI t' t) := hide (by unfold cmpC; rw [if_pos (by rw [hz]; exact h)])
    subst h
    clear hz
    generalize hx : cmpI t' t = x at *
    clear hx
    go_enter Try.func21, Try.ntmps21
    go_wp2_with (first
      | (go_at_call 39; refine (C39.out _).mono ?_; rintro e w1 ⟨rfl, rfl⟩)
      | (go_at_call 40; refine (C40.out _).mono ?_; rintro e w1 ⟨rfl, rfl⟩))
    go_ret
    exact ⟨by rw [HE.out]; rfl, ((Bel.refl _).alloc _).alloc _⟩
  · have HE : Hid (cmpC (k, t, d, v) (k', t', d', v') = z) := hide (by unfold cmpC; rw [if_neg (by rw [hz]; exact h)]; exact hz)
    have hb : (z != 0) = true := by simpa using h
    clear hz h
    go_enter Try.func21, Try.ntmps21
    go_wp2_with (first
      | (go_at_call 39; refine (C39.out _).mono ?_; rintro e w1 ⟨rfl, rfl⟩)
      | (go_at_call 40; refine (C40.out _).mono ?_; rintro e w1 ⟨rfl, rfl⟩))
    go_ret
    exact ⟨by rw [HE.out]; rfl, ((Bel.refl _).alloc _).alloc _⟩
end Go.Proofs.Ytkpallbnmckbaaa
