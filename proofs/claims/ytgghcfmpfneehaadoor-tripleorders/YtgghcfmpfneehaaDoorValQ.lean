/- What the program's Cmp returns; for every two values. -/
import Derived.Test.YtgghcfmpfneehaaDoorValP
namespace Go.Proofs.YtgghcfmpfneehaaDoor
open Go.RowKit
set_option maxRecDepth 100000 in
theorem cmp_yes {k : Int} {b : Bool} {n : Int} {s : ByteArray} {u : Int} {k' : Int} {b' : Bool} {n' : Int} {s' : ByteArray} {u' : Int} (h : mayV k b n s u) (h' : mayV k' b' n' s' u') (w : World) :
    Calls Tryd.prog 37 #[ev k b n s u, ev k' b' n' s' u'] w fun e w' => e = .returned (.tuple #[.int .i64 (ord k b n s u k' b' n' s' u'), .int .i64 0]) ∧ Bel w w' := by
  have C1 := hide (fun W => may_yes h W)
  have C2 := hide (fun W => may_yes h' W)
  have C3 := hide (fun W => order_any k b n s u k' b' n' s' u' W)
  have HS1 := hide ((S5.first k b n s u w).alloc (.cells #[.int .u8 k', .bool b', .int .i64 n', .string s', .int .u64 u'] 25))
  have HS2 := hide (S5.second k' b' n' s' u' w (.cells #[.int .u8 k, .bool b, .int .i64 n, .string s, .int .u64 u] 25))
  clear h h'
  unfold ev at C1 C2 C3 ⊢
  go_enter Tryd.func37, Tryd.ntmps37
  go_wp2_with fail
  refine (C1.out _).mono ?_
  rintro e w1 ⟨rfl, hb1⟩
  have HT1 := hide (HS1.out.next hb1)
  have HT2 := hide (HS2.out.next hb1)
  obtain ⟨d0, d1, d2, d3, d4⟩ := HT2.out
  go_wp2_with fail
  refine (C2.out _).mono ?_
  rintro e w2 ⟨rfl, hb2⟩
  obtain ⟨a0, a1, a2, a3, a4⟩ := HT1.out.next hb2
  obtain ⟨c0, c1, c2, c3, c4⟩ := HT2.out.next hb2
  go_wp2_with fail
  refine (C3.out _).mono ?_
  rintro e w3 ⟨rfl, hb3⟩
  go_wp2_with fail
  go_ret2
  exact ⟨rfl, (((Bel.refl _).alloc _).alloc _).trans (hb1.trans (hb2.trans hb3))⟩
set_option maxRecDepth 100000 in
theorem cmp_no1 {k : Int} {b : Bool} {n : Int} {s : ByteArray} {u : Int} (h : ¬ mayV k b n s u) (k' : Int) (b' : Bool) (n' : Int) (s' : ByteArray) (u' : Int) (w : World) :
    Calls Tryd.prog 37 #[ev k b n s u, ev k' b' n' s' u'] w fun e w' => e = .returned (.tuple #[.int .i64 0, .int .i64 30]) ∧ Bel w w' := by
  have C1 := hide (fun W => may_no h W)
  clear h
  unfold ev at C1 ⊢
  go_enter Tryd.func37, Tryd.ntmps37
  go_wp2_with fail
  refine (C1.out _).mono ?_
  rintro e w1 ⟨rfl, hb1⟩
  go_wp2_with fail
  go_ret2
  exact ⟨rfl, (((Bel.refl _).alloc _).alloc _).trans hb1⟩
set_option maxRecDepth 100000 in
theorem cmp_no2 {k : Int} {b : Bool} {n : Int} {s : ByteArray} {u : Int} {k' : Int} {b' : Bool} {n' : Int} {s' : ByteArray} {u' : Int} (h : mayV k b n s u) (h' : ¬ mayV k' b' n' s' u') (w : World) :
    Calls Tryd.prog 37 #[ev k b n s u, ev k' b' n' s' u'] w fun e w' => e = .returned (.tuple #[.int .i64 0, .int .i64 30]) ∧ Bel w w' := by
  have C1 := hide (fun W => may_yes h W)
  have C2 := hide (fun W => may_no h' W)
  have HS2 := hide (S5.second k' b' n' s' u' w (.cells #[.int .u8 k, .bool b, .int .i64 n, .string s, .int .u64 u] 25))
  clear h h'
  unfold ev at C1 C2 ⊢
  go_enter Tryd.func37, Tryd.ntmps37
  go_wp2_with fail
  refine (C1.out _).mono ?_
  rintro e w1 ⟨rfl, hb1⟩
  obtain ⟨d0, d1, d2, d3, d4⟩ := HS2.out.next hb1
  go_wp2_with fail
  refine (C2.out _).mono ?_
  rintro e w2 ⟨rfl, hb2⟩
  go_wp2_with fail
  go_ret2
  exact ⟨rfl, (((Bel.refl _).alloc _).alloc _).trans (hb1.trans hb2)⟩
/-- Cmp of any two values: how they stand, or that one may not be. -/
def cp (k : Int) (b : Bool) (n : Int) (s : ByteArray) (u : Int) (k' : Int) (b' : Bool) (n' : Int) (s' : ByteArray) (u' : Int) (c e : Int) : Prop :=
  (mayV k b n s u ∧ mayV k' b' n' s' u' ∧ c = ord k b n s u k' b' n' s' u' ∧ e = 0) ∨ (¬ (mayV k b n s u ∧ mayV k' b' n' s' u') ∧ c = 0 ∧ e = 30)
theorem cmp_any (k : Int) (b : Bool) (n : Int) (s : ByteArray) (u : Int) (k' : Int) (b' : Bool) (n' : Int) (s' : ByteArray) (u' : Int) (w : World) :
    Calls Tryd.prog 37 #[ev k b n s u, ev k' b' n' s' u'] w fun e w' => ∃ c x, e = .returned (.tuple #[.int .i64 c, .int .i64 x]) ∧ Bel w w' ∧ cp k b n s u k' b' n' s' u' c x := by
  by_cases h : mayV k b n s u
  · by_cases h' : mayV k' b' n' s' u'
    · refine (cmp_yes h h' w).mono ?_
      rintro e w' ⟨rfl, hb⟩
      exact ⟨_, _, rfl, hb, Or.inl ⟨h, h', rfl, rfl⟩⟩
    · refine (cmp_no2 h h' w).mono ?_
      rintro e w' ⟨rfl, hb⟩
      exact ⟨_, _, rfl, hb, Or.inr ⟨fun x => h' x.2, rfl, rfl⟩⟩
  · refine (cmp_no1 h k' b' n' s' u' w).mono ?_
    rintro e w' ⟨rfl, hb⟩
    exact ⟨_, _, rfl, hb, Or.inr ⟨fun x => h x.1, rfl, rfl⟩⟩
end Go.Proofs.YtgghcfmpfneehaaDoor
