/- The walk of the law on order: it returns true, for every two numbers, every two numbers with a sign and every two texts of at most 1048576 bytes each. -/
import Derived.Test.YtahbhalfilcmiaaAlive
import Derived.Test.YtahbhalfilcmiaaOrder
import Derived.Test.YtahbhalfilcmiaaBackWalk
import Derived.Test.YtahbhalfilcmiaaOneWalk
namespace Go.Proofs.Ytahbhalfilcmiaa
open Go.RowKit Go.WideShapes Go.ChangeShapes
theorem last_cases (s t : ByteArray) : (s.toList == t.toList) = true ∨ ((s.toList == t.toList) = false ∧ (key t.data.toList).length < (key s.data.toList).length) ∨
    ((s.toList == t.toList) = false ∧ (key s.data.toList).length ≤ (key t.data.toList).length ∧ (((⟨(key t.data.toList).toArray⟩ : ByteArray).extract 0 (key s.data.toList).length).toList == (⟨(key s.data.toList).toArray⟩ : ByteArray).toList) = false) := by
  by_cases h : s.toList = t.toList
  · left; rw [beq_iff_eq]; exact h
  · right
    by_cases hl : (key t.data.toList).length < (key s.data.toList).length
    · left; exact ⟨by rw [beq_eq_false_iff_ne]; exact h, hl⟩
    · right
      refine ⟨by rw [beq_eq_false_iff_ne]; exact h, by omega, ?_⟩
      rw [beq_eq_false_iff_ne]
      intro e
      apply h
      rw [ByteArray.toList_eq, ByteArray.toList_eq] at e
      rw [key_apart s t (ba_ext e)]
set_option maxHeartbeats 1000000 in
theorem order_walk (a b : Nat) (ha : a < 2 ^ 64) (hb : b < 2 ^ 64) (i k : Int) (i0 : -9223372036854775808 ≤ i) (i1 : i < 9223372036854775808) (k0 : -9223372036854775808 ≤ k) (k1 : k < 9223372036854775808)
    (s t : ByteArray) (hs : s.size ≤ 1048576) (ht : t.size ≤ 1048576) (w : World) :
    Calls Try.prog 8 #[.int .u64 (a : Int), .int .u64 (b : Int), .int .i64 i, .int .i64 k, .string s, .string t] w fun e w' => e = .returned (.bool true) ∧ Bel w w' := by
  have z1 := key_size s.data.toList
  have z2 := key_size t.data.toList
  rw [ba_len] at z1 z2
  have c12a := calls_bel (w := w) (fun W => num_any a ha W)
  have c12b := calls_bel (w := w) (fun W => num_any b hb W)
  have c14a := calls_bel (w := w) (fun W => int_any i i0 i1 W)
  have c14b := calls_bel (w := w) (fun W => int_any k k0 k1 W)
  have c18a := calls_bel (w := w) (fun W => key_any s (by omega) W)
  have c18b := calls_bel (w := w) (fun W => key_any t (by omega) W)
  have c9 := calls_bel (w := w) (fun W => alive_any W)
  have l1 : Op.bytesLess (⟨(num a).toArray⟩ : ByteArray).toList (⟨(num b).toArray⟩ : ByteArray).toList = decide ((a : Int) < (b : Int)) := by
    rw [ByteArray.toList_eq, ByteArray.toList_eq]
    show Op.bytesLess (num a) (num b) = _
    rw [less_num a b ha hb]; simp
  have l2 : Op.bytesLess (⟨(int8 i).toArray⟩ : ByteArray).toList (⟨(int8 k).toArray⟩ : ByteArray).toList = decide (i < k) := by
    rw [ByteArray.toList_eq, ByteArray.toList_eq]
    exact less_int i k i0 i1 k0 k1
  have l3 : Op.bytesLess (⟨(key s.data.toList).toArray⟩ : ByteArray).toList (⟨(key t.data.toList).toArray⟩ : ByteArray).toList = Op.bytesLess s.toList t.toList := by
    rw [ByteArray.toList_eq, ByteArray.toList_eq, ByteArray.toList_eq, ByteArray.toList_eq]
    exact less_key _ _
  have last := last_cases s t
  have e1 : (⟨(key s.data.toList).toArray⟩ : ByteArray).size = (key s.data.toList).length := rfl
  have e2 : (⟨(key t.data.toList).toArray⟩ : ByteArray).size = (key t.data.toList).length := rfl
  rw [← e1, ← e2] at last
  rw [← e1] at z1
  rw [← e2] at z2
  clear e1 e2
  generalize (⟨(num a).toArray⟩ : ByteArray) = x1 at *
  generalize (⟨(num b).toArray⟩ : ByteArray) = x2 at *
  generalize (⟨(int8 i).toArray⟩ : ByteArray) = x3 at *
  generalize (⟨(int8 k).toArray⟩ : ByteArray) = x4 at *
  generalize (⟨(key s.data.toList).toArray⟩ : ByteArray) = x5 at *
  generalize (⟨(key t.data.toList).toArray⟩ : ByteArray) = x6 at *
  have hb0 := Bel.refl w
  have z1' : x5.size ≤ 3000000 := by omega
  have z2' : x6.size ≤ 3000000 := by omega
  have f1 : (0 : Int) ≤ (x5.size : Int) := by omega
  clear ha hb i0 i1 k0 k1 hs ht z1 z2
  rcases last with last | ⟨last, hl⟩ | ⟨last, hl, hne⟩
  all_goals
    go_enter Try.func8, Try.ntmps8
    go_wp2_with (first
      | (go_at_call_of 12 (Value.int .u64 (a : Int)); refine (c12a.out _ (by assumption)).mono ?_; rintro e w' ⟨rfl, hb⟩)
      | (go_at_call_of 12 (Value.int .u64 (b : Int)); refine (c12b.out _ (by assumption)).mono ?_; rintro e w' ⟨rfl, hb⟩)
      | (go_at_call_of 14 (Value.int .i64 i); refine (c14a.out _ (by assumption)).mono ?_; rintro e w' ⟨rfl, hb⟩)
      | (go_at_call_of 14 (Value.int .i64 k); refine (c14b.out _ (by assumption)).mono ?_; rintro e w' ⟨rfl, hb⟩)
      | (go_at_call_of 18 (Value.string s); refine (c18a.out _ (by assumption)).mono ?_; rintro e w' ⟨rfl, hb⟩)
      | (go_at_call_of 18 (Value.string t); refine (c18b.out _ (by assumption)).mono ?_; rintro e w' ⟨rfl, hb⟩)
      | (go_at_call 9; refine (c9.out _ (by assumption)).mono ?_; rintro e w' ⟨rfl, hb⟩))
    go_ret
    exact ⟨rfl, by assumption⟩
theorem order_law (a0 a1 a2 a3 : Int) (s t : ByteArray) (w0 : (Lit.int .u64 a0).wf = true) (w1 : (Lit.int .u64 a1).wf = true) (w2 : (Lit.int .i64 a2).wf = true) (w3 : (Lit.int .i64 a3).wf = true) (hs : s.size ≤ 1048576) (ht : t.size ≤ 1048576) (w : World) :
    Calls Try.prog 8 #[.int .u64 a0, .int .u64 a1, .int .i64 a2, .int .i64 a3, .string s, .string t] w fun e w' => e = .returned (.bool true) ∧ Bel w w' := by
  have hb0 := bounds_u64 w0
  have hb1 := bounds_u64 w1
  have hb2 := bounds_i64 w2
  have hb3 := bounds_i64 w3
  obtain ⟨a, rfl⟩ := Int.eq_ofNat_of_zero_le hb0.1
  obtain ⟨b, rfl⟩ := Int.eq_ofNat_of_zero_le hb1.1
  exact order_walk a b (by omega) (by omega) a2 a3 (by omega) (by omega) (by omega) (by omega) s t hs ht w
end Go.Proofs.Ytahbhalfilcmiaa
