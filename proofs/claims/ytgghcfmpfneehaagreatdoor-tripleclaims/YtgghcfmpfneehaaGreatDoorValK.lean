/- What the document's May, Bytes, Number, Hex, Uid, quoted and Text return; for every value. -/
import Derived.Test.YtgghcfmpfneehaaGreatDoorValE
import Derived.Test.YtgghcfmpfneehaaGreatDoorOne
namespace Go.Proofs.YtgghcfmpfneehaaGreatDoor
open Go.RowKit
set_option maxRecDepth 100000 in
theorem rmay_1n (b : Bool) (n : Int) (s : ByteArray) (u : Int) (hn : (n == 0) = false) (w : World) : Calls Tryz.prog 65 #[ev 1 b n s u] w fun e w' => e = .returned (.bool false) ∧ Bel w w' := by
  unfold ev
  go_enter Tryz.func65, Tryz.ntmps65
  go_wp2_with fail
  go_ret
  exact ⟨rfl, (Bel.refl _).alloc _⟩
set_option maxRecDepth 100000 in
theorem rmay_1s (b : Bool) (s : ByteArray) (u : Int) (hs : s.toList.isEmpty = false) (w : World) : Calls Tryz.prog 65 #[ev 1 b 0 s u] w fun e w' => e = .returned (.bool false) ∧ Bel w w' := by
  unfold ev
  go_enter Tryz.func65, Tryz.ntmps65
  go_wp2_with fail
  go_ret
  exact ⟨rfl, (Bel.refl _).alloc _⟩
set_option maxRecDepth 100000 in
theorem rmay_1u (b : Bool) (u : Int) (hu : (u == 0) = false) (w : World) : Calls Tryz.prog 65 #[ev 1 b 0 ⟨#[]⟩ u] w fun e w' => e = .returned (.bool false) ∧ Bel w w' := by
  unfold ev
  go_enter Tryz.func65, Tryz.ntmps65
  go_wp2_with fail
  go_ret
  exact ⟨rfl, (Bel.refl _).alloc _⟩
set_option maxRecDepth 100000 in
theorem rmay_1 (b : Bool) (w : World) : Calls Tryz.prog 65 #[ev 1 b 0 ⟨#[]⟩ 0] w fun e w' => e = .returned (.bool true) ∧ Bel w w' := by
  unfold ev
  go_enter Tryz.func65, Tryz.ntmps65
  go_wp2_with fail
  go_ret
  exact ⟨rfl, (Bel.refl _).alloc _⟩
set_option maxRecDepth 100000 in
theorem rmay_2b (n : Int) (s : ByteArray) (u : Int) (w : World) : Calls Tryz.prog 65 #[ev 2 true n s u] w fun e w' => e = .returned (.bool false) ∧ Bel w w' := by
  unfold ev
  go_enter Tryz.func65, Tryz.ntmps65
  go_wp2_with fail
  go_ret
  exact ⟨rfl, (Bel.refl _).alloc _⟩
set_option maxRecDepth 100000 in
theorem rmay_2s (n : Int) (s : ByteArray) (u : Int) (hs : s.toList.isEmpty = false) (w : World) : Calls Tryz.prog 65 #[ev 2 false n s u] w fun e w' => e = .returned (.bool false) ∧ Bel w w' := by
  unfold ev
  go_enter Tryz.func65, Tryz.ntmps65
  go_wp2_with fail
  go_ret
  exact ⟨rfl, (Bel.refl _).alloc _⟩
set_option maxRecDepth 100000 in
theorem rmay_2u (n : Int) (u : Int) (hu : (u == 0) = false) (w : World) : Calls Tryz.prog 65 #[ev 2 false n ⟨#[]⟩ u] w fun e w' => e = .returned (.bool false) ∧ Bel w w' := by
  unfold ev
  go_enter Tryz.func65, Tryz.ntmps65
  go_wp2_with fail
  go_ret
  exact ⟨rfl, (Bel.refl _).alloc _⟩
set_option maxRecDepth 100000 in
theorem rmay_2 (n : Int) (w : World) : Calls Tryz.prog 65 #[ev 2 false n ⟨#[]⟩ 0] w fun e w' => e = .returned (.bool true) ∧ Bel w w' := by
  unfold ev
  go_enter Tryz.func65, Tryz.ntmps65
  go_wp2_with fail
  go_ret
  exact ⟨rfl, (Bel.refl _).alloc _⟩
set_option maxRecDepth 100000 in
theorem rmay_3b (n : Int) (s : ByteArray) (u : Int) (w : World) : Calls Tryz.prog 65 #[ev 3 true n s u] w fun e w' => e = .returned (.bool false) ∧ Bel w w' := by
  unfold ev
  go_enter Tryz.func65, Tryz.ntmps65
  go_wp2_with fail
  go_ret
  exact ⟨rfl, (Bel.refl _).alloc _⟩
set_option maxRecDepth 100000 in
theorem rmay_3n (n : Int) (s : ByteArray) (u : Int) (hn : (n == 0) = false) (w : World) : Calls Tryz.prog 65 #[ev 3 false n s u] w fun e w' => e = .returned (.bool false) ∧ Bel w w' := by
  unfold ev
  go_enter Tryz.func65, Tryz.ntmps65
  go_wp2_with fail
  go_ret
  exact ⟨rfl, (Bel.refl _).alloc _⟩
set_option maxRecDepth 100000 in
theorem rmay_3u (s : ByteArray) (u : Int) (hu : (u == 0) = false) (w : World) : Calls Tryz.prog 65 #[ev 3 false 0 s u] w fun e w' => e = .returned (.bool false) ∧ Bel w w' := by
  unfold ev
  go_enter Tryz.func65, Tryz.ntmps65
  go_wp2_with fail
  go_ret
  exact ⟨rfl, (Bel.refl _).alloc _⟩
set_option maxRecDepth 100000 in
theorem rmay_3l (s : ByteArray) (hm : (4096 : Int) < (s.size : Int)) (w : World) : Calls Tryz.prog 65 #[ev 3 false 0 s 0] w fun e w' => e = .returned (.bool false) ∧ Bel w w' := by
  unfold ev
  go_enter Tryz.func65, Tryz.ntmps65
  go_wp2_with fail
  go_ret
  exact ⟨congrArg (fun x => Ending.returned (Value.bool x)) (show decide ((s.size : Int) ≤ 4096) = false from decide_eq_false (by omega)), (Bel.refl _).alloc _⟩
set_option maxRecDepth 100000 in
theorem rmay_3 (s : ByteArray) (hm : (s.size : Int) ≤ 4096) (w : World) : Calls Tryz.prog 65 #[ev 3 false 0 s 0] w fun e w' => e = .returned (.bool true) ∧ Bel w w' := by
  unfold ev
  go_enter Tryz.func65, Tryz.ntmps65
  go_wp2_with fail
  go_ret
  exact ⟨rfl, (Bel.refl _).alloc _⟩
set_option maxRecDepth 100000 in
theorem rmay_4b (n : Int) (s : ByteArray) (u : Int) (w : World) : Calls Tryz.prog 65 #[ev 4 true n s u] w fun e w' => e = .returned (.bool false) ∧ Bel w w' := by
  unfold ev
  go_enter Tryz.func65, Tryz.ntmps65
  go_wp2_with fail
  go_ret
  exact ⟨rfl, (Bel.refl _).alloc _⟩
set_option maxRecDepth 100000 in
theorem rmay_4n (n : Int) (s : ByteArray) (u : Int) (hn : (n == 0) = false) (w : World) : Calls Tryz.prog 65 #[ev 4 false n s u] w fun e w' => e = .returned (.bool false) ∧ Bel w w' := by
  unfold ev
  go_enter Tryz.func65, Tryz.ntmps65
  go_wp2_with fail
  go_ret
  exact ⟨rfl, (Bel.refl _).alloc _⟩
set_option maxRecDepth 100000 in
theorem rmay_4s (s : ByteArray) (u : Int) (hs : s.toList.isEmpty = false) (w : World) : Calls Tryz.prog 65 #[ev 4 false 0 s u] w fun e w' => e = .returned (.bool false) ∧ Bel w w' := by
  unfold ev
  go_enter Tryz.func65, Tryz.ntmps65
  go_wp2_with fail
  go_ret
  exact ⟨rfl, (Bel.refl _).alloc _⟩
set_option maxRecDepth 100000 in
theorem rmay_4z  (w : World) : Calls Tryz.prog 65 #[ev 4 false 0 ⟨#[]⟩ 0] w fun e w' => e = .returned (.bool false) ∧ Bel w w' := by
  unfold ev
  go_enter Tryz.func65, Tryz.ntmps65
  go_wp2_with fail
  go_ret
  exact ⟨rfl, (Bel.refl _).alloc _⟩
set_option maxRecDepth 100000 in
theorem rmay_4 (u : Int) (hu : (0 : Int) < u) (w : World) : Calls Tryz.prog 65 #[ev 4 false 0 ⟨#[]⟩ u] w fun e w' => e = .returned (.bool true) ∧ Bel w w' := by
  unfold ev
  go_enter Tryz.func65, Tryz.ntmps65
  go_wp2_with fail
  go_ret
  exact ⟨rfl, (Bel.refl _).alloc _⟩
set_option maxRecDepth 100000 in
theorem rmay_0 (k : Int) (b : Bool) (n : Int) (s : ByteArray) (u : Int) (h1 : (k == 1) = false) (h2 : (k == 2) = false) (h3 : (k == 3) = false) (h4 : (k == 4) = false) (w : World) : Calls Tryz.prog 65 #[ev k b n s u] w fun e w' => e = .returned (.bool false) ∧ Bel w w' := by
  unfold ev
  go_enter Tryz.func65, Tryz.ntmps65
  go_wp2_with fail
  go_ret
  exact ⟨rfl, (Bel.refl _).alloc _⟩
theorem rmay_yes {k : Int} {b : Bool} {n : Int} {s : ByteArray} {u : Int} (h : mayV k b n s u) (hu : 0 ≤ u) (w : World) :
    Calls Tryz.prog 65 #[ev k b n s u] w fun e w' => e = .returned (.bool true) ∧ Bel w w' := by
  rcases h with ⟨rfl, rfl, rfl, rfl⟩ | ⟨rfl, rfl, rfl, rfl⟩ | ⟨rfl, rfl, rfl, rfl, h⟩ | ⟨rfl, rfl, rfl, rfl, h⟩
  · exact rmay_1 _ w
  · exact rmay_2 _ w
  · exact rmay_3 _ (by omega) w
  · exact rmay_4 _ (by omega) w
theorem rmay_no {k : Int} {b : Bool} {n : Int} {s : ByteArray} {u : Int} (h : ¬ mayV k b n s u) (w : World) :
    Calls Tryz.prog 65 #[ev k b n s u] w fun e w' => e = .returned (.bool false) ∧ Bel w w' := by
  by_cases k1 : k = 1
  · subst k1
    by_cases hn : n = 0
    · subst hn
      by_cases hs : s = ⟨#[]⟩
      · subst hs
        by_cases hu : u = 0
        · exact absurd (Or.inl ⟨rfl, rfl, rfl, hu⟩) h
        · exact rmay_1u _ _ (ne_beq hu) w
      · exact rmay_1s _ _ _ (ba_ne hs) w
    · exact rmay_1n _ _ _ _ (ne_beq hn) w
  by_cases k2 : k = 2
  · subst k2
    cases b with
    | true => exact rmay_2b _ _ _ w
    | false =>
      by_cases hs : s = ⟨#[]⟩
      · subst hs
        by_cases hu : u = 0
        · exact absurd (Or.inr (Or.inl ⟨rfl, rfl, rfl, hu⟩)) h
        · exact rmay_2u _ _ (ne_beq hu) w
      · exact rmay_2s _ _ _ (ba_ne hs) w
  by_cases k3 : k = 3
  · subst k3
    cases b with
    | true => exact rmay_3b _ _ _ w
    | false =>
      by_cases hn : n = 0
      · subst hn
        by_cases hu : u = 0
        · subst hu
          by_cases hm : s.size ≤ 4096
          · exact absurd (Or.inr (Or.inr (Or.inl ⟨rfl, rfl, rfl, rfl, hm⟩))) h
          · exact rmay_3l _ (by omega) w
        · exact rmay_3u _ _ (ne_beq hu) w
      · exact rmay_3n _ _ _ (ne_beq hn) w
  by_cases k4 : k = 4
  · subst k4
    cases b with
    | true => exact rmay_4b _ _ _ w
    | false =>
      by_cases hn : n = 0
      · subst hn
        by_cases hs : s = ⟨#[]⟩
        · subst hs
          by_cases hu : u = 0
          · subst hu; exact rmay_4z w
          · exact absurd (Or.inr (Or.inr (Or.inr ⟨rfl, rfl, rfl, rfl, hu⟩))) h
        · exact rmay_4s _ _ (ba_ne hs) w
      · exact rmay_4n _ _ _ (ne_beq hn) w
  exact rmay_0 _ _ _ _ _ (ne_beq k1) (ne_beq k2) (ne_beq k3) (ne_beq k4) w
theorem cat_byte (c : UInt8) (l : List UInt8) : (⟨#[c]⟩ : ByteArray) ++ ⟨l.toArray⟩ = ⟨(c :: l).toArray⟩ := ByteArray.mk_append_mk [c] l
set_option maxRecDepth 100000 in
theorem rbytes_1t  (w : World) : Calls Tryz.prog 48 #[ev 1 true 0 ⟨#[]⟩ 0] w fun e w' => e = .returned (.string ⟨(1 :: [1]).toArray⟩) ∧ Bel w w' := by
  have hcv : ∀ o, (convert 98 9 (.slice (some ⟨w.heap.size + 1, 0, none⟩) 1 1)).run Tryz.prog ((w.alloc o).alloc (.cells #[.int .u8 1] 5)) = .ok (.string ⟨#[1]⟩) ((w.alloc o).alloc (.cells #[.int .u8 1] 5)) := fun o => conv_byte 1 w o
  unfold ev
  go_enter Tryz.func48, Tryz.ntmps48
  go_wp2_with fail
  go_ret
  refine ⟨?_, ?_⟩
  · rfl
  · exact ((Bel.refl _).alloc _).alloc _
set_option maxRecDepth 100000 in
theorem rbytes_1f  (w : World) : Calls Tryz.prog 48 #[ev 1 false 0 ⟨#[]⟩ 0] w fun e w' => e = .returned (.string ⟨(1 :: [0]).toArray⟩) ∧ Bel w w' := by
  have hcv : ∀ o, (convert 98 9 (.slice (some ⟨w.heap.size + 1, 0, none⟩) 1 1)).run Tryz.prog ((w.alloc o).alloc (.cells #[.int .u8 1] 5)) = .ok (.string ⟨#[1]⟩) ((w.alloc o).alloc (.cells #[.int .u8 1] 5)) := fun o => conv_byte 1 w o
  unfold ev
  go_enter Tryz.func48, Tryz.ntmps48
  go_wp2_with fail
  go_ret
  refine ⟨?_, ?_⟩
  · rfl
  · exact ((Bel.refl _).alloc _).alloc _
set_option maxRecDepth 100000 in
theorem rbytes_2 (n : Int) (n0 : -9223372036854775808 ≤ n) (n1 : n < 9223372036854775808) (w : World) : Calls Tryz.prog 48 #[ev 2 false n ⟨#[]⟩ 0] w fun e w' => e = .returned (.string ⟨(2 :: int8 n).toArray⟩) ∧ Bel w w' := by
  have hcv : ∀ o, (convert 98 9 (.slice (some ⟨w.heap.size + 1, 0, none⟩) 1 1)).run Tryz.prog ((w.alloc o).alloc (.cells #[.int .u8 2] 5)) = .ok (.string ⟨#[2]⟩) ((w.alloc o).alloc (.cells #[.int .u8 2] 5)) := fun o => conv_byte 2 w o
  have hC := hide (fun W => refInt_any n n0 n1 W)
  have hq : ¬ (9223372036854775807 < 1 + (int8 n).length) := by simp [int8, hf_len]
  clear n0 n1
  unfold ev
  go_enter Tryz.func48, Tryz.ntmps48
  go_wp2_with (go_at_call 85; refine (hC.out _).mono ?_; rintro e w' ⟨rfl, hb⟩)
  go_ret
  refine ⟨?_, ?_⟩
  · exact congrArg (fun t => Ending.returned (Value.string t)) (cat_byte 2 (int8 n))
  · exact ((Bel.refl _).alloc _).alloc _ |>.trans hb
set_option maxRecDepth 100000 in
theorem rbytes_3 (s : ByteArray) (hs : s.size ≤ 4096) (w : World) : Calls Tryz.prog 48 #[ev 3 false 0 s 0] w fun e w' => e = .returned (.string ⟨(3 :: key s.data.toList).toArray⟩) ∧ Bel w w' := by
  have hcv : ∀ o, (convert 98 9 (.slice (some ⟨w.heap.size + 1, 0, none⟩) 1 1)).run Tryz.prog ((w.alloc o).alloc (.cells #[.int .u8 3] 5)) = .ok (.string ⟨#[3]⟩) ((w.alloc o).alloc (.cells #[.int .u8 3] 5)) := fun o => conv_byte 3 w o
  have hk := key_small s hs
  have hC := hide (fun W => refKey_any s (by omega) W)
  have hq : ¬ (9223372036854775807 < 1 + (key s.data.toList).length) := by omega
  clear hk
  unfold ev
  go_enter Tryz.func48, Tryz.ntmps48
  go_wp2_with (go_at_call 46; refine (hC.out _).mono ?_; rintro e w' ⟨rfl, hb⟩)
  go_ret
  refine ⟨?_, ?_⟩
  · exact congrArg (fun t => Ending.returned (Value.string t)) (cat_byte 3 (key s.data.toList))
  · exact ((Bel.refl _).alloc _).alloc _ |>.trans hb
set_option maxRecDepth 100000 in
theorem rbytes_4 (u : Nat) (hu : u < 2 ^ 64) (w : World) : Calls Tryz.prog 48 #[ev 4 false 0 ⟨#[]⟩ u] w fun e w' => e = .returned (.string ⟨(4 :: num u).toArray⟩) ∧ Bel w w' := by
  have hcv : ∀ o, (convert 98 9 (.slice (some ⟨w.heap.size + 1, 0, none⟩) 1 1)).run Tryz.prog ((w.alloc o).alloc (.cells #[.int .u8 4] 5)) = .ok (.string ⟨#[4]⟩) ((w.alloc o).alloc (.cells #[.int .u8 4] 5)) := fun o => conv_byte 4 w o
  have hk := num_len u hu
  have hC := hide (fun W => refNum_any u hu W)
  have hq : ¬ (9223372036854775807 < 1 + (num u).length) := by omega
  clear hk hu
  unfold ev
  go_enter Tryz.func48, Tryz.ntmps48
  go_wp2_with (go_at_call 47; refine (hC.out _).mono ?_; rintro e w' ⟨rfl, hb⟩)
  go_ret
  refine ⟨?_, ?_⟩
  · exact congrArg (fun t => Ending.returned (Value.string t)) (cat_byte 4 (num u))
  · exact ((Bel.refl _).alloc _).alloc _ |>.trans hb
theorem rbytes_yes {k : Int} {b : Bool} {n : Int} {s : ByteArray} {u : Int} (h : mayV k b n s u) (n0 : -9223372036854775808 ≤ n) (n1 : n < 9223372036854775808) (u0 : 0 ≤ u) (u1 : u < 18446744073709551616) (w : World) :
    Calls Tryz.prog 48 #[ev k b n s u] w fun e w' => e = .returned (.string ⟨(byt k b n s u).toArray⟩) ∧ Bel w w' := by
  rcases h with ⟨rfl, rfl, rfl, rfl⟩ | ⟨rfl, rfl, rfl, rfl⟩ | ⟨rfl, rfl, rfl, rfl, h⟩ | ⟨rfl, rfl, rfl, rfl, h⟩
  · cases b
    · exact rbytes_1f w
    · exact rbytes_1t w
  · exact rbytes_2 n n0 n1 w
  · exact rbytes_3 s h w
  · obtain ⟨m, rfl⟩ : ∃ m : Nat, u = (m : Int) := ⟨u.toNat, by omega⟩
    exact rbytes_4 m (by omega) w
end Go.Proofs.YtgghcfmpfneehaaGreatDoor
