/- What the program's May answers, said by what a value may be; truth, fieldBytes and Bytes; for every value. -/
import Derived.Test.YtgghcfmpfneehaaGreatDoorValA
import Derived.Test.YtgghcfmpfneehaaGreatDoorWalksC
import Derived.Deep.RegionHeld
namespace Go.Proofs.YtgghcfmpfneehaaGreatDoor
open Go.RowKit
/-- A value may be: a truth, a number, a text of at most 4096 bytes, a uid above 0; no other field. -/
def mayV (k : Int) (b : Bool) (n : Int) (s : ByteArray) (u : Int) : Prop :=
  (k = 1 ∧ n = 0 ∧ s = ⟨#[]⟩ ∧ u = 0) ∨ (k = 2 ∧ b = false ∧ s = ⟨#[]⟩ ∧ u = 0) ∨ (k = 3 ∧ b = false ∧ n = 0 ∧ u = 0 ∧ s.size ≤ 4096) ∨ (k = 4 ∧ b = false ∧ n = 0 ∧ s = ⟨#[]⟩ ∧ u ≠ 0)
theorem size_nil : (⟨#[]⟩ : ByteArray).size = 0 := rfl
theorem ba_ne {s : ByteArray} (h : s ≠ ⟨#[]⟩) : s.toList.isEmpty = false := ba_nil_ne fun h0 => h (ba_nil h0)
theorem may_yes {k : Int} {b : Bool} {n : Int} {s : ByteArray} {u : Int} (h : mayV k b n s u) (w : World) :
    Calls Tryz.prog 60 #[ev k b n s u] w fun e w' => e = .returned (.int .i64 0) ∧ Bel w w' := by
  rcases h with ⟨rfl, rfl, rfl, rfl⟩ | ⟨rfl, rfl, rfl, rfl⟩ | ⟨rfl, rfl, rfl, rfl, h⟩ | ⟨rfl, rfl, rfl, rfl, h⟩
  · exact may_1 _ w
  · exact may_2 _ w
  · exact may_3 _ (by omega) w
  · exact may_4 _ (ne_beq h) w
theorem may_no {k : Int} {b : Bool} {n : Int} {s : ByteArray} {u : Int} (h : ¬ mayV k b n s u) (w : World) :
    Calls Tryz.prog 60 #[ev k b n s u] w fun e w' => e = .returned (.int .i64 30) ∧ Bel w w' := by
  by_cases k1 : k = 1
  · subst k1
    by_cases hn : n = 0
    · subst hn
      by_cases hs : s = ⟨#[]⟩
      · subst hs
        by_cases hu : u = 0
        · exact absurd (Or.inl ⟨rfl, rfl, rfl, hu⟩) h
        · exact may_1u _ _ (ne_beq hu) w
      · exact may_1s _ _ _ (ba_ne hs) w
    · exact may_1n _ _ _ _ (ne_beq hn) w
  by_cases k2 : k = 2
  · subst k2
    cases b with
    | true => exact may_2b _ _ _ w
    | false =>
      by_cases hs : s = ⟨#[]⟩
      · subst hs
        by_cases hu : u = 0
        · exact absurd (Or.inr (Or.inl ⟨rfl, rfl, rfl, hu⟩)) h
        · exact may_2u _ _ (ne_beq hu) w
      · exact may_2s _ _ _ (ba_ne hs) w
  by_cases k3 : k = 3
  · subst k3
    by_cases hm : s.size ≤ 4096
    · have hm' : (s.size : Int) ≤ 4096 := by omega
      cases b with
      | true => exact may_3b _ _ _ hm' w
      | false =>
        by_cases hn : n = 0
        · subst hn
          by_cases hu : u = 0
          · exact absurd (Or.inr (Or.inr (Or.inl ⟨rfl, rfl, rfl, hu, hm⟩))) h
          · exact may_3u _ _ hm' (ne_beq hu) w
        · exact may_3n _ _ _ hm' (ne_beq hn) w
    · exact may_3l _ _ _ _ (by omega) w
  by_cases k4 : k = 4
  · subst k4
    by_cases hu : u = 0
    · subst hu; exact may_4z _ _ _ w
    by_cases hm : s.size ≤ 4096
    · have hm' : (s.size : Int) ≤ 4096 := by omega
      cases b with
      | true => exact may_4b _ _ _ (ne_beq hu) hm' w
      | false =>
        by_cases hn : n = 0
        · subst hn
          by_cases hs : s = ⟨#[]⟩
          · exact absurd (Or.inr (Or.inr (Or.inr ⟨rfl, rfl, rfl, hs, hu⟩))) h
          · exact may_4s _ _ (ne_beq hu) hm' (ba_ne hs) w
        · exact may_4n _ _ _ (ne_beq hu) hm' (ne_beq hn) w
    · exact may_4l _ _ _ _ (ne_beq hu) (by omega) w
  exact may_0 _ _ _ _ _ (ne_beq k1) (ne_beq k2) (ne_beq k3) (ne_beq k4) w
def bt (b : Bool) : UInt8 := if b then 1 else 0
theorem truth_any (b : Bool) (w : World) : Calls Tryz.prog 112 #[.bool b] w fun e w' => e = .returned (.int .u8 ((bt b).toNat : Int)) ∧ w' = w := by
  cases b
  · go_enter Tryz.func112, Tryz.ntmps112
    go_wp2
    go_ret
    exact ⟨rfl, rfl⟩
  · go_enter Tryz.func112, Tryz.ntmps112
    go_wp2
    go_ret
    exact ⟨rfl, rfl⟩
theorem conv_at (c : UInt8) (W : World) (B : Nat) (h : W.heap[B]? = some (.cells #[.int .u8 (c.toNat : Int)] 5)) : (convert 98 9 (.slice (some ⟨B, 0, none⟩) 1 1)).run Tryz.prog W = .ok (.string ⟨#[c]⟩) W := by
  have := conv_row W B 1 1 [c] #[] (0, 0) 5 rfl (by simpa [vs, vb] using h)
  simpa using this
theorem conv_byte (c : UInt8) (w : World) (o : Obj) : (convert 98 9 (.slice (some ⟨w.heap.size + 1, 0, none⟩) 1 1)).run Tryz.prog ((w.alloc o).alloc (.cells #[.int .u8 (c.toNat : Int)] 5)) = .ok (.string ⟨#[c]⟩) ((w.alloc o).alloc (.cells #[.int .u8 (c.toNat : Int)] 5)) := by
  have h := heap_alloc_new (w.alloc o) (.cells #[.int .u8 (c.toNat : Int)] 5)
  have e : (w.alloc o).heap.size = w.heap.size + 1 := by simp
  rw [e] at h
  exact conv_at c _ _ h
set_option maxRecDepth 100000 in
theorem field_1 (b : Bool) (w : World) : Calls Tryz.prog 86 #[ev 1 b 0 ⟨#[]⟩ 0] w fun e w' => e = .returned (.string ⟨#[bt b]⟩) ∧ Bel w w' := by
  have hC := hide (fun W => truth_any b W)
  have hcv := fun o => conv_byte (bt b) w o
  unfold ev
  go_enter Tryz.func86, Tryz.ntmps86
  go_wp2_with (go_at_call 112; refine (hC.out _).mono ?_; rintro e w' ⟨rfl, rfl⟩)
  go_ret
  exact ⟨rfl, ((Bel.refl _).alloc _).alloc _⟩
set_option maxRecDepth 100000 in
theorem field_2 (n : Int) (h0 : -9223372036854775808 ≤ n) (h1 : n < 9223372036854775808) (w : World) : Calls Tryz.prog 86 #[ev 2 false n ⟨#[]⟩ 0] w fun e w' => e = .returned (.string ⟨(int8 n).toArray⟩) ∧ Bel w w' := by
  have hC := hide (fun W => int_any n h0 h1 W)
  unfold ev
  go_enter Tryz.func86, Tryz.ntmps86
  go_wp2_with (go_at_call 113; refine (hC.out _).mono ?_; rintro e w' ⟨rfl, hb⟩)
  go_ret
  exact ⟨rfl, ((Bel.refl _).alloc _).trans hb⟩
set_option maxRecDepth 100000 in
theorem field_3 (s : ByteArray) (hs : (key s.data.toList).length ≤ 200000000000000) (w : World) : Calls Tryz.prog 86 #[ev 3 false 0 s 0] w fun e w' => e = .returned (.string ⟨(key s.data.toList).toArray⟩) ∧ Bel w w' := by
  have hC := hide (fun W => key_any s hs W)
  unfold ev
  go_enter Tryz.func86, Tryz.ntmps86
  go_wp2_with (go_at_call 81; refine (hC.out _).mono ?_; rintro e w' ⟨rfl, hb⟩)
  go_ret
  exact ⟨rfl, ((Bel.refl _).alloc _).trans hb⟩
set_option maxRecDepth 100000 in
theorem field_4 (u : Nat) (h : u < 2 ^ 64) (w : World) : Calls Tryz.prog 86 #[ev 4 false 0 ⟨#[]⟩ u] w fun e w' => e = .returned (.string ⟨(num u).toArray⟩) ∧ Bel w w' := by
  have hC := hide (fun W => num_any u h W)
  unfold ev
  go_enter Tryz.func86, Tryz.ntmps86
  go_wp2_with (go_at_call 51; refine (hC.out _).mono ?_; rintro e w' ⟨rfl, hb⟩)
  go_ret
  exact ⟨rfl, ((Bel.refl _).alloc _).trans hb⟩
set_option maxRecDepth 100000 in
theorem bytes_no {k : Int} {b : Bool} {n : Int} {s : ByteArray} {u : Int} (h : ¬ mayV k b n s u) (w : World) :
    Calls Tryz.prog 50 #[ev k b n s u] w fun e w' => e = .returned (.tuple #[.string ⟨#[]⟩, .int .i64 30]) ∧ Bel w w' := by
  have hC := hide (fun W => may_no h W)
  unfold ev at hC ⊢
  go_enter Tryz.func50, Tryz.ntmps50
  go_wp2_with (go_at_call 60; refine (hC.out _).mono ?_; rintro e w' ⟨rfl, hb⟩)
  go_ret2
  exact ⟨rfl, ((Bel.refl _).alloc _).trans hb⟩
theorem S5.alloc {B : Nat} {k : Int} {b : Bool} {n : Int} {s : ByteArray} {u : Int} {W : World} (h : S5 B k b n s u W) (o : Obj) : S5 B k b n s u (W.alloc o) := h.next ((Bel.refl _).alloc o)
theorem S5.drew {B : Nat} {k : Int} {b : Bool} {n : Int} {s : ByteArray} {u : Int} {W : World} (h : S5 B k b n s u W) : S5 B k b n s u W.drew := h.next (Bel.refl _).drew
theorem S5.first (k : Int) (b : Bool) (n : Int) (s : ByteArray) (u : Int) (W : World) : S5 W.heap.size k b n s u (W.alloc (.cells #[.int .u8 k, .bool b, .int .i64 n, .string s, .int .u64 u] 25)) := S5.new k b n s u W
theorem conv_new1 (c : UInt8) (W : World) : (convert 98 9 (.slice (some ⟨W.heap.size, 0, none⟩) 1 1)).run Tryz.prog (W.alloc (.cells #[.int .u8 (c.toNat : Int)] 5)) = .ok (.string ⟨#[c]⟩) (W.alloc (.cells #[.int .u8 (c.toNat : Int)] 5)) :=
  conv_at c _ _ (heap_alloc_new W _)
theorem conv_new1' (c : UInt8) (W : World) : (convert 98 9 (.slice (some ⟨W.heap.size, 0, none⟩) 1 1)).run Tryz.prog (W.alloc (.cells #[.int .u8 (c.toNat : Int)] 5)).drew = .ok (.string ⟨#[c]⟩) (W.alloc (.cells #[.int .u8 (c.toNat : Int)] 5)).drew :=
  conv_at c _ _ (heap_alloc_new W _)
theorem conv_then1 {c : UInt8} {W W' : World} (hb : Bel (W.alloc (.cells #[.int .u8 (c.toNat : Int)] 5)).drew W') : (convert 98 9 (.slice (some ⟨W.heap.size, 0, none⟩) 1 1)).run Tryz.prog W' = .ok (.string ⟨#[c]⟩) W' :=
  conv_at c _ _ (hb.row (heap_alloc_new W _))
set_option maxHeartbeats 1000000 in
set_option maxRecDepth 100000 in
theorem bytes_ok (k : UInt8) (b : Bool) (n : Int) (s : ByteArray) (u : Int) (h : mayV (k.toNat : Int) b n s u) (x : List UInt8) (hx : x.length ≤ 1000000000000000) (hf : ∀ W, Calls Tryz.prog 86 #[ev (k.toNat : Int) b n s u] W fun e w' => e = .returned (.string ⟨x.toArray⟩) ∧ Bel W w') (w : World) :
    Calls Tryz.prog 50 #[ev (k.toNat : Int) b n s u] w fun e w' => e = .returned (.tuple #[.string ⟨(k :: x).toArray⟩, .int .i64 0]) ∧ Bel w w' := by
  have hC := hide (fun W => may_yes h W)
  have hF := hide hf
  have hq : ¬ (9223372036854775807 < 1 + x.length) := by omega
  have hcv1 := conv_new1 k
  have hcv2 := conv_new1' k
  have hb0 : Bel w (w.alloc (.cells #[.int .u8 (k.toNat : Int), .bool b, .int .i64 n, .string s, .int .u64 u] 25)) := (Bel.refl _).alloc _
  have h5 := hide (S5.first (k.toNat : Int) b n s u w)
  clear h hf
  unfold ev at hC hF ⊢
  go_enter Tryz.func50, Tryz.ntmps50
  go_wp2_with (go_at_call 60; refine (hC.out _).mono ?_; rintro e w1 ⟨rfl, hb1⟩)
  have h6 := h5.out.next hb1
  have hb2 := hb0.trans hb1
  clear h5 hb0 hb1
  generalize w.heap.size = B at *
  have h6' : S5 B (k.toNat : Int) b n s u w1.drew := h6.drew
  clear h6
  go_region_held (fun W => W.cell? ⟨B, 0, none⟩ = some (.int .u8 (k.toNat : Int)) ∧ W.cell? ⟨B, 1, none⟩ = some (.bool b) ∧ W.cell? ⟨B, 2, none⟩ = some (.int .i64 n) ∧ W.cell? ⟨B, 3, none⟩ = some (.string s) ∧ W.cell? ⟨B, 4, none⟩ = some (.int .u64 u)) (first | assumption | exact S5.next (by assumption) (by assumption) | exact S5.alloc (by assumption) _) ((go_at_call 86; refine (hF.out _).mono ?_; rintro e w'' ⟨rfl, hb⟩; first | (have hc3 := conv_then1 hb) | skip))
  all_goals
    go_wp2
    go_ret2
    refine ⟨?_, ?_⟩
    · exact congrArg (fun t => Ending.returned (Value.tuple #[Value.string t, Value.int .i64 0])) (ByteArray.mk_append_mk [k] x)
    · first | exact (hb2.alloc _).drew.trans hb | exact (hb2.drew.trans hb).alloc _
/-- The bytes of a value that may be. -/
def byt (k : Int) (b : Bool) (n : Int) (s : ByteArray) (u : Int) : List UInt8 :=
  if k = 1 then [1, bt b] else if k = 2 then 2 :: int8 n else if k = 3 then 3 :: key s.data.toList else 4 :: num u.toNat
theorem esc_le (l : List UInt8) : (esc l).length ≤ 2 * l.length := by
  induction l with
  | nil => simp [esc]
  | cons c l ih =>
    have : esc (c :: l) = (if c = 0 then [0, 255] else [c]) ++ esc l := by simp [esc]
    rw [this]
    split <;> simp <;> omega
theorem key_small (s : ByteArray) (h : s.size ≤ 4096) : (key s.data.toList).length ≤ 10000 := by
  have h1 := esc_le s.data.toList
  have h2 : s.data.toList.length = s.size := rfl
  rw [key_len]; omega
theorem bytes_yes {k : Int} {b : Bool} {n : Int} {s : ByteArray} {u : Int} (h : mayV k b n s u) (n0 : -9223372036854775808 ≤ n) (n1 : n < 9223372036854775808) (u0 : 0 ≤ u) (u1 : u < 18446744073709551616) (w : World) :
    Calls Tryz.prog 50 #[ev k b n s u] w fun e w' => e = .returned (.tuple #[.string ⟨(byt k b n s u).toArray⟩, .int .i64 0]) ∧ Bel w w' := by
  rcases h with ⟨rfl, rfl, rfl, rfl⟩ | ⟨rfl, rfl, rfl, rfl⟩ | ⟨rfl, rfl, rfl, rfl, h⟩ | ⟨rfl, rfl, rfl, rfl, h⟩
  · exact bytes_ok 1 b 0 ⟨#[]⟩ 0 (Or.inl ⟨rfl, rfl, rfl, rfl⟩) [bt b] (by simp) (fun W => field_1 b W) w
  · exact bytes_ok 2 false n ⟨#[]⟩ 0 (Or.inr (Or.inl ⟨rfl, rfl, rfl, rfl⟩)) (int8 n) (by simp [int8, hf_len]) (fun W => field_2 n n0 n1 W) w
  · have := key_small s h
    exact bytes_ok 3 false 0 s 0 (Or.inr (Or.inr (Or.inl ⟨rfl, rfl, rfl, rfl, h⟩))) (key s.data.toList) (by omega) (fun W => field_3 s (by omega) W) w
  · obtain ⟨m, rfl⟩ : ∃ m : Nat, u = (m : Int) := ⟨u.toNat, by omega⟩
    have := num_len m (by omega)
    exact bytes_ok 4 false 0 ⟨#[]⟩ (m : Int) (Or.inr (Or.inr (Or.inr ⟨rfl, rfl, rfl, rfl, h⟩))) (num m) (by omega) (fun W => field_4 m (by omega) W) w
end Go.Proofs.YtgghcfmpfneehaaGreatDoor
