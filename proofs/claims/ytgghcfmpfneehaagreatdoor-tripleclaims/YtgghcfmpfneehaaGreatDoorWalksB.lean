/- What the program's and the document's functions of numbers as bytes return: the lowest bytes of a number, the highest first, the number of such bytes, and how many bits a number has. -/
import Derived.Test.YtgghcfmpfneehaaGreatDoorBytes
import Derived.Lib.BitFns
namespace Go.Proofs.YtgghcfmpfneehaaGreatDoor
open Go.RowKit
theorem highFirst_any (x n : Nat) (hn : n ≤ 8) (w : World) :
    Calls Tryz.prog 88 #[.int .u64 (x : Int), .int .i64 (n : Int)] w fun e w' => e = .returned (.string ⟨(hf x n).toArray⟩) ∧ Bel w w' := by
  have hmk := run_make_row' (P := Tryz.prog) 98 5 (.int .u8 0) 1 Tryz.underlying98 Tryz.info5 rfl .i64 .i64 n (by omega) (by omega)
  rw [made_zeros] at hmk
  go_enter Tryz.func88, Tryz.ntmps88
  go_wp2_with fail
  go_loopw [6, 10] (fun _ i W => ∃ k : Nat, k ≤ n ∧ i = .int .i64 k ∧ W.heap[w.heap.size]? = some (.cells (vs (fl x n k)) 5) ∧ Below w.heap.size w W) (fun _ i _ => n - (intOf i).toNat)
  case atStart => exact ⟨0, Nat.zero_le _, rfl, by rw [fl_zero]; exact heap_alloc_new w _, Below.alloc (Below.refl _ _) (Nat.le_refl _) _⟩
  case round =>
    obtain ⟨k, hk, rfl, hrow, hbel⟩ := hrel
    have Rk := hide hrow
    have Bk := hide hbel
    clear hrow hbel
    by_cases hlt : k < n
    · have hll : n - 1 - k < (fl x n k).length := by rw [fl_len _ _ _ hk]; omega
      obtain ⟨c, hc⟩ : ∃ c, wr.cell? ⟨w.heap.size, n - 1 - k, none⟩ = some (vb c) :=
        ⟨_, by rw [cell_of_row _ _ _ _ _ _ Rk.out]; exact vs_get _ _ hll⟩
      have hfz : wr.frozen? ⟨w.heap.size, n - 1 - k, none⟩ = false := free_row Rk.out
      clear hll
      go_wp2_with fail
      go_roundw
      case rel =>
        refine ⟨k + 1, by omega, by go_num, ?_, Bk.out.setCell (Nat.le_refl _) _⟩
        rw [hb_int, ← fl_set _ _ _ hlt, ← vs_set]
        exact row_set Rk.out
      case measure => simp [intOf]; omega
    · obtain rfl : k = n := by omega
      have hcv := conv_row wr w.heap.size k k (hf x k) #[] _ _ (by rw [hf_len]) (by rw [Array.append_empty, ← fl_full]; exact Rk.out)
      go_wp2_with fail
      go_ret
      exact ⟨rfl, Bk.out⟩
theorem fixed_any (x n : Nat) (hn : n ≤ 8) (w : World) :
    Calls Tryz.prog 84 #[.int .u64 (x : Int), .int .i64 (n : Int)] w fun e w' => e = .returned (.string ⟨(hf x n).toArray⟩) ∧ Bel w w' := by
  have hmk := run_make_row' (P := Tryz.prog) 98 5 (.int .u8 0) 1 Tryz.underlying98 Tryz.info5 rfl .i64 .i64 n (by omega) (by omega)
  rw [made_zeros] at hmk
  go_enter Tryz.func84, Tryz.ntmps84
  go_wp2_with fail
  go_loopw [6] (fun i W => ∃ k : Nat, k ≤ n ∧ i = .int .i64 k ∧ W.heap[w.heap.size]? = some (.cells (vs (fl x n k)) 5) ∧ Below w.heap.size w W) (fun i _ => n - (intOf i).toNat)
  case atStart => exact ⟨0, Nat.zero_le _, rfl, by rw [fl_zero]; exact heap_alloc_new w _, Below.alloc (Below.refl _ _) (Nat.le_refl _) _⟩
  case round =>
    obtain ⟨k, hk, rfl, hrow, hbel⟩ := hrel
    have Rk := hide hrow
    have Bk := hide hbel
    clear hrow hbel
    by_cases hlt : k < n
    · have hll : n - 1 - k < (fl x n k).length := by rw [fl_len _ _ _ hk]; omega
      obtain ⟨c, hc⟩ : ∃ c, wr.cell? ⟨w.heap.size, n - 1 - k, none⟩ = some (vb c) :=
        ⟨_, by rw [cell_of_row _ _ _ _ _ _ Rk.out]; exact vs_get _ _ hll⟩
      have hfz : wr.frozen? ⟨w.heap.size, n - 1 - k, none⟩ = false := free_row Rk.out
      clear hll
      go_wp2_with fail
      go_roundw
      case rel =>
        refine ⟨k + 1, by omega, by go_num, ?_, Bk.out.setCell (Nat.le_refl _) _⟩
        rw [hb_int, ← fl_set _ _ _ hlt, ← vs_set]
        exact row_set Rk.out
      case measure => simp [intOf]; omega
    · obtain rfl : k = n := by omega
      have hcv := conv_row wr w.heap.size k k (hf x k) #[] _ _ (by rw [hf_len]) (by rw [Array.append_empty, ← fl_full]; exact Rk.out)
      go_wp2_with fail
      go_ret
      exact ⟨rfl, Bk.out⟩
def bg (l : List UInt8) : Nat := l.foldl (fun a c => a * 256 + c.toNat) 0
theorem bg_snoc (l : List UInt8) (c : UInt8) : bg (l ++ [c]) = bg l * 256 + c.toNat := by
  unfold bg; rw [List.foldl_append]; rfl
theorem bg_lt (l : List UInt8) : bg l < 256 ^ l.length := by
  have h : ∀ (l : List UInt8) (a k : Nat), a < 256 ^ k → l.foldl (fun a c => a * 256 + c.toNat) a < 256 ^ (k + l.length) := by
    intro l
    induction l with
    | nil => intro a k h; exact h
    | cons c l ih =>
      intro a k h
      have := ih (a * 256 + c.toNat) (k + 1) (by have := c.toNat_lt; rw [Nat.pow_succ]; omega)
      rw [List.length_cons, show k + (l.length + 1) = k + 1 + l.length by omega]; exact this
  have := h l 0 0 (by decide)
  rwa [Nat.zero_add] at this
theorem or_add (a c : Nat) (ha : a < 72057594037927936) (hc : c < 256) : bits .or .u64 ((a : Int) * 256) (c : Int) = ((a * 256 + c : Nat) : Int) := by
  have e : (a : Int) * 256 = ((a * 256 : Nat) : Int) := by simp
  rw [e, u64_or_nat _ _ (by omega) (by omega)]
  have h := Nat.shiftLeft_add_eq_or_of_lt (show c < 2 ^ 8 from hc) a
  rw [Nat.shiftLeft_eq] at h
  rw [show (256 : Nat) = 2 ^ 8 from rfl, ← h]
theorem bg_take (s : ByteArray) (k : Nat) (h : k < s.size) : bg (s.data.toList.take (k + 1)) = bg (s.data.toList.take k) * 256 + (s[k]).toNat := by
  rw [List.take_succ_eq_append_getElem (by simpa using h), bg_snoc]; rfl
theorem bg_bound (s : ByteArray) (k : Nat) (h : k < s.size) (hs : s.size ≤ 8) : bg (s.data.toList.take k) < 72057594037927936 := by
  have h1 := bg_lt (s.data.toList.take k)
  have h2 : 256 ^ (s.data.toList.take k).length ≤ 256 ^ 7 := Nat.pow_le_pow_right (by omega) (by simp; omega)
  omega
theorem number_any (s : ByteArray) (hs : s.size ≤ 8) (w : World) :
    Calls Tryz.prog 56 #[.string s] w fun e w' => e = .returned (.int .u64 (bg s.data.toList : Int)) ∧ w' = w := by
  go_enter Tryz.func56, Tryz.ntmps56
  go_wp2_with fail
  go_loop [3, 4, 7] (fun v _ i => ∃ k a : Nat, k ≤ s.size ∧ i = .int .i64 k ∧ bg (s.data.toList.take k) = a ∧ v = .int .u64 (a : Int)) (fun _ _ i => s.size - (intOf i).toNat)
  case atStart => exact ⟨0, 0, Nat.zero_le _, rfl, rfl, rfl⟩
  case round =>
    obtain ⟨k, a, hk, rfl, ha, rfl⟩ := hrel
    have Ha := hide ha
    clear ha
    by_cases hlt : k < s.size
    · have hb := (s[k]).toNat_lt
      have hal : a < 72057594037927936 := by rw [← Ha.out]; exact bg_bound s k hlt hs
      go_wp2_with fail
      go_round
      case rel => exact ⟨k + 1, a * 256 + (s[k]).toNat, by omega, by go_num, by rw [bg_take _ _ hlt, Ha.out], by rw [or_add _ _ hal hb]⟩
      case measure => simp [intOf]; omega
    · go_wp2_with fail
      go_ret
      refine ⟨?_, rfl⟩
      have h := Ha.out
      rw [List.take_of_length_le (by simp; omega)] at h
      rw [h]; rfl
theorem big_any (s : ByteArray) (hs : s.size ≤ 8) (w : World) :
    Calls Tryz.prog 62 #[.string s] w fun e w' => e = .returned (.int .u64 (bg s.data.toList : Int)) ∧ w' = w := by
  go_enter Tryz.func62, Tryz.ntmps62
  go_wp2_with fail
  go_loop [3, 4] (fun v i => ∃ k a : Nat, k ≤ s.size ∧ i = .int .i64 k ∧ bg (s.data.toList.take k) = a ∧ v = .int .u64 (a : Int)) (fun _ i => s.size - (intOf i).toNat)
  case atStart => exact ⟨0, 0, Nat.zero_le _, rfl, rfl, rfl⟩
  case round =>
    obtain ⟨k, a, hk, rfl, ha, rfl⟩ := hrel
    have Ha := hide ha
    clear ha
    by_cases hlt : k < s.size
    · have hb := (s[k]).toNat_lt
      have hal : a < 72057594037927936 := by rw [← Ha.out]; exact bg_bound s k hlt hs
      go_wp2_with fail
      go_round
      case rel => exact ⟨k + 1, a * 256 + (s[k]).toNat, by omega, by go_num, by rw [bg_take _ _ hlt, Ha.out], by rw [or_add _ _ hal hb]⟩
      case measure => simp [intOf]; omega
    · go_wp2_with fail
      go_ret
      refine ⟨?_, rfl⟩
      have h := Ha.out
      rw [List.take_of_length_le (by simp; omega)] at h
      rw [h]; rfl
theorem w_add (k a m : Nat) (hk : k ≤ 56) (ha : a ≤ 8) (hm : m = k + a) : wrap64 ((k : Int) + wrap64 (a : Int)) = (m : Int) := by
  unfold wrap64
  omega
theorem w_two (a : Nat) (ha : a ≤ 8) : wrap64 (wrap64 (a : Int)) = (a : Int) := by
  unfold wrap64
  omega
theorem tab_bits (i : Nat) (h : i < Lib.len8tab.size) : (Lib.len8tab[i]).toNat = Lib.bitLen i := by
  have h' : i < 256 := by rw [Lib.len8tab_size] at h; exact h
  have e := Lib.len8_eq ⟨i, h'⟩
  unfold Lib.len8 at e
  simp only [Int.toNat_natCast] at e
  rw [getElem?_pos Lib.len8tab i h] at e
  exact Int.ofNat_inj.1 e
theorem bits8 (b : Nat) (h : b < 256) : Lib.bitLen b ≤ 8 := Lib.bitLen_le8 ⟨b, h⟩
set_option maxHeartbeats 4000000 in
set_option maxRecDepth 100000 in
theorem len64_int (x : Int) (w : World) (h0 : 0 ≤ x) (h1 : x ≤ 18446744073709551615) :
    Calls Tryz.prog 87 #[.int .u64 x] w fun e w' => (e = .returned (.int .i64 (Lib.bitLen x.toNat : Int))) ∧ w' = w := by
  go_enter Tryz.func87, Tryz.ntmps87
  generalize hT : ByteArray.mk (List.toArray (List.append _ _)) = T
  have hT' : T = Lib.len8tab := by rw [← hT]; rfl
  clear hT
  have hs : T.size = 256 := by rw [hT']; exact Lib.len8tab_size
  have hv : Hid (∀ (i : Nat) (h : i < T.size), (T[i]).toNat = Lib.bitLen i) := by subst hT'; exact tab_bits
  clear hT'
  go_wp2
  all_goals
    go_ret
    refine ⟨congrArg Ending.returned (congrArg (Value.int IntKind.i64) ?_), rfl⟩
    rw [hv.out]
    clear hv hs
    obtain ⟨n, rfl⟩ := Int.eq_ofNat_of_zero_le h0
  · have e : ((n : Int) / 4294967296 / 65536 / 256).toNat = n / 2 ^ 56 := by omega
    rw [e]
    exact w_add 56 _ _ (by omega) (bits8 _ (by omega)) (Lib.bitLen_shift 56 n (by omega) (by omega))
  · have e : ((n : Int) / 4294967296 / 65536).toNat = n / 2 ^ 48 := by omega
    rw [e]
    exact w_add 48 _ _ (by omega) (bits8 _ (by omega)) (Lib.bitLen_shift 48 n (by omega) (by omega))
  · have e : ((n : Int) / 4294967296 / 256).toNat = n / 2 ^ 40 := by omega
    rw [e]
    exact w_add 40 _ _ (by omega) (bits8 _ (by omega)) (Lib.bitLen_shift 40 n (by omega) (by omega))
  · have e : ((n : Int) / 4294967296).toNat = n / 2 ^ 32 := by omega
    rw [e]
    exact w_add 32 _ _ (by omega) (bits8 _ (by omega)) (Lib.bitLen_shift 32 n (by omega) (by omega))
  · have e : ((n : Int) / 65536 / 256).toNat = n / 2 ^ 24 := by omega
    rw [e]
    exact w_add 24 _ _ (by omega) (bits8 _ (by omega)) (Lib.bitLen_shift 24 n (by omega) (by omega))
  · have e : ((n : Int) / 65536).toNat = n / 2 ^ 16 := by omega
    rw [e]
    exact w_add 16 _ _ (by omega) (bits8 _ (by omega)) (Lib.bitLen_shift 16 n (by omega) (by omega))
  · have e : ((n : Int) / 256).toNat = n / 2 ^ 8 := by omega
    rw [e]
    exact w_add 8 _ _ (by omega) (bits8 _ (by omega)) (Lib.bitLen_shift 8 n (by omega) (by omega))
  · rw [Int.toNat_natCast]
    exact w_two _ (bits8 _ (by omega))
theorem bitLen_pos (x : Nat) (h0 : x ≠ 0) (h : x < 2 ^ 64) : 1 ≤ Lib.bitLen x := by
  rw [Lib.bitLen_half x h0 h]; omega
theorem aux_le (f x : Nat) : Lib.bitLenAux f x ≤ f := by
  induction f generalizing x with
  | zero => simp [Lib.bitLenAux]
  | succ f ih =>
    unfold Lib.bitLenAux
    split
    · omega
    · have := ih (x / 2); omega
theorem bitLen_le (x k : Nat) (h : x < 2 ^ 64) (hk : k ≤ 64) : Lib.bitLen x ≤ k ↔ x < 2 ^ k := by
  constructor
  · intro hl
    rcases Nat.lt_or_ge x (2 ^ k) with h' | h'
    · exact h'
    · have e := Lib.bitLen_shift k x h' h
      have hq : x / 2 ^ k ≠ 0 := by
        have := Nat.div_pos h' (Nat.pow_pos (by omega)); omega
      have := bitLen_pos (x / 2 ^ k) hq (Nat.lt_of_le_of_lt (Nat.div_le_self _ _) h)
      omega
  · intro hl
    have e : Lib.bitLen x = Lib.bitLenAux k x := by unfold Lib.bitLen; exact Lib.bitLenAux_fuel k x hl 64 hk
    rw [e]; exact aux_le k x
def nb (x : Nat) : Nat := (Lib.bitLen x + 7) / 8
theorem nb_le (x n : Nat) (h : x < 2 ^ 64) (hn : n ≤ 8) : nb x ≤ n ↔ x < 2 ^ (8 * n) := by
  rw [← bitLen_le x (8 * n) h (by omega)]
  unfold nb
  omega
theorem nb8 (x : Nat) (h : x < 2 ^ 64) : nb x ≤ 8 := (nb_le x 8 h (by omega)).2 h
end Go.Proofs.YtgghcfmpfneehaaGreatDoor
