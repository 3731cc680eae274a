/- Numbers as bytes. -/
import Derived.Test.YtgofdkheffoilaaGreatWld
import Derived.Laws.BitsAllLaws
import Derived.Lib.BitFns
namespace Go.Proofs.YtgofdkheffoilaaGreat
open Go.RowKit
theorem Tryz.info5 : (Tryz.prog.info? 5).map (fun i => (i.zero, i.size, i.bytes)) = some (some (.int .u8 0), 1, 1) := by kernel_rfl

def hb (x k : Nat) : UInt8 := UInt8.ofNat (x / 2 ^ (8 * k))
def hf (x : Nat) : Nat → List UInt8
  | 0 => []
  | k + 1 => hb x k :: hf x k
theorem hf_len (x k : Nat) : (hf x k).length = k := by
  induction k with
  | zero => rfl
  | succ k ih => simp [hf, ih]
theorem hb_int (x k : Nat) : (x : Int) / 2 ^ (8 * k) % 256 = ((hb x k).toNat : Int) := by
  unfold hb; rw [UInt8.toNat_ofNat']; simp
def vb (c : UInt8) : Value := .int .u8 (c.toNat : Int)
def vs (l : List UInt8) : Array Value := (l.map vb).toArray
theorem vs_size (l : List UInt8) : (vs l).size = l.length := by simp [vs]
theorem vs_get (l : List UInt8) (p : Nat) (h : p < l.length) : (vs l)[p]? = some (vb l[p]) := by
  unfold vs; simp [h]
theorem vs_set (l : List UInt8) (p : Nat) (c : UInt8) : (vs l).setIfInBounds p (vb c) = vs (l.set p c) := by
  unfold vs; simp [List.map_set]
def fl (x n k : Nat) : List UInt8 := List.replicate (n - k) 0 ++ hf x k
theorem fl_len (x n k : Nat) (h : k ≤ n) : (fl x n k).length = n := by
  unfold fl; simp [hf_len]; omega
theorem fl_set (x n k : Nat) (h : k < n) : (fl x n k).set (n - 1 - k) (hb x k) = fl x n (k + 1) := by
  unfold fl
  have e : n - k = (n - (k + 1)) + 1 := by omega
  rw [e, List.replicate_succ', List.append_assoc, List.set_append_right _ _ (by simp; omega)]
  simp [show n - 1 - k - (n - (k + 1)) = 0 by omega, hf]
theorem fl_zero (x n : Nat) : fl x n 0 = List.replicate n 0 := by unfold fl; simp [hf]
theorem fl_full (x n : Nat) : fl x n n = hf x n := by unfold fl; simp
theorem made_zeros (k : Nat) : madeCells #[.int .u8 0] k = vs (List.replicate k 0) := by
  unfold madeCells vs
  apply Array.ext
  · simp
  · intro i h1 h2
    simp [Nat.mod_one, vb]
theorem addr_add0 (b j : Nat) : (⟨b, 0, none⟩ : Addr).add j = ⟨b, j, none⟩ := by unfold Addr.add; split <;> simp_all
theorem conv_row (W : World) (b n cap : Nat) (l : List UInt8) (rest : Array Value) (fr : Nat × Nat) (t : TypeId) (hn : n = l.length) (h : W.heap[b]? = some (.cells (vs l ++ rest) t fr)) :
    (convert 60 9 (.slice (some ⟨b, 0, none⟩) n cap)).run Tryz.prog W = .ok (.string ⟨l.toArray⟩) W := by
  subst hn
  refine run_convert_bytes_back W 60 9 5 _ cap l Tryz.underlying60 Tryz.underlying5 Tryz.underlying9 (fun j hj => ?_)
  rw [addr_add0, cell_of_row _ _ _ _ _ _ h, Array.getElem?_append_left (by rw [vs_size]; exact hj), vs_get _ _ hj]
  simp [vb]
theorem highFirst_any (x n : Nat) (hn : n ≤ 8) (w : World) :
    Calls Tryz.prog 63 #[.int .u64 (x : Int), .int .i64 (n : Int)] w fun e w' => e = .returned (.string ⟨(hf x n).toArray⟩) ∧ Bel w w' := by
  have hmk := run_make_row' (P := Tryz.prog) 60 5 (.int .u8 0) 1 Tryz.underlying60 Tryz.info5 rfl .i64 .i64 n (by omega) (by omega)
  rw [made_zeros] at hmk
  go_enter Tryz.func63, Tryz.ntmps63
  go_wp2_with fail
  go_loopw [6, 10] (fun _ i W => ∃ k : Nat, k ≤ n ∧ i = .int .i64 k ∧ W.heap[w.heap.size]? = some (.cells (vs (fl x n k)) 5) ∧ Below w.heap.size w W) (fun _ i _ => n - (intOf i).toNat)
  case atStart => exact ⟨0, Nat.zero_le _, rfl, by rw [fl_zero]; exact heap_alloc_new w _, Below.alloc (Below.refl _ _) (Nat.le_refl _) _⟩
  case round =>
    obtain ⟨k, hk, rfl, hrow, hbel⟩ := hrel
    have Rk := hide hrow
    have Bk := hide hbel
    clear hrow hbel
    by_cases hlt : k < n
    · have hll : n - 1 - k < (fl x n k).length := by rw [fl_len _ _ _ hk]; omega
      obtain ⟨c, hc⟩ : ∃ c, wr.cell? ⟨w.heap.size, n - 1 - k, none⟩ = some (vb c) :=
        ⟨_, by rw [cell_of_row _ _ _ _ _ _ Rk.out]; exact vs_get _ _ hll⟩
      have hfz : wr.frozen? ⟨w.heap.size, n - 1 - k, none⟩ = false := free_row Rk.out
      clear hll
      go_wp2_with fail
      go_roundw
      case rel =>
        refine ⟨k + 1, by omega, by go_num, ?_, Bk.out.setCell (Nat.le_refl _) _⟩
        rw [hb_int, ← fl_set _ _ _ hlt, ← vs_set]
        exact row_set Rk.out
      case measure => simp [intOf]; omega
    · obtain rfl : k = n := by omega
      have hcv := conv_row wr w.heap.size k k (hf x k) #[] _ _ (by rw [hf_len]) (by rw [Array.append_empty, ← fl_full]; exact Rk.out)
      go_wp2_with fail
      go_ret
      exact ⟨rfl, Bk.out⟩
theorem fixed_any (x n : Nat) (hn : n ≤ 8) (w : World) :
    Calls Tryz.prog 72 #[.int .u64 (x : Int), .int .i64 (n : Int)] w fun e w' => e = .returned (.string ⟨(hf x n).toArray⟩) ∧ Bel w w' := by
  have hmk := run_make_row' (P := Tryz.prog) 60 5 (.int .u8 0) 1 Tryz.underlying60 Tryz.info5 rfl .i64 .i64 n (by omega) (by omega)
  rw [made_zeros] at hmk
  go_enter Tryz.func72, Tryz.ntmps72
  go_wp2_with fail
  go_loopw [6] (fun i W => ∃ k : Nat, k ≤ n ∧ i = .int .i64 k ∧ W.heap[w.heap.size]? = some (.cells (vs (fl x n k)) 5) ∧ Below w.heap.size w W) (fun i _ => n - (intOf i).toNat)
  case atStart => exact ⟨0, Nat.zero_le _, rfl, by rw [fl_zero]; exact heap_alloc_new w _, Below.alloc (Below.refl _ _) (Nat.le_refl _) _⟩
  case round =>
    obtain ⟨k, hk, rfl, hrow, hbel⟩ := hrel
    have Rk := hide hrow
    have Bk := hide hbel
    clear hrow hbel
    by_cases hlt : k < n
    · have hll : n - 1 - k < (fl x n k).length := by rw [fl_len _ _ _ hk]; omega
      obtain ⟨c, hc⟩ : ∃ c, wr.cell? ⟨w.heap.size, n - 1 - k, none⟩ = some (vb c) :=
        ⟨_, by rw [cell_of_row _ _ _ _ _ _ Rk.out]; exact vs_get _ _ hll⟩
      have hfz : wr.frozen? ⟨w.heap.size, n - 1 - k, none⟩ = false := free_row Rk.out
      clear hll
      go_wp2_with fail
      go_roundw
      case rel =>
        refine ⟨k + 1, by omega, by go_num, ?_, Bk.out.setCell (Nat.le_refl _) _⟩
        rw [hb_int, ← fl_set _ _ _ hlt, ← vs_set]
        exact row_set Rk.out
      case measure => simp [intOf]; omega
    · obtain rfl : k = n := by omega
      have hcv := conv_row wr w.heap.size k k (hf x k) #[] _ _ (by rw [hf_len]) (by rw [Array.append_empty, ← fl_full]; exact Rk.out)
      go_wp2_with fail
      go_ret
      exact ⟨rfl, Bk.out⟩
def bg (l : List UInt8) : Nat := l.foldl (fun a c => a * 256 + c.toNat) 0
theorem bg_snoc (l : List UInt8) (c : UInt8) : bg (l ++ [c]) = bg l * 256 + c.toNat := by
  unfold bg; rw [List.foldl_append]; rfl
theorem bg_lt (l : List UInt8) : bg l < 256 ^ l.length := by
  have h : ∀ (l : List UInt8) (a k : Nat), a < 256 ^ k → l.foldl (fun a c => a * 256 + c.toNat) a < 256 ^ (k + l.length) := by
    intro l
    induction l with
    | nil => intro a k h; exact h
    | cons c l ih =>
      intro a k h
      have := ih (a * 256 + c.toNat) (k + 1) (by have := c.toNat_lt; rw [Nat.pow_succ]; omega)
      rw [List.length_cons, show k + (l.length + 1) = k + 1 + l.length by omega]; exact this
  have := h l 0 0 (by decide)
  rwa [Nat.zero_add] at this
theorem or_add (a c : Nat) (ha : a < 72057594037927936) (hc : c < 256) : bits .or .u64 ((a : Int) * 256) (c : Int) = ((a * 256 + c : Nat) : Int) := by
  have e : (a : Int) * 256 = ((a * 256 : Nat) : Int) := by simp
  rw [e, u64_or_nat _ _ (by omega) (by omega)]
  have h := Nat.shiftLeft_add_eq_or_of_lt (show c < 2 ^ 8 from hc) a
  rw [Nat.shiftLeft_eq] at h
  rw [show (256 : Nat) = 2 ^ 8 from rfl, ← h]
theorem bg_take (s : ByteArray) (k : Nat) (h : k < s.size) : bg (s.data.toList.take (k + 1)) = bg (s.data.toList.take k) * 256 + (s[k]).toNat := by
  rw [List.take_succ_eq_append_getElem (by simpa using h), bg_snoc]; rfl
theorem bg_bound (s : ByteArray) (k : Nat) (h : k < s.size) (hs : s.size ≤ 8) : bg (s.data.toList.take k) < 72057594037927936 := by
  have h1 := bg_lt (s.data.toList.take k)
  have h2 : 256 ^ (s.data.toList.take k).length ≤ 256 ^ 7 := Nat.pow_le_pow_right (by omega) (by simp; omega)
  omega
theorem number_any (s : ByteArray) (hs : s.size ≤ 8) (w : World) :
    Calls Tryz.prog 140 #[.string s] w fun e w' => e = .returned (.int .u64 (bg s.data.toList : Int)) ∧ w' = w := by
  go_enter Tryz.func140, Tryz.ntmps140
  go_wp2_with fail
  go_loop [3, 4, 7] (fun v _ i => ∃ k a : Nat, k ≤ s.size ∧ i = .int .i64 k ∧ bg (s.data.toList.take k) = a ∧ v = .int .u64 (a : Int)) (fun _ _ i => s.size - (intOf i).toNat)
  case atStart => exact ⟨0, 0, Nat.zero_le _, rfl, rfl, rfl⟩
  case round =>
    obtain ⟨k, a, hk, rfl, ha, rfl⟩ := hrel
    have Ha := hide ha
    clear ha
    by_cases hlt : k < s.size
    · have hb := (s[k]).toNat_lt
      have hal : a < 72057594037927936 := by rw [← Ha.out]; exact bg_bound s k hlt hs
      go_wp2_with fail
      go_round
      case rel => exact ⟨k + 1, a * 256 + (s[k]).toNat, by omega, by go_num, by rw [bg_take _ _ hlt, Ha.out], by rw [or_add _ _ hal hb]⟩
      case measure => simp [intOf]; omega
    · go_wp2_with fail
      go_ret
      refine ⟨?_, rfl⟩
      have h := Ha.out
      rw [List.take_of_length_le (by simp; omega)] at h
      rw [h]; rfl
theorem big_any (s : ByteArray) (hs : s.size ≤ 8) (w : World) :
    Calls Tryz.prog 115 #[.string s] w fun e w' => e = .returned (.int .u64 (bg s.data.toList : Int)) ∧ w' = w := by
  go_enter Tryz.func115, Tryz.ntmps115
  go_wp2_with fail
  go_loop [3, 4] (fun v i => ∃ k a : Nat, k ≤ s.size ∧ i = .int .i64 k ∧ bg (s.data.toList.take k) = a ∧ v = .int .u64 (a : Int)) (fun _ i => s.size - (intOf i).toNat)
  case atStart => exact ⟨0, 0, Nat.zero_le _, rfl, rfl, rfl⟩
  case round =>
    obtain ⟨k, a, hk, rfl, ha, rfl⟩ := hrel
    have Ha := hide ha
    clear ha
    by_cases hlt : k < s.size
    · have hb := (s[k]).toNat_lt
      have hal : a < 72057594037927936 := by rw [← Ha.out]; exact bg_bound s k hlt hs
      go_wp2_with fail
      go_round
      case rel => exact ⟨k + 1, a * 256 + (s[k]).toNat, by omega, by go_num, by rw [bg_take _ _ hlt, Ha.out], by rw [or_add _ _ hal hb]⟩
      case measure => simp [intOf]; omega
    · go_wp2_with fail
      go_ret
      refine ⟨?_, rfl⟩
      have h := Ha.out
      rw [List.take_of_length_le (by simp; omega)] at h
      rw [h]; rfl
theorem w_add (k a m : Nat) (hk : k ≤ 56) (ha : a ≤ 8) (hm : m = k + a) : wrap64 ((k : Int) + wrap64 (a : Int)) = (m : Int) := by
  unfold wrap64
  omega
theorem w_two (a : Nat) (ha : a ≤ 8) : wrap64 (wrap64 (a : Int)) = (a : Int) := by
  unfold wrap64
  omega
theorem tab_bits (i : Nat) (h : i < Lib.len8tab.size) : (Lib.len8tab[i]).toNat = Lib.bitLen i := by
  have h' : i < 256 := by rw [Lib.len8tab_size] at h; exact h
  have e := Lib.len8_eq ⟨i, h'⟩
  unfold Lib.len8 at e
  simp only [Int.toNat_natCast] at e
  rw [getElem?_pos Lib.len8tab i h] at e
  exact Int.ofNat_inj.1 e
theorem bits8 (b : Nat) (h : b < 256) : Lib.bitLen b ≤ 8 := Lib.bitLen_le8 ⟨b, h⟩
set_option maxHeartbeats 4000000 in
set_option maxRecDepth 100000 in
theorem len64_int (x : Int) (w : World) (h0 : 0 ≤ x) (h1 : x ≤ 18446744073709551615) :
    Calls Tryz.prog 62 #[.int .u64 x] w fun e w' => (e = .returned (.int .i64 (Lib.bitLen x.toNat : Int))) ∧ w' = w := by
  go_enter Tryz.func62, Tryz.ntmps62
  generalize hT : ByteArray.mk (List.toArray (List.append _ _)) = T
  have hT' : T = Lib.len8tab := by rw [← hT]; rfl
  clear hT
  have hs : T.size = 256 := by rw [hT']; exact Lib.len8tab_size
  have hv : Hid (∀ (i : Nat) (h : i < T.size), (T[i]).toNat = Lib.bitLen i) := by subst hT'; exact tab_bits
  clear hT'
  go_wp2
  all_goals
    go_ret
    refine ⟨congrArg Ending.returned (congrArg (Value.int IntKind.i64) ?_), rfl⟩
    rw [hv.out]
    clear hv hs
    obtain ⟨n, rfl⟩ := Int.eq_ofNat_of_zero_le h0
  · have e : ((n : Int) / 4294967296 / 65536 / 256).toNat = n / 2 ^ 56 := by omega
    rw [e]
    exact w_add 56 _ _ (by omega) (bits8 _ (by omega)) (Lib.bitLen_shift 56 n (by omega) (by omega))
  · have e : ((n : Int) / 4294967296 / 65536).toNat = n / 2 ^ 48 := by omega
    rw [e]
    exact w_add 48 _ _ (by omega) (bits8 _ (by omega)) (Lib.bitLen_shift 48 n (by omega) (by omega))
  · have e : ((n : Int) / 4294967296 / 256).toNat = n / 2 ^ 40 := by omega
    rw [e]
    exact w_add 40 _ _ (by omega) (bits8 _ (by omega)) (Lib.bitLen_shift 40 n (by omega) (by omega))
  · have e : ((n : Int) / 4294967296).toNat = n / 2 ^ 32 := by omega
    rw [e]
    exact w_add 32 _ _ (by omega) (bits8 _ (by omega)) (Lib.bitLen_shift 32 n (by omega) (by omega))
  · have e : ((n : Int) / 65536 / 256).toNat = n / 2 ^ 24 := by omega
    rw [e]
    exact w_add 24 _ _ (by omega) (bits8 _ (by omega)) (Lib.bitLen_shift 24 n (by omega) (by omega))
  · have e : ((n : Int) / 65536).toNat = n / 2 ^ 16 := by omega
    rw [e]
    exact w_add 16 _ _ (by omega) (bits8 _ (by omega)) (Lib.bitLen_shift 16 n (by omega) (by omega))
  · have e : ((n : Int) / 256).toNat = n / 2 ^ 8 := by omega
    rw [e]
    exact w_add 8 _ _ (by omega) (bits8 _ (by omega)) (Lib.bitLen_shift 8 n (by omega) (by omega))
  · rw [Int.toNat_natCast]
    exact w_two _ (bits8 _ (by omega))
theorem bitLen_pos (x : Nat) (h0 : x ≠ 0) (h : x < 2 ^ 64) : 1 ≤ Lib.bitLen x := by
  rw [Lib.bitLen_half x h0 h]; omega
theorem aux_le (f x : Nat) : Lib.bitLenAux f x ≤ f := by
  induction f generalizing x with
  | zero => simp [Lib.bitLenAux]
  | succ f ih =>
    unfold Lib.bitLenAux
    split
    · omega
    · have := ih (x / 2); omega
theorem bitLen_le (x k : Nat) (h : x < 2 ^ 64) (hk : k ≤ 64) : Lib.bitLen x ≤ k ↔ x < 2 ^ k := by
  constructor
  · intro hl
    rcases Nat.lt_or_ge x (2 ^ k) with h' | h'
    · exact h'
    · have e := Lib.bitLen_shift k x h' h
      have hq : x / 2 ^ k ≠ 0 := by
        have := Nat.div_pos h' (Nat.pow_pos (by omega)); omega
      have := bitLen_pos (x / 2 ^ k) hq (Nat.lt_of_le_of_lt (Nat.div_le_self _ _) h)
      omega
  · intro hl
    have e : Lib.bitLen x = Lib.bitLenAux k x := by unfold Lib.bitLen; exact Lib.bitLenAux_fuel k x hl 64 hk
    rw [e]; exact aux_le k x
def nb (x : Nat) : Nat := (Lib.bitLen x + 7) / 8
theorem nb_le (x n : Nat) (h : x < 2 ^ 64) (hn : n ≤ 8) : nb x ≤ n ↔ x < 2 ^ (8 * n) := by
  rw [← bitLen_le x (8 * n) h (by omega)]
  unfold nb
  omega
theorem nb8 (x : Nat) (h : x < 2 ^ 64) : nb x ≤ 8 := (nb_le x 8 h (by omega)).2 h
end Go.Proofs.YtgofdkheffoilaaGreat
