/- Frames: what Frame and ReadFrame return; for every text. -/
import Derived.Test.YtgimciacapfbfaaGreatDoorFau
import Derived.Laws.BitsAllLaws
import Derived.Deep.OwnRows
import Derived.Laws.IdiomStrings
import Derived.Deep.WholeRow
import Derived.Lib.BufferWrite
import Derived.Laws.CopyOwn
import Derived.Deep.RegionHeld3
namespace Go.Proofs.YtgimciacapfbfaaGreatDoor
open Go.RowKit
def U (x : BitVec 32) : Int := (x.toNat : Int)
theorem U_lo (x : BitVec 32) : 0 ≤ U x := by unfold U; omega
theorem U_hi (x : BitVec 32) : U x < 4294967296 := by have := x.isLt; unfold U; omega
theorem U_inj {x y : BitVec 32} (h : U x = U y) : x = y := by
  apply BitVec.eq_of_toNat_eq; unfold U at h; omega
theorem U_of (a : Int) (h0 : 0 ≤ a) (h1 : a < 4294967296) : ∃ x : BitVec 32, a = U x :=
  ⟨BitVec.ofNat 32 a.toNat, by unfold U; rw [BitVec.toNat_ofNat, Nat.mod_eq_of_lt (by omega)]; omega⟩
theorem U_beq (x y : BitVec 32) : (U x == U y) = (x == y) := by
  rw [Bool.eq_iff_iff, beq_iff_eq, beq_iff_eq]
  exact ⟨U_inj, fun h => by rw [h]⟩
theorem U_xor (x y : BitVec 32) : bits .xor .u32 (U x) (U y) = U (x ^^^ y) := by
  unfold U; rw [u32_xor_nat _ _ x.isLt y.isLt, BitVec.toNat_xor]
theorem U_or (x y : BitVec 32) : bits .or .u32 (U x) (U y) = U (x ||| y) := by
  unfold U; rw [u32_or_nat _ _ x.isLt y.isLt, BitVec.toNat_or]
theorem U_and (x y : BitVec 32) : bits .and .u32 (U x) (U y) = U (x &&& y) := by
  unfold U; rw [u32_and_nat _ _ x.isLt y.isLt, BitVec.toNat_and]
theorem xor_ones (x : BitVec 32) : x ^^^ 4294967295#32 = ~~~x := by
  rw [show 4294967295#32 = BitVec.allOnes 32 from by decide, BitVec.xor_allOnes]
theorem U_ones (x : BitVec 32) : bits .xor .u32 (U x) 4294967295 = U (~~~x) := by
  have h : (4294967295 : Int) = U 4294967295#32 := by decide
  rw [h, U_xor, xor_ones]
theorem U_not (x : BitVec 32) : bits .xor .u32 IntKind.u32.max (U x) = U (~~~x) := by
  have h : IntKind.u32.max = U 4294967295#32 := by decide
  rw [h, U_xor, BitVec.xor_comm, xor_ones]
theorem U_shr (x : BitVec 32) (k : Nat) : U x / (2 : Int) ^ k = U (x >>> k) := by
  unfold U; rw [BitVec.toNat_ushiftRight, Nat.shiftRight_eq_div_pow]; simp
theorem U_half (x : BitVec 32) : U x / (2 : Int) = U (x >>> 1) := by
  rw [← U_shr x 1, Int.pow_one]
def poly : BitVec 32 := 3988292384#32
def tb (x : BitVec 32) : BitVec 32 := if x.getLsbD 0 then (x >>> 1) ^^^ poly else x >>> 1
def tbN : Nat → BitVec 32 → BitVec 32
  | 0, x => x
  | k + 1, x => tb (tbN k x)
def turn (x : BitVec 32) : BitVec 32 := tbN 8 x
def B (c : UInt8) : BitVec 32 := BitVec.ofNat 32 c.toNat
def feed : BitVec 32 → List UInt8 → BitVec 32
  | r, [] => r
  | r, c :: s => feed (turn (r ^^^ B c)) s
def more (sum : BitVec 32) (s : List UInt8) : BitVec 32 := ~~~(feed (~~~sum) s)
theorem U_B (c : UInt8) : (c.toNat : Int) = U (B c) := by
  unfold U B; rw [BitVec.toNat_ofNat, Nat.mod_eq_of_lt (by have := c.toNat_lt; omega)]
theorem odd_iff (x : BitVec 32) : (bits .and .u32 (U x) 1 == 1) = x.getLsbD 0 := by
  have e : bits .and .u32 (U x) 1 = ((x.toNat % 2 : Nat) : Int) := by
    unfold U; rw [show (1 : Int) = ((1 : Nat) : Int) from rfl, u32_and_nat _ _ x.isLt (by omega), nat_mask1]
  rw [e, BitVec.getLsbD, Nat.testBit_zero, Bool.eq_iff_iff, beq_iff_eq, decide_eq_true_iff]
  omega
theorem tb_odd {x : BitVec 32} (h : (bits .and .u32 (U x) 1 == 1) = true) : bits .xor .u32 (U x / 2) 3988292384 = U (tb x) := by
  rw [odd_iff] at h
  have e : (3988292384 : Int) = U poly := by decide
  rw [e, U_half, U_xor]; unfold tb; rw [if_pos h]
theorem tb_even {x : BitVec 32} (h : (bits .and .u32 (U x) 1 == 1) = false) : U x / 2 = U (tb x) := by
  rw [odd_iff] at h
  rw [U_half]; unfold tb; rw [if_neg (by rw [h]; exact Bool.false_ne_true)]
theorem feed_append (r : BitVec 32) (s t : List UInt8) : feed r (s ++ t) = feed (feed r s) t := by
  induction s generalizing r with
  | nil => rfl
  | cons c s ih => simp only [List.cons_append, feed]; exact ih _
theorem more_append (r : BitVec 32) (s t : List UInt8) : more (more r s) t = more r (s ++ t) := by
  unfold more; rw [BitVec.not_not, feed_append]
theorem feed_snoc (r : BitVec 32) (s : ByteArray) (k : Nat) (h : k < s.size) :
    feed r (s.data.toList.take (k + 1)) = turn (feed r (s.data.toList.take k) ^^^ B s[k]) := by
  rw [List.take_succ_eq_append_getElem (by simpa using h), feed_append]; rfl
theorem more_digits : more 0#32 [49, 50, 51, 52, 53, 54, 55, 56, 57] = 3421780262#32 := by decide +kernel
set_option maxRecDepth 100000 in
theorem turn_any (v : Int) (x : BitVec 32) (hv : v = U x) (w : World) :
    Calls Tryz.prog 123 #[.int .u32 v] w fun e w' => e = .returned (.int .u32 (U (turn x))) ∧ w' = w := by
  subst hv
  go_enter Tryz.func123, Tryz.ntmps123
  go_wp2
  go_loop [0, 3, 4] (fun r _ i => ∃ k : Nat, k ≤ 8 ∧ i = .int .i64 k ∧ r = .int .u32 (U (tbN k x))) (fun _ _ i => 8 - (intOf i).toNat)
  case atStart => exact ⟨0, Nat.zero_le _, rfl, rfl⟩
  case round =>
    obtain ⟨k, hk, rfl, rfl⟩ := hrel
    by_cases hlt : k < 8
    · go_wp2
      all_goals
        go_round
        case rel => exact ⟨k + 1, by omega, by go_num, by first | rw [tb_odd ‹_›]; rfl | rw [tb_even ‹_›]; rfl⟩
        case measure => simp [intOf]; omega
    · go_wp2
      go_ret
      have : k = 8 := by omega
      subst this
      exact ⟨rfl, rfl⟩
set_option maxRecDepth 100000 in
theorem more_any (v : Int) (x : BitVec 32) (hv : v = U x) (s : ByteArray) (hs : s.size ≤ maxLen) (w : World) :
    Calls Tryz.prog 101 #[.int .u32 v, .string s] w fun e w' => e = .returned (.int .u32 (U (more x s.data.toList))) ∧ w' = w := by
  subst hv
  unfold maxLen at hs
  have hn := U_not x
  go_enter Tryz.func101, Tryz.ntmps101
  go_wp2_with fail
  clear hn
  go_loop [5, 6, 11] (fun r _ i => ∃ k : Nat, k ≤ s.size ∧ i = .int .i64 k ∧ r = .int .u32 (U (feed (~~~x) (s.data.toList.take k)))) (fun _ _ i => s.size - (intOf i).toNat)
  case atStart => exact ⟨0, Nat.zero_le _, rfl, rfl⟩
  case round =>
    obtain ⟨k, hk, rfl, rfl⟩ := hrel
    by_cases hlt : k < s.size
    · have hb := (s[k]).toNat_lt
      go_wp2_with (go_at_call 123; refine (turn_any _ (feed (~~~x) (s.data.toList.take k) ^^^ B s[k]) (by rw [← U_xor, ← U_B]) _).mono ?_; rintro e w' ⟨rfl, rfl⟩)
      go_round
      case rel => exact ⟨k + 1, by omega, by go_num, by rw [feed_snoc _ _ _ hlt]⟩
      case measure => simp [intOf]; omega
    · have hn := U_not (feed (~~~x) (s.data.toList.take k))
      go_wp2
      go_ret
      refine ⟨?_, rfl⟩
      rw [List.take_of_length_le (by simp; omega)]; rfl
set_option maxRecDepth 100000 in
theorem of_any (s : ByteArray) (hs : s.size ≤ maxLen) (w : World) :
    Calls Tryz.prog 102 #[.string s] w fun e w' => e = .returned (.int .u32 (U (more 0#32 s.data.toList))) ∧ w' = w := by
  go_enter Tryz.func102, Tryz.ntmps102
  go_wp2_with (go_at_call 101; refine (more_any _ 0#32 (by decide) s hs _).mono ?_; rintro e w' ⟨rfl, rfl⟩)
  go_ret
  exact ⟨rfl, rfl⟩
theorem Tryz.info5 : (Tryz.prog.info? 5).map (fun i => (i.zero, i.size, i.bytes)) = some (some (.int .u8 0), 1, 1) := by kernel_rfl
def hb (x k : Nat) : UInt8 := UInt8.ofNat (x / 2 ^ (8 * k))
def hf (x : Nat) : Nat → List UInt8
  | 0 => []
  | k + 1 => hb x k :: hf x k
theorem hf_len (x k : Nat) : (hf x k).length = k := by
  induction k with
  | zero => rfl
  | succ k ih => simp [hf, ih]
theorem hb_int (x k : Nat) : (x : Int) / 2 ^ (8 * k) % 256 = ((hb x k).toNat : Int) := by
  unfold hb; rw [UInt8.toNat_ofNat']; simp
def vb (c : UInt8) : Value := .int .u8 (c.toNat : Int)
def vs (l : List UInt8) : Array Value := (l.map vb).toArray
theorem vs_size (l : List UInt8) : (vs l).size = l.length := by simp [vs]
theorem vs_get (l : List UInt8) (p : Nat) (h : p < l.length) : (vs l)[p]? = some (vb l[p]) := by
  unfold vs; simp [h]
theorem vs_set (l : List UInt8) (p : Nat) (c : UInt8) : (vs l).setIfInBounds p (vb c) = vs (l.set p c) := by
  unfold vs; simp [List.map_set]
def fl (x n k : Nat) : List UInt8 := List.replicate (n - k) 0 ++ hf x k
theorem fl_len (x n k : Nat) (h : k ≤ n) : (fl x n k).length = n := by
  unfold fl; simp [hf_len]; omega
theorem fl_set (x n k : Nat) (h : k < n) : (fl x n k).set (n - 1 - k) (hb x k) = fl x n (k + 1) := by
  unfold fl
  have e : n - k = (n - (k + 1)) + 1 := by omega
  rw [e, List.replicate_succ', List.append_assoc, List.set_append_right _ _ (by simp; omega)]
  simp [show n - 1 - k - (n - (k + 1)) = 0 by omega, hf]
theorem fl_zero (x n : Nat) : fl x n 0 = List.replicate n 0 := by unfold fl; simp [hf]
theorem fl_full (x n : Nat) : fl x n n = hf x n := by unfold fl; simp
theorem made_zeros (k : Nat) : madeCells #[.int .u8 0] k = vs (List.replicate k 0) := by
  unfold madeCells vs
  apply Array.ext
  · simp
  · intro i h1 h2
    simp [Nat.mod_one, vb]
theorem addr_add0 (b j : Nat) : (⟨b, 0, none⟩ : Addr).add j = ⟨b, j, none⟩ := by unfold Addr.add; split <;> simp_all
theorem conv_row (W : World) (b n cap : Nat) (l : List UInt8) (rest : Array Value) (fr : Nat × Nat) (t : TypeId) (hn : n = l.length) (h : W.heap[b]? = some (.cells (vs l ++ rest) t fr)) :
    (convert 102 9 (.slice (some ⟨b, 0, none⟩) n cap)).run Tryz.prog W = .ok (.string ⟨l.toArray⟩) W := by
  subst hn
  refine run_convert_bytes_back W 102 9 5 _ cap l Tryz.underlying102 Tryz.underlying5 Tryz.underlying9 (fun j hj => ?_)
  rw [addr_add0, cell_of_row _ _ _ _ _ _ h, Array.getElem?_append_left (by rw [vs_size]; exact hj), vs_get _ _ hj]
  simp [vb]
set_option maxRecDepth 100000 in
theorem highFirst_any (x n : Nat) (hn : n ≤ 8) (w : World) :
    Calls Tryz.prog 85 #[.int .u64 (x : Int), .int .i64 (n : Int)] w fun e w' => e = .returned (.string ⟨(hf x n).toArray⟩) ∧ Bel w w' := by
  have hmk := run_make_row' (P := Tryz.prog) 102 5 (.int .u8 0) 1 Tryz.underlying102 Tryz.info5 rfl .i64 .i64 n (by omega) (by omega)
  rw [made_zeros] at hmk
  go_enter Tryz.func85, Tryz.ntmps85
  go_wp2_with fail
  go_loopw [6, 10] (fun _ i W => ∃ k : Nat, k ≤ n ∧ i = .int .i64 k ∧ W.heap[w.heap.size]? = some (.cells (vs (fl x n k)) 5) ∧ Below w.heap.size w W) (fun _ i _ => n - (intOf i).toNat)
  case atStart => exact ⟨0, Nat.zero_le _, rfl, by rw [fl_zero]; exact heap_alloc_new w _, Below.alloc (Below.refl _ _) (Nat.le_refl _) _⟩
  case round =>
    obtain ⟨k, hk, rfl, hrow, hbel⟩ := hrel
    have Rk := hide hrow
    have Bk := hide hbel
    clear hrow hbel
    by_cases hlt : k < n
    · have hll : n - 1 - k < (fl x n k).length := by rw [fl_len _ _ _ hk]; omega
      obtain ⟨c, hc⟩ : ∃ c, wr.cell? ⟨w.heap.size, n - 1 - k, none⟩ = some (vb c) :=
        ⟨_, by rw [cell_of_row _ _ _ _ _ _ Rk.out]; exact vs_get _ _ hll⟩
      have hfz : wr.frozen? ⟨w.heap.size, n - 1 - k, none⟩ = false := free_row Rk.out
      clear hll
      go_wp2_with fail
      go_roundw
      case rel =>
        refine ⟨k + 1, by omega, by go_num, ?_, Bk.out.setCell (Nat.le_refl _) _⟩
        rw [hb_int, ← fl_set _ _ _ hlt, ← vs_set]
        exact row_set Rk.out
      case measure => simp [intOf]; omega
    · obtain rfl : k = n := by omega
      have hcv := conv_row wr w.heap.size k k (hf x k) #[] _ _ (by rw [hf_len]) (by rw [Array.append_empty, ← fl_full]; exact Rk.out)
      go_wp2_with fail
      go_ret
      exact ⟨rfl, Bk.out⟩
def bg (l : List UInt8) : Nat := l.foldl (fun a c => a * 256 + c.toNat) 0
theorem bg_snoc (l : List UInt8) (c : UInt8) : bg (l ++ [c]) = bg l * 256 + c.toNat := by
  unfold bg; rw [List.foldl_append]; rfl
theorem bg_lt (l : List UInt8) : bg l < 256 ^ l.length := by
  have h : ∀ (l : List UInt8) (a k : Nat), a < 256 ^ k → l.foldl (fun a c => a * 256 + c.toNat) a < 256 ^ (k + l.length) := by
    intro l
    induction l with
    | nil => intro a k h; exact h
    | cons c l ih =>
      intro a k h
      have := ih (a * 256 + c.toNat) (k + 1) (by have := c.toNat_lt; rw [Nat.pow_succ]; omega)
      rw [List.length_cons, show k + (l.length + 1) = k + 1 + l.length by omega]; exact this
  have := h l 0 0 (by decide)
  rwa [Nat.zero_add] at this
theorem or_add (a c : Nat) (ha : a < 72057594037927936) (hc : c < 256) : bits .or .u64 ((a : Int) * 256) (c : Int) = ((a * 256 + c : Nat) : Int) := by
  have e : (a : Int) * 256 = ((a * 256 : Nat) : Int) := by simp
  rw [e, u64_or_nat _ _ (by omega) (by omega)]
  have h := Nat.shiftLeft_add_eq_or_of_lt (show c < 2 ^ 8 from hc) a
  rw [Nat.shiftLeft_eq] at h
  rw [show (256 : Nat) = 2 ^ 8 from rfl, ← h]
theorem bg_take (s : ByteArray) (k : Nat) (h : k < s.size) : bg (s.data.toList.take (k + 1)) = bg (s.data.toList.take k) * 256 + (s[k]).toNat := by
  rw [List.take_succ_eq_append_getElem (by simpa using h), bg_snoc]; rfl
theorem bg_bound (s : ByteArray) (k : Nat) (h : k < s.size) (hs : s.size ≤ 8) : bg (s.data.toList.take k) < 72057594037927936 := by
  have h1 := bg_lt (s.data.toList.take k)
  have h2 : 256 ^ (s.data.toList.take k).length ≤ 256 ^ 7 := Nat.pow_le_pow_right (by omega) (by simp; omega)
  omega
set_option maxRecDepth 100000 in
theorem number_any (s : ByteArray) (hs : s.size ≤ 8) (w : World) :
    Calls Tryz.prog 83 #[.string s] w fun e w' => e = .returned (.int .u64 (bg s.data.toList : Int)) ∧ w' = w := by
  go_enter Tryz.func83, Tryz.ntmps83
  go_wp2_with fail
  go_loop [3, 4, 7] (fun v _ i => ∃ k a : Nat, k ≤ s.size ∧ i = .int .i64 k ∧ bg (s.data.toList.take k) = a ∧ v = .int .u64 (a : Int)) (fun _ _ i => s.size - (intOf i).toNat)
  case atStart => exact ⟨0, 0, Nat.zero_le _, rfl, rfl, rfl⟩
  case round =>
    obtain ⟨k, a, hk, rfl, ha, rfl⟩ := hrel
    have Ha := hide ha
    clear ha
    by_cases hlt : k < s.size
    · have hb := (s[k]).toNat_lt
      have hal : a < 72057594037927936 := by rw [← Ha.out]; exact bg_bound s k hlt hs
      go_wp2_with fail
      go_round
      case rel => exact ⟨k + 1, a * 256 + (s[k]).toNat, by omega, by go_num, by rw [bg_take _ _ hlt, Ha.out], by rw [or_add _ _ hal hb]⟩
      case measure => simp [intOf]; omega
    · go_wp2_with fail
      go_ret
      refine ⟨?_, rfl⟩
      have h := Ha.out
      rw [List.take_of_length_le (by simp; omega)] at h
      rw [h]; rfl
theorem hb_toNat (x k : Nat) : (hb x k).toNat = x / 256 ^ k % 256 := by
  unfold hb; rw [UInt8.toNat_ofNat', Nat.pow_mul]
theorem bg_go (l : List UInt8) (a : Nat) : l.foldl (fun a c => a * 256 + c.toNat) a = a * 256 ^ l.length + bg l := by
  unfold bg
  induction l generalizing a with
  | nil => simp
  | cons c l ih =>
    rw [List.foldl_cons, List.foldl_cons, ih, ih (0 * 256 + c.toNat), List.length_cons, Nat.pow_succ]
    have e : (a * 256 + c.toNat) * 256 ^ l.length = a * (256 ^ l.length * 256) + c.toNat * 256 ^ l.length := by
      rw [Nat.add_mul, Nat.mul_assoc, Nat.mul_comm 256]
    rw [e, Nat.zero_mul, Nat.zero_add]; omega
theorem bg_cons (c : UInt8) (l : List UInt8) : bg (c :: l) = c.toNat * 256 ^ l.length + bg l := by
  have h := bg_go l c.toNat
  unfold bg at h ⊢
  rw [List.foldl_cons, Nat.zero_mul, Nat.zero_add]; exact h
theorem bg_hf (x n : Nat) : bg (hf x n) = x % 256 ^ n := by
  induction n with
  | zero => simp [hf, bg, Nat.mod_one]
  | succ n ih =>
    rw [hf, bg_cons, ih, hf_len, hb_toNat, Nat.pow_succ, Nat.mod_mul]
    rw [Nat.mul_comm]; omega
theorem hf_mod (x y n : Nat) (h : x % 256 ^ n = y % 256 ^ n) : hf x n = hf y n := by
  induction n with
  | zero => rfl
  | succ n ih =>
    rw [Nat.pow_succ] at h
    have h1 : x % 256 ^ n = y % 256 ^ n := by
      have := congrArg (· % 256 ^ n) h
      simpa [Nat.mod_mul_right_mod] using this
    have h2 : x / 256 ^ n % 256 = y / 256 ^ n % 256 := by
      have := congrArg (· / 256 ^ n) h
      simpa [Nat.mod_mul_right_div_self] using this
    rw [hf, hf, ih h1]
    congr 1
    apply UInt8.toNat_inj.1
    rw [hb_toNat, hb_toNat, h2]
theorem hf_bg (l : List UInt8) : hf (bg l) l.length = l := by
  induction l with
  | nil => rfl
  | cons c l ih =>
    have hb := bg_lt l
    rw [List.length_cons, hf, bg_cons]
    congr 1
    · apply UInt8.toNat_inj.1
      rw [hb_toNat, Nat.mul_comm, Nat.mul_add_div (Nat.pow_pos (by omega)), Nat.div_eq_of_lt hb, Nat.add_zero]
      exact Nat.mod_eq_of_lt c.toNat_lt
    · rw [hf_mod _ (bg l) _ (by rw [Nat.mul_comm, Nat.mul_add_mod]), ih]
theorem hf_eq_iff (c : Nat) (l : List UInt8) (hc : c < 256 ^ l.length) : hf c l.length = l ↔ bg l = c := by
  constructor
  · intro h
    have := bg_hf c l.length
    rw [h, Nat.mod_eq_of_lt hc] at this
    exact this
  · rintro rfl; exact hf_bg l
set_option maxRecDepth 100000 in
theorem sum_any (a b : ByteArray) (ha : a.size ≤ maxLen) (hb : b.size ≤ maxLen) (w : World) :
    Calls Tryz.prog 84 #[.string a, .string b] w fun e w' => e = .returned (.int .u32 ((more 0#32 (a.data.toList ++ b.data.toList)).toNat : Int)) ∧ w' = w := by
  have h2 := hide (more_append 0#32 a.data.toList b.data.toList)
  go_enter Tryz.func84, Tryz.ntmps84
  go_wp2_with fail
  refine (of_any a ha _).mono ?_
  rintro e w1 ⟨rfl, rfl⟩
  go_wp2_with fail
  refine (more_any _ _ rfl b hb _).mono ?_
  rintro e w2 ⟨rfl, rfl⟩
  go_wp2_with fail
  go_ret
  rw [← h2.out]
  exact ⟨rfl, rfl⟩
set_option maxRecDepth 100000 in
theorem copy_row (W : World) (g o n cap : Nat) (L t : List UInt8) (ty : TypeId) (hrow : W.heap[g]? = some (.cells (vs L) ty)) (hfit : o + t.length ≤ L.length) (hle : t.length ≤ n) :
    (Builtin.copy_ #[102, 9] 3 #[.slice (some ⟨g, o, none⟩) n cap, .string ⟨t.toArray⟩]).run Tryz.prog W = .ok (goInt t.length) (W.setRow g (vs (L.take o ++ t ++ L.drop (o + t.length)))) := by
  have h := Lib.run_copy_row_string (P := Tryz.prog) W 102 9 3 5 g o n cap ⟨t.toArray⟩ (vs L) ty Tryz.underlying102 (by kernel_rfl) hrow hle (by rw [vs_size]; exact hfit)
  rw [h]
  have e : (ByteArray.mk t.toArray).size = t.length := rfl
  rw [e]
  congr 2
  simp [vs, Lib.byteCells]
  intro a _; rfl
def z8 : Array Value := #[.int .u8 0, .int .u8 0, .int .u8 0, .int .u8 0, .int .u8 0, .int .u8 0, .int .u8 0, .int .u8 0]
theorem z8_eq : z8 = vs (List.replicate 8 0) := rfl
def sumOf (s : ByteArray) : Nat := (more 0#32 (hf s.size 4 ++ s.data.toList)).toNat
def headL (s : ByteArray) : List UInt8 := hf s.size 4 ++ hf (sumOf s) 4
theorem headL_len (s : ByteArray) : (headL s).length = 8 := by simp [headL, hf_len]
theorem info53 (l : List UInt8) (h : l.length = 8) : (Tryz.prog.info? 100).map (·.size) = some (vs l).size := by
  rw [vs_size, h]; kernel_rfl
theorem vs_all (l : List UInt8) : (vs l).all (·.oneCell') = true := by
  simp [vs, vb, Value.oneCell']
theorem Bel.setRow {a b : World} (h : Bel a b) {g : Nat} (hp : a.heap.size ≤ g) (cs : Array Value) : Bel a (b.setRow g cs) :=
  below_setRow h hp cs
theorem setRow_far (W : World) (g k : Nat) (cs : Array Value) (h : k ≠ g) : (W.setRow g cs).heap[k]? = W.heap[k]? := setRow_other W g k cs h
theorem two_z8 (w : World) : ((w.alloc (.cells z8 100)).alloc (.cells z8 100)).heap[w.heap.size + 1]? = some (.cells z8 100) := by
  have h := heap_alloc_new (w.alloc (.cells z8 100)) (.cells z8 100)
  rw [show (w.alloc (.cells z8 100)).heap.size = w.heap.size + 1 by simp] at h
  exact h
theorem half_one (a : List UInt8) (h : a.length = 4) : (List.replicate 8 (0 : UInt8)).take 0 ++ a ++ (List.replicate 8 (0 : UInt8)).drop (0 + a.length) = a ++ List.replicate 4 0 := by
  rw [h]; simp
theorem half_two (a b : List UInt8) (ha : a.length = 4) (hb : b.length = 4) : (a ++ List.replicate 4 (0 : UInt8)).take 4 ++ b ++ (a ++ List.replicate 4 (0 : UInt8)).drop (4 + b.length) = a ++ b := by
  rw [hb, List.take_append_of_le_length (by omega), List.take_of_length_le (by omega)]; simp [ha]
theorem step_copy_row {ops : Array Oper} {o : Oper} {a : Act} {W : World} {K : Act → World → Prop} {Q : Exit → Act → World → Prop} {E : Prop} {g off n cap : Nat} {L t R : List UInt8} {ty : TypeId} (hrow : W.heap[g]? = some (.cells (vs L) ty)) (hfit : off + t.length ≤ L.length) (hle : t.length ≤ n) (hR : L.take off ++ t ++ L.drop (off + t.length) = R) (h4 : t.length = 4)
    (hg : o.guard = none) (d x : Operand) (hop : o.op = Op.call { callee := Callee.builtin Builtin.copy, args := #[d, x], argTypes := #[102, 9] })
    (hty : o.type = 3) (hd : a.eval d = .slice (some ⟨g, off, none⟩) n cap) (hx : a.eval x = .string ⟨t.toArray⟩)
    (hK : K (a.put o.dst (.int .i64 4)) (W.setRow g (vs R))) :
    if Region.wanted o (yielded ops a.tmps) = true then Oper.wp Tryz.prog o a W K Q else E := by
  have hw : Region.wanted o (yielded ops a.tmps) = true := by simp [Region.wanted, hg]
  rw [if_pos hw]
  have hrun := copy_row W g off n cap L t ty hrow hfit hle
  rw [hR, h4] at hrun
  unfold Oper.wp
  simp [execOp, hop, hty, resolve, invoke, builtin, hd, hx, hrun, Result.andThen]
  exact hK
set_option maxRecDepth 100000 in
set_option maxHeartbeats 300000 in
theorem head_any (s : ByteArray) (hm : s.size ≤ 16777216) (w : World) :
    Calls Tryz.prog 65 #[.string s] w fun e w' => e = .returned (.agg (vs (headL s))) ∧ Bel w w' := by
  have c40 := fun W => sum_any ⟨(hf s.size 4).toArray⟩ s (by show (hf s.size 4).toArray.size ≤ _; simp [hf_len, maxLen]) (by unfold maxLen; omega) W
  have hsl : sumOf s < 4294967296 := (more 0#32 (hf s.size 4 ++ s.data.toList)).isLt
  rw [show (more 0#32 ((ByteArray.mk (hf s.size 4).toArray).data.toList ++ s.data.toList)).toNat = sumOf s from rfl] at c40
  have hhead : headL s = hf s.size 4 ++ hf (sumOf s) 4 := rfl
  have hl := headL_len s
  generalize headL s = HL at *
  generalize sumOf s = c at *
  have hw64 : IntKind.u64.wrap (c : Int) = (c : Int) := by rw [IntKind.wrap_u64]; omega
  have Hsl := hide hsl
  clear hsl
  have C40 := hide c40
  have Hh := hide hhead
  have Hl := hide hl
  clear c40 hhead hl
  go_enter Tryz.func65, Tryz.ntmps65
  go_wp2_with fail
  refine (highFirst_any s.size 4 (by omega) _).mono ?_
  rintro e w1 ⟨rfl, hb1⟩
  have r1 : w1.heap[w.heap.size + 1]? = some (.cells (vs (List.replicate 8 0)) 100) := hb1.row (two_z8 w)
  have r0 : w1.heap[w.heap.size]? = some (.cells (vs (List.replicate 8 0)) 100) := by
    refine hb1.row ?_
    rw [Below.heap_alloc _ _ _ (by simp)]
    exact heap_alloc_new w _
  have h4 := hf_len s.size 4
  have hcp := copy_row w1 (w.heap.size + 1) 0 8 8 (List.replicate 8 0) (hf s.size 4) 100 r1 (by simp [hf_len]) (by simp [hf_len])
  rw [half_one _ h4, h4] at hcp
  have r2 := setRow_heap w1 _ _ (vs (hf s.size 4 ++ List.replicate 4 0)) 100 (0, 0) r1
  have b2 : Bel w (w1.setRow (w.heap.size + 1) (vs (hf s.size 4 ++ List.replicate 4 0))) :=
    ((((Bel.refl w).alloc _).alloc _).trans hb1).setRow (by omega) _
  have r20 := (setRow_far w1 (w.heap.size + 1) w.heap.size (vs (hf s.size 4 ++ List.replicate 4 0)) (by omega)).trans r0
  generalize w1.setRow (w.heap.size + 1) _ = w2 at *
  have R2 := hide r2
  have R20 := hide r20
  have B2 := hide b2
  clear r1 r0 r2 b2 hb1 r20 h4
  go_wp2_with fail
  go_region_held3 (fun _ => True) (trivial) ((first
    | (go_at_call 84; refine (C40.out _).mono ?_; rintro e w3 ⟨rfl, rfl⟩)
    | (go_at_call 85; refine (highFirst_any c 4 (by omega) _).mono ?_; rintro e w3 ⟨rfl, hb3⟩)
    | (refine step_copy_row (n := 4) (cap := 4) (off := 4) (hb3.row R2.out) (by simp [hf_len]) (by simp [hf_len]) (half_two _ _ (hf_len _ _) (hf_len _ _)) (hf_len _ _) (by rfl) _ _ (by rfl) (by rfl) (by rfl) (by rfl) ?_)))
  have r5 := setRow_heap w3 _ _ (vs (hf s.size 4 ++ hf c 4)) 100 (0, 0) (hb3.row R2.out)
  have r50 := (setRow_far w3 (w.heap.size + 1) w.heap.size (vs (hf s.size 4 ++ hf c 4)) (by omega)).trans (hb3.row R20.out)
  have b5 : Bel w (w3.setRow (w.heap.size + 1) (vs (hf s.size 4 ++ hf c 4))) := (B2.out.drew.trans hb3).setRow (by omega) _
  rw [← Hh.out] at r5 r50 b5 ⊢
  generalize w3.setRow (w.heap.size + 1) (vs HL) = w5 at *
  have hi := info53 HL Hl.out
  have hone := vs_all HL
  have hz : (vs (List.replicate 8 0)).size = (vs HL).size := by rw [vs_size, vs_size, Hl.out]; rfl
  have R5 := hide r5
  have R50 := hide r50
  have B5 := hide b5
  clear r5 r50 b5
  go_wp2_with (first | (refine wpList_load_row rfl 100 _ rfl (w.heap.size + 1) rfl 100 (vs HL) (0, 0) _ R5.out Tryz.underlying100 rfl hi ?_) | (refine wpList_store_row rfl 100 _ _ rfl w.heap.size (vs HL) rfl rfl 100 (vs (List.replicate 8 0)) R50.out hi hz hone ?_))
  exact bodyPost_ret (v := .agg (vs HL)) (results_cell_row (p := 2) (ty := 100) rfl _ _ w.heap.size 100 _ (0, 0) _ rfl (setRow_heap _ _ _ _ _ _ R50.out) Tryz.underlying100 rfl hi) rfl ⟨rfl, B5.out.setRow (Nat.le_refl _) _⟩
def rFr (s : ByteArray) : ByteArray × Int := if 16777216 < s.size then (⟨#[]⟩, 4) else (⟨(headL s).toArray⟩ ++ s, 0)
set_option maxRecDepth 100000 in
theorem frame_any (s : ByteArray) (hm : s.size ≤ 150000000000000) (w : World) :
    Calls Tryz.prog 51 #[.string s] w fun e w' => e = .returned (.tuple #[.string (rFr s).1, .int .i64 (rFr s).2]) ∧ Bel w w' := by
  by_cases hl : 16777216 < s.size
  · rw [show rFr s = (⟨#[]⟩, 4) by unfold rFr; rw [if_pos hl]]
    go_enter Tryz.func51, Tryz.ntmps51
    go_wp2
    go_ret2
    exact ⟨rfl, Bel.refl _⟩
  · rw [show rFr s = (⟨(headL s).toArray⟩ ++ s, 0) by unfold rFr; rw [if_neg hl]]
    have h8 := headL_len s
    have c32 := hide (fun W => head_any s (by omega) W)
    generalize headL s = HL at *
    have hi := info53 HL h8
    have hone := vs_all HL
    have hz : z8.size = (vs HL).size := by rw [vs_size, h8]; rfl
    have hq : ¬ (9223372036854775807 < HL.length + s.size) := by omega
    have Hi := hide hi
    have Hone := hide hone
    have Hz := hide hz
    have H8 := hide h8
    clear hi hone hz h8
    go_enter Tryz.func51, Tryz.ntmps51
    go_wp2_with fail
    refine (c32.out _).mono ?_
    rintro e w1 ⟨rfl, hb1⟩
    have r1 := heap_alloc_new w1 (.cells z8 100)
    have r2 := setRow_heap (w1.alloc (.cells z8 100)) _ _ (vs HL) 100 (0, 0) r1
    have hcv := conv_row ((w1.alloc (.cells z8 100)).setRow w1.heap.size (vs HL)) w1.heap.size 8 8 HL #[] (0, 0) 100 H8.out.symm (by rw [Array.append_empty]; exact r2)
    have b2 : Bel w ((w1.alloc (.cells z8 100)).setRow w1.heap.size (vs HL)) := (hb1.alloc _).setRow hb1.size _
    have R1 := hide r1
    have B2 := hide b2
    clear r1 r2 b2
    unfold z8 at hcv
    go_wp2_with (refine wpList_store_row rfl 100 _ _ rfl w1.heap.size (vs HL) rfl rfl 100 z8 R1.out Hi.out Hz.out Hone.out ?_)
    go_ret2
    exact ⟨rfl, B2.out⟩
theorem ext_ext (s : ByteArray) (a b n : Nat) (h : a + n ≤ b) : (s.extract a b).extract 0 n = s.extract a (a + n) := by
  rw [ByteArray.extract_extract]
  congr 1
  omega
theorem size_from (s : ByteArray) (a : Nat) : (s.extract a s.size).size = s.size - a := by simp
theorem ext_rest (s : ByteArray) (a n : Nat) (h : a ≤ s.size) : (s.extract a s.size).extract n (s.size - a) = s.extract (a + n) s.size := by
  rw [ByteArray.extract_extract]
  congr 1; omega
theorem bg4 (s : ByteArray) (h : s.size ≤ 4) : bg s.data.toList < 4294967296 := by
  have h1 := bg_lt s.data.toList
  have h2 : 256 ^ s.data.toList.length ≤ 256 ^ 4 := Nat.pow_le_pow_right (by omega) (by simpa using h)
  omega
def fLen (s : ByteArray) : Nat := bg (s.extract 0 4).data.toList
def fSum (s : ByteArray) : Nat := (more 0#32 ((s.extract 0 4).data.toList ++ (s.extract 8 (8 + fLen s)).data.toList)).toNat
def rFrame (s : ByteArray) : ByteArray × ByteArray × Int :=
  if s.size < 8 then (⟨#[]⟩, ⟨#[]⟩, 20) else if 16777216 < fLen s then (⟨#[]⟩, ⟨#[]⟩, 4) else if s.size < 8 + fLen s then (⟨#[]⟩, ⟨#[]⟩, 20)
  else if bg (s.extract 4 8).data.toList ≠ fSum s then (⟨#[]⟩, ⟨#[]⟩, 22) else (s.extract 8 (8 + fLen s), s.extract (8 + fLen s) s.size, 0)
theorem bne_t {b c : Nat} (h : b ≠ c) : ((b : Int) != (c : Int)) = true := by rw [bne_iff_ne]; omega
theorem rf_end (s : ByteArray) (n : Nat) (h8 : 8 ≤ s.size) (hs : 8 + n ≤ s.size) (w w' : World) (hb : Bel w w') :
    Ending.returned (.tuple #[.string ((s.extract 8 s.size).extract 0 n), .string ((s.extract 8 s.size).extract n (s.size - 8)), .int .i64 0]) = Ending.returned (.tuple #[.string (s.extract 8 (8 + n)), .string (s.extract (8 + n) s.size), .int .i64 0]) ∧ Bel w w' := by
  rw [ext_ext s 8 s.size n hs, ext_rest s 8 n h8]; exact ⟨rfl, hb⟩
set_option maxRecDepth 100000 in
theorem readFrame_any (s : ByteArray) (hm : s.size ≤ 150000000000000) (w : World) :
    Calls Tryz.prog 64 #[.string s] w fun e w' => e = .returned (.tuple #[.string (rFrame s).1, .string (rFrame s).2.1, .int .i64 (rFrame s).2.2]) ∧ Bel w w' := by
  by_cases h8 : s.size < 8
  · rw [show rFrame s = (⟨#[]⟩, ⟨#[]⟩, 20) by unfold rFrame; rw [if_pos h8]]
    go_enter Tryz.func64, Tryz.ntmps64
    go_wp2
    go_ret3
    exact ⟨rfl, Bel.refl _⟩
  have C38a : Hid (∀ W, Calls Tryz.prog 83 #[.string (s.extract 0 4)] W fun e w' => e = .returned (.int .u64 (fLen s : Int)) ∧ w' = W) := hide (fun W => number_any _ (by simp; omega) W)
  have hn32 : fLen s < 4294967296 := bg4 _ (by simp; omega)
  have f1 : (8 : Int) ≤ (s.size : Int) := by omega
  have f4 : (4 : Int) ≤ (s.size : Int) := by omega
  by_cases hl : 16777216 < fLen s
  · rw [show rFrame s = (⟨#[]⟩, ⟨#[]⟩, 4) by unfold rFrame; rw [if_neg h8, if_pos hl]]
    generalize fLen s = n at *
    have f2 : 16777216 < (n : Int) := by omega
    clear hn32
    go_enter Tryz.func64, Tryz.ntmps64
    go_wp2_with fail
    go_region_held3 (fun _ => True) (trivial) (fail)
    go_wp2_with (go_at_call 83; refine (C38a.out _).mono ?_; rintro e w' ⟨rfl, rfl⟩)
    go_ret3
    exact ⟨rfl, (Bel.refl _).drew⟩
  by_cases hs : s.size < 8 + fLen s
  · rw [show rFrame s = (⟨#[]⟩, ⟨#[]⟩, 20) by unfold rFrame; rw [if_neg h8, if_neg hl, if_pos hs]]
    generalize fLen s = n at *
    have f2 : (n : Int) ≤ 16777216 := by omega
    have f3 : s.size - 8 < n := by omega
    clear hn32
    go_enter Tryz.func64, Tryz.ntmps64
    go_wp2_with fail
    go_region_held3 (fun _ => True) (trivial) (fail)
    go_wp2_with (go_at_call 83; refine (C38a.out _).mono ?_; rintro e w' ⟨rfl, rfl⟩)
    go_ret3
    exact ⟨rfl, (Bel.refl _).drew⟩
  have C38b : Hid (∀ W, Calls Tryz.prog 83 #[.string (s.extract 4 8)] W fun e w' => e = .returned (.int .u64 (bg (s.extract 4 8).data.toList : Int)) ∧ w' = W) := hide (fun W => number_any _ (by simp; omega) W)
  have C40 : Hid (∀ W, Calls Tryz.prog 84 #[.string (s.extract 0 4), .string ((s.extract 8 s.size).extract 0 (fLen s))] W fun e w' => e = .returned (.int .u32 (fSum s : Int)) ∧ w' = W) := hide (fun W => by
    rw [ext_ext s 8 s.size (fLen s) (by omega)]; exact sum_any _ _ (by simp [maxLen]; omega) (by simp [maxLen]; omega) W)
  have hcl : fSum s < 4294967296 := BitVec.isLt _
  have hw64 : IntKind.u64.wrap (fSum s : Int) = (fSum s : Int) := by rw [IntKind.wrap_u64]; omega
  have f2 : (fLen s : Int) ≤ 16777216 := by omega
  have f3 : ¬ (s.size - 8 < fLen s) := by omega
  have f5 : (fLen s : Int) ≤ ((s.size - 8 : Nat) : Int) := by omega
  have f6 : (0 : Int) ≤ (fLen s : Int) := by omega
  clear hcl hn32
  by_cases hb : bg (s.extract 4 8).data.toList ≠ fSum s
  · rw [show rFrame s = (⟨#[]⟩, ⟨#[]⟩, 22) by unfold rFrame; rw [if_neg h8, if_neg hl, if_neg hs, if_pos hb]]
    have hne := bne_t hb
    clear hb
    generalize bg (s.extract 4 8).data.toList = b at *
    generalize fSum s = c at *
    generalize fLen s = n at *
    go_enter Tryz.func64, Tryz.ntmps64
    go_wp2_with fail
    go_region_held3 (fun _ => True) (trivial) (fail)
    go_wp2_with (go_at_call 83; refine (C38a.out _).mono ?_; rintro e w' ⟨rfl, rfl⟩)
    go_region_held3 (fun _ => True) (trivial) ((first
      | (go_at_call 83; refine (C38b.out _).mono ?_; rintro e w' ⟨rfl, rfl⟩)
      | (go_at_call 84; refine (C40.out _).mono ?_; rintro e w' ⟨rfl, rfl⟩)))
    all_goals
      go_wp2
      go_ret3
      exact ⟨rfl, (Bel.refl _).drew.drew⟩
  · rw [show rFrame s = (s.extract 8 (8 + fLen s), s.extract (8 + fLen s) s.size, 0) by unfold rFrame; rw [if_neg h8, if_neg hl, if_neg hs, if_neg hb]]
    have hbc : bg (s.extract 4 8).data.toList = fSum s := Decidable.not_not.1 hb
    rw [hbc] at C38b
    clear hb hbc
    generalize fSum s = c at *
    generalize fLen s = n at *
    go_enter Tryz.func64, Tryz.ntmps64
    go_wp2_with fail
    go_region_held3 (fun _ => True) (trivial) (fail)
    go_wp2_with (go_at_call 83; refine (C38a.out _).mono ?_; rintro e w' ⟨rfl, rfl⟩)
    go_region_held3 (fun _ => True) (trivial) ((first
      | (go_at_call 83; refine (C38b.out _).mono ?_; rintro e w' ⟨rfl, rfl⟩)
      | (go_at_call 84; refine (C40.out _).mono ?_; rintro e w' ⟨rfl, rfl⟩)))
    all_goals
      go_wp2_with fail
      go_region_held3 (fun _ => True) (trivial) (fail)
    all_goals
      go_wp2
      go_ret3
      exact rf_end s n (by omega) (by omega) _ _ (Bel.refl _).drew.drew.drew
theorem ba_ext {a b : ByteArray} (h : a.data.toList = b.data.toList) : a = b := by
  apply ByteArray.ext
  exact Array.toList_inj.1 h
theorem ba_app (a b : ByteArray) : (a ++ b).data.toList = a.data.toList ++ b.data.toList := by
  rw [ByteArray.data_append, Array.toList_append]
theorem ba_extract (s : ByteArray) (a b : Nat) : (s.extract a b).data.toList = (s.data.toList.drop a).take (b - a) := by
  simp [ByteArray.data_extract]
theorem ba_len (s : ByteArray) : s.data.toList.length = s.size := rfl
theorem ba_rest (s : ByteArray) (a : Nat) : (s.extract a s.size).data.toList = s.data.toList.drop a := by
  rw [ba_extract, List.take_of_length_le (by rw [List.length_drop, ba_len]; omega)]
theorem rFrame_back (t r : ByteArray) (ht : t.size ≤ 16777216) : rFrame (⟨(headL t).toArray⟩ ++ t ++ r) = (t, r, 0) := by
  obtain ⟨s, hs⟩ : ∃ s, s = (⟨(headL t).toArray⟩ : ByteArray) ++ t ++ r := ⟨_, rfl⟩
  have hl : s.data.toList = hf t.size 4 ++ (hf (sumOf t) 4 ++ (t.data.toList ++ r.data.toList)) := by
    rw [hs, ba_app, ba_app]
    show headL t ++ _ ++ _ = _
    unfold headL
    simp only [List.append_assoc]
  rw [← hs]
  have l1 := hf_len t.size 4
  have l2 := hf_len (sumOf t) 4
  have hsz : s.size = 8 + t.size + r.size := by
    rw [← ba_len, hl]
    simp only [List.length_append, l1, l2, ba_len]; omega
  have x0 : (s.extract 0 4).data.toList = hf t.size 4 := by
    rw [ba_extract, hl, List.drop_zero, List.take_append_of_le_length (by omega), List.take_of_length_le (by omega)]
  have d4 : s.data.toList.drop 4 = hf (sumOf t) 4 ++ (t.data.toList ++ r.data.toList) := by
    rw [hl, List.drop_append_of_le_length (by omega), List.drop_of_length_le (by omega), List.nil_append]
  have d8 : s.data.toList.drop 8 = t.data.toList ++ r.data.toList := by
    rw [show 8 = 4 + 4 from rfl, ← List.drop_drop, d4, List.drop_append_of_le_length (by omega), List.drop_of_length_le (by omega), List.nil_append]
  have x4 : (s.extract 4 8).data.toList = hf (sumOf t) 4 := by
    rw [ba_extract, d4, List.take_append_of_le_length (by omega), List.take_of_length_le (by omega)]
  have hn : fLen s = t.size := by
    unfold fLen; rw [x0, bg_hf]; exact Nat.mod_eq_of_lt (by omega)
  have x8 : s.extract 8 (8 + t.size) = t := by
    apply ba_ext
    rw [ba_extract, d8, Nat.add_sub_cancel_left, List.take_append_of_le_length (by rw [ba_len]; omega), List.take_of_length_le (by rw [ba_len]; omega)]
  have xr : s.extract (8 + t.size) s.size = r := by
    apply ba_ext
    rw [ba_rest, ← List.drop_drop, d8, List.drop_append_of_le_length (by rw [ba_len]; omega), List.drop_of_length_le (by rw [ba_len]; omega), List.nil_append]
  have hsum : fSum s = sumOf t := by
    unfold fSum sumOf; rw [hn, x0, x8]
  have hc : sumOf t < 4294967296 := BitVec.isLt _
  have hb4 : bg (s.extract 4 8).data.toList = sumOf t := by
    rw [x4, bg_hf]; exact Nat.mod_eq_of_lt (by omega)
  unfold rFrame
  rw [if_neg (by omega), hn, if_neg (by omega), if_neg (by omega), hb4, hsum, if_neg (by simp), x8, xr]
end Go.Proofs.YtgimciacapfbfaaGreatDoor
