/- What the program's and the document's functions of sums as texts return: Text, Read and their helpers; for every sum and every text. -/
import Derived.Test.YtncgfcmjeojocaaWalksA
import Derived.Deep.WholeRow
namespace Go.Proofs.Ytncgfcmjeojocaa
open Go.RowKit
def digs : ByteArray := ⟨#[48, 49, 50, 51, 52, 53, 54, 55, 56, 57, 97, 98, 99, 100, 101, 102]⟩
def nib (x : BitVec 32) (j : Nat) : Nat := x.toNat / 16 ^ j % 16
theorem nib_lt (x : BitVec 32) (k : Nat) : nib x k < 16 := Nat.mod_lt _ (by decide)
def hd (x : BitVec 32) (j : Nat) : UInt8 := digs[nib x j]'(nib_lt x j)
def hex (x : BitVec 32) : List UInt8 := [hd x 7, hd x 6, hd x 5, hd x 4, hd x 3, hd x 2, hd x 1, hd x 0]
def tc (x : BitVec 32) (k j : Nat) : Value := .int .u8 (if j < k then (hd x j).toNat else 0)
def tx (x : BitVec 32) (k : Nat) : Array Value := #[tc x k 7, tc x k 6, tc x k 5, tc x k 4, tc x k 3, tc x k 2, tc x k 1, tc x k 0]
theorem tx_size (x : BitVec 32) (k : Nat) : (tx x k).size = 8 := rfl
theorem tx_0 (x : BitVec 32) : tx x 0 = #[.int .u8 0, .int .u8 0, .int .u8 0, .int .u8 0, .int .u8 0, .int .u8 0, .int .u8 0, .int .u8 0] := by
  simp [tx, tc]
theorem lt8 {k : Nat} (h : k < 8) : k = 0 ∨ k = 1 ∨ k = 2 ∨ k = 3 ∨ k = 4 ∨ k = 5 ∨ k = 6 ∨ k = 7 := by omega
theorem tx_get (x : BitVec 32) (k : Nat) (h : k < 8) : (tx x k)[7 - k]? = some (.int .u8 0) := by
  rcases lt8 h with rfl | rfl | rfl | rfl | rfl | rfl | rfl | rfl <;> simp [tx, tc]
theorem tx_set (x : BitVec 32) (k : Nat) (h : k < 8) : (tx x k).setIfInBounds (7 - k) (.int .u8 ((hd x k).toNat : Int)) = tx x (k + 1) := by
  rcases lt8 h with rfl | rfl | rfl | rfl | rfl | rfl | rfl | rfl <;> simp [tx, tc]
theorem nib_and (x : BitVec 32) (k : Nat) : bits .and .u32 (U x / (2 : Int) ^ (4 * k)) 15 = ((nib x k : Nat) : Int) := by
  have e : (15 : Int) = U 15#32 := by decide
  rw [e, U_shr, U_and]; unfold U nib
  rw [BitVec.toNat_and, show (15#32).toNat = 15 from rfl, nat_mask4, BitVec.toNat_ushiftRight, Nat.shiftRight_eq_div_pow, Nat.pow_mul]
theorem hd_eq (x : BitVec 32) (k n : Nat) (hn : n = nib x k) (h : n < digs.size) : digs[n] = hd x k := by
  subst hn; rfl
theorem hide {p : Prop} (h : p) : Hid p := h
theorem unhide {p : Prop} (h : Hid p) : p := h
theorem conv_text (x : BitVec 32) (w : World) : Sem.run Try.prog (convert 36 9 (Value.slice (some { block := w.heap.size, off := 0 }) 8 8)) (w.alloc (Obj.cells (tx x 8) 46)) = .ok (.string ⟨(hex x).toArray⟩) (w.alloc (Obj.cells (tx x 8) 46)) := by
  refine (run_convert_bytes_string _ 36 9 5 _ _ _ Try.underlying36 Try.underlying5 Try.underlying9).trans ?_
  rw [run_bytesToString (ns := (hex x).map fun c => (c.toNat : Int))]
  · simp [hex]; rfl
  · have h := run_loadCellsFrom_new (P := Try.prog) w 46 (tx x 8) 8 rfl
    simpa [loadCells, tx, tc, hex] using h
theorem text_any (x : BitVec 32) (w : World) :
    Calls Try.prog 19 #[.int .u32 (U x)] w fun e w' => e = .returned (.string ⟨(hex x).toArray⟩) ∧ Grown w w' := by
  go_enter Try.func19, Try.ntmps19
  go_wp2_with fail
  go_loopw [4, 5] (fun _ i W => ∃ k : Nat, k ≤ 8 ∧ i = .int .i64 k ∧ W = w.alloc (.cells (tx x k) 46)) (fun _ i _ => 8 - (intOf i).toNat)
  case atStart => exact ⟨0, Nat.zero_le _, rfl, by rw [tx_0]⟩
  case round =>
    obtain ⟨k, hk, rfl, rfl⟩ := hrel
    have hsz := tx_size x k
    by_cases hlt : k < 8
    · have hget := tx_get x k hlt
      have hset := hide (tx_set x k hlt)
      obtain ⟨n, hn⟩ : ∃ n, n = nib x k := ⟨_, rfl⟩
      have hb := nib_and x k
      have h16 := nib_lt x k
      rw [← hn] at hb h16
      have hdd := hide (hd_eq x k n hn h16)
      have hn' := hide hn
      clear hn
      go_wp2
      go_roundw
      case rel => exact ⟨k + 1, by omega, by go_num, by rw [← unhide hset, ← unhide hdd]; rfl⟩
      case measure => simp [intOf]; omega
    · obtain rfl : k = 8 := by omega
      have hcv := conv_text x w
      go_wp2
      go_ret
      exact ⟨rfl, (Grown.refl _).alloc _ _⟩
def dval (c : Nat) : Option Nat := if 48 ≤ c ∧ c ≤ 57 then some (c - 48) else if 97 ≤ c ∧ c ≤ 102 then some (c - 87) else none
theorem dval_cases {c d : Nat} (h : dval c = some d) : (48 ≤ c ∧ c ≤ 57 ∧ d = c - 48) ∨ (97 ≤ c ∧ c ≤ 102 ∧ d = c - 87) := by
  unfold dval at h
  split at h
  · simp at h; omega
  · split at h <;> simp at h; omega
theorem dval_none {c : Nat} (h : dval c = none) : (c < 48) ∨ (57 < c ∧ c < 97) ∨ 102 < c := by
  unfold dval at h
  split at h
  · simp at h
  · split at h
    · simp at h
    · omega
theorem digit_09 (c : Nat) (h1 : 48 ≤ c) (h2 : c ≤ 57) (w : World) :
    Calls Try.prog 25 #[.int .u8 (c : Int)] w fun e w' => e = .returned (.tuple #[.int .u32 ((c - 48 : Nat) : Int), .bool true]) ∧ w' = w := by
  go_enter Try.func25, Try.ntmps25
  go_wp2
  go_ret2
  exact ⟨by go_num, rfl⟩
theorem digit_af (c : Nat) (h1 : 97 ≤ c) (h2 : c ≤ 102) (w : World) :
    Calls Try.prog 25 #[.int .u8 (c : Int)] w fun e w' => e = .returned (.tuple #[.int .u32 ((c - 87 : Nat) : Int), .bool true]) ∧ w' = w := by
  go_enter Try.func25, Try.ntmps25
  go_wp2
  go_ret2
  exact ⟨by go_num, rfl⟩
theorem digit_no (c : Nat) (hc : c < 256) (h : dval c = none) (w : World) :
    Calls Try.prog 25 #[.int .u8 (c : Int)] w fun e w' => e = .returned (.tuple #[.int .u32 0, .bool false]) ∧ w' = w := by
  have h' := dval_none h
  clear h
  rcases h' with h | h | h
  all_goals
    go_enter Try.func25, Try.ntmps25
    go_wp2
    all_goals
    go_ret2
    exact ⟨rfl, rfl⟩
theorem digit_yes (c d : Nat) (h : dval c = some d) (w : World) :
    Calls Try.prog 25 #[.int .u8 (c : Int)] w fun e w' => e = .returned (.tuple #[.int .u32 (d : Int), .bool true]) ∧ w' = w := by
  rcases dval_cases h with ⟨h1, h2, rfl⟩ | ⟨h1, h2, rfl⟩
  · exact digit_09 c h1 h2 w
  · exact digit_af c h1 h2 w
theorem refDigit_yes (c d : Nat) (h : dval c = some d) (w : World) :
    Calls Try.prog 26 #[.int .u8 (c : Int)] w fun e w' => e = .returned (.int .i64 (d : Int)) ∧ w' = w := by
  rcases dval_cases h with ⟨h1, h2, rfl⟩ | ⟨h1, h2, rfl⟩
  all_goals
    clear h
    go_enter Try.func26, Try.ntmps26
    go_wp2
    go_ret
    exact ⟨by go_num, rfl⟩
theorem refDigit_no (c : Nat) (hc : c < 256) (h : dval c = none) (w : World) :
    Calls Try.prog 26 #[.int .u8 (c : Int)] w fun e w' => e = .returned (.int .i64 (-1)) ∧ w' = w := by
  have h' := dval_none h
  clear h
  rcases h' with h | h | h
  all_goals
    go_enter Try.func26, Try.ntmps26
    go_wp2
    go_ret
    exact ⟨rfl, rfl⟩
theorem dval_lt {c d : Nat} (h : dval c = some d) : d < 16 := by
  have := dval_cases h; omega
def rdStep (a : BitVec 32) (d : Nat) : BitVec 32 := (a <<< 4) ||| BitVec.ofNat 32 d
def rdF (o : Option (BitVec 32)) (c : UInt8) : Option (BitVec 32) := o.bind fun a => (dval c.toNat).map (rdStep a)
def rd (s : List UInt8) : Option (BitVec 32) := s.foldl rdF (some 0#32)
theorem rd_or (a : BitVec 32) (d : Nat) (h : d < 16) : bits .or .u32 (U a * 16 % 4294967296) (d : Int) = U (rdStep a d) := by
  have e1 : U a * (16 : Int) % (4294967296 : Int) = U (a <<< 4) := by
    unfold U; rw [BitVec.toNat_shiftLeft, Nat.shiftLeft_eq]; omega
  have e2 : (d : Int) = U (BitVec.ofNat 32 d) := by
    unfold U; rw [BitVec.toNat_ofNat, Nat.mod_eq_of_lt (by omega)]
  rw [e1, e2, U_or]; rfl
theorem rd_snoc (s : ByteArray) (k : Nat) (h : k < s.size) : rd (s.data.toList.take (k + 1)) = rdF (rd (s.data.toList.take k)) s[k] := by
  unfold rd
  rw [List.take_succ_eq_append_getElem (by simpa using h), List.foldl_append]; rfl
theorem rd_none_fold (s : List UInt8) : s.foldl rdF none = none := by
  induction s with
  | nil => rfl
  | cons c s ih => exact ih
theorem rd_none (s : List UInt8) (k : Nat) (h : rd (s.take k) = none) : rd s = none := by
  have e : rd s = (s.drop k).foldl rdF (rd (s.take k)) := by
    unfold rd; rw [← List.foldl_append, List.take_append_drop]
  rw [e, h, rd_none_fold]
def rdv (s : ByteArray) : BitVec 32 × Int := if s.size = 8 then (match rd s.data.toList with | some a => (a, 0) | none => (0#32, 2)) else (0#32, 2)
theorem read_any (s : ByteArray) (hs : s.size ≤ maxLen) (w : World) :
    Calls Try.prog 17 #[.string s] w fun e w' => e = .returned (.tuple #[.int .u32 (U (rdv s).1), .int .i64 (rdv s).2]) ∧ w' = w := by
  unfold maxLen at hs
  by_cases h8 : s.size = 8
  · have h8' : ((s.size : Int) != 8) = false := by rw [h8]; rfl
    have h88 : Hid (s.size = 8) := h8
    have hlo : 8 ≤ s.size := by omega
    clear h8
    go_enter Try.func17, Try.ntmps17
    go_wp2_with fail
    go_loop [4, 5, 6, 7, 11] (fun r _ _ _ i => ∃ k : Nat, ∃ a : BitVec 32, k ≤ 8 ∧ i = .int .i64 k ∧ rd (s.data.toList.take k) = some a ∧ r = .int .u32 (U a)) (fun _ _ _ _ i => 8 - (intOf i).toNat)
    case atStart => exact ⟨0, 0#32, Nat.zero_le _, rfl, rfl, rfl⟩
    case round =>
      obtain ⟨k, a, hk, rfl, ha, rfl⟩ := hrel
      have Ha : Hid (rd (s.data.toList.take k) = some a) := ha
      clear ha
      by_cases hlt : k < 8
      · have hb := (s[k]'(by omega)).toNat_lt
        cases hd : dval (s[k]'(by omega)).toNat with
        | some d =>
          have Hd : Hid (dval (s[k]'(by omega)).toNat = some d) := hd
          have hd16 := dval_lt hd
          clear hd
          go_wp2_with (go_at_call 25; refine (digit_yes _ d Hd.out _).mono ?_; rintro e w' ⟨rfl, rfl⟩)
          go_round
          case rel => exact ⟨k + 1, rdStep a d, by omega, by go_num, by rw [rd_snoc _ _ (by omega), Ha.out]; show Option.map _ (dval _) = _; rw [Hd.out]; rfl, by rw [rd_or _ _ hd16]⟩
          case measure => simp [intOf]; omega
        | none =>
          have Hd : Hid (dval (s[k]'(by omega)).toNat = none) := hd
          clear hd
          go_wp2_with (go_at_call 25; refine (digit_no _ (by omega) Hd.out _).mono ?_; rintro e w' ⟨rfl, rfl⟩)
          go_ret2
          have hv : rdv s = (0#32, 2) := by
            have h0 : rd (s.data.toList.take (k + 1)) = none := by
              rw [rd_snoc _ _ (by omega), Ha.out]; show Option.map _ (dval _) = _; rw [Hd.out]; rfl
            unfold rdv; rw [if_pos h88.out, rd_none _ _ h0]
          rw [hv]
          exact ⟨rfl, rfl⟩
      · go_wp2
        go_ret2
        have hv : rdv s = (a, 0) := by
          have h0 := Ha.out
          rw [List.take_of_length_le (by have := h88.out; simp; omega)] at h0
          unfold rdv; rw [if_pos h88.out, h0]
        rw [hv]
        exact ⟨rfl, rfl⟩
  · have h8' : ((s.size : Int) != 8) = true := by rw [bne_iff_ne]; omega
    have hv : rdv s = (0#32, 2) := by unfold rdv; rw [if_neg h8]
    have Hv : Hid (rdv s = (0#32, 2)) := hv
    clear hv h8
    go_enter Try.func17, Try.ntmps17
    go_wp2
    go_ret2
    rw [Hv.out]
    exact ⟨rfl, rfl⟩
theorem refRead_any (s : ByteArray) (hs : s.size ≤ maxLen) (w : World) :
    Calls Try.prog 18 #[.string s] w fun e w' => e = .returned (.tuple #[.int .u32 (U (rdv s).1), .int .i64 (rdv s).2]) ∧ w' = w := by
  unfold maxLen at hs
  by_cases h8 : s.size = 8
  · have h8' : ((s.size : Int) != 8) = false := by rw [h8]; rfl
    have h88 : Hid (s.size = 8) := h8
    have hlo : 8 ≤ s.size := by omega
    clear h8
    go_enter Try.func18, Try.ntmps18
    go_wp2_with fail
    go_loop [4, 5, 6] (fun r i _ => ∃ k : Nat, ∃ a : BitVec 32, k ≤ 8 ∧ i = .int .i64 k ∧ rd (s.data.toList.take k) = some a ∧ r = .int .u32 (U a)) (fun _ i _ => 8 - (intOf i).toNat)
    case atStart => exact ⟨0, 0#32, Nat.zero_le _, rfl, rfl, rfl⟩
    case round =>
      obtain ⟨k, a, hk, rfl, ha, rfl⟩ := hrel
      have Ha : Hid (rd (s.data.toList.take k) = some a) := ha
      clear ha
      by_cases hlt : k < 8
      · have hb := (s[k]'(by omega)).toNat_lt
        cases hd : dval (s[k]'(by omega)).toNat with
        | some d =>
          have Hd : Hid (dval (s[k]'(by omega)).toNat = some d) := hd
          have hd16 := dval_lt hd
          clear hd
          go_wp2_with (go_at_call 26; refine (refDigit_yes _ d Hd.out _).mono ?_; rintro e w' ⟨rfl, rfl⟩)
          go_round
          case rel => exact ⟨k + 1, rdStep a d, by omega, by go_num, by rw [rd_snoc _ _ (by omega), Ha.out]; show Option.map _ (dval _) = _; rw [Hd.out]; rfl, by rw [rd_or _ _ hd16]⟩
          case measure => simp [intOf]; omega
        | none =>
          have Hd : Hid (dval (s[k]'(by omega)).toNat = none) := hd
          clear hd
          go_wp2_with (go_at_call 26; refine (refDigit_no _ (by omega) Hd.out _).mono ?_; rintro e w' ⟨rfl, rfl⟩)
          go_ret2
          have hv : rdv s = (0#32, 2) := by
            have h0 : rd (s.data.toList.take (k + 1)) = none := by
              rw [rd_snoc _ _ (by omega), Ha.out]; show Option.map _ (dval _) = _; rw [Hd.out]; rfl
            unfold rdv; rw [if_pos h88.out, rd_none _ _ h0]
          rw [hv]
          exact ⟨rfl, rfl⟩
      · go_wp2
        go_ret2
        have hv : rdv s = (a, 0) := by
          have h0 := Ha.out
          rw [List.take_of_length_le (by have := h88.out; simp; omega)] at h0
          unfold rdv; rw [if_pos h88.out, h0]
        rw [hv]
        exact ⟨rfl, rfl⟩
  · have h8' : ((s.size : Int) != 8) = true := by rw [bne_iff_ne]; omega
    have hv : rdv s = (0#32, 2) := by unfold rdv; rw [if_neg h8]
    have Hv : Hid (rdv s = (0#32, 2)) := hv
    clear hv h8
    go_enter Try.func18, Try.ntmps18
    go_wp2
    go_ret2
    rw [Hv.out]
    exact ⟨rfl, rfl⟩

def hexTo (x : BitVec 32) : Nat → List UInt8
  | 0 => []
  | k + 1 => hd x k :: hexTo x k
theorem hexTo_len (x : BitVec 32) (k : Nat) : (hexTo x k).length = k := by
  induction k with
  | zero => rfl
  | succ k ih => simp [hexTo, ih]
theorem nib_and64 (x : BitVec 32) (k y : Nat) (hy : y = x.toNat / 16 ^ k) : bits .and .u64 (y : Int) 15 = ((nib x k : Nat) : Int) := by
  have hyl : y < 4294967296 := by rw [hy]; exact Nat.lt_of_le_of_lt (Nat.div_le_self _ _) x.isLt
  rw [show (15 : Int) = ((15 : Nat) : Int) from rfl, u64_and_nat _ _ (by omega) (by omega), nat_mask4, hy]; rfl
theorem ext_digs : ∀ n : Fin 16, digs.extract n.val (n.val + 1) = ⟨#[digs[n.val]'n.isLt]⟩ := by decide
theorem hex_cons (x : BitVec 32) (k n : Nat) (hn : n = nib x k) (l : List UInt8) : digs.extract n (n + 1) ++ ⟨l.toArray⟩ = ⟨(hd x k :: l).toArray⟩ := by
  subst hn
  have e := ext_digs ⟨nib x k, nib_lt x k⟩
  simp only at e
  rw [e, show (#[digs[nib x k]'(nib_lt x k)] : Array UInt8) = [hd x k].toArray from rfl, ByteArray.mk_append_mk]; rfl
theorem hexn_any (x : BitVec 32) (w : World) :
    Calls Try.prog 27 #[.int .u64 (U x), .int .i64 8] w fun e w' => e = .returned (.string ⟨(hex x).toArray⟩) ∧ w' = w := by
  go_enter Try.func27, Try.ntmps27
  go_wp2_with fail
  go_loop [0, 5, 6, 7] (fun v s i _ => ∃ k y : Nat, ∃ l : List UInt8, k ≤ 8 ∧ y = x.toNat / 16 ^ k ∧ i = .int .i64 k ∧ l = hexTo x k ∧ s = .string ⟨l.toArray⟩ ∧ v = .int .u64 (y : Int)) (fun _ _ i _ => 8 - (intOf i).toNat)
  case atStart => exact ⟨0, x.toNat, [], Nat.zero_le _, by simp, rfl, rfl, rfl, rfl⟩
  case round =>
    obtain ⟨k, y, l, hk, hy, rfl, hl, rfl, rfl⟩ := hrel
    have Hl := hide hl
    have Hy := hide hy
    have hl8 : l.length ≤ 8 := by rw [hl, hexTo_len]; omega
    have hb := nib_and64 x k y hy
    have h16 := nib_lt x k
    have hyl : y < 4294967296 := by rw [hy]; exact Nat.lt_of_le_of_lt (Nat.div_le_self _ _) x.isLt
    obtain ⟨n, hn⟩ : ∃ n, n = nib x k := ⟨_, rfl⟩
    rw [← hn] at hb h16
    have Hn := hide hn
    clear hl hy hn
    by_cases hlt : k < 8
    · go_wp2
      go_round
      case rel => exact ⟨k + 1, y / 16, hd x k :: l, by omega, by rw [unhide Hy, Nat.pow_succ, Nat.div_div_eq_div_mul], by go_num, by rw [unhide Hl]; rfl, congrArg Value.string (hex_cons x k n (unhide Hn) l), by go_num⟩
      case measure => simp [intOf]; omega
    · go_wp2
      go_ret
      obtain rfl : k = 8 := by omega
      rw [unhide Hl]
      exact ⟨rfl, rfl⟩
theorem refText_any (x : BitVec 32) (w : World) :
    Calls Try.prog 20 #[.int .u32 (U x)] w fun e w' => e = .returned (.string ⟨(hex x).toArray⟩) ∧ w' = w := by
  have h0 := U_lo x
  have h1 := U_hi x
  go_enter Try.func20, Try.ntmps20
  go_wp2_with (go_at_call 27; refine (hexn_any x _).mono ?_; rintro e w' ⟨rfl, rfl⟩)
  go_ret
  exact ⟨rfl, rfl⟩
end Go.Proofs.Ytncgfcmjeojocaa
