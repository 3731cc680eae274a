/- Num of both; ReadNum of both. -/
import Derived.Test.YtgofdkheffoilaaGreatCda
import Derived.Deep.RegionHeld3
namespace Go.Proofs.YtgofdkheffoilaaGreat
open Go.RowKit
theorem len64_any (x : Nat) (h : x < 2 ^ 64) (w : World) :
    Calls Tryz.prog 62 #[.int .u64 (x : Int)] w fun e w' => e = .returned (.int .i64 (Lib.bitLen x : Int)) ∧ w' = w := by
  have h := len64_int x w (by omega) (by omega)
  rw [Int.toNat_natCast] at h
  exact h
def num (x : Nat) : List UInt8 := UInt8.ofNat (nb x) :: hf x (nb x)
theorem conv_one (n : Nat) (hn : n ≤ 8) (W : World) (b : Nat) (h : W.heap[b]? = some (.cells #[.int .u8 (n : Int)] 5)) :
    (convert 60 9 (.slice (some ⟨b, 0, none⟩) 1 1)).run Tryz.prog W = .ok (.string ⟨#[UInt8.ofNat n]⟩) W := by
  refine conv_row W b 1 1 [UInt8.ofNat n] #[] (0, 0) 5 rfl ?_
  rw [h]
  simp [vs, vb]
  omega
theorem conv_new (n : Nat) (hn : n ≤ 8) (W : World) : (convert 60 9 (.slice (some ⟨W.heap.size, 0, none⟩) 1 1)).run Tryz.prog (W.alloc (.cells #[.int .u8 (n : Int)] 5)) = .ok (.string ⟨#[UInt8.ofNat n]⟩) (W.alloc (.cells #[.int .u8 (n : Int)] 5)) :=
  conv_one n hn _ _ (heap_alloc_new W _)
theorem conv_new' (n : Nat) (hn : n ≤ 8) (W : World) : (convert 60 9 (.slice (some ⟨W.heap.size, 0, none⟩) 1 1)).run Tryz.prog (W.alloc (.cells #[.int .u8 (n : Int)] 5)).drew = .ok (.string ⟨#[UInt8.ofNat n]⟩) (W.alloc (.cells #[.int .u8 (n : Int)] 5)).drew :=
  conv_one n hn _ _ (heap_alloc_new W _)
theorem conv_then {n : Nat} (hn : n ≤ 8) {W W' : World} (hb : Bel (W.alloc (.cells #[.int .u8 (n : Int)] 5)).drew W') : (convert 60 9 (.slice (some ⟨W.heap.size, 0, none⟩) 1 1)).run Tryz.prog W' = .ok (.string ⟨#[UInt8.ofNat n]⟩) W' :=
  conv_one n hn _ _ (hb.row (heap_alloc_new W _))
theorem bitLen_64 (x : Nat) : Lib.bitLen x ≤ 64 := aux_le 64 x
theorem num_any (x : Nat) (h : x < 2 ^ 64) (w : World) :
    Calls Tryz.prog 22 #[.int .u64 (x : Int)] w fun e w' => e = .returned (.string ⟨(num x).toArray⟩) ∧ Bel w w' := by
  have c35 := hide (fun W => len64_any x h W)
  have c36 := hide (fun W => highFirst_any x (nb x) (nb8 x h) W)
  have hl := bitLen_64 x
  have hn8 := nb8 x h
  have hcv1 := conv_new (nb x) hn8
  have hcv2 := conv_new' (nb x) hn8
  have hwr : IntKind.u8.wrap (nb x : Int) = (nb x : Int) := by rw [IntKind.wrap_u8]; omega
  have hnb : ((Lib.bitLen x : Nat) + 7 : Int) / 8 = (nb x : Int) := by unfold nb; simp
  have hn := nb8 x h
  clear h
  generalize Lib.bitLen x = L at *
  generalize hm : nb x = n at *
  have Hm := hide hm
  clear hm
  have hsz : ¬ (9223372036854775807 < 1 + (hf x n).length) := by rw [hf_len]; omega
  go_enter Tryz.func22, Tryz.ntmps22
  go_wp2_with (go_at_call 62; refine (c35.out _).mono ?_; rintro e w' ⟨rfl, rfl⟩)
  go_region_with (go_at_call 63; refine (c36.out _).mono ?_; rintro e w'' ⟨rfl, hb⟩; first | have hc3 := conv_then hn8 hb | skip)
  all_goals
    go_wp2
    go_ret
    refine ⟨?_, ?_⟩
    · rw [num, Hm.out]; exact congrArg (fun s => Ending.returned (Value.string s)) (ByteArray.mk_append_mk [UInt8.ofNat n] (hf x n))
    · first | exact ((Bel.refl _).alloc _).drew.trans hb | exact ((Bel.refl _).drew.trans hb).alloc _
theorem div_zero_iff (x k : Nat) : x / 2 ^ k = 0 ↔ x < 2 ^ k := Nat.div_eq_zero_iff_lt (Nat.pow_pos (by omega))
set_option maxHeartbeats 1000000 in
theorem refNum_any (x : Nat) (h : x < 2 ^ 64) (w : World) :
    Calls Tryz.prog 40 #[.int .u64 (x : Int)] w fun e w' => e = .returned (.string ⟨(num x).toArray⟩) ∧ Bel w w' := by
  have c33 := hide (fun W => fixed_any x (nb x) (nb8 x h) W)
  have hn8 := nb8 x h
  have H64 := hide h
  clear h
  go_enter Tryz.func40, Tryz.ntmps40
  go_wp2_with fail
  go_loop [3, 4, 5, 6, 7, 8, 9, 10, 11, 12, 13] (fun i _ _ _ _ _ _ _ _ _ _ => ∃ k : Nat, k ≤ nb x ∧ i = .int .i64 k) (fun i _ _ _ _ _ _ _ _ _ _ => 8 - (intOf i).toNat)
  case atStart => exact ⟨0, Nat.zero_le _, rfl⟩
  case round =>
    obtain ⟨k, hk, rfl⟩ := hrel
    by_cases hlt : k < 8
    · by_cases hz : x < 2 ^ (8 * k)
      · have hd : (x : Int) / 2 ^ (8 * k) = 0 := by
          have := (div_zero_iff x (8 * k)).2 hz
          have e : (x : Int) / 2 ^ (8 * k) = ((x / 2 ^ (8 * k) : Nat) : Int) := by simp
          rw [e, this]; rfl
        obtain rfl : k = nb x := by
          have := (nb_le x k H64.out (by omega)).2 hz; omega
        generalize hm : nb x = n at *
        have Hm := hide hm
        have hcv1 := conv_new n hn8
        have hcv2 := conv_new' n hn8
        have hwr : IntKind.u8.wrap (n : Int) = (n : Int) := by rw [IntKind.wrap_u8]; omega
        have hsz : ¬ (9223372036854775807 < 1 + (hf x n).length) := by rw [hf_len]; omega
        clear hm hz hk
        go_wp2_with fail
        go_region_with (go_at_call 72; refine (c33.out _).mono ?_; rintro e w'' ⟨rfl, hb⟩; first | have hc3 := conv_then hn8 hb | skip)
        all_goals
          go_wp2
          go_ret
          refine ⟨?_, ?_⟩
          · rw [num, Hm.out]; exact congrArg (fun s => Ending.returned (Value.string s)) (ByteArray.mk_append_mk [UInt8.ofNat n] (hf x n))
          · first | exact ((Bel.refl _).alloc _).drew.trans hb | exact ((Bel.refl _).drew.trans hb).alloc _
      · have hd : ((x : Int) / 2 ^ (8 * k) != 0) = true := by
          have := mt (div_zero_iff x (8 * k)).1 hz
          have e : (x : Int) / 2 ^ (8 * k) = ((x / 2 ^ (8 * k) : Nat) : Int) := by simp
          rw [e, bne_iff_ne]; omega
        go_wp2_with fail
        go_round
        case rel =>
          refine ⟨k + 1, ?_, by go_num⟩
          have := mt (nb_le x k H64.out (by omega)).1 hz
          omega
        case measure => simp [intOf]; omega
    · obtain rfl : k = nb x := by omega
      generalize hm : nb x = n at *
      have Hm := hide hm
      have hcv1 := conv_new n hn8
      have hcv2 := conv_new' n hn8
      have hwr : IntKind.u8.wrap (n : Int) = (n : Int) := by rw [IntKind.wrap_u8]; omega
      have hsz : ¬ (9223372036854775807 < 1 + (hf x n).length) := by rw [hf_len]; omega
      clear hm hk
      go_wp2_with fail
      go_region_with (go_at_call 72; refine (c33.out _).mono ?_; rintro e w'' ⟨rfl, hb⟩; first | have hc3 := conv_then hn8 hb | skip)
      all_goals
        go_wp2
        go_ret
        refine ⟨?_, ?_⟩
        · rw [num, Hm.out]; exact congrArg (fun s => Ending.returned (Value.string s)) (ByteArray.mk_append_mk [UInt8.ofNat n] (hf x n))
        · first | exact ((Bel.refl _).alloc _).drew.trans hb | exact ((Bel.refl _).drew.trans hb).alloc _
theorem lift63 (x : Int) (h0 : -9223372036854775808 ≤ x) (h1 : x < 9223372036854775808) : IntKind.u64.wrap (IntKind.u64.wrap x + 9223372036854775808) = ((x + 9223372036854775808).toNat : Int) := by
  rw [IntKind.wrap_u64, IntKind.wrap_u64]; omega
theorem num_len (x : Nat) (h : x < 2 ^ 64) : (num x).length ≤ 9 := by
  have := nb8 x h
  unfold num; simp [hf_len]; omega
def n0 (s : ByteArray) : Nat := if h : 0 < s.size then (s[0]).toNat else 0
def n1 (s : ByteArray) : Nat := if h : 1 < s.size then (s[1]).toNat else 0
def rNum (s : ByteArray) : Nat × ByteArray × Int :=
  if s.size = 0 then (0, ⟨#[]⟩, 20) else if 8 < n0 s then (0, ⟨#[]⟩, 21) else if s.size < 1 + n0 s then (0, ⟨#[]⟩, 20)
  else if 0 < n0 s ∧ n1 s = 0 then (0, ⟨#[]⟩, 21) else (bg (s.extract 1 (1 + n0 s)).data.toList, s.extract (1 + n0 s) s.size, 0)
theorem n0_pos {s : ByteArray} (h : 0 < s.size) : n0 s = (s[0]).toNat := dif_pos h
theorem n1_pos {s : ByteArray} (h : 1 < s.size) : n1 s = (s[1]).toNat := dif_pos h
theorem rNum_cases (s : ByteArray) :
    (s.size = 0 ∧ rNum s = (0, ⟨#[]⟩, 20)) ∨
    (∃ h : 0 < s.size, 8 < (s[0]).toNat ∧ rNum s = (0, ⟨#[]⟩, 21)) ∨
    (∃ h : 0 < s.size, (s[0]).toNat ≤ 8 ∧ s.size < 1 + (s[0]).toNat ∧ rNum s = (0, ⟨#[]⟩, 20)) ∨
    (∃ h : 1 < s.size, (s[0]).toNat ≤ 8 ∧ 1 + (s[0]).toNat ≤ s.size ∧ 0 < (s[0]).toNat ∧ (s[1]).toNat = 0 ∧ rNum s = (0, ⟨#[]⟩, 21)) ∨
    (∃ h : 1 < s.size, (s[0]).toNat ≤ 8 ∧ 1 + (s[0]).toNat ≤ s.size ∧ 0 < (s[0]).toNat ∧ 0 < (s[1]).toNat ∧ rNum s = (bg (s.extract 1 (1 + (s[0]).toNat)).data.toList, s.extract (1 + (s[0]).toNat) s.size, 0)) ∨
    (∃ h : 0 < s.size, (s[0]).toNat = 0 ∧ rNum s = (bg (s.extract 1 (1 + (s[0]).toNat)).data.toList, s.extract (1 + (s[0]).toNat) s.size, 0)) := by
  by_cases h0 : s.size = 0
  · left; exact ⟨h0, by unfold rNum; rw [if_pos h0]⟩
  · have h : 0 < s.size := by omega
    right
    by_cases h8 : 8 < n0 s
    · left; refine ⟨h, by rw [← n0_pos]; exact h8, by unfold rNum; rw [if_neg h0, if_pos h8]⟩
    · right
      by_cases hs : s.size < 1 + n0 s
      · left; refine ⟨h, by rw [← n0_pos]; omega, by rw [← n0_pos]; exact hs, by unfold rNum; rw [if_neg h0, if_neg h8, if_pos hs]⟩
      · right
        by_cases hp : 0 < n0 s
        · have h1 : 1 < s.size := by omega
          by_cases hz : n1 s = 0
          · left; exact ⟨h1, by rw [← n0_pos]; omega, by rw [← n0_pos]; omega, by rw [← n0_pos]; omega, by rw [← n1_pos]; exact hz, by unfold rNum; rw [if_neg h0, if_neg h8, if_neg hs, if_pos ⟨hp, hz⟩]⟩
          · right; left
            exact ⟨h1, by rw [← n0_pos]; omega, by rw [← n0_pos]; omega, by rw [← n0_pos]; omega, by rw [← n1_pos]; omega, by unfold rNum; rw [if_neg h0, if_neg h8, if_neg hs, if_neg (fun q => hz q.2), n0_pos h]⟩
        · right; right
          exact ⟨h, by rw [← n0_pos]; omega, by unfold rNum; rw [if_neg h0, if_neg h8, if_neg hs, if_neg (fun q => hp q.1), n0_pos h]⟩
theorem ne_byte {c : UInt8} (h : 0 < c.toNat) : (((c.toNat : Nat) : Int) == 0) = false := by rw [beq_eq_false_iff_ne]; omega
theorem read_end (s : ByteArray) (n b : Nat) (w w' : World) (hb : Bel w w') (v : Value) (hv : v = .int .i64 0) :
    Ending.returned (.tuple #[.int .u64 (b : Int), .string (s.extract (1 + (n : Int)).toNat s.size), v]) = Ending.returned (.tuple #[.int .u64 (b : Int), .string (s.extract (1 + n) s.size), .int .i64 0]) ∧ Bel w w' := by
  have e : (1 + (n : Int)).toNat = 1 + n := by omega
  rw [e, hv]; exact ⟨rfl, hb⟩
theorem fault_any (s : ByteArray) (hm : s.size ≤ 150000000000000) (w : World) :
    Calls Tryz.prog 139 #[.string s] w fun e w' => e = .returned (.int .i64 (rNum s).2.2) ∧ w' = w := by
  rcases rNum_cases s with ⟨h0, e⟩ | ⟨h0, h8, e⟩ | ⟨h0, h8, hs, e⟩ | ⟨h1, h8, hs, hp, hz, e⟩ | ⟨h1, h8, hs, hp, hz, e⟩ | ⟨h0, hp, e⟩
  all_goals rw [e]; clear e
  · go_enter Tryz.func139, Tryz.ntmps139
    go_wp2
    go_ret
    exact ⟨rfl, rfl⟩
  · go_enter Tryz.func139, Tryz.ntmps139
    go_wp2
    go_ret
    exact ⟨rfl, rfl⟩
  · go_enter Tryz.func139, Tryz.ntmps139
    go_wp2
    go_ret
    exact ⟨rfl, rfl⟩
  · go_enter Tryz.func139, Tryz.ntmps139
    go_wp2
    go_ret
    exact ⟨rfl, rfl⟩
  · have h2 := ne_byte hz
    clear hz
    go_enter Tryz.func139, Tryz.ntmps139
    go_wp2
    go_ret
    exact ⟨rfl, rfl⟩
  · go_enter Tryz.func139, Tryz.ntmps139
    go_wp2
    go_ret
    exact ⟨rfl, rfl⟩
theorem readNum_bad (s : ByteArray) (hm : s.size ≤ 150000000000000) (x : Int) (he : rNum s = (0, ⟨#[]⟩, x)) (hx : (x != 0) = true) (w : World) :
    Calls Tryz.prog 112 #[.string s] w fun e w' => e = .returned (.tuple #[.int .u64 ((rNum s).1 : Int), .string (rNum s).2.1, .int .i64 (rNum s).2.2]) ∧ Bel w w' := by
  have c37 : Hid (∀ W, Calls Tryz.prog 139 #[.string s] W fun e w' => e = .returned (.int .i64 x) ∧ w' = W) := hide (fun W => by
    have := fault_any s hm W
    rw [he] at this; exact this)
  rw [he]
  clear he
  go_enter Tryz.func112, Tryz.ntmps112
  go_wp2_with (go_at_call 139; refine (c37.out _).mono ?_; rintro e w' ⟨rfl, rfl⟩)
  go_ret3
  exact ⟨rfl, Bel.refl _⟩
theorem readNum_ok (s : ByteArray) (hm : s.size ≤ 150000000000000) (n : Nat) (h0 : 0 < s.size) (hn : (s[0]).toNat = n) (hb : n ≤ 8) (hs : 1 + n ≤ s.size) (he : rNum s = (bg (s.extract 1 (1 + n)).data.toList, s.extract (1 + n) s.size, 0)) (w : World) :
    Calls Tryz.prog 112 #[.string s] w fun e w' => e = .returned (.tuple #[.int .u64 ((rNum s).1 : Int), .string (rNum s).2.1, .int .i64 (rNum s).2.2]) ∧ Bel w w' := by
  have c37 : Hid (∀ W, Calls Tryz.prog 139 #[.string s] W fun e w' => e = .returned (.int .i64 0) ∧ w' = W) := hide (fun W => by
    have := fault_any s hm W
    rw [he] at this; exact this)
  have c38 := fun W => number_any (s.extract 1 (1 + n)) (by simp; omega) W
  rw [he]
  generalize bg (s.extract 1 (1 + n)).data.toList = b at *
  have C38 := hide c38
  clear he c38
  go_enter Tryz.func112, Tryz.ntmps112
  go_wp2_with (go_at_call 139; refine (c37.out _).mono ?_; rintro e w' ⟨rfl, rfl⟩)
  go_region_with (go_at_call 140; refine (C38.out _).mono ?_; rintro e w'' ⟨rfl, rfl⟩)
  all_goals
    go_wp2
    go_ret3
    exact read_end s n b _ _ (Bel.refl _).drew _ rfl
theorem readNum_any (s : ByteArray) (hm : s.size ≤ 150000000000000) (w : World) :
    Calls Tryz.prog 112 #[.string s] w fun e w' => e = .returned (.tuple #[.int .u64 ((rNum s).1 : Int), .string (rNum s).2.1, .int .i64 (rNum s).2.2]) ∧ Bel w w' := by
  rcases rNum_cases s with ⟨h0, e⟩ | ⟨h0, h8, e⟩ | ⟨h0, h8, hs, e⟩ | ⟨h1, h8, hs, hp, hz, e⟩ | ⟨h1, h8, hs, hp, hz, e⟩ | ⟨h0, hp, e⟩
  · exact readNum_bad s hm _ e rfl w
  · exact readNum_bad s hm _ e rfl w
  · exact readNum_bad s hm _ e rfl w
  · exact readNum_bad s hm _ e rfl w
  · exact readNum_ok s hm _ (by omega) rfl h8 hs e w
  · exact readNum_ok s hm _ h0 rfl (by omega) (by omega) e w
theorem beq_empty (s : ByteArray) : s.toList.isEmpty = decide (s.size = 0) := by
  rw [ByteArray.toList_eq, Bool.eq_iff_iff, List.isEmpty_iff, decide_eq_true_iff, ← List.length_eq_zero_iff]
  rfl
theorem refNum_ok (s : ByteArray) (hm : s.size ≤ 150000000000000) (n : Nat) (h0 : 0 < s.size) (hn : (s[0]).toNat = n) (hb : n ≤ 8) (hs : 1 + n ≤ s.size) (hz : n = 0 ∨ (0 < n ∧ ∃ h : 1 < s.size, 0 < (s[1]).toNat)) (b : Nat) (hbb : bg (s.extract 1 (1 + n)).data.toList = b) (w : World) :
    Calls Tryz.prog 70 #[.string s] w fun e w' => e = .returned (.tuple #[.int .u64 (b : Int), .string (s.extract (1 + n) s.size), .int .i64 0]) ∧ Bel w w' := by
  have hq := beq_empty s
  rw [decide_eq_false (by omega)] at hq
  have C39 : Hid (∀ W, Calls Tryz.prog 115 #[.string (s.extract 1 (1 + n))] W fun e w' => e = .returned (.int .u64 (b : Int)) ∧ w' = W) := hide (fun W => by
    rw [← hbb]; exact big_any (s.extract 1 (1 + n)) (by simp; omega) W)
  have f0 : IntKind.i64.wrap (1 + (n : Int)) = 1 + (n : Int) := by rw [IntKind.wrap_i64]; omega
  have f1 : (0 : Int) ≤ 1 + (n : Int) := by omega
  have f2 : 1 + (n : Int) ≤ (s.size : Int) := by omega
  have f3 : (1 : Int) ≤ 1 + (n : Int) := by omega
  clear hbb
  rcases hz with h1 | ⟨hp, h1, h2⟩
  · have h1' : (n : Int) ≤ 0 := by omega
    clear h1
    go_enter Tryz.func70, Tryz.ntmps70
    go_wp2_with fail
    go_region_held3 (fun _ => True) (trivial) ((go_at_call 115; refine (C39.out _).mono ?_; rintro e w'' ⟨rfl, rfl⟩))
    all_goals
      go_wp2
      go_ret3
      exact read_end s n b _ _ (Bel.refl _).drew _ rfl
  · have h3 := ne_byte h2
    clear h2
    go_enter Tryz.func70, Tryz.ntmps70
    go_wp2_with fail
    go_region_held3 (fun _ => True) (trivial) ((go_at_call 115; refine (C39.out _).mono ?_; rintro e w'' ⟨rfl, rfl⟩))
    all_goals
      go_wp2
      go_ret3
      exact read_end s n b _ _ (Bel.refl _).drew _ rfl
theorem refReadNum_any (s : ByteArray) (hm : s.size ≤ 150000000000000) (w : World) :
    Calls Tryz.prog 70 #[.string s] w fun e w' => e = .returned (.tuple #[.int .u64 ((rNum s).1 : Int), .string (rNum s).2.1, .int .i64 (rNum s).2.2]) ∧ Bel w w' := by
  have hq := beq_empty s
  rcases rNum_cases s with ⟨h0, e⟩ | ⟨h0, h8, e⟩ | ⟨h0, h8, hs, e⟩ | ⟨h1, h8, hs, hp, hz, e⟩ | ⟨h1, h8, hs, hp, hz, e⟩ | ⟨h0, hp, e⟩
  · rw [e]; clear e
    rw [decide_eq_true h0] at hq
    go_enter Tryz.func70, Tryz.ntmps70
    go_wp2
    go_ret3
    exact ⟨rfl, Bel.refl _⟩
  · rw [e]; clear e
    have hby := (s[0]).toNat_lt
    rw [decide_eq_false (by omega)] at hq
    go_enter Tryz.func70, Tryz.ntmps70
    go_wp2
    go_ret3
    exact ⟨rfl, Bel.refl _⟩
  · rw [e]; clear e
    rw [decide_eq_false (by omega)] at hq
    go_enter Tryz.func70, Tryz.ntmps70
    go_wp2
    go_ret3
    exact ⟨rfl, Bel.refl _⟩
  · rw [e]; clear e
    rw [decide_eq_false (by omega)] at hq
    go_enter Tryz.func70, Tryz.ntmps70
    go_wp2
    go_ret3
    exact ⟨rfl, Bel.refl _⟩
  · rw [e]
    exact refNum_ok s hm _ (by omega) rfl h8 hs (Or.inr ⟨hp, h1, hz⟩) _ rfl w
  · rw [e]
    exact refNum_ok s hm _ h0 rfl (by omega) (by omega) (Or.inl hp) _ rfl w
end Go.Proofs.YtgofdkheffoilaaGreat
