/- What the document's Number, Hex, Uid, quoted and Text return; for every value. -/
import Derived.Test.YtgghcfmpfneehaaGreatDoorValK
namespace Go.Proofs.YtgghcfmpfneehaaGreatDoor
open Go.RowKit
def dig10 : ByteArray := ⟨#[48, 49, 50, 51, 52, 53, 54, 55, 56, 57]⟩
theorem ext10 : ∀ n : Fin 10, dig10.extract n.val (n.val + 1) = ⟨#[UInt8.ofNat (48 + n.val)]⟩ := by decide
theorem ext16 : ∀ n : Fin 16, dig16.extract n.val (n.val + 1) = ⟨#[hd n.val]⟩ := by decide
theorem cat10 (y : Nat) (h : y < 10) (l : List UInt8) : dig10.extract y (y + 1) ++ ⟨l.toArray⟩ = ⟨(UInt8.ofNat (48 + y) :: l).toArray⟩ := by
  rw [ext10 ⟨y, h⟩]; exact cat_byte _ l
theorem cat16 (y : Nat) (h : y < 16) (l : List UInt8) : dig16.extract y (y + 1) ++ ⟨l.toArray⟩ = ⟨(hd y :: l).toArray⟩ := by
  rw [ext16 ⟨y, h⟩]; exact cat_byte _ l
theorem dec_len (u : Nat) (h : u < 18446744073709551616) : (Lib.decDigits u).length ≤ 20 := by
  rw [Lib.decDigits_length]; exact Lib.nDigits_le20 u h
set_option maxRecDepth 100000 in
theorem number_doc (u : Nat) (hu : u < 18446744073709551616) (w : World) :
    Calls Tryz.prog 106 #[.int .u64 u] w fun e w' => e = .returned (.string ⟨(Lib.decDigits u).toArray⟩) ∧ Bel w w' := by
  have HU := hide hu
  have HN := hide (dec_len u hu)
  clear hu
  go_enter Tryz.func106, Tryz.ntmps106
  go_wp2_with fail
  go_loop [0, 3] (fun vx vs => ∃ (x : Nat) (l : List UInt8), vx = .int .u64 x ∧ vs = .string ⟨l.toArray⟩ ∧ Hid (x < 18446744073709551616 ∧ Lib.decDigits u = Lib.decDigits x ++ l)) (fun vx _ => (intOf vx).toNat)
  case atStart => exact ⟨u, [], rfl, rfl, HU.out, by simp⟩
  case round =>
    obtain ⟨x, l, rfl, rfl, HH⟩ := hrel
    have hl : l.length ≤ 20 := by
      have h1 := HN.out
      have h2 := congrArg List.length HH.out.2
      simp only [List.length_append] at h2
      omega
    by_cases hx : x < 10
    · have HX := hide hx
      go_wp2_with fail
      go_ret
      refine ⟨?_, Bel.refl _⟩
      rw [HH.out.2, dec_small HX.out]
      exact congrArg (fun t => Ending.returned (Value.string t)) (cat10 x HX.out l)
    · have HX := hide hx
      go_wp2_with fail
      have hw1 : IntKind.u64.wrap ((x : Int) / 10) = ((x / 10 : Nat) : Int) := by have := HH.out.1; rw [IntKind.wrap_u64]; omega
      refine ⟨⟨x / 10, UInt8.ofNat (48 + x % 10) :: l, by rw [hw1], congrArg Value.string (cat10 (x % 10) (by omega) l), by have := HH.out.1; omega, by rw [HH.out.2, dec_big HX.out]; simp⟩, ?_⟩
      rw [hw1]
      simp [intOf]; omega
/-- The n lowest hexadecimal digits of x. -/
def hexN : Nat → Nat → List UInt8
  | _, 0 => []
  | x, n + 1 => hexN (x / 16) n ++ [hd (x % 16)]
theorem hexN_len (n : Nat) : ∀ x, (hexN x n).length = n := by
  induction n with
  | zero => intro x; rfl
  | succ n ih => intro x; rw [hexN]; simp [ih]
theorem hexN_hexL (n : Nat) : ∀ u, u < 16 ^ (n + 1) → (n = 0 ∨ 16 ^ n ≤ u) → hexN u (n + 1) = hexL u := by
  induction n with
  | zero =>
    intro u h _
    rw [hexL_small (by simpa using h)]
    simp [hexN]
    rw [Nat.mod_eq_of_lt (by simpa using h)]
  | succ n ih =>
    intro u h h1
    have hp : 16 ^ (n + 1) ≤ u := by
      rcases h1 with h1 | h1
      · omega
      · exact h1
    have h16 : ¬ u < 16 := by
      have : 16 ^ 1 ≤ 16 ^ (n + 1) := Nat.pow_le_pow_right (by omega) (by omega)
      omega
    rw [hexN, hexL_big h16, ih (u / 16) (by rw [Nat.pow_succ] at h; omega)]
    by_cases hn : n = 0
    · exact Or.inl hn
    · exact Or.inr (by rw [Nat.pow_succ] at hp; omega)
set_option maxRecDepth 100000 in
theorem hex_doc (X n : Nat) (hX : X < 18446744073709551616) (hn : n ≤ 16) (w : World) :
    Calls Tryz.prog 105 #[.int .u64 X, .int .i64 n] w fun e w' => e = .returned (.string ⟨(hexN X n).toArray⟩) ∧ w' = w := by
  have HX := hide hX
  clear hX
  go_enter Tryz.func105, Tryz.ntmps105
  go_wp2_with fail
  go_loop [0, 5, 6] (fun vx vs vi => ∃ (x i : Nat) (l : List UInt8), vx = .int .u64 x ∧ vi = .int .i64 i ∧ vs = .string ⟨l.toArray⟩ ∧ i ≤ n ∧ l.length ≤ 16 ∧ Hid (x < 18446744073709551616 ∧ l.length = i ∧ hexN X n = hexN x (n - i) ++ l)) (fun _ _ vi => n - (intOf vi).toNat)
  case atStart => exact ⟨X, 0, [], rfl, rfl, rfl, Nat.zero_le _, by simp, HX.out, rfl, by simp⟩
  case round =>
    obtain ⟨x, i, l, rfl, rfl, rfl, hi, hl, HH⟩ := hrel
    by_cases hlt : i < n
    · obtain ⟨y, hy⟩ : ∃ y, y = x % 16 := ⟨_, rfl⟩
      have h15 := and15 x HH.out.1
      rw [← hy] at h15
      have y0 : (0 : Int) ≤ (y : Int) := by omega
      have y1 : (y : Int) < 16 := by omega
      have y2 : IntKind.u64.wrap ((y : Int) + 1) = (y : Int) + 1 := by rw [IntKind.wrap_u64]; omega
      have HY := hide hy
      clear hy
      go_wp2_with fail
      have hy16 : y < 16 := by omega
      have hx16 : (x : Int) / 16 = ((x / 16 : Nat) : Int) := by omega
      refine ⟨⟨x / 16, i + 1, hd y :: l, by rw [hx16], by first | rfl | (congr 1), congrArg Value.string ?_, by omega, ?_, by have := HH.out.1; omega, by have := HH.out.2.1; simp; omega, ?_⟩, ?_⟩
      · exact cat16 y hy16 l
      · have := HH.out.2.1; simp; omega
      · obtain ⟨m, hm⟩ : ∃ m, n - i = m + 1 := ⟨n - i - 1, by omega⟩
        rw [HH.out.2.2, hm, hexN, show n - (i + 1) = m by omega, HY.out]
        simp
      · simp [intOf]; omega
    · have hin : i = n := by omega
      have HE : Hid (hexN X n = l) := hide (by rw [HH.out.2.2, show n - i = 0 by omega]; simp [hexN])
      have i0 : (n : Int) ≤ (i : Int) := by omega
      clear hin
      go_wp2_with fail
      go_ret
      exact ⟨by rw [HE.out]; rfl, rfl⟩
theorem shr_zero (u n : Nat) : ((u : Int) / (2 : Int) ^ (4 * n) == 0) = decide (u < 16 ^ n) := by
  have h1 : (2 : Int) ^ (4 * n) = ((16 ^ n : Nat) : Int) := by
    rw [Int.pow_mul]; simp
  rw [h1]
  have h2 : (u : Int) / ((16 ^ n : Nat) : Int) = ((u / 16 ^ n : Nat) : Int) := by simp
  rw [h2]
  have h3 : u / 16 ^ n = 0 ↔ u < 16 ^ n := Nat.div_eq_zero_iff_lt (Nat.pow_pos (by omega))
  by_cases h : u < 16 ^ n
  · rw [h3.2 h, decide_eq_true h]; rfl
  · rw [decide_eq_false h, beq_eq_false_iff_ne]
    intro e
    exact h (h3.1 (by omega))
set_option maxRecDepth 100000 in
theorem uid_doc (u : Nat) (hu : u < 18446744073709551616) (w : World) :
    Calls Tryz.prog 72 #[.int .u64 u] w fun e w' => e = .returned (.string ⟨(48 :: 120 :: hexL u).toArray⟩) ∧ w' = w := by
  have HU := hide hu
  clear hu
  go_enter Tryz.func72, Tryz.ntmps72
  go_wp2_with fail
  go_loop [3] (fun vn => ∃ n : Nat, vn = .int .i64 n ∧ 1 ≤ n ∧ n ≤ 16 ∧ Hid (n = 1 ∨ 16 ^ (n - 1) ≤ u)) (fun vn => 16 - (intOf vn).toNat)
  case atStart => exact ⟨1, rfl, by omega, by omega, Or.inl rfl⟩
  case round =>
    obtain ⟨n, rfl, h1, h16, HH⟩ := hrel
    have hz := shr_zero u n
    by_cases hlt : n < 16
    · have i0 : (n : Int) < 16 := by omega
      have w0 : IntKind.i64.wrap (4 * (n : Int)) = 4 * (n : Int) := by rw [IntKind.wrap_i64]; omega
      have w1 : IntKind.u64.wrap (4 * (n : Int)) = 4 * (n : Int) := by rw [IntKind.wrap_u64]; omega
      by_cases hs : u < 16 ^ n
      · have HC := hide (hex_doc u n HU.out h16 w)
        have HE : Hid (hexN u n = hexL u) := hide (by
          obtain ⟨m, rfl⟩ : ∃ m, n = m + 1 := ⟨n - 1, by omega⟩
          refine hexN_hexL m u hs ?_
          rcases HH.out with h | h
          · exact Or.inl (by omega)
          · exact Or.inr h)
        rw [decide_eq_true hs] at hz
        clear hs
        have hq : ¬ (9223372036854775807 < 2 + (hexN u n).length) := by rw [hexN_len]; omega
        go_wp2_with (go_at_call 105; refine HC.out.mono ?_; rintro e w' ⟨rfl, rfl⟩)
        go_ret
        refine ⟨?_, rfl⟩
        rw [← HE.out]
        exact congrArg (fun t => Ending.returned (Value.string t)) (ByteArray.mk_append_mk [48, 120] (hexN u n))
      · have HS := hide hs
        have hz' : ((u : Int) / (2 : Int) ^ (4 * n) != 0) = true := by
          rw [decide_eq_false hs] at hz
          unfold bne; rw [hz]; rfl
        clear hs hz
        go_wp2_with fail
        refine ⟨⟨n + 1, by first | rfl | (congr 1), by omega, by omega, Or.inr (by have := HS.out; simp; omega)⟩, ?_⟩
        simp [intOf]; omega
    · have i0 : (16 : Int) ≤ (n : Int) := by omega
      have HC := hide (hex_doc u n HU.out h16 w)
      have HE : Hid (hexN u n = hexL u) := hide (by
        obtain rfl : n = 16 := by omega
        refine hexN_hexL 15 u (Nat.lt_of_lt_of_le HU.out (by decide)) ?_
        rcases HH.out with h | h
        · omega
        · exact Or.inr h)
      have hq : ¬ (9223372036854775807 < 2 + (hexN u n).length) := by rw [hexN_len]; omega
      clear hz
      go_wp2_with (go_at_call 105; refine HC.out.mono ?_; rintro e w' ⟨rfl, rfl⟩)
      go_ret
      refine ⟨?_, rfl⟩
      rw [← HE.out]
      exact congrArg (fun t => Ending.returned (Value.string t)) (ByteArray.mk_append_mk [48, 120] (hexN u n))
theorem ext_one (s : ByteArray) (k : Nat) (h : k < s.size) : s.extract k (k + 1) = ⟨#[s[k]]⟩ := by
  apply ba_ext
  rw [ba_extract, drop_cons s k h, show k + 1 - k = 1 by omega]
  rfl
theorem hex_two (c : UInt8) : hexN c.toNat 2 = [hd (c.toNat / 16), hd (c.toNat % 16)] := by
  have := c.toNat_lt
  simp only [hexN, List.nil_append, List.cons_append]
  rw [Nat.mod_eq_of_lt (by omega : c.toNat / 16 < 16)]
set_option maxHeartbeats 1000000 in
set_option maxRecDepth 100000 in
theorem quoted_doc (s : ByteArray) (hm : s.size ≤ 150000000000000) (w : World) :
    Calls Tryz.prog 104 #[.string s] w fun e w' => e = .returned (.string ⟨(quo s.data.toList).toArray⟩) ∧ w' = w := by
  go_enter Tryz.func104, Tryz.ntmps104
  go_wp2_with fail
  go_loop [3, 4] (fun vs vi => ∃ (k : Nat) (l : List UInt8), vs = .string ⟨l.toArray⟩ ∧ vi = .int .i64 k ∧ k ≤ s.size ∧ l.length ≤ 4 * k + 1 ∧ Hid (l = 34 :: escs (s.data.toList.take k))) (fun _ vi => s.size - (intOf vi).toNat)
  case atStart => exact ⟨0, [34], rfl, rfl, Nat.zero_le _, by simp, hide (by simp [escs])⟩
  case round =>
    obtain ⟨k, l, rfl, rfl, hk, hl, HL⟩ := hrel
    by_cases hlt : k < s.size
    · obtain ⟨c, hc⟩ : ∃ c, c = s[k] := ⟨_, rfl⟩
      have hE := hide (escs_take s k hlt)
      rw [← hc] at hE
      have HC := hide hc
      have hcn : ((s[k]).toNat : Int) = (c.toNat : Int) := by rw [hc]
      have HX := hide (ext_one s k hlt)
      clear hc
      by_cases h92 : c = 92
      · have hcc : ((s[k]).toNat : Int) = 92 := by rw [hcn, h92]; rfl
        have hq : ¬ (9223372036854775807 < l.length + 2) := by omega
        have HN : Hid (l ++ [92, 92] = 34 :: escs (s.data.toList.take (k + 1))) := hide (by rw [hE.out, HL.out, h92]; simp [escB])
        clear hcn h92
        go_wp2_with fail
        exact ⟨⟨k + 1, l ++ [92, 92], congrArg Value.string (ByteArray.mk_append_mk l [92, 92]), by first | rfl | (congr 1), by omega, by simp; omega, HN⟩, by simp [intOf]; omega⟩
      have n92 : ((((s[k]).toNat : Nat) : Int) == 92) = false := by rw [hcn]; exact byte_ne (n := 92) (by omega) h92
      by_cases h34 : c = 34
      · have hcc : ((s[k]).toNat : Int) = 34 := by rw [hcn, h34]; rfl
        have hq : ¬ (9223372036854775807 < l.length + 2) := by omega
        have HN : Hid (l ++ [92, 34] = 34 :: escs (s.data.toList.take (k + 1))) := hide (by rw [hE.out, HL.out, h34]; simp [escB])
        clear hcn h92 h34 n92
        go_wp2_with fail
        exact ⟨⟨k + 1, l ++ [92, 34], congrArg Value.string (ByteArray.mk_append_mk l [92, 34]), by first | rfl | (congr 1), by omega, by simp; omega, HN⟩, by simp [intOf]; omega⟩
      have n34 : ((((s[k]).toNat : Nat) : Int) == 34) = false := by rw [hcn]; exact byte_ne (n := 34) (by omega) h34
      by_cases h10 : c = 10
      · have hcc : ((s[k]).toNat : Int) = 10 := by rw [hcn, h10]; rfl
        have hq : ¬ (9223372036854775807 < l.length + 2) := by omega
        have HN : Hid (l ++ [92, 110] = 34 :: escs (s.data.toList.take (k + 1))) := hide (by rw [hE.out, HL.out, h10]; simp [escB])
        clear hcn h92 h34 n92 n34 h10
        go_wp2_with fail
        exact ⟨⟨k + 1, l ++ [92, 110], congrArg Value.string (ByteArray.mk_append_mk l [92, 110]), by first | rfl | (congr 1), by omega, by simp; omega, HN⟩, by simp [intOf]; omega⟩
      have n10 : ((((s[k]).toNat : Nat) : Int) == 10) = false := by rw [hcn]; exact byte_ne (n := 10) (by omega) h10
      have hor : ¬ (c = 34 ∨ c = 92) := by rintro (h | h) <;> contradiction
      by_cases hp : 32 ≤ c.toNat ∧ c.toNat ≤ 126
      · have p0 : (32 : Int) ≤ ((s[k]).toNat : Int) := by omega
        have p1 : ((s[k]).toNat : Int) ≤ 126 := by omega
        have hq : ¬ (9223372036854775807 < l.length + 1) := by omega
        have HN : Hid (l ++ [s[k]] = 34 :: escs (s.data.toList.take (k + 1))) := hide (by
          rw [hE.out, HL.out, ← HC.out]
          simp only [escB, if_neg hor, if_pos hp]; simp)
        have f0 : IntKind.i64.wrap ((k : Int) + 1) = (k : Int) + 1 := by rw [IntKind.wrap_i64]; omega
        have hx1 := HX.out
        have hq2 : ¬ (9223372036854775807 < l.length + (s.extract k (k + 1)).size) := by rw [HX.out]; show ¬ (_ < l.length + 1); omega
        clear hcn h92 h34 h10 hor hp
        go_wp2_with fail
        refine ⟨⟨k + 1, l ++ [s[k]], congrArg Value.string ?_, by first | rfl | (congr 1), by omega, by simp; omega, HN⟩, by simp [intOf]; omega⟩
        exact ByteArray.mk_append_mk l [s[k]]
      · have hq : ¬ (9223372036854775807 < l.length + 2) := by omega
        have hh := hex_doc c.toNat 2 (by have := c.toNat_lt; omega) (by omega) w
        obtain ⟨H, hH⟩ : ∃ H, H = hexN c.toNat 2 := ⟨_, rfl⟩
        have hH2 : H.length = 2 := by rw [hH, hexN_len]
        have HN : Hid (l ++ [92, 120] ++ H = 34 :: escs (s.data.toList.take (k + 1))) := hide (by
          rw [hE.out, HL.out, hH, hex_two]
          simp only [escB, if_neg hor, if_neg hp, if_neg h10]; simp)
        rw [← hH] at hh
        have HH := hide hh
        have hq2 : ¬ (9223372036854775807 < l.length + 2 + H.length) := by omega
        clear hh hH
        have hnp : (c.toNat : Int) < 32 ∨ (126 : Int) < (c.toNat : Int) := by omega
        clear h92 h34 h10 hor hp
        have HF : Hid ((⟨l.toArray⟩ : ByteArray) ++ ⟨#[92, 120]⟩ ++ ⟨H.toArray⟩ = ⟨(l ++ [92, 120] ++ H).toArray⟩) := hide (by
          have e1 := ByteArray.mk_append_mk l [92, 120]
          have e2 := ByteArray.mk_append_mk (l ++ [92, 120]) H
          rw [← e2, ← e1])
        rcases hnp with hnp | hnp
        · have p0 : ((s[k]).toNat : Int) < 32 := by omega
          go_wp2_with (go_at_call 105; refine HH.out.mono ?_; rintro e w' ⟨rfl, rfl⟩)
          exact ⟨⟨k + 1, _, congrArg Value.string HF.out, by first | rfl | (congr 1), by omega, by simp [hH2]; omega, HN⟩, by simp [intOf]; omega⟩
        · have p0 : (126 : Int) < ((s[k]).toNat : Int) := by omega
          have p1 : (32 : Int) ≤ ((s[k]).toNat : Int) := by omega
          have p3 : (c.toNat : Int) < 256 := by have := c.toNat_lt; omega
          have p4 : IntKind.u64.wrap (c.toNat : Int) = (c.toNat : Int) := by rw [IntKind.wrap_u64]; omega
          go_wp2_with (go_at_call 105; refine HH.out.mono ?_; rintro e w' ⟨rfl, rfl⟩)
          exact ⟨⟨k + 1, _, congrArg Value.string HF.out, by first | rfl | (congr 1), by omega, by simp [hH2]; omega, HN⟩, by simp [intOf]; omega⟩
    · have HZ : Hid (l = 34 :: escs s.data.toList) := hide (by have := HL.out; rwa [List.take_of_length_le (by rw [ba_len]; omega)] at this)
      have i0 : (s.size : Int) ≤ (k : Int) := by omega
      have hq : ¬ (9223372036854775807 < l.length + 1) := by omega
      go_wp2_with fail
      go_ret
      refine ⟨?_, rfl⟩
      unfold quo
      rw [show (34 :: (escs s.data.toList ++ [34]) : List UInt8) = l ++ [34] by rw [HZ.out]; simp]
      exact congrArg (fun t => Ending.returned (Value.string t)) (ByteArray.mk_append_mk l [34])
theorem neg_wrap (n : Int) (h0 : -9223372036854775808 ≤ n) (h1 : n < 0) : IntKind.u64.wrap (-IntKind.u64.wrap n) = (n.natAbs : Int) := by
  rw [IntKind.wrap_u64, IntKind.wrap_u64]; omega
set_option maxRecDepth 100000 in
theorem rtext_1 (b : Bool) (w : World) : Calls Tryz.prog 73 #[ev 1 b 0 ⟨#[]⟩ 0] w fun e w' => e = .returned (.string ⟨(tf b).toArray⟩) ∧ Bel w w' := by
  cases b
  · unfold ev
    go_enter Tryz.func73, Tryz.ntmps73
    go_wp2_with fail
    go_ret
    exact ⟨rfl, (Bel.refl _).alloc _⟩
  · unfold ev
    go_enter Tryz.func73, Tryz.ntmps73
    go_wp2_with fail
    go_ret
    exact ⟨rfl, (Bel.refl _).alloc _⟩
set_option maxRecDepth 100000 in
theorem rtext_2 (n : Int) (n0 : -9223372036854775808 ≤ n) (n1 : n < 9223372036854775808) (w : World) : Calls Tryz.prog 73 #[ev 2 false n ⟨#[]⟩ 0] w fun e w' => e = .returned (.string ⟨(Lib.itoa n).toArray⟩) ∧ Bel w w' := by
  by_cases hn : n < 0
  · have hwr := neg_wrap n n0 hn
    have HC := hide (fun W => number_doc n.natAbs (by omega) W)
    have hl := dec_len n.natAbs (by omega)
    have HE : Hid (Lib.itoa n = 45 :: Lib.decDigits n.natAbs) := hide (by unfold Lib.itoa; rw [if_pos hn])
    generalize hm : n.natAbs = m at *
    clear n0 n1 hm
    have hq : ¬ (9223372036854775807 < 1 + (Lib.decDigits m).length) := by omega
    unfold ev
    go_enter Tryz.func73, Tryz.ntmps73
    go_wp2_with (go_at_call 106; refine (HC.out _).mono ?_; rintro e w' ⟨rfl, hb⟩)
    go_ret
    refine ⟨?_, ((Bel.refl _).alloc _).trans hb⟩
    rw [HE.out]
    exact congrArg (fun t => Ending.returned (Value.string t)) (cat_byte 45 (Lib.decDigits m))
  · have hwr : IntKind.u64.wrap n = (n.toNat : Int) := by rw [IntKind.wrap_u64]; omega
    have HC := hide (fun W => number_doc n.toNat (by omega) W)
    have HE : Hid (Lib.itoa n = Lib.decDigits n.toNat) := hide (by unfold Lib.itoa; rw [if_neg hn])
    have i0 : 0 ≤ n := by omega
    generalize hm : n.toNat = m at *
    clear n0 n1 hm hn
    unfold ev
    go_enter Tryz.func73, Tryz.ntmps73
    go_wp2_with (go_at_call 106; refine (HC.out _).mono ?_; rintro e w' ⟨rfl, hb⟩)
    go_ret
    exact ⟨by rw [HE.out]; rfl, ((Bel.refl _).alloc _).trans hb⟩
set_option maxRecDepth 100000 in
theorem rtext_3 (s : ByteArray) (hm : s.size ≤ 150000000000000) (w : World) : Calls Tryz.prog 73 #[ev 3 false 0 s 0] w fun e w' => e = .returned (.string ⟨(quo s.data.toList).toArray⟩) ∧ Bel w w' := by
  unfold ev
  go_enter Tryz.func73, Tryz.ntmps73
  go_wp2_with (go_at_call 104; refine (quoted_doc s hm _).mono ?_; rintro e w' ⟨rfl, rfl⟩)
  go_ret
  exact ⟨rfl, (Bel.refl _).alloc _⟩
set_option maxRecDepth 100000 in
theorem rtext_4 (u : Nat) (hu : u < 18446744073709551616) (w : World) : Calls Tryz.prog 73 #[ev 4 false 0 ⟨#[]⟩ u] w fun e w' => e = .returned (.string ⟨(48 :: 120 :: hexL u).toArray⟩) ∧ Bel w w' := by
  have HC := hide (fun W => uid_doc u hu W)
  clear hu
  unfold ev
  go_enter Tryz.func73, Tryz.ntmps73
  go_wp2_with (go_at_call 72; refine (HC.out _).mono ?_; rintro e w' ⟨rfl, rfl⟩)
  go_ret
  exact ⟨rfl, (Bel.refl _).alloc _⟩
theorem rtext_yes {k : Int} {b : Bool} {n : Int} {s : ByteArray} {u : Int} (h : mayV k b n s u) (n0 : -9223372036854775808 ≤ n) (n1 : n < 9223372036854775808) (u0 : 0 ≤ u) (u1 : u < 18446744073709551616) (w : World) :
    Calls Tryz.prog 73 #[ev k b n s u] w fun e w' => e = .returned (.string ⟨(ltr k b n s u).toArray⟩) ∧ Bel w w' := by
  rcases h with ⟨rfl, rfl, rfl, rfl⟩ | ⟨rfl, rfl, rfl, rfl⟩ | ⟨rfl, rfl, rfl, rfl, h⟩ | ⟨rfl, rfl, rfl, rfl, h⟩
  · exact rtext_1 b w
  · exact rtext_2 n n0 n1 w
  · exact rtext_3 s (by omega) w
  · obtain ⟨m, rfl⟩ : ∃ m : Nat, u = (m : Int) := ⟨u.toNat, by omega⟩
    exact rtext_4 m (by omega) w
end Go.Proofs.YtgghcfmpfneehaaGreatDoor
