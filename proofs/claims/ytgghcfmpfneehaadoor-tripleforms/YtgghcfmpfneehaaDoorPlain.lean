/- Plain functions of values and what holds of them: decimal and hexadecimal digits, the escapes of a text's literal, literals there and back. -/
import Derived.Lib.ItoaLen
import Derived.Lib.ParseIntBTie
namespace Go.Proofs.YtgghcfmpfneehaaDoor
open Go

/-- A hexadecimal digit. -/
def hd (n : Nat) : UInt8 := if n < 10 then UInt8.ofNat (48 + n) else UInt8.ofNat (87 + n)
/-- The hexadecimal digits of u, the first ahead. -/
def hexL (u : Nat) : List UInt8 := if _h : u < 16 then [hd u] else hexL (u / 16) ++ [hd (u % 16)]
theorem hexL_small {u : Nat} (h : u < 16) : hexL u = [hd u] := by rw [hexL, dif_pos h]
theorem hexL_big {u : Nat} (h : ¬ u < 16) : hexL u = hexL (u / 16) ++ [hd (u % 16)] := by rw [hexL, dif_neg h]
theorem dec_small {u : Nat} (h : u < 10) : Lib.decDigits u = [UInt8.ofNat (48 + u)] := by rw [Lib.decDigits, dif_pos h]
theorem dec_big {u : Nat} (h : ¬ u < 10) : Lib.decDigits u = Lib.decDigits (u / 10) ++ [UInt8.ofNat (48 + u % 10)] := by rw [Lib.decDigits, dif_neg h]

/-- What a byte is worth as a hexadecimal digit. -/
def hv (c : UInt8) : Nat := if c.toNat ≤ 57 then c.toNat - 48 else c.toNat - 87
def isHx (c : UInt8) : Prop := (48 ≤ c.toNat ∧ c.toNat ≤ 57) ∨ (97 ≤ c.toNat ∧ c.toNat ≤ 102)
def hexV (l : List UInt8) : Nat := l.foldl (fun a c => a * 16 + hv c) 0
def decV (l : List UInt8) : Nat := l.foldl (fun a c => a * 10 + (c.toNat - 48)) 0
theorem hexV_snoc (l : List UInt8) (c : UInt8) : hexV (l ++ [c]) = hexV l * 16 + hv c := by simp [hexV]
theorem decV_snoc (l : List UInt8) (c : UInt8) : decV (l ++ [c]) = decV l * 10 + (c.toNat - 48) := by simp [decV]
theorem hd_fin : ∀ n : Fin 16, isHx (hd n.val) ∧ hv (hd n.val) = n.val := by
  unfold isHx
  decide
theorem hd_hx {n : Nat} (h : n < 16) : isHx (hd n) := (hd_fin ⟨n, h⟩).1
theorem hv_hd {n : Nat} (h : n < 16) : hv (hd n) = n := (hd_fin ⟨n, h⟩).2
theorem hexV_hexL (u : Nat) : hexV (hexL u) = u := by
  induction u using Nat.strongRecOn with
  | _ u ih =>
    by_cases h : u < 16
    · rw [hexL_small h]; simp [hexV, hv_hd h]
    · rw [hexL_big h, hexV_snoc, ih _ (by omega), hv_hd (by omega)]; omega
theorem hexL_hx (u : Nat) : ∀ c ∈ hexL u, isHx c := by
  induction u using Nat.strongRecOn with
  | _ u ih =>
    intro c hc
    by_cases h : u < 16
    · rw [hexL_small h] at hc; simp at hc; subst hc; exact hd_hx h
    · rw [hexL_big h] at hc
      simp at hc
      rcases hc with hc | hc
      · exact ih _ (by omega) c hc
      · subst hc; exact hd_hx (by omega)
theorem hexL_ne (u : Nat) : hexL u ≠ [] := by
  by_cases h : u < 16
  · rw [hexL_small h]; simp
  · rw [hexL_big h]; simp
theorem hexL_len (k : Nat) : ∀ u, u < 16 ^ (k + 1) → (hexL u).length ≤ k + 1 := by
  induction k with
  | zero => intro u h; rw [hexL_small (by simpa using h)]; simp
  | succ k ih =>
    intro u h
    by_cases hu : u < 16
    · rw [hexL_small hu]; simp
    · rw [hexL_big hu]
      have := ih (u / 16) (by rw [Nat.pow_succ] at h; omega)
      simp; omega
theorem dec_fin : ∀ n : Fin 10, (UInt8.ofNat (48 + n.val)).toNat = 48 + n.val := by decide
theorem dec_toNat {n : Nat} (h : n < 10) : (UInt8.ofNat (48 + n)).toNat = 48 + n := dec_fin ⟨n, h⟩
theorem decV_dec (u : Nat) : decV (Lib.decDigits u) = u := by
  induction u using Nat.strongRecOn with
  | _ u ih =>
    by_cases h : u < 10
    · rw [dec_small h]; simp only [decV, List.foldl]; rw [dec_toNat h]; omega
    · rw [dec_big h, decV_snoc, ih _ (by omega), dec_toNat (by omega)]; omega
theorem dec_digit (u : Nat) : ∀ c ∈ Lib.decDigits u, 48 ≤ c.toNat ∧ c.toNat ≤ 57 := by
  induction u using Nat.strongRecOn with
  | _ u ih =>
    intro c hc
    by_cases h : u < 10
    · rw [dec_small h] at hc; simp only [List.mem_singleton] at hc; subst hc; rw [dec_toNat h]; omega
    · rw [dec_big h] at hc
      simp only [List.mem_append, List.mem_singleton] at hc
      rcases hc with hc | hc
      · exact ih _ (by omega) c hc
      · subst hc; rw [dec_toNat (by omega)]; omega
theorem dec_ne (u : Nat) : Lib.decDigits u ≠ [] := by
  by_cases h : u < 10
  · rw [dec_small h]; simp
  · rw [dec_big h]; simp

theorem fold_ge (m : Nat) (hm : 1 ≤ m) (f : UInt8 → Nat) : ∀ (b : List UInt8) (a : Nat), a ≤ b.foldl (fun a c => a * m + f c) a := by
  intro b
  induction b with
  | nil => intro a; simp
  | cons c b ih =>
    intro a
    simp only [List.foldl]
    have h1 := ih (a * m + f c)
    have h2 : a * 1 ≤ a * m := Nat.mul_le_mul_left a hm
    omega
theorem hexV_app (a b : List UInt8) : hexV a ≤ hexV (a ++ b) := by
  unfold hexV
  rw [List.foldl_append]
  exact fold_ge 16 (by omega) hv b _
theorem decV_app (a b : List UInt8) : decV a ≤ decV (a ++ b) := by
  unfold decV
  rw [List.foldl_append]
  exact fold_ge 10 (by omega) (fun c => c.toNat - 48) b _

/- the library's reading of decimal digits -/
theorem parseM (l : List UInt8) : ∀ (M acc : Nat), M < 18446744073709551616 → (∀ c ∈ l, 48 ≤ c.toNat ∧ c.toNat ≤ 57) → l.foldl (fun a c => a * 10 + (c.toNat - 48)) acc ≤ M →
    Lib.parseUintM M acc l = .ok (l.foldl (fun a c => a * 10 + (c.toNat - 48)) acc) := by
  induction l with
  | nil => intro M acc _ _ _; rfl
  | cons c l ih =>
    intro M acc hM hd h
    have hc := hd c (by simp)
    have hge := fold_ge 10 (by omega) (fun c => c.toNat - 48) l (acc * 10 + (c.toNat - 48))
    simp only [List.foldl] at h ⊢
    have h1 : acc * 10 + (c.toNat - 48) ≤ M := Nat.le_trans hge h
    have h2 : ¬ 1844674407370955162 ≤ acc := by omega
    have h3 : ¬ M < acc * 10 + (c.toNat - 48) := by omega
    rw [Lib.parseUintM, if_pos hc, if_neg h2, if_neg h3]
    exact ih M _ hM (fun x hx => hd x (by simp [hx])) h
theorem parseB_dec (u : Nat) (h : u < 18446744073709551616) : Lib.parseUintB 64 (Lib.decDigits u) = .ok u := by
  unfold Lib.parseUintB
  rw [if_neg (dec_ne u)]
  have hv := decV_dec u
  unfold decV at hv
  have := parseM (Lib.decDigits u) (2 ^ 64 - 1) 0 (by decide) (dec_digit u) (by rw [hv]; omega)
  rw [this, hv]
theorem dec_head (u : Nat) : ∃ c r, Lib.decDigits u = c :: r ∧ 48 ≤ c.toNat ∧ c.toNat ≤ 57 := by
  have h0 := dec_ne u
  have h1 := dec_digit u
  cases h : Lib.decDigits u with
  | nil => exact absurd h h0
  | cons c r => exact ⟨c, r, rfl, h1 c (by rw [h]; simp)⟩
theorem parseInt_itoa (n : Int) (h0 : -9223372036854775808 ≤ n) (h1 : n < 9223372036854775808) : Lib.parseIntB 64 (Lib.itoa n) = .ok n := by
  unfold Lib.itoa
  by_cases hn : n < 0
  · rw [if_pos hn]
    unfold Lib.parseIntB
    have h45 : (45 : UInt8).toNat = 45 := by decide
    simp only [h45]
    have hp := parseB_dec n.natAbs (by omega)
    simp only [or_true, if_true, hp, not_true, false_and, if_false, true_and]
    rw [if_neg (by omega)]
    congr 1
    omega
  · rw [if_neg hn]
    obtain ⟨c, r, hcr, hc0, hc1⟩ := dec_head n.toNat
    have hp := parseB_dec n.toNat (by omega)
    rw [hcr] at hp ⊢
    unfold Lib.parseIntB
    have e1 : ¬ (c.toNat = 43) := by omega
    have e2 : ¬ (c.toNat = 45) := by omega
    simp only [e1, e2, or_self, if_false, hp, not_false_eq_true, true_and, false_and]
    rw [if_neg (by omega)]
    congr 1
    omega

/- the escapes of a text's literal -/
def escB (c : UInt8) : List UInt8 :=
  if c = 34 ∨ c = 92 then [92, c] else if 32 ≤ c.toNat ∧ c.toNat ≤ 126 then [c] else if c = 10 then [92, 110] else [92, 120, hd (c.toNat / 16), hd (c.toNat % 16)]
def escs (l : List UInt8) : List UInt8 := l.flatMap escB
def quo (l : List UInt8) : List UInt8 := 34 :: (escs l ++ [34])
theorem escs_snoc (l : List UInt8) (c : UInt8) : escs (l ++ [c]) = escs l ++ escB c := by simp [escs]
theorem escs_cons (c : UInt8) (l : List UInt8) : escs (c :: l) = escB c ++ escs l := by simp [escs]
theorem escB_len (c : UInt8) : 1 ≤ (escB c).length ∧ (escB c).length ≤ 4 := by
  unfold escB
  split
  · simp
  · split
    · simp
    · split <;> simp
theorem escs_len (l : List UInt8) : l.length ≤ (escs l).length ∧ (escs l).length ≤ 4 * l.length := by
  induction l with
  | nil => simp [escs]
  | cons c l ih => rw [escs_cons]; have := escB_len c; simp; omega
/-- A value's literal. -/
def lit (k : Nat) (b : Bool) (n : Int) (s : List UInt8) (u : Nat) : List UInt8 :=
  if k = 1 then (if b then [116, 114, 117, 101] else [102, 97, 108, 115, 101]) else if k = 2 then Lib.itoa n else if k = 3 then quo s else 48 :: 120 :: hexL u
/-- May a value be? -/
def may (k : Nat) (b : Bool) (n : Int) (s : List UInt8) (u : Nat) : Prop :=
  (k = 1 ∧ n = 0 ∧ s = [] ∧ u = 0) ∨ (k = 2 ∧ b = false ∧ s = [] ∧ u = 0) ∨ (k = 3 ∧ b = false ∧ n = 0 ∧ u = 0 ∧ s.length ≤ 4096) ∨ (k = 4 ∧ b = false ∧ n = 0 ∧ s = [] ∧ 0 < u)
theorem lit_head (k : Nat) (b : Bool) (n : Int) (s : List UInt8) (u : Nat) : ∃ c r, lit k b n s u = c :: r := by
  unfold lit
  split
  · split <;> exact ⟨_, _, rfl⟩
  · split
    · unfold Lib.itoa
      split
      · exact ⟨_, _, rfl⟩
      · obtain ⟨c, r, h, _⟩ := dec_head n.toNat; exact ⟨c, r, h⟩
    · split
      · exact ⟨_, _, rfl⟩
      · exact ⟨_, _, rfl⟩
end Go.Proofs.YtgghcfmpfneehaaDoor
