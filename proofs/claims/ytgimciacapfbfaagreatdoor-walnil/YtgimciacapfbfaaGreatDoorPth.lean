/- The name of a wal's file. -/
import Derived.Test.YtgimciacapfbfaaGreatDoorWac
import Derived.Test.YtgimciacapfbfaaGreatDoorShf
import Derived.Lib.LaidTab
import Derived.Lib.AppendIntMem
namespace Go.Proofs.YtgimciacapfbfaaGreatDoor
open Go.RowKit Go.Maps Go.WideMaps
/-- The last k decimal digits. -/
def pad : Nat → Nat → List UInt8
  | 0, _ => []
  | k + 1, n => pad k (n / 10) ++ [UInt8.ofNat (48 + n % 10)]
theorem pad_len : ∀ k n, (pad k n).length = k
  | 0, _ => rfl
  | k + 1, n => by simp [pad, pad_len k]
theorem rep_repl : ∀ k, Lib.repeatL [48] k = List.replicate k 48
  | 0 => rfl
  | k + 1 => by rw [Lib.repeatL, rep_repl k]; rfl
theorem pad_zero : ∀ k, pad k 0 = List.replicate k 48
  | 0 => rfl
  | k + 1 => by
    rw [pad, Nat.zero_div, pad_zero k, List.replicate_succ']
    rfl
theorem pad_eq : ∀ (k n : Nat), Lib.nDigits n ≤ k → Lib.repeatL [48] (k - Lib.nDigits n) ++ Lib.decDigits n = pad k n
  | 0, n, h => by
    exfalso
    rw [Lib.nDigits] at h
    split at h <;> omega
  | k + 1, n, h => by
    by_cases hn : n < 10
    · rw [Lib.nDigits_small hn, Lib.decDigits_one hn, pad, Nat.div_eq_of_lt hn, pad_zero, Nat.mod_eq_of_lt hn, Nat.add_sub_cancel, rep_repl]
    · rw [Lib.nDigits_big hn] at h ⊢
      rw [Lib.decDigits, dif_neg hn, pad, ← pad_eq k (n / 10) (by omega), show k + 1 - (Lib.nDigits (n / 10) + 1) = k - Lib.nDigits (n / 10) by omega, List.append_assoc]
theorem nd_le : ∀ (k n : Nat), 0 < k → n < 10 ^ k → Lib.nDigits n ≤ k
  | 0, _, h, _ => absurd h (by omega)
  | k + 1, n, _, h => by
    by_cases hn : n < 10
    · rw [Lib.nDigits_small hn]; omega
    · rw [Lib.nDigits_big hn]
      rcases Nat.eq_zero_or_pos k with rfl | hk
      · simp at h; omega
      · have := nd_le k (n / 10) hk (by rw [Nat.pow_succ] at h; exact Nat.div_lt_of_lt_mul (by omega))
        omega
/-- The name of the file with that number. -/
def pth (nm : List UInt8) (n : Nat) : List UInt8 := nm ++ 47 :: pad 12 n
theorem pth_len (nm : List UInt8) (n : Nat) : (pth nm n).length = nm.length + 13 := by simp [pth, pad_len]
/-- The library's table is there. -/
def Gl (w : World) : Prop := Lib.TabIs Tryz.prog w "internal/strconv.uint64pow10" .u64 Lib.pow10Tab
theorem Gl.next {w w' : World} (h : Gl w) (hb : Bel w w') : Gl w' := Lib.tabBelow_of_tabIs h w' hb
theorem bel_grow (w : World) (k : Nat) (os : Array Obj) : Bel w (Sort.grow (w.drewN k) os) :=
  Lib.below_grow _ w (Nat.le_refl _) k os
set_option maxRecDepth 100000 in
theorem path_any {W : World} {q p : Nat} {x : PW} {v : Value} (hr : W.heap[q]? = some (.cells #[.pointer (some ⟨p, 0, none⟩), vS x.nm, .int .i64 x.first, .int .i64 x.last, v] 55)) (hg : Gl W) (hn : x.nm.length ≤ 64) (n : Nat) (h : n ≤ 999999999999) : Calls Tryz.prog 37 #[.pointer (some ⟨q, 0, none⟩), .int .i64 n] W fun e w' => e = .returned (vS (pth x.nm n)) ∧ Bel W w' := by
  have h57 := hide (Tryz.strconv_Itoa n (by omega) (by omega) W hg)
  rw [Lib.itoa_nonneg] at h57
  have hd := nd_le 12 n (by omega) (by omega)
  have hp := pad_eq 12 n hd
  have hl := Lib.decDigits_length n
  have hdl : (Lib.decDigits n).length ≤ 12 := by omega
  rw [← hl] at hp
  have h58 := hide (fun W => Tryz.strings_Repeat ⟨#[48]⟩ (12 - (Lib.decDigits n).length) W (by omega) (by show 1 * _ ≤ _; omega))
  rw [show ((⟨#[48]⟩ : ByteArray).data.toList) = [48] from rfl] at h58
  have hrl : (Lib.repeatL [48] (12 - (Lib.decDigits n).length)).length ≤ 12 := by rw [rep_repl]; simp
  have e1 : IntKind.i64.wrap (12 - ((Lib.decDigits n).length : Int)) = ((12 - (Lib.decDigits n).length : Nat) : Int) := by rw [wrapI (by omega) (by omega)]; omega
  unfold pth
  rw [← hp]
  generalize Lib.repeatL [48] (12 - (Lib.decDigits n).length) = rp at h58 hrl ⊢
  generalize 12 - (Lib.decDigits n).length = m at h58 e1
  generalize Lib.decDigits n = D at h57 e1 hdl ⊢
  have HR := hide hr
  have hfu := Tryz.follows
  clear hr hp hd hl hg
  go_enter Tryz.func37, Tryz.ntmps37
  go_wp2_with (go_at_call 57; refine (unhide h57).mono ?_; rintro e w1 ⟨rfl, k, os, rfl⟩)
  generalize hw1 : Sort.grow (W.drewN k) os = w1
  have hb1 : Bel W w1 := by rw [← hw1]; exact bel_grow W k os
  have k1 : ∀ p2 : BelBy w1, p2.W.cell? ⟨q, 1, none⟩ = some (.string ⟨x.nm.toArray⟩) := cell_bel (i := 1) (hb1.row (unhide HR)) rfl
  have hne := BelBy.some w1
  refine wp_region_bel hfu (by kernel_rfl) ?_
  repeat (go_big_quiet_step (first | (go_at_call 58; refine calls_by ((unhide h58) _))))
  refine wpQuiet_nil ?_
  rintro W2 ⟨p2, rfl⟩
  go_wp2_with fail
  go_ret
  have es : (⟨x.nm.toArray⟩ : ByteArray) ++ ⟨#[47]⟩ ++ ⟨rp.toArray⟩ ++ ⟨D.toArray⟩ = ⟨(x.nm ++ 47 :: (rp ++ D)).toArray⟩ := by
    rw [show (⟨#[47]⟩ : ByteArray) = ⟨[47].toArray⟩ from rfl, app_str, app_str, app_str]
    simp
  refine ⟨?_, hb1.trans p2.h⟩
  unfold vS
  rw [← es]
  rfl
end Go.Proofs.YtgimciacapfbfaaGreatDoor
