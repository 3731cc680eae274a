/- What the program's likely and ReadText return; for every text. -/
import Derived.Test.YtgghcfmpfneehabDoorValG
import Derived.Laws.CopyOwn
namespace Go.Proofs.YtgghcfmpfneehabDoor
open Go.RowKit
/-- The first byte's number; 0 of none. -/
def h0 (l : List UInt8) : Nat := match l with | [] => 0 | c :: _ => c.toNat
theorem h0_tf (b : Bool) : h0 (tf b) = 116 ∨ h0 (tf b) = 102 := by cases b <;> simp [tf, h0]
theorem h0_itoa (n : Int) : h0 (Lib.itoa n) = 45 ∨ (48 ≤ h0 (Lib.itoa n) ∧ h0 (Lib.itoa n) ≤ 57) := by
  unfold Lib.itoa
  split
  · exact Or.inl rfl
  · obtain ⟨c, r, h, h1, h2⟩ := dec_head n.toNat
    rw [h]; exact Or.inr ⟨h1, h2⟩
theorem itoa_no_x (n : Int) (r : List UInt8) : Lib.itoa n ≠ 48 :: 120 :: r := by
  intro h
  unfold Lib.itoa at h
  split at h
  · simp at h
  · have := dec_digit n.toNat 120 (by rw [h]; simp)
    simp at this
/-- v is the value whose literal l is, if there is one. -/
def okL (l : List UInt8) (k : Int) (b : Bool) (n : Int) (s : ByteArray) (u : Int) : Prop :=
  -9223372036854775808 ≤ n ∧ n < 9223372036854775808 ∧ 0 ≤ u ∧ u < 18446744073709551616 ∧ s.size ≤ l.length ∧
  ∀ k' b' n' s' u', mayV k' b' n' s' u' → -9223372036854775808 ≤ n' → n' < 9223372036854775808 → 0 ≤ u' → u' < 18446744073709551616 → ltr k' b' n' s' u' = l → k = k' ∧ b = b' ∧ n = n' ∧ s = s' ∧ u = u'
theorem okL_bool (l : List UInt8) (b : Bool) (hl : l = tf b) : okL l 1 b 0 ⟨#[]⟩ 0 := by
  refine ⟨by omega, by omega, by omega, by omega, Nat.zero_le _, ?_⟩
  intro k' b' n' s' u' hm _ _ _ _ he
  have hb := h0_tf b
  subst hl
  rcases hm with ⟨rfl, rfl, rfl, rfl⟩ | ⟨rfl, rfl, rfl, rfl⟩ | ⟨rfl, rfl, rfl, rfl, h⟩ | ⟨rfl, rfl, rfl, rfl, h⟩
  · refine ⟨rfl, ?_, rfl, rfl, rfl⟩
    simp only [ltr] at he
    cases b <;> cases b' <;> simp [tf] at he ⊢
  · have e : Lib.itoa n' = tf b := he
    have := h0_itoa n'; rw [e] at this; omega
  · have e : quo s'.data.toList = tf b := he
    rw [← e] at hb; simp [quo, h0] at hb
  · have e : 48 :: 120 :: hexL u'.toNat = tf b := he
    rw [← e] at hb; simp [h0] at hb
theorem okL_uid (l r : List UInt8) (x : Int) (hl : l = 48 :: 120 :: r) (hx : okR 18446744073709551615 r x) : okL l 4 false 0 ⟨#[]⟩ x := by
  refine ⟨by omega, by omega, hx.1, by have := hx.2.1; omega, Nat.zero_le _, ?_⟩
  intro k' b' n' s' u' hm _ _ hu0 hu1 he
  subst hl
  rcases hm with ⟨rfl, rfl, rfl, rfl⟩ | ⟨rfl, rfl, rfl, rfl⟩ | ⟨rfl, rfl, rfl, rfl, h⟩ | ⟨rfl, rfl, rfl, rfl, h⟩
  · have e : tf b' = 48 :: 120 :: r := he
    have := h0_tf b'; rw [e] at this; simp [h0] at this
  · exact absurd he (itoa_no_x n' r)
  · have e : quo s'.data.toList = 48 :: 120 :: r := he
    simp [quo] at e
  · have e : 48 :: 120 :: hexL u'.toNat = 48 :: 120 :: r := he
    injection e with _ e
    injection e with _ e
    refine ⟨rfl, rfl, rfl, rfl, ?_⟩
    subst e
    have := hx.2.2 (hexL_ne _) (hexL_hx _) (by rw [hexV_hexL]; omega)
    rw [this, hexV_hexL]; omega
theorem okL_text (l m out : List UInt8) (hl : l = 34 :: m) (hsz : out.length ≤ l.length) (ho : ∀ t, m.dropLast = escs t → out = t) : okL l 3 false 0 ⟨out.toArray⟩ 0 := by
  refine ⟨by omega, by omega, by omega, by omega, by show out.toArray.size ≤ _; simpa using hsz, ?_⟩
  intro k' b' n' s' u' hm _ _ hu0 hu1 he
  subst hl
  rcases hm with ⟨rfl, rfl, rfl, rfl⟩ | ⟨rfl, rfl, rfl, rfl⟩ | ⟨rfl, rfl, rfl, rfl, h⟩ | ⟨rfl, rfl, rfl, rfl, h⟩
  · have e : tf b' = 34 :: m := he
    have := h0_tf b'; rw [e] at this; simp [h0] at this
  · have e : Lib.itoa n' = 34 :: m := he
    have := h0_itoa n'; rw [e] at this; simp [h0] at this
  · have e : quo s'.data.toList = 34 :: m := he
    unfold quo at e
    injection e with _ e
    refine ⟨rfl, rfl, rfl, ?_, rfl⟩
    have := ho s'.data.toList (by rw [← e]; simp)
    subst this
    rfl
  · have e : 48 :: 120 :: hexL u'.toNat = 34 :: m := he
    simp at e
theorem okL_int (l : List UInt8) (v : Int) (v0 : -9223372036854775808 ≤ v) (v1 : v < 9223372036854775808) (n1 : ∀ b, l ≠ tf b) (n2 : ∀ r, l ≠ 48 :: 120 :: r) (n3 : ¬ (2 ≤ l.length ∧ h0 l = 34)) (hv : ∀ n : Int, -9223372036854775808 ≤ n → n < 9223372036854775808 → l = Lib.itoa n → v = n) : okL l 2 false v ⟨#[]⟩ 0 := by
  refine ⟨v0, v1, by omega, by omega, Nat.zero_le _, ?_⟩
  intro k' b' n' s' u' hm h1 h2 hu0 hu1 he
  rcases hm with ⟨rfl, rfl, rfl, rfl⟩ | ⟨rfl, rfl, rfl, rfl⟩ | ⟨rfl, rfl, rfl, rfl, h⟩ | ⟨rfl, rfl, rfl, rfl, h⟩
  · exact absurd he.symm (n1 b')
  · exact ⟨rfl, rfl, hv n' h1 h2 he.symm, rfl, rfl⟩
  · exfalso
    apply n3
    rw [← he]
    exact ⟨by simp [ltr, quo], rfl⟩
  · exact absurd he.symm (n2 _)
theorem info25 : (Tryd.prog.info? 27).map (·.size) = some 5 := by kernel_rfl
/-- A value's five cells. -/
def ec (k : Int) (b : Bool) (n : Int) (s : ByteArray) (u : Int) : Array Value := #[.int .u8 k, .bool b, .int .i64 n, .string s, .int .u64 u]
theorem Bel.setRow {a b : World} (h : Bel a b) {g : Nat} (hp : a.heap.size ≤ g) (cs : Array Value) : Bel a (b.setRow g cs) :=
  below_setRow h hp cs
theorem ec_one (k : Int) (b : Bool) (n : Int) (s : ByteArray) (u : Int) : (ec k b n s u).all (·.oneCell') = true := by simp [ec, Value.oneCell']
theorem list_ne {s : ByteArray} {l : List UInt8} (h : s.data.toList ≠ l) : (s.toList == l) = false := by
  rw [ByteArray.toList_eq]; simpa using h
theorem prefix_no {s : ByteArray} (n2 : ∀ r, s.data.toList ≠ 48 :: 120 :: r) : Lib.hasPrefix s.data.toList [48, 120] = false := by
  unfold Lib.hasPrefix
  match h : s.data.toList with
  | [] => rfl
  | [a] => simp [List.isPrefixOf]
  | a :: b :: r =>
    have := n2 r
    rw [h] at this
    simp [List.isPrefixOf] at this ⊢
    intro ha hb
    exact this ha.symm hb.symm
theorem drop_last (s : ByteArray) : (s.extract 1 (s.size - 1)).data.toList = (s.data.toList.drop 1).dropLast := by
  rw [ba_extract, List.dropLast_eq_take]
  simp
end Go.Proofs.YtgghcfmpfneehabDoor
