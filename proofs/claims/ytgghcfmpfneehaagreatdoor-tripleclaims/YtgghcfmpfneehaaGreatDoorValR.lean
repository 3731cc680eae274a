/- Values there and back, plain: what is written is read, and what is read is written so. -/
import Derived.Test.YtgghcfmpfneehaaGreatDoorValM
import Derived.Test.YtgghcfmpfneehaaGreatDoorBack
namespace Go.Proofs.YtgghcfmpfneehaaGreatDoor
open Go.RowKit
theorem front_of (c : UInt8) (x : List UInt8) (r : ByteArray) : ∃ h : 0 < ((⟨(c :: x).toArray⟩ : ByteArray) ++ r).size, ((⟨(c :: x).toArray⟩ : ByteArray) ++ r)[0] = c ∧ ((⟨(c :: x).toArray⟩ : ByteArray) ++ r).extract 1 ((⟨(c :: x).toArray⟩ : ByteArray) ++ r).size = (⟨x.toArray⟩ : ByteArray) ++ r := by
  have hl : ((⟨(c :: x).toArray⟩ : ByteArray) ++ r).data.toList = c :: (x ++ r.data.toList) := by rw [ba_app]; rfl
  obtain ⟨h, hc⟩ := get_zero hl
  refine ⟨h, hc, ba_ext ?_⟩
  rw [ba_rest, hl, ba_app]
  rfl
theorem rVal_back {k : Int} {b : Bool} {n : Int} {s : ByteArray} {u : Int} (h : mayV k b n s u) (hr : inR n u) (r : ByteArray) : rVal ((⟨(byt k b n s u).toArray⟩ : ByteArray) ++ r) = ((k, b, n, s, u), r, 0) := by
  have hm := h
  rcases h with ⟨rfl, rfl, rfl, rfl⟩ | ⟨rfl, rfl, rfl, rfl⟩ | ⟨rfl, rfl, rfl, rfl, h⟩ | ⟨rfl, rfl, rfl, rfl, h⟩
  · obtain ⟨h0, h1, h2⟩ := front_of 1 [bt b] r
    obtain ⟨g0, g1, g2⟩ := front_of (bt b) [] r
    show rVal ((⟨(1 :: [bt b]).toArray⟩ : ByteArray) ++ r) = _
    unfold rVal
    rw [dif_pos h0, if_pos h1, h2]
    have e : rTru ((⟨[bt b].toArray⟩ : ByteArray) ++ r) = (b, r, 0) := by
      unfold rTru
      rw [dif_pos g0, g1, if_neg (by cases b <;> decide), g2]
      have : decide ((bt b).toNat = 1) = b := by cases b <;> decide
      rw [this]
      congr 2
    rw [e]
    exact fin_ok rfl hm
  · obtain ⟨h0, h1, h2⟩ := front_of 2 (int8 n) r
    show rVal ((⟨(2 :: int8 n).toArray⟩ : ByteArray) ++ r) = _
    unfold rVal
    rw [dif_pos h0, if_neg (by rw [h1]; decide), if_pos h1, h2, rInt_back n hr.1 hr.2.1 r]
    exact fin_ok rfl hm
  · obtain ⟨h0, h1, h2⟩ := front_of 3 (key s.data.toList) r
    show rVal ((⟨(3 :: key s.data.toList).toArray⟩ : ByteArray) ++ r) = _
    unfold rVal
    rw [dif_pos h0, if_neg (by rw [h1]; decide), if_neg (by rw [h1]; decide), if_pos h1, h2, rKey_back s r]
    exact fin_ok rfl hm
  · obtain ⟨m, rfl⟩ : ∃ m : Nat, u = (m : Int) := ⟨u.toNat, by have := hr.2.2.1; omega⟩
    obtain ⟨h0, h1, h2⟩ := front_of 4 (num m) r
    show rVal ((⟨(4 :: num m).toArray⟩ : ByteArray) ++ r) = _
    unfold rVal
    rw [dif_pos h0, if_neg (by rw [h1]; decide), if_neg (by rw [h1]; decide), if_neg (by rw [h1]; decide), if_pos h1, h2, rNum_back m (by have := hr.2.2.2; omega) r]
    exact fin_ok rfl hm
/-- An answer without a fault: the value may be, and is written as what was read. -/
def okB (s : ByteArray) (x : (Int × Bool × Int × ByteArray × Int) × ByteArray × Int) : Prop :=
  mayV x.1.1 x.1.2.1 x.1.2.2.1 x.1.2.2.2.1 x.1.2.2.2.2 ∧ inR x.1.2.2.1 x.1.2.2.2.2 ∧ (⟨(byt x.1.1 x.1.2.1 x.1.2.2.1 x.1.2.2.2.1 x.1.2.2.2.2).toArray⟩ : ByteArray) ++ x.2.1 = s
theorem fin_zero {k : Int} {b : Bool} {n : Int} {s : ByteArray} {u : Int} {rest : ByteArray} {e : Int} (h : (fin k b n s u rest e).2.2 = 0) : e = 0 ∧ mayV k b n s u ∧ fin k b n s u rest e = ((k, b, n, s, u), rest, 0) := by
  by_cases he : e = 0
  · by_cases hm : mayV k b n s u
    · exact ⟨he, hm, fin_ok he hm⟩
    · rw [fin_no he hm] at h; simp at h
  · rw [fin_bad he] at h; exact absurd h he
theorem front_cat {s : ByteArray} (h : 0 < s.size) (c : UInt8) (hc : s[0] = c) (x : List UInt8) (r : ByteArray) (hx : (⟨x.toArray⟩ : ByteArray) ++ r = s.extract 1 s.size) : (⟨(c :: x).toArray⟩ : ByteArray) ++ r = s := by
  apply ba_ext
  have e1 := drop_cons s 0 h
  rw [List.drop_zero, hc] at e1
  have e2 := congrArg (fun t : ByteArray => t.data.toList) hx
  simp only [ba_app, ba_rest] at e2
  rw [ba_app, e1, ← e2]
  rfl
theorem rTru_one (s : ByteArray) (h : (rTru s).2.2 = 0) : (⟨[bt (rTru s).1].toArray⟩ : ByteArray) ++ (rTru s).2.1 = s := by
  unfold rTru at h ⊢
  by_cases h0 : 0 < s.size
  · rw [dif_pos h0] at h ⊢
    by_cases h1 : 1 < (s[0]).toNat
    · rw [if_pos h1] at h; simp at h
    · rw [if_neg h1]
      refine front_cat h0 _ ?_ [] _ ?_
      · by_cases hq : (s[0]).toNat = 1
        · simp only [decide_eq_true hq, bt]; exact UInt8.toNat_inj.1 (by simpa using hq)
        · simp only [decide_eq_false hq, bt]; exact UInt8.toNat_inj.1 (by simp; omega)
      · apply ba_ext; rw [ba_app]; rfl
  · rw [dif_neg h0] at h; simp at h
theorem rVal_one (s : ByteArray) (h : (rVal s).2.2 = 0) : okB s (rVal s) := by
  by_cases h0 : 0 < s.size
  · unfold rVal at h ⊢
    rw [dif_pos h0] at h ⊢
    by_cases h1 : s[0] = 1
    · rw [if_pos h1] at h ⊢
      obtain ⟨he, hm, hf⟩ := fin_zero h
      rw [hf]
      refine ⟨hm, ⟨by simp, by simp, by simp, by simp⟩, ?_⟩
      exact front_cat h0 1 h1 _ _ (rTru_one _ he)
    by_cases h2 : s[0] = 2
    · rw [if_neg h1, if_pos h2] at h ⊢
      obtain ⟨he, hm, hf⟩ := fin_zero h
      rw [hf]
      have hr := rInt_facts (s.extract 1 s.size)
      refine ⟨hm, ⟨hr.1, hr.2, by simp, by simp⟩, ?_⟩
      exact front_cat h0 2 h2 _ _ (rInt_one _ he)
    by_cases h3 : s[0] = 3
    · rw [if_neg h1, if_neg h2, if_pos h3] at h ⊢
      obtain ⟨he, hm, hf⟩ := fin_zero h
      rw [hf]
      refine ⟨hm, ⟨by simp, by simp, by simp, by simp⟩, ?_⟩
      exact front_cat h0 3 h3 _ _ (rKey_one _ he).1
    by_cases h4 : s[0] = 4
    · rw [if_neg h1, if_neg h2, if_neg h3, if_pos h4] at h ⊢
      obtain ⟨he, hm, hf⟩ := fin_zero h
      rw [hf]
      have hr := (rNum_facts (s.extract 1 s.size)).1
      refine ⟨hm, ⟨by simp, by simp, by simp, by simp; omega⟩, ?_⟩
      exact front_cat h0 4 h4 _ _ (rNum_one _ he)
    · rw [if_neg h1, if_neg h2, if_neg h3, if_neg h4] at h ⊢
      simp at h
  · unfold rVal at h
    rw [dif_neg h0] at h; simp at h
/-- Read of the bytes of a value that may be, whatever stands behind them. -/
theorem read_back {k : Int} {b : Bool} {n : Int} {s : ByteArray} {u : Int} (h : mayV k b n s u) (hr : inR n u) (X r : ByteArray) (hX : X = ⟨(byt k b n s u).toArray⟩) (hm : (X ++ r).size ≤ 150000000000000) (w : World) :
    Calls Tryz.prog 27 #[.string (X ++ r)] w fun e w' => e = .returned (.tuple #[ev k b n s u, .string r, .int .i64 0]) ∧ Bel w w' := by
  have := read_any (X ++ r) hm w
  rw [hX, rVal_back h hr r, ← hX] at this
  exact this
/-- ReadText of the literal of a value that may be. -/
theorem readText_back {k : Int} {b : Bool} {n : Int} {s : ByteArray} {u : Int} (h : mayV k b n s u) (hr : inR n u) (L : ByteArray) (hL : L = ⟨(ltr k b n s u).toArray⟩) (hm : L.size ≤ 150000000000000) (w : World) (hG : Gl w) :
    Calls Tryz.prog 35 #[.string L] w fun e w' => e = .returned (.tuple #[ev k b n s u, .int .i64 0]) ∧ Bel w w' := by
  refine (readText_any L hm w hG).mono ?_
  rintro e w' ⟨k', b', n', t', u', x, rfl, hb, ⟨rfl, _, _, _, hq⟩ | ⟨_, _, _, _, _, _, hq⟩⟩
  · obtain ⟨rfl, rfl, rfl, rfl, rfl⟩ := hq k b n s u h hr (by rw [hL])
    exact ⟨rfl, hb⟩
  · exact absurd (show ltr k b n s u = L.data.toList by rw [hL]) (hq k b n s u h hr)
theorem byt_len {k : Int} {b : Bool} {n : Int} {s : ByteArray} {u : Int} (h : mayV k b n s u) (hr : inR n u) : (byt k b n s u).length ≤ 20000 := by
  rcases h with ⟨rfl, rfl, rfl, rfl⟩ | ⟨rfl, rfl, rfl, rfl⟩ | ⟨rfl, rfl, rfl, rfl, h⟩ | ⟨rfl, rfl, rfl, rfl, h⟩
  · simp [byt]
  · simp [byt, int8, hf_len]
  · have := key_small s h
    show (3 :: key s.data.toList).length ≤ _
    simp; omega
  · have := num_len u.toNat (by have := hr.2.2.2; omega)
    show (4 :: num u.toNat).length ≤ _
    simp; omega
theorem ltr_len {k : Int} {b : Bool} {n : Int} {s : ByteArray} {u : Int} (h : mayV k b n s u) (hr : inR n u) : (ltr k b n s u).length ≤ 20000 := by
  rcases h with ⟨rfl, rfl, rfl, rfl⟩ | ⟨rfl, rfl, rfl, rfl⟩ | ⟨rfl, rfl, rfl, rfl, h⟩ | ⟨rfl, rfl, rfl, rfl, h⟩
  · show (tf b).length ≤ _
    cases b <;> simp [tf]
  · show (Lib.itoa n).length ≤ _
    have := Lib.itoa_length_le n hr.1 (by have := hr.2.1; omega)
    omega
  · show (quo s.data.toList).length ≤ _
    have := (escs_len s.data.toList).2
    rw [ba_len] at this
    simp [quo]; omega
  · show (48 :: 120 :: hexL u.toNat).length ≤ _
    have := hexL_len 15 u.toNat (by have := hr.2.2.2; have h2 : 16 ^ (15 + 1) = 18446744073709551616 := by decide
                                    omega)
    simp; omega
end Go.Proofs.YtgghcfmpfneehaaGreatDoor
