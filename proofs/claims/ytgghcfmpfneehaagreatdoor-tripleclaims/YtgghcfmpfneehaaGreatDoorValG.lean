/- What the library's ParseUint (base 16) and ParseInt (base 10) return, and the program's escaped and unquoted; for every text. -/
import Derived.Test.YtgghcfmpfneehaaGreatDoorValF
import Derived.Test.YtgghcfmpfneehaaGreatDoorOne
namespace Go.Proofs.YtgghcfmpfneehaaGreatDoor
open Go.RowKit
theorem okR.nil (M : Nat) : okR M [] 0 := ⟨by omega, by omega, fun h => absurd rfl h⟩
set_option maxRecDepth 100000 in
theorem parseUint_nil (b : Int) (w : World) : Calls Tryz.prog 125 #[.string ⟨#[]⟩, .int .i64 16, .int .i64 b] w fun e w' => e = .returned (.tuple #[.int .u64 0, .iface 179 (.int .i64 2)]) ∧ w' = w := by
  go_enter Tryz.func125, Tryz.ntmps125
  go_wp2
  go_ret2
  exact ⟨rfl, rfl⟩
theorem parseUint_all64 (t : ByteArray) (hmax : t.size ≤ 150000000000000) (w : World) :
    Calls Tryz.prog 125 #[.string t, .int .i64 16, .int .i64 64] w fun e w' => ∃ (x : Int) (ve : Value), e = .returned (.tuple #[.int .u64 x, ve]) ∧ Bel w w' ∧ okR 18446744073709551615 t.data.toList x ∧ (ve = .nilIface ∨ ve = .iface 179 (.int .i64 1) ∨ ve = .iface 179 (.int .i64 2)) := by
  by_cases h : t.size = 0
  · rw [ba_nil h]
    refine (parseUint_nil 64 w).mono ?_
    rintro e w' ⟨rfl, rfl⟩
    exact ⟨_, _, rfl, Bel.refl _, okR.nil _, Or.inr (Or.inr rfl)⟩
  · exact parseUint_in64 t h hmax w
theorem parseUint_all8 (t : ByteArray) (hmax : t.size ≤ 150000000000000) (w : World) :
    Calls Tryz.prog 125 #[.string t, .int .i64 16, .int .i64 8] w fun e w' => ∃ (x : Int) (ve : Value), e = .returned (.tuple #[.int .u64 x, ve]) ∧ Bel w w' ∧ okR 255 t.data.toList x ∧ (ve = .nilIface ∨ ve = .iface 179 (.int .i64 1) ∨ ve = .iface 179 (.int .i64 2)) := by
  by_cases h : t.size = 0
  · rw [ba_nil h]
    refine (parseUint_nil 8 w).mono ?_
    rintro e w' ⟨rfl, rfl⟩
    exact ⟨_, _, rfl, Bel.refl _, okR.nil _, Or.inr (Or.inr rfl)⟩
  · exact parseUint_in8 t h hmax w
set_option maxRecDepth 100000 in
theorem parseUint_pub (M : Nat) (b : Int) (t : ByteArray) (hmax : t.size ≤ 150000000000000)
    (hin : ∀ w, Calls Tryz.prog 125 #[.string t, .int .i64 16, .int .i64 b] w fun e w' => ∃ (x : Int) (ve : Value), e = .returned (.tuple #[.int .u64 x, ve]) ∧ Bel w w' ∧ okR M t.data.toList x ∧ (ve = .nilIface ∨ ve = .iface 179 (.int .i64 1) ∨ ve = .iface 179 (.int .i64 2)))
    (w : World) (hG : Gl w) :
    Calls Tryz.prog 101 #[.string t, .int .i64 16, .int .i64 b] w fun e w' => ∃ (x : Int) (ve : Value), e = .returned (.tuple #[.int .u64 x, ve]) ∧ Bel w w' ∧ okR M t.data.toList x := by
  have hI := hide hin
  clear hin
  have HG := hide hG
  clear hG
  go_enter Tryz.func101, Tryz.ntmps101
  go_wp2_with fail
  refine (hI.out _).mono ?_
  rintro e w1 ⟨x, ve, rfl, hb, ho, hve⟩
  have HB := hide hb
  have HO := hide ho
  obtain ⟨te, pe, h2⟩ := (HG.out.next hb).2.2.1
  obtain ⟨tf, pf, h3⟩ := (HG.out.next hb).2.2.2
  have H2 := hide h2
  have H3 := hide h3
  clear hb ho h2 h3
  rcases hve with rfl | rfl | rfl
  · go_wp2_with fail
    go_ret2
    exact ⟨x, _, rfl, HB.out, HO.out⟩
  · go_wp2_with (go_at_call 126; refine (Tryz.strconv_toError_range _ _ _ _ _ _ (by omega) H3.out (Or.inr ⟨_, _, rfl⟩)).mono ?_; rintro e w2 ⟨N, rfl, _, _, hb2⟩)
    go_ret2
    exact ⟨x, _, rfl, HB.out.trans hb2, HO.out⟩
  · go_wp2_with (go_at_call 126; refine (Tryz.strconv_toError_syntax _ _ _ _ _ _ (by omega) H2.out (Or.inr ⟨_, _, rfl⟩)).mono ?_; rintro e w2 ⟨N, rfl, _, _, hb2⟩)
    go_ret2
    exact ⟨x, _, rfl, HB.out.trans hb2, HO.out⟩
theorem intSat_bounds (l : List UInt8) : -9223372036854775808 ≤ Lib.intSat 64 l ∧ Lib.intSat 64 l < 9223372036854775808 := by
  unfold Lib.intSat
  split <;> decide
theorem bytesWorld_bel {w w' : World} (h : w' = w ∨ ∃ t, w' = Lib.bytesWorld w 5 t) : Bel w w' := by
  rcases h with rfl | ⟨t, rfl⟩
  · exact Bel.refl _
  · exact Lib.bytesWorld_below _ _ _
theorem parseInt_any (t : ByteArray) (hmax : t.size ≤ 150000000000000) (w : World) (hG : Gl w) :
    Calls Tryz.prog 103 #[.string t, .int .i64 10, .int .i64 64] w fun e w' => ∃ (v : Int) (ve : Value), e = .returned (.tuple #[.int .i64 v, ve]) ∧ Bel w w' ∧ -9223372036854775808 ≤ v ∧ v < 9223372036854775808 ∧ ∀ n : Int, -9223372036854775808 ≤ n → n < 9223372036854775808 → t.data.toList = Lib.itoa n → v = n := by
  obtain ⟨te, pe, h2⟩ := hG.2.2.1
  obtain ⟨tf, pf, h3⟩ := hG.2.2.2
  cases h : Lib.parseIntB 64 t.data.toList with
  | ok v =>
    refine (Tryz.strconv_ParseInt_10_at64_ok t (by omega) v h w).mono ?_
    rintro e w' ⟨rfl, hw⟩
    have hb := Lib.parseIntB_bounds h
    refine ⟨v, _, rfl, bytesWorld_bel hw, by omega, by omega, fun n h0 h1 hn => ?_⟩
    rw [hn, parseInt_itoa n h0 h1] at h
    injection h with h
    exact h.symm
  | «syntax» =>
    refine (Tryz.strconv_ParseInt_10_at64_syntax t (by omega) h _ w h2 (Or.inr ⟨_, _, rfl⟩)).mono ?_
    rintro e w' ⟨N, rfl, _, _, hb⟩
    refine ⟨0, _, rfl, hb, by omega, by omega, fun n h0 h1 hn => ?_⟩
    rw [hn, parseInt_itoa n h0 h1] at h
    cases h
  | range =>
    refine (Tryz.strconv_ParseInt_10_at64_range t (by omega) h _ w h3 (Or.inr ⟨_, _, rfl⟩)).mono ?_
    rintro e w' ⟨N, rfl, _, _, hb⟩
    have hs := intSat_bounds t.data.toList
    refine ⟨_, _, rfl, hb, hs.1, hs.2, fun n h0 h1 hn => ?_⟩
    rw [hn, parseInt_itoa n h0 h1] at h
    cases h
/-- What is known of the byte that an escape stands for, and of how many bytes say so. -/
def okE (l : List UInt8) (c : UInt8) (m : Nat) : Prop := 1 ≤ m ∧ m ≤ l.length ∧ ∀ d r, l = escB d ++ r → l.head? = some 92 → c = d ∧ m = (escB d).length
theorem escB_cases (d : UInt8) : ((d = 34 ∨ d = 92) ∧ escB d = [92, d]) ∨ (d ≠ 92 ∧ escB d = [d]) ∨ (d = 10 ∧ escB d = [92, 110]) ∨ escB d = [92, 120, hd (d.toNat / 16), hd (d.toNat % 16)] := by
  unfold escB
  by_cases h1 : d = 34 ∨ d = 92
  · exact Or.inl ⟨h1, by rw [if_pos h1]⟩
  · rw [if_neg h1]
    by_cases h2 : 32 ≤ d.toNat ∧ d.toNat ≤ 126
    · exact Or.inr (Or.inl ⟨fun h => h1 (Or.inr h), by rw [if_pos h2]⟩)
    · rw [if_neg h2]
      by_cases h3 : d = 10
      · exact Or.inr (Or.inr (Or.inl ⟨h3, by rw [if_pos h3]⟩))
      · exact Or.inr (Or.inr (Or.inr (by rw [if_neg h3])))
theorem okE_hex (l : List UInt8) (x : Int) (a b c e : UInt8) (r : List UInt8) (hl : l = a :: b :: c :: e :: r) (hb : b = 120) (hx : okR 255 [c, e] x) : okE l (UInt8.ofNat x.toNat) 4 := by
  refine ⟨by omega, by rw [hl]; simp, fun d r' hd' hh => ?_⟩
  subst hl hb
  rcases escB_cases d with ⟨h1, h2⟩ | ⟨h1, h2⟩ | ⟨h1, h2⟩ | h2
  · rw [h2] at hd'
    simp at hd'
    rcases h1 with rfl | rfl <;> exact absurd hd'.2.1 (by decide)
  · rw [h2] at hd'
    simp at hd' hh
    exact absurd (hd'.1.symm.trans hh) h1
  · rw [h2] at hd'
    simp at hd'
  · rw [h2] at hd' ⊢
    simp at hd'
    obtain ⟨_, hc, he, _⟩ := hd'
    have d256 := d.toNat_lt
    have hc1 : isHx c := by rw [hc]; exact hd_hx (by omega)
    have he1 : isHx e := by rw [he]; exact hd_hx (by omega)
    have hv2 : hexV [c, e] = d.toNat := by
      simp only [hexV, List.foldl]
      rw [hc, he, hv_hd (by omega), hv_hd (by omega)]; omega
    have := hx.2.2 (by simp) (by intro y hy; simp at hy; rcases hy with rfl | rfl <;> assumption) (by rw [hv2]; omega)
    rw [this, hv2]
    simp
theorem okE_two (l : List UInt8) (a b : UInt8) (r : List UInt8) (hl : l = a :: b :: r) (hn : ¬ (b = 120 ∧ 4 ≤ l.length)) : okE l (if b = 110 then 10 else b) 2 := by
  refine ⟨by omega, by rw [hl]; simp, fun d r' hd' hh => ?_⟩
  subst hl
  rcases escB_cases d with ⟨h1, h2⟩ | ⟨h1, h2⟩ | ⟨h1, h2⟩ | h2
  · rw [h2] at hd' ⊢
    simp at hd'
    obtain ⟨_, rfl, _⟩ := hd'
    rcases h1 with rfl | rfl <;> simp
  · rw [h2] at hd'
    simp at hd' hh
    exact absurd (hd'.1.symm.trans hh) h1
  · rw [h2] at hd' ⊢
    simp at hd'
    obtain ⟨_, rfl, _⟩ := hd'
    simp [h1]
  · rw [h2] at hd'
    exfalso
    apply hn
    simp at hd'
    obtain ⟨_, h3, h4⟩ := hd'
    exact ⟨h3, by rw [h4]; simp⟩
theorem okE_one (l : List UInt8) (a : UInt8) (hl : l = [a]) : okE l a 1 := by
  refine ⟨by omega, by rw [hl]; simp, fun d r' hd' hh => ?_⟩
  subst hl
  rcases escB_cases d with ⟨h1, h2⟩ | ⟨h1, h2⟩ | ⟨h1, h2⟩ | h2
  · rw [h2] at hd'; simp at hd'
  · rw [h2] at hd'
    simp at hd' hh
    exact absurd (hd'.1.symm.trans hh) h1
  · rw [h2] at hd'; simp at hd'
  · rw [h2] at hd'; simp at hd'
theorem list_two (s : ByteArray) (h : 2 ≤ s.size) : s.data.toList = s[0]'(by omega) :: s[1]'(by omega) :: s.data.toList.drop 2 := by
  have e1 := drop_cons s 0 (by omega)
  have e2 := drop_cons s 1 (by omega)
  rw [List.drop_zero] at e1
  rw [e2] at e1
  exact e1
theorem list_four (s : ByteArray) (h : 4 ≤ s.size) : s.data.toList = s[0]'(by omega) :: s[1]'(by omega) :: s[2]'(by omega) :: s[3]'(by omega) :: s.data.toList.drop 4 := by
  have e1 := list_two s (by omega)
  have e3 := drop_cons s 2 (by omega)
  have e4 := drop_cons s 3 (by omega)
  rw [e4] at e3
  rw [e3] at e1
  exact e1
theorem ext_two (s : ByteArray) (h : 4 ≤ s.size) : (s.extract 2 4).data.toList = [s[2]'(by omega), s[3]'(by omega)] := by
  rw [ba_extract]
  have e3 := drop_cons s 2 (by omega)
  have e4 := drop_cons s 3 (by omega)
  rw [e3, e4]
  rfl
set_option maxRecDepth 100000 in
theorem escaped_any (s : ByteArray) (h1 : 1 ≤ s.size) (hm : s.size ≤ 150000000000000) (w : World) (hG : Gl w) :
    Calls Tryz.prog 127 #[.string s] w fun e w' => ∃ (c : UInt8) (m : Nat), e = .returned (.tuple #[.int .u8 (c.toNat : Int), .int .i64 (m : Int)]) ∧ Bel w w' ∧ okE s.data.toList c m := by
  by_cases h4 : 4 ≤ s.size
  · by_cases hx : s[1] = 120
    · have hxx : ((s[1]).toNat : Int) = 120 := byte_eq (n := 120) (by omega) hx
      have HX := hide hx
      have i4 : (4 : Int) ≤ (s.size : Int) := by omega
      have HC := hide (parseUint_pub 255 8 (s.extract 2 4) (by simp; omega) (fun W => parseUint_all8 _ (by simp; omega) W) w hG)
      have HE := hide (fun x (h : okR 255 (s.extract 2 4).data.toList x) => okE_hex s.data.toList x _ _ _ _ _ (list_four s h4) hx (by rw [← ext_two s h4]; exact h))
      clear hx hG
      go_enter Tryz.func127, Tryz.ntmps127
      go_wp2_with (go_at_call 101; refine HC.out.mono ?_; rintro e w' ⟨x, ve, rfl, hb, ho⟩; have HO := hide ho; clear ho)
      go_ret2
      have h0 := HO.out.1
      have h1 := HO.out.2.1
      have hr : x % 256 = ((UInt8.ofNat x.toNat).toNat : Int) := by rw [UInt8.toNat_ofNat']; omega
      exact ⟨UInt8.ofNat x.toNat, 4, by rw [hr]; rfl, hb, HE.out x HO.out⟩
    · have hxx : (((s[1]).toNat : Int) == 120) = false := byte_ne (n := 120) (by omega) hx
      have i4 : (4 : Int) ≤ (s.size : Int) := by omega
      have i2 : (2 : Int) ≤ (s.size : Int) := by omega
      have HE := hide (okE_two s.data.toList _ _ _ (list_two s (by omega)) (fun h => hx h.1))
      clear hx hG
      by_cases hn : s[1] = 110
      · have hnn : ((s[1]).toNat : Int) = 110 := byte_eq (n := 110) (by omega) hn
        rw [if_pos hn] at HE
        clear hn hxx
        go_enter Tryz.func127, Tryz.ntmps127
        go_wp2_with fail
        go_ret2
        exact ⟨_, 2, rfl, Bel.refl _, HE.out⟩
      · have hnn : (((s[1]).toNat : Int) == 110) = false := byte_ne (n := 110) (by omega) hn
        rw [if_neg hn] at HE
        clear hn
        go_enter Tryz.func127, Tryz.ntmps127
        go_wp2_with fail
        go_ret2
        exact ⟨_, 2, rfl, Bel.refl _, HE.out⟩
  · have i4 : (s.size : Int) < 4 := by omega
    by_cases h2 : 2 ≤ s.size
    · have i2 : (2 : Int) ≤ (s.size : Int) := by omega
      have HE := hide (okE_two s.data.toList _ _ _ (list_two s (by omega)) (fun h => h4 h.2))
      clear hG
      by_cases hn : s[1] = 110
      · have hnn : ((s[1]).toNat : Int) = 110 := byte_eq (n := 110) (by omega) hn
        rw [if_pos hn] at HE
        clear hn
        go_enter Tryz.func127, Tryz.ntmps127
        go_wp2_with fail
        go_ret2
        exact ⟨_, 2, rfl, Bel.refl _, HE.out⟩
      · have hnn : (((s[1]).toNat : Int) == 110) = false := byte_ne (n := 110) (by omega) hn
        rw [if_neg hn] at HE
        clear hn
        go_enter Tryz.func127, Tryz.ntmps127
        go_wp2_with fail
        go_ret2
        exact ⟨_, 2, rfl, Bel.refl _, HE.out⟩
    · have i2 : (s.size : Int) < 2 := by omega
      have e1 := drop_cons s 0 (by omega)
      rw [List.drop_zero, drop_none s 1 (by omega)] at e1
      have HE := hide (okE_one s.data.toList _ e1)
      clear hG e1
      go_enter Tryz.func127, Tryz.ntmps127
      go_wp2_with fail
      go_ret2
      exact ⟨_, 1, rfl, Bel.refl _, HE.out⟩
/-- What is known while a text's literal is taken apart: l0, what stood between the quotes; out, what was gathered; l, what is left. -/
def okU (l0 out l : List UInt8) : Prop := out.length + l.length ≤ l0.length ∧ ∀ t, l0 = escs t → ∃ t2, t = out ++ t2 ∧ l = escs t2
theorem okU.start (l : List UInt8) : okU l [] l := ⟨by simp, fun t h => ⟨t, rfl, h⟩⟩
theorem okU.plain {l0 out l : List UInt8} (h : okU l0 out l) (c : UInt8) (r : List UInt8) (hl : l = c :: r) (hc : c ≠ 92) : okU l0 (out ++ [c]) r := by
  subst hl
  refine ⟨by have := h.1; simp at this ⊢; omega, fun t ht => ?_⟩
  obtain ⟨t2, e1, e2⟩ := h.2 t ht
  cases t2 with
  | nil => simp [escs] at e2
  | cons d t2 =>
    rw [escs_cons] at e2
    rcases escB_cases d with ⟨_, h2⟩ | ⟨_, h2⟩ | ⟨_, h2⟩ | h2
    · rw [h2] at e2; simp at e2; exact absurd e2.1 hc
    · rw [h2] at e2; simp at e2
      exact ⟨t2, by rw [e1, e2.1]; simp, e2.2⟩
    · rw [h2] at e2; simp at e2; exact absurd e2.1 hc
    · rw [h2] at e2; simp at e2; exact absurd e2.1 hc
theorem okU.esc {l0 out l : List UInt8} (h : okU l0 out l) (hh : l.head? = some 92) (c : UInt8) (m : Nat) (he : okE l c m) : okU l0 (out ++ [c]) (l.drop m) := by
  refine ⟨by have h1 := h.1; have h2 := he.1; have h3 := he.2.1; simp; omega, fun t ht => ?_⟩
  obtain ⟨t2, e1, e2⟩ := h.2 t ht
  cases t2 with
  | nil => rw [e2] at hh; simp [escs] at hh
  | cons d t2 =>
    rw [escs_cons] at e2
    obtain ⟨rfl, rfl⟩ := he.2.2 d _ e2 hh
    exact ⟨t2, by rw [e1]; simp, by rw [e2]; simp⟩
theorem okU.done {l0 out : List UInt8} (h : okU l0 out []) : out.length ≤ l0.length ∧ ∀ t, l0 = escs t → out = t := by
  refine ⟨by have := h.1; simpa using this, fun t ht => ?_⟩
  obtain ⟨t2, e1, e2⟩ := h.2 t ht
  cases t2 with
  | nil => simpa using e1.symm
  | cons d t2 =>
    rw [escs_cons] at e2
    have := (escB_len d).1
    have h3 := congrArg List.length e2
    simp at h3
    omega
set_option maxHeartbeats 1000000 in
set_option maxRecDepth 100000 in
theorem unquoted_any (s : ByteArray) (hm : s.size ≤ 150000000000000) (w : World) (hG : Gl w) :
    Calls Tryz.prog 102 #[.string s] w fun e w' => ∃ out : List UInt8, e = .returned (.string ⟨out.toArray⟩) ∧ Bel w w' ∧ out.length ≤ s.size ∧ ∀ t, s.data.toList = escs t → out = t := by
  have HG := hide hG
  clear hG
  go_enter Tryz.func102, Tryz.ntmps102
  go_wp2_with fail
  go_loopw [0, 3] (fun vs v W => ∃ (t : ByteArray) (out : List UInt8), vs = .string t ∧ t.size ≤ s.size ∧ Hid (OB w W v out ∧ okU s.data.toList out t.data.toList)) (fun vs _ _ => match vs with | .string t => t.size | _ => 0)
  case atStart => exact ⟨s, [], rfl, Nat.le_refl _, OB.nil w, okU.start _⟩
  case round =>
    obtain ⟨t, out, rfl, hts, HH⟩ := hrel
    have hol : out.length + t.size ≤ s.size := HH.out.2.1
    by_cases h0 : 0 < t.size
    · have i0 : (0 : Int) < (t.size : Int) := by omega
      have e1 := drop_cons t 0 h0
      rw [List.drop_zero] at e1
      by_cases h92 : t[0] = 92
      · have hcc : ((t[0]).toNat : Int) = 92 := byte_eq (n := 92) (by omega) h92
        have hh : t.data.toList.head? = some 92 := by rw [e1, h92]; rfl
        have HHd := hide hh
        clear h92 e1 hh
        go_wp2_with (first
          | (go_at_call 127; refine (escaped_any t (by omega) (by omega) _ (HG.out.next HH.out.1.bel)).mono ?_; rintro e w1 ⟨c, m, rfl, hb, ho⟩; have hmm : (m : Int) ≤ (t.size : Int) := (by have := ho.2.1; rw [ba_len] at this; omega); have hm0 : (0 : Int) ≤ (m : Int) := (by omega); have HO := hide ho; have HO1 := hide (HH.out.1.next hb); clear ho)
          | (at_builtin; refine append_bytes HO1.out [c] (by simp; omega) rfl _ _ rfl rfl rfl ?_; intro v2 w2 ho2))
        go_roundw
        case rel =>
          refine ⟨t.extract m t.size, out ++ [c], rfl, by simp; omega, ho2, ?_⟩
          rw [ba_rest]
          exact HH.out.2.esc HHd.out c m HO.out
        case measure =>
          have := HO.out.1
          simp; omega
      · have hcc : (((t[0]).toNat : Int) == 92) = false := byte_ne (n := 92) (by omega) h92
        have HN := hide (HH.out.2.plain _ _ e1 h92)
        clear h92 e1
        go_wp2_with (at_builtin; refine append_bytes HH.out.1 [t[0]] (by simp; omega) rfl _ _ rfl rfl rfl ?_; intro v2 w2 ho2)
        go_roundw
        case rel =>
          refine ⟨t.extract 1 t.size, out ++ [t[0]], rfl, by simp; omega, ho2, ?_⟩
          rw [ba_rest]
          exact HN.out
        case measure => simp; omega
    · have hcv := HH.out.1.text
      have e0 : t.data.toList = [] := List.eq_nil_of_length_eq_zero (by rw [ba_len]; omega)
      have HD := HH.out.2
      rw [e0] at HD
      have HD2 := hide HD.done
      have i0 : (t.size : Int) ≤ 0 := by omega
      clear e0 HD
      go_wp2_with fail
      go_ret
      exact ⟨out, rfl, HH.out.1.bel, HD2.out.1, HD2.out.2⟩
end Go.Proofs.YtgghcfmpfneehaaGreatDoor
