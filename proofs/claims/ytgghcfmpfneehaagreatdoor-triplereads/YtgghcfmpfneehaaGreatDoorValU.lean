/- What the document's unquoted returns; for every text. -/
import Derived.Test.YtgghcfmpfneehaaGreatDoorValT
import Derived.Deep.RegionHeld
namespace Go.Proofs.YtgghcfmpfneehaaGreatDoor
open Go.RowKit
/-- What the document's Digit answers. -/
def dgt (c : UInt8) : Int := if 48 ≤ c.toNat ∧ c.toNat ≤ 57 then (hv c : Int) else if 97 ≤ c.toNat ∧ c.toNat ≤ 102 then (hv c : Int) else -1
theorem dgt_yes {c : UInt8} (h : isHx c) : dgt c = (hv c : Int) := by
  unfold dgt
  rcases h with h | h
  · rw [if_pos h]
  · rw [if_neg (by omega), if_pos h]
theorem dgt_no {c : UInt8} (h : ¬ isHx c) : dgt c = -1 := by
  unfold dgt
  rw [if_neg (fun x => h (Or.inl x)), if_neg (fun x => h (Or.inr x))]
theorem hx_dec (c : UInt8) : isHx c ∨ ¬ isHx c := Classical.em _
theorem digit_any (c : UInt8) (w : World) : Calls Tryz.prog 71 #[.int .u8 (c.toNat : Int)] w fun e w' => e = .returned (.int .i64 (dgt c)) ∧ w' = w := by
  rcases hx_dec c with h | h
  · rw [dgt_yes h]; exact digit_yes c h w
  · rw [dgt_no h]; exact digit_no c h w
/-- What is known of the answer of the document's unquoted. -/
def okQ (l t : List UInt8) (b : Bool) : Prop := t.length ≤ l.length ∧ (b = true → quo t = l) ∧ ∀ t', quo t' = l → t = t' ∧ b = true
/-- An answer of the document's unquoted. -/
def quoR (l : List UInt8) (w : World) (e : Ending) (w' : World) : Prop := ∃ (t : List UInt8) (b : Bool), e = .returned (.tuple #[.string ⟨t.toArray⟩, .bool b]) ∧ Bel w w' ∧ okQ l t b
theorem okQ_none {l : List UInt8} (h : ∀ t, quo t ≠ l) : okQ l [] false := ⟨by simp, (fun h => by cases h), fun t' h' => absurd h' (h t')⟩
theorem quo_ends {s : ByteArray} {t : List UInt8} (h : quo t = s.data.toList) : 2 ≤ s.size ∧ ∃ m, s.data.toList = 34 :: (m ++ [34]) ∧ m = escs t := by
  refine ⟨by rw [← ba_len, ← h]; simp [quo], escs t, ?_, rfl⟩
  rw [← h]; rfl
theorem last_of {s : ByteArray} {m : List UInt8} (h : s.data.toList = 34 :: (m ++ [34])) (h2 : s.size - 1 < s.size) : s[s.size - 1] = 34 := by
  have hs : s.size = m.length + 2 := by rw [← ba_len, h]; simp
  have e : s[s.size - 1] = s.data.toList[s.size - 1]'(by rw [ba_len]; exact h2) := rfl
  rw [e]
  have : s.data.toList[s.size - 1]'(by rw [ba_len]; exact h2) = (34 :: (m ++ [34]))[s.size - 1]'(by simp; omega) := by congr 1
  rw [this]
  have h3 : s.size - 1 = m.length + 1 := by omega
  simp [h3]
theorem in_of {s : ByteArray} {t : List UInt8} (h : quo t = s.data.toList) : (s.extract 1 (s.size - 1)).data.toList = escs t := by
  rw [drop_last s, ← h]
  simp [quo]
theorem step_byte1 {ops : Array Oper} {o : Oper} {a : Act} {K : Act → World → Prop} {Q : Exit → Act → World → Prop} {E : Prop} {w W : World} {v : Value} {l : List UInt8} (ob : OB w W v l) (c : UInt8) (z : Int) (hz : z = (c.toNat : Int)) (hb : l.length + 1 ≤ 200000000000000)
    (hgd : o.guard = none) (s x : Operand) (ho : o.op = .call { callee := .builtin .append, args := #[s, x], argTypes := #[98, 98] }) (hs : a.eval s = v) (hx : a.eval x = .slice (some ⟨W.heap.size, 0, none⟩) 1 1)
    (h : ∀ v' w', OB w w' v' (l ++ [c]) → K (a.put o.dst v') w') : if Region.wanted o (yielded ops a.tmps) = true then Oper.wp Tryz.prog o a (W.alloc (.cells #[.int .u8 z] 5)).drew K Q else E := by
  subst hz
  exact step_bytes ob [c] hb hgd s x ho hs hx h
theorem get_at (I : ByteArray) (z : Int) (j : Nat) (hz : z.toNat = j) (h : z.toNat < I.size) : I[z.toNat] = I[j]'(by omega) := by subst hz; rfl
theorem hex_val (a b : Nat) (_ : a < 16) (_ : b < 16) : IntKind.u8.wrap (IntKind.i64.wrap (IntKind.i64.wrap (16 * (a : Int)) + (b : Int))) = ((UInt8.ofNat (16 * a + b)).toNat : Int) := by
  rw [UInt8.toNat_ofNat', IntKind.wrap_i64, IntKind.wrap_i64, IntKind.wrap_u8]; omega
theorem hex_at (I : ByteArray) (i : Nat) (h : i + 3 < I.size) (hx : isHx (I[i + 1 + 1]'(by omega))) (hy : isHx (I[i + 1 + 2]'(by omega))) (q1 : ((i : Int) + 1 + 1).toNat < I.size) (q2 : ((i : Int) + 1 + 2).toNat < I.size) :
    IntKind.u8.wrap (IntKind.i64.wrap (IntKind.i64.wrap (16 * dgt (I[((i : Int) + 1 + 1).toNat]'q1)) + dgt (I[((i : Int) + 1 + 2).toNat]'q2))) = ((UInt8.ofNat (16 * hv (I[i + 1 + 1]'(by omega)) + hv (I[i + 1 + 2]'(by omega)))).toNat : Int) := by
  rw [show I[((i : Int) + 1 + 1).toNat]'q1 = I[i + 1 + 1]'(by omega) from get_at I _ (i + 1 + 1) (by omega) q1, show I[((i : Int) + 1 + 2).toNat]'q2 = I[i + 1 + 2]'(by omega) from get_at I _ (i + 1 + 2) (by omega) q2, dgt_yes hx, dgt_yes hy]
  exact hex_val _ _ (hv_lt hx) (hv_lt hy)
theorem okU.no {l0 out l : List UInt8} (h : okU l0 out l) (hh : l.head? = some 92) (hn : ∀ d r, l = escB d ++ r → False) (t : List UInt8) : l0 ≠ escs t := by
  intro ht
  obtain ⟨t2, e1, e2⟩ := h.2 t ht
  cases t2 with
  | nil => rw [e2] at hh; simp [escs] at hh
  | cons d t2 =>
    rw [escs_cons] at e2
    exact hn d _ e2
theorem okE_hx (l : List UInt8) (x y : UInt8) (r : List UInt8) (hl : l = 92 :: 120 :: x :: y :: r) (hx : isHx x) (hy : isHx y) : okE l (UInt8.ofNat (16 * hv x + hv y)) 4 := by
  have h1 := hv_lt hx
  have h2 := hv_lt hy
  have hv2 : hexV [x, y] = 16 * hv x + hv y := by simp only [hexV, List.foldl]; omega
  have := okE_hex l ((16 * hv x + hv y : Nat) : Int) 92 120 x y r hl rfl ⟨by omega, by omega, fun _ _ _ => by rw [hv2]⟩
  rw [Int.toNat_natCast] at this
  exact this
/-- An escape that none is. -/
theorem esc_not {l : List UInt8} (hh : l.head? = some 92) (hn : ∀ c r, l = 92 :: c :: r → c ≠ 92 ∧ c ≠ 34 ∧ c ≠ 110 ∧ (c = 120 → ∀ x y r', r = x :: y :: r' → ¬ (isHx x ∧ isHx y))) : ∀ d r, l = escB d ++ r → False := by
  intro d r hl
  rcases escB_cases d with ⟨h1, h2⟩ | ⟨h1, h2⟩ | ⟨h1, h2⟩ | h2
  · rw [h2] at hl
    have := hn d r (by rw [hl]; rfl)
    rcases h1 with rfl | rfl
    · exact this.2.1 rfl
    · exact this.1 rfl
  · rw [h2] at hl
    rw [hl] at hh
    simp at hh
    exact h1 hh
  · rw [h2] at hl
    exact (hn 110 r (by rw [hl]; rfl)).2.2.1 rfl
  · rw [h2] at hl
    have := hn 120 (hd (d.toNat / 16) :: hd (d.toNat % 16) :: r) (by rw [hl]; rfl)
    have hd256 := d.toNat_lt
    exact this.2.2.2 rfl _ _ r rfl ⟨hd_hx (by omega), hd_hx (by omega)⟩
theorem drop_two (s : ByteArray) (i : Nat) (h : i + 1 < s.size) : s.data.toList.drop i = s[i] :: s[i + 1] :: s.data.toList.drop (i + 2) := by
  rw [drop_cons s i (by omega), drop_cons s (i + 1) h]
theorem drop_four (s : ByteArray) (i : Nat) (h : i + 3 < s.size) : s.data.toList.drop i = s[i] :: s[i + 1] :: s[i + 1 + 1] :: s[i + 1 + 2] :: s.data.toList.drop (i + 4) := by
  rw [drop_two s i (by omega), drop_two s (i + 2) h]
set_option maxRecDepth 100000 in
theorem unq_short (s : ByteArray) (h : s.size < 2) (w : World) : Calls Tryz.prog 70 #[.string s] w fun e w' => quoR s.data.toList w e w' := by
  have HN := hide (okQ_none (l := s.data.toList) (fun t ht => by have := (quo_ends ht).1; omega))
  have i0 : (s.size : Int) < 2 := by omega
  go_enter Tryz.func70, Tryz.ntmps70
  go_wp2_with fail
  go_ret2
  exact ⟨[], false, rfl, Bel.refl _, HN.out⟩
set_option maxRecDepth 100000 in
theorem unq_first (s : ByteArray) (h : 2 ≤ s.size) (h0 : s[0] ≠ 34) (w : World) : Calls Tryz.prog 70 #[.string s] w fun e w' => quoR s.data.toList w e w' := by
  have HN := hide (okQ_none (l := s.data.toList) (fun t ht => by
    obtain ⟨_, m, hm, _⟩ := quo_ends ht
    obtain ⟨h1, h2⟩ := get_zero' hm
    exact h0 h2))
  have i0 : (2 : Int) ≤ (s.size : Int) := by omega
  have n0 : (((s[0]).toNat : Int) == 34) = false := byte_ne (n := 34) (by omega) h0
  have n1 : (((s[0]).toNat : Int) != 34) = true := by unfold bne; rw [n0]; rfl
  clear h0
  go_enter Tryz.func70, Tryz.ntmps70
  go_wp2_with fail
  go_ret2
  exact ⟨[], false, rfl, Bel.refl _, HN.out⟩
set_option maxRecDepth 100000 in
theorem unq_last (s : ByteArray) (hm : s.size ≤ 150000000000000) (h : 2 ≤ s.size) (h0 : s[0] = 34) (hz : s[s.size - 1] ≠ 34) (w : World) : Calls Tryz.prog 70 #[.string s] w fun e w' => quoR s.data.toList w e w' := by
  have HN := hide (okQ_none (l := s.data.toList) (fun t ht => by
    obtain ⟨_, m, hm, _⟩ := quo_ends ht
    exact hz (last_of hm (by omega))))
  have i0 : (2 : Int) ≤ (s.size : Int) := by omega
  have n0 : ((s[0]).toNat : Int) = 34 := byte_eq (n := 34) (by omega) h0
  have n2 : (((s[s.size - 1]).toNat : Int) == 34) = false := byte_ne (n := 34) (by omega) hz
  have n3 : (((s[s.size - 1]).toNat : Int) != 34) = true := by unfold bne; rw [n2]; rfl
  have en : ((s.size : Int) - 1).toNat = s.size - 1 := by omega
  have f0 : IntKind.i64.wrap ((s.size : Int) - 1) = (s.size : Int) - 1 := by rw [IntKind.wrap_i64]; omega
  have f1 : (0 : Int) ≤ (s.size : Int) - 1 := by omega
  have f2 : (s.size : Int) - 1 < (s.size : Int) := by omega
  clear h0 hz
  go_enter Tryz.func70, Tryz.ntmps70
  go_wp2_with fail
  go_ret2
  exact ⟨[], false, rfl, Bel.refl _, HN.out⟩
set_option maxHeartbeats 4000000 in
set_option maxRecDepth 100000 in
theorem unq_main (s I : ByteArray) (hm : s.size ≤ 150000000000000) (h : 2 ≤ s.size) (h0 : s[0] = 34) (hz : s[s.size - 1] = 34) (hI : s.extract 1 (s.size - 1) = I) (w : World) :
    Calls Tryz.prog 70 #[.string s] w fun e w' => quoR s.data.toList w e w' := by
  have hIs : I.size ≤ s.size := by rw [← hI]; simp; omega
  have HQ : Hid (∀ t, quo t = s.data.toList → I.data.toList = escs t) := hide (fun t ht => by rw [← hI]; exact in_of ht)
  have i0 : (2 : Int) ≤ (s.size : Int) := by omega
  have n0 : ((s[0]).toNat : Int) = 34 := byte_eq (n := 34) (by omega) h0
  have n2 : ((s[s.size - 1]).toNat : Int) = 34 := byte_eq (n := 34) (by omega) hz
  have en : ((s.size : Int) - 1).toNat = s.size - 1 := by omega
  have f0 : IntKind.i64.wrap ((s.size : Int) - 1) = (s.size : Int) - 1 := by rw [IntKind.wrap_i64]; omega
  have f1 : (0 : Int) ≤ (s.size : Int) - 1 := by omega
  have f2 : (s.size : Int) - 1 < (s.size : Int) := by omega
  have f3 : (1 : Int) ≤ (s.size : Int) - 1 := by omega
  have f4 : (s.size : Int) - 1 ≤ (s.size : Int) := by omega
  clear h0 hz
  go_enter Tryz.func70, Tryz.ntmps70
  go_wp2_with fail
  clear n0 n2 en f0 f1 f2 f3 f4
  go_loopw [4, 6] (fun v vi W => ∃ (i : Nat) (out : List UInt8), vi = .int .i64 i ∧ i ≤ I.size ∧ out.length + (I.size - i) ≤ I.size ∧ Hid (OB w W v out ∧ okU I.data.toList out (I.data.toList.drop i))) (fun _ vi _ => I.size - (intOf vi).toNat)
  case atStart => exact ⟨0, [], rfl, by omega, by simp, OB.nil w, okU.start _⟩
  case round =>
    obtain ⟨i, out, rfl, hi, hol, HH⟩ := hrel
    by_cases hlt : i < I.size
    · by_cases h92 : I[i] = 92
      · have hcc : ((I[i]).toNat : Int) = 92 := byte_eq (n := 92) (by omega) h92
        have hhd : (I.data.toList.drop i).head? = some 92 := by rw [drop_cons I i hlt, h92]; rfl
        have w1 : IntKind.i64.wrap ((i : Int) + 1) = (i : Int) + 1 := by rw [IntKind.wrap_i64]; omega
        have w2 : IntKind.i64.wrap ((i : Int) + 1 + 1) = (i : Int) + 1 + 1 := by rw [IntKind.wrap_i64]; omega
        have w3 : IntKind.i64.wrap ((i : Int) + 1 + 2) = (i : Int) + 1 + 2 := by rw [IntKind.wrap_i64]; omega
        have w4 : IntKind.i64.wrap ((i : Int) + 1 + 2 + 1) = (i : Int) + 1 + 2 + 1 := by rw [IntKind.wrap_i64]; omega
        by_cases h1 : i + 1 < I.size
        · have j1 : (i : Int) + 1 < (I.size : Int) := by omega
          have hd2 := drop_two I i h1
          rw [h92] at hd2
          by_cases hs : I[i + 1] = 92 ∨ I[i + 1] = 34
          · have hE := okE_two (I.data.toList.drop i) _ _ _ hd2 (fun hc => by rcases hs with hs | hs <;> (rw [hs] at hc; exact absurd hc.1 (by decide)))
            rw [if_neg (by rcases hs with hs | hs <;> (rw [hs]; decide))] at hE
            have HE := hide (HH.out.2.esc hhd _ _ hE)
            rw [List.drop_drop] at HE
            rcases hs with hs | hs
            · have k1 : ((I[i + 1]).toNat : Int) = 92 := byte_eq (n := 92) (by omega) hs
              rw [hs] at HE
              clear hs hE hd2 hhd h92
              go_wp2_with (at_builtin; refine append_bytes HH.out.1 [92] (by simp; omega) rfl _ _ rfl rfl rfl ?_; intro v1 w1' ho1)
              go_roundw
              case rel => exact ⟨i + 2, out ++ [92], by go_num, by omega, by simp; omega, ho1, HE.out⟩
              case measure => simp [intOf]; omega
            · have k1 : ((I[i + 1]).toNat : Int) = 34 := byte_eq (n := 34) (by omega) hs
              rw [hs] at HE
              clear hs hE hd2 hhd h92
              go_wp2_with (at_builtin; refine append_bytes HH.out.1 [34] (by simp; omega) rfl _ _ rfl rfl rfl ?_; intro v1 w1' ho1)
              go_roundw
              case rel => exact ⟨i + 2, out ++ [34], by go_num, by omega, by simp; omega, ho1, HE.out⟩
              case measure => simp [intOf]; omega
          · have hs1 : I[i + 1] ≠ 92 := fun e => hs (Or.inl e)
            have hs2 : I[i + 1] ≠ 34 := fun e => hs (Or.inr e)
            have k1 : (((I[i + 1]).toNat : Int) == 92) = false := byte_ne (n := 92) (by omega) hs1
            have k2 : (((I[i + 1]).toNat : Int) == 34) = false := byte_ne (n := 34) (by omega) hs2
            by_cases h110 : I[i + 1] = 110
            · have k3 : ((I[i + 1]).toNat : Int) = 110 := byte_eq (n := 110) (by omega) h110
              have hE := okE_two (I.data.toList.drop i) _ _ _ hd2 (fun hc => by rw [h110] at hc; exact absurd hc.1 (by decide))
              rw [if_pos h110] at hE
              have HE := hide (HH.out.2.esc hhd _ _ hE)
              rw [List.drop_drop] at HE
              clear hs hs1 hs2 hE hd2 hhd h92 h110 k1 k2
              go_wp2_with (at_builtin; refine append_bytes HH.out.1 [10] (by simp; omega) rfl _ _ rfl rfl rfl ?_; intro v1 w1' ho1)
              go_roundw
              case rel => exact ⟨i + 2, out ++ [10], by go_num, by omega, by simp; omega, ho1, HE.out⟩
              case measure => simp [intOf]; omega
            · have k3 : (((I[i + 1]).toNat : Int) == 110) = false := byte_ne (n := 110) (by omega) h110
              by_cases h120 : I[i + 1] = 120
              · have k4 : ((I[i + 1]).toNat : Int) = 120 := byte_eq (n := 120) (by omega) h120
                by_cases h3 : i + 3 < I.size
                · have j3 : (i : Int) + 1 + 2 < (I.size : Int) := by omega
                  have j2 : (i : Int) + 1 + 1 < (I.size : Int) := by omega
                  have hd4 := drop_four I i h3
                  rw [h92, h120] at hd4
                  by_cases hx : isHx I[i + 1 + 1]
                  · have g1 := dgt_yes hx
                    have v1 := hv_lt hx
                    by_cases hy : isHx I[i + 1 + 2]
                    · have g2 := dgt_yes hy
                      have v2 := hv_lt hy
                      have HE := hide (HH.out.2.esc hhd _ _ (okE_hx _ _ _ _ hd4 hx hy))
                      rw [List.drop_drop] at HE
                      have q1 : ((i : Int) + 1 + 1).toNat < I.size := by omega
                      have q2 : ((i : Int) + 1 + 2).toNat < I.size := by omega
                      have HZ := hide (hex_at I i h3 hx hy q1 q2)
                      generalize UInt8.ofNat (16 * hv I[i + 1 + 1] + hv I[i + 1 + 2]) = cc at *
                      have b0 : (0 : Int) ≤ dgt I[i + 1 + 1] := by rw [g1]; omega
                      have b1 : (0 : Int) ≤ dgt I[i + 1 + 2] := by rw [g2]; omega
                      clear g1 g2 v1 v2
                      clear hs hs1 hs2 hd2 hd4 hhd h92 h110 h120 hx hy
                      go_wp2_with (go_at_call 71; refine (digit_any _ _).mono ?_; rintro e w' ⟨rfl, rfl⟩)
                      go_region_held3 (fun _ => True) (trivial) ((first | (go_at_call 71; refine (digit_any _ _).mono ?_; rintro e w' ⟨rfl, rfl⟩) | (refine step_byte1 HH.out.1 cc _ HZ.out (by omega) rfl _ _ rfl rfl rfl ?_; intro v1 w1' ho1)))
                      all_goals
                        go_wp2
                        go_roundw
                        case rel => exact ⟨i + 4, out ++ [cc], by go_num, by omega, by simp; omega, ho1, HE.out⟩
                        case measure => simp [intOf]; omega
                    · have g2 := dgt_no hy
                      have HNo := hide (okQ_none (l := s.data.toList) (fun t ht => HH.out.2.no hhd (esc_not hhd (fun c r hl => by
                        rw [hd4] at hl
                        injection hl with _ hl
                        injection hl with hc hr
                        subst hc
                        refine ⟨by decide, by decide, by decide, fun _ x y r' hr' => ?_⟩
                        rw [← hr] at hr'
                        injection hr' with hx' hr'
                        injection hr' with hy' _
                        subst hx' hy'
                        exact fun hh => hy hh.2)) t (HQ.out t ht)))
                      generalize hv I[i + 1 + 1] = a at *
                      have b0 : (0 : Int) ≤ (a : Int) := by omega
                      clear hs hs1 hs2 hd2 hd4 hhd h92 h110 h120 hx hy
                      go_wp2_with (go_at_call 71; refine (digit_any _ _).mono ?_; rintro e w' ⟨rfl, rfl⟩)
                      go_ret2
                      exact ⟨[], false, rfl, HH.out.1.bel, HNo.out⟩
                  · have g1 := dgt_no hx
                    have HNo := hide (okQ_none (l := s.data.toList) (fun t ht => HH.out.2.no hhd (esc_not hhd (fun c r hl => by
                      rw [hd4] at hl
                      injection hl with _ hl
                      injection hl with hc hr
                      subst hc
                      refine ⟨by decide, by decide, by decide, fun _ x y r' hr' => ?_⟩
                      rw [← hr] at hr'
                      injection hr' with hx' hr'
                      subst hx'
                      exact fun hh => hx hh.1)) t (HQ.out t ht)))
                    clear hs hs1 hs2 hd2 hd4 hhd h92 h110 h120 hx
                    go_wp2_with (go_at_call 71; refine (digit_any _ _).mono ?_; rintro e w' ⟨rfl, rfl⟩)
                    go_ret2
                    exact ⟨[], false, rfl, HH.out.1.bel, HNo.out⟩
                · have j3 : (I.size : Int) ≤ (i : Int) + 1 + 2 := by omega
                  have HNo := hide (okQ_none (l := s.data.toList) (fun t ht => HH.out.2.no hhd (esc_not hhd (fun c r hl => by
                    rw [hd2] at hl
                    injection hl with _ hl
                    injection hl with hc hr
                    subst hc
                    refine ⟨hs1, hs2, h110, fun _ x y r' hr' => ?_⟩
                    have hlen := congrArg List.length hr
                    rw [hr'] at hlen
                    simp at hlen
                    have : I.data.size = I.size := rfl
                    omega)) t (HQ.out t ht)))
                  clear hs hs1 hs2 hd2 hhd h92 h110 h120
                  go_wp2_with fail
                  go_ret2
                  exact ⟨[], false, rfl, HH.out.1.bel, HNo.out⟩
              · have k4 : (((I[i + 1]).toNat : Int) == 120) = false := byte_ne (n := 120) (by omega) h120
                have HNo := hide (okQ_none (l := s.data.toList) (fun t ht => HH.out.2.no hhd (esc_not hhd (fun c r hl => by
                  rw [hd2] at hl
                  injection hl with _ hl
                  injection hl with hc _
                  subst hc
                  exact ⟨hs1, hs2, h110, fun hc => absurd hc h120⟩)) t (HQ.out t ht)))
                clear hs hs1 hs2 hd2 hhd h92 h110 h120
                by_cases h3 : i + 3 < I.size
                · have j3 : (i : Int) + 1 + 2 < (I.size : Int) := by omega
                  go_wp2_with fail
                  go_ret2
                  exact ⟨[], false, rfl, HH.out.1.bel, HNo.out⟩
                · have j3 : (I.size : Int) ≤ (i : Int) + 1 + 2 := by omega
                  go_wp2_with fail
                  go_ret2
                  exact ⟨[], false, rfl, HH.out.1.bel, HNo.out⟩
        · have j1 : (I.size : Int) ≤ (i : Int) + 1 := by omega
          have j3 : (I.size : Int) ≤ (i : Int) + 1 + 2 := by omega
          have HNo := hide (okQ_none (l := s.data.toList) (fun t ht => HH.out.2.no hhd (esc_not hhd (fun c r hl => by
            rw [drop_cons I i hlt, drop_none I (i + 1) (by omega)] at hl
            simp at hl)) t (HQ.out t ht)))
          clear hhd h92
          go_wp2_with fail
          go_ret2
          exact ⟨[], false, rfl, HH.out.1.bel, HNo.out⟩
      · have hcc : (((I[i]).toNat : Int) == 92) = false := byte_ne (n := 92) (by omega) h92
        have hcb : (((I[i]).toNat : Int) != 92) = true := by unfold bne; rw [hcc]; rfl
        have HE := hide (HH.out.2.plain _ _ (drop_cons I i hlt) h92)
        clear h92
        go_wp2_with (at_builtin; refine append_bytes HH.out.1 [I[i]] (by simp; omega) rfl _ _ rfl rfl rfl ?_; intro v1 w1' ho1)
        go_roundw
        case rel => exact ⟨i + 1, out ++ [I[i]], by go_num, by omega, by simp; omega, ho1, HE.out⟩
        case measure => simp [intOf]; omega
    · have hd0 : I.data.toList.drop i = [] := drop_none I i (by omega)
      have hU := HH.out.2
      rw [hd0] at hU
      have hdone := hU.done
      have hol2 : out.length ≤ 150000000000000 := by omega
      have C35 := fun W => quoted_doc ⟨out.toArray⟩ (by show out.toArray.size ≤ _; simpa using hol2) W
      have hcv := HH.out.1.text
      have hcv2 := HH.out.1.drew.text
      have e0 : (I.size : Int) ≤ (i : Int) := by omega
      have hun : ∀ t', quo t' = s.data.toList → out = t' := fun t' ht => hdone.2 t' (HQ.out t' ht)
      have hle : out.length ≤ s.data.toList.length := by rw [ba_len]; omega
      by_cases heq : quo out = s.data.toList
      · have HK : Hid (okQ s.data.toList out true) := hide ⟨hle, fun _ => heq, fun t' ht => ⟨hun t' ht, rfl⟩⟩
        have hss : (⟨(quo out).toArray⟩ : ByteArray) = s := ba_ext heq
        have HC : Hid (∀ W, Calls Tryz.prog 104 #[.string ⟨out.toArray⟩] W fun e w' => e = .returned (.string s) ∧ w' = W) := hide (fun W => by have := C35 W; rw [hss] at this; exact this)
        clear hd0 hU hdone hol2 C35 hun hle heq hss
        go_wp2_with fail
        go_region_held (fun W => (convert 98 9 u4).run Tryz.prog W = .ok (.string ⟨out.toArray⟩) W) (assumption) ((go_at_call 104; refine (HC.out _).mono ?_; rintro e w' ⟨rfl, rfl⟩))
        all_goals
          go_wp2
          go_ret2
          exact ⟨out, true, rfl, HH.out.1.bel.drew, HK.out⟩
      · have HK : Hid (okQ s.data.toList out false) := hide ⟨hle, (fun h => by cases h), fun t' ht => absurd (by rw [hun t' ht]; exact ht) heq⟩
        obtain ⟨Y, hY⟩ : ∃ Y : ByteArray, Y = ⟨(quo out).toArray⟩ := ⟨_, rfl⟩
        have hq : (Y.toList == s.toList) = false := by
          rw [hY, ByteArray.toList_eq, ByteArray.toList_eq]; simpa using heq
        have HC : Hid (∀ W, Calls Tryz.prog 104 #[.string ⟨out.toArray⟩] W fun e w' => e = .returned (.string Y) ∧ w' = W) := hide (fun W => by rw [hY]; exact C35 W)
        clear hd0 hU hdone hol2 C35 hun hle heq hY
        go_wp2_with fail
        go_region_held (fun W => (convert 98 9 u4).run Tryz.prog W = .ok (.string ⟨out.toArray⟩) W) (assumption) ((go_at_call 104; refine (HC.out _).mono ?_; rintro e w' ⟨rfl, rfl⟩))
        all_goals
          go_wp2
          go_ret2
          exact ⟨out, false, rfl, HH.out.1.bel.drew, HK.out⟩
theorem unquoted_doc (s : ByteArray) (hm : s.size ≤ 150000000000000) (w : World) : Calls Tryz.prog 70 #[.string s] w fun e w' => quoR s.data.toList w e w' := by
  by_cases h : s.size < 2
  · exact unq_short s h w
  by_cases h0 : s[0]'(by omega) = 34
  · by_cases hz : s[s.size - 1]'(by omega) = 34
    · exact unq_main s _ hm (by omega) h0 hz rfl w
    · exact unq_last s hm (by omega) h0 hz w
  · exact unq_first s (by omega) h0 w
end Go.Proofs.YtgghcfmpfneehaaGreatDoor
