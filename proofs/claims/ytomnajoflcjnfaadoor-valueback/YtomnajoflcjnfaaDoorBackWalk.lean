/- The law ValueBack walked: for every two values and every three texts it answers true, and what was there is as it was. -/
import Derived.Test.YtomnajoflcjnfaaDoorValQ
import Derived.Test.YtomnajoflcjnfaaDoorValR
import Derived.Test.YtomnajoflcjnfaaDoorValJ
namespace Go.Proofs.YtomnajoflcjnfaaDoor
open Go.RowKit
set_option linter.unusedVariables false
set_option maxHeartbeats 4000000 in
set_option maxRecDepth 100000 in
theorem back_A1 (k : Int) (b : Bool) (n : Int) (s : ByteArray) (u : Int) (k' : Int) (b' : Bool) (n' : Int) (s' : ByteArray) (u' : Int) (S T Z : ByteArray) (hra : inR n u) (hrb : inR n' u') (hS : S.size ≤ 140737488351232) (hT : T.size ≤ 140737488351232) (hZ : Z.size ≤ 140737488351232) (ha : mayV k b n s u) (hb : mayV k' b' n' s' u') (hrd : (rVal S).2.2 = 0) (w : World) (hG : Gl w) :
    Calls Tryd.prog 7 #[ev k b n s u, ev k' b' n' s' u', .string S, .string T, .string Z] w fun e w' => e = .returned (.bool true) ∧ Bel w w' := by
  have HG := hide hG
  have HS1 := hide ((S5.first k b n s u w).alloc (.cells #[.int .u8 k', .bool b', .int .i64 n', .string s', .int .u64 u'] 25))
  have HS2 := hide (S5.second k' b' n' s' u' w (.cells #[.int .u8 k, .bool b, .int .i64 n, .string s, .int .u64 u] 25))
  have HB0 := hide (((Bel.refl w).alloc (.cells #[.int .u8 k, .bool b, .int .i64 n, .string s, .int .u64 u] 25)).alloc (.cells #[.int .u8 k', .bool b', .int .i64 n', .string s', .int .u64 u'] 25))
  obtain ⟨X, hX⟩ : ∃ X : ByteArray, X = ⟨(byt k b n s u).toArray⟩ := ⟨_, rfl⟩
  obtain ⟨L, hL⟩ : ∃ L : ByteArray, L = ⟨(ltr k b n s u).toArray⟩ := ⟨_, rfl⟩
  have hXs : X.size ≤ 20000 := by rw [hX]; exact byt_len ha hra
  have hLs : L.size ≤ 20000 := by rw [hL]; exact ltr_len ha hra
  have C10a := hide (fun W => bytes_yes ha hra.1 hra.2.1 hra.2.2.1 hra.2.2.2 W)
  have C11a := hide (fun W hW => text_yes ha hra.1 hra.2.1 hra.2.2.1 hra.2.2.2 W hW)
  rw [← hX] at C10a
  rw [← hL] at C11a
  have C15a := hide (fun W => read_back ha hra X Z hX (by rw [ByteArray.size_append]; omega) W)
  have C17a := hide (fun W hW => readText_back ha hra L hL (by omega) W hW)
  have hq : ¬ (9223372036854775807 < X.size + Z.size) := by omega
  obtain ⟨Y, hY⟩ : ∃ Y : ByteArray, Y = ⟨(byt k' b' n' s' u').toArray⟩ := ⟨_, rfl⟩
  have C10b := hide (fun W => bytes_yes hb hrb.1 hrb.2.1 hrb.2.2.1 hrb.2.2.2 W)
  rw [← hY] at C10b
  have C19 := hide (fun W => cmp_yes ha hb W)
  obtain ⟨o1, o2⟩ := byt_order ha hb hra.1 hra.2.1 hrb.1 hrb.2.1 hra.2.2.1 hra.2.2.2 hrb.2.2.1 hrb.2.2.2
  generalize ord k b n s u k' b' n' s' u' = R at *
  have q1 : Op.bytesLess X.toList Y.toList = decide (R < 0) := by rw [ByteArray.toList_eq, ByteArray.toList_eq, hX, hY]; exact o1
  have q2 : (X.toList == Y.toList) = (R == 0) := by
    rw [ByteArray.toList_eq, ByteArray.toList_eq, hX, hY]
    show ((byt k b n s u) == (byt k' b' n' s' u')) = _
    by_cases hR : R = 0
    · rw [o2.2 hR, hR]; simp
    · have : byt k b n s u ≠ byt k' b' n' s' u' := fun h => hR (o2.1 h)
      rw [ne_beq hR]; simpa using this
  clear o1 o2 hY
  clear hX hL
  have C15 := hide (fun W => read_any S (by omega) W)
  have C17 := hide (fun W hW => readText_any T (by omega) W hW)
  have C12 := hide (fun W hW => alive_any W hW)
  have hone := rVal_one S hrd
  obtain ⟨⟨⟨kv, bv, nv, tv, uv⟩, rest, ev0⟩, hv⟩ : ∃ v, v = rVal S := ⟨_, rfl⟩
  rw [← hv] at C15 hrd hone
  obtain rfl : ev0 = 0 := hrd
  obtain ⟨V, hV⟩ : ∃ V : ByteArray, V = ⟨(byt kv bv nv tv uv).toArray⟩ := ⟨_, rfl⟩
  have C10v := hide (fun W => bytes_yes hone.1 hone.2.1.1 hone.2.1.2.1 hone.2.1.2.2.1 hone.2.1.2.2.2 W)
  have hVr : V ++ rest = S := by rw [hV]; exact hone.2.2
  have hVs : ¬ (9223372036854775807 < V.size + rest.size) := by
    have := congrArg ByteArray.size hVr
    rw [ByteArray.size_append] at this
    omega
  simp only at C10v
  rw [← hV] at C10v
  clear hone hv hV
  unfold rv at C15
  simp only at C15
  clear ha hb hra hrb hG
  unfold ev at C10a C15 C17 C11a C15a C17a C10b C19 C10v ⊢
  go_enter Tryd.func7, Tryd.ntmps7
  go_wp2_with fail
  refine (C10a.out _).mono ?_
  rintro e w1 ⟨rfl, hb1⟩
  have HA1 := hide (HS1.out.next hb1)
  have HA2 := hide (HS2.out.next hb1)
  have HB1 := hide (HB0.out.trans hb1)
  clear hb1
  go_wp2_with fail
  refine (C15a.out _).mono ?_
  rintro e w2 ⟨rfl, hb2⟩
  have HV := hide (S5.first k b n s u w2)
  have HC1 := hide ((HA1.out.next hb2).alloc (.cells #[.int .u8 k, .bool b, .int .i64 n, .string s, .int .u64 u] 25))
  have HC2 := hide ((HA2.out.next hb2).alloc (.cells #[.int .u8 k, .bool b, .int .i64 n, .string s, .int .u64 u] 25))
  have HB2 := hide ((HB1.out.trans hb2).alloc (.cells #[.int .u8 k, .bool b, .int .i64 n, .string s, .int .u64 u] 25))
  obtain ⟨a0, a1, a2, a3, a4⟩ := HC1.out
  clear hb2
  go_wp2_with fail
  refine (C11a.out _ (HG.out.next HB2.out)).mono ?_
  rintro e w3 ⟨rfl, hb3⟩
  have HD1 := hide (HC1.out.next hb3)
  have HD2 := hide (HC2.out.next hb3)
  have HV3 := hide (HV.out.next hb3)
  have HB3 := hide (HB2.out.trans hb3)
  clear hb3
  go_wp2_with fail
  refine (C17a.out _ (HG.out.next HB3.out)).mono ?_
  rintro e w4 ⟨rfl, hb4⟩
  have HE1 := hide ((HD1.out.next hb4).alloc (.cells #[.int .u8 k, .bool b, .int .i64 n, .string s, .int .u64 u] 25))
  have HE2 := hide ((HD2.out.next hb4).alloc (.cells #[.int .u8 k, .bool b, .int .i64 n, .string s, .int .u64 u] 25))
  have HV4 := hide ((HV3.out.next hb4).alloc (.cells #[.int .u8 k, .bool b, .int .i64 n, .string s, .int .u64 u] 25))
  have HB4 := hide ((HB3.out.trans hb4).alloc (.cells #[.int .u8 k, .bool b, .int .i64 n, .string s, .int .u64 u] 25))
  obtain ⟨e0, e1, e2, e3, e4⟩ := HE1.out
  obtain ⟨f0, f1, f2, f3, f4⟩ := HE2.out
  obtain ⟨v0, v1, v2, v3, v4⟩ := HV4.out
  clear hb4
  go_wp2_with fail
  refine (C10b.out _).mono ?_
  rintro e w5 ⟨rfl, hb5⟩
  have HF1 := hide (HE1.out.next hb5)
  have HF2 := hide (HE2.out.next hb5)
  have HB5 := hide (HB4.out.trans hb5)
  obtain ⟨g0, g1, g2, g3, g4⟩ := HF1.out
  obtain ⟨i0, i1, i2, i3, i4⟩ := HF2.out
  clear hb5
  go_wp2_with fail
  refine (C19.out _).mono ?_
  rintro e w6 ⟨rfl, hb6⟩
  have HB6 := hide (HB5.out.trans hb6)
  clear hb6
  go_wp2_with fail
  refine (C15.out _).mono ?_
  rintro e w7 ⟨rfl, hb7⟩
  have HB7 := hide (HB6.out.trans hb7)
  clear hb7
  have HR7 := hide (S5.first kv bv nv tv uv w7)
  have HW7 := hide (heap_alloc_new w7 (.cells #[.int .u8 kv, .bool bv, .int .i64 nv, .string tv, .int .u64 uv] 25))
  have HB8 := hide (HB7.out.alloc (.cells #[.int .u8 kv, .bool bv, .int .i64 nv, .string tv, .int .u64 uv] 25))
  obtain ⟨r0, r1, r2, r3, r4⟩ := HR7.out
  go_wp2_with fail
  refine (C10v.out _).mono ?_
  rintro e w8 ⟨rfl, hb8⟩
  have HW8 := hide (hb8.row HW7.out)
  have HB9 := hide (HB8.out.trans hb8)
  clear hb8
  go_wp2_with fail
  refine (C17.out _ (HG.out.next HB9.out)).mono ?_
  rintro e w9 ⟨kt, bt', nt, tt, ut, x, rfl, hb9, hok⟩
  have HW9 := hide (hb9.row HW8.out)
  have HB10 := hide (HB9.out.trans hb9)
  clear hb9
  rcases hok with ⟨rfl, hm, hi, hl, _⟩ | ⟨rfl, rfl, rfl, rfl, rfl, rfl, _⟩
  · have hTT : (⟨(ltr kt bt' nt tt ut).toArray⟩ : ByteArray) = T := ba_ext hl
    have C11t := hide (fun W hW => text_yes hm hi.1 hi.2.1 hi.2.2.1 hi.2.2.2 W hW)
    rw [hTT] at C11t
    unfold ev at C11t
    have HRo := hide (setRow_heap w9 w7.heap.size _ (ec kt bt' nt tt ut) 25 (0, 0) HW9.out)
    have HB11 := hide (HB10.out.setRow (Nat.le_trans HB7.out.size (Nat.le_refl _)) (ec kt bt' nt tt ut))
    clear hm hi hl hTT
    go_wp2_with (first | (refine wpList_store_row rfl 25 _ _ rfl w7.heap.size (ec kt bt' nt tt ut) rfl rfl 25 _ HW9.out info25 rfl (ec_one _ _ _ _ _) ?_) | (refine wpList_load_row rfl 25 _ rfl w7.heap.size rfl 25 (ec kt bt' nt tt ut) (0, 0) _ HRo.out Tryd.underlying25 rfl info25 ?_) | (go_at_call 11; refine (C11t.out _ (HG.out.next HB11.out)).mono ?_; rintro e w10 ⟨rfl, hb10⟩; have HB12 := hide (HB11.out.trans hb10)) | (go_at_call 12; refine (C12.out _ (HG.out.next HB12.out)).mono ?_; rintro e w11 ⟨rfl, hb11⟩))
    go_ret
    exact ⟨rfl, HB12.out.trans hb11⟩
  · have HB11 := hide (HB10.out.setRow (Nat.le_trans HB7.out.size (Nat.le_refl _)) (ec 0 false 0 ⟨#[]⟩ 0))
    go_wp2_with (first | (refine wpList_store_row rfl 25 _ _ rfl w7.heap.size (ec 0 false 0 ⟨#[]⟩ 0) rfl rfl 25 _ HW9.out info25 rfl (ec_one _ _ _ _ _) ?_) | (go_at_call 12; refine (C12.out _ (HG.out.next HB11.out)).mono ?_; rintro e w11 ⟨rfl, hb11⟩))
    go_ret
    exact ⟨rfl, HB11.out.trans hb11⟩
set_option maxHeartbeats 4000000 in
set_option maxRecDepth 100000 in
theorem back_A0 (k : Int) (b : Bool) (n : Int) (s : ByteArray) (u : Int) (k' : Int) (b' : Bool) (n' : Int) (s' : ByteArray) (u' : Int) (S T Z : ByteArray) (hra : inR n u) (hrb : inR n' u') (hS : S.size ≤ 140737488351232) (hT : T.size ≤ 140737488351232) (hZ : Z.size ≤ 140737488351232) (ha : mayV k b n s u) (hb : mayV k' b' n' s' u') (hrd : (rVal S).2.2 ≠ 0) (w : World) (hG : Gl w) :
    Calls Tryd.prog 7 #[ev k b n s u, ev k' b' n' s' u', .string S, .string T, .string Z] w fun e w' => e = .returned (.bool true) ∧ Bel w w' := by
  have HG := hide hG
  have HS1 := hide ((S5.first k b n s u w).alloc (.cells #[.int .u8 k', .bool b', .int .i64 n', .string s', .int .u64 u'] 25))
  have HS2 := hide (S5.second k' b' n' s' u' w (.cells #[.int .u8 k, .bool b, .int .i64 n, .string s, .int .u64 u] 25))
  have HB0 := hide (((Bel.refl w).alloc (.cells #[.int .u8 k, .bool b, .int .i64 n, .string s, .int .u64 u] 25)).alloc (.cells #[.int .u8 k', .bool b', .int .i64 n', .string s', .int .u64 u'] 25))
  obtain ⟨X, hX⟩ : ∃ X : ByteArray, X = ⟨(byt k b n s u).toArray⟩ := ⟨_, rfl⟩
  obtain ⟨L, hL⟩ : ∃ L : ByteArray, L = ⟨(ltr k b n s u).toArray⟩ := ⟨_, rfl⟩
  have hXs : X.size ≤ 20000 := by rw [hX]; exact byt_len ha hra
  have hLs : L.size ≤ 20000 := by rw [hL]; exact ltr_len ha hra
  have C10a := hide (fun W => bytes_yes ha hra.1 hra.2.1 hra.2.2.1 hra.2.2.2 W)
  have C11a := hide (fun W hW => text_yes ha hra.1 hra.2.1 hra.2.2.1 hra.2.2.2 W hW)
  rw [← hX] at C10a
  rw [← hL] at C11a
  have C15a := hide (fun W => read_back ha hra X Z hX (by rw [ByteArray.size_append]; omega) W)
  have C17a := hide (fun W hW => readText_back ha hra L hL (by omega) W hW)
  have hq : ¬ (9223372036854775807 < X.size + Z.size) := by omega
  obtain ⟨Y, hY⟩ : ∃ Y : ByteArray, Y = ⟨(byt k' b' n' s' u').toArray⟩ := ⟨_, rfl⟩
  have C10b := hide (fun W => bytes_yes hb hrb.1 hrb.2.1 hrb.2.2.1 hrb.2.2.2 W)
  rw [← hY] at C10b
  have C19 := hide (fun W => cmp_yes ha hb W)
  obtain ⟨o1, o2⟩ := byt_order ha hb hra.1 hra.2.1 hrb.1 hrb.2.1 hra.2.2.1 hra.2.2.2 hrb.2.2.1 hrb.2.2.2
  generalize ord k b n s u k' b' n' s' u' = R at *
  have q1 : Op.bytesLess X.toList Y.toList = decide (R < 0) := by rw [ByteArray.toList_eq, ByteArray.toList_eq, hX, hY]; exact o1
  have q2 : (X.toList == Y.toList) = (R == 0) := by
    rw [ByteArray.toList_eq, ByteArray.toList_eq, hX, hY]
    show ((byt k b n s u) == (byt k' b' n' s' u')) = _
    by_cases hR : R = 0
    · rw [o2.2 hR, hR]; simp
    · have : byt k b n s u ≠ byt k' b' n' s' u' := fun h => hR (o2.1 h)
      rw [ne_beq hR]; simpa using this
  clear o1 o2 hY
  clear hX hL
  have C15 := hide (fun W => read_any S (by omega) W)
  have C17 := hide (fun W hW => readText_any T (by omega) W hW)
  have C12 := hide (fun W hW => alive_any W hW)
  obtain ⟨⟨⟨kv, bv, nv, tv, uv⟩, rest, ev0⟩, hv⟩ : ∃ v, v = rVal S := ⟨_, rfl⟩
  rw [← hv] at C15 hrd
  have hev : (ev0 == 0) = false := ne_beq hrd
  clear hv hrd
  unfold rv at C15
  simp only at C15
  clear ha hb hra hrb hG
  unfold ev at C10a C15 C17 C11a C15a C17a C10b C19 ⊢
  go_enter Tryd.func7, Tryd.ntmps7
  go_wp2_with fail
  refine (C10a.out _).mono ?_
  rintro e w1 ⟨rfl, hb1⟩
  have HA1 := hide (HS1.out.next hb1)
  have HA2 := hide (HS2.out.next hb1)
  have HB1 := hide (HB0.out.trans hb1)
  clear hb1
  go_wp2_with fail
  refine (C15a.out _).mono ?_
  rintro e w2 ⟨rfl, hb2⟩
  have HV := hide (S5.first k b n s u w2)
  have HC1 := hide ((HA1.out.next hb2).alloc (.cells #[.int .u8 k, .bool b, .int .i64 n, .string s, .int .u64 u] 25))
  have HC2 := hide ((HA2.out.next hb2).alloc (.cells #[.int .u8 k, .bool b, .int .i64 n, .string s, .int .u64 u] 25))
  have HB2 := hide ((HB1.out.trans hb2).alloc (.cells #[.int .u8 k, .bool b, .int .i64 n, .string s, .int .u64 u] 25))
  obtain ⟨a0, a1, a2, a3, a4⟩ := HC1.out
  clear hb2
  go_wp2_with fail
  refine (C11a.out _ (HG.out.next HB2.out)).mono ?_
  rintro e w3 ⟨rfl, hb3⟩
  have HD1 := hide (HC1.out.next hb3)
  have HD2 := hide (HC2.out.next hb3)
  have HV3 := hide (HV.out.next hb3)
  have HB3 := hide (HB2.out.trans hb3)
  clear hb3
  go_wp2_with fail
  refine (C17a.out _ (HG.out.next HB3.out)).mono ?_
  rintro e w4 ⟨rfl, hb4⟩
  have HE1 := hide ((HD1.out.next hb4).alloc (.cells #[.int .u8 k, .bool b, .int .i64 n, .string s, .int .u64 u] 25))
  have HE2 := hide ((HD2.out.next hb4).alloc (.cells #[.int .u8 k, .bool b, .int .i64 n, .string s, .int .u64 u] 25))
  have HV4 := hide ((HV3.out.next hb4).alloc (.cells #[.int .u8 k, .bool b, .int .i64 n, .string s, .int .u64 u] 25))
  have HB4 := hide ((HB3.out.trans hb4).alloc (.cells #[.int .u8 k, .bool b, .int .i64 n, .string s, .int .u64 u] 25))
  obtain ⟨e0, e1, e2, e3, e4⟩ := HE1.out
  obtain ⟨f0, f1, f2, f3, f4⟩ := HE2.out
  obtain ⟨v0, v1, v2, v3, v4⟩ := HV4.out
  clear hb4
  go_wp2_with fail
  refine (C10b.out _).mono ?_
  rintro e w5 ⟨rfl, hb5⟩
  have HF1 := hide (HE1.out.next hb5)
  have HF2 := hide (HE2.out.next hb5)
  have HB5 := hide (HB4.out.trans hb5)
  obtain ⟨g0, g1, g2, g3, g4⟩ := HF1.out
  obtain ⟨i0, i1, i2, i3, i4⟩ := HF2.out
  clear hb5
  go_wp2_with fail
  refine (C19.out _).mono ?_
  rintro e w6 ⟨rfl, hb6⟩
  have HB6 := hide (HB5.out.trans hb6)
  clear hb6
  go_wp2_with fail
  refine (C15.out _).mono ?_
  rintro e w7 ⟨rfl, hb7⟩
  have HB7 := hide (HB6.out.trans hb7)
  clear hb7
  have HR7 := hide (S5.first kv bv nv tv uv w7)
  have HW7 := hide (heap_alloc_new w7 (.cells #[.int .u8 kv, .bool bv, .int .i64 nv, .string tv, .int .u64 uv] 25))
  have HB8 := hide (HB7.out.alloc (.cells #[.int .u8 kv, .bool bv, .int .i64 nv, .string tv, .int .u64 uv] 25))
  obtain ⟨r0, r1, r2, r3, r4⟩ := HR7.out
  go_wp2_with fail
  have HW8 := HW7
  have HB9 := HB8
  refine (C17.out _ (HG.out.next HB9.out)).mono ?_
  rintro e w9 ⟨kt, bt', nt, tt, ut, x, rfl, hb9, hok⟩
  have HW9 := hide (hb9.row HW8.out)
  have HB10 := hide (HB9.out.trans hb9)
  clear hb9
  rcases hok with ⟨rfl, hm, hi, hl, _⟩ | ⟨rfl, rfl, rfl, rfl, rfl, rfl, _⟩
  · have hTT : (⟨(ltr kt bt' nt tt ut).toArray⟩ : ByteArray) = T := ba_ext hl
    have C11t := hide (fun W hW => text_yes hm hi.1 hi.2.1 hi.2.2.1 hi.2.2.2 W hW)
    rw [hTT] at C11t
    unfold ev at C11t
    have HRo := hide (setRow_heap w9 w7.heap.size _ (ec kt bt' nt tt ut) 25 (0, 0) HW9.out)
    have HB11 := hide (HB10.out.setRow (Nat.le_trans HB7.out.size (Nat.le_refl _)) (ec kt bt' nt tt ut))
    clear hm hi hl hTT
    go_wp2_with (first | (refine wpList_store_row rfl 25 _ _ rfl w7.heap.size (ec kt bt' nt tt ut) rfl rfl 25 _ HW9.out info25 rfl (ec_one _ _ _ _ _) ?_) | (refine wpList_load_row rfl 25 _ rfl w7.heap.size rfl 25 (ec kt bt' nt tt ut) (0, 0) _ HRo.out Tryd.underlying25 rfl info25 ?_) | (go_at_call 11; refine (C11t.out _ (HG.out.next HB11.out)).mono ?_; rintro e w10 ⟨rfl, hb10⟩; have HB12 := hide (HB11.out.trans hb10)) | (go_at_call 12; refine (C12.out _ (HG.out.next HB12.out)).mono ?_; rintro e w11 ⟨rfl, hb11⟩))
    go_ret
    exact ⟨rfl, HB12.out.trans hb11⟩
  · have HB11 := hide (HB10.out.setRow (Nat.le_trans HB7.out.size (Nat.le_refl _)) (ec 0 false 0 ⟨#[]⟩ 0))
    go_wp2_with (first | (refine wpList_store_row rfl 25 _ _ rfl w7.heap.size (ec 0 false 0 ⟨#[]⟩ 0) rfl rfl 25 _ HW9.out info25 rfl (ec_one _ _ _ _ _) ?_) | (go_at_call 12; refine (C12.out _ (HG.out.next HB11.out)).mono ?_; rintro e w11 ⟨rfl, hb11⟩))
    go_ret
    exact ⟨rfl, HB11.out.trans hb11⟩
set_option maxHeartbeats 4000000 in
set_option maxRecDepth 100000 in
theorem back_B1 (k : Int) (b : Bool) (n : Int) (s : ByteArray) (u : Int) (k' : Int) (b' : Bool) (n' : Int) (s' : ByteArray) (u' : Int) (S T Z : ByteArray) (hra : inR n u) (hrb : inR n' u') (hS : S.size ≤ 140737488351232) (hT : T.size ≤ 140737488351232) (hZ : Z.size ≤ 140737488351232) (ha : mayV k b n s u) (hb : ¬ mayV k' b' n' s' u') (hrd : (rVal S).2.2 = 0) (w : World) (hG : Gl w) :
    Calls Tryd.prog 7 #[ev k b n s u, ev k' b' n' s' u', .string S, .string T, .string Z] w fun e w' => e = .returned (.bool true) ∧ Bel w w' := by
  have HG := hide hG
  have HS1 := hide ((S5.first k b n s u w).alloc (.cells #[.int .u8 k', .bool b', .int .i64 n', .string s', .int .u64 u'] 25))
  have HS2 := hide (S5.second k' b' n' s' u' w (.cells #[.int .u8 k, .bool b, .int .i64 n, .string s, .int .u64 u] 25))
  have HB0 := hide (((Bel.refl w).alloc (.cells #[.int .u8 k, .bool b, .int .i64 n, .string s, .int .u64 u] 25)).alloc (.cells #[.int .u8 k', .bool b', .int .i64 n', .string s', .int .u64 u'] 25))
  obtain ⟨X, hX⟩ : ∃ X : ByteArray, X = ⟨(byt k b n s u).toArray⟩ := ⟨_, rfl⟩
  obtain ⟨L, hL⟩ : ∃ L : ByteArray, L = ⟨(ltr k b n s u).toArray⟩ := ⟨_, rfl⟩
  have hXs : X.size ≤ 20000 := by rw [hX]; exact byt_len ha hra
  have hLs : L.size ≤ 20000 := by rw [hL]; exact ltr_len ha hra
  have C10a := hide (fun W => bytes_yes ha hra.1 hra.2.1 hra.2.2.1 hra.2.2.2 W)
  have C11a := hide (fun W hW => text_yes ha hra.1 hra.2.1 hra.2.2.1 hra.2.2.2 W hW)
  rw [← hX] at C10a
  rw [← hL] at C11a
  have C15a := hide (fun W => read_back ha hra X Z hX (by rw [ByteArray.size_append]; omega) W)
  have C17a := hide (fun W hW => readText_back ha hra L hL (by omega) W hW)
  have hq : ¬ (9223372036854775807 < X.size + Z.size) := by omega
  have C10b := hide (fun W => bytes_no hb W)
  have C19 := hide (fun W => cmp_no2 ha hb W)
  clear hX hL
  have C15 := hide (fun W => read_any S (by omega) W)
  have C17 := hide (fun W hW => readText_any T (by omega) W hW)
  have C12 := hide (fun W hW => alive_any W hW)
  have hone := rVal_one S hrd
  obtain ⟨⟨⟨kv, bv, nv, tv, uv⟩, rest, ev0⟩, hv⟩ : ∃ v, v = rVal S := ⟨_, rfl⟩
  rw [← hv] at C15 hrd hone
  obtain rfl : ev0 = 0 := hrd
  obtain ⟨V, hV⟩ : ∃ V : ByteArray, V = ⟨(byt kv bv nv tv uv).toArray⟩ := ⟨_, rfl⟩
  have C10v := hide (fun W => bytes_yes hone.1 hone.2.1.1 hone.2.1.2.1 hone.2.1.2.2.1 hone.2.1.2.2.2 W)
  have hVr : V ++ rest = S := by rw [hV]; exact hone.2.2
  have hVs : ¬ (9223372036854775807 < V.size + rest.size) := by
    have := congrArg ByteArray.size hVr
    rw [ByteArray.size_append] at this
    omega
  simp only at C10v
  rw [← hV] at C10v
  clear hone hv hV
  unfold rv at C15
  simp only at C15
  clear ha hb hra hrb hG
  unfold ev at C10a C15 C17 C11a C15a C17a C10b C19 C10v ⊢
  go_enter Tryd.func7, Tryd.ntmps7
  go_wp2_with fail
  refine (C10a.out _).mono ?_
  rintro e w1 ⟨rfl, hb1⟩
  have HA1 := hide (HS1.out.next hb1)
  have HA2 := hide (HS2.out.next hb1)
  have HB1 := hide (HB0.out.trans hb1)
  clear hb1
  go_wp2_with fail
  refine (C15a.out _).mono ?_
  rintro e w2 ⟨rfl, hb2⟩
  have HV := hide (S5.first k b n s u w2)
  have HC1 := hide ((HA1.out.next hb2).alloc (.cells #[.int .u8 k, .bool b, .int .i64 n, .string s, .int .u64 u] 25))
  have HC2 := hide ((HA2.out.next hb2).alloc (.cells #[.int .u8 k, .bool b, .int .i64 n, .string s, .int .u64 u] 25))
  have HB2 := hide ((HB1.out.trans hb2).alloc (.cells #[.int .u8 k, .bool b, .int .i64 n, .string s, .int .u64 u] 25))
  obtain ⟨a0, a1, a2, a3, a4⟩ := HC1.out
  clear hb2
  go_wp2_with fail
  refine (C11a.out _ (HG.out.next HB2.out)).mono ?_
  rintro e w3 ⟨rfl, hb3⟩
  have HD1 := hide (HC1.out.next hb3)
  have HD2 := hide (HC2.out.next hb3)
  have HV3 := hide (HV.out.next hb3)
  have HB3 := hide (HB2.out.trans hb3)
  clear hb3
  go_wp2_with fail
  refine (C17a.out _ (HG.out.next HB3.out)).mono ?_
  rintro e w4 ⟨rfl, hb4⟩
  have HE1 := hide ((HD1.out.next hb4).alloc (.cells #[.int .u8 k, .bool b, .int .i64 n, .string s, .int .u64 u] 25))
  have HE2 := hide ((HD2.out.next hb4).alloc (.cells #[.int .u8 k, .bool b, .int .i64 n, .string s, .int .u64 u] 25))
  have HV4 := hide ((HV3.out.next hb4).alloc (.cells #[.int .u8 k, .bool b, .int .i64 n, .string s, .int .u64 u] 25))
  have HB4 := hide ((HB3.out.trans hb4).alloc (.cells #[.int .u8 k, .bool b, .int .i64 n, .string s, .int .u64 u] 25))
  obtain ⟨e0, e1, e2, e3, e4⟩ := HE1.out
  obtain ⟨f0, f1, f2, f3, f4⟩ := HE2.out
  obtain ⟨v0, v1, v2, v3, v4⟩ := HV4.out
  clear hb4
  go_wp2_with fail
  refine (C10b.out _).mono ?_
  rintro e w5 ⟨rfl, hb5⟩
  have HF1 := hide (HE1.out.next hb5)
  have HF2 := hide (HE2.out.next hb5)
  have HB5 := hide (HB4.out.trans hb5)
  obtain ⟨g0, g1, g2, g3, g4⟩ := HF1.out
  obtain ⟨i0, i1, i2, i3, i4⟩ := HF2.out
  clear hb5
  go_wp2_with fail
  refine (C19.out _).mono ?_
  rintro e w6 ⟨rfl, hb6⟩
  have HB6 := hide (HB5.out.trans hb6)
  clear hb6
  go_wp2_with fail
  refine (C15.out _).mono ?_
  rintro e w7 ⟨rfl, hb7⟩
  have HB7 := hide (HB6.out.trans hb7)
  clear hb7
  have HR7 := hide (S5.first kv bv nv tv uv w7)
  have HW7 := hide (heap_alloc_new w7 (.cells #[.int .u8 kv, .bool bv, .int .i64 nv, .string tv, .int .u64 uv] 25))
  have HB8 := hide (HB7.out.alloc (.cells #[.int .u8 kv, .bool bv, .int .i64 nv, .string tv, .int .u64 uv] 25))
  obtain ⟨r0, r1, r2, r3, r4⟩ := HR7.out
  go_wp2_with fail
  refine (C10v.out _).mono ?_
  rintro e w8 ⟨rfl, hb8⟩
  have HW8 := hide (hb8.row HW7.out)
  have HB9 := hide (HB8.out.trans hb8)
  clear hb8
  go_wp2_with fail
  refine (C17.out _ (HG.out.next HB9.out)).mono ?_
  rintro e w9 ⟨kt, bt', nt, tt, ut, x, rfl, hb9, hok⟩
  have HW9 := hide (hb9.row HW8.out)
  have HB10 := hide (HB9.out.trans hb9)
  clear hb9
  rcases hok with ⟨rfl, hm, hi, hl, _⟩ | ⟨rfl, rfl, rfl, rfl, rfl, rfl, _⟩
  · have hTT : (⟨(ltr kt bt' nt tt ut).toArray⟩ : ByteArray) = T := ba_ext hl
    have C11t := hide (fun W hW => text_yes hm hi.1 hi.2.1 hi.2.2.1 hi.2.2.2 W hW)
    rw [hTT] at C11t
    unfold ev at C11t
    have HRo := hide (setRow_heap w9 w7.heap.size _ (ec kt bt' nt tt ut) 25 (0, 0) HW9.out)
    have HB11 := hide (HB10.out.setRow (Nat.le_trans HB7.out.size (Nat.le_refl _)) (ec kt bt' nt tt ut))
    clear hm hi hl hTT
    go_wp2_with (first | (refine wpList_store_row rfl 25 _ _ rfl w7.heap.size (ec kt bt' nt tt ut) rfl rfl 25 _ HW9.out info25 rfl (ec_one _ _ _ _ _) ?_) | (refine wpList_load_row rfl 25 _ rfl w7.heap.size rfl 25 (ec kt bt' nt tt ut) (0, 0) _ HRo.out Tryd.underlying25 rfl info25 ?_) | (go_at_call 11; refine (C11t.out _ (HG.out.next HB11.out)).mono ?_; rintro e w10 ⟨rfl, hb10⟩; have HB12 := hide (HB11.out.trans hb10)) | (go_at_call 12; refine (C12.out _ (HG.out.next HB12.out)).mono ?_; rintro e w11 ⟨rfl, hb11⟩))
    go_ret
    exact ⟨rfl, HB12.out.trans hb11⟩
  · have HB11 := hide (HB10.out.setRow (Nat.le_trans HB7.out.size (Nat.le_refl _)) (ec 0 false 0 ⟨#[]⟩ 0))
    go_wp2_with (first | (refine wpList_store_row rfl 25 _ _ rfl w7.heap.size (ec 0 false 0 ⟨#[]⟩ 0) rfl rfl 25 _ HW9.out info25 rfl (ec_one _ _ _ _ _) ?_) | (go_at_call 12; refine (C12.out _ (HG.out.next HB11.out)).mono ?_; rintro e w11 ⟨rfl, hb11⟩))
    go_ret
    exact ⟨rfl, HB11.out.trans hb11⟩
set_option maxHeartbeats 4000000 in
set_option maxRecDepth 100000 in
theorem back_B0 (k : Int) (b : Bool) (n : Int) (s : ByteArray) (u : Int) (k' : Int) (b' : Bool) (n' : Int) (s' : ByteArray) (u' : Int) (S T Z : ByteArray) (hra : inR n u) (hrb : inR n' u') (hS : S.size ≤ 140737488351232) (hT : T.size ≤ 140737488351232) (hZ : Z.size ≤ 140737488351232) (ha : mayV k b n s u) (hb : ¬ mayV k' b' n' s' u') (hrd : (rVal S).2.2 ≠ 0) (w : World) (hG : Gl w) :
    Calls Tryd.prog 7 #[ev k b n s u, ev k' b' n' s' u', .string S, .string T, .string Z] w fun e w' => e = .returned (.bool true) ∧ Bel w w' := by
  have HG := hide hG
  have HS1 := hide ((S5.first k b n s u w).alloc (.cells #[.int .u8 k', .bool b', .int .i64 n', .string s', .int .u64 u'] 25))
  have HS2 := hide (S5.second k' b' n' s' u' w (.cells #[.int .u8 k, .bool b, .int .i64 n, .string s, .int .u64 u] 25))
  have HB0 := hide (((Bel.refl w).alloc (.cells #[.int .u8 k, .bool b, .int .i64 n, .string s, .int .u64 u] 25)).alloc (.cells #[.int .u8 k', .bool b', .int .i64 n', .string s', .int .u64 u'] 25))
  obtain ⟨X, hX⟩ : ∃ X : ByteArray, X = ⟨(byt k b n s u).toArray⟩ := ⟨_, rfl⟩
  obtain ⟨L, hL⟩ : ∃ L : ByteArray, L = ⟨(ltr k b n s u).toArray⟩ := ⟨_, rfl⟩
  have hXs : X.size ≤ 20000 := by rw [hX]; exact byt_len ha hra
  have hLs : L.size ≤ 20000 := by rw [hL]; exact ltr_len ha hra
  have C10a := hide (fun W => bytes_yes ha hra.1 hra.2.1 hra.2.2.1 hra.2.2.2 W)
  have C11a := hide (fun W hW => text_yes ha hra.1 hra.2.1 hra.2.2.1 hra.2.2.2 W hW)
  rw [← hX] at C10a
  rw [← hL] at C11a
  have C15a := hide (fun W => read_back ha hra X Z hX (by rw [ByteArray.size_append]; omega) W)
  have C17a := hide (fun W hW => readText_back ha hra L hL (by omega) W hW)
  have hq : ¬ (9223372036854775807 < X.size + Z.size) := by omega
  have C10b := hide (fun W => bytes_no hb W)
  have C19 := hide (fun W => cmp_no2 ha hb W)
  clear hX hL
  have C15 := hide (fun W => read_any S (by omega) W)
  have C17 := hide (fun W hW => readText_any T (by omega) W hW)
  have C12 := hide (fun W hW => alive_any W hW)
  obtain ⟨⟨⟨kv, bv, nv, tv, uv⟩, rest, ev0⟩, hv⟩ : ∃ v, v = rVal S := ⟨_, rfl⟩
  rw [← hv] at C15 hrd
  have hev : (ev0 == 0) = false := ne_beq hrd
  clear hv hrd
  unfold rv at C15
  simp only at C15
  clear ha hb hra hrb hG
  unfold ev at C10a C15 C17 C11a C15a C17a C10b C19 ⊢
  go_enter Tryd.func7, Tryd.ntmps7
  go_wp2_with fail
  refine (C10a.out _).mono ?_
  rintro e w1 ⟨rfl, hb1⟩
  have HA1 := hide (HS1.out.next hb1)
  have HA2 := hide (HS2.out.next hb1)
  have HB1 := hide (HB0.out.trans hb1)
  clear hb1
  go_wp2_with fail
  refine (C15a.out _).mono ?_
  rintro e w2 ⟨rfl, hb2⟩
  have HV := hide (S5.first k b n s u w2)
  have HC1 := hide ((HA1.out.next hb2).alloc (.cells #[.int .u8 k, .bool b, .int .i64 n, .string s, .int .u64 u] 25))
  have HC2 := hide ((HA2.out.next hb2).alloc (.cells #[.int .u8 k, .bool b, .int .i64 n, .string s, .int .u64 u] 25))
  have HB2 := hide ((HB1.out.trans hb2).alloc (.cells #[.int .u8 k, .bool b, .int .i64 n, .string s, .int .u64 u] 25))
  obtain ⟨a0, a1, a2, a3, a4⟩ := HC1.out
  clear hb2
  go_wp2_with fail
  refine (C11a.out _ (HG.out.next HB2.out)).mono ?_
  rintro e w3 ⟨rfl, hb3⟩
  have HD1 := hide (HC1.out.next hb3)
  have HD2 := hide (HC2.out.next hb3)
  have HV3 := hide (HV.out.next hb3)
  have HB3 := hide (HB2.out.trans hb3)
  clear hb3
  go_wp2_with fail
  refine (C17a.out _ (HG.out.next HB3.out)).mono ?_
  rintro e w4 ⟨rfl, hb4⟩
  have HE1 := hide ((HD1.out.next hb4).alloc (.cells #[.int .u8 k, .bool b, .int .i64 n, .string s, .int .u64 u] 25))
  have HE2 := hide ((HD2.out.next hb4).alloc (.cells #[.int .u8 k, .bool b, .int .i64 n, .string s, .int .u64 u] 25))
  have HV4 := hide ((HV3.out.next hb4).alloc (.cells #[.int .u8 k, .bool b, .int .i64 n, .string s, .int .u64 u] 25))
  have HB4 := hide ((HB3.out.trans hb4).alloc (.cells #[.int .u8 k, .bool b, .int .i64 n, .string s, .int .u64 u] 25))
  obtain ⟨e0, e1, e2, e3, e4⟩ := HE1.out
  obtain ⟨f0, f1, f2, f3, f4⟩ := HE2.out
  obtain ⟨v0, v1, v2, v3, v4⟩ := HV4.out
  clear hb4
  go_wp2_with fail
  refine (C10b.out _).mono ?_
  rintro e w5 ⟨rfl, hb5⟩
  have HF1 := hide (HE1.out.next hb5)
  have HF2 := hide (HE2.out.next hb5)
  have HB5 := hide (HB4.out.trans hb5)
  obtain ⟨g0, g1, g2, g3, g4⟩ := HF1.out
  obtain ⟨i0, i1, i2, i3, i4⟩ := HF2.out
  clear hb5
  go_wp2_with fail
  refine (C19.out _).mono ?_
  rintro e w6 ⟨rfl, hb6⟩
  have HB6 := hide (HB5.out.trans hb6)
  clear hb6
  go_wp2_with fail
  refine (C15.out _).mono ?_
  rintro e w7 ⟨rfl, hb7⟩
  have HB7 := hide (HB6.out.trans hb7)
  clear hb7
  have HR7 := hide (S5.first kv bv nv tv uv w7)
  have HW7 := hide (heap_alloc_new w7 (.cells #[.int .u8 kv, .bool bv, .int .i64 nv, .string tv, .int .u64 uv] 25))
  have HB8 := hide (HB7.out.alloc (.cells #[.int .u8 kv, .bool bv, .int .i64 nv, .string tv, .int .u64 uv] 25))
  obtain ⟨r0, r1, r2, r3, r4⟩ := HR7.out
  go_wp2_with fail
  have HW8 := HW7
  have HB9 := HB8
  refine (C17.out _ (HG.out.next HB9.out)).mono ?_
  rintro e w9 ⟨kt, bt', nt, tt, ut, x, rfl, hb9, hok⟩
  have HW9 := hide (hb9.row HW8.out)
  have HB10 := hide (HB9.out.trans hb9)
  clear hb9
  rcases hok with ⟨rfl, hm, hi, hl, _⟩ | ⟨rfl, rfl, rfl, rfl, rfl, rfl, _⟩
  · have hTT : (⟨(ltr kt bt' nt tt ut).toArray⟩ : ByteArray) = T := ba_ext hl
    have C11t := hide (fun W hW => text_yes hm hi.1 hi.2.1 hi.2.2.1 hi.2.2.2 W hW)
    rw [hTT] at C11t
    unfold ev at C11t
    have HRo := hide (setRow_heap w9 w7.heap.size _ (ec kt bt' nt tt ut) 25 (0, 0) HW9.out)
    have HB11 := hide (HB10.out.setRow (Nat.le_trans HB7.out.size (Nat.le_refl _)) (ec kt bt' nt tt ut))
    clear hm hi hl hTT
    go_wp2_with (first | (refine wpList_store_row rfl 25 _ _ rfl w7.heap.size (ec kt bt' nt tt ut) rfl rfl 25 _ HW9.out info25 rfl (ec_one _ _ _ _ _) ?_) | (refine wpList_load_row rfl 25 _ rfl w7.heap.size rfl 25 (ec kt bt' nt tt ut) (0, 0) _ HRo.out Tryd.underlying25 rfl info25 ?_) | (go_at_call 11; refine (C11t.out _ (HG.out.next HB11.out)).mono ?_; rintro e w10 ⟨rfl, hb10⟩; have HB12 := hide (HB11.out.trans hb10)) | (go_at_call 12; refine (C12.out _ (HG.out.next HB12.out)).mono ?_; rintro e w11 ⟨rfl, hb11⟩))
    go_ret
    exact ⟨rfl, HB12.out.trans hb11⟩
  · have HB11 := hide (HB10.out.setRow (Nat.le_trans HB7.out.size (Nat.le_refl _)) (ec 0 false 0 ⟨#[]⟩ 0))
    go_wp2_with (first | (refine wpList_store_row rfl 25 _ _ rfl w7.heap.size (ec 0 false 0 ⟨#[]⟩ 0) rfl rfl 25 _ HW9.out info25 rfl (ec_one _ _ _ _ _) ?_) | (go_at_call 12; refine (C12.out _ (HG.out.next HB11.out)).mono ?_; rintro e w11 ⟨rfl, hb11⟩))
    go_ret
    exact ⟨rfl, HB11.out.trans hb11⟩
set_option maxHeartbeats 4000000 in
set_option maxRecDepth 100000 in
theorem back_C1 (k : Int) (b : Bool) (n : Int) (s : ByteArray) (u : Int) (k' : Int) (b' : Bool) (n' : Int) (s' : ByteArray) (u' : Int) (S T Z : ByteArray) (hra : inR n u) (hrb : inR n' u') (hS : S.size ≤ 140737488351232) (hT : T.size ≤ 140737488351232) (hZ : Z.size ≤ 140737488351232) (ha : ¬ mayV k b n s u) (hrd : (rVal S).2.2 = 0) (w : World) (hG : Gl w) :
    Calls Tryd.prog 7 #[ev k b n s u, ev k' b' n' s' u', .string S, .string T, .string Z] w fun e w' => e = .returned (.bool true) ∧ Bel w w' := by
  have HG := hide hG
  have HS1 := hide ((S5.first k b n s u w).alloc (.cells #[.int .u8 k', .bool b', .int .i64 n', .string s', .int .u64 u'] 25))
  have HS2 := hide (S5.second k' b' n' s' u' w (.cells #[.int .u8 k, .bool b, .int .i64 n, .string s, .int .u64 u] 25))
  have HB0 := hide (((Bel.refl w).alloc (.cells #[.int .u8 k, .bool b, .int .i64 n, .string s, .int .u64 u] 25)).alloc (.cells #[.int .u8 k', .bool b', .int .i64 n', .string s', .int .u64 u'] 25))
  have C10a := hide (fun W => bytes_no ha W)
  have C15 := hide (fun W => read_any S (by omega) W)
  have C17 := hide (fun W hW => readText_any T (by omega) W hW)
  have C12 := hide (fun W hW => alive_any W hW)
  have hone := rVal_one S hrd
  obtain ⟨⟨⟨kv, bv, nv, tv, uv⟩, rest, ev0⟩, hv⟩ : ∃ v, v = rVal S := ⟨_, rfl⟩
  rw [← hv] at C15 hrd hone
  obtain rfl : ev0 = 0 := hrd
  obtain ⟨V, hV⟩ : ∃ V : ByteArray, V = ⟨(byt kv bv nv tv uv).toArray⟩ := ⟨_, rfl⟩
  have C10v := hide (fun W => bytes_yes hone.1 hone.2.1.1 hone.2.1.2.1 hone.2.1.2.2.1 hone.2.1.2.2.2 W)
  have hVr : V ++ rest = S := by rw [hV]; exact hone.2.2
  have hVs : ¬ (9223372036854775807 < V.size + rest.size) := by
    have := congrArg ByteArray.size hVr
    rw [ByteArray.size_append] at this
    omega
  simp only at C10v
  rw [← hV] at C10v
  clear hone hv hV
  unfold rv at C15
  simp only at C15
  clear ha hra hrb hG
  unfold ev at C10a C15 C17 C10v ⊢
  go_enter Tryd.func7, Tryd.ntmps7
  go_wp2_with fail
  refine (C10a.out _).mono ?_
  rintro e w1 ⟨rfl, hb1⟩
  have HA1 := hide (HS1.out.next hb1)
  have HA2 := hide (HS2.out.next hb1)
  have HB1 := hide (HB0.out.trans hb1)
  clear hb1
  go_wp2_with fail
  refine (C15.out _).mono ?_
  rintro e w7 ⟨rfl, hb7⟩
  have HB7 := hide (HB1.out.trans hb7)
  clear hb7
  have HR7 := hide (S5.first kv bv nv tv uv w7)
  have HW7 := hide (heap_alloc_new w7 (.cells #[.int .u8 kv, .bool bv, .int .i64 nv, .string tv, .int .u64 uv] 25))
  have HB8 := hide (HB7.out.alloc (.cells #[.int .u8 kv, .bool bv, .int .i64 nv, .string tv, .int .u64 uv] 25))
  obtain ⟨r0, r1, r2, r3, r4⟩ := HR7.out
  go_wp2_with fail
  refine (C10v.out _).mono ?_
  rintro e w8 ⟨rfl, hb8⟩
  have HW8 := hide (hb8.row HW7.out)
  have HB9 := hide (HB8.out.trans hb8)
  clear hb8
  go_wp2_with fail
  refine (C17.out _ (HG.out.next HB9.out)).mono ?_
  rintro e w9 ⟨kt, bt', nt, tt, ut, x, rfl, hb9, hok⟩
  have HW9 := hide (hb9.row HW8.out)
  have HB10 := hide (HB9.out.trans hb9)
  clear hb9
  rcases hok with ⟨rfl, hm, hi, hl, _⟩ | ⟨rfl, rfl, rfl, rfl, rfl, rfl, _⟩
  · have hTT : (⟨(ltr kt bt' nt tt ut).toArray⟩ : ByteArray) = T := ba_ext hl
    have C11t := hide (fun W hW => text_yes hm hi.1 hi.2.1 hi.2.2.1 hi.2.2.2 W hW)
    rw [hTT] at C11t
    unfold ev at C11t
    have HRo := hide (setRow_heap w9 w7.heap.size _ (ec kt bt' nt tt ut) 25 (0, 0) HW9.out)
    have HB11 := hide (HB10.out.setRow (Nat.le_trans HB7.out.size (Nat.le_refl _)) (ec kt bt' nt tt ut))
    clear hm hi hl hTT
    go_wp2_with (first | (refine wpList_store_row rfl 25 _ _ rfl w7.heap.size (ec kt bt' nt tt ut) rfl rfl 25 _ HW9.out info25 rfl (ec_one _ _ _ _ _) ?_) | (refine wpList_load_row rfl 25 _ rfl w7.heap.size rfl 25 (ec kt bt' nt tt ut) (0, 0) _ HRo.out Tryd.underlying25 rfl info25 ?_) | (go_at_call 11; refine (C11t.out _ (HG.out.next HB11.out)).mono ?_; rintro e w10 ⟨rfl, hb10⟩; have HB12 := hide (HB11.out.trans hb10)) | (go_at_call 12; refine (C12.out _ (HG.out.next HB12.out)).mono ?_; rintro e w11 ⟨rfl, hb11⟩))
    go_ret
    exact ⟨rfl, HB12.out.trans hb11⟩
  · have HB11 := hide (HB10.out.setRow (Nat.le_trans HB7.out.size (Nat.le_refl _)) (ec 0 false 0 ⟨#[]⟩ 0))
    go_wp2_with (first | (refine wpList_store_row rfl 25 _ _ rfl w7.heap.size (ec 0 false 0 ⟨#[]⟩ 0) rfl rfl 25 _ HW9.out info25 rfl (ec_one _ _ _ _ _) ?_) | (go_at_call 12; refine (C12.out _ (HG.out.next HB11.out)).mono ?_; rintro e w11 ⟨rfl, hb11⟩))
    go_ret
    exact ⟨rfl, HB11.out.trans hb11⟩
set_option maxHeartbeats 4000000 in
set_option maxRecDepth 100000 in
theorem back_C0 (k : Int) (b : Bool) (n : Int) (s : ByteArray) (u : Int) (k' : Int) (b' : Bool) (n' : Int) (s' : ByteArray) (u' : Int) (S T Z : ByteArray) (hra : inR n u) (hrb : inR n' u') (hS : S.size ≤ 140737488351232) (hT : T.size ≤ 140737488351232) (hZ : Z.size ≤ 140737488351232) (ha : ¬ mayV k b n s u) (hrd : (rVal S).2.2 ≠ 0) (w : World) (hG : Gl w) :
    Calls Tryd.prog 7 #[ev k b n s u, ev k' b' n' s' u', .string S, .string T, .string Z] w fun e w' => e = .returned (.bool true) ∧ Bel w w' := by
  have HG := hide hG
  have HS1 := hide ((S5.first k b n s u w).alloc (.cells #[.int .u8 k', .bool b', .int .i64 n', .string s', .int .u64 u'] 25))
  have HS2 := hide (S5.second k' b' n' s' u' w (.cells #[.int .u8 k, .bool b, .int .i64 n, .string s, .int .u64 u] 25))
  have HB0 := hide (((Bel.refl w).alloc (.cells #[.int .u8 k, .bool b, .int .i64 n, .string s, .int .u64 u] 25)).alloc (.cells #[.int .u8 k', .bool b', .int .i64 n', .string s', .int .u64 u'] 25))
  have C10a := hide (fun W => bytes_no ha W)
  have C15 := hide (fun W => read_any S (by omega) W)
  have C17 := hide (fun W hW => readText_any T (by omega) W hW)
  have C12 := hide (fun W hW => alive_any W hW)
  obtain ⟨⟨⟨kv, bv, nv, tv, uv⟩, rest, ev0⟩, hv⟩ : ∃ v, v = rVal S := ⟨_, rfl⟩
  rw [← hv] at C15 hrd
  have hev : (ev0 == 0) = false := ne_beq hrd
  clear hv hrd
  unfold rv at C15
  simp only at C15
  clear ha hra hrb hG
  unfold ev at C10a C15 C17 ⊢
  go_enter Tryd.func7, Tryd.ntmps7
  go_wp2_with fail
  refine (C10a.out _).mono ?_
  rintro e w1 ⟨rfl, hb1⟩
  have HA1 := hide (HS1.out.next hb1)
  have HA2 := hide (HS2.out.next hb1)
  have HB1 := hide (HB0.out.trans hb1)
  clear hb1
  go_wp2_with fail
  refine (C15.out _).mono ?_
  rintro e w7 ⟨rfl, hb7⟩
  have HB7 := hide (HB1.out.trans hb7)
  clear hb7
  have HR7 := hide (S5.first kv bv nv tv uv w7)
  have HW7 := hide (heap_alloc_new w7 (.cells #[.int .u8 kv, .bool bv, .int .i64 nv, .string tv, .int .u64 uv] 25))
  have HB8 := hide (HB7.out.alloc (.cells #[.int .u8 kv, .bool bv, .int .i64 nv, .string tv, .int .u64 uv] 25))
  obtain ⟨r0, r1, r2, r3, r4⟩ := HR7.out
  go_wp2_with fail
  have HW8 := HW7
  have HB9 := HB8
  refine (C17.out _ (HG.out.next HB9.out)).mono ?_
  rintro e w9 ⟨kt, bt', nt, tt, ut, x, rfl, hb9, hok⟩
  have HW9 := hide (hb9.row HW8.out)
  have HB10 := hide (HB9.out.trans hb9)
  clear hb9
  rcases hok with ⟨rfl, hm, hi, hl, _⟩ | ⟨rfl, rfl, rfl, rfl, rfl, rfl, _⟩
  · have hTT : (⟨(ltr kt bt' nt tt ut).toArray⟩ : ByteArray) = T := ba_ext hl
    have C11t := hide (fun W hW => text_yes hm hi.1 hi.2.1 hi.2.2.1 hi.2.2.2 W hW)
    rw [hTT] at C11t
    unfold ev at C11t
    have HRo := hide (setRow_heap w9 w7.heap.size _ (ec kt bt' nt tt ut) 25 (0, 0) HW9.out)
    have HB11 := hide (HB10.out.setRow (Nat.le_trans HB7.out.size (Nat.le_refl _)) (ec kt bt' nt tt ut))
    clear hm hi hl hTT
    go_wp2_with (first | (refine wpList_store_row rfl 25 _ _ rfl w7.heap.size (ec kt bt' nt tt ut) rfl rfl 25 _ HW9.out info25 rfl (ec_one _ _ _ _ _) ?_) | (refine wpList_load_row rfl 25 _ rfl w7.heap.size rfl 25 (ec kt bt' nt tt ut) (0, 0) _ HRo.out Tryd.underlying25 rfl info25 ?_) | (go_at_call 11; refine (C11t.out _ (HG.out.next HB11.out)).mono ?_; rintro e w10 ⟨rfl, hb10⟩; have HB12 := hide (HB11.out.trans hb10)) | (go_at_call 12; refine (C12.out _ (HG.out.next HB12.out)).mono ?_; rintro e w11 ⟨rfl, hb11⟩))
    go_ret
    exact ⟨rfl, HB12.out.trans hb11⟩
  · have HB11 := hide (HB10.out.setRow (Nat.le_trans HB7.out.size (Nat.le_refl _)) (ec 0 false 0 ⟨#[]⟩ 0))
    go_wp2_with (first | (refine wpList_store_row rfl 25 _ _ rfl w7.heap.size (ec 0 false 0 ⟨#[]⟩ 0) rfl rfl 25 _ HW9.out info25 rfl (ec_one _ _ _ _ _) ?_) | (go_at_call 12; refine (C12.out _ (HG.out.next HB11.out)).mono ?_; rintro e w11 ⟨rfl, hb11⟩))
    go_ret
    exact ⟨rfl, HB11.out.trans hb11⟩
theorem back_law (k : Int) (b : Bool) (n : Int) (s : ByteArray) (u : Int) (k' : Int) (b' : Bool) (n' : Int) (s' : ByteArray) (u' : Int) (S T Z : ByteArray) (hra : inR n u) (hrb : inR n' u') (hS : S.size ≤ 140737488351232) (hT : T.size ≤ 140737488351232) (hZ : Z.size ≤ 140737488351232) (w : World) (hG : Gl w) :
    Calls Tryd.prog 7 #[ev k b n s u, ev k' b' n' s' u', .string S, .string T, .string Z] w fun e w' => e = .returned (.bool true) ∧ Bel w w' := by
  by_cases hrd : (rVal S).2.2 = 0
  · by_cases ha : mayV k b n s u
    · by_cases hb : mayV k' b' n' s' u'
      · exact back_A1 k b n s u k' b' n' s' u' S T Z hra hrb hS hT hZ ha hb hrd w hG
      · exact back_B1 k b n s u k' b' n' s' u' S T Z hra hrb hS hT hZ ha hb hrd w hG
    · exact back_C1 k b n s u k' b' n' s' u' S T Z hra hrb hS hT hZ ha hrd w hG
  · by_cases ha : mayV k b n s u
    · by_cases hb : mayV k' b' n' s' u'
      · exact back_A0 k b n s u k' b' n' s' u' S T Z hra hrb hS hT hZ ha hb hrd w hG
      · exact back_B0 k b n s u k' b' n' s' u' S T Z hra hrb hS hT hZ ha hb hrd w hG
    · exact back_C0 k b n s u k' b' n' s' u' S T Z hra hrb hS hT hZ ha hrd w hG
end Go.Proofs.YtomnajoflcjnfaaDoor
