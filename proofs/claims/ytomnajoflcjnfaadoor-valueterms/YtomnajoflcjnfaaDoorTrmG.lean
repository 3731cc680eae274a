/- What the document's Terms returns, by what its Rising returns. -/
import Derived.Test.YtomnajoflcjnfaaDoorTrmE
namespace Go.Proofs.YtomnajoflcjnfaaDoor
open Go.RowKit
set_option maxHeartbeats 8000000 in
set_option maxRecDepth 100000 in
theorem dterms_by (rising_any : ∀ (l : List (List UInt8)) (v : Value) (w : World), RS w v l → l.length ≤ 16385 → Calls Tryd.prog 59 #[v] w fun e w' => trmR l w e w') (s : ByteArray) (hm : s.size ≤ 16384) (l : List (List UInt8)) (hl : gat s.data.toList [] [] = l) (w : World) : Calls Tryd.prog 24 #[.string s] w fun e w' => trmR l w e w' := by
  have HL0 := hide hl
  have RI := hide rising_any
  clear hl rising_any
  have hst := DG.start w s.data.toList
  go_enter Tryd.func24, Tryd.ntmps24
  go_wp2_with fail
  go_loopw [3, 4, 5] (fun vt vr i W => ∃ k : Nat, k ≤ s.size + 1 ∧ i = .int .i64 k ∧ DG w W s.data.toList k vt vr) (fun _ _ i _ => s.size + 1 - (intOf i).toNat)
  case atStart => exact ⟨0, Nat.zero_le _, rfl, hst⟩
  case round =>
    clear hst
    obtain ⟨k, hk, rfl, L, R, hD, hL, hR, hcase⟩ := hrel
    have HD := hide hD
    have HL := hide hL
    have HR := hide hR
    clear hL hR
    rcases hcase with ⟨hk2, hg⟩ | ⟨hk2, hg⟩
    · have HG := hide hg
      clear hg
      have hks : k ≤ s.size := by simpa using hk2
      clear hk hk2
      by_cases hlt : k < s.size
      · have hkl : k < s.data.toList.length := by simpa using hlt
        have hd := drop_next hkl
        obtain ⟨d, hd'⟩ : ∃ d, d = sm (s[k]) := ⟨_, rfl⟩
        have HN := hide (show gat (s.data.toList.drop k) L R = if inT d then gat (s.data.toList.drop (k + 1)) L (R ++ [d]) else gat (s.data.toList.drop (k + 1)) (flush L R) [] by rw [hd, gat, hd']; rfl)
        clear hd
        cases hi : inT d with
        | true =>
          rw [hi, if_pos rfl] at HN
          have hT := inT_yes hi
          by_cases hcap : 65 ≤ (s[k]).toNat ∧ (s[k]).toNat ≤ 90
          · have q0 : (65 : Int) ≤ ((s[k]).toNat : Int) := by omega
            have q1 : ((s[k]).toNat : Int) ≤ 90 := by omega
            have q2 := sm_cap hcap
            rw [← hd'] at q2
            clear hcap hi hd' hD
            rcases hT with ⟨t1, t2⟩ | ⟨t1, t2, t3⟩ | ⟨t1, t2⟩
            all_goals
              go_wp2_with (at_builtin; refine dr_run HD.out d (by have := HR.out; omega) rfl _ _ rfl rfl rfl ?_; intro g cap w1 hD1; have HD1 := hide hD1; clear hD1)
              go_roundw
              case rel => exact ⟨k + 1, by omega, by go_num, L, R ++ [d], HD1.out, by have := HL.out; omega, by have := HR.out; simp; omega, Or.inl ⟨by omega, HN.out.symm.trans HG.out⟩⟩
              case measure => simp [intOf]; omega
          · obtain rfl : d = s[k] := by rw [hd', sm, if_neg hcap]
            have hq : ((s[k]).toNat : Int) < 65 ∨ 90 < ((s[k]).toNat : Int) := by omega
            clear hcap hi hd' hD
            rcases hq with q0 | q0 <;> rcases hT with ⟨t1, t2⟩ | ⟨t1, t2, t3⟩ | ⟨t1, t2⟩
            all_goals first
              | (exfalso; omega)
              | (go_wp2_with (at_builtin; refine dr_run HD.out s[k] (by have := HR.out; omega) rfl _ _ rfl rfl rfl ?_; intro g cap w1 hD1; have HD1 := hide hD1; clear hD1)
                 go_roundw
                 case rel => exact ⟨k + 1, by omega, by go_num, L, R ++ [s[k]], HD1.out, by have := HL.out; omega, by have := HR.out; simp; omega, Or.inl ⟨by omega, HN.out.symm.trans HG.out⟩⟩
                 case measure => simp [intOf]; omega)
        | false =>
          rw [hi, if_neg (by simp)] at HN
          have hF := inT_no hi
          have HX : Hid ((k + 1 ≤ s.data.toList.length ∧ gat (s.data.toList.drop (k + 1)) (flush L R) [] = gat s.data.toList [] []) ∨ (k + 1 = s.data.toList.length + 1 ∧ flush L R = gat s.data.toList [] [])) := hide (Or.inl ⟨by omega, HN.out.symm.trans HG.out⟩)
          clear HN HG
          by_cases hcap : 65 ≤ (s[k]).toNat ∧ (s[k]).toNat ≤ 90
          · exfalso
            have q2 := sm_nat (s[k])
            rw [← hd', if_pos hcap] at q2
            omega
          · obtain rfl : d = s[k] := by rw [hd', sm, if_neg hcap]
            have hq : ((s[k]).toNat : Int) < 65 ∨ 90 < ((s[k]).toNat : Int) := by omega
            clear hcap hi hd' hD
            rcases HD.out.ends with ⟨rfl, hE⟩ | ⟨g, cap, rfl, hE⟩ | ⟨g, n, cap, T, rfl, e1, e2, e3, hfl, hcv⟩ | ⟨g, n, cap, T, rfl, e1, e3, hfl, hcv⟩
            · have HE := hide hE
              clear hE
              rcases hq with q0 | q0 <;> rcases hF with t1 | ⟨t1, t2⟩ | ⟨t1, t2⟩
              all_goals first
                | (exfalso; omega)
                | (go_wp2_with fail
                   go_roundw
                   case rel => exact ⟨k + 1, by omega, by go_num, flush L R, [], HE.out, by have := HL.out; have := flush_len L R; omega, by simp, HX.out⟩
                   case measure => simp [intOf]; omega)
            · have HE := hide hE
              clear hE
              rcases hq with q0 | q0 <;> rcases hF with t1 | ⟨t1, t2⟩ | ⟨t1, t2⟩
              all_goals first
                | (exfalso; omega)
                | (go_wp2_with fail
                   go_roundw
                   case rel => exact ⟨k + 1, by omega, by go_num, flush L R, [], HE.out, by have := HL.out; have := flush_len L R; omega, by simp, HX.out⟩
                   case measure => simp [intOf]; omega)
            · rw [hfl] at HX
              clear hfl
              rcases hq with q0 | q0 <;> rcases hF with t1 | ⟨t1, t2⟩ | ⟨t1, t2⟩
              all_goals first
                | (exfalso; omega)
                | (go_wp2_with (at_builtin; refine dr_text HD.out T (by have := HL.out; omega) rfl _ _ rfl rfl rfl ?_; intro g2 cap2 w1 hD1; have HD1 := hide hD1; clear hD1)
                   go_roundw
                   case rel => exact ⟨k + 1, by omega, by go_num, L ++ [T], [], HD1.out, by have := HL.out; simp; omega, by simp, HX.out⟩
                   case measure => simp [intOf]; omega)
            · rw [hfl] at HX
              clear hfl
              rcases hq with q0 | q0 <;> rcases hF with t1 | ⟨t1, t2⟩ | ⟨t1, t2⟩
              all_goals first
                | (exfalso; omega)
                | (go_wp2_with (at_builtin; refine dr_text HD.out T (by have := HL.out; omega) rfl _ _ rfl rfl rfl ?_; intro g2 cap2 w1 hD1; have HD1 := hide hD1; clear hD1)
                   go_roundw
                   case rel => exact ⟨k + 1, by omega, by go_num, L ++ [T], [], HD1.out, by have := HL.out; simp; omega, by simp, HX.out⟩
                   case measure => simp [intOf]; omega)
      · have hke : k = s.size := by omega
        have hd0 : s.data.toList.drop k = [] := List.drop_of_length_le (by simp; omega)
        have HX : Hid ((k + 1 ≤ s.data.toList.length ∧ gat (s.data.toList.drop (k + 1)) (flush L R) [] = gat s.data.toList [] []) ∨ (k + 1 = s.data.toList.length + 1 ∧ flush L R = gat s.data.toList [] [])) := hide (Or.inr ⟨by simp; omega, by rw [← HG.out, hd0, gat]⟩)
        clear HG hd0 hke hD
        rcases HD.out.ends with ⟨rfl, hE⟩ | ⟨g, cap, rfl, hE⟩ | ⟨g, n, cap, T, rfl, e1, e2, e3, hfl, hcv⟩ | ⟨g, n, cap, T, rfl, e1, e3, hfl, hcv⟩
        · have HE := hide hE
          clear hE
          all_goals first
            | (exfalso; omega)
            | (go_wp2_with fail
               go_roundw
               case rel => exact ⟨k + 1, by omega, by go_num, flush L R, [], HE.out, by have := HL.out; have := flush_len L R; omega, by simp, HX.out⟩
               case measure => simp [intOf]; omega)
        · have HE := hide hE
          clear hE
          all_goals first
            | (exfalso; omega)
            | (go_wp2_with fail
               go_roundw
               case rel => exact ⟨k + 1, by omega, by go_num, flush L R, [], HE.out, by have := HL.out; have := flush_len L R; omega, by simp, HX.out⟩
               case measure => simp [intOf]; omega)
        · rw [hfl] at HX
          clear hfl
          all_goals first
            | (exfalso; omega)
            | (go_wp2_with (at_builtin; refine dr_text HD.out T (by have := HL.out; omega) rfl _ _ rfl rfl rfl ?_; intro g2 cap2 w1 hD1; have HD1 := hide hD1; clear hD1)
               go_roundw
               case rel => exact ⟨k + 1, by omega, by go_num, L ++ [T], [], HD1.out, by have := HL.out; simp; omega, by simp, HX.out⟩
               case measure => simp [intOf]; omega)
        · rw [hfl] at HX
          clear hfl
          all_goals first
            | (exfalso; omega)
            | (go_wp2_with (at_builtin; refine dr_text HD.out T (by have := HL.out; omega) rfl _ _ rfl rfl rfl ?_; intro g2 cap2 w1 hD1; have HD1 := hide hD1; clear hD1)
               go_roundw
               case rel => exact ⟨k + 1, by omega, by go_num, L ++ [T], [], HD1.out, by have := HL.out; simp; omega, by simp, HX.out⟩
               case measure => simp [intOf]; omega)
    · have hke : k = s.size + 1 := by simpa using hk2
      rw [hg, HL0.out] at HD
      have hll : l.length ≤ 16385 := by rw [← HL0.out, ← hg]; have := HL.out; omega
      clear hk2 hg hD HL0
      go_wp2_with (go_at_call 59; refine (RI.out l u3 wr (rs_of HD.out.ot) hll).mono ?_; rintro e w2 ⟨v, l', rfl, h1, h2, h3, h4⟩)
      go_ret
      exact ⟨v, l', rfl, h1, Bel.trans HD.out.bel h2, h3, h4⟩
end Go.Proofs.YtomnajoflcjnfaaDoor
