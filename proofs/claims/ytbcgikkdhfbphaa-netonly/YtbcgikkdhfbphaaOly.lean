/- NetOnly's walk. -/
import Derived.Test.YtbcgikkdhfbphaaOnc
import Derived.Test.YtbcgikkdhfbphaaOpn
namespace Go.Proofs.Ytbcgikkdhfbphaa
open Go.RowKit Go.Maps
/-- The counts are those of the messages. -/
structure Iv (w W : World) (p b k : Nat) : Prop where
  ex : ∃ s, On (2 * k) w W p b s (fun x => cnt x s.L) ∧ s.ms.length = 3 ∧ ∀ x ∈ s.L, KeyOK 46 (pv x)
theorem wfA {w : World} {S : List Stp} (hok : ∀ s ∈ S, s.ok w) {k : Nat} (hk : k < S.length) : S[k].ok w := hok _ (List.getElem_mem hk)
theorem send_ok {s : PN} {a b : Int} {t : ByteArray} (h : s.sendE a b t = 0) : t.size ≤ 4194304 ∧ s.sendS a b t = ⟨s.ms, s.L ++ [(a, b, t)]⟩ := by
  refine ⟨?_, if_pos h⟩
  unfold PN.sendE at h
  split at h
  · split at h
    · omega
    · omega
  · omega
theorem send_no {s : PN} {a b : Int} {t : ByteArray} (h : s.sendE a b t ≠ 0) : s.sendS a b t = s := if_neg h
theorem doub_ok {s : PN} {a b i : Int} (h : s.doubE a b i = 0) : (s.peek a b i).2 = 0 ∧ s.doubS a b i = ⟨s.ms, s.L ++ [(a, b, (s.peek a b i).1)]⟩ ∧ (a, b, (s.peek a b i).1) ∈ s.L := by
  unfold PN.doubE at h
  split at h
  · rename_i h0
    split at h
    · rename_i h1
      refine ⟨h0, by unfold PN.doubS; rw [if_pos h0, if_pos h1]; rfl, ?_⟩
      obtain ⟨_, _, _, h2, _, h3⟩ := peek_ok h0
      rw [h3, List.getElem?_eq_getElem h2]
      exact qs_mem _ _ _ _ h2
    · omega
  · rename_i h0; exact absurd h h0
theorem doub_no {s : PN} {a b i : Int} (h : s.doubE a b i ≠ 0) : s.doubS a b i = s := by
  unfold PN.doubE at h
  unfold PN.doubS
  split at h
  · rename_i h0
    split at h
    · omega
    · rename_i h1; rw [if_pos h0, if_neg h1]
  · rename_i h0; rw [if_neg h0]
theorem take_ok {s : PN} {a b i : Int} (h : (s.takeR a b i).2 = 0) : s.parted a b = false ∧ (s.takeR a b i).1 ∈ s.L ∧ s.takeS a b i = ⟨s.ms, rem s.L a b i.toNat⟩ ∧ ∀ x, cnt x (rem s.L a b i.toNat) = cnt x s.L - one x (s.takeR a b i).1 := by
  have hS : s.takeS a b i = ⟨s.ms, rem s.L a b i.toNat⟩ := if_pos h
  unfold PN.takeR at h ⊢
  split at h
  · rename_i h0
    split at h
    · simp at h
    · rename_i h1
      obtain ⟨_, _, _, h2, _, h3⟩ := peek_ok h0
      rw [h3, List.getElem?_eq_getElem h2]
      refine ⟨by simpa using h1, ?_, hS, ?_⟩
      · rw [if_pos h0, if_neg h1]; exact qs_mem _ _ _ _ h2
      · rw [if_pos h0, if_neg h1]; exact fun x => cnt_rem x s.L a b _ h2
  · rename_i h0; exact absurd h h0
theorem take_no {s : PN} {a b i : Int} (h : (s.takeR a b i).2 ≠ 0) : s.takeS a b i = s := if_neg h
theorem part_L (s : PN) (l : List Int) : (s.partS l).L = s.L ∧ (s.partS l).ms.length = s.ms.length := by
  unfold PN.partS
  split
  · exact ⟨rfl, sds_len _ _⟩
  · exact ⟨rfl, rfl⟩
theorem upc_up (L : List Pk) (x : Pk) : upc (fun y => cnt y L) x (cnt x L + 1) = fun y => cnt y (L ++ [x]) := by
  funext y
  unfold upc
  rw [cnt_snoc]
  split
  · rename_i e; subst e; rw [one_self]
  · rename_i e; rw [one_ne e]; show cnt y L = cnt y L + 0; omega
theorem upc_down {c c' : Pk → Int} {x : Pk} (h : ∀ y, c' y = c y - one y x) : upc c x (c x - 1) = c' := by
  funext y
  unfold upc
  rw [h]
  split
  · rename_i e; subst e; rw [one_self]
  · rename_i e; rw [one_ne e]; omega
set_option maxRecDepth 100000 in
set_option maxHeartbeats 4000000 in
theorem only_law {S : List Stp} {a : Option Addr} {cap g off : Nat} (ha : S.length ≠ 0 → a = some ⟨g, off, none⟩) (w : World) (hr : RowS w g off S) (hok : ∀ s ∈ S, s.ok w) : Calls Try.prog 5 #[.slice a S.length cap] w fun e w' => e = .returned (.bool true) ∧ Bel w w' := by
  have HR := hide hr
  have HA := hide ha
  have HOK := hide hok
  have hmm := @run_makeMap Try.prog
  generalize hN : S.length = N
  have HN := hide hN
  clear hr ha hN hok
  go_enter Try.func5, Try.ntmps5
  go_wp2_with fail
  refine (new_own 1 3 (by omega) (by omega) w w (Bel.refl _)).mono ?_
  rintro e w1 ⟨p, rfl, ho⟩
  have H1 : Hid (Iv w (w1.alloc (.map #[] 0)) p w1.heap.size 0) := hide (by
    obtain ⟨M, h1, h2, h3⟩ := ho
    refine ⟨_, ⟨⟨M, h1.bel ((Bel.refl _).alloc _), h2, fun hm => absurd (h1.ltM _ hm) (by omega)⟩, h3.trans ((Bel.refl _).alloc _), Ct.new w1, h3.size⟩, nm_len _ _ _, fun x hx => by simp [pnew] at hx⟩)
  clear ho
  go_wp2_with fail
  generalize w1.heap.size = b at H1 ⊢
  clear hmm
  go_loopw [6] (fun vi wr => ∃ k : Nat, k ≤ N ∧ k ≤ 100 ∧ vi = .int .i64 k ∧ Hid (Iv w wr p b k)) (fun vi _ => 100 - (intOf vi).toNat)
  case atStart => exact ⟨0, Nat.zero_le _, Nat.zero_le _, rfl, H1⟩
  case round =>
    obtain ⟨k, hk, hk2, rfl, HO⟩ := hrel
    by_cases hlt : k < N ∧ k < 100
    · have hkN : (k : Int) < N := by omega
      have hk100 : (k : Int) < 100 := by omega
      have hkl : k < S.length := by rw [unhide HN]; exact hlt.1
      obtain rfl := (unhide HA) (by rw [unhide HN]; omega)
      obtain ⟨s, ht, l1, l2⟩ := (unhide HO).ex
      have hbw : Bel w wr := ht.bel
      obtain ⟨r0, r1, r2, r3, r4, r5⟩ := (unhide HR) k hkl
      have r0 := hbw.cell r0
      have r1 := hbw.cell r1
      have r2 := hbw.cell r2
      have r3 := hbw.cell r3
      have r4 := hbw.cell r4
      have r5 := hbw.cell r5
      have hsk := wfA (unhide HOK) hkl
      generalize S[k] = sk at *
      obtain ⟨s0, s1, s2, s3, s4, s5, side, s7⟩ := sk
      simp only [Stp.sv] at r0 r1 r2 r3 r4 r5
      have HSK := hide hsk
      obtain ⟨s6, hs6⟩ : ∃ n : Nat, n = side.length := ⟨_, rfl⟩
      rw [← hs6] at r5
      have HS6 := hide hs6
      have HT := hide ht
      have HL := hide (And.intro l1 l2)
      clear hlt hbw ht l1 l2 hsk hs6
      by_cases e0 : s0 = 0
      · subst e0
        have hbel : Bel wr (wr.alloc (.cells #[.int .i64 0, .int .i64 s1, .int .i64 s2, .int .i64 s3, .string s4, .slice s5 s6 s7] 34)) := (Bel.refl wr).alloc _
        have hnew := at_new wr (.cells #[.int .i64 0, .int .i64 s1, .int .i64 s2, .int .i64 s3, .string s4, .slice s5 s6 s7] 34)
        have D := (unhide HT).call2 (Nat.le_succ _) hbel (Nat.le_refl _) hnew (fun M h _ => send_any h (by omega) s1 s2 s4 (by have := (unhide HSK).tx; simp only at this; omega))
        have HD := hide D
        clear D hbel hnew
        go_wp2_with fail
        refine (unhide HD).mono ?_
        rintro e w2 ⟨rfl, h2, hB⟩
        by_cases he : s.sendE s1 s2 s4 = 0
        · obtain ⟨z1, z2⟩ := send_ok he
          have hkey : KeyOK 46 (pv (s1, s2, s4)) := key46 _ (unhide HSK).wa (unhide HSK).wb (by show s4.size ≤ maxLen; unfold maxLen; omega)
          rw [he]
          rw [z2] at h2
          have h2d := h2.to (Bel.refl w2).drew
          have hlook := h2d.ct.look hkey
          obtain ⟨st, w3, q1, q2, q3⟩ := h2d.ct.count (by omega) hkey
          obtain ⟨w4, q4, q5, q6⟩ := q3 (cnt (s1, s2, s4) s.L + 1)
          have hfin := h2d.count q6 q5
          rw [upc_up] at hfin
          have hc := cnt_in (s1, s2, s4) s.L
          have hlen : s.L.length ≤ 16384 := by obtain ⟨M, h1, _⟩ := (unhide HT).ex; exact h1.len
          have HF : Hid (Iv w w4 p b (k + 1)) := hide ⟨_, hfin.mono (by omega), (unhide HL).1, fun x hx => by
            rcases List.mem_append.1 hx with hx | hx
            · exact (unhide HL).2 x hx
            · simp at hx; rw [hx]; exact hkey⟩
          have c1 : w2.cell? ⟨wr.heap.size, 1, none⟩ = some (.int .i64 s1) := cell_of hB
          have c2 : w2.cell? ⟨wr.heap.size, 2, none⟩ = some (.int .i64 s2) := cell_of hB
          have c4 : w2.cell? ⟨wr.heap.size, 4, none⟩ = some (.string s4) := cell_of hB
          simp only [pv] at hlook q1 q2
          have hw : IntKind.i64.wrap (cnt (s1, s2, s4) s.L + 1) = cnt (s1, s2, s4) s.L + 1 := wrapI (by omega) (by omega)
          generalize cnt (s1, s2, s4) s.L = cc at *
          clear h2 h2d q3 q5 q6 hfin hB z1 z2 he HD hkey
          go_wp2_with fail
          go_region_law fail
          all_goals
            go_wp2_with fail
            exact ⟨⟨k + 1, by omega, by omega, by go_num, HF⟩, by simp [intOf]; omega⟩
        · have HF : Hid (Iv w w2 p b (k + 1)) := hide (by
            rw [send_no he] at h2
            exact ⟨_, h2.mono (by omega), (unhide HL).1, (unhide HL).2⟩)
          clear h2 hB HD
          generalize s.sendE s1 s2 s4 = ee at *
          go_wp2_with fail
          go_roundw
          case rel => exact ⟨k + 1, by omega, by omega, by go_num, HF⟩
          case measure => simp [intOf]; omega
      · have hs0 : (s0 == 0) = false := by simp [e0]
        by_cases e3 : s0 = 3
        · subst e3
          clear e0
          have hbel : Bel wr (wr.alloc (.cells #[.int .i64 3, .int .i64 s1, .int .i64 s2, .int .i64 s3, .string s4, .slice s5 s6 s7] 34)) := (Bel.refl wr).alloc _
          have hnew := at_new wr (.cells #[.int .i64 3, .int .i64 s1, .int .i64 s2, .int .i64 s3, .string s4, .slice s5 s6 s7] 34)
          have HP := hide (by obtain ⟨M, h1, _⟩ := (unhide HT).ex; exact peek_any (h1.bel hbel) s1 s2 s3)
          have HBN := hide (And.intro hbel hnew)
          clear hbel hnew
          by_cases he : s.doubE s1 s2 s3 = 0
          · obtain ⟨z1, z2, z3⟩ := doub_ok he
            rw [z1] at HP
            have HE := hide (And.intro he (And.intro z2 z3))
            obtain ⟨t, ht⟩ : ∃ t, t = (s.peek s1 s2 s3).1 := ⟨_, rfl⟩
            rw [← ht] at HP
            have HTT := hide ht
            clear he z1 z2 z3 ht
            go_wp2_with fail
            refine (unhide HP).mono ?_
            rintro e w2 ⟨rfl, hb2⟩
            have hnew2 := hb2.row (unhide HBN).2
            have c1 : w2.cell? ⟨wr.heap.size, 1, none⟩ = some (.int .i64 s1) := cell_of hnew2
            have c2 : w2.cell? ⟨wr.heap.size, 2, none⟩ = some (.int .i64 s2) := cell_of hnew2
            have c3 : w2.cell? ⟨wr.heap.size, 3, none⟩ = some (.int .i64 s3) := cell_of hnew2
            have HD := hide ((unhide HT).call2 (Nat.le_succ _) ((unhide HBN).1.trans hb2) (Nat.le_refl _) hnew2 (fun M h _ => doub_any h (by omega) s1 s2 s3))
            clear hnew2 hb2 HP
            go_wp2_with fail
            refine (unhide HD).mono ?_
            rintro e w3 ⟨rfl, h2, hB⟩
            rw [(unhide HE).2.1, ← unhide HTT] at h2
            rw [(unhide HE).1]
            have hkey : KeyOK 46 (pv (s1, s2, t)) := by rw [unhide HTT]; exact (unhide HL).2 _ (unhide HE).2.2
            have h2d := h2.to (Bel.refl w3).drew
            have hlook := h2d.ct.look hkey
            obtain ⟨st, w5, q1, q2, q3⟩ := h2d.ct.count (by omega) hkey
            obtain ⟨w4, q4, q5, q6⟩ := q3 (cnt (s1, s2, t) s.L + 1)
            have hfin := h2d.count q6 q5
            rw [upc_up] at hfin
            have hc := cnt_in (s1, s2, t) s.L
            have hlen : s.L.length ≤ 16384 := by obtain ⟨M, h1, _⟩ := (unhide HT).ex; exact h1.len
            have HF : Hid (Iv w w4 p b (k + 1)) := hide ⟨_, hfin.mono (by omega), (unhide HL).1, fun x hx => by
              rcases List.mem_append.1 hx with hx | hx
              · exact (unhide HL).2 x hx
              · simp at hx; rw [hx]; exact hkey⟩
            have d1 : w3.cell? ⟨wr.heap.size, 1, none⟩ = some (.int .i64 s1) := cell_of hB
            have d2 : w3.cell? ⟨wr.heap.size, 2, none⟩ = some (.int .i64 s2) := cell_of hB
            simp only [pv] at hlook q1 q2
            have hw : IntKind.i64.wrap (cnt (s1, s2, t) s.L + 1) = cnt (s1, s2, t) s.L + 1 := wrapI (by omega) (by omega)
            generalize cnt (s1, s2, t) s.L = cc at *
            clear h2 h2d q3 q5 q6 hfin hB HD hkey c1 c2 c3
            go_wp2_with fail
            go_region_law fail
            all_goals
              go_wp2_with fail
              exact ⟨⟨k + 1, by omega, by omega, by go_num, HF⟩, by simp [intOf]; omega⟩
          · have HE := hide he
            generalize s.peek s1 s2 s3 = pk at HP
            obtain ⟨pk1, pk2⟩ := pk
            clear he
            go_wp2_with fail
            refine (unhide HP).mono ?_
            rintro e w2 ⟨rfl, hb2⟩
            have hnew2 := hb2.row (unhide HBN).2
            have c1 : w2.cell? ⟨wr.heap.size, 1, none⟩ = some (.int .i64 s1) := cell_of hnew2
            have c2 : w2.cell? ⟨wr.heap.size, 2, none⟩ = some (.int .i64 s2) := cell_of hnew2
            have c3 : w2.cell? ⟨wr.heap.size, 3, none⟩ = some (.int .i64 s3) := cell_of hnew2
            have HD := hide ((unhide HT).call2 (Nat.le_succ _) ((unhide HBN).1.trans hb2) (Nat.le_refl _) hnew2 (fun M h _ => doub_any h (by omega) s1 s2 s3))
            clear hnew2 hb2 HP
            go_wp2_with fail
            refine (unhide HD).mono ?_
            rintro e w3 ⟨rfl, h2, hB⟩
            rw [doub_no (unhide HE)] at h2
            have HF : Hid (Iv w w3 p b (k + 1)) := hide ⟨_, h2.mono (by omega), (unhide HL).1, (unhide HL).2⟩
            have he := unhide HE
            generalize s.doubE s1 s2 s3 = ee at *
            clear h2 hB HD
            go_wp2_with fail
            exact ⟨⟨k + 1, by omega, by omega, by go_num, HF⟩, by simp [intOf]; omega⟩
        · have hs3 : (s0 == 3) = false := by simp [e3]
          by_cases e1 : s0 = 1
          · subst e1
            clear e0 e3
            have hbel : Bel wr (wr.alloc (.cells #[.int .i64 1, .int .i64 s1, .int .i64 s2, .int .i64 s3, .string s4, .slice s5 s6 s7] 34)) := (Bel.refl wr).alloc _
            have hnew := at_new wr (.cells #[.int .i64 1, .int .i64 s1, .int .i64 s2, .int .i64 s3, .string s4, .slice s5 s6 s7] 34)
            have HD := hide ((unhide HT).call2 (Nat.le_succ _) hbel (Nat.le_refl _) hnew (fun M h _ => take_any h (by omega) s1 s2 s3))
            clear hbel hnew
            go_wp2_with fail
            refine (unhide HD).mono ?_
            rintro e w2 ⟨rfl, h2, hB⟩
            have HH2 := hide h2
            have HBB := hide hB
            clear HD h2 hB
            obtain ⟨m, hm⟩ : ∃ m, m = (s.takeR s1 s2 s3).1 := ⟨_, rfl⟩
            rw [← hm]
            have HM := hide hm
            clear hm
            obtain ⟨m0, m1, m2⟩ := m
            simp only [pv]
            by_cases he : (s.takeR s1 s2 s3).2 = 0
            · rw [he]
              obtain ⟨z1, z2, z3, z4⟩ := take_ok he
              have HZ := hide (And.intro z1 (And.intro z2 (And.intro z3 z4)))
              clear z1 z2 z3 z4 he
              go_wp2_with (first
                | (refine store_pk rfl _ _ rfl (at_new w2 _) (m0, m1, m2) rfl rfl ?_; intro W5 hr5 hc5; have H5 := hide ((unhide HH2).off ((Bel.refl _).alloc _) hc5); have HB5 := hide (hc5.row (((Bel.refl w2).alloc (.cells #[.int .i64 0, .int .i64 0, .string ⟨#[]⟩] 46)).row (unhide HBB)) (by have := lt_of_some (unhide HBB); omega)); have HR5 := hide hr5; clear hr5 hc5))
              have hz3 := (unhide HZ).2.2.1
              have h5 := unhide H5
              rw [hz3] at h5
              have hkey : KeyOK 46 (pv (m0, m1, m2)) := by rw [unhide HM]; exact (unhide HL).2 _ (unhide HZ).2.1
              have hz4 : ∀ x, cnt x (rem s.L s1 s2 s3.toNat) = cnt x s.L - one x (m0, m1, m2) := by rw [unhide HM]; exact (unhide HZ).2.2.2
              have h5d := h5.to (Bel.refl W5).drew
              have hlook := h5d.ct.look hkey
              obtain ⟨st, w5, q1, q2, q3⟩ := h5d.ct.count (by omega) hkey
              obtain ⟨w4, q4, q5, q6⟩ := q3 (cnt (m0, m1, m2) s.L - 1)
              have hfin := h5d.count q6 q5
              rw [upc_down (c := fun x => cnt x s.L) (c' := fun x => cnt x (rem s.L s1 s2 s3.toNat)) hz4] at hfin
              have hc := cnt_in (m0, m1, m2) s.L
              have hc2 := cnt_in (m0, m1, m2) (rem s.L s1 s2 s3.toNat)
              have hc3 := hz4 (m0, m1, m2)
              rw [one_self] at hc3
              have hlen : s.L.length ≤ 16384 := by obtain ⟨M, h1, _⟩ := (unhide HT).ex; exact h1.len
              have hne : w2.heap.size ≠ b := by have := (unhide HH2).ct.lt; omega
              have hne2 : wr.heap.size ≠ b := by have := (unhide HT).ct.lt; omega
              have hr4 : w4.heap[w2.heap.size]? = some (.cells #[.int .i64 m0, .int .i64 m1, .string m2] 46) := q6.row (unhide HR5) hne
              have hb4 := q6.row (unhide HB5) hne2
              have hlook4 := hfin.ct.look hkey
              have HPA : Hid (Calls Try.prog 20 #[.pointer (some ⟨p, 0, none⟩), .int .i64 s1, .int .i64 s2] w4 fun e w' => e = .returned (.bool false) ∧ Iv w w' p b (k + 1)) := hide (by
                have hh := hfin.ask (fun M h => parted_any h s1 s2)
                have e1 : (PN.mk s.ms (rem s.L s1 s2 s3.toNat)).parted s1 s2 = false := (unhide HZ).1
                rw [e1] at hh
                refine hh.mono (fun e w' ⟨h1, h2⟩ => ⟨h1, _, h2.mono (by omega), (unhide HL).1, fun x hx => (unhide HL).2 x (rem_mem _ _ _ _ hx)⟩))
              have b0 : W5.cell? ⟨w2.heap.size, 0, none⟩ = some (.int .i64 m0) := cell_of (unhide HR5)
              have b1 : W5.cell? ⟨w2.heap.size, 1, none⟩ = some (.int .i64 m1) := cell_of (unhide HR5)
              have b2 : W5.cell? ⟨w2.heap.size, 2, none⟩ = some (.string m2) := cell_of (unhide HR5)
              have f0 : w4.cell? ⟨w2.heap.size, 0, none⟩ = some (.int .i64 m0) := cell_of hr4
              have f1 : w4.cell? ⟨w2.heap.size, 1, none⟩ = some (.int .i64 m1) := cell_of hr4
              have f2 : w4.cell? ⟨w2.heap.size, 2, none⟩ = some (.string m2) := cell_of hr4
              have c1 : w4.cell? ⟨wr.heap.size, 1, none⟩ = some (.int .i64 s1) := cell_of hb4
              have c2 : w4.cell? ⟨wr.heap.size, 2, none⟩ = some (.int .i64 s2) := cell_of hb4
              simp only [pv] at hlook q1 q2 hlook4
              have hw : IntKind.i64.wrap (cnt (m0, m1, m2) s.L - 1) = cnt (m0, m1, m2) s.L - 1 := wrapI (by omega) (by omega)
              generalize cnt (m0, m1, m2) s.L = cc at *
              generalize cnt (m0, m1, m2) (rem s.L s1 s2 s3.toNat) = dd at *
              have hdd : ¬ (dd < 0) := by omega
              clear h5 h5d q3 q5 q6 hfin hr4 hb4 hkey hz4 hz3 hc hc2 hc3 hlen hne hne2
              go_region_law fail
              all_goals
                go_wp2_with fail
                refine (unhide HPA).mono ?_
                rintro e w8 ⟨rfl, h8⟩
                have HF := hide h8
                clear h8
                go_wp2_with fail
                exact ⟨⟨k + 1, by omega, by omega, by go_num, HF⟩, by simp [intOf]; omega⟩
            · have HE := hide he
              generalize hee : (s.takeR s1 s2 s3).2 = ee at he
              clear hee
              go_wp2_with (first
                | (refine store_pk rfl _ _ rfl (at_new w2 _) (m0, m1, m2) rfl rfl ?_; intro W5 hr5 hc5; have H5 := hide ((unhide HH2).off ((Bel.refl _).alloc _) hc5); clear hr5 hc5))
              have h5 := unhide H5
              rw [take_no (unhide HE)] at h5
              have HF : Hid (Iv w W5 p b (k + 1)) := hide ⟨_, h5.mono (by omega), (unhide HL).1, (unhide HL).2⟩
              exact ⟨⟨k + 1, by omega, by omega, by go_num, HF⟩, by simp [intOf]; omega⟩
          · have hs1 : (s0 == 1) = false := by simp [e1]
            by_cases e5 : s0 = 5
            · subst e5
              clear e0 e3 e1
              have hbel : Bel wr (wr.alloc (.cells #[.int .i64 5, .int .i64 s1, .int .i64 s2, .int .i64 s3, .string s4, .slice s5 s6 s7] 34)) := (Bel.refl wr).alloc _
              have hnew := at_new wr (.cells #[.int .i64 5, .int .i64 s1, .int .i64 s2, .int .i64 s3, .string s4, .slice s5 s6 s7] 34)
              have HD := hide ((unhide HT).call2 (Nat.le_refl _) hbel (Nat.le_refl _) hnew (fun M h hM => part_any (v := .slice s5 s6 s7) (l := side) h (by
                have := (unhide HSK).ri
                simp only [Stp.sv] at this
                rw [← unhide HS6] at this
                obtain ⟨a1, cap1, g1, off1, q1, q2, q3⟩ := this
                exact ⟨a1, cap1, g1, off1, q1, q2, fun j hj => ((unhide HT).bel.trans hbel).cell (q3 j hj)⟩) (fun h0 kk hkk hm => absurd (hM kk hm) (by have := (unhide HSK).lt kk (by show (Value.slice s5 side.length s7).ownBlock = some kk; rw [← unhide HS6]; exact hkk) h0; omega)) (by have := (unhide HSK).sl; simp only at this; omega)))
              clear hbel hnew
              go_wp2_with fail
              refine (unhide HD).mono ?_
              rintro e w2 ⟨rfl, h2, hB⟩
              have HF : Hid (Iv w w2 p b (k + 1)) := hide ⟨_, by
                have h3 := h2.mono (C' := 2 * (k + 1)) (by omega)
                rw [← (part_L s side).1] at h3
                exact h3, by rw [(part_L s side).2]; exact (unhide HL).1, by rw [(part_L s side).1]; exact (unhide HL).2⟩
              generalize flt s side = ee
              clear h2 hB HD
              go_wp2_with fail
              exact ⟨⟨k + 1, by omega, by omega, by go_num, HF⟩, by simp [intOf]; omega⟩
            · have hs5 : (s0 == 5) = false := by simp [e5]
              clear e0 e3 e1 e5
              have HF : Hid (Iv w (wr.alloc (.cells #[.int .i64 s0, .int .i64 s1, .int .i64 s2, .int .i64 s3, .string s4, .slice s5 s6 s7] 34)) p b (k + 1)) := hide ⟨_, ((unhide HT).to ((Bel.refl wr).alloc _)).mono (by omega), (unhide HL).1, (unhide HL).2⟩
              go_wp2_with fail
              exact ⟨⟨k + 1, by omega, by omega, by go_num, HF⟩, by simp [intOf]; omega⟩
    · have hdone := hlt
      obtain ⟨s, ht, l1, l2⟩ := (unhide HO).ex
      have hlen : s.L.length ≤ 16384 := by obtain ⟨M, h1, _⟩ := ht.ex; exact h1.len
      have HML : Hid (∀ q ∈ s.L, (1 ≤ q.1 ∧ q.1 ≤ (s.ms.length : Int)) ∧ (1 ≤ q.2.1 ∧ q.2.1 ≤ (s.ms.length : Int))) := hide (by obtain ⟨M, h1, _⟩ := ht.ex; exact h1.may)
      have HW := hide (by obtain ⟨M, h1, _⟩ := ht.ex; exact wait_any h1 (by omega))
      have HL := hide l2
      have HT := hide (ht.mono (C' := 200) (by omega))
      have hx : ((k : Int) < N) ∧ ¬ ((k : Int) < 100) ∨ ¬ ((k : Int) < N) := by omega
      have HK2 := hide hk2
      clear ht l1 l2 hdone hlt HO hk2 hk
      rcases hx with ⟨h1, h2⟩ | h1
      all_goals
        go_wp2_with fail
        refine (unhide HW).mono ?_
        rintro e w2 ⟨v, rfl, hO, hb2⟩
        have hsh := wt_short s.ms.length s.L
        have HCW : Hid (∀ x, cnt x (wt s.ms.length s.L) = cnt x s.L) := hide (fun x => cnt_wt (unhide HML) x)
        have HMM : Hid (∀ x ∈ wt s.ms.length s.L, KeyOK 46 (pv x)) := hide (fun x hx => (unhide HL) x (wt_mem hx))
        generalize wt s.ms.length s.L = l at hO hsh HCW HMM
        obtain ⟨av, cv, gv, hv, hav, _, _⟩ := hO.shape
        subst hv
        generalize hKl : l.length = K at *
        have hbs : b < wr.heap.size := (unhide HT).ct.lt
        generalize wr.heap.size = base at hO hbs
        have HBS := hide hbs
        have HK := hide hKl
        have HAV := hide hav
        have HI0 : Hid (On 200 w w2 p b s (fun x => cnt x s.L - cnt x (l.take 0)) ∧ E46.O base w2 (.slice av K cv) l) := hide ⟨by
          have := (unhide HT).to hb2
          simpa [cnt] using this, hO⟩
        clear hO hb2 hav hKl HW hbs HT
        go_wp2_with fail
        go_loopw [13] (fun vi wq => ∃ j : Nat, j ≤ K ∧ vi = .int .i64 j ∧ Hid (On (200 + j) w wq p b s (fun x => cnt x s.L - cnt x (l.take j)) ∧ E46.O base wq (.slice av K cv) l)) (fun vi _ => K - (intOf vi).toNat)
        case atStart => exact ⟨0, Nat.zero_le _, rfl, HI0⟩
        case round =>
          obtain ⟨j, hj, rfl, HI⟩ := hrel
          by_cases hjK : j < K
          · have hjl : j < l.length := by rw [unhide HK]; exact hjK
            obtain rfl := (unhide HAV) (by omega)
            have hjK' : (j : Int) < K := by omega
            have hR : E46.R wr gv 0 l := by
              have ho := (unhide HI).2
              rw [← unhide HK] at ho
              exact ho.row
            have r0 : wr.cell? ⟨gv, j * 3, none⟩ = some (.int .i64 l[j].1) := by have := hR j hjl 0 _ rfl; simpa [E46] using this
            have r1 : wr.cell? ⟨gv, j * 3 + 1, none⟩ = some (.int .i64 l[j].2.1) := by have := hR j hjl 1 _ rfl; simpa [E46] using this
            have r2 : wr.cell? ⟨gv, j * 3 + 2, none⟩ = some (.string l[j].2.2) := by have := hR j hjl 2 _ rfl; simpa [E46] using this
            have hkey : KeyOK 46 (pv l[j]) := (unhide HMM) _ (List.getElem_mem hjl)
            have hnx : ∀ x, cnt x s.L - cnt x (l.take (j + 1)) = cnt x s.L - cnt x (l.take j) - one x l[j] := fun x => by rw [List.take_succ_eq_append_getElem hjl, cnt_snoc]; omega
            clear hR
            generalize l[j] = m at *
            have hc := cnt_in m s.L
            have hc2 := cnt_in m (l.take j)
            have hc3 : (l.take j).length ≤ 16384 := by rw [List.length_take]; omega
            have hd := (unhide HI).1.to (Bel.refl wr).drew
            have hlook := hd.ct.look hkey
            obtain ⟨st, w5, q1, q2, q3⟩ := hd.ct.count (by omega) hkey
            obtain ⟨w4, q4, q5, q6⟩ := q3 (cnt m s.L - cnt m (l.take j) - 1)
            have hfin := hd.count q6 q5
            rw [upc_down (c := fun x => cnt x s.L - cnt x (l.take j)) (c' := fun x => cnt x s.L - cnt x (l.take (j + 1))) hnx] at hfin
            have HF : Hid (On (200 + (j + 1)) w w4 p b s (fun x => cnt x s.L - cnt x (l.take (j + 1))) ∧ E46.O base w4 (.slice (some ⟨gv, 0, none⟩) K cv) l) := hide ⟨hfin, (unhide HI).2.at (fun i hi => q6.block i ((unhide HI).2.lt hi).2 (by have := ((unhide HI).2.lt hi).1; have := unhide HBS; omega))⟩
            obtain ⟨m0, m1, m2⟩ := m
            simp only [pv] at hlook q1 q2
            have hw : IntKind.i64.wrap (cnt (m0, m1, m2) s.L - cnt (m0, m1, m2) (l.take j) - 1) = cnt (m0, m1, m2) s.L - cnt (m0, m1, m2) (l.take j) - 1 := wrapI (by omega) (by omega)
            generalize cnt (m0, m1, m2) s.L - cnt (m0, m1, m2) (l.take j) = cc at *
            clear hd q3 q5 q6 hfin hnx hkey hc hc2 hc3
            go_wp2_with fail
            go_region_law fail
            all_goals
              go_wp2_with fail
              exact ⟨⟨j + 1, by omega, by go_num, HF⟩, by simp [intOf]; omega⟩
          · obtain rfl : j = K := by omega
            have HE : Hid (On (200 + j) w wr p b s (fun _ => 0)) := hide (by
              have h0 := (unhide HI).1
              rw [List.take_of_length_le (by rw [unhide HK]; omega)] at h0
              have e : (fun x => cnt x s.L - cnt x l) = fun _ => (0 : Int) := by funext x; rw [unhide HCW]; omega
              rw [e] at h0
              exact h0)
            obtain ⟨f, ⟨⟨D, hown, hD⟩, hfk⟩, hf0⟩ := (unhide HE).ct
            have HB : Hid (Bel w wr) := hide (unhide HE).bel
            have HD := hide hD
            have HF0 := hide hf0
            have HBS2 := hide (unhide HE).b0
            clear HI HE hD hfk hf0
            go_wp2_with (first
              | (at_range; refine wpList_range_own _ rfl _ 44 rfl 46 3 (Keyed.of_law K46) Try.underlying44 _ b _ _ rfl hown ?_; intro w0 hrg0 hg0 hs0)
              | go_in)
            have HB0 : Hid (Bel w w0) := hide ((unhide HB).trans (bel_of_grown hg0))
            have hX : w.heap.size ≤ wr.heap.size := (unhide HB).size
            generalize wr.heap.size = X at *
            clear hg0 hs0 hown
            go_loopw [15] (fun _ wq => ∃ (left : Lit → Bool) (cn : Nat), wq.ranges Try.prog 46 HV b X (200 + j) D left cn ∧ Hid (Bel w wq)) (fun _ wq => wq.rangeLeft b X)
            case atStart => exact ⟨_, _, hrg0, HB0⟩
            case round =>
              obtain ⟨left, cn, hrg, HBq⟩ := hrel
              go_wp2_with (first
                | (at_next; refine wpList_next_ranges _ rfl _ rfl 46 (Keyed.of_law K46) HV pv id (fun key kl hk => key46_inv ⟨kl, hk⟩) (fun v _ _ => ⟨v, rfl⟩) b X (200 + j) _ _ _ rfl hrg ?_ ?_)
                | go_in)
              · intro hc0 hl0
                go_wp2_with (first
                  | (go_at_call 10; refine (alive_any _).mono ?_; rintro e w7 ⟨rfl, hb7⟩; have HB7 := hide ((unhide HBq).trans hb7); clear hb7))
                go_ret
                exact ⟨rfl, unhide HB7⟩
              · intro xa xb xc c kl yd yp w3 cn2 hkey hlk hv hat hrg2 hlt hg2 hs2 hen
                have hc : c = .int .i64 0 := by
                  obtain ⟨e1, e2⟩ := (unhide HD) (xa, xb, xc) kl hkey
                  rw [has_true_of_atKey hat] at e1
                  obtain ⟨u, hu⟩ := Option.isSome_iff_exists.1 e1.symm
                  have h0 := (unhide HF0) (xa, xb, xc)
                  rw [hu] at h0
                  have h3 := e2 u hu yd
                  rw [hat] at h3
                  unfold HV at hv
                  simp only [Option.some.injEq, Prod.mk.injEq] at hv
                  rw [← hv.1] at h3
                  cases h3
                  exact h0
                subst hc
                have hen' : (Instr.entry (.pointer (some ⟨X, 0, none⟩))).run Try.prog w3 = .ok (.tuple #[.agg #[.int .i64 xa, .int .i64 xb, .string xc], .int .i64 0]) w3 := hen
                have HB3 : Hid (Bel w w3) := hide (bel_grown (unhide HBq) hg2 (fun i hi => by cases hi; exact hX))
                have HLT := hide hlt
                have HR2 := hide hrg2
                have HRG := hide hrg
                simp only [pv]
                clear hkey hlk hv hat hrg2 hlt hg2 hs2 hen hrg
                go_wp2_with fail
                go_roundw
                case rel => exact ⟨_, _, unhide HR2, HB3⟩
                case measure => rw [(unhide HR2).left_eq, (unhide HRG).left_eq]; exact unhide HLT
end Go.Proofs.Ytbcgikkdhfbphaa
