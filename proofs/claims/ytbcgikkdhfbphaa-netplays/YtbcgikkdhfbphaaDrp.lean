/- Drop, Double, Part. -/
import Derived.Test.YtbcgikkdhfbphaaTak
namespace Go.Proofs.Ytbcgikkdhfbphaa
open Go.RowKit Go.Maps
/-- What Drop leaves; it answers as Peek. -/
def PN.dropS (s : PN) (a b i : Int) : PN := if (s.peek a b i).2 = 0 then s.cut a b i.toNat else s
set_option maxRecDepth 100000 in
theorem drop_any {C : Nat} {w : World} {p : Nat} {s : PN} {M : Nat → Prop} (h : Nt C w p s M) (hC : C ≤ 900000) (a b i : Int) : Calls Try.prog 17 #[.pointer (some ⟨p, 0, none⟩), .int .i64 a, .int .i64 b, .int .i64 i] w fun e w' => e = .returned (.int .i64 (s.peek a b i).2) ∧ Aft (C + 1) w p M (s.dropS a b i) w' := by
  have HP := hide (peek_any h a b i)
  have HH := hide h
  unfold PN.dropS
  by_cases he : (s.peek a b i).2 = 0
  · obtain ⟨ha, hb, hi0, hil, hii, hp1⟩ := peek_ok he
    rw [he] at HP
    simp only [he, if_true]
    have HCU := hide (fun w1 (hb1 : Bel w w1) => cut_yes ((unhide HH).bel hb1) hC ha hb hil)
    generalize (s.peek a b i).1 = t at *
    rw [hii] at HCU
    clear h ha hb hil hii hp1 he
    go_enter Try.func17, Try.ntmps17
    go_wp2_with (first
      | (go_at_call 18; refine (unhide HP).mono ?_; rintro e w1 ⟨rfl, hb1⟩; have HB1 := hide hb1; clear hb1)
      | (go_at_call 45; refine ((unhide HCU) _ (unhide HB1)).mono ?_; rintro e w4 ⟨rfl, ha4⟩; have HA4 := hide ha4; clear ha4))
    go_ret
    exact ⟨rfl, (unhide HA4).from (unhide HB1)⟩
  · simp only [he, if_false]
    generalize (s.peek a b i).1 = t at *
    generalize (s.peek a b i).2 = er at *
    have her : (er == 0) = false := by simpa using he
    clear h he
    go_enter Try.func17, Try.ntmps17
    go_wp2_with (first
      | (go_at_call 18; refine (unhide HP).mono ?_; rintro e w1 ⟨rfl, hb1⟩; have HB1 := hide hb1; clear hb1))
    go_ret
    exact ⟨rfl, ((unhide HH).aft (unhide HB1)).mono (Nat.le_succ _)⟩
/-- What Double answers, and what it leaves. -/
def PN.doubE (s : PN) (a b i : Int) : Int := if (s.peek a b i).2 = 0 then (if s.L.length < 16384 then 0 else 6) else (s.peek a b i).2
def PN.doubS (s : PN) (a b i : Int) : PN := if (s.peek a b i).2 = 0 then (if s.L.length < 16384 then s.send a b (s.peek a b i).1 else s) else s
set_option maxRecDepth 100000 in
theorem doub_any {C : Nat} {w : World} {p : Nat} {s : PN} {M : Nat → Prop} (h : Nt C w p s M) (hC : C ≤ 900000) (a b i : Int) : Calls Try.prog 16 #[.pointer (some ⟨p, 0, none⟩), .int .i64 a, .int .i64 b, .int .i64 i] w fun e w' => e = .returned (.int .i64 (s.doubE a b i)) ∧ Aft (C + 1) w p M (s.doubS a b i) w' := by
  have HP := hide (peek_any h a b i)
  have HH := hide h
  unfold PN.doubE PN.doubS
  by_cases he : (s.peek a b i).2 = 0
  · obtain ⟨ha, hb, hi0, hil, hii, hp1⟩ := peek_ok he
    rw [he] at HP
    simp only [he, if_true]
    by_cases hL : s.L.length < 16384
    · simp only [hL, if_true]
      have HCU := hide (fun w1 (hb1 : Bel w w1) => lay_yes ((unhide HH).bel hb1) hC hL ha hb (s.peek a b i).1)
      generalize (s.peek a b i).1 = t at *
      clear h ha hb hil hii hp1 he hL
      go_enter Try.func16, Try.ntmps16
      go_wp2_with (first
        | (go_at_call 18; refine (unhide HP).mono ?_; rintro e w1 ⟨rfl, hb1⟩; have HB1 := hide hb1; clear hb1)
        | (go_at_call 44; refine ((unhide HCU) _ (unhide HB1)).mono ?_; rintro e w4 ⟨rfl, ha4⟩; have HA4 := hide ha4; clear ha4))
      go_ret
      exact ⟨rfl, (unhide HA4).from (unhide HB1)⟩
    · simp only [hL, if_false]
      have HCU := hide (fun w1 (hb1 : Bel w w1) => lay_full ((unhide HH).bel hb1) (by have := h.len; omega) a b (s.peek a b i).1)
      generalize (s.peek a b i).1 = t at *
      clear h ha hb hil hii hp1 he hL
      go_enter Try.func16, Try.ntmps16
      go_wp2_with (first
        | (go_at_call 18; refine (unhide HP).mono ?_; rintro e w1 ⟨rfl, hb1⟩; have HB1 := hide hb1; clear hb1)
        | (go_at_call 44; refine ((unhide HCU) _ (unhide HB1)).mono ?_; rintro e w4 ⟨rfl, ha4⟩; have HA4 := hide ha4; clear ha4))
      go_ret
      exact ⟨rfl, ((unhide HH).aft ((unhide HB1).trans (unhide HA4))).mono (Nat.le_succ _)⟩
  · simp only [he, if_false]
    generalize (s.peek a b i).1 = t at *
    generalize (s.peek a b i).2 = er at *
    have her : (er == 0) = false := by simpa using he
    clear h he
    go_enter Try.func16, Try.ntmps16
    go_wp2_with (first
      | (go_at_call 18; refine (unhide HP).mono ?_; rintro e w1 ⟨rfl, hb1⟩; have HB1 := hide hb1; clear hb1))
    go_ret
    exact ⟨rfl, ((unhide HH).aft (unhide HB1)).mono (Nat.le_succ _)⟩
/-- The machines with the first k taken off the side. -/
def clr (ms : List Mc) (k : Nat) : List Mc := ms.mapIdx fun j m => if j < k then (m.1, m.2.1, false) else m
/-- The machines with just those of l on the side. -/
def sds (ms : List Mc) (l : List Int) : List Mc := ms.mapIdx fun j m => (m.1, m.2.1, l.contains ((j : Int) + 1))
theorem clr_len (ms : List Mc) (k : Nat) : (clr ms k).length = ms.length := by simp [clr]
theorem sds_len (ms : List Mc) (l : List Int) : (sds ms l).length = ms.length := by simp [sds]
theorem clr_zero (ms : List Mc) : clr ms 0 = ms := by
  apply List.ext_getElem
  · simp [clr]
  · intro i h1 h2
    simp [clr]
theorem clr_all (ms : List Mc) : clr ms ms.length = sds ms [] := by
  apply List.ext_getElem
  · simp [clr, sds]
  · intro i h1 h2
    rw [clr_len] at h1
    simp [clr, sds, h1]
theorem clr_next (ms : List Mc) (k : Nat) (hk : k < (clr ms k).length) : (clr ms k).set k ((clr ms k)[k].1, (clr ms k)[k].2.1, false) = clr ms (k + 1) := by
  apply List.ext_getElem
  · simp [clr]
  · intro i h1 h2
    rw [List.getElem_set]
    by_cases e : k = i
    · subst e
      rw [if_pos rfl]
      simp [clr]
    · rw [if_neg e]
      have : (i < k) = (i < k + 1) := by simp; omega
      simp [clr, this]
theorem sds_next (ms : List Mc) (l : List Int) (j : Nat) (hj : j < (sds ms l).length) : (sds ms l).set j ((sds ms l)[j].1, (sds ms l)[j].2.1, true) = sds ms (l ++ [(j : Int) + 1]) := by
  apply List.ext_getElem
  · simp [sds]
  · intro i h1 h2
    rw [List.getElem_set]
    by_cases e : j = i
    · subst e
      rw [if_pos rfl]
      simp [sds]
    · rw [if_neg e]

      simp [sds]
      omega
/-- What Part leaves; it answers as fault. -/
def PN.partS (s : PN) (l : List Int) : PN := if l.all s.mayB then ⟨sds s.ms l, s.L⟩ else s
set_option maxRecDepth 100000 in
set_option maxHeartbeats 1000000 in
theorem part_any {C : Nat} {w : World} {p : Nat} {s : PN} {M : Nat → Prop} (h : Nt C w p s M) {v : Value} {l : List Int} (hv : RI w v l) (hd : l.length ≠ 0 → ∀ k, v.ownBlock = some k → ¬ M k) (hl : l.length ≤ 1000000000000000) : Calls Try.prog 21 #[.pointer (some ⟨p, 0, none⟩), v] w fun e w' => e = .returned (.int .i64 (flt s l)) ∧ Aft C w p M (s.partS l) w' := by
  have HF := hide (fault_any h hv hl)
  have HH := hide h
  obtain ⟨a, cap, g, off, rfl, ha, hc⟩ := hv
  have HC := hide hc
  have HA := hide ha
  by_cases hall : l.all s.mayB = true
  · have e0 : flt s l = 0 := if_pos hall
    have eS : s.partS l = ⟨sds s.ms l, s.L⟩ := if_pos hall
    rw [e0] at HF ⊢
    rw [eS]
    obtain ⟨bm, cm, c0, hmr, hM, hne, hnew⟩ := h.mach
    have hfew := h.few
    have HNEW := hide hnew
    have HMR := hide hmr
    have HPL : Hid (p < w.heap.size) := hide (h.ltM p (by obtain ⟨_, _, _, _, _, q, _⟩ := h.co; exact q.mp))
    have HGM : Hid (l.length ≠ 0 → g ≠ bm) := hide (fun h0 e => by
      have := hd h0 g (by rw [ha h0]; rfl)
      rw [e] at this
      exact this hM)
    have HNE := hide hne
    have HALL := hide (List.all_eq_true.1 hall)
    have HMB := hide hM
    generalize hN : s.ms.length = N at *
    have HN := hide hN
    generalize hLl : l.length = n at hl HF ⊢
    have HL := hide hLl
    clear h hmr hnew hc ha hall e0 eS hne hd hM hN hLl
    go_enter Try.func21, Try.ntmps21
    go_wp2_with (first
      | (go_at_call 37; refine (unhide HF).mono ?_; rintro e w9 ⟨rfl, hw9⟩; rw [hw9]; clear hw9))
    go_loopw [6, 20] (fun _ vi wr => ∃ k : Nat, k ≤ N ∧ vi = .int .i64 k ∧ Hid (MR wr bm (clr s.ms k) ∧ Ch (fun i => i = bm) w wr)) (fun _ vi _ => N - (intOf vi).toNat)
    case atStart => exact ⟨0, Nat.zero_le _, rfl, hide ⟨by rw [clr_zero]; exact unhide HMR, Ch.refl _ _⟩⟩
    case round =>
      obtain ⟨k, hk, rfl, HO⟩ := hrel
      by_cases hlt : k < N
      · have hkl : k < (clr s.ms k).length := by rw [clr_len, unhide HN]; exact hlt
        have hset := (unhide HO).1.set2 hkl false
        rw [clr_next s.ms k hkl] at hset
        have HS := hide (And.intro hset ((unhide HO).2.set (ad := ⟨bm, k * 3 + 2, none⟩) (Or.inl rfl) (.bool false)))
        have hcell := ((unhide HO).1.cells hkl).2.2
        have hfr := (unhide HO).1.free (k * 3 + 2)
        have hp0 : wr.cell? ⟨p, 0, none⟩ = some (.slice (some ⟨bm, 0, none⟩) N cm) := by
          rw [World.cell?_of_block ((unhide HO).2.block p (unhide HPL) (unhide HNE))]
          exact c0
        have hkN : (k : Int) < N := by omega
        generalize (clr s.ms k)[k].2.2 = old at hcell
        clear hset
        go_wp2_with fail
        go_roundw
        case rel => exact ⟨k + 1, by omega, by go_num, HS⟩
        case measure => simp [intOf]; omega
      · obtain rfl : k = N := by omega
        have hm0 : MR wr bm (sds s.ms []) := by
          have := (unhide HO).1
          rw [← unhide HN, clr_all] at this
          exact this
        have HM0 := hide (And.intro hm0 (unhide HO).2)
        clear hm0
        go_wp2_with fail
        go_loopw [8, 33] (fun _ vi wr => ∃ j : Nat, j ≤ n ∧ vi = .int .i64 j ∧ Hid (MR wr bm (sds s.ms (l.take j)) ∧ Ch (fun i => i = bm) w wr)) (fun _ vi _ => n - (intOf vi).toNat)
        case atStart => exact ⟨0, Nat.zero_le _, rfl, HM0⟩
        case round =>
          obtain ⟨j, hj, rfl, HO2⟩ := hrel
          by_cases hlt2 : j < n
          · have hjl : j < l.length := by rw [unhide HL]; exact hlt2
            obtain rfl := (unhide HA) (by rw [unhide HL]; omega)
            have hgb := (unhide HGM) (by rw [unhide HL]; omega)
            have hcx := (unhide HC) j hjl
            have hcx' : wr.cell? ⟨g, off + j, none⟩ = some (.int .i64 l[j]) := by
              rw [World.cell?_of_block ((unhide HO2).2.block g (World.block_lt_of_cell? _ _ hcx) hgb)]
              exact hcx
            obtain ⟨x, hx, hxe⟩ := (mayB_iff.1 ((unhide HALL) l[j] (List.getElem_mem hjl))).at
            rw [hxe] at hcx'
            have hxl : x < (sds s.ms (l.take j)).length := by rw [sds_len]; exact hx
            have hset := (unhide HO2).1.set2 hxl true
            rw [sds_next s.ms (l.take j) x hxl, ← hxe, ← List.take_succ_eq_append_getElem hjl] at hset
            have HS := hide (And.intro hset ((unhide HO2).2.set (ad := ⟨bm, x * 3 + 2, none⟩) (Or.inl rfl) (.bool true)))
            have hcell := ((unhide HO2).1.cells hxl).2.2
            have hfr := (unhide HO2).1.free (x * 3 + 2)
            have hp0 : wr.cell? ⟨p, 0, none⟩ = some (.slice (some ⟨bm, 0, none⟩) k cm) := by
              rw [World.cell?_of_block ((unhide HO2).2.block p (unhide HPL) (unhide HNE))]
              exact c0
            have HAT := hide (at_any p bm k cm x wr hp0 (by rw [← unhide HN]; exact hx) hfew)
            generalize (sds s.ms (l.take j))[x].2.2 = old at hcell
            clear hset hcx hxe hp0 hx hxl
            go_wp2_with (first
              | (go_at_call 46; refine (unhide HAT).mono ?_; rintro e w9 ⟨rfl, hw9⟩; rw [hw9]; clear hw9))
            go_roundw
            case rel => exact ⟨j + 1, by omega, by go_num, HS⟩
            case measure => simp [intOf]; omega
          · obtain rfl : j = n := by omega
            have hm2 := (unhide HO2).1
            rw [List.take_of_length_le (by rw [unhide HL]; omega)] at hm2
            have HFIN := hide ((unhide HNEW) _ _ (by rw [sds_len]; exact unhide HN) hm2 (unhide HO2).2)
            clear hm2
            go_wp2_with fail
            go_ret
            exact ⟨rfl, M, unhide HFIN, fun i hi => Or.inl hi, (unhide HO2).2.mono (fun i hi => by rw [hi]; exact unhide HMB)⟩
  · have e0 : flt s l = 2 := if_neg hall
    have eS : s.partS l = s := if_neg hall
    rw [e0] at HF ⊢
    rw [eS]
    clear h hc ha hall e0 eS hd
    go_enter Try.func21, Try.ntmps21
    go_wp2_with (first
      | (go_at_call 37; refine (unhide HF).mono ?_; rintro e w9 ⟨rfl, hw9⟩; rw [hw9]; clear hw9))
    go_ret
    exact ⟨rfl, (unhide HH).aft (Bel.refl _)⟩
end Go.Proofs.Ytbcgikkdhfbphaa
