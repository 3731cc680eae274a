/- Majority. seated, others. -/
import Derived.Test.YtgofdkheffoilaaGreatOnc
namespace Go.Proofs.YtgofdkheffoilaaGreat
open Go.RowKit Go.Maps Go.Sort
theorem search_any {W : World} {a : Option Addr} {cap : Nat} {M : List Int} (h : Sl E3 W a M) (hr : Ris M) (hl : M.length ≤ 1000000) (x : Int) : Calls Tryz.prog 55 #[.slice a M.length cap, .int .i64 x] W fun e w' => ∃ i, e = .returned (.tuple #[.int .i64 i, .bool (decide (x ∈ M))]) ∧ Bel W w' := by
  by_cases h0 : M.length = 0
  · have hM : M = [] := List.eq_nil_of_length_eq_zero h0
    subst hM
    refine (Tryz.slices_BinarySearch_int_empty a cap x W).mono ?_
    rintro e w' ⟨rfl, hw⟩
    exact ⟨0, by simp, by rw [hw]; exact Bel.refl _⟩
  · obtain ⟨g, off, hg, hR⟩ := h
    obtain rfl := hg h0
    refine (Tryz.slices_BinarySearch_int g off M.length cap M x W (Nat.le_refl _) (by omega) (fun j hj => ?_) ?_).mono ?_
    · rw [E3_cell hR j hj]; simp [List.getD, List.getElem?_eq_getElem hj]
    · rw [List.take_length]
      exact pw_to hr (fun h => by omega)
    · rintro e w' ⟨rfl, q, hw⟩
      refine ⟨(List.countP (fun y => decide (y < x)) M : Nat), ?_, by rw [hw]; exact (Bel.refl _).drewN q⟩
      rw [List.take_length, List.contains_eq_mem]
set_option maxRecDepth 100000 in
set_option maxHeartbeats 1000000 in
theorem majority_any {W : World} {a b : Option Addr} {cap cap2 : Nat} {M I M' I' : List Int} (hM : Sl E3 W a M) (hI : Sl E3 W b I) (hlM : M.length ≤ 1000000) (hlI : I.length ≤ 1000000) (rM : Ris M') (mM : ∀ x, x ∈ M' ↔ x ∈ M) (rI : Ris I') (mI : ∀ x, x ∈ I' ↔ x ∈ I) (hlM' : M'.length ≤ 1000000) (hlI' : I'.length ≤ 1000000) : Calls Tryz.prog 18 #[.slice a M.length cap, .slice b I.length cap2] W fun e w' => e = .returned (.bool (decide (M'.length / 2 < I'.countP (fun x => decide (x ∈ M'))))) ∧ Bel W w' := by
  have H1 : Hid (Calls Tryz.prog 54 #[.slice a M.length cap] W fun e w' => ∃ a' c', e = .returned (.slice a' M'.length c') ∧ Sl E3 w' a' M' ∧ Bel W w') := hide ((once_any hM hlM).mono (fun e w' ⟨a', c', l', he, ho, hr, hm, hb⟩ => by
    have e1 : l' = M' := ris_ext _ _ hr rM (fun x => (hm x).trans (mM x).symm)
    subst e1
    exact ⟨a', c', he, (Sl.of ho).1, hb⟩))
  have H2 : Hid (∀ w1, Bel W w1 → Calls Tryz.prog 54 #[.slice b I.length cap2] w1 fun e w' => ∃ a' c', e = .returned (.slice a' I'.length c') ∧ Sl E3 w' a' I' ∧ Bel w1 w') := hide (fun w1 hb1 => (once_any (hI.bel hb1) hlI).mono (fun e w' ⟨a', c', l', he, ho, hr, hm, hb⟩ => by
    have e1 : l' = I' := ris_ext _ _ hr rI (fun x => (hm x).trans (mI x).symm)
    subst e1
    exact ⟨a', c', he, (Sl.of ho).1, hb⟩))
  have HRM := hide (And.intro rM hlM')
  generalize hbq : decide (M'.length / 2 < I'.countP (fun x => decide (x ∈ M'))) = bq
  have HBQ := hide hbq
  clear hbq
  clear hM hI rM mM rI mI
  generalize M.length = nM at *
  generalize I.length = nI at *
  generalize hnI : I'.length = n at *
  have HNI := hide hnI
  clear hnI
  go_enter Tryz.func18, Tryz.ntmps18
  go_wp2_with (first
    | (go_at_call 54; refine (unhide H1).mono ?_; rintro e w1 ⟨a1, c1, rfl, hs1, hb1⟩; have HS1 := hide (And.intro hs1 hb1); have H3 := hide ((unhide H2) _ hb1); clear hs1 hb1 H1 H2)
    | (go_at_call 54; refine (unhide H3).mono ?_; rintro e w2 ⟨a2, c2, rfl, hs2, hb2⟩; have HS2 := hide (And.intro hs2 hb2); clear hs2 hb2 H3))
  have HM : Hid (∀ wr x, Bel w2 wr → Calls Tryz.prog 55 #[.slice a1 M'.length c1, .int .i64 x] wr fun e w' => ∃ i, e = .returned (.tuple #[.int .i64 i, .bool (decide (x ∈ M'))]) ∧ Bel wr w') := hide (fun wr x hb => search_any ((unhide HS1).1.bel ((unhide HS2).2.trans hb)) (unhide HRM).1 (unhide HRM).2 x)
  obtain ⟨g, off, hg, hR⟩ := (unhide HS2).1
  have HG := hide hg
  have HR := hide hR
  have HB : Hid (Bel W w2) := hide ((unhide HS1).2.trans (unhide HS2).2)
  clear hg hR
  generalize hmm : M'.length = m at *
  go_loopw [6, 16] (fun vh vk wr => ∃ (k : Nat), k ≤ n ∧ vk = .int .i64 k ∧ vh = .int .i64 ((I'.take k).countP (fun x => decide (x ∈ M'))) ∧ Hid (Bel w2 wr)) (fun _ vk _ => n - (intOf vk).toNat)
  case atStart => exact ⟨0, Nat.zero_le _, rfl, rfl, hide (Bel.refl _)⟩
  case round =>
    obtain ⟨k, hk, rfl, rfl, HBr⟩ := hrel
    have hc1 : (I'.take k).countP (fun x => decide (x ∈ M')) ≤ k := Nat.le_trans List.countP_le_length (by simp; omega)
    by_cases hlt : k < n
    · have hkl : k < I'.length := by rw [unhide HNI]; exact hlt
      obtain rfl := (unhide HG) (by rw [unhide HNI]; omega)
      have hkn : (k : Int) < n := by omega
      have r0 := (unhide HBr).cell (E3_cell (unhide HR) k hkl)
      have HD : Hid ((I'.take (k + 1)).countP (fun x => decide (x ∈ M')) = (I'.take k).countP (fun x => decide (x ∈ M')) + (if decide (I'[k] ∈ M') = true then 1 else 0)) := hide (by
        rw [List.take_add_one, List.getElem?_eq_getElem hkl, List.countP_append]
        simp [List.countP_cons])
      generalize I'[k] = x at *
      generalize (I'.take k).countP (fun x => decide (x ∈ M')) = c at *
      have HC := hide ((unhide HM) wr x (unhide HBr))
      cases hx : decide (x ∈ M') with
      | true =>
        rw [hx] at HC HD
        go_wp2_with (first
          | (go_at_call 55; refine (unhide HC).mono ?_; rintro e w3 ⟨i3, rfl, hb3⟩; have HB3 := hide ((unhide HBr).trans hb3); clear hb3))
        go_roundw
        case rel => exact ⟨k + 1, by omega, by go_num, by rw [unhide HD]; simp; try omega, HB3⟩
        case measure => simp [intOf]; omega
      | false =>
        rw [hx] at HC HD
        go_wp2_with (first
          | (go_at_call 55; refine (unhide HC).mono ?_; rintro e w3 ⟨i3, rfl, hb3⟩; have HB3 := hide ((unhide HBr).trans hb3); clear hb3))
        go_roundw
        case rel => exact ⟨k + 1, by omega, by go_num, by rw [unhide HD]; simp, HB3⟩
        case measure => simp [intOf]; omega
    · obtain rfl : k = n := by omega
      have HT : Hid (I'.take k = I') := hide (List.take_of_length_le (by rw [unhide HNI]; omega))
      rw [unhide HT] at hc1 ⊢
      generalize I'.countP (fun x => decide (x ∈ M')) = c at *
      have hc2 : (c : Int) ≤ 1000000 := by omega
      by_cases hq : m / 2 < c
      · have hq' : (m : Int) / 2 < c := by omega
        have HQ : Hid (bq = true) := hide (by rw [← unhide HBQ, decide_eq_true hq])
        clear hq
        go_wp2_with fail
        all_goals
          go_ret
          exact ⟨by rw [unhide HQ]; first | rfl | (simp; omega), (unhide HB).trans (unhide HBr)⟩
      · have hq' : ¬ ((m : Int) / 2 < c) := by omega
        have HQ : Hid (bq = false) := hide (by rw [← unhide HBQ, decide_eq_false hq])
        clear hq
        go_wp2_with fail
        all_goals
          go_ret
          exact ⟨by rw [unhide HQ]; first | rfl | (simp; omega), (unhide HB).trans (unhide HBr)⟩
end Go.Proofs.YtgofdkheffoilaaGreat
namespace Go.Proofs.YtgofdkheffoilaaGreat
open Go.RowKit Go.Maps Go.Sort
set_option maxRecDepth 100000 in
theorem seated_any {W : World} {n : Nat} {s : PP} {x : Px} (h : Sl E3 W x.aM (mem n)) (hn : n ≤ 64) : Calls Tryz.prog 52 #[.agg (pc n s x)] W fun e w' => e = .returned (.bool (decide (s.id ∈ mem n))) ∧ Bel W w' := by
  have HC : Hid (∀ w1, Bel W w1 → Calls Tryz.prog 98 #[.slice x.aM n x.cM, .int .i64 s.id] w1 fun e w' => e = .returned (.bool (decide (s.id ∈ mem n))) ∧ w' = w1) := hide (fun w1 hb => by
    have := contains_any (h.bel hb) x.cM s.id (by rw [mem_len]; omega)
    rwa [mem_len] at this)
  clear h hn
  go_enter Tryz.func52, Tryz.ntmps52
  go_wp2_with (first
    | (refine bx_box rfl 45 _ rfl (pc n s x) rfl ?_; intro b w0 hr0 hs0 hb0; obtain ⟨y0, y1, y2, y3, y4, y5, y6, y7, y8, y9, y10, y11, y12, y13, y14, y15, y16, y17⟩ := Bx.of hr0; have HB0 := hide hb0; clear hr0 hs0 hb0)
    | (go_at_call 98; refine ((unhide HC) _ (unhide HB0)).mono ?_; rintro e w9 ⟨rfl, hw9⟩; rw [hw9]; clear hw9))
  go_ret
  exact ⟨rfl, unhide HB0⟩
set_option maxRecDepth 100000 in
theorem notme_any {W : World} {b : Nat} {id : Int} (h : W.cell? ⟨b, 0, none⟩ = some (.int .i64 id)) (y : Int) : Calls Tryz.prog 133 #[.int .i64 y, .pointer (some ⟨b, 0, none⟩)] W fun e w' => e = .returned (.bool (y == id)) ∧ w' = W := by
  go_enter Tryz.func133, Tryz.ntmps133
  go_wp2_with fail
  go_ret
  exact ⟨rfl, rfl⟩
theorem En52 : ∀ args w, (callFunc 133 args).run Tryz.prog w = .ok (.enter 133 args) w := enters_of Tryz.func133 (by kernel_rfl) rfl
theorem delete_any {B : Nat} {w : World} {b g n cap : Nat} {id : Int} {cs : Array Value} {l : List Int} (hr : w.heap[b]? = some (.cells cs 45)) (hid : cs[0]? = some (.int .i64 id)) (hO : E3.O B w (.slice (some ⟨g, 0, none⟩) n cap) l) (hn : l.length = n) (hl : n ≤ 1000000) : Calls Tryz.prog 132 #[.slice (some ⟨g, 0, none⟩) n cap, .func (.func 133) #[] #[.pointer (some ⟨b, 0, none⟩)]] w fun e w' => e = .returned (.slice (some ⟨g, 0, none⟩) (l.filter fun x => !(x == id)).length cap) ∧ E3.O B w' (.slice (some ⟨g, 0, none⟩) (l.filter fun x => !(x == id)).length cap) (l.filter fun x => !(x == id)) ∧ Ch (fun i => i = g) w w' := by
  obtain ⟨hH, hcap, hg, hB⟩ := own_holdsE hO
  have hbg : b ≠ g := fun e => by
    obtain ⟨c, hc⟩ := hO.block (k := g) rfl
    rw [← e, hr] at hc
    injection (Option.some.inj hc) with _ h2
    exact absurd h2 (by decide)
  have hc : w.cell? ⟨b, 0, none⟩ = some (.int .i64 id) := (cell_of hr).trans hid
  have h := Tryz.slices_DeleteFunc (Value.int .i64) (fun x => rfl) (fun x => x == id) 133 #[.pointer (some ⟨b, 0, none⟩)] En52 (0 : Int) (fun w => by go_simp) g 0 cap l.toArray w ?_ ?_ hH (by simp; omega) (by simpa using hcap)
  · rw [show l.toArray.size = n by simpa using hn] at h
    refine h.mono ?_
    rintro e w' ⟨rfl, q, hw'⟩
    have hfl : (l.filter fun x => !(x == id)).length ≤ n := by rw [← hn]; exact List.length_filter_le _ _
    have ho3 := own_putE (q := q) (m := (l.filter fun x => !(x == id)).length) (G := (l.filter fun x => !(x == id)) ++ List.replicate (n - (l.filter fun x => !(x == id)).length) 0) #[] hO hn (by simp; omega) hfl
    rw [List.take_left, grow_none, ← hw'] at ho3
    exact ⟨rfl, ho3, by rw [hw', ← grow_none (putRow _ _ _ _ _)]; exact ch_putE #[]⟩
  · intro W x hb
    have hcW : W.cell? ⟨b, 0, none⟩ = some (.int .i64 id) := Bel.cell hb hc
    refine (notme_any hcW x).mono ?_
    rintro e w' ⟨rfl, hw⟩
    exact ⟨rfl, 0, by rw [hw]; rfl⟩
  · intro n os dk x hdk
    have hcW : (sortWorld (Value.int .i64) w g 0 n dk os).cell? ⟨b, 0, none⟩ = some (.int .i64 id) := (cell_of ((ch_putE (w := w) (g := g) (q := n) (G := dk) os).row hr hbg)).trans hid
    refine (notme_any hcW x).mono ?_
    rintro e w' ⟨rfl, hw⟩
    exact ⟨rfl, 0, by rw [hw]; rfl⟩
set_option maxRecDepth 100000 in
set_option maxHeartbeats 1000000 in
theorem others_any {W : World} {n : Nat} {s : PP} {x : Px} (h : Sl E3 W x.aM (mem n)) (hn : n ≤ 64) (h1 : 1 ≤ n) : Calls Tryz.prog 100 #[.agg (pc n s x)] W fun e w' => ∃ a' c', e = .returned (.slice a' (oth n s.id).length c') ∧ Sl E3 w' a' (oth n s.id) ∧ Bel W w' := by
  have HC : Hid (∀ w1, Bel W w1 → Calls Tryz.prog 90 #[.slice x.aM n x.cM] w1 fun e w' => ∃ a' c', e = .returned (.slice a' n c') ∧ E3.O w1.heap.size w' (.slice a' n c') (mem n) ∧ Bel w1 w') := hide (fun w1 hb => clone3 (mem_len n) (h.bel hb) (by omega))
  clear h
  go_enter Tryz.func100, Tryz.ntmps100
  go_wp2_with (first
    | (refine bx_box rfl 45 _ rfl (pc n s x) rfl ?_; intro b w0 hr0 hs0 hb0; obtain ⟨y0, y1, y2, y3, y4, y5, y6, y7, y8, y9, y10, y11, y12, y13, y14, y15, y16, y17⟩ := Bx.of hr0; have HR0 := hide hr0; have HB0 := hide hb0; clear hr0 hs0 hb0)
    | (go_at_call 90; refine ((unhide HC) _ (unhide HB0)).mono ?_; rintro e w1 ⟨a1, c1, rfl, ho1, hb1⟩; have HO1 := hide (And.intro ho1 hb1); have HR1 := hide (hb1.row (unhide HR0)); clear ho1 hb1))
  obtain ⟨g, rfl⟩ : ∃ g, a1 = some ⟨g, 0, none⟩ := by
    obtain ⟨a', c', g', e, hh, _⟩ := (unhide HO1).1.shape
    injection e with e1
    exact ⟨g', e1.trans (hh (by rw [mem_len]; omega))⟩
  refine (delete_any (unhide HR1) rfl (unhide HO1).1 (mem_len n) (by omega)).mono ?_
  rintro e w2 ⟨rfl, ho2, hc2⟩
  have HF := hide (And.intro (Sl.of ho2).1 (bel_off ((unhide HB0).trans (unhide HO1).2) hc2 (Nat.le_trans (unhide HB0).size ((unhide HO1).1.lt (k := g) rfl).1)))
  clear ho2 hc2
  go_wp2_with fail
  go_ret
  exact ⟨_, _, rfl, (unhide HF).1, (unhide HF).2⟩
end Go.Proofs.YtgofdkheffoilaaGreat
