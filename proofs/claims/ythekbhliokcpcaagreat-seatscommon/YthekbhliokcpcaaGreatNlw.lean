/- Two majorities of members ahead and behind one change share one: plain. tesseraref10.Has. SeatsCommon's walk. -/
import Derived.Test.YthekbhliokcpcaaGreatNonc
import Derived.Test.YthekbhliokcpcaaGreatNal
namespace Go.Proofs.YthekbhliokcpcaaGreat
open Go.RowKit Go.Maps Go.Sort
theorem nodup_sub : ∀ (P U : List Int), P.Nodup → (∀ x ∈ P, x ∈ U) → P.length ≤ U.length
  | [], _, _, _ => Nat.zero_le _
  | x :: P, U, h, hs => by
    rw [List.nodup_cons] at h
    have hx := hs x List.mem_cons_self
    have := nodup_sub P (U.erase x) h.2 (fun y hy => (List.mem_erase_of_ne (a := y) (b := x) (fun e => h.1 (e ▸ hy))).2 (hs y (List.mem_cons_of_mem _ hy)))
    rw [List.length_erase_of_mem hx] at this
    have h0 : 0 < U.length := List.length_pos_iff.2 (fun e => by rw [e] at hx; cases hx)
    rw [List.length_cons]
    omega
theorem Ris.nodup' {l : List Int} (h : Ris l) : l.Nodup := pw_to h (fun h => by omega)
/-- Is more than half of M among I? -/
def majS (M I : List Int) : Bool := decide (M.length / 2 < I.countP (fun x => decide (x ∈ M)))
theorem majS_two {M N A B A' B' : List Int} {id : Int} (h : (id ∉ M ∧ N.length = M.length + 1 ∧ ∀ x, x ∈ N ↔ x ∈ M ∨ x = id) ∨ (id ∈ M ∧ N.length + 1 = M.length ∧ ∀ x, x ∈ N ↔ x ∈ M ∧ x ≠ id)) (hA : Ris A') (mA : ∀ x, x ∈ A' ↔ x ∈ A) (hB : Ris B') (mB : ∀ x, x ∈ B' ↔ x ∈ B) (h1 : majS M A' = true) (h2 : majS N B' = true) : ∃ x, x ∈ A ∧ x ∈ B ∧ x ∈ M ∧ x ∈ N := by
  refine Classical.byContradiction fun hn => ?_
  have k1 := of_decide_eq_true h1
  have k2 := of_decide_eq_true h2
  rw [List.countP_eq_length_filter] at k1 k2
  have hd : (A'.filter (fun x => decide (x ∈ M)) ++ B'.filter (fun x => decide (x ∈ N))).Nodup := by
    rw [List.nodup_append]
    refine ⟨hA.nodup'.filter _, hB.nodup'.filter _, fun a ha b hb e => ?_⟩
    subst e
    rw [List.mem_filter] at ha hb
    exact hn ⟨a, (mA a).1 ha.1, (mB a).1 hb.1, by simpa using ha.2, by simpa using hb.2⟩
  rcases h with ⟨hi, hl, hm⟩ | ⟨hi, hl, hm⟩
  · have := nodup_sub _ N hd (fun x hx => by
      rcases List.mem_append.1 hx with e | e
      · rw [List.mem_filter] at e; exact (hm x).2 (Or.inl (by simpa using e.2))
      · rw [List.mem_filter] at e; simpa using e.2)
    rw [List.length_append] at this
    omega
  · have := nodup_sub _ M hd (fun x hx => by
      rcases List.mem_append.1 hx with e | e
      · rw [List.mem_filter] at e; simpa using e.2
      · rw [List.mem_filter] at e; exact ((hm x).1 (by simpa using e.2)).1)
    rw [List.length_append] at this
    omega
/-- Its numbers rising, each once. -/
def srt (l : List Int) : List Int := Lib.compact (l.mergeSort fun x y => decide (x ≤ y))
theorem srt_len (l : List Int) : (srt l).length ≤ l.length := by
  refine nodup_sub _ _ (sorted_ris l).1.nodup' (fun x hx => ((sorted_ris l).2 x).1 hx)
theorem majority_s {W : World} {a b : Option Addr} {cap cap2 : Nat} {M I : List Int} (hM : Sl E3 W a M) (hI : Sl E3 W b I) (hlM : M.length ≤ 1000000) (hlI : I.length ≤ 1000000) : Calls Tryz.prog 18 #[.slice a M.length cap, .slice b I.length cap2] W fun e w' => e = .returned (.bool (majS (srt M) (srt I))) ∧ Bel W w' :=
  majority_any hM hI hlM hlI (sorted_ris M).1 (sorted_ris M).2 (sorted_ris I).1 (sorted_ris I).2 (Nat.le_trans (srt_len M) hlM) (Nat.le_trans (srt_len I) hlI)
set_option maxRecDepth 100000 in
set_option maxHeartbeats 2000000 in
theorem has_g {W : World} {a : Option Addr} {c : Nat} {l : List Int} (h : Sl E3 W a l) (x : Int) (hl : l.length ≤ 1000000) : Calls Tryz.prog 19 #[.slice a l.length c, .int .i64 x] W fun e w' => e = .returned (.bool (decide (x ∈ l))) ∧ w' = W := by
  obtain ⟨g, off, hg, hR⟩ := h
  generalize hn2 : l.length = n at *
  have HN := hide hn2
  have HG := hide hg
  have HR := hide hR
  have hn100 : n ≤ 1000000 := hl
  clear hn2 hg hR hl
  go_enter Tryz.func19, Tryz.ntmps19
  go_wp2_with fail
  go_loopw [5] (fun vk wr => ∃ (k : Nat), k ≤ n ∧ vk = .int .i64 k ∧ Hid (wr = W) ∧ Hid (x ∉ l.take k)) (fun vk _ => n - (intOf vk).toNat)
  case atStart => exact ⟨0, Nat.zero_le _, rfl, hide rfl, hide (by simp)⟩
  case round =>
    obtain ⟨k, hk, rfl, HW, HE⟩ := hrel
    have hwr := unhide HW
    subst hwr
    by_cases hlt : k < n
    · have hkl : k < l.length := by rw [unhide HN]; exact hlt
      obtain rfl := (unhide HG) (by omega)
      have hkn : (k : Int) < n := by omega
      have hk0 : (0 : Int) ≤ k := by omega
      have r0 := E3_cell (unhide HR) k hkl
      have HK : Hid (l[k]? = some l[k]) := hide (List.getElem?_eq_getElem hkl)
      generalize l[k] = y at *
      cases hd : (y == x) with
      | true =>
        have HF : Hid (decide (x ∈ l) = true) := hide (by
          have e := eq_of_beq hd
          subst e
          exact decide_eq_true (List.mem_of_getElem? (unhide HK)))
        go_wp2_with fail
        go_ret
        exact ⟨by rw [unhide HF]; rfl, rfl⟩
      | false =>
        have HF : Hid (x ∉ l.take (k + 1)) := hide (by
          rw [List.take_add_one, unhide HK, Option.toList_some, List.mem_append, List.mem_singleton]
          rintro (e | e)
          · exact (unhide HE) e
          · rw [e] at hd; simp at hd)
        go_wp2_with fail
        go_roundw
        case rel => exact ⟨k + 1, by omega, by go_num, hide trivial, HF⟩
        case measure => simp [intOf]; omega
    · obtain rfl : k = n := by omega
      have HF : Hid (decide (x ∈ l) = false) := hide (decide_eq_false (by have := unhide HE; rwa [List.take_of_length_le (by rw [unhide HN]; omega)] at this))
      go_wp2_with fail
      go_ret
      exact ⟨by rw [unhide HF]; rfl, rfl⟩
end Go.Proofs.YthekbhliokcpcaaGreat
namespace Go.Proofs.YthekbhliokcpcaaGreat
open Go.RowKit Go.Maps Go.Sort
set_option maxRecDepth 100000 in
set_option maxHeartbeats 4000000 in
theorem common_big {W : World} {a a2 a3 : Option Addr} {c c2 c3 n n2 n3 : Nat} {id : Int} (h : 64 < n ∨ 100 < n2 ∨ 100 < n3) : Calls Tryz.prog 6 #[.slice a n c, .int .i64 id, .slice a2 n2 c2, .slice a3 n3 c3] W fun e w' => e = .returned (.bool true) ∧ Bel W w' := by
  have HA := hide (fun w => alive_s (W := w))
  by_cases h1 : 64 < n
  · have q1 : (64 : Int) < (n : Int) := by omega
    clear h h1
    go_enter Tryz.func6, Tryz.ntmps6
    go_wp2_with (first
      | (go_at_call 14; refine ((unhide HA) _).mono ?_; rintro e w1 ⟨rfl, hb1⟩; have HB1 := hide hb1; clear hb1))
    go_ret
    exact ⟨rfl, unhide HB1⟩
  · have q1 : ¬ ((64 : Int) < (n : Int)) := by omega
    by_cases h2 : 100 < n2
    · have q2 : (100 : Int) < (n2 : Int) := by omega
      clear h h1 h2
      go_enter Tryz.func6, Tryz.ntmps6
      go_wp2_with (first
        | (go_at_call 14; refine ((unhide HA) _).mono ?_; rintro e w1 ⟨rfl, hb1⟩; have HB1 := hide hb1; clear hb1))
      go_ret
      exact ⟨rfl, unhide HB1⟩
    · have q2 : ¬ ((100 : Int) < (n2 : Int)) := by omega
      have q3 : (100 : Int) < (n3 : Int) := by omega
      clear h h1 h2
      go_enter Tryz.func6, Tryz.ntmps6
      go_wp2_with (first
        | (go_at_call 14; refine ((unhide HA) _).mono ?_; rintro e w1 ⟨rfl, hb1⟩; have HB1 := hide hb1; clear hb1))
      go_ret
      exact ⟨rfl, unhide HB1⟩
/-- How the law stands while it makes up the members behind the change. -/
structure Cm1 (W wr : World) (v : Value) (L : List Int) : Prop where
  bel : Bel W wr
  o : E3.O W.heap.size wr v L
section
variable {W wr w' : World} {v v' : Value} {L L' : List Int}
theorem Cm1.next (h : Cm1 W wr v L) (hb : Bel wr w') : Cm1 W w' v L := ⟨h.bel.trans hb, h.o.bel hb⟩
theorem Cm1.app (h : Cm1 W wr v L) (ho : E3.O W.heap.size w' v' L') (hg : wr.grownBy w' v.ownBlock) : Cm1 W w' v' L' :=
  ⟨((h.bel.ch (fun i => W.heap.size ≤ i)).grown hg (fun _ hk => Or.inl (h.o.lt hk).1)).below (Nat.le_refl _) (fun _ hi => hi), ho⟩
end
/-- The members behind the change. -/
def others (id : Int) (l : List Int) : List Int := l.filter fun y => !(y == id)
def after (id : Int) (l : List Int) : List Int := if (others id l).length = l.length then others id l ++ [id] else others id l
theorem srt_len_eq {l : List Int} (h : l.Nodup) : (srt l).length = l.length :=
  Nat.le_antisymm (srt_len l) (nodup_sub _ _ h (fun x hx => ((sorted_ris l).2 x).2 hx))
theorem after_spec {id : Int} {l : List Int} (hr : Ris l) : (id ∉ l ∧ (srt (after id l)).length = l.length + 1 ∧ ∀ x, x ∈ srt (after id l) ↔ x ∈ l ∨ x = id) ∨ (id ∈ l ∧ (srt (after id l)).length + 1 = l.length ∧ ∀ x, x ∈ srt (after id l) ↔ x ∈ l ∧ x ≠ id) := by
  have hno : (others id l).Nodup := hr.nodup'.filter _
  have hmo : ∀ x, x ∈ others id l ↔ x ∈ l ∧ x ≠ id := fun x => by
    unfold others
    rw [List.mem_filter]
    simp
  by_cases hid : id ∈ l
  · right
    have h1 : (id :: others id l).length ≤ l.length := nodup_sub _ _ (List.nodup_cons.2 ⟨fun h => ((hmo id).1 h).2 rfl, hno⟩) (fun x hx => by
      rcases List.mem_cons.1 hx with e | e
      · rw [e]; exact hid
      · exact ((hmo x).1 e).1)
    have h2 : l.length ≤ (id :: others id l).length := nodup_sub _ _ hr.nodup' (fun x hx => by
      by_cases e : x = id
      · rw [e]; exact List.mem_cons_self
      · exact List.mem_cons_of_mem _ ((hmo x).2 ⟨hx, e⟩))
    rw [List.length_cons] at h1 h2
    have ha : after id l = others id l := if_neg (by omega)
    rw [ha, srt_len_eq hno]
    exact ⟨hid, by omega, fun x => ((sorted_ris _).2 x).trans (hmo x)⟩
  · left
    have hof : others id l = l := by
      unfold others
      refine List.filter_eq_self.2 (fun y hy => ?_)
      simp only [Bool.not_eq_true', beq_eq_false_iff_ne]
      exact fun e => hid (e ▸ hy)
    have ha : after id l = l ++ [id] := by unfold after; rw [hof, if_pos rfl]
    have hnd : (l ++ [id]).Nodup := by
      rw [List.nodup_append]
      refine ⟨hr.nodup', List.nodup_cons.2 ⟨by simp, List.nodup_nil⟩, fun a ha b hb e => ?_⟩
      rw [List.mem_singleton] at hb
      exact hid (by rw [← hb, ← e]; exact ha)
    rw [ha, srt_len_eq hnd]
    refine ⟨hid, by simp, fun x => ((sorted_ris _).2 x).trans ?_⟩
    rw [List.mem_append, List.mem_singleton]
theorem aids_ris : ∀ (l : List Int) (b : Int), aids b l = true → (∀ x ∈ l, b < x) ∧ Ris l
  | [], _, _ => ⟨fun x hx => (by cases hx), List.Pairwise.nil⟩
  | x :: l, b, h => by
    unfold aids at h
    simp only [Bool.and_eq_true, Bool.not_eq_true', decide_eq_false_iff_not] at h
    obtain ⟨h1, h2⟩ := aids_ris l x h.2
    refine ⟨fun y hy => ?_, List.pairwise_cons.2 ⟨h1, h2⟩⟩
    rcases List.mem_cons.1 hy with e | e
    · rw [e]; omega
    · have := h1 y e; omega
def Cm1R (W : World) (id : Int) (M : List Int) (no : Nat) (vi vu : Value) (wr : World) : Prop := ∃ (k : Nat) (g : Option Addr) (cap : Nat) (L : List Int), k ≤ no ∧ vi = .int .i64 k ∧ vu = .slice g L.length cap ∧ Hid (L = others id (M.take k)) ∧ Hid (Cm1 W wr (.slice g L.length cap) L)
set_option maxRecDepth 100000 in
set_option maxHeartbeats 8000000 in
theorem common_law {W : World} {a a2 a3 : Option Addr} {c c2 c3 : Nat} {l A B : List Int} {id : Int} (h : Sl E3 W a l) (hA : Sl E3 W a2 A) (hB : Sl E3 W a3 B) : Calls Tryz.prog 6 #[.slice a l.length c, .int .i64 id, .slice a2 A.length c2, .slice a3 B.length c3] W fun e w' => e = .returned (.bool true) ∧ Bel W w' := by
  by_cases hbig : 64 < l.length ∨ 100 < A.length ∨ 100 < B.length
  · exact common_big hbig
  have HAL := hide (fun w => alive_s (W := w))
  have hln : l.length ≤ 64 := by omega
  have hlA : A.length ≤ 100 := by omega
  have hlB : B.length ≤ 100 := by omega
  have q1 : ¬ ((64 : Int) < (l.length : Int)) := by omega
  have q2 : ¬ ((100 : Int) < (A.length : Int)) := by omega
  have q3 : ¬ ((100 : Int) < (B.length : Int)) := by omega
  have HN := hide (new_g (id := 1) (wait := 1) (c := c) h (by omega))
  obtain ⟨gn, hgn⟩ : ∃ gn, gn = gnew 1 1 l := ⟨_, rfl⟩
  rw [← hgn] at HN
  have HGN := hide hgn
  have HA := hide hA
  have HB := hide hB
  have HLn := hide hln
  have HLA := hide hlA
  have HLB := hide hlB
  clear hbig h hA hB hgn hln hlA hlB
  generalize hn : l.length = n at *
  generalize hnA : A.length = nA at *
  generalize hnB : B.length = nB at *
  have HNl := hide hn
  have HNA := hide hnA
  have HNB := hide hnB
  clear hn hnA hnB
  go_enter Tryz.func6, Tryz.ntmps6
  go_wp2_with fail
  refine (unhide HN).mono ?_
  rintro e w1 ⟨hd, hb1⟩
  rcases hd with ⟨hmay, x1, rfl, hp1⟩ | ⟨hmay, rfl⟩
  · have hris : Ris l := by
      have h2 := (mem_ids (mayG_num hmay).2.1 (mayG_num hmay).2.2.1).2
      rw [unhide HGN] at h2
      exact (aids_ris l 0 h2).2
    have hMl : gn.M = l := by rw [unhide HGN]; rfl
    have HML : Hid (gn.M = l) := hide hMl
    have HMn : Hid (gn.M.length = n) := hide (by rw [hMl]; exact unhide HNl)
    have HRIS := hide hris
    have HP1 := hide hp1
    have HB1 := hide hb1
    clear hp1 hb1 hmay hris hMl
    have hids : (id < 1 ∨ 64 < id) ∨ (1 ≤ id ∧ id ≤ 64) := by omega
    rcases hids with hid | ⟨hid1, hid2⟩
    · by_cases hid1 : id < 1
      · clear hid
        go_wp2_with (first
          | go_skip
          | go_guarded
          | (refine bx_new rfl 31 rfl _ Tryz.zeroP ?_; intro b w4 hr4 hs4 hb4; have HQ := hide (And.intro hr4 (And.intro hs4 hb4)); clear hr4 hs4 hb4)
          | (refine bx_st rfl 31 (.tmp 9) _ rfl b (gc gn x1) _ rfl rfl (unhide HQ).1 (Tryz.sizeP _ _) rfl (gc_one _ _) ?_; intro w5 hr5 hc5; have hbb := bel_off (unhide HQ).2.2 hc5 (Nat.le_of_eq (unhide HQ).2.1); have HB2 := hide ((unhide HB1).trans hbb); clear hr5 hc5 hbb)
          | (go_at_call 14; refine ((unhide HAL) _).mono ?_; rintro e w6 ⟨rfl, hb6⟩; have HB3 := hide ((unhide HB2).trans hb6); clear hb6))
        go_ret
        exact ⟨rfl, unhide HB3⟩
      · have hid2 : 64 < id := by omega
        clear hid
        go_wp2_with (first
          | go_skip
          | go_guarded
          | (refine bx_new rfl 31 rfl _ Tryz.zeroP ?_; intro b w4 hr4 hs4 hb4; have HQ := hide (And.intro hr4 (And.intro hs4 hb4)); clear hr4 hs4 hb4)
          | (refine bx_st rfl 31 (.tmp 9) _ rfl b (gc gn x1) _ rfl rfl (unhide HQ).1 (Tryz.sizeP _ _) rfl (gc_one _ _) ?_; intro w5 hr5 hc5; have hbb := bel_off (unhide HQ).2.2 hc5 (Nat.le_of_eq (unhide HQ).2.1); have HB2 := hide ((unhide HB1).trans hbb); clear hr5 hc5 hbb)
          | (go_at_call 14; refine ((unhide HAL) _).mono ?_; rintro e w6 ⟨rfl, hb6⟩; have HB3 := hide ((unhide HB2).trans hb6); clear hb6))
        go_ret
        exact ⟨rfl, unhide HB3⟩
    · have hid3 : ¬ (id < 1) := by omega
      have hid4 : ¬ (64 < id) := by omega
      clear hid1 hid2
      go_wp2_with (first
        | go_skip
        | go_guarded
        | (refine bx_new rfl 31 rfl _ Tryz.zeroP ?_; intro b w4 hr4 hs4 hb4; have HQ := hide (And.intro hr4 (And.intro hs4 hb4)); clear hr4 hs4 hb4)
        | (refine bx_st rfl 31 (.tmp 9) _ rfl b (gc gn x1) _ rfl rfl (unhide HQ).1 (Tryz.sizeP _ _) rfl (gc_one _ _) ?_; intro w5 hr5 hc5; have hbb := bel_off (unhide HQ).2.2 hc5 (Nat.le_of_eq (unhide HQ).2.1); have HB2 := hide ((unhide HB1).trans hbb); have HP5 := hide ((unhide HP1).bel hbb); have HR5 := hide hr5; clear hr5 hc5 hbb HP1 HB1))
      have HC0 : Hid (Cm1 w5 w5 (.slice none 0 0) []) := hide ⟨Bel.refl _, El.O.nil _ _⟩
      have HSM : Hid (Sl E3 w5 x1.aM l) := hide (by have := (unhide HP5).gp.m; rwa [unhide HML] at this)
      have HSA : Hid (Sl E3 w5 a2 A) := hide ((unhide HA).bel (unhide HB2))
      have HSB : Hid (Sl E3 w5 a3 B) := hide ((unhide HB).bel (unhide HB2))
      have hc1 : w5.cell? ⟨b, 1, none⟩ = some (.slice x1.aM n x1.cM) := by have := (Bg.of (unhide HR5)).c1; rwa [unhide HMn] at this
      have HC1 := hide hc1
      clear HN HA HB hc1 HP5 HR5
      have hn64 : n ≤ 64 := unhide HLn
      go_loopw [12, 11] (Cm1R w5 id l n) (fun vi _ _ => n - (intOf vi).toNat)
      case atStart => exact ⟨0, none, 0, [], Nat.zero_le _, rfl, rfl, hide rfl, HC0⟩
      case round =>
        obtain ⟨k, g, cap, L, hk, rfl, rfl, HLk, HCr⟩ := hrel
        have y1 := (unhide HCr).bel.cell (unhide HC1)
        by_cases hlt : k < n
        · have hkn : (k : Int) < n := by omega
          have hk0 : (0 : Int) ≤ k := by omega
          have hkl : k < l.length := by rw [unhide HNl]; exact hlt
          obtain ⟨gm, off, hgm, hR⟩ := (unhide HSM).bel (unhide HCr).bel
          have ea := hgm (by omega)
          have r0 := E3_cell hR k hkl
          have HID : Hid (l[k]? = some l[k]) := hide (List.getElem?_eq_getElem hkl)
          rw [ea] at y1
          generalize l[k] = y at *
          have HTK : Hid (others id (l.take (k + 1)) = others id (l.take k) ++ (if y = id then [] else [y])) := hide (by
            unfold others
            rw [List.take_add_one, unhide HID, Option.toList_some, List.filter_append]
            congr 1
            by_cases e : y = id
            · rw [if_pos e, List.filter_cons_of_neg (by simp [e]), List.filter_nil]
            · rw [if_neg e, List.filter_cons_of_pos (by simpa using e), List.filter_nil])
          have HLT : Hid (L.length ≤ 64) := hide (by rw [unhide HLk]; unfold others; refine Nat.le_trans (List.length_filter_le _ _) ?_; rw [List.length_take]; omega)
          clear hgm hR ea hkl
          by_cases hyi : y = id
          · have hb1 : (y != id) = false := by simp [hyi]
            have hb2 : (y == id) = true := by simp [hyi]
            have HL2 : Hid (L = others id (l.take (k + 1))) := hide (by rw [unhide HTK, if_pos hyi, List.append_nil, unhide HLk])
            clear hyi
            go_wp2_with fail
            go_roundw
            case rel =>
              have hfin : ∀ v u : Value, v = .int .i64 ((k + 1 : Nat) : Int) → u = .slice g L.length cap → Cm1R w5 id l n v u wr := fun v u hv hu => ⟨k + 1, g, cap, L, by omega, hv, hu, HL2, HCr⟩
              first
                | exact hfin _ _ (by go_num) rfl
                | ((repeat apply Exists.intro); exact ⟨hfin _ _ (by go_num) rfl, rfl, rfl⟩)
            case measure => simp [intOf]; omega
          · have hb1 : (y != id) = true := by simp [hyi]
            have hb2 : (y == id) = false := by simp [hyi]
            obtain ⟨L', hL'⟩ : ∃ L', L' = L ++ [y] := ⟨_, rfl⟩
            have HL2 : Hid (L' = others id (l.take (k + 1))) := hide (by rw [unhide HTK, if_neg hyi, hL', unhide HLk])
            have HL' := hide hL'
            clear hyi hL'
            go_wp2_with (first
              | go_skip
              | go_guarded
              | (at_builtin; refine app1_el (E := E3) y L' (unhide HL') ((unhide HCr).next ((Bel.refl _).alloc _)).o ((unhide HCr).next ((Bel.refl _).alloc _)).bel.size _ _ (at_new _ _) (by have := unhide HLT; omega) rfl _ _ 22 rfl rfl rfl rfl ?_; intro g4 cap4 w6 ho4 hg4 hat4; have HC4 := hide (((unhide HCr).next ((Bel.refl _).alloc _)).app ho4 hg4); clear ho4 hg4 hat4))
            go_roundw
            case rel =>
              have hfin : ∀ v u : Value, v = .int .i64 ((k + 1 : Nat) : Int) → u = .slice (some ⟨g4, 0, none⟩) L'.length cap4 → Cm1R w5 id l n v u w6 := fun v u hv hu => ⟨k + 1, some ⟨g4, 0, none⟩, cap4, L', by omega, hv, hu, HL2, HC4⟩
              first
                | exact hfin _ _ (by go_num) rfl
                | ((repeat apply Exists.intro); exact ⟨hfin _ _ (by go_num) rfl, rfl, rfl⟩)
            case measure => simp [intOf]; omega
        · obtain rfl : k = n := by omega
          have hLL : L = others id l := by rw [unhide HLk, List.take_of_length_le (by rw [unhide HNl]; omega)]
          have hot : (others id l).length ≤ k := by unfold others; refine Nat.le_trans (List.length_filter_le _ _) ?_; rw [unhide HNl]; omega
          obtain ⟨mo, hmo⟩ : ∃ mo, mo = after id l := ⟨_, rfl⟩
          have hmo65 : mo.length ≤ 65 := by
            rw [hmo]
            unfold after
            split
            · rw [List.length_append]; show _ + 1 ≤ _; omega
            · omega
          have HSP := hide (after_spec (id := id) (unhide HRIS))
          rw [← hmo] at HSP
          obtain ⟨b1, hb1⟩ : ∃ b1, b1 = majS (srt l) (srt A) := ⟨_, rfl⟩
          obtain ⟨b2, hb2⟩ : ∃ b2, b2 = majS (srt mo) (srt B) := ⟨_, rfl⟩
          have HMA : Hid (∀ w', Bel w5 w' → Calls Tryz.prog 18 #[.slice x1.aM k x1.cM, .slice a2 nA c2] w' fun e w'' => e = .returned (.bool b1) ∧ Bel w' w'') := hide (fun w' hb => by
            have := majority_s (cap := x1.cM) (cap2 := c2) ((unhide HSM).bel hb) ((unhide HSA).bel hb) (by rw [unhide HNl]; omega) (by rw [unhide HNA]; have := unhide HLA; omega)
            rw [unhide HNl, unhide HNA, ← hb1] at this
            exact this)
          have HMB : Hid (∀ w' g cap, Cm1 w5 w' (.slice g mo.length cap) mo → Calls Tryz.prog 18 #[.slice g mo.length cap, .slice a3 nB c3] w' fun e w'' => e = .returned (.bool b2) ∧ Bel w' w'') := hide (fun w' g cap hc => by
            have := majority_s (cap := cap) (cap2 := c3) (Sl.of hc.o).1 ((unhide HSB).bel hc.bel) (by omega) (by rw [unhide HNB]; have := unhide HLB; omega)
            rw [unhide HNB, ← hb2] at this
            exact this)
          have HAg : Hid (b1 = true → b2 = true → ∃ x, x ∈ A ∧ x ∈ B ∧ x ∈ l ∧ x ∈ mo) := hide (fun e1 e2 => by
            rw [hb1] at e1
            rw [hb2] at e2
            have hl := (sorted_ris l).2
            have hm := (sorted_ris mo).2
            have hll : (srt l).length = l.length := srt_len_eq (unhide HRIS).nodup'
            obtain ⟨x, h1, h2, h3, h4⟩ := majS_two (M := srt l) (N := srt mo) (A := A) (B := B) (A' := srt A) (B' := srt B) (id := id) (by
              rcases unhide HSP with ⟨q1, q2, q3⟩ | ⟨q1, q2, q3⟩
              · exact Or.inl ⟨fun h => q1 ((hl id).1 h), by omega, fun x => (q3 x).trans ⟨fun h => h.elim (fun h => Or.inl ((hl x).2 h)) Or.inr, fun h => h.elim (fun h => Or.inl ((hl x).1 h)) Or.inr⟩⟩
              · exact Or.inr ⟨(hl id).2 q1, by omega, fun x => (q3 x).trans ⟨fun h => ⟨(hl x).2 h.1, h.2⟩, fun h => ⟨(hl x).1 h.1, h.2⟩⟩⟩) (sorted_ris A).1 (sorted_ris A).2 (sorted_ris B).1 (sorted_ris B).2 e1 e2
            exact ⟨x, h1, h2, (hl x).1 h3, (hm x).1 h4⟩)
          have HMO5 : Hid (mo.length ≤ 65) := hide hmo65
          clear hb1 hb2 hmo65
          have hcs : (mo.length = 0) ∨ (¬ mo.length = 0 ∧ b1 = false) ∨ (¬ mo.length = 0 ∧ b1 = true ∧ b2 = false) ∨ (¬ mo.length = 0 ∧ b1 = true ∧ b2 = true) := by
            by_cases h0 : mo.length = 0
            · exact Or.inl h0
            · cases b1 <;> cases b2 <;> simp [h0]
          have hbr : (L.length = k ∧ mo = L ++ [id]) ∨ (¬ L.length = k ∧ mo = L) := by
            rw [hmo, hLL]
            unfold after
            by_cases h0 : (others id l).length = k
            · exact Or.inl ⟨h0, if_pos (by rw [unhide HNl]; exact h0)⟩
            · exact Or.inr ⟨h0, if_neg (by rw [unhide HNl]; exact h0)⟩
          clear hLL hot hmo HLk hlt
          rcases hbr with ⟨hLk, hmL⟩ | ⟨hLk, hmL⟩
          · have HLT : Hid (L.length ≤ 64) := hide (by omega)
            have hlk : ((L.length : Int) == (k : Int)) = true := by simp [hLk]
            have HML2 := hide hmL
            clear hmL hLk
            rcases hcs with h0 | ⟨h0, rfl⟩ | ⟨h0, rfl, rfl⟩ | ⟨h0, rfl, rfl⟩
            · exact absurd h0 (by have := congrArg List.length (unhide HML2); rw [List.length_append] at this; intro h; rw [h] at this; simp at this)
            · have z0 : ((mo.length : Int) == 0) = false := by simp [h0]
              clear h0
              go_wp2_with (first
                | go_skip
                | go_guarded
                | (at_builtin; refine app1_el (E := E3) id mo (unhide HML2) ((unhide HCr).next ((Bel.refl _).alloc _)).o ((unhide HCr).next ((Bel.refl _).alloc _)).bel.size _ _ (at_new _ _) (by have := unhide HLT; omega) rfl _ _ 22 rfl rfl rfl rfl ?_; intro g7 cap7 w7 ho7 hg7 hat7; have HC7 := hide (((unhide HCr).next ((Bel.refl _).alloc _)).app ho7 hg7); have y1 := (unhide HC7).bel.cell (unhide HC1); clear ho7 hg7 hat7)
                | (go_at_call 18; refine ((unhide HMA) _ (unhide HC7).bel).mono ?_; rintro e w8 ⟨rfl, hb8⟩; replace HC7 := hide ((unhide HC7).next hb8); have y1 := (unhide HC7).bel.cell (unhide HC1); clear hb8 HMA)
                | (go_at_call 18; refine ((unhide HMB) _ _ _ (unhide HC7)).mono ?_; rintro e w9 ⟨rfl, hb9⟩; replace HC7 := hide ((unhide HC7).next hb9); have y1 := (unhide HC7).bel.cell (unhide HC1); clear hb9 HMB)
                | (go_at_call 14; refine ((unhide HAL) _).mono ?_; rintro e w10 ⟨rfl, hb10⟩; have HB3 := hide ((unhide HB2).trans ((unhide HC7).bel.trans hb10)); clear hb10))
              go_ret
              exact ⟨rfl, unhide HB3⟩
            · have z0 : ((mo.length : Int) == 0) = false := by simp [h0]
              clear h0
              go_wp2_with (first
                | go_skip
                | go_guarded
                | (at_builtin; refine app1_el (E := E3) id mo (unhide HML2) ((unhide HCr).next ((Bel.refl _).alloc _)).o ((unhide HCr).next ((Bel.refl _).alloc _)).bel.size _ _ (at_new _ _) (by have := unhide HLT; omega) rfl _ _ 22 rfl rfl rfl rfl ?_; intro g7 cap7 w7 ho7 hg7 hat7; have HC7 := hide (((unhide HCr).next ((Bel.refl _).alloc _)).app ho7 hg7); have y1 := (unhide HC7).bel.cell (unhide HC1); clear ho7 hg7 hat7)
                | (go_at_call 18; refine ((unhide HMA) _ (unhide HC7).bel).mono ?_; rintro e w8 ⟨rfl, hb8⟩; replace HC7 := hide ((unhide HC7).next hb8); have y1 := (unhide HC7).bel.cell (unhide HC1); clear hb8 HMA)
                | (go_at_call 18; refine ((unhide HMB) _ _ _ (unhide HC7)).mono ?_; rintro e w9 ⟨rfl, hb9⟩; replace HC7 := hide ((unhide HC7).next hb9); have y1 := (unhide HC7).bel.cell (unhide HC1); clear hb9 HMB)
                | (go_at_call 14; refine ((unhide HAL) _).mono ?_; rintro e w10 ⟨rfl, hb10⟩; have HB3 := hide ((unhide HB2).trans ((unhide HC7).bel.trans hb10)); clear hb10))
              go_ret
              exact ⟨rfl, unhide HB3⟩
            · have z0 : ((mo.length : Int) == 0) = false := by simp [h0]
              clear h0
              go_wp2_with (first
                | go_skip
                | go_guarded
                | (at_builtin; refine app1_el (E := E3) id mo (unhide HML2) ((unhide HCr).next ((Bel.refl _).alloc _)).o ((unhide HCr).next ((Bel.refl _).alloc _)).bel.size _ _ (at_new _ _) (by have := unhide HLT; omega) rfl _ _ 22 rfl rfl rfl rfl ?_; intro g7 cap7 w7 ho7 hg7 hat7; have HC7 := hide (((unhide HCr).next ((Bel.refl _).alloc _)).app ho7 hg7); have y1 := (unhide HC7).bel.cell (unhide HC1); clear ho7 hg7 hat7)
                | (go_at_call 18; refine ((unhide HMA) _ (unhide HC7).bel).mono ?_; rintro e w8 ⟨rfl, hb8⟩; replace HC7 := hide ((unhide HC7).next hb8); have y1 := (unhide HC7).bel.cell (unhide HC1); clear hb8 HMA)
                | (go_at_call 18; refine ((unhide HMB) _ _ _ (unhide HC7)).mono ?_; rintro e w9 ⟨rfl, hb9⟩; replace HC7 := hide ((unhide HC7).next hb9); have y1 := (unhide HC7).bel.cell (unhide HC1); clear hb9 HMB))
              have HCL := HC7
              have HAG : Hid (∃ x, x ∈ A ∧ x ∈ B ∧ x ∈ l ∧ x ∈ mo) := hide ((unhide HAg) trivial trivial)
              have HH1 : Hid (∀ w' x, Bel w5 w' → Calls Tryz.prog 19 #[.slice x1.aM k x1.cM, .int .i64 x] w' fun e w'' => e = .returned (.bool (decide (x ∈ l))) ∧ w'' = w') := hide (fun w' x hb => by
                have := has_g (c := x1.cM) ((unhide HSM).bel hb) x (by rw [unhide HNl]; omega)
                rw [unhide HNl] at this
                exact this)
              have HH2 : Hid (∀ w' x, Cm1 w5 w' (.slice (some ⟨g7, 0, none⟩) mo.length cap7) mo → Calls Tryz.prog 19 #[.slice (some ⟨g7, 0, none⟩) mo.length cap7, .int .i64 x] w' fun e w'' => e = .returned (.bool (decide (x ∈ mo))) ∧ w'' = w') := hide (fun w' x hc => by
                have h65 := unhide HMO5
                have := has_g (a := some ⟨g7, 0, none⟩) (c := cap7) (l := mo) (W := w') (Sl.of hc.o).1 x (by omega)
                skip
                exact this)
              have hnA100 : nA ≤ 100 := unhide HLA
              have hnB100 : nB ≤ 100 := unhide HLB
              clear HAg HC7 y1 HMO5
              go_loopw [13] (fun vi wr => ∃ i : Nat, i ≤ nA ∧ vi = .int .i64 i ∧ Hid (Cm1 w5 wr (.slice (some ⟨g7, 0, none⟩) mo.length cap7) mo) ∧ Hid (∀ x, x ∈ A.take i → x ∈ B → x ∈ l → x ∈ mo → False)) (fun vi _ => nA - (intOf vi).toNat)
              case atStart => exact ⟨0, Nat.zero_le _, rfl, HCL, hide (by simp)⟩
              case round =>
                obtain ⟨i, hi, rfl, HCi, HNi⟩ := hrel
                by_cases hlti : i < nA
                · have hin : (i : Int) < nA := by omega
                  have hi0 : (0 : Int) ≤ i := by omega
                  have hil : i < A.length := by rw [unhide HNA]; exact hlti
                  have HX : Hid (A[i]? = some A[i]) := hide (List.getElem?_eq_getElem hil)
                  obtain ⟨gA, offA, hgA, hRA⟩ := unhide HSA
                  have ea := hgA (by omega)
                  have rA := E3_cell hRA i hil
                  generalize A[i] = x at *
                  have HRA : Hid (w5.cell? ⟨gA, offA + i, none⟩ = some (.int .i64 x)) := hide rA
                  have HEA : Hid (a2 = some ⟨gA, offA, none⟩) := hide ea
                  clear hgA hRA ea rA hil
                  go_wp2_with fail
                  go_loopw [14] (fun vk wr2 => ∃ j : Nat, j ≤ nB ∧ vk = .int .i64 j ∧ Hid (Cm1 w5 wr2 (.slice (some ⟨g7, 0, none⟩) mo.length cap7) mo) ∧ Hid (x ∈ B.take j → x ∈ l → x ∈ mo → False)) (fun vk _ => nB - (intOf vk).toNat)
                  case atStart => exact ⟨0, Nat.zero_le _, rfl, HCi, hide (by simp)⟩
                  case round =>
                    obtain ⟨j, hj, rfl, HCj, HNj⟩ := hrel
                    by_cases hltj : j < nB
                    · have hjn : (j : Int) < nB := by omega
                      have hj0 : (0 : Int) ≤ j := by omega
                      have hjl : j < B.length := by rw [unhide HNB]; exact hltj
                      have HY : Hid (B[j]? = some B[j]) := hide (List.getElem?_eq_getElem hjl)
                      obtain ⟨gB, offB, hgB, hRB⟩ := (unhide HSB).bel (unhide HCj).bel
                      have eb := hgB (by omega)
                      have rB := E3_cell hRB j hjl
                      have rA := (unhide HCj).bel.cell (unhide HRA)
                      have ea := unhide HEA
                      have y1 := (unhide HCj).bel.cell (unhide HC1)
                      generalize B[j] = y at *
                      rw [ea, eb]
                      clear hgB hRB eb hjl ea
                      have HTB : Hid (∀ z, z ∈ B.take (j + 1) ↔ z ∈ B.take j ∨ z = y) := hide (fun z => by rw [List.take_add_one, unhide HY, Option.toList_some, List.mem_append, List.mem_singleton])
                      cases he : (x == y) with
                      | false =>
                        have hne : x ≠ y := fun e => by rw [e] at he; simp at he
                        have HN2 : Hid (x ∈ B.take (j + 1) → x ∈ l → x ∈ mo → False) := hide (fun h1 h2 h3 => (((unhide HTB) x).1 h1).elim (fun h => (unhide HNj) h h2 h3) hne)
                        clear hne
                        go_wp2_with fail
                        go_quiet (fail)
                        go_wp2_with fail
                        go_roundw
                        case rel => exact ⟨j + 1, by omega, by go_num, hide ((unhide HCj).next ((Bel.refl _).drewN _)), HN2⟩
                        case measure => simp [intOf]; omega
                      | true =>
                        have HI1 : Hid (∀ q, Calls Tryz.prog 19 #[.slice x1.aM k x1.cM, .int .i64 x] (wr.drewN q) fun e w'' => e = .returned (.bool (decide (x ∈ l))) ∧ w'' = wr.drewN q) := hide (fun q => (unhide HH1) _ x ((unhide HCj).bel.drewN q))
                        have HI2 : Hid (∀ q, Calls Tryz.prog 19 #[.slice (some ⟨g7, 0, none⟩) mo.length cap7, .int .i64 x] (wr.drewN q) fun e w'' => e = .returned (.bool (decide (x ∈ mo))) ∧ w'' = wr.drewN q) := hide (fun q => (unhide HH2) _ x ((unhide HCj).next ((Bel.refl _).drewN q)))
                        cases h1 : decide (x ∈ l) with
                        | false =>
                          rw [h1] at HI1
                          have HN2 : Hid (x ∈ B.take (j + 1) → x ∈ l → x ∈ mo → False) := hide (fun _ h2 _ => (of_decide_eq_false h1) h2)
                          clear h1
                          go_wp2_with fail
                          go_quiet ((go_at_call 19; refine Calls.quiet_of_same ((unhide HI1) _)))
                          go_wp2_with fail
                          go_roundw
                          case rel => exact ⟨j + 1, by omega, by go_num, hide ((unhide HCj).next ((Bel.refl _).drewN _)), HN2⟩
                          case measure => simp [intOf]; omega
                        | true =>
                          rw [h1] at HI1
                          clear h1
                          cases h2 : decide (x ∈ mo) with
                          | false =>
                            rw [h2] at HI2
                            have HN2 : Hid (x ∈ B.take (j + 1) → x ∈ l → x ∈ mo → False) := hide (fun _ _ h3 => (of_decide_eq_false h2) h3)
                            clear h2
                            have HI : Hid (∀ (q : Nat) (v : Value) (bq : Bool), (v = .slice x1.aM k x1.cM ∧ bq = true) ∨ (v = .slice (some ⟨g7, 0, none⟩) mo.length cap7 ∧ bq = false) → Calls Tryz.prog 19 #[v, .int .i64 x] (wr.drewN q) fun e w'' => e = .returned (.bool bq) ∧ w'' = wr.drewN q) := hide (fun q v bq hv => by
                              rcases hv with ⟨rfl, rfl⟩ | ⟨rfl, rfl⟩
                              · exact (unhide HI1) q
                              · exact (unhide HI2) q)
                            clear HI1 HI2
                            go_wp2_with fail
                            go_quiet ((go_at_call 19; refine Calls.quiet_of_same ((unhide HI) _ _ _ (by first | exact Or.inl ⟨rfl, rfl⟩ | exact Or.inr ⟨rfl, rfl⟩))))
                            go_wp2_with fail
                            go_roundw
                            case rel => exact ⟨j + 1, by omega, by go_num, hide ((unhide HCj).next ((Bel.refl _).drewN _)), HN2⟩
                            case measure => simp [intOf]; omega
                          | true =>
                            rw [h2] at HI2
                            clear h2
                            have HI : Hid (∀ (q : Nat) (v : Value) (bq : Bool), (v = .slice x1.aM k x1.cM ∧ bq = true) ∨ (v = .slice (some ⟨g7, 0, none⟩) mo.length cap7 ∧ bq = true) → Calls Tryz.prog 19 #[v, .int .i64 x] (wr.drewN q) fun e w'' => e = .returned (.bool bq) ∧ w'' = wr.drewN q) := hide (fun q v bq hv => by
                              rcases hv with ⟨rfl, rfl⟩ | ⟨rfl, rfl⟩
                              · exact (unhide HI1) q
                              · exact (unhide HI2) q)
                            clear HI1 HI2
                            go_wp2_with fail
                            go_quiet ((go_at_call 19; refine Calls.quiet_of_same ((unhide HI) _ _ _ (by first | exact Or.inl ⟨rfl, rfl⟩ | exact Or.inr ⟨rfl, rfl⟩))))
                            go_wp2_with (first
                              | (go_at_call 14; refine ((unhide HAL) _).mono ?_; rintro e w10 ⟨rfl, hb10⟩; have HB3 := hide ((unhide HB2).trans (((unhide HCj).bel.drewN _).trans hb10)); clear hb10))
                            go_ret
                            exact ⟨rfl, unhide HB3⟩
                    · obtain rfl : j = nB := by omega
                      have HN2 : Hid (∀ z, z ∈ A.take (i + 1) → z ∈ B → z ∈ l → z ∈ mo → False) := hide (fun z h1 h2 h3 h4 => by
                        rw [List.take_add_one, unhide HX, Option.toList_some, List.mem_append, List.mem_singleton] at h1
                        rcases h1 with h1 | h1
                        · exact (unhide HNi) z h1 h2 h3 h4
                        · rw [h1] at h2 h3 h4
                          exact (unhide HNj) (by rw [List.take_of_length_le (by rw [unhide HNB]; omega)]; exact h2) h3 h4)
                      go_wp2_with fail
                      go_roundw
                      case rel => exact ⟨i + 1, by omega, by go_num, HCj, HN2⟩
                      case measure => simp [intOf]; omega
                · obtain rfl : i = nA := by omega
                  obtain ⟨x, q1, q2, q3, q4⟩ := unhide HAG
                  exact ((unhide HNi) x (by rw [List.take_of_length_le (by rw [unhide HNA]; omega)]; exact q1) q2 q3 q4).elim
          · have hlk : ((L.length : Int) == (k : Int)) = false := by simp; omega
            subst hmL
            have HC7 := HCr
            clear hLk
            rcases hcs with h0 | ⟨h0, rfl⟩ | ⟨h0, rfl, rfl⟩ | ⟨h0, rfl, rfl⟩
            · generalize hml : mo.length = m at *
              have HMLm := hide hml
              clear hml
              have z0 : ((m : Int) == 0) = true := by simp [h0]
              clear h0
              go_wp2_with (first
                | go_skip
                | go_guarded
                | (go_at_call 18; refine ((unhide HMA) _ (unhide HC7).bel).mono ?_; rintro e w8 ⟨rfl, hb8⟩; replace HC7 := hide ((unhide HC7).next hb8); have y1 := (unhide HC7).bel.cell (unhide HC1); clear hb8 HMA)
                | (go_at_call 18; refine ((unhide HMB) _ _ _ (unhide HC7)).mono ?_; rintro e w9 ⟨rfl, hb9⟩; replace HC7 := hide ((unhide HC7).next hb9); have y1 := (unhide HC7).bel.cell (unhide HC1); clear hb9 HMB)
                | (go_at_call 14; refine ((unhide HAL) _).mono ?_; rintro e w10 ⟨rfl, hb10⟩; have HB3 := hide ((unhide HB2).trans ((unhide HC7).bel.trans hb10)); clear hb10))
              go_ret
              exact ⟨rfl, unhide HB3⟩
            · generalize hml : mo.length = m at *
              have HMLm := hide hml
              clear hml
              have z0 : ((m : Int) == 0) = false := by simp [h0]
              clear h0
              go_wp2_with (first
                | go_skip
                | go_guarded
                | (go_at_call 18; refine ((unhide HMA) _ (unhide HC7).bel).mono ?_; rintro e w8 ⟨rfl, hb8⟩; replace HC7 := hide ((unhide HC7).next hb8); have y1 := (unhide HC7).bel.cell (unhide HC1); clear hb8 HMA)
                | (go_at_call 18; refine ((unhide HMB) _ _ _ (unhide HC7)).mono ?_; rintro e w9 ⟨rfl, hb9⟩; replace HC7 := hide ((unhide HC7).next hb9); have y1 := (unhide HC7).bel.cell (unhide HC1); clear hb9 HMB)
                | (go_at_call 14; refine ((unhide HAL) _).mono ?_; rintro e w10 ⟨rfl, hb10⟩; have HB3 := hide ((unhide HB2).trans ((unhide HC7).bel.trans hb10)); clear hb10))
              go_ret
              exact ⟨rfl, unhide HB3⟩
            · generalize hml : mo.length = m at *
              have HMLm := hide hml
              clear hml
              have z0 : ((m : Int) == 0) = false := by simp [h0]
              clear h0
              go_wp2_with (first
                | go_skip
                | go_guarded
                | (go_at_call 18; refine ((unhide HMA) _ (unhide HC7).bel).mono ?_; rintro e w8 ⟨rfl, hb8⟩; replace HC7 := hide ((unhide HC7).next hb8); have y1 := (unhide HC7).bel.cell (unhide HC1); clear hb8 HMA)
                | (go_at_call 18; refine ((unhide HMB) _ _ _ (unhide HC7)).mono ?_; rintro e w9 ⟨rfl, hb9⟩; replace HC7 := hide ((unhide HC7).next hb9); have y1 := (unhide HC7).bel.cell (unhide HC1); clear hb9 HMB)
                | (go_at_call 14; refine ((unhide HAL) _).mono ?_; rintro e w10 ⟨rfl, hb10⟩; have HB3 := hide ((unhide HB2).trans ((unhide HC7).bel.trans hb10)); clear hb10))
              go_ret
              exact ⟨rfl, unhide HB3⟩
            · generalize hml : mo.length = m at *
              have HMLm := hide hml
              clear hml
              have z0 : ((m : Int) == 0) = false := by simp [h0]
              clear h0
              go_wp2_with (first
                | go_skip
                | go_guarded
                | (go_at_call 18; refine ((unhide HMA) _ (unhide HC7).bel).mono ?_; rintro e w8 ⟨rfl, hb8⟩; replace HC7 := hide ((unhide HC7).next hb8); have y1 := (unhide HC7).bel.cell (unhide HC1); clear hb8 HMA)
                | (go_at_call 18; refine ((unhide HMB) _ _ _ (unhide HC7)).mono ?_; rintro e w9 ⟨rfl, hb9⟩; replace HC7 := hide ((unhide HC7).next hb9); have y1 := (unhide HC7).bel.cell (unhide HC1); clear hb9 HMB))
              have HCL := HC7
              have HAG : Hid (∃ x, x ∈ A ∧ x ∈ B ∧ x ∈ l ∧ x ∈ mo) := hide ((unhide HAg) trivial trivial)
              have HH1 : Hid (∀ w' x, Bel w5 w' → Calls Tryz.prog 19 #[.slice x1.aM k x1.cM, .int .i64 x] w' fun e w'' => e = .returned (.bool (decide (x ∈ l))) ∧ w'' = w') := hide (fun w' x hb => by
                have := has_g (c := x1.cM) ((unhide HSM).bel hb) x (by rw [unhide HNl]; omega)
                rw [unhide HNl] at this
                exact this)
              have HH2 : Hid (∀ w' x, Cm1 w5 w' (.slice (g) m cap) mo → Calls Tryz.prog 19 #[.slice (g) m cap, .int .i64 x] w' fun e w'' => e = .returned (.bool (decide (x ∈ mo))) ∧ w'' = w') := hide (fun w' x hc => by
                have h65 := unhide HMO5
                have := has_g (a := g) (c := cap) (l := mo) (W := w') (Sl.of (show E3.O w5.heap.size w' (.slice g mo.length cap) mo by rw [unhide HMLm]; exact hc.o)).1 x (by rw [unhide HMLm]; omega)
                rw [unhide HMLm] at this
                exact this)
              have hnA100 : nA ≤ 100 := unhide HLA
              have hnB100 : nB ≤ 100 := unhide HLB
              clear HAg HC7 y1 HMO5
              go_loopw [13] (fun vi wr => ∃ i : Nat, i ≤ nA ∧ vi = .int .i64 i ∧ Hid (Cm1 w5 wr (.slice (g) m cap) mo) ∧ Hid (∀ x, x ∈ A.take i → x ∈ B → x ∈ l → x ∈ mo → False)) (fun vi _ => nA - (intOf vi).toNat)
              case atStart => exact ⟨0, Nat.zero_le _, rfl, HCL, hide (by simp)⟩
              case round =>
                obtain ⟨i, hi, rfl, HCi, HNi⟩ := hrel
                by_cases hlti : i < nA
                · have hin : (i : Int) < nA := by omega
                  have hi0 : (0 : Int) ≤ i := by omega
                  have hil : i < A.length := by rw [unhide HNA]; exact hlti
                  have HX : Hid (A[i]? = some A[i]) := hide (List.getElem?_eq_getElem hil)
                  obtain ⟨gA, offA, hgA, hRA⟩ := unhide HSA
                  have ea := hgA (by omega)
                  have rA := E3_cell hRA i hil
                  generalize A[i] = x at *
                  have HRA : Hid (w5.cell? ⟨gA, offA + i, none⟩ = some (.int .i64 x)) := hide rA
                  have HEA : Hid (a2 = some ⟨gA, offA, none⟩) := hide ea
                  clear hgA hRA ea rA hil
                  go_wp2_with fail
                  go_loopw [14] (fun vk wr2 => ∃ j : Nat, j ≤ nB ∧ vk = .int .i64 j ∧ Hid (Cm1 w5 wr2 (.slice (g) m cap) mo) ∧ Hid (x ∈ B.take j → x ∈ l → x ∈ mo → False)) (fun vk _ => nB - (intOf vk).toNat)
                  case atStart => exact ⟨0, Nat.zero_le _, rfl, HCi, hide (by simp)⟩
                  case round =>
                    obtain ⟨j, hj, rfl, HCj, HNj⟩ := hrel
                    by_cases hltj : j < nB
                    · have hjn : (j : Int) < nB := by omega
                      have hj0 : (0 : Int) ≤ j := by omega
                      have hjl : j < B.length := by rw [unhide HNB]; exact hltj
                      have HY : Hid (B[j]? = some B[j]) := hide (List.getElem?_eq_getElem hjl)
                      obtain ⟨gB, offB, hgB, hRB⟩ := (unhide HSB).bel (unhide HCj).bel
                      have eb := hgB (by omega)
                      have rB := E3_cell hRB j hjl
                      have rA := (unhide HCj).bel.cell (unhide HRA)
                      have ea := unhide HEA
                      have y1 := (unhide HCj).bel.cell (unhide HC1)
                      generalize B[j] = y at *
                      rw [ea, eb]
                      clear hgB hRB eb hjl ea
                      have HTB : Hid (∀ z, z ∈ B.take (j + 1) ↔ z ∈ B.take j ∨ z = y) := hide (fun z => by rw [List.take_add_one, unhide HY, Option.toList_some, List.mem_append, List.mem_singleton])
                      cases he : (x == y) with
                      | false =>
                        have hne : x ≠ y := fun e => by rw [e] at he; simp at he
                        have HN2 : Hid (x ∈ B.take (j + 1) → x ∈ l → x ∈ mo → False) := hide (fun h1 h2 h3 => (((unhide HTB) x).1 h1).elim (fun h => (unhide HNj) h h2 h3) hne)
                        clear hne
                        go_wp2_with fail
                        go_quiet (fail)
                        go_wp2_with fail
                        go_roundw
                        case rel => exact ⟨j + 1, by omega, by go_num, hide ((unhide HCj).next ((Bel.refl _).drewN _)), HN2⟩
                        case measure => simp [intOf]; omega
                      | true =>
                        have HI1 : Hid (∀ q, Calls Tryz.prog 19 #[.slice x1.aM k x1.cM, .int .i64 x] (wr.drewN q) fun e w'' => e = .returned (.bool (decide (x ∈ l))) ∧ w'' = wr.drewN q) := hide (fun q => (unhide HH1) _ x ((unhide HCj).bel.drewN q))
                        have HI2 : Hid (∀ q, Calls Tryz.prog 19 #[.slice (g) m cap, .int .i64 x] (wr.drewN q) fun e w'' => e = .returned (.bool (decide (x ∈ mo))) ∧ w'' = wr.drewN q) := hide (fun q => (unhide HH2) _ x ((unhide HCj).next ((Bel.refl _).drewN q)))
                        cases h1 : decide (x ∈ l) with
                        | false =>
                          rw [h1] at HI1
                          have HN2 : Hid (x ∈ B.take (j + 1) → x ∈ l → x ∈ mo → False) := hide (fun _ h2 _ => (of_decide_eq_false h1) h2)
                          clear h1
                          go_wp2_with fail
                          go_quiet ((go_at_call 19; refine Calls.quiet_of_same ((unhide HI1) _)))
                          go_wp2_with fail
                          go_roundw
                          case rel => exact ⟨j + 1, by omega, by go_num, hide ((unhide HCj).next ((Bel.refl _).drewN _)), HN2⟩
                          case measure => simp [intOf]; omega
                        | true =>
                          rw [h1] at HI1
                          clear h1
                          cases h2 : decide (x ∈ mo) with
                          | false =>
                            rw [h2] at HI2
                            have HN2 : Hid (x ∈ B.take (j + 1) → x ∈ l → x ∈ mo → False) := hide (fun _ _ h3 => (of_decide_eq_false h2) h3)
                            clear h2
                            have HI : Hid (∀ (q : Nat) (v : Value) (bq : Bool), (v = .slice x1.aM k x1.cM ∧ bq = true) ∨ (v = .slice (g) m cap ∧ bq = false) → Calls Tryz.prog 19 #[v, .int .i64 x] (wr.drewN q) fun e w'' => e = .returned (.bool bq) ∧ w'' = wr.drewN q) := hide (fun q v bq hv => by
                              rcases hv with ⟨rfl, rfl⟩ | ⟨rfl, rfl⟩
                              · exact (unhide HI1) q
                              · exact (unhide HI2) q)
                            clear HI1 HI2
                            go_wp2_with fail
                            go_quiet ((go_at_call 19; refine Calls.quiet_of_same ((unhide HI) _ _ _ (by first | exact Or.inl ⟨rfl, rfl⟩ | exact Or.inr ⟨rfl, rfl⟩))))
                            go_wp2_with fail
                            go_roundw
                            case rel => exact ⟨j + 1, by omega, by go_num, hide ((unhide HCj).next ((Bel.refl _).drewN _)), HN2⟩
                            case measure => simp [intOf]; omega
                          | true =>
                            rw [h2] at HI2
                            clear h2
                            have HI : Hid (∀ (q : Nat) (v : Value) (bq : Bool), (v = .slice x1.aM k x1.cM ∧ bq = true) ∨ (v = .slice (g) m cap ∧ bq = true) → Calls Tryz.prog 19 #[v, .int .i64 x] (wr.drewN q) fun e w'' => e = .returned (.bool bq) ∧ w'' = wr.drewN q) := hide (fun q v bq hv => by
                              rcases hv with ⟨rfl, rfl⟩ | ⟨rfl, rfl⟩
                              · exact (unhide HI1) q
                              · exact (unhide HI2) q)
                            clear HI1 HI2
                            go_wp2_with fail
                            go_quiet ((go_at_call 19; refine Calls.quiet_of_same ((unhide HI) _ _ _ (by first | exact Or.inl ⟨rfl, rfl⟩ | exact Or.inr ⟨rfl, rfl⟩))))
                            go_wp2_with (first
                              | (go_at_call 14; refine ((unhide HAL) _).mono ?_; rintro e w10 ⟨rfl, hb10⟩; have HB3 := hide ((unhide HB2).trans (((unhide HCj).bel.drewN _).trans hb10)); clear hb10))
                            go_ret
                            exact ⟨rfl, unhide HB3⟩
                    · obtain rfl : j = nB := by omega
                      have HN2 : Hid (∀ z, z ∈ A.take (i + 1) → z ∈ B → z ∈ l → z ∈ mo → False) := hide (fun z h1 h2 h3 h4 => by
                        rw [List.take_add_one, unhide HX, Option.toList_some, List.mem_append, List.mem_singleton] at h1
                        rcases h1 with h1 | h1
                        · exact (unhide HNi) z h1 h2 h3 h4
                        · rw [h1] at h2 h3 h4
                          exact (unhide HNj) (by rw [List.take_of_length_le (by rw [unhide HNB]; omega)]; exact h2) h3 h4)
                      go_wp2_with fail
                      go_roundw
                      case rel => exact ⟨i + 1, by omega, by go_num, HCj, HN2⟩
                      case measure => simp [intOf]; omega
                · obtain rfl : i = nA := by omega
                  obtain ⟨x, q1, q2, q3, q4⟩ := unhide HAG
                  exact ((unhide HNi) x (by rw [List.take_of_length_le (by rw [unhide HNA]; omega)]; exact q1) q2 q3 q4).elim
  · have HB1 := hide hb1
    clear hb1 hmay
    go_wp2_with (first
      | go_skip
      | go_guarded
      | (refine bx_new rfl 31 rfl _ Tryz.zeroP ?_; intro b w4 hr4 hs4 hb4; have HQ := hide (And.intro hr4 (And.intro hs4 hb4)); clear hr4 hs4 hb4)
      | (refine bx_st rfl 31 (.tmp 9) _ rfl b (gc g0 y0) _ rfl rfl (unhide HQ).1 (Tryz.sizeP _ _) rfl (gc_one _ _) ?_; intro w5 hr5 hc5; have hbb := bel_off (unhide HQ).2.2 hc5 (Nat.le_of_eq (unhide HQ).2.1); have HB2 := hide ((unhide HB1).trans hbb); clear hr5 hc5 hbb)
      | (go_at_call 14; refine ((unhide HAL) _).mono ?_; rintro e w6 ⟨rfl, hb6⟩; have HB3 := hide ((unhide HB2).trans hb6); clear hb6))
    go_ret
    exact ⟨rfl, unhide HB3⟩
end Go.Proofs.YthekbhliokcpcaaGreat
