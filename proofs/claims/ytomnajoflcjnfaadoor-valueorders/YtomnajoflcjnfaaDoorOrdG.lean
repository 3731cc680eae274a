/- What the program's Sort returns; for every row of its own of at most 200 values. -/
import Derived.Test.YtomnajoflcjnfaaDoorOrdF
namespace Go.Proofs.YtomnajoflcjnfaaDoor
open Go.RowKit Go.Sort Go.Lib Go.Shelf
/-- A row of values as it is read. -/
def RV (W : World) (v : Value) (l : List V) : Prop := ∃ a cap, v = .slice a l.length cap ∧ l.length ≤ cap ∧ (l ≠ [] → ∃ g off, a = some ⟨g, off, none⟩ ∧ g < W.heap.size ∧ ∀ j u, (cel enc5 5 l)[j]? = some u → W.cell? ⟨g, off + j, none⟩ = some u)
theorem cel_at (l : List V) {j c : Nat} (hj : j < l.length) (hc : c < 5) : (cel enc5 5 l)[j * 5 + c]? = (enc5 l[j])[c]? := by
  unfold cel
  rw [Array.getElem?_toList, Array.getElem?_eq_getElem (by simp; omega)]
  have h := get_flatK enc5 5 l.toArray (j * 5 + c) (by simp; omega)
  rw [getElem!_pos _ (j * 5 + c) (by simp; omega)] at h
  rw [h, show (j * 5 + c) / 5 = j by omega, show (j * 5 + c) % 5 = c by omega, getElem!_pos l.toArray j (by simpa using hj), getElem!_pos _ c (by rw [enc5_len]; exact hc)]
  rw [List.getElem?_eq_getElem (by rw [enc5_len]; exact hc)]
  simp
theorem own_rv {W : World} {B : Nat} {v : Value} {l : List V} (h : W.ownsRow B 25 5 v l.length (cel enc5 5 l)) : RV W v l := by
  rcases h.2 with ⟨e, h0⟩ | ⟨g, cap, cur, e, hg, hh, hn, hx, hs, ht⟩
  · exact ⟨none, 0, by rw [e, h0], by omega, fun hl => absurd (List.length_eq_zero_iff.1 h0) hl⟩
  · refine ⟨some ⟨g, 0, none⟩, cap, e, hn, fun _ => ⟨g, 0, rfl, (Array.getElem?_eq_some_iff.1 hh).1, fun j u hj => ?_⟩⟩
    rw [e] at h
    rw [Nat.zero_add, h.cellAt j (by have := (List.getElem?_eq_some_iff.1 hj).1; rw [cel_len] at this; exact this)]
    exact hj
theorem RV.next {W W' : World} {v : Value} {l : List V} (h : RV W v l) (hb : Bel W W') : RV W' v l := by
  obtain ⟨a, cap, hv, hc, hn⟩ := h
  refine ⟨a, cap, hv, hc, fun h0 => ?_⟩
  obtain ⟨g, off, ha, hg, hj⟩ := hn h0
  exact ⟨g, off, ha, Nat.lt_of_lt_of_le hg hb.size, fun j u h => hb.cell (hj j u h)⟩
/-- What Sort answers. -/
def srtR (l : List V) (w : World) (e : Ending) (w' : World) : Prop := ∃ v q er, e = .returned (.tuple #[v, .int .i64 er]) ∧ RV w' v q ∧ Bel w w' ∧ (((∃ x ∈ l, ¬ mayx x) ∧ q = [] ∧ er = 30) ∨ ((∀ x ∈ l, mayx x) ∧ er = 0 ∧ risV q ∧ ∀ x, x ∈ q ↔ x ∈ l))
theorem takeV_all {l : List V} {j : Nat} (hj : j < l.length) (h : ∀ x ∈ l.take j, mayx x) (hx : mayx l[j]) : ∀ x ∈ l.take (j + 1), mayx x := by
  intro x hm
  rcases (takeV_next hj x).1 hm with h1 | h1
  · exact h x h1
  · rw [h1]; exact hx
set_option maxHeartbeats 8000000 in
set_option maxRecDepth 100000 in
theorem sort_any (l : List V) (v : Value) (B : Nat) (w : World) (hown : w.ownsRow B 25 5 v l.length (cel enc5 5 l)) (hl : l.length ≤ 200) : Calls Tryd.prog 21 #[v] w fun e w' => srtR l w e w' := by
  rcases hown.2 with ⟨rfl, h0⟩ | ⟨g, cap, cur, rfl, hg, hh, hn, hx, hs, ht⟩
  · obtain rfl : l = [] := List.length_eq_zero_iff.1 h0
    clear hown h0
    go_enter Tryd.func21, Tryd.ntmps21
    go_wp2_with fail
    go_loopw [9] (fun i W => i = .int .i64 0 ∧ W = w) (fun _ _ => 0)
    case atStart => exact ⟨rfl, rfl⟩
    case round =>
      obtain ⟨rfl, rfl⟩ := hrel
      go_wp2_with (first | (go_at_call 49; refine (clone_no _ _ _).mono ?_; rintro e w2 ⟨rfl, rfl⟩) | (go_at_call 50; refine (sortFunc_no _ _ _ _).mono ?_; rintro e w2 ⟨rfl, rfl⟩) | (go_at_call 52; refine (compact_no _ _ _).mono ?_; rintro e w2 ⟨rfl, rfl⟩) | (go_at_call 51; refine (clip_V _ _ _ (Nat.le_refl _) _).mono ?_; rintro e w2 ⟨rfl, rfl⟩))
      go_ret2
      exact ⟨_, [], 0, rfl, ⟨none, 0, rfl, Nat.le_refl _, fun h => absurd rfl h⟩, Bel.refl _, Or.inr ⟨by simp, rfl, List.Pairwise.nil, fun _ => Iff.rfl⟩⟩
  · have HOWN := hide hown
    have HHW := hide (show g < w.heap.size from (Array.getElem?_eq_some_iff.1 hh).1)
    clear hh ht hs hg hx hown
    go_enter Tryd.func21, Tryd.ntmps21
    go_wp2_with fail
    go_loopw [9] (fun i W => ∃ j : Nat, j ≤ l.length ∧ i = .int .i64 j ∧ Bel w W ∧ ∀ x ∈ l.take j, mayx x) (fun i _ => l.length - (intOf i).toNat)
    case atStart => exact ⟨0, Nat.zero_le _, rfl, Bel.refl _, by simp⟩
    case round =>
      obtain ⟨j, hj, rfl, hb, hm⟩ := hrel
      have HB := hide hb
      have HM := hide hm
      clear hm
      by_cases hlt : j < l.length
      · obtain ⟨k, b, n, s, u, hxe⟩ : ∃ k b n s u, l[j] = (k, b, n, s, u) := ⟨_, _, _, _, _, rfl⟩
        have HX := hide hxe
        have cc : ∀ c v, c < 5 → (enc5 l[j])[c]? = some v → wr.cell? ⟨g, j * 5 + c, none⟩ = some v := fun c v hc hv => hb.cell (by rw [HOWN.out.cellAt _ (by omega), cel_at l hlt hc]; exact hv)
        rw [hxe] at cc
        have c0 : wr.cell? ⟨g, j * 5, none⟩ = some (.int .u8 k) := cc 0 _ (by decide) rfl
        have c1 : wr.cell? ⟨g, j * 5 + 1, none⟩ = some (.bool b) := cc 1 _ (by decide) rfl
        have c2 : wr.cell? ⟨g, j * 5 + 2, none⟩ = some (.int .i64 n) := cc 2 _ (by decide) rfl
        have c3 : wr.cell? ⟨g, j * 5 + 3, none⟩ = some (.string s) := cc 3 _ (by decide) rfl
        have c4 : wr.cell? ⟨g, j * 5 + 4, none⟩ = some (.int .u64 u) := cc 4 _ (by decide) rfl
        clear cc hxe hb
        by_cases hmay : mayV k b n s u
        · have C9 := hide (fun W => may_yes hmay W)
          unfold ev at C9
          have HMAY := hide hmay
          clear hmay
          go_wp2_with (go_at_call 9; refine (C9.out _).mono ?_; rintro e w1 ⟨rfl, hb1⟩)
          refine ⟨⟨j + 1, by omega, by go_num, HB.out.trans (((Bel.refl _).alloc _).trans hb1), takeV_all hlt HM.out (by rw [HX.out]; exact HMAY.out)⟩, ?_⟩
          simp [intOf]
          omega
        · have C9 := hide (fun W => may_no hmay W)
          unfold ev at C9
          have HMAY := hide hmay
          clear hmay
          go_wp2_with (go_at_call 9; refine (C9.out _).mono ?_; rintro e w1 ⟨rfl, hb1⟩)
          go_ret2
          exact ⟨_, [], 30, rfl, ⟨none, 0, rfl, Nat.le_refl _, fun h => absurd rfl h⟩, HB.out.trans (((Bel.refl _).alloc _).trans hb1), Or.inl ⟨⟨l[j], List.getElem_mem hlt, by rw [HX.out]; exact HMAY.out⟩, rfl, rfl⟩⟩
      · have HALL := hide (show ∀ x ∈ l, mayx x by have h := HM.out; rw [List.take_of_length_le (by omega)] at h; exact h)
        have C49 := hide (clone_V g cap l wr (by omega) (fun t u ht => hb.cell (by rw [Nat.zero_add, HOWN.out.cellAt t (by have := (List.getElem?_eq_some_iff.1 ht).1; rw [cel_len] at this; exact this)]; exact ht)) (cel_one l))
        clear hb HM
        go_wp2_with fail
        refine C49.out.mono ?_
        rintro e w1 ⟨v1, rfl, hown1, hne1, hb1⟩
        have HB1 := hide (HB.out.trans hb1)
        have HSZ := hide (show w.heap.size ≤ wr.heap.size from HB.out.size)
        obtain ⟨g1, cap1, hv1⟩ : ∃ g1 cap1, v1 = .slice (some ⟨g1, 0, none⟩) l.length cap1 := by
          rcases hown1.2 with ⟨e0, _⟩ | ⟨g1, cap1, _, e0, _⟩
          · exact absurd e0 hne1
          · exact ⟨g1, cap1, e0⟩
        subst hv1
        have HO1 := hide hown1
        have hg1 := hown1.lt g1 rfl
        have HG1 := hide hg1
        obtain ⟨z, hz⟩ : ∃ z, z = l.mergeSort fun x y => !(ltOf vo) y x := ⟨_, rfl⟩
        have C50 := hide (sortFunc_V g1 cap1 l w1 (own_holds hown1) hg1.2 (by omega))
        rw [← hz] at C50
        have HZ := hide (sortedV l z hz)
        have hzl : z.length = l.length := by rw [hz]; simp
        have HZL := hide hzl
        clear hown1 hne1 hb1 hg1 hz hzl C49
        go_wp2_with fail
        refine C50.out.mono ?_
        rintro e w2 ⟨rfl, n2, os2, hw2⟩
        have own2 : w2.ownsRow wr.heap.size 25 5 (.slice (some ⟨g1, 0, none⟩) l.length cap1) l.length (cel enc5 5 z) := by
          rw [hw2]
          have h := own_put (q := n2) (m := l.length) (G := flatK enc5 5 z.toArray) os2 HO1.out (by simp [HZL.out]) (Nat.le_refl _)
          rw [List.take_of_length_le (by simp [HZL.out])] at h
          exact h
        have bel2 : Bel w w2 := by
          rw [hw2]
          have := HG1.out
          have := HSZ.out
          have := HB1.out.size
          exact bel_put os2 HB1.out (by omega) (by omega)
        have hcap1 : l.length ≤ cap1 := by
          rcases own2.2 with ⟨e0, _⟩ | ⟨_, _, _, e0, _, _, h, _⟩
          · cases e0
          · injection e0 with _ _ e3; rw [e3]; exact h
        have C52 := hide (compact52 pf_tryd ef_tryd Tryd.func52 g1 0 cap1 z.toArray w2 (own_holds own2) (by simp [HZL.out]; omega) (by simp [HZL.out]; omega))
        rw [show z.toArray.size = l.length by simp [HZL.out]] at C52
        have HO2 := hide own2
        have HB2 := hide bel2
        clear hw2 own2 bel2 C50
        go_wp2_with fail
        refine C52.out.mono ?_
        rintro e w3 ⟨rfl, q3, G3, hw3, hG3, ht3⟩
        have hzs : z.toArray.size = l.length := by simp [HZL.out]
        rw [hzs] at hG3 ht3
        obtain ⟨y, hy⟩ : ∃ y, y = compactUpTo z.toArray l.length := ⟨_, rfl⟩
        have HZY := HZ.out
        rw [HZL.out, ← hy] at HZY
        rw [← hy] at ht3
        have hyl : y.length ≤ l.length := by
          rw [hy]
          unfold compactUpTo
          rw [List.length_map]
          exact Nat.le_trans (List.length_filter_le _ _) (by simp)
        have own3 : w3.ownsRow wr.heap.size 25 5 (.slice (some ⟨g1, 0, none⟩) y.length cap1) y.length (cel enc5 5 y) := by
          have h := own_put (q := q3) (m := y.length) (G := G3) #[] HO2.out hG3 hyl
          rw [ht3, grow_empty, ← hw3] at h
          exact h
        have bel3 : Bel w w3 := by
          have := HG1.out
          have := HSZ.out
          have := HB2.out.size
          have h := bel_put (q := q3) (G := G3) #[] HB2.out (show w.heap.size ≤ g1 by omega) (by omega)
          rw [grow_empty, ← hw3] at h
          exact h
        have HY := hide HZY
        have HO3 := hide own3
        have HB3 := hide bel3
        have hyc : y.length ≤ cap1 := by omega
        rw [hzs, ← hy]
        have C51 := hide (fun W => clip_V (some ⟨g1, 0, none⟩) y.length cap1 hyc W)
        clear hw3 ht3 hy own3 bel3 HZY
        go_wp2_with (go_at_call 51; refine (C51.out _).mono ?_; rintro e w4 ⟨rfl, rfl⟩)
        go_ret2
        refine ⟨_, y, 0, rfl, ?_, HB3.out, Or.inr ⟨HALL.out, rfl, HY.out.1, HY.out.2⟩⟩
        refine ⟨some ⟨g1, 0, none⟩, y.length, rfl, Nat.le_refl _, fun _ => ⟨g1, 0, rfl, (HO3.out.lt g1 rfl).2, fun t u ht => ?_⟩⟩
        rw [Nat.zero_add, HO3.out.cellAt t (by have := (List.getElem?_eq_some_iff.1 ht).1; rw [cel_len] at this; exact this)]
        exact ht
end Go.Proofs.YtomnajoflcjnfaaDoor
