/- once: the numbers rising, each once. Majority. seated, others. mayFollows of members that may be. mayReads, mayLead, mayStand, mayRole of members that may be. clone. Entries with members, and readings, in lists of their own. A member of nothing. -/
import Derived.Test.YthekbhliokcpcaaGreatT03
import Derived.Lib.SlicesCompact
import Derived.Lib.RowBridge
import Derived.Deep.RegionHeld3
namespace Go.Proofs.YthekbhliokcpcaaGreat
open Go.RowKit Go.Maps Go.Sort
theorem ris_ext : ∀ (a b : List Int), Ris a → Ris b → (∀ x, x ∈ a ↔ x ∈ b) → a = b
 | [], [], _, _, _ => rfl
 | [], y :: b, _, _, h => by have := (h y).2 List.mem_cons_self; cases this
 | x :: a, [], _, _, h => by have := (h x).1 List.mem_cons_self; cases this
 | x :: a, y :: b, ha, hb, h => by
  obtain ⟨ha1, ha2⟩ := List.pairwise_cons.1 ha
  obtain ⟨hb1, hb2⟩ := List.pairwise_cons.1 hb
  have e : x = y := by
   rcases List.mem_cons.1 ((h x).1 List.mem_cons_self) with h1 | h1
   ·exact h1
   ·rcases List.mem_cons.1 ((h y).2 List.mem_cons_self) with h2 | h2
    ·exact h2.symm
    ·have := hb1 x h1
     have := ha1 y h2
     omega
  subst e
  rw [ris_ext a b ha2 hb2 (fun z => ⟨fun hz => ?_, fun hz => ?_⟩)]
  ·rcases List.mem_cons.1 ((h z).1 (List.mem_cons_of_mem _ hz)) with h1 | h1
   ·have := ha1 z hz; omega
   ·exact h1
  ·rcases List.mem_cons.1 ((h z).2 (List.mem_cons_of_mem _ hz)) with h1 | h1
   ·have := hb1 z hz; omega
   ·exact h1
theorem compact_ris (d : Array Int) (hd : ∀ i j, i ≤ j → j < d.size → d[i]! ≤ d[j]!) : ∀ m, m ≤ d.size →
  Ris (Lib.compactUpTo d m) ∧ (∀ x, x ∈ Lib.compactUpTo d m ↔ ∃ j, j < m ∧ d[j]! = x)
 | 0, _ => by simp [Lib.compactUpTo, Ris]
 | m + 1, hm => by
  obtain ⟨h1, h2⟩ := compact_ris d hd m (by omega)
  rw [Lib.compactUpTo_succ]
  cases hk : Lib.keeps d m with
  | true =>
   simp only [if_true]
   refine ⟨List.pairwise_append.2 ⟨h1, by simp, fun a ha b hb => ?_⟩, fun x => ?_⟩
   ·rw [List.mem_singleton.1 hb]
    obtain ⟨j, hj, rfl⟩ := (h2 a).1 ha
    have hne : d[m]! ≠ d[m - 1]! := by
     have := of_decide_eq_true hk
     rcases this with h | h
     ·omega
     ·exact h
    have h3 := hd j (m - 1) (by omega) (by omega)
    have h4 := hd (m - 1) m (by omega) (by omega)
    omega
   ·rw [List.mem_append, h2, List.mem_singleton]
    constructor
    ·rintro (⟨j, hj, e⟩ | e)
     ·exact ⟨j, by omega, e⟩
     ·exact ⟨m, by omega, e.symm⟩
    ·rintro ⟨j, hj, e⟩
     by_cases hjm : j = m
     ·right; rw [← e, hjm]
     ·left; exact ⟨j, by omega, e⟩
  | false =>
   rw [if_neg (by simp), List.append_nil]
   refine ⟨h1, fun x => ?_⟩
   have hk' : ¬ (m = 0 ∨ d[m]! ≠ d[m - 1]!) := of_decide_eq_false hk
   have hm0 : m ≠ 0 := fun h => hk' (Or.inl h)
   have he : d[m]! = d[m - 1]! := Classical.byContradiction fun h => hk' (Or.inr h)
   rw [h2]
   constructor
   ·rintro ⟨j, hj, e⟩
    exact ⟨j, by omega, e⟩
   ·rintro ⟨j, hj, e⟩
    by_cases hjm : j = m
    ·exact ⟨m - 1, by omega, by rw [← he, ← hjm]; exact e⟩
    ·exact ⟨j, by omega, e⟩
theorem sorted_ris (l : List Int) : Ris (Lib.compact (l.mergeSort fun x y => decide (x ≤ y))) ∧ ∀ x, x ∈ Lib.compact (l.mergeSort fun x y => decide (x ≤ y)) ↔ x ∈ l := by
 have hs : (l.mergeSort fun x y => decide (x ≤ y)).Pairwise (fun a b => decide (a ≤ b) = true) := List.pairwise_mergeSort (fun a b c h1 h2 => by
   simp only [decide_eq_true_eq] at *
   omega) (fun a b => by
   simp only [Bool.or_eq_true, decide_eq_true_eq]
   omega) l
 have hp : (l.mergeSort fun x y => decide (x ≤ y)).Perm l := List.mergeSort_perm l _
 generalize l.mergeSort (fun x y => decide (x ≤ y)) = z at *
 have h := compact_ris z.toArray (fun i j hij hj => by
  have hj' : j < z.length := by simpa using hj
  rw [getElem!_pos _ i (by simp; omega), getElem!_pos _ j hj]
  by_cases he : i = j
  ·subst he; exact Int.le_refl _
  ·have := List.pairwise_iff_getElem.1 hs i j (by omega) hj' (by omega)
   simpa using this) z.length (by simp)
 refine ⟨h.1, fun x => (h.2 x).trans ⟨?_, fun hx => ?_⟩⟩
 ·rintro ⟨j, hj, rfl⟩
  rw [getElem!_pos _ j (by simpa using hj)]
  exact hp.mem_iff.1 (by simp)
 ·obtain ⟨j, hj, e⟩ := List.mem_iff_getElem.1 (hp.mem_iff.2 hx)
  exact ⟨j, hj, by rw [getElem!_pos _ j (by simpa using hj)]; simpa using e⟩
theorem E3_fl (l : List Int) : E3.fl l = l.map (Value.int .i64) := by
 induction l with
 | nil => rfl
 | cons x l ih => unfold El.fl at *; rw [List.flatMap_cons, ih]; rfl
theorem own_putE {w : World} {B g n cap q m : Nat} {l G : List Int} (os : Array Obj) (h : E3.O B w (.slice (some ⟨g, 0, none⟩) n cap) l) (hn : l.length = n) (hG : G.length = n) (hm : m ≤ n) : E3.O B (grow (putRow (Value.int .i64) (Sort.ahead w q) g 0 G.toArray) os) (.slice (some ⟨g, 0, none⟩) m cap) (G.take m) := by
 have hlm : (G.take m).length = m := by simp; omega
 unfold El.O at *
 rw [hlm, E3_fl]
 rw [hn] at h
 rcases h.2 with ⟨e0, _⟩ | ⟨g', cap', cur, e0, hb, hg, hnc, hx, hs, ht⟩
 ·cases e0
 ·injection e0 with e1 _ e3
  injection e1 with e1
  injection e1 with e1
  subst e1; subst e3
  have hk : E3.k = 1 := rfl
  have hs' : cur.size = cap := by rw [hs, hk, Nat.mul_one]
  have hlt : g < w.heap.size := (Array.getElem?_eq_some_iff.1 hg).1
  refine ⟨by rw [hk]; simp; omega, .inr ⟨g, cap, putCells (Value.int .i64) 0 G.toArray cur, rfl, hb, ?_, by omega, hx, by rw [hk, Nat.mul_one]; simpa [putCells] using hs', ?_⟩⟩
  ·rw [Sort.heap_grow_old _ _ (by simpa using hlt)]
   simp [putRow, mapBlock, Sort.ahead, Array.getElem?_modify, hg, onCells]
  ·apply List.ext_getElem?
   intro j
   by_cases hj : j < m
   ·have hjc : j < cur.size := by omega
    have hjg : j < G.length := by omega
    rw [hk, Nat.mul_one, List.getElem?_take_of_lt hj, Array.getElem?_toList, List.getElem?_map, List.getElem?_take_of_lt hj, List.getElem?_eq_getElem hjg]
    simp only [putCells, Array.getElem?_mapIdx, Array.getElem?_eq_getElem hjc, Option.map_some]
    rw [if_pos (by simp; omega)]
    simp [getElem!_pos, hjg]
   ·rw [List.getElem?_eq_none (by rw [hk]; simp; omega), List.getElem?_eq_none (by simp; omega)]
theorem ch_putE {w : World} {g q : Nat} {G : Array Int} (os : Array Obj) : Ch (fun i => i = g) w (grow (putRow (Value.int .i64) (Sort.ahead w q) g 0 G) os) := by
 have hsz : (putRow (Value.int .i64) (Sort.ahead w q) g 0 G).heap.size = w.heap.size := by simp [putRow, mapBlock, Sort.ahead]
 refine ⟨rfl, rfl, rfl, ?_, fun k hk hn => ?_⟩
 ·rw [Sort.size_grow, hsz]; exact Nat.le_add_right _ _
 ·rw [Sort.heap_grow_old _ _ (by rw [hsz]; omega)]
  simp [putRow, mapBlock, Sort.ahead, Array.getElem?_modify, show g ≠ k from fun e => hn e.symm]
theorem grow_none (w : World) : grow w #[] = w := by simp [grow]
theorem own_holdsE {W : World} {B g n cap : Nat} {l : List Int} (h : E3.O B W (.slice (some ⟨g, 0, none⟩) n cap) l) : Holds (Value.int .i64) W g 0 l.toArray ∧ l.length ≤ cap ∧ g < W.heap.size ∧ B ≤ g := by
 obtain ⟨_, c', g', e, h1, h2, h3⟩ := h.shape
 cases e
 have hlt := h.lt (k := g) rfl
 refine ⟨fun j hj => ⟨?_, World.ownsRow.frozenAt h _⟩, h3, hlt.2, hlt.1⟩
 have hj' : j < l.length := by simpa using hj
 have hR : E3.R W g 0 l := h.row
 rw [E3_cell hR j hj', getElem!_pos _ j hj]
 simp
set_option maxRecDepth 100000 in
set_option maxHeartbeats 1000000 in
theorem once_any {W : World} {a : Option Addr} {cap : Nat} {l : List Int} (h : Sl E3 W a l) (hl : l.length ≤ 1000000) : Calls Tryz.prog 43 #[.slice a l.length cap] W fun e w' => ∃ a' c' l', e = .returned (.slice a' l'.length c') ∧ E3.O W.heap.size w' (.slice a' l'.length c') l' ∧ Ris l' ∧ (∀ x, x ∈ l' ↔ x ∈ l) ∧ Bel W w' := by
 have HC := jd (clone3 (cap := cap) (n := l.length) rfl h (by omega))
 by_cases h0 : l.length = 0
 ·have hl0 : l = [] := List.eq_nil_of_length_eq_zero h0
  subst hl0
  clear h hl h0
  go_enter Tryz.func43, Tryz.ntmps43
  go_wp2_with (first
   | (go_at_call 99; refine (ju HC).mono ?_; rintro e w1 ⟨a1, c1, rfl, ho1, hb1⟩; have HO1 := jd (aI ho1 hb1); clear ho1 hb1)
   | (go_at_call 107; refine (Tryz.slices_Sort_int_none _ _ _).mono ?_; rintro e w9 ⟨rfl, hw9⟩; rw [hw9]; clear hw9)
   | (go_at_call 108; refine (Tryz.slices_Compact_int_empty _ _ _).mono ?_; rintro e w9 ⟨rfl, hw9⟩; rw [hw9]; clear hw9))
  go_ret
  exact ⟨_, _, [], rfl, (ju HO1).1, List.Pairwise.nil, fun x => Iff.rfl, (ju HO1).2⟩
 ·have HL := jd hl
  have H0 := jd h0
  generalize hn : l.length = n at *
  have HN := jd hn
  clear h hl h0 hn
  go_enter Tryz.func43, Tryz.ntmps43
  go_wp2_with fail
  refine (ju HC).mono ?_
  rintro e w1 ⟨a1, c1, rfl, ho1, hb1⟩
  obtain ⟨g, rfl⟩ : ∃ g, a1 = some ⟨g, 0, none⟩ := by
   obtain ⟨a', c', g', e, h1, _⟩ := ho1.shape
   cases e
   exact ⟨g', h1 (by rw [ju HN]; exact ju H0)⟩
  obtain ⟨hH, hcap, hg, hB⟩ := own_holdsE ho1
  have HS := jd (Tryz.slices_Sort_int g 0 c1 l w1 hH hg (by rw [ju HN]; have := ju HL; omega))
  rw [ju HN] at HS
  have HO1 := jd (aI ho1 (aI hb1 (aI hcap hB)))
  clear ho1 hb1 hH hcap hg hB
  go_wp2_with fail
  refine (ju HS).mono ?_
  rintro e w2 ⟨rfl, q, os, hw2⟩
  have hzl : (l.mergeSort fun x y => decide (x ≤ y)).length = n := by rw [List.length_mergeSort]; exact ju HN
  have ho2 := own_putE (q := q) (m := n) (G := l.mergeSort fun x y => decide (x ≤ y)) os (ju HO1).1 (ju HN) hzl (Nat.le_refl _)
  rw [List.take_of_length_le (by omega), ← hw2] at ho2
  have hb2 : Bel W w2 := bel_off (ju HO1).2.1 (by rw [hw2]; exact ch_putE os) (ju HO1).2.2.2
  have hsr := sorted_ris l
  generalize l.mergeSort (fun x y => decide (x ≤ y)) = z at *
  obtain ⟨hH2, hcap2, hg2, hB2⟩ := own_holdsE ho2
  have HK := jd (Tryz.slices_Compact_int g 0 c1 z w2 hH2 (by have := ju HL; omega) hcap2)
  rw [hzl] at HK
  have HO2 := jd (aI ho2 (aI hb2 (aI hB2 (aI hzl hsr))))
  clear ho2 hb2 hH2 hcap2 hg2 hB2 hw2 hzl hsr HS
  go_wp2_with fail
  refine (ju HK).mono ?_
  rintro e w3 ⟨rfl, q3, hw3⟩
  obtain ⟨ho2, hb2, hB2, hzl, hsr⟩ := ju HO2
  have hcl := Lib.compact_length_le z
  have ho3 := own_putE (q := q3) (m := (Lib.compact z).length) (G := Lib.compact z ++ List.replicate (n - (Lib.compact z).length) 0) #[] ho2 hzl (by simp; omega) (by omega)
  rw [List.take_left, grow_none, ← hw3] at ho3
  have hb3 : Bel W w3 := bel_off hb2 (by rw [hw3, ← grow_none (putRow _ _ _ _ _)]; exact ch_putE #[]) hB2
  have HF := jd (aI ho3 (aI hsr hb3))
  clear ho2 hb2 hB2 hzl hsr hcl ho3 hb3 hw3
  generalize Lib.compact z = l' at *
  go_wp2_with fail
  go_ret
  exact ⟨_, _, l', rfl, (ju HF).1, (ju HF).2.1.1, (ju HF).2.1.2, (ju HF).2.2⟩
theorem search_any {W : World} {a : Option Addr} {cap : Nat} {M : List Int} (h : Sl E3 W a M) (hr : Ris M) (hl : M.length ≤ 1000000) (x : Int) : Calls Tryz.prog 44 #[.slice a M.length cap, .int .i64 x] W fun e w' => ∃ i, e = .returned (.tuple #[.int .i64 i, .bool (decide (x ∈ M))]) ∧ Bel W w' := by
 by_cases h0 : M.length = 0
 ·have hM : M = [] := List.eq_nil_of_length_eq_zero h0
  subst hM
  refine (Tryz.slices_BinarySearch_int_empty a cap x W).mono ?_
  rintro e w' ⟨rfl, hw⟩
  exact ⟨0, by simp, by rw [hw]; exact Bel.refl _⟩
 ·obtain ⟨g, off, hg, hR⟩ := h
  obtain rfl := hg h0
  refine (Tryz.slices_BinarySearch_int g off M.length cap M x W (Nat.le_refl _) (by omega) (fun j hj => ?_) ?_).mono ?_
  ·rw [E3_cell hR j hj]; simp [List.getD, List.getElem?_eq_getElem hj]
  ·rw [List.take_length]
   exact pw_to hr (fun h => by omega)
  ·rintro e w' ⟨rfl, q, hw⟩
   refine ⟨(List.countP (fun y => decide (y < x)) M : Nat), ?_, by rw [hw]; exact (Bel.refl _).drewN q⟩
   rw [List.take_length, List.contains_eq_mem]
set_option maxRecDepth 100000 in
set_option maxHeartbeats 1000000 in
theorem majority_any {W : World} {a b : Option Addr} {cap cap2 : Nat} {M I M' I' : List Int} (hM : Sl E3 W a M) (hI : Sl E3 W b I) (hlM : M.length ≤ 1000000) (hlI : I.length ≤ 1000000) (rM : Ris M') (mM : ∀ x, x ∈ M' ↔ x ∈ M) (rI : Ris I') (mI : ∀ x, x ∈ I' ↔ x ∈ I) (hlM' : M'.length ≤ 1000000) (hlI' : I'.length ≤ 1000000) : Calls Tryz.prog 18 #[.slice a M.length cap, .slice b I.length cap2] W fun e w' => e = .returned (.bool (decide (M'.length / 2 < I'.countP (fun x => decide (x ∈ M'))))) ∧ Bel W w' := by
 have H1 : Hid (Calls Tryz.prog 43 #[.slice a M.length cap] W fun e w' => ∃ a' c', e = .returned (.slice a' M'.length c') ∧ Sl E3 w' a' M' ∧ Bel W w') := jd ((once_any hM hlM).mono (fun e w' ⟨a', c', l', he, ho, hr, hm, hb⟩ => by
  have e1 : l' = M' := ris_ext _ _ hr rM (fun x => (hm x).trans (mM x).symm)
  subst e1
  exact ⟨a', c', he, (Sl.of ho).1, hb⟩))
 have H2 : Hid (∀ w1, Bel W w1 → Calls Tryz.prog 43 #[.slice b I.length cap2] w1 fun e w' => ∃ a' c', e = .returned (.slice a' I'.length c') ∧ Sl E3 w' a' I' ∧ Bel w1 w') := jd (fun w1 hb1 => (once_any (hI.bel hb1) hlI).mono (fun e w' ⟨a', c', l', he, ho, hr, hm, hb⟩ => by
  have e1 : l' = I' := ris_ext _ _ hr rI (fun x => (hm x).trans (mI x).symm)
  subst e1
  exact ⟨a', c', he, (Sl.of ho).1, hb⟩))
 have HRM := jd (aI rM hlM')
 generalize hbq : decide (M'.length / 2 < I'.countP (fun x => decide (x ∈ M'))) = bq
 have HBQ := jd hbq
 clear hbq
 clear hM hI rM mM rI mI
 generalize M.length = nM at *
 generalize I.length = nI at *
 generalize hnI : I'.length = n at *
 have HNI := jd hnI
 clear hnI
 go_enter Tryz.func18, Tryz.ntmps18
 go_wp2_with (first
  | (go_at_call 43; refine (ju H1).mono ?_; rintro e w1 ⟨a1, c1, rfl, hs1, hb1⟩; have HS1 := jd (aI hs1 hb1); have H3 := jd ((ju H2) _ hb1); clear hs1 hb1 H1 H2)
  | (go_at_call 43; refine (ju H3).mono ?_; rintro e w2 ⟨a2, c2, rfl, hs2, hb2⟩; have HS2 := jd (aI hs2 hb2); clear hs2 hb2 H3))
 have HM : Hid (∀ wr x, Bel w2 wr → Calls Tryz.prog 44 #[.slice a1 M'.length c1, .int .i64 x] wr fun e w' => ∃ i, e = .returned (.tuple #[.int .i64 i, .bool (decide (x ∈ M'))]) ∧ Bel wr w') := jd (fun wr x hb => search_any ((ju HS1).1.bel ((ju HS2).2.trans hb)) (ju HRM).1 (ju HRM).2 x)
 obtain ⟨g, off, hg, hR⟩ := (ju HS2).1
 have HG := jd hg
 have HR := jd hR
 have HB : Hid (Bel W w2) := jd ((ju HS1).2.trans (ju HS2).2)
 clear hg hR
 generalize hmm : M'.length = m at *
 go_loopw [6, 16] (fun vh vk wr => ∃ (k : Nat), k ≤ n ∧ vk = .int .i64 k ∧ vh = .int .i64 ((I'.take k).countP (fun x => decide (x ∈ M'))) ∧ Hid (Bel w2 wr)) (fun _ vk _ => n - (intOf vk).toNat)
 case atStart => exact ⟨0, Nat.zero_le _, rfl, rfl, jd (Bel.refl _)⟩
 case round =>
  obtain ⟨k, hk, rfl, rfl, HBr⟩ := hrel
  have hc1 : (I'.take k).countP (fun x => decide (x ∈ M')) ≤ k := Nat.le_trans List.countP_le_length (by simp; omega)
  by_cases hlt : k < n
  ·have hkl : k < I'.length := by rw [ju HNI]; exact hlt
   obtain rfl := (ju HG) (by rw [ju HNI]; omega)
   have hkn : (k : Int) < n := by omega
   have r0 := (ju HBr).cell (E3_cell (ju HR) k hkl)
   have HD : Hid ((I'.take (k + 1)).countP (fun x => decide (x ∈ M')) = (I'.take k).countP (fun x => decide (x ∈ M')) + (if decide (I'[k] ∈ M') = true then 1 else 0)) := jd (by
    rw [List.take_add_one, List.getElem?_eq_getElem hkl, List.countP_append]
    simp [List.countP_cons])
   generalize I'[k] = x at *
   generalize (I'.take k).countP (fun x => decide (x ∈ M')) = c at *
   have HC := jd ((ju HM) wr x (ju HBr))
   cases hx : decide (x ∈ M') with
   | true =>
    rw [hx] at HC HD
    go_wp2_with (first
     | (go_at_call 44; refine (ju HC).mono ?_; rintro e w3 ⟨i3, rfl, hb3⟩; have HB3 := jd ((ju HBr).trans hb3); clear hb3))
    go_roundw
    case rel => exact ⟨k + 1, by omega, by go_num, by rw [ju HD]; simp; try omega, HB3⟩
    case measure => simp [intOf]; omega
   | false =>
    rw [hx] at HC HD
    go_wp2_with (first
     | (go_at_call 44; refine (ju HC).mono ?_; rintro e w3 ⟨i3, rfl, hb3⟩; have HB3 := jd ((ju HBr).trans hb3); clear hb3))
    go_roundw
    case rel => exact ⟨k + 1, by omega, by go_num, by rw [ju HD]; simp, HB3⟩
    case measure => simp [intOf]; omega
  ·obtain rfl : k = n := by omega
   have HT : Hid (I'.take k = I') := jd (List.take_of_length_le (by rw [ju HNI]; omega))
   rw [ju HT] at hc1 ⊢
   generalize I'.countP (fun x => decide (x ∈ M')) = c at *
   have hc2 : (c : Int) ≤ 1000000 := by omega
   by_cases hq : m / 2 < c
   ·have hq' : (m : Int) / 2 < c := by omega
    have HQ : Hid (bq = true) := jd (by rw [← ju HBQ, decide_eq_true hq])
    clear hq
    go_wp2_with fail
    all_goals
     go_ret
     exact ⟨by rw [ju HQ]; first | rfl | (simp; omega), (ju HB).trans (ju HBr)⟩
   ·have hq' : ¬ ((m : Int) / 2 < c) := by omega
    have HQ : Hid (bq = false) := jd (by rw [← ju HBQ, decide_eq_false hq])
    clear hq
    go_wp2_with fail
    all_goals
     go_ret
     exact ⟨by rw [ju HQ]; first | rfl | (simp; omega), (ju HB).trans (ju HBr)⟩
set_option maxRecDepth 100000 in
theorem notme_any {W : World} {b : Nat} {id : Int} (h : W.cell? ⟨b, 0, none⟩ = some (.int .i64 id)) (y : Int) : Calls Tryz.prog 207 #[.int .i64 y, .pointer (some ⟨b, 0, none⟩)] W fun e w' => e = .returned (.bool (y == id)) ∧ w' = W := by
 go_enter Tryz.func207, Tryz.ntmps207
 go_wp2_with fail
 go_ret
 exact ⟨rfl, rfl⟩
theorem En52 : ∀ args w, (callFunc 207 args).run Tryz.prog w = .ok (.enter 207 args) w := enters_of Tryz.func207 (by kernel_rfl) rfl
theorem delete_any {B : Nat} {w : World} {b g n cap : Nat} {id : Int} {cs : Array Value} {l : List Int} (hr : w.heap[b]? = some (.cells cs 31)) (hid : cs[0]? = some (.int .i64 id)) (hO : E3.O B w (.slice (some ⟨g, 0, none⟩) n cap) l) (hn : l.length = n) (hl : n ≤ 1000000) : Calls Tryz.prog 88 #[.slice (some ⟨g, 0, none⟩) n cap, .func (.func 207) #[] #[.pointer (some ⟨b, 0, none⟩)]] w fun e w' => e = .returned (.slice (some ⟨g, 0, none⟩) (l.filter fun x => !(x == id)).length cap) ∧ E3.O B w' (.slice (some ⟨g, 0, none⟩) (l.filter fun x => !(x == id)).length cap) (l.filter fun x => !(x == id)) ∧ Ch (fun i => i = g) w w' := by
 obtain ⟨hH, hcap, hg, hB⟩ := own_holdsE hO
 have hbg : b ≠ g := fun e => by
  obtain ⟨c, hc⟩ := hO.block (k := g) rfl
  rw [← e, hr] at hc
  injection (Option.some.inj hc) with _ h2
  exact absurd h2 (by decide)
 have hc : w.cell? ⟨b, 0, none⟩ = some (.int .i64 id) := (cell_of hr).trans hid
 have h := Tryz.slices_DeleteFunc (Value.int .i64) (fun x => rfl) (fun x => x == id) 207 #[.pointer (some ⟨b, 0, none⟩)] En52 (0 : Int) (fun w => by go_simp) g 0 cap l.toArray w ?_ ?_ hH (by simp; omega) (by simpa using hcap)
 ·rw [show l.toArray.size = n by simpa using hn] at h
  refine h.mono ?_
  rintro e w' ⟨rfl, q, hw'⟩
  have hfl : (l.filter fun x => !(x == id)).length ≤ n := by rw [← hn]; exact List.length_filter_le _ _
  have ho3 := own_putE (q := q) (m := (l.filter fun x => !(x == id)).length) (G := (l.filter fun x => !(x == id)) ++ List.replicate (n - (l.filter fun x => !(x == id)).length) 0) #[] hO hn (by simp; omega) hfl
  rw [List.take_left, grow_none, ← hw'] at ho3
  exact ⟨rfl, ho3, by rw [hw', ← grow_none (putRow _ _ _ _ _)]; exact ch_putE #[]⟩
 ·intro W x hb
  have hcW : W.cell? ⟨b, 0, none⟩ = some (.int .i64 id) := Bel.cell hb hc
  refine (notme_any hcW x).mono ?_
  rintro e w' ⟨rfl, hw⟩
  exact ⟨rfl, 0, by rw [hw]; rfl⟩
 ·intro n os dk x hdk
  have hcW : (sortWorld (Value.int .i64) w g 0 n dk os).cell? ⟨b, 0, none⟩ = some (.int .i64 id) := (cell_of ((ch_putE (w := w) (g := g) (q := n) (G := dk) os).row hr hbg)).trans hid
  refine (notme_any hcW x).mono ?_
  rintro e w' ⟨rfl, hw⟩
  exact ⟨rfl, 0, by rw [hw]; rfl⟩
section
variable {ops : Array Oper} {Q : Exit → Act → World → Prop} {md : Region.Mode} {S : World → Prop} {i : Nat} {o : Oper} {fuel : Nat} {listed : Array Bool} {a : Act} {w : World}
theorem tk3 {a b c : Bool} (h : (a && b && c) = true) : a = true ∧ b = true ∧ c = true := by
 simpa [and_assoc] using h
theorem any_take {v : Value} (hi : ops[i]? = some o) (hs : (Region.noSelect ops && Region.free md ops listed i && (Region.ready md ops listed).contains i) = true) (hQ : ∀ c a w, Q (.panic c) (a.put o.dst v) w → Q (.panic c) a w) (hw : Region.wanted o (yielded ops a.tmps) = true) (hS : S w) (hy : ∀ w, S w → (execOp a.eval o).run Tryz.prog w = .ok (.value v) w)
  (h : wpAnyH Tryz.prog md ops Q S fuel (listed.setIfInBounds i true) (a.put o.dst v) w) : wpAnyH Tryz.prog md ops Q S (fuel + 1) listed a w := wpAnyH_take hi (tk3 hs).1 (tk3 hs).2.1 (tk3 hs).2.2 hQ (.inl ⟨hw, hy⟩) hS h
theorem any_call {f : FuncId} {args : Array Value} {R : Ending → World → Prop} (hr : Region.ready md ops listed = [i]) (hi : ops[i]? = some o) (hw : Region.wanted o (yielded ops a.tmps) = true) (hrun : (execOp a.eval o).run Tryz.prog w = .ok (.enter f args) w) (hc : Calls Tryz.prog f args w R)
  (hK : ∀ e w', R e w' → ∃ v, e = .returned v ∧ S w' ∧ wpAnyH Tryz.prog md ops Q S fuel (listed.setIfInBounds i true) (a.put o.dst v) w') : wpAnyH Tryz.prog md ops Q S (fuel + 1) listed a w := by
 refine wpAnyH_all hr (by simp) (fun j hj => ?_)
 rw [List.mem_singleton.1 hj]
 unfold wpOp
 simp only [hi, hw, if_true, Oper.wp, hrun, Oper.upon_enter]
 refine .inl (hc.mono ?_)
 intro e w' he
 obtain ⟨v, rfl, h1, h2⟩ := hK e w' he
 exact ⟨h1, h2⟩
theorem any_do {v : Value} {w' : World} (hr : Region.ready md ops listed = [i]) (hi : ops[i]? = some o) (hw : Region.wanted o (yielded ops a.tmps) = true) (hrun : (execOp a.eval o).run Tryz.prog w = .ok (.value v) w')
  (hK : S w' ∧ wpAnyH Tryz.prog md ops Q S fuel (listed.setIfInBounds i true) (a.put o.dst v) w') : wpAnyH Tryz.prog md ops Q S (fuel + 1) listed a w := by
 refine wpAnyH_all hr (by simp) (fun j hj => ?_)
 rw [List.mem_singleton.1 hj]
 unfold wpOp
 simp only [hi, hw, if_true, Oper.wp, hrun, Oper.upon_value]
 exact .inl hK
end
theorem E65_cell {W : World} {g off : Nat} {l : List (Int × Int × Int)} (h : E65.R W g off l) (j : Nat) (hj : j < l.length) : W.cell? ⟨g, off + j * 3, none⟩ = some (.int .i64 l[j].1) ∧ W.cell? ⟨g, off + j * 3 + 1, none⟩ = some (.int .u64 l[j].2.1) ∧ W.cell? ⟨g, off + j * 3 + 2, none⟩ = some (.int .u64 l[j].2.2) := by
 have h0 := h j hj 0 _ rfl
 have h1 := h j hj 1 _ rfl
 have h2 := h j hj 2 _ rfl
 exact ⟨by simpa [E65] using h0, by simpa [E65] using h1, by simpa [E65] using h2⟩
theorem bx_ldG {ops : Array Oper} {rest : List Oper} {o : Oper} {a : Act} {Q : Exit → Act → World → Prop} {W : World} (hw : Region.wanted o (yielded ops a.tmps) = true) (t : TypeId) (x : Operand) (ho : o.op = .load t x) (b : Nat) (hx : a.eval x = .pointer (some ⟨b, 0, none⟩)) (cs : Array Value) (fs : Array Field) (hg : W.heap[b]? = some (.cells cs t)) (hu : Tryz.prog.underlying t = some (.struct fs)) (hi : (Tryz.prog.info? t).map (·.size) = some cs.size)
  (h : wpList Tryz.prog ops Q rest (a.put o.dst (.agg cs)) W) : wpList Tryz.prog ops Q (o :: rest) a W :=
 wpList_step fun K hK => by
  rw [if_pos hw]
  exact wp_load_row t x ho b hx t cs (0, 0) _ hg hu rfl hi (hK _ _ h)
theorem El.O.box {α : Type} {E : El α} {base : Nat} {W W' : World} {v : Value} {L : List α} {b : Nat} {c : Array Value} {t : Nat} (h : E.O base W v L) (hr : W.heap[b]? = some (.cells c t)) (ht : E.e ≠ t) (hc : Ch (fun k => k = b) W W') : E.O base W' v L :=
 h.at (fun k hk => hc.block k (h.lt hk).2 (fun e => by
  obtain ⟨c2, hc2⟩ := h.block hk
  rw [e, hr] at hc2
  injection (Option.some.inj hc2) with _ h2
  exact ht h2.symm))
end Go.Proofs.YthekbhliokcpcaaGreat
namespace Go.Proofs.YthekbhliokcpcaaGreat
open Go.RowKit Go.Maps
theorem El.fl_cell {α : Type} {E : El α} (L : List α) (i : Nat) (hi : i < L.length) (c : Nat) (hc : c < E.k) (v : Value) (x' : α) (he : E.enc x' = (E.enc L[i]).set c v) : (E.fl L).set (i * E.k + c) v = E.fl (L.set i x') := by
 have hk := E.hk
 apply List.ext_getElem?
 intro t
 by_cases ht : t < L.length * E.k
 ·have hj : t / E.k < L.length := (Nat.div_lt_iff_lt_mul hk).2 ht
  have hr : t % E.k < E.k := Nat.mod_lt _ hk
  have e : t = t / E.k * E.k + t % E.k := by rw [Nat.mul_comm]; exact (Nat.div_add_mod t E.k).symm
  rw [e, El.fl_at E (L.set i x') _ _ (by rw [List.length_set]; exact hj) hr]
  by_cases h1 : t / E.k = i
  ·have hset : (L.set i x')[t / E.k]'(by rw [List.length_set]; exact hj) = x' := by
    rw [List.getElem_set, if_pos h1.symm]
   rw [hset, he, h1]
   by_cases h2 : t % E.k = c
   ·rw [h2, List.getElem?_set, if_pos rfl, List.getElem?_set, if_pos rfl, E.fl_len, E.len]
    rw [if_pos (by rw [← h2, ← h1]; rw [← e]; exact ht), if_pos hc]
   ·rw [List.getElem?_set, if_neg (by omega), List.getElem?_set, if_neg (by omega), El.fl_at E L i _ hi hr]
  ·have hset : (L.set i x')[t / E.k]'(by rw [List.length_set]; exact hj) = L[t / E.k] := by
    rw [List.getElem_set, if_neg (fun e => h1 e.symm)]
   rw [hset, List.getElem?_set, if_neg, El.fl_at E L _ _ hj hr]
   intro h3
   apply h1
   have : (i * E.k + c) / E.k = (t / E.k * E.k + t % E.k) / E.k := by rw [h3]
   rw [Nat.mul_comm i, Nat.mul_add_div hk, Nat.div_eq_of_lt hc, Nat.mul_comm (t / E.k), Nat.mul_add_div hk, Nat.div_eq_of_lt hr] at this
   omega
 ·rw [List.getElem?_eq_none (by rw [List.length_set, E.fl_len]; omega), List.getElem?_eq_none (by rw [E.fl_len, List.length_set]; omega)]
theorem El.O.cell {α : Type} {E : El α} {base : Nat} {W : World} {g cap m : Nat} {L : List α} (h : E.O base W (.slice (some ⟨g, 0, none⟩) m cap) L) (i : Nat) (hi : i < L.length) (c : Nat) (hc : c < E.k) (v : Value) (x' : α) (he : E.enc x' = (E.enc L[i]).set c v) : E.O base (W.setCell ⟨g, i * E.k + c, none⟩ v) (.slice (some ⟨g, 0, none⟩) m cap) (L.set i x') := by
 have hm : m = L.length := by
  obtain ⟨a', c', g', e, _⟩ := h.shape
  injection e with _ e2
 subst hm
 have := (World.ownsRow.stored h (i * E.k + c) v).1
 rw [El.fl_cell L i hi c hc v x' he] at this
 unfold El.O
 rw [List.length_set]
 exact this
theorem eqlG (ad : Option Addr) (n cap : Nat) (W : World) : (binOp BinOp.eql 27 (.slice ad n cap) (.slice none 0 0)).run Tryz.prog W = .ok (.bool ad.isNone) W := by
 simp only [binOp]
 simp [Op.equal, Op.maxDepth, Lib.run_equalIn_slice_nil W 9999 27 _ ad n cap 0 0 Tryz.underlying27]
set_option maxRecDepth 100000 in
set_option maxHeartbeats 1000000 in
theorem cloneG {W : World} {a : Option Addr} {n cap : Nat} {l : List (GE × GA)} (hn : l.length = n) (hR : Sl EG W a l) (hl : n ≤ 10000000000) : Calls Tryz.prog 148 #[.slice a n cap] W fun e w' => ∃ a' c', e = .returned (.slice a' n c') ∧ EG.O W.heap.size w' (.slice a' n c') l ∧ Bel W w' := by
 have HR := jd hR
 have HN := jd hn
 have HL := jd hl
 have hq := eqlG a n cap
 cases a with
 | none =>
  have h0 : l = [] := by
   obtain ⟨g, off, h1, _⟩ := hR
   cases l with
   | nil => rfl
   | cons x l => exact absurd (h1 (by simp)) (by simp)
  subst h0
  obtain rfl : n = 0 := by simpa using hn.symm
  clear hR hn hl
  go_enter Tryz.func148, Tryz.ntmps148
  go_wp2_with fail
  go_ret
  exact ⟨_, _, rfl, El.O.nil _ _, Bel.refl _⟩
 | some ad =>
  clear hR hn hl
  go_enter Tryz.func148, Tryz.ntmps148
  go_wp2_with (first
   | (at_builtin; refine app_el (E := EG) (L := []) l (El.O.made W) (by simp) (some ad) n cap (ju HN) ((ju HR).bel ((Bel.refl W).alloc _)) (by have := ju HL; have := ju HN; simp; omega) rfl _ _ 27 rfl rfl rfl rfl ?_; intro v' w' ho hg; rw [List.nil_append] at ho; obtain ⟨a', c', g', hv', _, _, _⟩ := ho.shape; rw [ju HN] at hv'; subst hv'; have HF := jd (aI ho (bel_grown ((Bel.refl W).alloc _) hg (fun z hz => by cases hz; exact Nat.le_refl _))); clear ho hg))
  go_ret
  exact ⟨_, _, rfl, (ju HF).1, (ju HF).2⟩
theorem eqlR (ad : Option Addr) (n cap : Nat) (W : World) : (binOp BinOp.eql 29 (.slice ad n cap) (.slice none 0 0)).run Tryz.prog W = .ok (.bool ad.isNone) W := by
 simp only [binOp]
 simp [Op.equal, Op.maxDepth, Lib.run_equalIn_slice_nil W 9999 29 _ ad n cap 0 0 Tryz.underlying29]
set_option maxRecDepth 100000 in
set_option maxHeartbeats 1000000 in
theorem cloneR {W : World} {a : Option Addr} {n cap : Nat} {l : List (GR × GA)} (hn : l.length = n) (hR : Sl ER W a l) (hl : n ≤ 10000000000) : Calls Tryz.prog 102 #[.slice a n cap] W fun e w' => ∃ a' c', e = .returned (.slice a' n c') ∧ ER.O W.heap.size w' (.slice a' n c') l ∧ Bel W w' := by
 have HR := jd hR
 have HN := jd hn
 have HL := jd hl
 have hq := eqlR a n cap
 cases a with
 | none =>
  have h0 : l = [] := by
   obtain ⟨g, off, h1, _⟩ := hR
   cases l with
   | nil => rfl
   | cons x l => exact absurd (h1 (by simp)) (by simp)
  subst h0
  obtain rfl : n = 0 := by simpa using hn.symm
  clear hR hn hl
  go_enter Tryz.func102, Tryz.ntmps102
  go_wp2_with fail
  go_ret
  exact ⟨_, _, rfl, El.O.nil _ _, Bel.refl _⟩
 | some ad =>
  clear hR hn hl
  go_enter Tryz.func102, Tryz.ntmps102
  go_wp2_with (first
   | (at_builtin; refine app_el (E := ER) (L := []) l (El.O.made W) (by simp) (some ad) n cap (ju HN) ((ju HR).bel ((Bel.refl W).alloc _)) (by have := ju HL; have := ju HN; simp; omega) rfl _ _ 29 rfl rfl rfl rfl ?_; intro v' w' ho hg; rw [List.nil_append] at ho; obtain ⟨a', c', g', hv', _, _, _⟩ := ho.shape; rw [ju HN] at hv'; subst hv'; have HF := jd (aI ho (bel_grown ((Bel.refl W).alloc _) hg (fun z hz => by cases hz; exact Nat.le_refl _))); clear ho hg))
  go_ret
  exact ⟨_, _, rfl, (ju HF).1, (ju HF).2⟩
structure Gq (W wr : World) (a : Option Addr) (n c : Nat) (L L' : List (GE × GA)) (k : Nat) : Prop where
 len : L'.length = n
 map : L'.map (·.1) = L.map (·.1)
 row : EG.O W.heap.size wr (.slice a n c) L'
 own : ∀ (i : Nat) (x : GE × GA), i < k → L'[i]? = some x → E3.O W.heap.size wr (.slice x.2.a x.1.m.length x.2.c) x.1.m
 rest : ∀ i, k ≤ i → L'[i]? = L[i]?
 bel : Bel W wr
theorem Gq.next {W wr w9 : World} {g n c : Nat} {L L' : List (GE × GA)} {k : Nat} (h : Gq W wr (some ⟨g, 0, none⟩) n c L L' k) (hk : k < n) {a9 : Option Addr} {c9 : Nat} {m : List Int} (hm : ∀ x, L'[k]? = some x → x.1.m = m) (hb : Bel wr w9) (ho : E3.O W.heap.size w9 (.slice a9 m.length c9) m) : ∃ L'', Gq W (w9.setCell ⟨g, k * 4 + 3, none⟩ (.slice a9 m.length c9)) (some ⟨g, 0, none⟩) n c L L'' (k + 1) := by
 have hkl : k < L'.length := by rw [h.len]; exact hk
 have hmk : L'[k].1.m = m := hm _ (List.getElem?_eq_getElem hkl)
 have hrow := h.row.bel hb
 have hcell := hrow.cell k hkl 3 (by decide) (.slice a9 m.length c9) (L'[k].1, ⟨a9, c9⟩) (by
  show encG _ = (encG _).set 3 _
  unfold encG
  simp [hmk])
 obtain ⟨cur, hcur⟩ := hrow.block (k := g) rfl
 have hch : Ch (fun i => i = g) w9 (w9.setCell ⟨g, k * 4 + 3, none⟩ (.slice a9 m.length c9)) := Ch.set (ad := ⟨g, k * 4 + 3, none⟩) (Ch.refl (fun i => i = g) w9) (Or.inl rfl) _
 have hlt := hrow.lt (k := g) rfl
 refine ⟨_, by rw [List.length_set]; exact h.len, ?_, hcell, ?_, ?_, bel_off (h.bel.trans hb) hch hlt.1⟩
 ·rw [List.map_set, ← h.map]
  apply List.ext_getElem?
  intro t
  rw [List.getElem?_set]
  split
  ·next e => subst e; rw [List.length_map, if_pos hkl, List.getElem?_map, List.getElem?_eq_getElem hkl]; rfl
  ·rfl
 ·intro i x hi hx
  rw [List.getElem?_set] at hx
  split at hx
  ·next e =>
   first
    | rw [if_pos hkl] at hx
    | skip
   obtain rfl := Option.some.inj hx
   simp only
   rw [hmk]
   exact ho.box hcur (by decide) hch
  ·next e => exact ((h.own i x (by omega) hx).bel hb).box hcur (by decide) hch
 ·intro i hi
  rw [List.getElem?_set, if_neg (by omega)]
  exact h.rest i (by omega)
set_option maxRecDepth 100000 in
set_option maxHeartbeats 2000000 in
theorem entries_g {W : World} {a : Option Addr} {n cap : Nat} {L : List (GE × GA)} (hn : L.length = n) (hR : Sl EG W a L) (hG : Gm W L) (hl : n ≤ 1000000) (hm : ∀ x ∈ L, x.1.m.length ≤ 17592186044416) : Calls Tryz.prog 101 #[.slice a n cap] W fun e w' => ∃ a' c' L', e = .returned (.slice a' n c') ∧ L'.map (·.1) = L.map (·.1) ∧ EG.O W.heap.size w' (.slice a' n c') L' ∧ (∀ x ∈ L', E3.O W.heap.size w' (.slice x.2.a x.1.m.length x.2.c) x.1.m) ∧ Bel W w' := by
 have HL : Hid (Calls Tryz.prog 148 #[.slice a n cap] W fun e w' => ∃ a' c', e = .returned (.slice a' n c') ∧ EG.O W.heap.size w' (.slice a' n c') L ∧ Bel W w') := jd (cloneG hn hR (by omega))
 have HC : Hid (∀ (x : GE × GA) (w' : World), x ∈ L → Bel W w' → Calls Tryz.prog 99 #[.slice x.2.a x.1.m.length x.2.c] w' fun e w'' => ∃ a' c', e = .returned (.slice a' x.1.m.length c') ∧ E3.O W.heap.size w'' (.slice a' x.1.m.length c') x.1.m ∧ Bel w' w'') := jd (fun x w' hx hb => (clone3w rfl ((hG x hx).bel hb) (by have := hm x hx; omega)).mono (fun e w'' ⟨a', c', he, ho, hb'⟩ => ⟨a', c', he, ho.mono hb.size, hb'⟩))
 have HN := jd hn
 clear hR hn hG hm
 go_enter Tryz.func101, Tryz.ntmps101
 go_wp2_with (first
  | (go_at_call 148; refine (ju HL).mono ?_; rintro e w1 ⟨a1, c1, rfl, ho1, hb1⟩; have HJ : Hid (∃ L', Gq W w1 a1 n c1 L L' 0) := jd ⟨L, ju HN, rfl, ho1, (fun i x h => absurd h (Nat.not_lt_zero _)), fun i _ => rfl, hb1⟩; clear ho1 hb1))
 go_loopw [8] (fun vk wr => ∃ k : Nat, k ≤ n ∧ vk = .int .i64 k ∧ Hid (∃ L', Gq W wr a1 n c1 L L' k)) (fun vk _ => n - (intOf vk).toNat)
 case atStart => exact ⟨0, Nat.zero_le _, rfl, HJ⟩
 case round =>
  obtain ⟨k, hk, rfl, HJr⟩ := hrel
  by_cases hlt : k < n
  ·have hkn : (k : Int) < n := by omega
   obtain ⟨L', hJ⟩ := HJr.out
   have hkl : k < L'.length := by rw [hJ.len]; exact hlt
   have ho := hJ.row
   obtain ⟨g, rfl⟩ : ∃ g, a1 = some ⟨g, 0, none⟩ := by
    obtain ⟨a', c', g', e, h1, _⟩ := ho.shape
    injection e with e1
    exact ⟨g', e1.trans (h1 (by omega))⟩
   have hR : EG.R wr g 0 L' := by
    obtain ⟨a', c', g', e, h1, h2, _⟩ := ho.shape
    injection e with e1
    have e2 := e1.trans (h1 (by omega))
    injection e2 with e2
    injection e2 with e2
    rw [e2]; exact h2
   obtain ⟨cur, hcur⟩ := ho.block (k := g) rfl
   obtain ⟨_, _, _, r3⟩ := EG_cell hR k hkl
   have hfr : wr.frozen? ⟨g, k * 4 + 3, none⟩ = false := free_row (W := wr) hcur
   rw [Nat.zero_add] at r3
   have hxL : L'[k] ∈ L := by
    have := hJ.rest k (Nat.le_refl _)
    rw [List.getElem?_eq_getElem hkl] at this
    exact List.mem_of_getElem? this.symm
   have HC2 := jd ((ju HC) L'[k] wr hxL hJ.bel)
   have HM : Hid (∀ x, L'[k]? = some x → x.1.m = L'[k].1.m) := jd (fun x hx => by rw [List.getElem?_eq_getElem hkl] at hx; obtain rfl := Option.some.inj hx; rfl)
   have HJ2 := jd hJ
   have HCU := jd hcur
   clear hR hcur ho hJ hxL
   generalize hmm : L'[k].1.m = mm at *
   generalize L'[k].2 = ax at *
   clear hmm
   go_wp2_with (first
    | (go_at_call 99; refine (ju HC2).mono ?_; rintro e w9 ⟨a9, c9, rfl, ho9, hb9⟩; have z3 := hb9.cell r3; have zf : w9.frozen? ⟨g, k * 4 + 3, none⟩ = false := free_row (W := w9) (hb9.row (ju HCU)); have HO9 := jd (aI ho9 hb9); clear ho9 hb9))
   go_roundw
   case rel => exact ⟨k + 1, by omega, by go_num, jd ((ju HJ2).next hlt (ju HM) (ju HO9).2 (ju HO9).1)⟩
   case measure => simp [intOf]; omega
  ·obtain rfl : k = n := by omega
   obtain ⟨L', hJ⟩ := HJr.out
   have HJ2 := jd hJ
   clear hJ
   go_wp2_with fail
   go_ret
   exact ⟨_, _, L', rfl, (ju HJ2).map, (ju HJ2).row, fun x hx => by
    obtain ⟨i, hi, e⟩ := List.getElem_of_mem hx
    exact (ju HJ2).own i x (by rw [← (ju HJ2).len]; exact hi) (by rw [List.getElem?_eq_getElem hi, e]), (ju HJ2).bel⟩
def g0 : GP := ⟨0, [], 0, 0, 0, 0, 0, 0, [], ⟨#[]⟩, [], 0, 0, 0, [], [], 0, []⟩
def y0 : Px := ⟨none, 0, none, 0, none, 0, none, 0, none, 0, none, 0⟩
theorem Tryz.zeroP (w : World) : (zeroValue 31).run Tryz.prog w = .ok (.agg (gc g0 y0)) w := by
 unfold gc g0 y0
 go_simp
end Go.Proofs.YthekbhliokcpcaaGreat
