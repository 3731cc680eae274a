/- once: the numbers rising, each once. Majority. seated, others. -/
import Derived.Test.YthekbhliokcpcaaGreatNmen
import Derived.Test.YthekbhliokcpcaaGreatShe
import Derived.Lib.SlicesCompact
import Derived.Lib.RowBridge
namespace Go.Proofs.YthekbhliokcpcaaGreat
open Go.RowKit Go.Maps Go.Sort
theorem ris_ext : ∀ (a b : List Int), Ris a → Ris b → (∀ x, x ∈ a ↔ x ∈ b) → a = b
  | [], [], _, _, _ => rfl
  | [], y :: b, _, _, h => by have := (h y).2 List.mem_cons_self; cases this
  | x :: a, [], _, _, h => by have := (h x).1 List.mem_cons_self; cases this
  | x :: a, y :: b, ha, hb, h => by
    obtain ⟨ha1, ha2⟩ := List.pairwise_cons.1 ha
    obtain ⟨hb1, hb2⟩ := List.pairwise_cons.1 hb
    have e : x = y := by
      rcases List.mem_cons.1 ((h x).1 List.mem_cons_self) with h1 | h1
      · exact h1
      · rcases List.mem_cons.1 ((h y).2 List.mem_cons_self) with h2 | h2
        · exact h2.symm
        · have := hb1 x h1
          have := ha1 y h2
          omega
    subst e
    rw [ris_ext a b ha2 hb2 (fun z => ⟨fun hz => ?_, fun hz => ?_⟩)]
    · rcases List.mem_cons.1 ((h z).1 (List.mem_cons_of_mem _ hz)) with h1 | h1
      · have := ha1 z hz; omega
      · exact h1
    · rcases List.mem_cons.1 ((h z).2 (List.mem_cons_of_mem _ hz)) with h1 | h1
      · have := hb1 z hz; omega
      · exact h1
/-- Of a list that does not fall, made compact: rising, of the same members. -/
theorem compact_ris (d : Array Int) (hd : ∀ i j, i ≤ j → j < d.size → d[i]! ≤ d[j]!) : ∀ m, m ≤ d.size →
    Ris (Lib.compactUpTo d m) ∧ (∀ x, x ∈ Lib.compactUpTo d m ↔ ∃ j, j < m ∧ d[j]! = x)
  | 0, _ => by simp [Lib.compactUpTo, Ris]
  | m + 1, hm => by
    obtain ⟨h1, h2⟩ := compact_ris d hd m (by omega)
    rw [Lib.compactUpTo_succ]
    cases hk : Lib.keeps d m with
    | true =>
      simp only [if_true]
      refine ⟨List.pairwise_append.2 ⟨h1, by simp, fun a ha b hb => ?_⟩, fun x => ?_⟩
      · rw [List.mem_singleton.1 hb]
        obtain ⟨j, hj, rfl⟩ := (h2 a).1 ha
        have hne : d[m]! ≠ d[m - 1]! := by
          have := of_decide_eq_true hk
          rcases this with h | h
          · omega
          · exact h
        have h3 := hd j (m - 1) (by omega) (by omega)
        have h4 := hd (m - 1) m (by omega) (by omega)
        omega
      · rw [List.mem_append, h2, List.mem_singleton]
        constructor
        · rintro (⟨j, hj, e⟩ | e)
          · exact ⟨j, by omega, e⟩
          · exact ⟨m, by omega, e.symm⟩
        · rintro ⟨j, hj, e⟩
          by_cases hjm : j = m
          · right; rw [← e, hjm]
          · left; exact ⟨j, by omega, e⟩
    | false =>
      rw [if_neg (by simp), List.append_nil]
      refine ⟨h1, fun x => ?_⟩
      have hk' : ¬ (m = 0 ∨ d[m]! ≠ d[m - 1]!) := of_decide_eq_false hk
      have hm0 : m ≠ 0 := fun h => hk' (Or.inl h)
      have he : d[m]! = d[m - 1]! := Classical.byContradiction fun h => hk' (Or.inr h)
      rw [h2]
      constructor
      · rintro ⟨j, hj, e⟩
        exact ⟨j, by omega, e⟩
      · rintro ⟨j, hj, e⟩
        by_cases hjm : j = m
        · exact ⟨m - 1, by omega, by rw [← he, ← hjm]; exact e⟩
        · exact ⟨j, by omega, e⟩
theorem sorted_ris (l : List Int) : Ris (Lib.compact (l.mergeSort fun x y => decide (x ≤ y))) ∧ ∀ x, x ∈ Lib.compact (l.mergeSort fun x y => decide (x ≤ y)) ↔ x ∈ l := by
  have hs : (l.mergeSort fun x y => decide (x ≤ y)).Pairwise (fun a b => decide (a ≤ b) = true) := List.pairwise_mergeSort (fun a b c h1 h2 => by
      simp only [decide_eq_true_eq] at *
      omega) (fun a b => by
      simp only [Bool.or_eq_true, decide_eq_true_eq]
      omega) l
  have hp : (l.mergeSort fun x y => decide (x ≤ y)).Perm l := List.mergeSort_perm l _
  generalize l.mergeSort (fun x y => decide (x ≤ y)) = z at *
  have h := compact_ris z.toArray (fun i j hij hj => by
    have hj' : j < z.length := by simpa using hj
    rw [getElem!_pos _ i (by simp; omega), getElem!_pos _ j hj]
    by_cases he : i = j
    · subst he; exact Int.le_refl _
    · have := List.pairwise_iff_getElem.1 hs i j (by omega) hj' (by omega)
      simpa using this) z.length (by simp)
  refine ⟨h.1, fun x => (h.2 x).trans ⟨?_, fun hx => ?_⟩⟩
  · rintro ⟨j, hj, rfl⟩
    rw [getElem!_pos _ j (by simpa using hj)]
    exact hp.mem_iff.1 (by simp)
  · obtain ⟨j, hj, e⟩ := List.mem_iff_getElem.1 (hp.mem_iff.2 hx)
    exact ⟨j, hj, by rw [getElem!_pos _ j (by simpa using hj)]; simpa using e⟩
theorem E3_fl (l : List Int) : E3.fl l = l.map (Value.int .i64) := by
  induction l with
  | nil => rfl
  | cons x l ih => unfold El.fl at *; rw [List.flatMap_cons, ih]; rfl
/-- What was laid over a row that is owned. -/
theorem own_putE {w : World} {B g n cap q m : Nat} {l G : List Int} (os : Array Obj) (h : E3.O B w (.slice (some ⟨g, 0, none⟩) n cap) l) (hn : l.length = n) (hG : G.length = n) (hm : m ≤ n) : E3.O B (grow (putRow (Value.int .i64) (Sort.ahead w q) g 0 G.toArray) os) (.slice (some ⟨g, 0, none⟩) m cap) (G.take m) := by
  have hlm : (G.take m).length = m := by simp; omega
  unfold El.O at *
  rw [hlm, E3_fl]
  rw [hn] at h
  rcases h.2 with ⟨e0, _⟩ | ⟨g', cap', cur, e0, hb, hg, hnc, hx, hs, ht⟩
  · cases e0
  · injection e0 with e1 _ e3
    injection e1 with e1
    injection e1 with e1
    subst e1; subst e3
    have hk : E3.k = 1 := rfl
    have hs' : cur.size = cap := by rw [hs, hk, Nat.mul_one]
    have hlt : g < w.heap.size := (Array.getElem?_eq_some_iff.1 hg).1
    refine ⟨by rw [hk]; simp; omega, .inr ⟨g, cap, putCells (Value.int .i64) 0 G.toArray cur, rfl, hb, ?_, by omega, hx, by rw [hk, Nat.mul_one]; simpa [putCells] using hs', ?_⟩⟩
    · rw [Sort.heap_grow_old _ _ (by simpa using hlt)]
      simp [putRow, mapBlock, Sort.ahead, Array.getElem?_modify, hg, onCells]
    · apply List.ext_getElem?
      intro j
      by_cases hj : j < m
      · have hjc : j < cur.size := by omega
        have hjg : j < G.length := by omega
        rw [hk, Nat.mul_one, List.getElem?_take_of_lt hj, Array.getElem?_toList, List.getElem?_map, List.getElem?_take_of_lt hj, List.getElem?_eq_getElem hjg]
        simp only [putCells, Array.getElem?_mapIdx, Array.getElem?_eq_getElem hjc, Option.map_some]
        rw [if_pos (by simp; omega)]
        simp [getElem!_pos, hjg]
      · rw [List.getElem?_eq_none (by rw [hk]; simp; omega), List.getElem?_eq_none (by simp; omega)]
theorem ch_putE {w : World} {g q : Nat} {G : Array Int} (os : Array Obj) : Ch (fun i => i = g) w (grow (putRow (Value.int .i64) (Sort.ahead w q) g 0 G) os) := by
  have hsz : (putRow (Value.int .i64) (Sort.ahead w q) g 0 G).heap.size = w.heap.size := by simp [putRow, mapBlock, Sort.ahead]
  refine ⟨rfl, rfl, rfl, ?_, fun k hk hn => ?_⟩
  · rw [Sort.size_grow, hsz]; exact Nat.le_add_right _ _
  · rw [Sort.heap_grow_old _ _ (by rw [hsz]; omega)]
    simp [putRow, mapBlock, Sort.ahead, Array.getElem?_modify, show g ≠ k from fun e => hn e.symm]
theorem grow_none (w : World) : grow w #[] = w := by simp [grow]
theorem own_holdsE {W : World} {B g n cap : Nat} {l : List Int} (h : E3.O B W (.slice (some ⟨g, 0, none⟩) n cap) l) : Holds (Value.int .i64) W g 0 l.toArray ∧ l.length ≤ cap ∧ g < W.heap.size ∧ B ≤ g := by
  obtain ⟨_, c', g', e, h1, h2, h3⟩ := h.shape
  cases e
  have hlt := h.lt (k := g) rfl
  refine ⟨fun j hj => ⟨?_, World.ownsRow.frozenAt h _⟩, h3, hlt.2, hlt.1⟩
  have hj' : j < l.length := by simpa using hj
  have hR : E3.R W g 0 l := h.row
  rw [E3_cell hR j hj', getElem!_pos _ j hj]
  simp
set_option maxRecDepth 100000 in
set_option maxHeartbeats 1000000 in
theorem once_any {W : World} {a : Option Addr} {cap : Nat} {l : List Int} (h : Sl E3 W a l) (hl : l.length ≤ 1000000) : Calls Tryz.prog 43 #[.slice a l.length cap] W fun e w' => ∃ a' c' l', e = .returned (.slice a' l'.length c') ∧ E3.O W.heap.size w' (.slice a' l'.length c') l' ∧ Ris l' ∧ (∀ x, x ∈ l' ↔ x ∈ l) ∧ Bel W w' := by
  have HC := hide (clone3 (cap := cap) (n := l.length) rfl h (by omega))
  by_cases h0 : l.length = 0
  · have hl0 : l = [] := List.eq_nil_of_length_eq_zero h0
    subst hl0
    clear h hl h0
    go_enter Tryz.func43, Tryz.ntmps43
    go_wp2_with (first
      | (go_at_call 99; refine (unhide HC).mono ?_; rintro e w1 ⟨a1, c1, rfl, ho1, hb1⟩; have HO1 := hide (And.intro ho1 hb1); clear ho1 hb1)
      | (go_at_call 107; refine (Tryz.slices_Sort_int_none _ _ _).mono ?_; rintro e w9 ⟨rfl, hw9⟩; rw [hw9]; clear hw9)
      | (go_at_call 108; refine (Tryz.slices_Compact_int_empty _ _ _).mono ?_; rintro e w9 ⟨rfl, hw9⟩; rw [hw9]; clear hw9))
    go_ret
    exact ⟨_, _, [], rfl, (unhide HO1).1, List.Pairwise.nil, fun x => Iff.rfl, (unhide HO1).2⟩
  · have HL := hide hl
    have H0 := hide h0
    generalize hn : l.length = n at *
    have HN := hide hn
    clear h hl h0 hn
    go_enter Tryz.func43, Tryz.ntmps43
    go_wp2_with fail
    refine (unhide HC).mono ?_
    rintro e w1 ⟨a1, c1, rfl, ho1, hb1⟩
    obtain ⟨g, rfl⟩ : ∃ g, a1 = some ⟨g, 0, none⟩ := by
      obtain ⟨a', c', g', e, h1, _⟩ := ho1.shape
      cases e
      exact ⟨g', h1 (by rw [unhide HN]; exact unhide H0)⟩
    obtain ⟨hH, hcap, hg, hB⟩ := own_holdsE ho1
    have HS := hide (Tryz.slices_Sort_int g 0 c1 l w1 hH hg (by rw [unhide HN]; have := unhide HL; omega))
    rw [unhide HN] at HS
    have HO1 := hide (And.intro ho1 (And.intro hb1 (And.intro hcap hB)))
    clear ho1 hb1 hH hcap hg hB
    go_wp2_with fail
    refine (unhide HS).mono ?_
    rintro e w2 ⟨rfl, q, os, hw2⟩
    have hzl : (l.mergeSort fun x y => decide (x ≤ y)).length = n := by rw [List.length_mergeSort]; exact unhide HN
    have ho2 := own_putE (q := q) (m := n) (G := l.mergeSort fun x y => decide (x ≤ y)) os (unhide HO1).1 (unhide HN) hzl (Nat.le_refl _)
    rw [List.take_of_length_le (by omega), ← hw2] at ho2
    have hb2 : Bel W w2 := bel_off (unhide HO1).2.1 (by rw [hw2]; exact ch_putE os) (unhide HO1).2.2.2
    have hsr := sorted_ris l
    generalize l.mergeSort (fun x y => decide (x ≤ y)) = z at *
    obtain ⟨hH2, hcap2, hg2, hB2⟩ := own_holdsE ho2
    have HK := hide (Tryz.slices_Compact_int g 0 c1 z w2 hH2 (by have := unhide HL; omega) hcap2)
    rw [hzl] at HK
    have HO2 := hide (And.intro ho2 (And.intro hb2 (And.intro hB2 (And.intro hzl hsr))))
    clear ho2 hb2 hH2 hcap2 hg2 hB2 hw2 hzl hsr HS
    go_wp2_with fail
    refine (unhide HK).mono ?_
    rintro e w3 ⟨rfl, q3, hw3⟩
    obtain ⟨ho2, hb2, hB2, hzl, hsr⟩ := unhide HO2
    have hcl := Lib.compact_length_le z
    have ho3 := own_putE (q := q3) (m := (Lib.compact z).length) (G := Lib.compact z ++ List.replicate (n - (Lib.compact z).length) 0) #[] ho2 hzl (by simp; omega) (by omega)
    rw [List.take_left, grow_none, ← hw3] at ho3
    have hb3 : Bel W w3 := bel_off hb2 (by rw [hw3, ← grow_none (putRow _ _ _ _ _)]; exact ch_putE #[]) hB2
    have HF := hide (And.intro ho3 (And.intro hsr hb3))
    clear ho2 hb2 hB2 hzl hsr hcl ho3 hb3 hw3
    generalize Lib.compact z = l' at *
    go_wp2_with fail
    go_ret
    exact ⟨_, _, l', rfl, (unhide HF).1, (unhide HF).2.1.1, (unhide HF).2.1.2, (unhide HF).2.2⟩
end Go.Proofs.YthekbhliokcpcaaGreat
namespace Go.Proofs.YthekbhliokcpcaaGreat
open Go.RowKit Go.Maps Go.Sort
theorem search_any {W : World} {a : Option Addr} {cap : Nat} {M : List Int} (h : Sl E3 W a M) (hr : Ris M) (hl : M.length ≤ 1000000) (x : Int) : Calls Tryz.prog 44 #[.slice a M.length cap, .int .i64 x] W fun e w' => ∃ i, e = .returned (.tuple #[.int .i64 i, .bool (decide (x ∈ M))]) ∧ Bel W w' := by
  by_cases h0 : M.length = 0
  · have hM : M = [] := List.eq_nil_of_length_eq_zero h0
    subst hM
    refine (Tryz.slices_BinarySearch_int_empty a cap x W).mono ?_
    rintro e w' ⟨rfl, hw⟩
    exact ⟨0, by simp, by rw [hw]; exact Bel.refl _⟩
  · obtain ⟨g, off, hg, hR⟩ := h
    obtain rfl := hg h0
    refine (Tryz.slices_BinarySearch_int g off M.length cap M x W (Nat.le_refl _) (by omega) (fun j hj => ?_) ?_).mono ?_
    · rw [E3_cell hR j hj]; simp [List.getD, List.getElem?_eq_getElem hj]
    · rw [List.take_length]
      exact pw_to hr (fun h => by omega)
    · rintro e w' ⟨rfl, q, hw⟩
      refine ⟨(List.countP (fun y => decide (y < x)) M : Nat), ?_, by rw [hw]; exact (Bel.refl _).drewN q⟩
      rw [List.take_length, List.contains_eq_mem]
set_option maxRecDepth 100000 in
set_option maxHeartbeats 1000000 in
theorem majority_any {W : World} {a b : Option Addr} {cap cap2 : Nat} {M I M' I' : List Int} (hM : Sl E3 W a M) (hI : Sl E3 W b I) (hlM : M.length ≤ 1000000) (hlI : I.length ≤ 1000000) (rM : Ris M') (mM : ∀ x, x ∈ M' ↔ x ∈ M) (rI : Ris I') (mI : ∀ x, x ∈ I' ↔ x ∈ I) (hlM' : M'.length ≤ 1000000) (hlI' : I'.length ≤ 1000000) : Calls Tryz.prog 18 #[.slice a M.length cap, .slice b I.length cap2] W fun e w' => e = .returned (.bool (decide (M'.length / 2 < I'.countP (fun x => decide (x ∈ M'))))) ∧ Bel W w' := by
  have H1 : Hid (Calls Tryz.prog 43 #[.slice a M.length cap] W fun e w' => ∃ a' c', e = .returned (.slice a' M'.length c') ∧ Sl E3 w' a' M' ∧ Bel W w') := hide ((once_any hM hlM).mono (fun e w' ⟨a', c', l', he, ho, hr, hm, hb⟩ => by
    have e1 : l' = M' := ris_ext _ _ hr rM (fun x => (hm x).trans (mM x).symm)
    subst e1
    exact ⟨a', c', he, (Sl.of ho).1, hb⟩))
  have H2 : Hid (∀ w1, Bel W w1 → Calls Tryz.prog 43 #[.slice b I.length cap2] w1 fun e w' => ∃ a' c', e = .returned (.slice a' I'.length c') ∧ Sl E3 w' a' I' ∧ Bel w1 w') := hide (fun w1 hb1 => (once_any (hI.bel hb1) hlI).mono (fun e w' ⟨a', c', l', he, ho, hr, hm, hb⟩ => by
    have e1 : l' = I' := ris_ext _ _ hr rI (fun x => (hm x).trans (mI x).symm)
    subst e1
    exact ⟨a', c', he, (Sl.of ho).1, hb⟩))
  have HRM := hide (And.intro rM hlM')
  generalize hbq : decide (M'.length / 2 < I'.countP (fun x => decide (x ∈ M'))) = bq
  have HBQ := hide hbq
  clear hbq
  clear hM hI rM mM rI mI
  generalize M.length = nM at *
  generalize I.length = nI at *
  generalize hnI : I'.length = n at *
  have HNI := hide hnI
  clear hnI
  go_enter Tryz.func18, Tryz.ntmps18
  go_wp2_with (first
    | (go_at_call 43; refine (unhide H1).mono ?_; rintro e w1 ⟨a1, c1, rfl, hs1, hb1⟩; have HS1 := hide (And.intro hs1 hb1); have H3 := hide ((unhide H2) _ hb1); clear hs1 hb1 H1 H2)
    | (go_at_call 43; refine (unhide H3).mono ?_; rintro e w2 ⟨a2, c2, rfl, hs2, hb2⟩; have HS2 := hide (And.intro hs2 hb2); clear hs2 hb2 H3))
  have HM : Hid (∀ wr x, Bel w2 wr → Calls Tryz.prog 44 #[.slice a1 M'.length c1, .int .i64 x] wr fun e w' => ∃ i, e = .returned (.tuple #[.int .i64 i, .bool (decide (x ∈ M'))]) ∧ Bel wr w') := hide (fun wr x hb => search_any ((unhide HS1).1.bel ((unhide HS2).2.trans hb)) (unhide HRM).1 (unhide HRM).2 x)
  obtain ⟨g, off, hg, hR⟩ := (unhide HS2).1
  have HG := hide hg
  have HR := hide hR
  have HB : Hid (Bel W w2) := hide ((unhide HS1).2.trans (unhide HS2).2)
  clear hg hR
  generalize hmm : M'.length = m at *
  go_loopw [6, 16] (fun vh vk wr => ∃ (k : Nat), k ≤ n ∧ vk = .int .i64 k ∧ vh = .int .i64 ((I'.take k).countP (fun x => decide (x ∈ M'))) ∧ Hid (Bel w2 wr)) (fun _ vk _ => n - (intOf vk).toNat)
  case atStart => exact ⟨0, Nat.zero_le _, rfl, rfl, hide (Bel.refl _)⟩
  case round =>
    obtain ⟨k, hk, rfl, rfl, HBr⟩ := hrel
    have hc1 : (I'.take k).countP (fun x => decide (x ∈ M')) ≤ k := Nat.le_trans List.countP_le_length (by simp; omega)
    by_cases hlt : k < n
    · have hkl : k < I'.length := by rw [unhide HNI]; exact hlt
      obtain rfl := (unhide HG) (by rw [unhide HNI]; omega)
      have hkn : (k : Int) < n := by omega
      have r0 := (unhide HBr).cell (E3_cell (unhide HR) k hkl)
      have HD : Hid ((I'.take (k + 1)).countP (fun x => decide (x ∈ M')) = (I'.take k).countP (fun x => decide (x ∈ M')) + (if decide (I'[k] ∈ M') = true then 1 else 0)) := hide (by
        rw [List.take_add_one, List.getElem?_eq_getElem hkl, List.countP_append]
        simp [List.countP_cons])
      generalize I'[k] = x at *
      generalize (I'.take k).countP (fun x => decide (x ∈ M')) = c at *
      have HC := hide ((unhide HM) wr x (unhide HBr))
      cases hx : decide (x ∈ M') with
      | true =>
        rw [hx] at HC HD
        go_wp2_with (first
          | (go_at_call 44; refine (unhide HC).mono ?_; rintro e w3 ⟨i3, rfl, hb3⟩; have HB3 := hide ((unhide HBr).trans hb3); clear hb3))
        go_roundw
        case rel => exact ⟨k + 1, by omega, by go_num, by rw [unhide HD]; simp; try omega, HB3⟩
        case measure => simp [intOf]; omega
      | false =>
        rw [hx] at HC HD
        go_wp2_with (first
          | (go_at_call 44; refine (unhide HC).mono ?_; rintro e w3 ⟨i3, rfl, hb3⟩; have HB3 := hide ((unhide HBr).trans hb3); clear hb3))
        go_roundw
        case rel => exact ⟨k + 1, by omega, by go_num, by rw [unhide HD]; simp, HB3⟩
        case measure => simp [intOf]; omega
    · obtain rfl : k = n := by omega
      have HT : Hid (I'.take k = I') := hide (List.take_of_length_le (by rw [unhide HNI]; omega))
      rw [unhide HT] at hc1 ⊢
      generalize I'.countP (fun x => decide (x ∈ M')) = c at *
      have hc2 : (c : Int) ≤ 1000000 := by omega
      by_cases hq : m / 2 < c
      · have hq' : (m : Int) / 2 < c := by omega
        have HQ : Hid (bq = true) := hide (by rw [← unhide HBQ, decide_eq_true hq])
        clear hq
        go_wp2_with fail
        all_goals
          go_ret
          exact ⟨by rw [unhide HQ]; first | rfl | (simp; omega), (unhide HB).trans (unhide HBr)⟩
      · have hq' : ¬ ((m : Int) / 2 < c) := by omega
        have HQ : Hid (bq = false) := hide (by rw [← unhide HBQ, decide_eq_false hq])
        clear hq
        go_wp2_with fail
        all_goals
          go_ret
          exact ⟨by rw [unhide HQ]; first | rfl | (simp; omega), (unhide HB).trans (unhide HBr)⟩
end Go.Proofs.YthekbhliokcpcaaGreat
namespace Go.Proofs.YthekbhliokcpcaaGreat
open Go.RowKit Go.Maps Go.Sort
set_option maxRecDepth 100000 in
theorem seated_any {W : World} {n : Nat} {s : PP} {x : Px} (h : Sl E3 W x.aM (mem n)) (hn : n ≤ 64) : Calls Tryz.prog 128 #[.agg (pc n s x)] W fun e w' => e = .returned (.bool (decide (s.id ∈ mem n))) ∧ Bel W w' := by
  have HC : Hid (∀ w1, Bel W w1 → Calls Tryz.prog 82 #[.slice x.aM n x.cM, .int .i64 s.id] w1 fun e w' => e = .returned (.bool (decide (s.id ∈ mem n))) ∧ w' = w1) := hide (fun w1 hb => by
    have := contains_any (h.bel hb) x.cM s.id (by rw [mem_len]; omega)
    rwa [mem_len] at this)
  clear h hn
  go_enter Tryz.func128, Tryz.ntmps128
  go_wp2_with (first
    | (refine bx_box rfl 31 _ rfl (pc n s x) rfl ?_; intro b w0 hr0 hs0 hb0; obtain ⟨y0, y1, y2, y3, y4, y5, y6, y7, y8, y9, y10, y11, y12, y13, y14, y15, y16, y17⟩ := Bx.of hr0; have HB0 := hide hb0; clear hr0 hs0 hb0)
    | (go_at_call 82; refine ((unhide HC) _ (unhide HB0)).mono ?_; rintro e w9 ⟨rfl, hw9⟩; rw [hw9]; clear hw9))
  go_ret
  exact ⟨rfl, unhide HB0⟩
set_option maxRecDepth 100000 in
theorem notme_any {W : World} {b : Nat} {id : Int} (h : W.cell? ⟨b, 0, none⟩ = some (.int .i64 id)) (y : Int) : Calls Tryz.prog 207 #[.int .i64 y, .pointer (some ⟨b, 0, none⟩)] W fun e w' => e = .returned (.bool (y == id)) ∧ w' = W := by
  go_enter Tryz.func207, Tryz.ntmps207
  go_wp2_with fail
  go_ret
  exact ⟨rfl, rfl⟩
theorem En52 : ∀ args w, (callFunc 207 args).run Tryz.prog w = .ok (.enter 207 args) w := enters_of Tryz.func207 (by kernel_rfl) rfl
theorem delete_any {B : Nat} {w : World} {b g n cap : Nat} {id : Int} {cs : Array Value} {l : List Int} (hr : w.heap[b]? = some (.cells cs 31)) (hid : cs[0]? = some (.int .i64 id)) (hO : E3.O B w (.slice (some ⟨g, 0, none⟩) n cap) l) (hn : l.length = n) (hl : n ≤ 1000000) : Calls Tryz.prog 88 #[.slice (some ⟨g, 0, none⟩) n cap, .func (.func 207) #[] #[.pointer (some ⟨b, 0, none⟩)]] w fun e w' => e = .returned (.slice (some ⟨g, 0, none⟩) (l.filter fun x => !(x == id)).length cap) ∧ E3.O B w' (.slice (some ⟨g, 0, none⟩) (l.filter fun x => !(x == id)).length cap) (l.filter fun x => !(x == id)) ∧ Ch (fun i => i = g) w w' := by
  obtain ⟨hH, hcap, hg, hB⟩ := own_holdsE hO
  have hbg : b ≠ g := fun e => by
    obtain ⟨c, hc⟩ := hO.block (k := g) rfl
    rw [← e, hr] at hc
    injection (Option.some.inj hc) with _ h2
    exact absurd h2 (by decide)
  have hc : w.cell? ⟨b, 0, none⟩ = some (.int .i64 id) := (cell_of hr).trans hid
  have h := Tryz.slices_DeleteFunc (Value.int .i64) (fun x => rfl) (fun x => x == id) 207 #[.pointer (some ⟨b, 0, none⟩)] En52 (0 : Int) (fun w => by go_simp) g 0 cap l.toArray w ?_ ?_ hH (by simp; omega) (by simpa using hcap)
  · rw [show l.toArray.size = n by simpa using hn] at h
    refine h.mono ?_
    rintro e w' ⟨rfl, q, hw'⟩
    have hfl : (l.filter fun x => !(x == id)).length ≤ n := by rw [← hn]; exact List.length_filter_le _ _
    have ho3 := own_putE (q := q) (m := (l.filter fun x => !(x == id)).length) (G := (l.filter fun x => !(x == id)) ++ List.replicate (n - (l.filter fun x => !(x == id)).length) 0) #[] hO hn (by simp; omega) hfl
    rw [List.take_left, grow_none, ← hw'] at ho3
    exact ⟨rfl, ho3, by rw [hw', ← grow_none (putRow _ _ _ _ _)]; exact ch_putE #[]⟩
  · intro W x hb
    have hcW : W.cell? ⟨b, 0, none⟩ = some (.int .i64 id) := Bel.cell hb hc
    refine (notme_any hcW x).mono ?_
    rintro e w' ⟨rfl, hw⟩
    exact ⟨rfl, 0, by rw [hw]; rfl⟩
  · intro n os dk x hdk
    have hcW : (sortWorld (Value.int .i64) w g 0 n dk os).cell? ⟨b, 0, none⟩ = some (.int .i64 id) := (cell_of ((ch_putE (w := w) (g := g) (q := n) (G := dk) os).row hr hbg)).trans hid
    refine (notme_any hcW x).mono ?_
    rintro e w' ⟨rfl, hw⟩
    exact ⟨rfl, 0, by rw [hw]; rfl⟩
set_option maxRecDepth 100000 in
set_option maxHeartbeats 1000000 in
theorem others_any {W : World} {n : Nat} {s : PP} {x : Px} (h : Sl E3 W x.aM (mem n)) (hn : n ≤ 64) (h1 : 1 ≤ n) : Calls Tryz.prog 169 #[.agg (pc n s x)] W fun e w' => ∃ a' c', e = .returned (.slice a' (oth n s.id).length c') ∧ Sl E3 w' a' (oth n s.id) ∧ Bel W w' := by
  have HC : Hid (∀ w1, Bel W w1 → Calls Tryz.prog 99 #[.slice x.aM n x.cM] w1 fun e w' => ∃ a' c', e = .returned (.slice a' n c') ∧ E3.O w1.heap.size w' (.slice a' n c') (mem n) ∧ Bel w1 w') := hide (fun w1 hb => clone3 (mem_len n) (h.bel hb) (by omega))
  clear h
  go_enter Tryz.func169, Tryz.ntmps169
  go_wp2_with (first
    | (refine bx_box rfl 31 _ rfl (pc n s x) rfl ?_; intro b w0 hr0 hs0 hb0; obtain ⟨y0, y1, y2, y3, y4, y5, y6, y7, y8, y9, y10, y11, y12, y13, y14, y15, y16, y17⟩ := Bx.of hr0; have HR0 := hide hr0; have HB0 := hide hb0; clear hr0 hs0 hb0)
    | (go_at_call 99; refine ((unhide HC) _ (unhide HB0)).mono ?_; rintro e w1 ⟨a1, c1, rfl, ho1, hb1⟩; have HO1 := hide (And.intro ho1 hb1); have HR1 := hide (hb1.row (unhide HR0)); clear ho1 hb1))
  obtain ⟨g, rfl⟩ : ∃ g, a1 = some ⟨g, 0, none⟩ := by
    obtain ⟨a', c', g', e, hh, _⟩ := (unhide HO1).1.shape
    injection e with e1
    exact ⟨g', e1.trans (hh (by rw [mem_len]; omega))⟩
  refine (delete_any (unhide HR1) rfl (unhide HO1).1 (mem_len n) (by omega)).mono ?_
  rintro e w2 ⟨rfl, ho2, hc2⟩
  have HF := hide (And.intro (Sl.of ho2).1 (bel_off ((unhide HB0).trans (unhide HO1).2) hc2 (Nat.le_trans (unhide HB0).size ((unhide HO1).1.lt (k := g) rfl).1)))
  clear ho2 hc2
  go_wp2_with fail
  go_ret
  exact ⟨_, _, rfl, (unhide HF).1, (unhide HF).2⟩
end Go.Proofs.YthekbhliokcpcaaGreat
