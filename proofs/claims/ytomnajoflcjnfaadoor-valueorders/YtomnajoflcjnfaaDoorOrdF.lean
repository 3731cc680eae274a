/- What the library's sort, copy and cut leave of a row of values. -/
import Derived.Test.YtomnajoflcjnfaaDoorOrdE
import Derived.Test.YtomnajoflcjnfaaDoorShelfD
namespace Go.Proofs.YtomnajoflcjnfaaDoor
open Go.RowKit Go.Sort Go.Lib Go.Shelf
theorem vo_yes {x y : V} (h : ltOf vo x y = true) : vlt x y := of_decide_eq_true (p := vo x y < 0) h
theorem vo_no {x y : V} (h : ltOf vo x y = false) : ¬ vlt x y := of_decide_eq_false (p := vo x y < 0) h
theorem yes_vo {x y : V} (h : vlt x y) : ltOf vo x y = true := decide_eq_true (p := vo x y < 0) h
theorem no_vo {x y : V} (h : ¬ vlt x y) : ltOf vo x y = false := decide_eq_false (p := vo x y < 0) h
theorem swoV : SWO (ltOf vo) := by
  refine ⟨fun x => ?_, fun x y z h1 h2 => ?_, fun x y z h1 h2 => ?_⟩
  · exact no_vo (vlt_irr x)
  · exact yes_vo (vlt_trans (vo_yes h1) (vo_yes h2))
  · have a1 := vo_no h1
    have a2 := vo_no h2
    refine no_vo fun h => ?_
    unfold vlt at *
    have b1 := vo_cm.anti x y
    have b2 := vo_cm.anti y z
    have b3 := vo_cm.anti x z
    have c1 := vo_cm.anti y x
    have c2 := vo_cm.anti z y
    have := vo_cm.tr z y x (by omega) (by omega)
    omega
theorem totV (x y : V) (h1 : ltOf vo x y = false) (h2 : ltOf vo y x = false) : x = y := by
  rcases vlt_tri x y with h | h | h
  · exact absurd h (vo_no h1)
  · exact h
  · exact absurd h (vo_no h2)
/-- A row sorted and made compact: rising, of the same members. -/
theorem sortedV (l : List V) (z : List V) (hz : z = l.mergeSort fun x y => !(ltOf vo) y x) : risV (compactUpTo z.toArray z.length) ∧ ∀ x, x ∈ compactUpTo z.toArray z.length ↔ x ∈ l := by
  have hs : (l.mergeSort fun x y => !(ltOf vo) y x).Pairwise (fun a b => (!(ltOf vo) b a) = true) := List.pairwise_mergeSort (fun a b c h1 h2 => by
      have := swoV.ntrans c b a (by simpa using h2) (by simpa using h1)
      simpa using this) (fun a b => by
      cases h1 : ltOf vo b a with
      | false => simp
      | true =>
        have : ltOf vo a b = false := by
          cases h2 : ltOf vo a b with
          | false => rfl
          | true => have := swoV.trans a b a h2 h1; rw [swoV.irrefl] at this; exact absurd this (by simp)
        simp [this]) l
  have hp : (l.mergeSort fun x y => !(ltOf vo) y x).Perm l := List.mergeSort_perm l _
  rw [← hz] at hs hp
  have h := compactV_ris z.toArray (fun i j hij hj => by
    have hj' : j < z.length := by simpa using hj
    rw [getElem!_pos _ i (by simp; omega), getElem!_pos _ j hj]
    by_cases he : i = j
    · subst he; rw [(vo_zero _ _).2 rfl]; exact Int.le_refl _
    · have h1 := List.pairwise_iff_getElem.1 hs i j (by omega) hj' (by omega)
      have h2 : ltOf vo z[j] z[i] = false := by simpa using h1
      have h3 : ¬ vo z[j] z[i] < 0 := of_decide_eq_false h2
      have h4 := vo_cm.anti z[j] z[i]
      simp only [List.getElem_toArray]
      omega) z.length (by simp)
  refine ⟨h.1, fun x => (h.2 x).trans ⟨?_, fun hx => ?_⟩⟩
  · rintro ⟨j, hj, rfl⟩
    rw [getElem!_pos _ j (by simpa using hj)]
    exact hp.mem_iff.1 (by simp)
  · obtain ⟨j, hj, e⟩ := List.mem_iff_getElem.1 (hp.mem_iff.2 hx)
    exact ⟨j, hj, by rw [getElem!_pos _ j (by simpa using hj)]; simpa using e⟩
/-- What was laid over a row that is owned. -/
theorem own_put {k : Nat} {w : World} {B g n cap q m : Nat} {e : TypeId} {xs : List Value} {G : Array Value} (os : Array Obj) (h : w.ownsRow B e k (.slice (some ⟨g, 0, none⟩) n cap) n xs) (hG : G.size = n * k) (hm : m ≤ n) :
    (grow (putRow id (Sort.ahead w q) g 0 G) os).ownsRow B e k (.slice (some ⟨g, 0, none⟩) m cap) m (G.toList.take (m * k)) := by
  have hmk : m * k ≤ n * k := Nat.mul_le_mul_right k hm
  rcases h.2 with ⟨e0, _⟩ | ⟨g', cap', cur, e0, hb, hg, hn, hx, hs, ht⟩
  · cases e0
  · injection e0 with e1 _ e3
    injection e1 with e1
    injection e1 with e1
    subst e1; subst e3
    have hnk : n * k ≤ cap * k := Nat.mul_le_mul_right k hn
    have hlt : g < w.heap.size := (Array.getElem?_eq_some_iff.1 hg).1
    refine ⟨by simp; omega, .inr ⟨g, cap, putCells id 0 G cur, rfl, hb, ?_, by omega, hx, by simpa [putCells] using hs, ?_⟩⟩
    · rw [Sort.heap_grow_old _ _ (by simpa using hlt)]
      simp [putRow, mapBlock, Sort.ahead, Array.getElem?_modify, hg, onCells]
    · apply List.ext_getElem?
      intro j
      by_cases hj : j < m * k
      · have hjc : j < cur.size := by omega
        have hjg : j < G.size := by omega
        rw [List.getElem?_take_of_lt hj, List.getElem?_take_of_lt hj, Array.getElem?_toList, Array.getElem?_toList]
        simp only [putCells, Array.getElem?_mapIdx, Array.getElem?_eq_getElem hjc, Option.map_some]
        rw [if_pos (by simp; omega), Array.getElem?_eq_getElem hjg]
        simp [getElem!_pos, hjg]
      · rw [List.getElem?_eq_none (by simp; omega), List.getElem?_eq_none (by simp; omega)]
theorem bel_put {B : Nat} {w0 w : World} {g q : Nat} {G : Array Value} (os : Array Obj) (h : Below B w0 w) (hg : B ≤ g) (hB : B ≤ w.heap.size) : Below B w0 (grow (putRow id (Sort.ahead w q) g 0 G) os) := by
  have hsz : (putRow id (Sort.ahead w q) g 0 G).heap.size = w.heap.size := by simp [putRow, mapBlock, Sort.ahead]
  refine ⟨h.os, h.tape, h.output, ?_, fun k hk => ?_⟩
  · rw [Sort.size_grow, hsz]; exact Nat.le_trans h.size (Nat.le_add_right _ _)
  · rw [Sort.heap_grow_old _ _ (by rw [hsz]; omega), ← h.block k hk]
    simp [putRow, mapBlock, Sort.ahead, Array.getElem?_modify, show g ≠ k by omega]
theorem sortFunc_V (g cap : Nat) (l : List V) (w : World) (hH : HoldsK enc5 5 w g 0 l.toArray) (hg : g < w.heap.size) (hl : l.length ≤ 1000000) :
    Calls Tryd.prog 50 #[.slice (some ⟨g, 0, none⟩) l.length cap, .func (.func 48) #[] #[]] w fun e w' => e = .returned (.tuple #[]) ∧ ∃ n os, w' = grow (putRow id (Sort.ahead w n) g 0 (flatK enc5 5 (l.mergeSort fun x y => !(ltOf vo) y x).toArray)) os := by
  have eg : ∀ args w, (callFunc 48 args).run Tryd.prog w = .ok (.enter 48 args) w := enters_of Tryd.func48 (by kernel_rfl) rfl
  have h := AnyQ.slices_SortFunc_total Tryd.laysSf 5 Tryd.isAgg25 Tryd.sizeOf25 enc5 enc5_len enc5_one vo swoV 48 #[] g 0 cap l.toArray w eg (fun m os dk _ x y => order_V x y _) hH hg (by simp; omega) totV
  exact h
theorem sortFunc_no (p : Option Addr) (cap : Nat) (fv : Value) (w : World) : Calls Tryd.prog 50 #[.slice p 0 cap, fv] w fun e w' => e = .returned (.tuple #[]) ∧ w' = w := AnyF.slices_SortFunc_none Tryd.laysSf p cap fv w
theorem Tryd.whole25 : (Tryd.prog.info? 25).map (fun i => (i.zero, i.size, i.bytes)) = some (some (.agg #[.int .u8 0, .bool false, .int .i64 0, .string ⟨#[]⟩, .int .u64 0]), 5, 40) := by kernel_rfl
theorem Tryd.i25 : ∃ i, Tryd.prog.info? 25 = some i ∧ i.zero = some (.agg #[.int .u8 0, .bool false, .int .i64 0, .string ⟨#[]⟩, .int .u64 0]) ∧ i.size = 5 ∧ i.bytes = 40 := by
  have h := Tryd.whole25
  cases hi : Tryd.prog.info? 25 with
  | none => rw [hi] at h; cases h
  | some i =>
    rw [hi] at h
    simp only [Option.map_some, Option.some.injEq, Prod.mk.injEq] at h
    exact ⟨i, rfl, h.1, h.2.1, h.2.2⟩
theorem clone_V (g cap : Nat) (l : List V) (w : World) (hl : l.length ≤ 1000000) (hc : ∀ j u, (cel enc5 5 l)[j]? = some u → w.cell? ⟨g, 0 + j, none⟩ = some u) (h1 : ∀ u ∈ cel enc5 5 l, u.oneCell' = true) :
    Calls Tryd.prog 49 #[.slice (some ⟨g, 0, none⟩) l.length cap] w fun e w' => ∃ v', e = .returned v' ∧ w'.ownsRow w.heap.size 25 5 v' l.length (cel enc5 5 l) ∧ v' ≠ .slice none 0 0 ∧ Below w.heap.size w w' := by
  obtain ⟨i0, hi, hz0, hz1, hz2⟩ := Tryd.i25
  exact AnyE.slices_Clone Tryd.laysCl i0 _ 5 40 hi hz0 hz1 hz2 rfl (by decide) Tryd.sizeOf25 g 0 l.length cap (cel enc5 5 l) w (cel_len l) (by unfold maxLen; omega) (by omega) hc h1
theorem clone_no (n cap : Nat) (w : World) : Calls Tryd.prog 49 #[.slice none n cap] w fun e w' => e = .returned (.slice none 0 0) ∧ w' = w := AnyE.slices_Clone_nil Tryd.laysCl n cap w
set_option maxRecDepth 100000 in
theorem clip_V (a : Option Addr) (n cap : Nat) (hn : n ≤ cap) (w : World) : Calls Tryd.prog 51 #[.slice a n cap] w fun e w' => e = .returned (.slice a n n) ∧ w' = w := by
  cases a with
  | none =>
    go_enter Tryd.func51, Tryd.ntmps51
    go_wp2_with fail
    go_ret
    exact ⟨rfl, rfl⟩
  | some d =>
    go_enter Tryd.func51, Tryd.ntmps51
    go_wp2_with fail
    go_ret
    exact ⟨rfl, rfl⟩
set_option maxRecDepth 100000 in
theorem compact_no (a : Option Addr) (cap : Nat) (w : World) : Calls Tryd.prog 52 #[.slice a 0 cap] w fun e w' => e = .returned (.slice a 0 cap) ∧ w' = w := by
  go_enter Tryd.func52, Tryd.ntmps52
  go_wp2_with fail
  go_ret
  exact ⟨rfl, rfl⟩
theorem cel_one (l : List V) : ∀ u ∈ cel enc5 5 l, u.oneCell' = true := by
  intro u hu
  obtain ⟨t, ht, e⟩ := List.mem_iff_getElem.1 hu
  have ht' : t < l.length * 5 := by rw [cel_len] at ht; exact ht
  have h := get_flatK enc5 5 l.toArray t (by simpa using ht')
  rw [getElem!_pos _ t (by simpa using ht')] at h
  have e' : u = (flatK enc5 5 l.toArray)[t]'(by simpa using ht') := by rw [← e]; simp [cel]
  rw [e', h]
  rw [getElem!_pos (enc5 l.toArray[t / 5]!) _ (by rw [enc5_len]; omega)]
  exact enc5_one _ _ (List.getElem_mem _)
end Go.Proofs.YtomnajoflcjnfaaDoor
