/- Indices in order, the greatest first: the library's SortFunc. -/
import Derived.Test.YthekbhliokcpcaaGreatLpn
import Derived.Test.YthekbhliokcpcaaGreatWin
import Derived.Test.YthekbhliokcpcaaGreatLsf
namespace Go.Proofs.YthekbhliokcpcaaGreat
open Go.RowKit Go.Maps Go.Sort Go.Lib Go.Shelf
/-! ### plain -/
theorem insD_perm (x : Int) : ∀ l : List Int, (insD x l).Perm (x :: l)
  | [] => List.Perm.refl _
  | y :: l => by
    unfold insD
    split
    · exact List.Perm.refl _
    · exact ((insD_perm x l).cons y).trans (List.Perm.swap x y l)
theorem srtD_perm : ∀ l : List Int, (srtD l).Perm l
  | [] => List.Perm.refl _
  | x :: l => (insD_perm x _).trans ((srtD_perm l).cons x)
theorem srtD_len (l : List Int) : (srtD l).length = l.length := (srtD_perm l).length_eq
theorem insD_ris (x : Int) : ∀ l : List Int, l.Pairwise (fun a b => b ≤ a) → (insD x l).Pairwise (fun a b => b ≤ a)
  | [], _ => by simp [insD]
  | y :: l, h => by
    unfold insD
    obtain ⟨h1, h2⟩ := List.pairwise_cons.1 h
    split
    · rename_i hy
      exact List.pairwise_cons.2 ⟨fun z hz => by rcases List.mem_cons.1 hz with rfl | hz; exact hy; exact Int.le_trans (h1 z hz) hy, h⟩
    · rename_i hy
      refine List.pairwise_cons.2 ⟨fun z hz => ?_, insD_ris x l h2⟩
      rcases List.mem_cons.1 ((insD_perm x l).mem_iff.1 hz) with rfl | hz
      · omega
      · exact h1 z hz
theorem srtD_ris : ∀ l : List Int, (srtD l).Pairwise (fun a b => b ≤ a)
  | [] => List.Pairwise.nil
  | x :: l => insD_ris x _ (srtD_ris l)
def cmpI (x y : Int) : Int := if x < y then -1 else if y < x then 1 else 0
def cmpD (x y : Int) : Int := cmpI y x
theorem ltD (x y : Int) : ltOf cmpD x y = decide (y < x) := by
  unfold ltOf cmpD cmpI
  split
  · simp; assumption
  · split
    · simp; omega
    · simp; omega
theorem swoD : SWO (ltOf cmpD) := by
  refine ⟨fun x => by rw [ltD]; simp, fun x y z h1 h2 => ?_, fun x y z h1 h2 => ?_⟩
  · rw [ltD] at *; simp at *; omega
  · rw [ltD] at *; simp at *; omega
theorem totD (x y : Int) (h1 : ltOf cmpD x y = false) (h2 : ltOf cmpD y x = false) : x = y := by
  rw [ltD] at h1 h2; simp at h1 h2; omega
theorem ms_srtD (l : List Int) : (l.mergeSort fun x y => !(ltOf cmpD) y x) = srtD l := by
  have e : (fun x y => !(ltOf cmpD) y x) = fun x y => decide (y ≤ x) := by
    funext x y
    rw [ltD]
    by_cases h : y ≤ x
    · simp [h]
    · simp [h]; omega
  rw [e]
  have hs : (l.mergeSort fun x y => decide (y ≤ x)).Pairwise (fun a b => decide (b ≤ a) = true) := List.pairwise_mergeSort (fun a b c h1 h2 => by simp at *; omega) (fun a b => by simp; omega) l
  exact List.Perm.eq_of_pairwise (le := fun a b => b ≤ a) (fun a b _ _ h1 h2 => by omega) (pw_to hs (fun h => by simpa using h)) (srtD_ris l) ((List.mergeSort_perm l _).trans (srtD_perm l).symm)
/-! ### in memory -/
/-- Rows of indices. -/
def E26 : El Int := { enc := fun x => [.int .u64 x], k := 1, e := 25, t := 199, bytes := 8, z := .int .u64 0, hk := by decide, len := fun _ => rfl, one := fun x u hu => by simp at hu; rw [hu]; rfl, ht := Tryz.underlying199, hi := by kernel_rfl, hz := rfl, hb := by decide }
def enc1 (x : Int) : Value := .int .u64 x
set_option maxRecDepth 100000 in
theorem nanU (x : Int) (w : World) : Calls Tryz.prog 209 #[.int .u64 x] w fun e w' => e = .returned (.bool false) ∧ w' = w := by
  go_enter Tryz.func209, Tryz.ntmps209
  go_wp2_with fail
  go_ret
  exact ⟨by simp, rfl⟩
set_option maxRecDepth 100000 in
theorem compareU (x y : Int) (w : World) : Calls Tryz.prog 173 #[.int .u64 x, .int .u64 y] w fun e w' => e = .returned (.int .i64 (cmpI x y)) ∧ w' = w := by
  have HN := hide (fun z W => nanU z W)
  unfold cmpI
  by_cases h1 : x < y
  · rw [if_pos h1]
    go_enter Tryz.func173, Tryz.ntmps173
    go_wp2_with (first | (go_at_call 209; refine ((unhide HN) _ _).mono ?_; rintro e w9 ⟨rfl, hw9⟩; rw [hw9]; clear hw9))
    go_ret
    exact ⟨rfl, rfl⟩
  · rw [if_neg h1]
    by_cases h2 : y < x
    · rw [if_pos h2]
      go_enter Tryz.func173, Tryz.ntmps173
      go_wp2_with (first | (go_at_call 209; refine ((unhide HN) _ _).mono ?_; rintro e w9 ⟨rfl, hw9⟩; rw [hw9]; clear hw9))
      go_ret
      exact ⟨rfl, rfl⟩
    · rw [if_neg h2]
      go_enter Tryz.func173, Tryz.ntmps173
      go_wp2_with (first | (go_at_call 209; refine ((unhide HN) _ _).mono ?_; rintro e w9 ⟨rfl, hw9⟩; rw [hw9]; clear hw9))
      go_ret
      exact ⟨rfl, rfl⟩
set_option maxRecDepth 100000 in
theorem cmpl_U (x y : Int) (w : World) : Calls Tryz.prog 172 #[.int .u64 x, .int .u64 y] w fun e w' => e = .returned (.int .i64 (cmpD x y)) ∧ w' = w := by
  have HN := hide (fun W => compareU y x W)
  unfold cmpD
  generalize cmpI y x = c at *
  go_enter Tryz.func172, Tryz.ntmps172
  go_wp2_with (first | (go_at_call 173; refine ((unhide HN) _).mono ?_; rintro e w9 ⟨rfl, hw9⟩; rw [hw9]; clear hw9))
  go_ret
  exact ⟨rfl, rfl⟩
theorem E26_fl (L : List Int) : E26.fl L = L.map enc1 := by
  induction L with
  | nil => rfl
  | cons x L ih => unfold El.fl at *; rw [List.flatMap_cons, ih]; rfl
theorem own26 {W : World} {B g cap : Nat} {L : List Int} (h : E26.O B W (.slice (some ⟨g, 0, none⟩) L.length cap) L) : Holds enc1 W g 0 L.toArray := by
  intro t ht
  have ht' : t < L.length := by simpa using ht
  refine ⟨?_, World.ownsRow.frozenAt h _⟩
  have := h.row t ht' 0 (enc1 L[t]) rfl
  rw [show E26.k = 1 from rfl, Nat.mul_one, Nat.add_zero] at this
  rw [this, getElem!_pos _ t ht]
  simp
/-- What was laid over a row that is owned. -/
theorem own_putU {w : World} {B g n cap q : Nat} {e : TypeId} {xs : List Value} {d : Array Int} (os : Array Obj) (h : w.ownsRow B e 1 (.slice (some ⟨g, 0, none⟩) n cap) n xs) (hG : d.size = n) :
    (grow (putRow enc1 (Sort.ahead w q) g 0 d) os).ownsRow B e 1 (.slice (some ⟨g, 0, none⟩) n cap) n (d.toList.map enc1) := by
  rcases h.2 with ⟨e0, _⟩ | ⟨g', cap', cur, e0, hb, hg, hn, hx, hs, ht⟩
  · cases e0
  · injection e0 with e1 _ e3
    injection e1 with e1
    injection e1 with e1
    subst e1; subst e3
    have hlt : g < w.heap.size := (Array.getElem?_eq_some_iff.1 hg).1
    refine ⟨by simp; omega, .inr ⟨g, cap, putCells enc1 0 d cur, rfl, hb, ?_, by omega, hx, by simpa [putCells] using hs, ?_⟩⟩
    · rw [Sort.heap_grow_old _ _ (by simpa using hlt)]
      simp [putRow, mapBlock, Sort.ahead, Array.getElem?_modify, hg, onCells]
    · apply List.ext_getElem?
      intro j
      by_cases hj : j < n * 1
      · have hjc : j < cur.size := by omega
        have hjg : j < d.size := by omega
        rw [List.getElem?_take_of_lt hj, Array.getElem?_toList, List.getElem?_map, Array.getElem?_toList]
        simp only [putCells, Array.getElem?_mapIdx, Array.getElem?_eq_getElem hjc, Option.map_some]
        rw [if_pos (by simp; omega), Array.getElem?_eq_getElem hjg]
        simp [getElem!_pos, hjg]
      · rw [List.getElem?_eq_none (by simp; omega), List.getElem?_eq_none (by simp; omega)]
theorem ch_putU {w : World} {g q : Nat} {d : Array Int} (os : Array Obj) : Ch (fun i => i = g) w (grow (putRow enc1 (Sort.ahead w q) g 0 d) os) := by
  have hsz : (putRow enc1 (Sort.ahead w q) g 0 d).heap.size = w.heap.size := by simp [putRow, mapBlock, Sort.ahead]
  refine ⟨rfl, rfl, rfl, ?_, fun k hk hn => ?_⟩
  · rw [Sort.size_grow, hsz]; exact Nat.le_add_right _ _
  · rw [Sort.heap_grow_old _ _ (by rw [hsz]; omega)]
    simp [putRow, mapBlock, Sort.ahead, Array.getElem?_modify, show g ≠ k from fun e => hn e.symm]
theorem sort_U (B g cap : Nat) (l : List Int) (w : World) (h : E26.O B w (.slice (some ⟨g, 0, none⟩) l.length cap) l) (hl : l.length ≤ 1000000) :
    Calls Tryz.prog 171 #[.slice (some ⟨g, 0, none⟩) l.length cap, .func (.func 172) #[] #[]] w fun e w' => e = .returned (.tuple #[]) ∧ E26.O B w' (.slice (some ⟨g, 0, none⟩) l.length cap) (srtD l) ∧ Ch (fun i => i = g) w w' := by
  have eg : ∀ args w, (callFunc 172 args).run Tryz.prog w = .ok (.enter 172 args) w := enters_of Tryz.func172 (by kernel_rfl) rfl
  have hs := Any.slices_SortFunc_total Tryz.laysSf enc1 (fun _ => rfl) cmpD swoD 172 #[] g 0 cap l.toArray w eg (fun m os dk _ x y => (cmpl_U x y _).mono (fun _ _ ⟨he, hw⟩ => ⟨he, 0, #[], by rw [hw, grow_empty]; rfl⟩)) (own26 h) (h.lt rfl).2 (by simp; omega) totD
  refine Calls.mono (show Calls Tryz.prog 171 #[.slice (some ⟨g, 0, none⟩) l.length cap, .func (.func 172) #[] #[]] w fun e w' => e = .returned (.tuple #[]) ∧ ∃ n os, w' = grow (putRow enc1 (Sort.ahead w n) g 0 (l.mergeSort fun x y => !(ltOf cmpD) y x).toArray) os from hs) ?_
  rintro e w' ⟨he, n, os, rfl⟩
  rw [ms_srtD]
  refine ⟨he, ?_, ch_putU os⟩
  have := own_putU (q := n) (d := (srtD l).toArray) os h (by simp [srtD_len])
  unfold El.O
  rw [srtD_len, E26_fl]
  exact this
end Go.Proofs.YthekbhliokcpcaaGreat
