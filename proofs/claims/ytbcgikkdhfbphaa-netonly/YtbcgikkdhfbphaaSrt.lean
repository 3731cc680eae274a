/- A row of links, sorted by the library. -/
import Derived.Test.YtbcgikkdhfbphaaCmp
import Derived.Test.YtbcgikkdhfbphaaShf
namespace Go.Proofs.Ytbcgikkdhfbphaa
open Go.RowKit Go.Maps Go.Sort Go.Lib Go.Shelf
/-! ### the order, plain -/
def lt2 (x y : Int × Int) : Prop := x.1 < y.1 ∨ (x.1 = y.1 ∧ x.2 < y.2)
theorem cmpI_neg (x y : Int) : cmpI x y < 0 ↔ x < y := by
  unfold cmpI
  split
  · simp; assumption
  · split <;> simp <;> omega
theorem cmpI_zero (x y : Int) : cmpI x y = 0 ↔ x = y := by
  unfold cmpI
  split
  · simp; omega
  · split
    · simp; omega
    · simp; omega
theorem cmpL_neg (x y : Int × Int) : cmpL x y < 0 ↔ lt2 x y := by
  unfold cmpL lt2
  split
  · rename_i h
    rw [cmpI_zero] at h
    rw [cmpI_neg]
    omega
  · rename_i h
    rw [cmpI_zero] at h
    rw [cmpI_neg]
    omega
theorem lt2_irr (x : Int × Int) : ¬ lt2 x x := by unfold lt2; omega
theorem lt2_trans {x y z : Int × Int} (h : lt2 x y) (k : lt2 y z) : lt2 x z := by unfold lt2 at *; omega
theorem lt2_tri (x y : Int × Int) : lt2 x y ∨ x = y ∨ lt2 y x := by
  unfold lt2
  by_cases h1 : x.1 < y.1
  · exact Or.inl (Or.inl h1)
  · by_cases h2 : y.1 < x.1
    · exact Or.inr (Or.inr (Or.inl h2))
    · by_cases h3 : x.2 < y.2
      · exact Or.inl (Or.inr ⟨by omega, h3⟩)
      · by_cases h4 : y.2 < x.2
        · exact Or.inr (Or.inr (Or.inr ⟨by omega, h4⟩))
        · exact Or.inr (Or.inl (Prod.ext (by omega) (by omega)))
theorem lo_yes {x y : Int × Int} (h : ltOf cmpL x y = true) : lt2 x y := (cmpL_neg x y).1 (of_decide_eq_true (p := cmpL x y < 0) h)
theorem lo_no {x y : Int × Int} (h : ltOf cmpL x y = false) : ¬ lt2 x y := fun k => of_decide_eq_false (p := cmpL x y < 0) h ((cmpL_neg x y).2 k)
theorem yes_lo {x y : Int × Int} (h : lt2 x y) : ltOf cmpL x y = true := decide_eq_true (p := cmpL x y < 0) ((cmpL_neg x y).2 h)
theorem no_lo {x y : Int × Int} (h : ¬ lt2 x y) : ltOf cmpL x y = false := decide_eq_false (p := cmpL x y < 0) (fun k => h ((cmpL_neg x y).1 k))
theorem swoL : SWO (ltOf cmpL) := by
  refine ⟨fun x => no_lo (lt2_irr x), fun x y z h1 h2 => yes_lo (lt2_trans (lo_yes h1) (lo_yes h2)), fun x y z h1 h2 => no_lo fun h => ?_⟩
  have a1 := lo_no h1
  have a2 := lo_no h2
  unfold lt2 at *
  omega
theorem totL (x y : Int × Int) (h1 : ltOf cmpL x y = false) (h2 : ltOf cmpL y x = false) : x = y := by
  rcases lt2_tri x y with h | h | h
  · exact absurd h (lo_no h1)
  · exact h
  · exact absurd h (lo_no h2)
/-- A row of links in order. -/
def srt (l : List (Int × Int)) : List (Int × Int) := l.mergeSort fun x y => !(ltOf cmpL) y x
theorem srt_len (l : List (Int × Int)) : (srt l).length = l.length := by simp [srt]
theorem srt_mem (l : List (Int × Int)) (x : Int × Int) : x ∈ srt l ↔ x ∈ l := (List.mergeSort_perm l _).mem_iff
theorem srt_ris {l : List (Int × Int)} (hn : l.Nodup) : (srt l).Pairwise lt2 := by
  have hs : (srt l).Pairwise (fun a b => (!(ltOf cmpL) b a) = true) := List.pairwise_mergeSort (fun a b c h1 h2 => by
      have := swoL.ntrans c b a (by simpa using h2) (by simpa using h1)
      simpa using this) (fun a b => by
      cases h1 : ltOf cmpL b a with
      | false => simp
      | true =>
        have : ltOf cmpL a b = false := no_lo (fun h => lt2_irr _ (lt2_trans h (lo_yes h1)))
        simp [this]) l
  have hd : (srt l).Nodup := (List.mergeSort_perm l _).nodup_iff.2 hn
  refine pw_im ?_ (hs.and hd)
  rintro a b ⟨h1, h2⟩
  have h3 : ¬ lt2 b a := lo_no (by simpa using h1)
  rcases lt2_tri a b with h | h | h
  · exact h
  · exact absurd h h2
  · exact absurd h h3
theorem ris_ext : ∀ (a b : List (Int × Int)), a.Pairwise lt2 → b.Pairwise lt2 → (∀ x, x ∈ a ↔ x ∈ b) → a = b
  | [], [], _, _, _ => rfl
  | [], y :: b, _, _, h => by have := (h y).2 (by simp); simp at this
  | x :: a, [], _, _, h => by have := (h x).1 (by simp); simp at this
  | x :: a, y :: b, ha, hb, h => by
    obtain ⟨ha1, ha2⟩ := List.pairwise_cons.1 ha
    obtain ⟨hb1, hb2⟩ := List.pairwise_cons.1 hb
    have hxy : x = y := by
      rcases List.mem_cons.1 ((h x).1 (by simp)) with h1 | h1
      · exact h1
      · rcases List.mem_cons.1 ((h y).2 (by simp)) with h2 | h2
        · exact h2.symm
        · exact absurd (lt2_trans (hb1 x h1) (ha1 y h2)) (lt2_irr y)
    subst hxy
    rw [ris_ext a b ha2 hb2 (fun z => ⟨fun hz => ?_, fun hz => ?_⟩)]
    · rcases List.mem_cons.1 ((h z).1 (List.mem_cons_of_mem _ hz)) with h1 | h1
      · rw [h1] at hz; exact absurd (ha1 x hz) (lt2_irr x)
      · exact h1
    · rcases List.mem_cons.1 ((h z).2 (List.mem_cons_of_mem _ hz)) with h1 | h1
      · rw [h1] at hz; exact absurd (hb1 x hz) (lt2_irr x)
      · exact h1
/-! ### the row in memory -/
theorem enc2_len (x : Int × Int) : (enc2 x).length = 2 := rfl
theorem enc2_one (x : Int × Int) : ∀ u ∈ enc2 x, u.oneCell' = true := E86.one x
theorem flatK_fl (L : List (Int × Int)) : (flatK enc2 2 L.toArray).toList = E86.fl L := by
  apply List.ext_getElem?
  intro t
  by_cases ht : t < L.length * 2
  · rw [Array.getElem?_toList, Array.getElem?_eq_getElem (by simpa using ht)]
    have h := get_flatK enc2 2 L.toArray t (by simpa using ht)
    rw [getElem!_pos _ t (by simpa using ht)] at h
    have hj : t / 2 < L.length := by omega
    have h2 := E86.fl_at L (t / 2) (t % 2) hj (by show t % 2 < 2; omega)
    rw [show t / 2 * E86.k + t % 2 = t by show t / 2 * 2 + t % 2 = t; omega] at h2
    rw [h2, h, getElem!_pos L.toArray (t / 2) (by simpa using hj), getElem!_pos _ (t % 2) (by rw [enc2_len]; omega)]
    show _ = (enc2 L[t / 2])[t % 2]?
    rw [List.getElem?_eq_getElem (by rw [enc2_len]; omega)]
    simp
  · rw [List.getElem?_eq_none (by simp; omega), List.getElem?_eq_none (by rw [E86.fl_len]; show L.length * 2 ≤ t; omega)]
theorem own_holds {W : World} {B g cap : Nat} {L : List (Int × Int)} (h : E86.O B W (.slice (some ⟨g, 0, none⟩) L.length cap) L) : HoldsK enc2 2 W g 0 L.toArray := by
  intro t ht
  have ht' : t < L.length * 2 := by simpa using ht
  refine ⟨?_, World.ownsRow.frozenAt h _⟩
  rw [Nat.zero_add, World.ownsRow.cellAt h t ht', ← flatK_fl, Array.getElem?_toList, Array.getElem?_eq_getElem (by simpa using ht'), getElem!_pos _ t (by simpa using ht')]
  rfl
/-- What was laid over a row that is owned. -/
theorem own_put {k : Nat} {w : World} {B g n cap q : Nat} {e : TypeId} {xs : List Value} {G : Array Value} (os : Array Obj) (h : w.ownsRow B e k (.slice (some ⟨g, 0, none⟩) n cap) n xs) (hG : G.size = n * k) :
    (grow (putRow id (Sort.ahead w q) g 0 G) os).ownsRow B e k (.slice (some ⟨g, 0, none⟩) n cap) n G.toList := by
  rcases h.2 with ⟨e0, _⟩ | ⟨g', cap', cur, e0, hb, hg, hn, hx, hs, ht⟩
  · cases e0
  · injection e0 with e1 _ e3
    injection e1 with e1
    injection e1 with e1
    subst e1; subst e3
    have hnk : n * k ≤ cap * k := Nat.mul_le_mul_right k hn
    have hlt : g < w.heap.size := (Array.getElem?_eq_some_iff.1 hg).1
    refine ⟨by simp; omega, .inr ⟨g, cap, putCells id 0 G cur, rfl, hb, ?_, by omega, hx, by simpa [putCells] using hs, ?_⟩⟩
    · rw [Sort.heap_grow_old _ _ (by simpa using hlt)]
      simp [putRow, mapBlock, Sort.ahead, Array.getElem?_modify, hg, onCells]
    · apply List.ext_getElem?
      intro j
      by_cases hj : j < n * k
      · have hjc : j < cur.size := by omega
        have hjg : j < G.size := by omega
        rw [List.getElem?_take_of_lt hj, Array.getElem?_toList, Array.getElem?_toList]
        simp only [putCells, Array.getElem?_mapIdx, Array.getElem?_eq_getElem hjc, Option.map_some]
        rw [if_pos (by simp; omega), Array.getElem?_eq_getElem hjg]
        simp [getElem!_pos, hjg]
      · rw [List.getElem?_eq_none (by simp; omega), List.getElem?_eq_none (by simp; omega)]
theorem ch_put {w : World} {g q : Nat} {G : Array Value} (os : Array Obj) : Ch (fun i => i = g) w (grow (putRow id (Sort.ahead w q) g 0 G) os) := by
  have hsz : (putRow id (Sort.ahead w q) g 0 G).heap.size = w.heap.size := by simp [putRow, mapBlock, Sort.ahead]
  refine ⟨rfl, rfl, rfl, ?_, fun k hk hn => ?_⟩
  · rw [Sort.size_grow, hsz]; exact Nat.le_add_right _ _
  · rw [Sort.heap_grow_old _ _ (by rw [hsz]; omega)]
    simp [putRow, mapBlock, Sort.ahead, Array.getElem?_modify, show g ≠ k from fun e => hn e.symm]
theorem sort_L (B g cap : Nat) (l : List (Int × Int)) (w : World) (h : E86.O B w (.slice (some ⟨g, 0, none⟩) l.length cap) l) (hl : l.length ≤ 1000000) :
    Calls Try.prog 55 #[.slice (some ⟨g, 0, none⟩) l.length cap, .func (.func 49) #[] #[]] w fun e w' => e = .returned (.tuple #[]) ∧ E86.O B w' (.slice (some ⟨g, 0, none⟩) l.length cap) (srt l) ∧ Ch (fun i => i = g) w w' := by
  have eg : ∀ args w, (callFunc 49 args).run Try.prog w = .ok (.enter 49 args) w := enters_of Try.func49 (by kernel_rfl) rfl
  have hs := AnyQ.slices_SortFunc_total Try.laysSf 2 Try.isAgg86 Try.sizeOf86 enc2 enc2_len enc2_one cmpL swoL 49 #[] g 0 cap l.toArray w eg (fun m os dk _ x y => cmpl_L x y _) (own_holds h) (h.lt rfl).2 (by simp; omega) totL
  refine Calls.mono (show Calls Try.prog 55 #[.slice (some ⟨g, 0, none⟩) l.length cap, .func (.func 49) #[] #[]] w fun e w' => e = .returned (.tuple #[]) ∧ ∃ n os, w' = grow (putRow id (Sort.ahead w n) g 0 (flatK enc2 2 (srt l).toArray)) os from hs) ?_
  rintro e w' ⟨he, n, os, rfl⟩
  refine ⟨he, ?_, ch_put os⟩
  have := own_put (q := n) (G := flatK enc2 2 (srt l).toArray) os h (by rw [show E86.k = 2 from rfl]; simp [srt_len])
  unfold El.O
  rw [srt_len, ← flatK_fl]
  exact this
theorem sort_no (p : Option Addr) (cap : Nat) (fv : Value) (w : World) : Calls Try.prog 55 #[.slice p 0 cap, fv] w fun e w' => e = .returned (.tuple #[]) ∧ w' = w := AnyF.slices_SortFunc_none Try.laysSf p cap fv w
end Go.Proofs.Ytbcgikkdhfbphaa
