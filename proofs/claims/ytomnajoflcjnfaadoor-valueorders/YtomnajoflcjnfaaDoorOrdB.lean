/- Rows of values in memory: how they lie, what is stored, what is behind it. -/
import Derived.Test.YtomnajoflcjnfaaDoorOrdA
import Derived.Test.YtomnajoflcjnfaaDoorValA
import Derived.Shelf.GgSortFunc.RowK
import Derived.Shelf.SlicesQ.Reverse
import Derived.Shelf.SlSortCmp.InsertionK
import Derived.Laws.OwnMore
import Derived.Lib.AppendIntMem
namespace Go.Proofs.YtomnajoflcjnfaaDoor
open Go.RowKit Go.Sort
section
variable {enc : V → List Value} {k : Nat}
/-- The cells of a row of values. -/
def cel (enc : V → List Value) (k : Nat) (xs : List V) : List Value := (flatK enc k xs.toArray).toList
theorem cel_len (xs : List V) : (cel enc k xs).length = xs.length * k := by simp [cel]
theorem cel_push (hk : ∀ x, (enc x).length = k) (k0 : 0 < k) (xs : List V) (x : V) : cel enc k (xs ++ [x]) = cel enc k xs ++ enc x := by
  unfold cel
  have h : flatK enc k (xs ++ [x]).toArray = flatK enc k xs.toArray ++ (enc x).toArray := by
    refine ext_get! (by simp [hk, Nat.add_mul]) fun t ht => ?_
    have ht' : t < (xs.length + 1) * k := by simpa using ht
    rw [get_flatK _ _ _ _ (by simpa using ht')]
    by_cases c : t < xs.length * k
    · have hq : t / k < xs.length := by rw [Nat.div_lt_iff_lt_mul k0]; exact c
      have e1 : (flatK enc k xs.toArray ++ (enc x).toArray)[t]! = (flatK enc k xs.toArray)[t]! := by
        rw [getElem!_pos _ t (by simp; omega), getElem!_pos _ t (by simpa using c), Array.getElem_append_left]
      rw [e1, get_flatK _ _ _ _ (by simpa using c), getElem!_pos (xs ++ [x]).toArray _ (by simp; omega), getElem!_pos xs.toArray _ (by simpa using hq)]
      congr 2
      simp [List.getElem_append_left, hq]
    · have hq : t / k = xs.length := (blk_iff k xs.length t k0).1 ⟨by omega, by rw [Nat.add_mul, Nat.one_mul] at ht'; omega⟩
      have hm : t % k = t - xs.length * k := by rw [Nat.mod_eq_sub_div_mul, hq]
      have hlt : t - xs.length * k < k := by rw [Nat.add_mul, Nat.one_mul] at ht'; omega
      rw [hq, hm]
      have e0 : (xs ++ [x]).toArray[xs.length]! = x := by simp
      rw [e0, getElem!_pos (flatK enc k xs.toArray ++ (enc x).toArray) t (by simp [hk]; rw [Nat.add_mul, Nat.one_mul] at ht'; omega), getElem!_pos (enc x) _ (by rw [hk]; exact hlt)]
      rw [Array.getElem_append_right (by simp; omega)]
      simp
  rw [h]; simp
/-- One value stored. -/
theorem setMany_set (hk : ∀ x, (enc x).length = k) (d : Array V) (i : Nat) (hi : i < d.size) (x : V) : setMany (flatK enc k d) (i * k) (enc x) = flatK enc k (d.setIfInBounds i x) := by
  refine ext_get! (by simp) fun t ht => ?_
  have ht' : t < d.size * k := by simpa using ht
  have k0 : 0 < k := by
    rcases Nat.eq_zero_or_pos k with h | h
    · subst h; simp at ht'
    · exact h
  rw [get_setMany _ _ _ t (by simpa using ht'), get_flatK _ _ _ t ht', get_flatK _ _ _ t (by simpa using ht'), hk]
  by_cases a : t / k = i
  · rw [if_pos ((blk_iff k i t k0).2 a)]
    have m : t - i * k = t % k := by rw [Nat.mod_eq_sub_div_mul, a]
    rw [m, a]
    congr 2
    simp [hi]
  · rw [if_neg (fun h => a ((blk_iff k i t k0).1 h))]
    congr 2
    have hq : t / k < d.size := by rw [Nat.div_lt_iff_lt_mul k0]; exact ht'
    rw [getElem!_pos d _ hq, getElem!_pos (d.setIfInBounds i x) _ (by simpa using hq)]
    simp [Ne.symm a, hq]
theorem own_setCells {B g n cap : Nat} {e : TypeId} : ∀ (vs : List Value) (s : Nat) (F : Array Value) (W : World), W.ownsRow B e k (.slice (some ⟨g, 0, none⟩) n cap) n F.toList → (W.setCells g s vs).ownsRow B e k (.slice (some ⟨g, 0, none⟩) n cap) n (setMany F s vs).toList
  | [], _, _, _, h => h
  | v :: r, s, F, W, h => by
    have h1 := (h.stored s v).1
    rw [World.setCells, setMany]
    refine own_setCells r (s + 1) _ _ ?_
    simpa using h1
theorem own_store (hk : ∀ x, (enc x).length = k) {W : World} {B g n cap : Nat} {e : TypeId} {xs : List V} (h : W.ownsRow B e k (.slice (some ⟨g, 0, none⟩) n cap) n (cel enc k xs)) (j : Nat) (hj : j < xs.length) (x : V) (ys : List V) (hy : xs.set j x = ys) :
    (W.setCells g (j * k) (enc x)).ownsRow B e k (.slice (some ⟨g, 0, none⟩) n cap) n (cel enc k ys) := by
  have h1 := own_setCells (enc x) (j * k) _ W h
  rw [setMany_set hk _ j (by simpa using hj)] at h1
  subst hy
  unfold cel
  simpa using h1
theorem own_holds {W : World} {B g n cap : Nat} {e : TypeId} {xs : List V} (h : W.ownsRow B e k (.slice (some ⟨g, 0, none⟩) n cap) n (cel enc k xs)) : HoldsK enc k W g 0 xs.toArray := by
  intro t ht
  have hn : (cel enc k xs).length = n * k := h.1
  have ht' : t < n * k := by rw [← hn]; simpa [cel] using ht
  refine ⟨?_, h.frozenAt _⟩
  rw [Nat.zero_add, h.cellAt t ht']
  unfold cel
  rw [Array.getElem?_toList, getElem!_pos _ t ht]
  exact Array.getElem?_eq_getElem ht
end
/-- Nothing turned that was there; draws and blocks more. -/
def Gr (w W : World) : Prop := ∃ q os, W = grow (w.drewN q) os
theorem Gr.refl (w : World) : Gr w w := ⟨0, #[], by rw [grow_empty]; rfl⟩
theorem Gr.alloc {w W : World} (h : Gr w W) (o : Obj) : Gr w (W.alloc o) := by
  obtain ⟨q, os, rfl⟩ := h
  exact ⟨q, os ++ #[o], by rw [alloc_eq_grow, grow_grow]⟩
theorem Gr.drew {w W : World} (h : Gr w W) : Gr w W.drew := by
  obtain ⟨q, os, rfl⟩ := h
  exact ⟨q + 1, os, rfl⟩
theorem Gr.bel {w W : World} (h : Gr w W) : Bel w W := by
  obtain ⟨q, os, rfl⟩ := h
  refine ⟨rfl, rfl, rfl, ?_, fun i hi => ?_⟩
  · rw [size_grow]; exact Nat.le_add_right _ _
  · exact heap_grow_old _ _ hi
def enc5 (x : V) : List Value := [.int .u8 x.k, .bool x.b, .int .i64 x.n, .string x.s, .int .u64 x.u]
theorem enc5_len (x : V) : (enc5 x).length = 5 := rfl
theorem enc5_one (x : V) : ∀ v ∈ enc5 x, v.oneCell' = true := by
  intro v hv
  simp only [enc5, List.mem_cons, List.not_mem_nil, or_false] at hv
  rcases hv with rfl | rfl | rfl | rfl | rfl <;> rfl
end Go.Proofs.YtomnajoflcjnfaaDoor
