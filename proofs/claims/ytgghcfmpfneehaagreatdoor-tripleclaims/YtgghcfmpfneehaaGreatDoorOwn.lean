/- A row of bytes that a call builds by append, and of texts: what it holds, what one append makes of it, and the text that it is read as. -/
import Derived.Test.YtgghcfmpfneehaaGreatDoorWalksB
import Derived.Deep.DeepAppendWide
import Derived.OwnWalk
import Derived.Laws.BytesArg
namespace Go.Proofs.YtgghcfmpfneehaaGreatDoor
open Go.RowKit
theorem Tryz.i5 : ∃ i, Tryz.prog.info? 5 = some i ∧ i.zero = some (.int .u8 0) ∧ i.size = 1 ∧ i.bytes = 1 := by
  obtain ⟨i, hi, hzz⟩ := Option.map_eq_some_iff.1 Tryz.info5
  simp only [Prod.mk.injEq] at hzz
  exact ⟨i, hi, hzz.1, hzz.2.1, hzz.2.2⟩
theorem cells_new (W : World) (vl : List Value) (t : TypeId) : ∀ j u, vl[j]? = some u → (W.alloc (.cells vl.toArray t)).cell? ((⟨W.heap.size, 0, none⟩ : Addr).add j) = some u := by
  intro j u hj
  rw [addr_add0, cell_of_row _ _ _ _ _ _ (heap_alloc_new W _)]
  simpa using hj
def OB (w W : World) (v : Value) (l : List UInt8) : Prop := W.ownsRow w.heap.size 5 1 v l.length (l.map vb) ∧ Below w.heap.size w W
theorem OB.own {w W : World} {v : Value} {l : List UInt8} (h : OB w W v l) : W.ownsRow w.heap.size 5 1 v l.length (l.map vb) := h.1
theorem OB.bel {w W : World} {v : Value} {l : List UInt8} (h : OB w W v l) : Below w.heap.size w W := h.2
theorem OB.nil (w : World) : OB w w (.slice none 0 0) [] := ⟨World.ownsRow_nil _ _ _ _, Below.refl _ _⟩
theorem OB.drew {w W : World} {v : Value} {l : List UInt8} (h : OB w W v l) : OB w W.drew v l := ⟨h.own.drew, h.bel.drew⟩
theorem vb_one (c : UInt8) : (vb c).oneCell' = true := rfl
theorem append_bytes {ops : Array Oper} {rest : List Oper} {o : Oper} {a : Act} {Q : Exit → Act → World → Prop} {w W : World} {v : Value} {l : List UInt8} (ob : OB w W v l) (cs : List UInt8) (hb : l.length + cs.length ≤ 200000000000000)
    (hgd : o.guard = none) (s x : Operand) (ho : o.op = .call { callee := .builtin .append, args := #[s, x], argTypes := #[98, 98] }) (hs : a.eval s = v) (hx : a.eval x = .slice (some ⟨W.heap.size, 0, none⟩) cs.length cs.length)
    (h : ∀ v' w', OB w w' v' (l ++ cs) → wpList Tryz.prog ops Q rest (a.put o.dst v') w') : wpList Tryz.prog ops Q (o :: rest) a (W.alloc (.cells (vs cs) 5)) := by
  obtain ⟨i0, hi, hz0, hz1, hz2⟩ := Tryz.i5
  refine wpList_append_own_wide (P := Tryz.prog) _ hgd s x 98 ho w.heap.size 5 i0 (.int .u8 0) 1 1 Tryz.underlying98 hi hz0 hz1 hz2 rfl (by decide) v l.length (l.map vb) hs (ob.own.alloc _) ⟨W.heap.size, 0, none⟩ cs.length cs.length (cs.map vb) hx (by simp) (cells_new W _ 5) (fun u hu => ?_) (by unfold maxLen; omega) (by omega) (Nat.le_trans ob.bel.size (by simp)) ?_
  · obtain ⟨c, -, rfl⟩ := List.mem_map.1 hu
    exact vb_one c
  · intro v' w' h1 h2 _
    refine h v' w' ⟨?_, ?_⟩
    · rw [List.length_append, List.map_append]; exact h1
    · exact (ob.bel.alloc ob.bel.size _).grown h2 (Nat.le_trans ob.bel.size (by simp)) (fun k hk => (ob.own.lt k hk).1)
theorem OB.text {w W : World} {v : Value} {l : List UInt8} (h : OB w W v l) : (convert 98 9 v).run Tryz.prog W = .ok (.string ⟨l.toArray⟩) W := by
  rcases h.own.2 with ⟨rfl, h0⟩ | ⟨g, cap, cur, rfl, _, hg, _, _, _, ht⟩
  · have : l = [] := List.eq_nil_of_length_eq_zero h0
    subst this
    exact run_convert_bytes_nil (P := Tryz.prog) W 98 5 Tryz.underlying98 Tryz.underlying5 0 0 9 Tryz.underlying9
  · refine run_convert_bytes_back W 98 9 5 _ cap l Tryz.underlying98 Tryz.underlying5 Tryz.underlying9 (fun j hj => ?_)
    rw [addr_add0, cell_of_row _ _ _ _ _ _ hg]
    have e : (cur.toList.take (l.length * 1))[j]? = some (vb l[j]) := by rw [ht]; simp [hj]
    rw [List.getElem?_take_of_lt (by omega)] at e
    simpa [vb] using e
end Go.Proofs.YtgghcfmpfneehaaGreatDoor
