/- What the closure of Terms leaves: the run ended, the terms one more. -/
import Derived.Test.YtomnajoflcjnfaaDoorTrmB
import Derived.Laws.OwnMore
import Derived.Deep.AppendLies
import Derived.Deep.RegionLaw
namespace Go.Proofs.YtomnajoflcjnfaaDoor
open Go.RowKit
theorem Tryd.i9 : ∃ i, Tryd.prog.info? 9 = some i ∧ i.zero = some (.string ⟨#[]⟩) ∧ i.size = 1 ∧ i.bytes = 16 := by
  have h : (Tryd.prog.info? 9).map (fun i => (i.zero, i.size, i.bytes)) = some (some (.string ⟨#[]⟩), 1, 16) := by kernel_rfl
  obtain ⟨i, hi, hzz⟩ := Option.map_eq_some_iff.1 h
  simp only [Prod.mk.injEq] at hzz
  exact ⟨i, hi, hzz.1, hzz.2.1, hzz.2.2⟩
/-- The boxes of Terms: the terms and the run, as they stand. -/
structure TR (B : Nat) (w W : World) (L : List (List UInt8)) (R : List UInt8) (vt vr : Value) : Prop where
  bt : Boxed W B 50 vt
  br : Boxed W (B + 1) 55 vr
  ot : W.ownsRow B 9 1 vt L.length (L.map encStr)
  ob : W.ownsRow B 5 1 vr R.length (R.map vb)
  bel : Below B w W
theorem append_text {ops : Array Oper} {rest : List Oper} {o : Oper} {a : Act} {Q : Exit → Act → World → Prop} {B : Nat} {W : World} {v : Value} {l : List (List UInt8)} (hB : B ≤ W.heap.size) (ob : W.ownsRow B 9 1 v l.length (l.map encStr)) (c : List UInt8) (hb : l.length + 1 ≤ 1048577)
    (hgd : o.guard = none) (s x : Operand) (ho : o.op = .call { callee := .builtin .append, args := #[s, x], argTypes := #[50, 50] }) (hs : a.eval s = v) (hx : a.eval x = .slice (some ⟨W.heap.size, 0, none⟩) 1 1)
    (h : ∀ v' w', w'.ownsRow B 9 1 v' (l ++ [c]).length ((l ++ [c]).map encStr) → (W.alloc (.cells #[.string ⟨c.toArray⟩] 9)).grownBy w' v.ownBlock → wpList Tryd.prog ops Q rest (a.put o.dst v') w') : wpList Tryd.prog ops Q (o :: rest) a (W.alloc (.cells #[.string ⟨c.toArray⟩] 9)) := by
  obtain ⟨i0, hi, hz0, hz1, hz2⟩ := Tryd.i9
  refine wpList_append_own_wide (P := Tryd.prog) _ hgd s x 50 ho B 9 i0 (.string ⟨#[]⟩) 1 16 Tryd.underlying50 hi hz0 hz1 hz2 rfl (by decide) v l.length (l.map encStr) hs (ob.alloc _) ⟨W.heap.size, 0, none⟩ 1 1 [Value.string ⟨c.toArray⟩] hx (by simp) (cells_new W _ 9) (fun u hu => ?_) (by unfold maxLen; omega) (by omega) (Nat.le_trans hB (by simp)) ?_
  · rw [List.mem_singleton.1 hu]; rfl
  · intro v' w' h1 h2 _
    refine h v' w' ?_ h2
    rw [List.length_append, List.map_append]; exact h1
theorem TR.setRun {B : Nat} {w W : World} {L : List (List UInt8)} {R : List UInt8} {vt vr : Value} (h : TR B w W L R vt vr) (R' : List UInt8) (vr' : Value) (ho : W.ownsRow B 5 1 vr' R'.length (R'.map vb)) : TR B w (W.setCell ⟨B + 1, 0, none⟩ vr') L R' vt vr' := {
  bt := (Below.heap_setCell _ _ _ _ (by show B ≠ B + 1; omega)).trans h.bt
  br := h.br.set vr'
  ot := ownsRow_setCell_other h.ot (fun e => h.br.not_row (by decide) h.ot e.symm) _
  ob := ownsRow_setCell_other ho (fun e => h.br.not_row (by decide) ho e.symm) _
  bel := h.bel.setCell (by show B ≤ B + 1; omega) _ }
theorem rows_apart {W : World} {b b' n n' z z' : Nat} {e e' : TypeId} {v v' : Value} {xs xs' : List Value} (h : W.ownsRow b e z v n xs) (h' : W.ownsRow b' e' z' v' n' xs') (he : e ≠ e') : v.ownBlock = none ∨ v.ownBlock ≠ v'.ownBlock := by
  rcases h.2 with ⟨rfl, _⟩ | ⟨g, cap, cur, rfl, _, hg, _⟩
  · exact Or.inl rfl
  · right
    rcases h'.2 with ⟨rfl, _⟩ | ⟨g', cap', cur', rfl, _, hg', _⟩
    · simp [Value.ownBlock]
    · intro e1
      obtain rfl : g = g' := by simpa [Value.ownBlock] using e1
      have := hg.symm.trans hg'
      simp at this
      exact he this.2
theorem TR.setTerms {B : Nat} {w W : World} {L' : List (List UInt8)} {R : List UInt8} {vt vr v' : Value} (bt : Boxed W B 50 vt) (br : Boxed W (B + 1) 55 vr) (ot : W.ownsRow B 9 1 v' L'.length (L'.map encStr)) (ob : W.ownsRow B 5 1 vr R.length (R.map vb)) (bel : Below B w W) : TR B w (W.setCell ⟨B, 0, none⟩ v') L' R v' vr := {
  bt := bt.set v'
  br := (Below.heap_setCell _ _ _ _ (by show B + 1 ≠ B; omega)).trans br
  ot := ownsRow_setCell_other ot (fun e => bt.not_row (by decide) ot e.symm) _
  ob := ownsRow_setCell_other ob (fun e => bt.not_row (by decide) ob e.symm) _
  bel := bel.setCell (Nat.le_refl B) _ }
set_option maxHeartbeats 4000000 in
set_option maxRecDepth 100000 in
theorem end_any (B : Nat) (w W : World) (L : List (List UInt8)) (R : List UInt8) (vt vr : Value) (h : TR B w W L R vt vr) (hL : L.length ≤ 1048576) (hR : R.length ≤ 1048576) :
    Calls Tryd.prog 53 #[.pointer (some ⟨B + 1, 0, none⟩), .pointer (some ⟨B, 0, none⟩)] W fun e W' => e = .returned (.tuple #[]) ∧ ∃ vt' vr', TR B w W' (flush L R) [] vt' vr' := by
  have c1 := h.br.cell
  have f1 := h.br.frozen
  have c0 := h.bt.cell
  have f0 := h.bt.frozen
  rcases h.ob.2 with ⟨rfl, h0⟩ | ⟨g, cap, cur, rfl, hg, hh, hnc, hcp, hcs, htake⟩
  · obtain rfl : R = [] := List.length_eq_zero_iff.1 h0
    go_enter Tryd.func53, Tryd.ntmps53
    go_wp2
    go_end0
    exact ⟨rfl, _, _, h.setRun [] _ (World.ownsRow_nil _ _ _ _)⟩
  · by_cases hw0 : R = []
    · subst hw0
      go_enter Tryd.func53, Tryd.ntmps53
      go_wp2
      go_end0
      exact ⟨rfl, _, _, h.setRun [] _ ⟨rfl, Or.inr ⟨g, cap, cur, rfl, hg, hh, Nat.zero_le _, hcp, hcs, by simp⟩⟩⟩
    · have hpos : 0 < R.length := List.length_pos_iff.2 hw0
      have hcells : ∀ j (hj : j < R.length), W.cell? ((⟨g, 0, none⟩ : Addr).add j) = some (.int .u8 (R[j].toNat : Int)) := fun j hj => by
        rw [addr_add0, h.ob.cellAt j (by omega)]
        simp [vb, hj]
      obtain ⟨T, hT⟩ : ∃ T, T = R.take 64 := ⟨_, rfl⟩
      have hTl : T.length = min R.length 64 := by rw [hT, List.length_take]; omega
      have hmin : min (R.length : Int) 64 = (T.length : Int) := by omega
      have hTc : T.length ≤ cap := by omega
      have hcells' : ∀ j (hj : j < T.length), W.drew.cell? ((⟨g, 0, none⟩ : Addr).add j) = some (.int .u8 (T[j].toNat : Int)) := fun j hj => by
        rw [show W.drew.cell? ((⟨g, 0, none⟩ : Addr).add j) = W.cell? ((⟨g, 0, none⟩ : Addr).add j) from rfl, hcells j (by omega)]
        simp [hT]
      have hcv := run_convert_bytes_back (P := Tryd.prog) W.drew 55 9 5 ⟨g, 0, none⟩ cap T Tryd.underlying55 Tryd.underlying5 Tryd.underlying9 hcells'
      have hfl : flush L R = L ++ [T] := by rw [flush, if_neg hw0, hT]
      have hBW : B ≤ W.heap.size := by have := h.bt.lt; omega
      have Hb := hide hBW
      have Hbt := hide (show Boxed (W.drew.alloc (.cells #[.string ⟨T.toArray⟩] 9)) B 50 vt from Boxed.alloc (W := W.drew) h.bt _)
      have Hbr := hide (show Boxed (W.drew.alloc (.cells #[.string ⟨T.toArray⟩] 9)) (B + 1) 55 (.slice (some ⟨g, 0, none⟩) R.length cap) from Boxed.alloc (W := W.drew) h.br _)
      have Hot := hide (show (W.drew.alloc (.cells #[.string ⟨T.toArray⟩] 9)).ownsRow B 9 1 vt L.length (L.map encStr) from h.ot.drew.alloc _)
      have Hob := hide (show (W.drew.alloc (.cells #[.string ⟨T.toArray⟩] 9)).ownsRow B 5 1 (.slice (some ⟨g, 0, none⟩) R.length cap) R.length (R.map vb) from h.ob.drew.alloc _)
      have Hbel := hide (show Below B w (W.drew.alloc (.cells #[.string ⟨T.toArray⟩] 9)) from h.bel.drew.alloc hBW _)
      have c0' : (W.alloc (.cells #[.string ⟨T.toArray⟩] 9)).cell? ⟨B, 0, none⟩ = some vt := Hbt.out.cell
      obtain ⟨i0, hi, hz0, hz1, hz2⟩ := Tryd.i9
      have HI := hide hi
      have HZ := hide hz0
      clear hcells hcells' hTl hT
      go_enter Tryd.func53, Tryd.ntmps53
      go_wp2_with fail
      go_region_law (refine step_append_lies (P := Tryd.prog) _ rfl (.tmp 5) (.tmp 12) 50 rfl B 9 i0 (.string ⟨#[]⟩) 1 16 Tryd.underlying50 HI.out HZ.out hz1 hz2 rfl (by decide) vt L.length (L.map encStr) (by simp [Act.eval, Act.put]) Hot.out ⟨W.heap.size, 0, none⟩ 1 1 [.string ⟨T.toArray⟩] (by simp [Act.eval, Act.put]) rfl (cells_new W.drew _ 9) (fun u hu => by rw [List.mem_singleton.1 hu]; rfl) (by decide) (by unfold maxLen; omega) (by omega) (Nat.le_trans Hb.out (by simp)) _ rfl ?_; intro g2 cap2 w1 hown hgrow hat hlt; have hb1 := Hbt.out.kept hgrow (Hbt.out.not_row (by decide) Hot.out); have cb1 := hb1.cell; have fb1 := hb1.frozen; have hb2 := Hbr.out.kept hgrow (Hbr.out.not_row (by decide) Hot.out); have cb2 := hb2.cell; have fb2 := hb2.frozen)
      all_goals go_wp2_with fail
      all_goals go_end0
      all_goals
        have hot1 : w1.ownsRow B 9 1 (.slice (some ⟨g2, 0, none⟩) (L.length + 1) cap2) (L ++ [T]).length ((L ++ [T]).map encStr) := by
          rw [List.length_append, List.map_append]; exact hown
        have hob1 := Hob.out.kept hgrow (rows_apart Hob.out Hot.out (by decide))
        have hbel1 := Hbel.out.grown hgrow (Nat.le_trans Hb.out (by simp)) (fun k hk => (Hot.out.lt k hk).1)
        have h1 := TR.setTerms hb1 hb2 hot1 hob1 hbel1
        rw [hfl]
        refine ⟨rfl, _, _, h1.setRun [] _ ?_⟩
        rcases h1.ob.2 with ⟨h2, _⟩ | ⟨g3, cap3, cur3, h2, hg3, hh3, hnc3, hcp3, hcs3, ht3⟩
        · cases h2
        · injection h2 with e1 e2 e3
          injection e1 with e1
          injection e1 with e1
          subst e1; subst e3
          exact ⟨rfl, Or.inr ⟨g, cap, cur3, rfl, hg3, hh3, Nat.zero_le _, hcp3, hcs3, by simp⟩⟩
end Go.Proofs.YtomnajoflcjnfaaDoor
