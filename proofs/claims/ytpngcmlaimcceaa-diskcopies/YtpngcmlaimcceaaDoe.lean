/- The document's Do: what all things have in common. -/
import Derived.Test.YtpngcmlaimcceaaDod
namespace Go.Proofs.Ytpngcmlaimcceaa
open Go.RowKit Go.Maps Go.WideMaps
theorem Try.i60 : ∃ i, Try.prog.info? 60 = some i ∧ i.zero = some (.agg #[.int .i64 0, .string ⟨#[]⟩, .string ⟨#[]⟩, .int .i64 0]) ∧ i.size = 4 ∧ i.bytes = 48 := by
  have h : (Try.prog.info? 60).map (fun i => (i.zero, i.size, i.bytes)) = some (some (.agg #[.int .i64 0, .string ⟨#[]⟩, .string ⟨#[]⟩, .int .i64 0]), 4, 48) := by kernel_rfl
  obtain ⟨i, hi, hzz⟩ := Option.map_eq_some_iff.1 h
  simp only [Prod.mk.injEq] at hzz
  exact ⟨i, hi, hzz.1, hzz.2.1, hzz.2.2⟩
/-- Where Do stands: its box and the disk, in a world in which all that was there stands. -/
structure Dq (w : World) (p : Nat) (vk vo vn : Value) (room : Int) (c0 c1 c2 c3 : Value) (W : World) : Prop where
  bel : Bel w W
  row : W.heap[p]? = some (.cells #[.int .i64 room, vk, vo, vn] 34)
  box : W.heap[w.heap.size]? = some (.cells #[c0, c1, c2, c3] 60)
theorem Dq.drew {w : World} {p : Nat} {vk vo vn : Value} {room : Int} {c0 c1 c2 c3 : Value} {W : World} (h : Dq w p vk vo vn room c0 c1 c2 c3 W) : Dq w p vk vo vn room c0 c1 c2 c3 W.drew := ⟨h.bel.drew, h.row, h.box⟩
theorem Dq.b0 {w : World} {p : Nat} {vk vo vn : Value} {room : Int} {c0 c1 c2 c3 : Value} {W : World} (h : Dq w p vk vo vn room c0 c1 c2 c3 W) : W.cell? ⟨w.heap.size, 0, none⟩ = some c0 ∧ W.cell? ⟨w.heap.size, 1, none⟩ = some c1 ∧ W.cell? ⟨w.heap.size, 2, none⟩ = some c2 ∧ W.cell? ⟨w.heap.size, 3, none⟩ = some c3 ∧ W.cell? ⟨p, 0, none⟩ = some (.int .i64 room) ∧ W.cell? ⟨p, 3, none⟩ = some vn ∧ W.cell? ⟨p, 2, none⟩ = some vo :=
  ⟨cell_of h.box, cell_of h.box, cell_of h.box, cell_of h.box, cell_of h.row, cell_of h.row, cell_of h.row⟩
/-- Behind does: the files as they are seen are stored. -/
theorem do_mid {w w3 W : World} {p : Nat} {vk vo vn v' : Value} {room : Int} {c0 c1 c2 c3 : Value} {seen synced S : Fs} {ops : List Op5} (h1 : Dc w p vk vo vn room seen synced ops) (hq : Dq w p vk vo vn room c0 c1 c2 c3 W) (hro : Ro W w3 v' S) :
    w3.cell? ⟨p, 3, none⟩ = some vn ∧ w3.frozen? ⟨p, 3, none⟩ = false ∧ Hid (Dc (w3.setCell ⟨p, 3, none⟩ v') p vk vo v' room S synced ops ∧ (w3.setCell ⟨p, 3, none⟩ v').heap[w.heap.size]? = some (.cells #[c0, c1, c2, c3] 60) ∧ Ch (fun i => i = p) w (w3.setCell ⟨p, 3, none⟩ v') ∧ ∀ k, v'.ownBlock = some k → w.heap.size ≤ k) := by
  have hp : p < w.heap.size := lt_of_some h1.row
  have hb3 : Bel w w3 := hq.bel.trans hro.bel
  have hr3 := hro.bel.row hq.row
  have hf : ∀ k, v'.ownBlock = some k → w.heap.size ≤ k := fun k hk => Nat.le_trans hq.bel.size (hro.fresh k hk)
  have hne : ∀ k, k ≠ p → (w3.setCell ⟨p, 3, none⟩ v').heap[k]? = w3.heap[k]? := fun k hk => Below.heap_setCell _ _ _ _ hk
  refine ⟨cell_of hr3, free_row hr3, ⟨row_set hr3, ?_, ?_, ?_, h1.n1, fun e => ?_, h1.n3⟩, ?_, (hb3.ch (fun i => i = p)).set (Or.inl rfl) _, hf⟩
  · exact row_at h1.kept (fun k hk => by rw [hne k (fun e => h1.n1 (by rw [hk, e]))]; exact hb3.block k (World.ownsRow.lt h1.kept k hk).2)
  · exact row_at hro.rf (fun k hk => hne k (fun e => by have := hf k hk; omega))
  · exact row_at h1.ops (fun k hk => by rw [hne k (fun e => h1.n3 (by rw [hk, e]))]; exact hb3.block k (h1.ops.lt k hk).2)
  · have := hf p e; omega
  · rw [hne _ (by omega)]; exact hro.bel.row hq.box
theorem do_fin {C : Nat} {w w4 w5 : World} {p g cp : Nat} {vk vo v' : Value} {d : PD} {M B : Nat → Prop} {o : Op5} {ob : Obj} {cs : List Value} (h : Dx C w p d M B) (hM : M p) (hMo : ∀ k, vo.ownBlock = some k → M k) (hBk : ∀ k, vk.ownBlock = some k → B k) (hok : ok5 d.seen o) (hfi : Fine C (run5 d.seen o))
    (h4 : Dc w4 p vk vo v' d.room (run5 d.seen o) d.synced d.ops) (hc4 : Ch (fun i => i = p) w w4) (hf : ∀ k, v'.ownBlock = some k → w.heap.size ≤ k) (hcs : cs = ocs d.ops ++ [.int .i64 (oC o), .string ⟨(oN o).toArray⟩, .string ⟨(oT o).toArray⟩, .int .i64 (oK o)])
    (hown : w5.ownsRow 0 60 4 (.slice (some ⟨g, 0, none⟩) (d.ops.length + 1) cp) (d.ops.length + 1) cs) (hgrow : (w4.drew.alloc ob).grownBy w5 vo.ownBlock) (hat : vo.ownBlock = some g ∨ g = w4.heap.size + 1) :
    w5.cell? ⟨p, 2, none⟩ = some vo ∧ w5.frozen? ⟨p, 2, none⟩ = false ∧ Hid (Afx C w p M B (d.done o).2 (w5.setCell ⟨p, 2, none⟩ (.slice (some ⟨g, 0, none⟩) (d.ops.length + 1) cp))) := by
  have hp : p < w.heap.size := h.ltM p hM
  have e5 : ∀ {k : Nat}, k < w4.heap.size → vo.ownBlock ≠ some k → w5.heap[k]? = w4.heap[k]? := fun {k} hk hne => by
    rw [hgrow.block k (by show k < (w4.alloc ob).heap.size; simp; omega) (fun e => hne e.symm)]
    exact ((MapKept.heap_alloc w4 ob).2 k hk)
  have hp4 : p < w4.heap.size := lt_of_some h4.row
  have hr5 : w5.heap[p]? = some (.cells #[.int .i64 d.room, vk, vo, v'] 34) := (e5 hp4 h4.n3).trans h4.row
  have hgl : g < w5.heap.size := (hown.lt g rfl).2
  have hgp : g ≠ p := fun e => by
    rcases hat with h' | h'
    · rw [e] at h'; exact h4.n3 h'
    · omega
  have hne : ∀ k, k ≠ p → (w5.setCell ⟨p, 2, none⟩ (.slice (some ⟨g, 0, none⟩) (d.ops.length + 1) cp)).heap[k]? = w5.heap[k]? := fun k hk => Below.heap_setCell _ _ _ _ hk
  have hch : Ch M w (w5.setCell ⟨p, 2, none⟩ (.slice (some ⟨g, 0, none⟩) (d.ops.length + 1) cp)) := ((((hc4.mono (M' := M) (fun i hi => by rw [hi]; exact hM)).drew.alloc ob).grown hgrow (fun i hi => Or.inl (hMo i hi))).set (Or.inl hM) _)
  have hvkB : ∀ k, vk.ownBlock = some k → vo.ownBlock ≠ some k := fun k hk e => h.dis k (hMo k e) (hBk k hk)
  have hv'o : ∀ k, v'.ownBlock = some k → vo.ownBlock ≠ some k := fun k hk e => by have := hf k hk; have := h.ltM k (hMo k e); omega
  refine ⟨cell_of hr5, free_row hr5, ⟨fun i => M i ∨ i = g, fun i => B i ∨ v'.ownBlock = some i, ⟨⟨vk, .slice (some ⟨g, 0, none⟩) (d.ops.length + 1) cp, v', ⟨row_set hr5, ?_, ?_, ?_, h4.n1, h4.n2, fun e => by cases e; exact hgp rfl⟩, Or.inl hM, fun k hk => Or.inr (by cases hk; rfl), fun k hk => Or.inl (hBk k hk), fun k hk => Or.inr hk⟩, ?_, ?_, ?_, ?_, ?_, h.room⟩, ?_, ?_, hch⟩⟩
  · exact row_at h4.kept (fun k hk => by rw [hne k (fun e => h4.n1 (by rw [hk, e]))]; exact e5 (World.ownsRow.lt h4.kept k hk).2 (hvkB k hk))
  · exact row_at h4.now (fun k hk => by rw [hne k (fun e => h4.n2 (by rw [hk, e]))]; exact e5 (World.ownsRow.lt h4.now k hk).2 (hv'o k hk))
  · have hl : (d.done o).2.ops.length = d.ops.length + 1 := by simp [PD.done]
    have hc : ocs (d.done o).2.ops = cs := by rw [hcs]; show ocs (d.ops ++ [o]) = _; rw [ocs_app]; rfl
    rw [hl, hc]
    exact row_at hown (fun k hk => by cases hk; exact hne g hgp)
  · show run5 d.seen o = (d.ops ++ [o]).foldl run5 d.synced
    rw [List.foldl_append, ← h.seen]
    rfl
  · show Val C d.synced (d.ops ++ [o])
    exact Val.snoc h.val (by rw [← h.seen]; exact hok) (by rw [← h.seen]; exact hfi)
  · rintro i hi hb
    rcases hi with hm | hg
    · rcases hb with hb | hb
      · exact h.dis i hm hb
      · have := hf i hb; have := h.ltM i hm; omega
    · rcases hb with hb | hb
      · rcases hat with h' | h'
        · exact h.dis i (hMo i (by rw [h', hg])) hb
        · have := h.ltB i hb; have := hc4.size; omega
      · rcases hat with h' | h'
        · exact hv'o i hb (by rw [h', hg])
        · have := (World.ownsRow.lt h4.now i hb).2; omega
  · rintro i (hm | rfl)
    · exact Nat.lt_of_lt_of_le (h.ltM i hm) hch.size
    · rw [size_set]; exact hgl
  · rintro i (hb | hb)
    · exact Nat.lt_of_lt_of_le (h.ltB i hb) hch.size
    · rw [size_set]
      have h1 := (World.ownsRow.lt h4.now i hb).2
      have h2 := hgrow.size
      have h3 : (w4.drew.alloc ob).heap.size = w4.heap.size + 1 := by show (w4.alloc ob).heap.size = _; simp
      omega
  · rintro i (hm | rfl)
    · exact Or.inl hm
    · rcases hat with h' | h'
      · exact Or.inl (hMo i h')
      · right; have := hc4.size; omega
  · rintro i (hb | hb)
    · exact Or.inl hb
    · exact Or.inr (hf i hb)
end Go.Proofs.Ytpngcmlaimcceaa
