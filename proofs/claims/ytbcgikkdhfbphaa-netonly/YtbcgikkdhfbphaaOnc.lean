/- A net and the counts of its messages. -/
import Derived.Test.YtbcgikkdhfbphaaWai
import Derived.Test.YtbcgikkdhfbphaaCnt
import Derived.Test.YtbcgikkdhfbphaaAli
namespace Go.Proofs.Ytbcgikkdhfbphaa
open Go.RowKit Go.Maps
theorem key46_inv {v : Value} (h : KeyOK 46 v) : ∃ x, v = pv x := by
  have hc : Try.prog.cellsOf 46 = 3 := by kernel_rfl
  have hc3 : Try.prog.cellsOf 3 = 1 := by kernel_rfl
  have hc9 : Try.prog.cellsOf 9 = 1 := by kernel_rfl
  obtain ⟨m, hm⟩ := types_pos
  obtain ⟨l, h⟩ := h
  unfold keyOf at h
  simp only [Try.underlying46] at h
  split at h
  · rename_i hf
    rw [hm] at h
    unfold Program.keyLits at h
    simp only [Try.underlying46, hc] at h
    cases v <;> simp [Value.formed, Try.underlying46] at hf
    rename_i cs
    rw [hc] at hf
    obtain ⟨cl⟩ := cs
    match cl, hf.2 with
    | [u, v, x], _ =>
      simp only [Value.cells] at h
      cases u <;> simp [hc3, hc9, Program.keyLits, Try.underlying3, Try.underlying9, bind, pure] at h
      rename_i q0 n0 _
      by_cases h0 : q0 = IntKind.i64 ∧ (Lit.int IntKind.i64 n0).wf = true
      · simp only [h0, and_self, if_true, Option.bind_some] at h
        cases v <;> simp at h
        rename_i q1 n1 _
        by_cases h1 : q1 = IntKind.i64 ∧ (Lit.int IntKind.i64 n1).wf = true
        · simp only [h1, and_self, if_true, Option.bind_some] at h
          cases x <;> simp at h
          rename_i t _
          obtain ⟨rfl, h0⟩ := h0
          obtain ⟨rfl, h1⟩ := h1
          exact ⟨(n0, n1, t), rfl⟩
        · simp [h1] at h
      · simp [h0] at h
  · cases h
section
variable {α : Type} [DecidableEq α] {k t e : TypeId} {mk : α → Value} {w : World} {b n : Nat} {f : α → Option Value} {z : Value} {x : α}
/-- Behind the taking of an entry a look answers as ahead of it. -/
theorem Mg.entry_look (h : Mg k mk w b n f) (K : WideMaps.KeyLaw Try.prog k) (hmk : ∀ x y, mk x = mk y → x = y) (ht : Try.prog.underlying t = some (.map k e)) (hz : ∀ u : World, (zeroValue e).run Try.prog u = .ok z u) (hn : n ≤ 1000000) (hx : KeyOK k (mk x)) {v : Value} {w1 : World} (hr : (Instr.mapEntry t (.map (some b)) (mk x)).run Try.prog w = .ok v w1) :
    (Instr.lookup t (.map (some b)) (mk x) false).run Try.prog w1 = .ok ((f x).getD z) w1 := by
  have h' := h
  obtain ⟨⟨D, h1, h2⟩, h3⟩ := h'
  have hxx := hx
  obtain ⟨l, hl⟩ := hx
  have h1' := h1
  obtain ⟨es, clock, hb, F, hs, hD⟩ := h1'
  rcases K.find w hl es.toList F.keys with ⟨q1, q2⟩ | ⟨j, e0, q1, q2, q3⟩
  · have hrun : (Instr.mapEntry t (.map (some b)) (mk x)).run Try.prog w = .ok (.tuple #[z, goInt clock]) (ChangeMaps.setBlock w b (.map (es.push ⟨mk x, z, clock⟩) (clock + 1))) := by
      simp [Instr.mapEntry, run_underlying ht, MapKept.run_getObj_map hb, K.check w false hl, q1, hz, MapKept.run_setObj_map _ hb, Result.andThen, ChangeMaps.setBlock]
    have hup : (Instr.mapUpdate t (.map (some b)) (mk x) z).run Try.prog w = .ok () (ChangeMaps.setBlock w b (.map (es.push ⟨mk x, z, clock⟩) (clock + 1))) := by
      simp [Instr.mapUpdate, run_underlying ht, MapKept.run_getObj_map hb, K.check w false hl, q1, MapKept.run_setObj_map _ hb, Result.andThen, ChangeMaps.setBlock]
    obtain ⟨w', r1, r2, _⟩ := h.store (Keyed.of_law K) hmk ht hn hxx z
    rw [hup] at r1
    cases r1
    rw [hrun] at hr
    cases hr
    obtain ⟨st, w2, s1, _⟩ := h.entry K hmk ht hz hn hxx
    rw [hrun] at s1
    have e : z = (f x).getD z := by
      simp only [Result.ok.injEq, Value.tuple.injEq] at s1
      have h5 : #[z, goInt clock][0]? = #[(f x).getD z, Value.int .i64 st][0]? := congrArg (fun a => a[0]?) s1.1
      exact Option.some.inj h5
    have := r2.look (Keyed.of_law K) ht (hz _) hxx
    rw [upd_same] at this
    rw [this, ← e]
    rfl
  · have hj : es[j]? = some e0 := by simpa using q2
    have hsame : es.modify j (fun e => { e with key := mk x }) = es := by
      apply Array.ext'
      rw [Array.toList_modify, ChangeMaps.modify_eq_set _ _ _ _ q2]
      have : ({ e0 with key := mk x } : MapEntry) = e0 := by rw [← q3]
      rw [this]
      exact WideElems.set_self _ _ _ q2
    have hrun : (Instr.mapEntry t (.map (some b)) (mk x)).run Try.prog w = .ok (.tuple #[e0.val, goInt e0.born]) (ChangeMaps.setBlock w b (.map es clock)) := by
      simp [Instr.mapEntry, run_underlying ht, MapKept.run_getObj_map hb, K.check w false hl, q1, hj, q3, K.stays w hl, hsame, MapKept.run_setObj_map _ hb, Result.andThen, ChangeMaps.setBlock]
    rw [hrun] at hr
    cases hr
    exact (h.at ((ChangeMaps.heap_setBlock_same hb _).trans hb.symm)).look (Keyed.of_law K) ht (hz _) hxx
end
theorem zero3 (W : World) : (zeroValue 3).run Try.prog W = .ok (.int .i64 0) W := by go_simp
/-- Counts with another one at x. -/
def upc (c : Pk → Int) (x : Pk) (v : Int) : Pk → Int := fun y => if y = x then v else c y
/-- Block b is a map of counts. -/
def Ct (W : World) (b n : Nat) (c : Pk → Int) : Prop := ∃ f, Mg 46 pv W b n f ∧ ∀ x, (f x).getD (.int .i64 0) = .int .i64 (c x)
theorem Ct.at {W W' : World} {b n : Nat} {c : Pk → Int} (h : Ct W b n c) (e : W'.heap[b]? = W.heap[b]?) : Ct W' b n c := by
  obtain ⟨f, h1, h2⟩ := h
  exact ⟨f, h1.at e, h2⟩
theorem Ct.lt {W : World} {b n : Nat} {c : Pk → Int} (h : Ct W b n c) : b < W.heap.size := by
  obtain ⟨f, h1, h2⟩ := h
  exact h1.lt
theorem Ct.new (W : World) : Ct (W.alloc (.map #[] 0)) W.heap.size 0 (fun _ => 0) := ⟨_, Mg.new 46 pv W, fun _ => rfl⟩
theorem Ct.look {W : World} {b n : Nat} {c : Pk → Int} (h : Ct W b n c) {x : Pk} (hx : KeyOK 46 (pv x)) : (Instr.lookup 44 (.map (some b)) (pv x) false).run Try.prog W = .ok (.int .i64 (c x)) W := by
  obtain ⟨f, h1, h2⟩ := h
  rw [h1.look (Keyed.of_law K46) Try.underlying44 (zero3 W) hx, h2]
/-- A count changed. -/
theorem Ct.count {W : World} {b n : Nat} {c : Pk → Int} (h : Ct W b n c) (hn : n ≤ 1000000) {x : Pk} (hx : KeyOK 46 (pv x)) :
    ∃ (st : Nat) (w1 : World), (Instr.mapEntry 44 (.map (some b)) (pv x)).run Try.prog W = .ok (.tuple #[.int .i64 (c x), .int .i64 (st : Int)]) w1 ∧ (Instr.lookup 44 (.map (some b)) (pv x) false).run Try.prog w1 = .ok (.int .i64 (c x)) w1 ∧
      ∀ v : Int, ∃ w3, (Instr.entryStore 44 (.map (some b)) (.int .i64 (st : Int)) (.int .i64 v)).run Try.prog w1 = .ok () w3 ∧ Ct w3 b (n + 1) (upc c x v) ∧ Ch (fun i => i = b) W w3 := by
  obtain ⟨f, h1, h2⟩ := h
  obtain ⟨st, w1, r1, r2, r3⟩ := h1.entry K46 pv_inj Try.underlying44 zero3 hn hx
  have r4 := h1.entry_look K46 pv_inj Try.underlying44 zero3 hn hx r1
  rw [h2] at r1 r4
  refine ⟨st, w1, r1, r4, fun v => ?_⟩
  obtain ⟨w3, s1, s2, s3⟩ := r3 w1 (.int .i64 v) rfl
  refine ⟨w3, s1, ⟨_, s2, fun y => ?_⟩, ?_⟩
  · unfold upd upc
    split
    · rfl
    · exact h2 y
  · exact ((Ch.refl (fun i => i = b) W).turned r2 (Or.inl rfl)).turned s3 (Or.inl rfl)
/-- A net that was made behind w, and counts. -/
structure On (C : Nat) (w W : World) (p b : Nat) (s : PN) (c : Pk → Int) : Prop where
  ex : ∃ M, Nt C W p s M ∧ (∀ i, M i → w.heap.size ≤ i) ∧ ¬ M b
  bel : Bel w W
  ct : Ct W b C c
  b0 : w.heap.size ≤ b
section
variable {C C' : Nat} {w W W' : World} {p b : Nat} {s s' : PN} {c : Pk → Int}
theorem On.to (h : On C w W p b s c) (hb : Bel W W') : On C w W' p b s c := by
  obtain ⟨M, h1, h2, h3⟩ := h.ex
  exact ⟨⟨M, h1.bel hb, h2, h3⟩, h.bel.trans hb, h.ct.at (hb.block b h.ct.lt), h.b0⟩
theorem On.call {f : FuncId} {args : Array Value} {v : Value} (h : On C w W p b s c) (hc : C ≤ C') (k : ∀ M, Nt C W p s M → (∀ i, M i → w.heap.size ≤ i) → Calls Try.prog f args W fun e w' => e = .returned v ∧ Aft C' W p M s' w') : Calls Try.prog f args W fun e w' => e = .returned v ∧ On C' w w' p b s' c := by
  obtain ⟨M, h1, h2, h3⟩ := h.ex
  refine (k M h1 h2).mono (fun e w' ⟨he, M', k1, k2, k3⟩ => ⟨he, ⟨M', k1, fun i hi => (k2 i hi).elim (h2 i) (fun h' => Nat.le_trans h.bel.size h'), fun hm => (k2 b hm).elim h3 (fun h' => by have := h.ct.lt; omega)⟩, ?_, ?_, h.b0⟩)
  · exact ((h.bel.ch (fun i => w.heap.size ≤ i)).trans k3 (fun i hi => Or.inl (h2 i hi))).below (Nat.le_refl _) (fun i hi => hi)
  · obtain ⟨f, g1, g2⟩ := h.ct.at (k3.block b h.ct.lt h3)
    exact ⟨f, g1.mono hc, g2⟩
/-- A call that leaves a block which was made behind the net. -/
theorem On.call2 {f : FuncId} {args : Array Value} {v : Value} {B : Nat} {o : Obj} (h : On C w W p b s c) (hc : C ≤ C') (hb : Bel W W') (hB : W.heap.size ≤ B) (hr : W'.heap[B]? = some o) (k : ∀ M, Nt C W' p s M → (∀ i, M i → w.heap.size ≤ i) → Calls Try.prog f args W' fun e w' => e = .returned v ∧ Aft C' W' p M s' w') : Calls Try.prog f args W' fun e w' => e = .returned v ∧ On C' w w' p b s' c ∧ w'.heap[B]? = some o := by
  obtain ⟨M, h1, h2, h3⟩ := h.ex
  have hb' := h.bel.trans hb
  have hct := h.ct.at (hb.block b h.ct.lt)
  refine (k M (h1.bel hb) h2).mono (fun e w' ⟨he, M', k1, k2, k3⟩ => ⟨he, ⟨⟨M', k1, fun i hi => (k2 i hi).elim (h2 i) (fun h' => Nat.le_trans hb'.size h'), fun hm => (k2 b hm).elim h3 (fun h' => by have := hct.lt; omega)⟩, ?_, ?_, h.b0⟩, k3.row hr (fun hm => by have := h1.ltM B hm; omega)⟩)
  · exact ((hb'.ch (fun i => w.heap.size ≤ i)).trans k3 (fun i hi => Or.inl (h2 i hi))).below (Nat.le_refl _) (fun i hi => hi)
  · obtain ⟨f, g1, g2⟩ := hct.at (k3.block b hct.lt h3)
    exact ⟨f, g1.mono hc, g2⟩
theorem On.ask {f : FuncId} {args : Array Value} {v : Value} (h : On C w W p b s c) (k : ∀ M, Nt C W p s M → Calls Try.prog f args W fun e w' => e = .returned v ∧ Bel W w') : Calls Try.prog f args W fun e w' => e = .returned v ∧ On C w w' p b s c := by
  obtain ⟨M, h1, h2, h3⟩ := h.ex
  exact (k M h1).mono (fun e w' ⟨he, ha⟩ => ⟨he, h.to ha⟩)
theorem On.mono (h : On C w W p b s c) (hc : C ≤ C') : On C' w W p b s c := by
  obtain ⟨M, h1, h2, h3⟩ := h.ex
  obtain ⟨f, g1, g2⟩ := h.ct
  exact ⟨⟨M, h1.mono hc, h2, h3⟩, h.bel, ⟨f, g1.mono hc, g2⟩, h.b0⟩
theorem On.off {W1 W2 : World} (h : On C w W p b s c) (hb : Bel W W1) (hc : Ch (fun i => i = W.heap.size) W1 W2) : On C w W2 p b s c := by
  obtain ⟨M, h1, h2, h3⟩ := h.ex
  have hlt := h.ct.lt
  refine ⟨⟨M, (h1.bel hb).off hc (fun hm => absurd (h1.ltM _ hm) (by omega)), h2, h3⟩, ?_, (h.ct.at (hb.block b hlt)).at (hc.block b (Nat.lt_of_lt_of_le hlt hb.size) (by omega)), h.b0⟩
  have := h.bel.size
  exact (((h.bel.trans hb).ch (fun i => w.heap.size ≤ i)).trans hc (fun i hi => by rw [hi]; exact Or.inl this)).below (Nat.le_refl _) (fun i hi => hi)
/-- The counts' change leaves the net. -/
theorem On.count (h : On C w W p b s c) {c' : Pk → Int} (hc : Ch (fun i => i = b) W W') (hk : Ct W' b (C + 1) c') : On (C + 1) w W' p b s c' := by
  obtain ⟨M, h1, h2, h3⟩ := h.ex
  refine ⟨⟨M, (h1.off hc h3).mono (Nat.le_succ _), h2, h3⟩, ?_, hk, h.b0⟩
  exact ((h.bel.ch (fun i => w.heap.size ≤ i)).trans hc (fun i hi => Or.inl (by rw [hi]; exact h.b0))).below (Nat.le_refl _) (fun i hi => hi)
end
end Go.Proofs.Ytbcgikkdhfbphaa
