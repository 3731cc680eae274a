/- What an iterator tells, collected and sorted. -/
import Derived.Test.YtbcgikkdhfbphaaKey
namespace Go.Proofs.Ytbcgikkdhfbphaa
open Go.RowKit Go.Shelf Go.Maps
attribute [local go_sem] Oper.semAt_some
theorem ne_type {A : World} {a b : Nat} {c d : Array Value} {t u : TypeId} (h : A.heap[a]? = some (.cells c t)) (k : A.heap[b]? = some (.cells d u)) (hne : t ≠ u) : a ≠ b := fun e => by
  rw [e, k] at h
  cases h
  exact hne rfl
theorem Ch.after {w A A' : World} {r : Nat} (hc : Ch (fun i => i = r) A A') (hb : Bel w A) (hr : w.heap.size ≤ r) : Bel w A' :=
  ((hb.ch (fun i => w.heap.size ≤ i)).trans hc (fun i hi => by rw [hi]; exact Or.inl hr)).below (Nat.le_refl _) (fun i hi => hi)
theorem boxed_one {A : World} {B : Nat} {t : TypeId} {v v' : Value} (h : Boxed A B t v) (h' : Boxed A B t v') : v = v' := by
  have : some (Obj.cells #[v] t (0, 0)) = some (Obj.cells #[v'] t (0, 0)) := (show A.heap[B]? = _ from h).symm.trans h'
  simpa using this
/-- How AppendSeq stands: B is the box of its list. -/
structure TkI (w : World) (B : Nat) (X : Nat → Prop) (pre : List (Int × Int)) (A : World) : Prop where
  bel : Bel w A
  row : ∃ v, Boxed A B 95 v ∧ E86.O w.heap.size A v pre ∧ ∀ b, X b → v.ownBlock ≠ some b
  sep : ∀ b, X b → w.heap.size ≤ b ∧ b ≠ B
  lo : w.heap.size ≤ B
  xlt : ∀ b, X b → b < A.heap.size
theorem TkI.next {w : World} {B : Nat} {X : Nat → Prop} {pre : List (Int × Int)} {A A' : World} (h : TkI w B X pre A) (hb : Bel A A') : TkI w B X pre A' := by
  obtain ⟨v, h1, h2, h3⟩ := h.row
  exact ⟨h.bel.trans hb, ⟨v, hb.row h1, h2.bel hb, h3⟩, h.sep, h.lo, fun b hX => Nat.lt_of_lt_of_le (h.xlt b hX) hb.size⟩
theorem TkI.own {w : World} {B : Nat} {X : Nat → Prop} {pre : List (Int × Int)} {A A' : World} (h : TkI w B X pre A) (hb : Bel A A') : TkI w B (fun k => X k ∨ (A.heap.size ≤ k ∧ k < A'.heap.size)) pre A' := by
  obtain ⟨v, h1, h2, h3⟩ := h.row
  refine ⟨h.bel.trans hb, ⟨v, hb.row h1, h2.bel hb, fun b hX => ?_⟩, fun b hX => ?_, h.lo, fun b hX => hX.elim (fun hX => Nat.lt_of_lt_of_le (h.xlt b hX) hb.size) (fun e => e.2)⟩
  · rcases hX with hX | hX
    · exact h3 b hX
    · intro e; have := (h2.lt e).2; omega
  · rcases hX with hX | hX
    · exact h.sep b hX
    · have := h1.lt
      have := h.bel.size
      exact ⟨by omega, by omega⟩
theorem TkI.ch {w : World} {B : Nat} {X : Nat → Prop} {pre : List (Int × Int)} {A A' : World} {r : Nat} (h : TkI w B X pre A) (hc : Ch (fun i => i = r) A A') (hr : w.heap.size ≤ r) (h2 : B ≠ r) (h3 : ∀ v, Boxed A B 95 v → v.ownBlock ≠ some r) : TkI w B X pre A' := by
  obtain ⟨v, q1, q2, q3⟩ := h.row
  exact ⟨hc.after h.bel hr, ⟨v, hc.row q1 h2, q2.at (fun k hk => hc.block k (q2.lt hk).2 (fun e => by subst e; exact h3 v q1 hk)), q3⟩, h.sep, h.lo, fun b hX => Nat.lt_of_lt_of_le (h.xlt b hX) hc.size⟩
theorem TkI.set {w : World} {B : Nat} {X : Nat → Prop} {pre : List (Int × Int)} {A A' : World} {b : Nat} (h : TkI w B X pre A) (hX : X b) (hc : Ch (fun i => i = b) A A') : TkI w B X pre A' := by
  obtain ⟨s1, s3⟩ := h.sep b hX
  obtain ⟨v, q1, q2, q3⟩ := h.row
  exact h.ch hc s1 (fun e => s3 e.symm) (fun v' hv' => by rw [boxed_one hv' q1]; exact q3 b hX)
theorem TkI.put {w : World} {B : Nat} {X : Nat → Prop} {pre : List (Int × Int)} {A : World} {r : Nat} {o : Obj} (h : TkI w B X pre A) (o' : Obj) (hr : w.heap.size ≤ r) (ho : A.heap[r]? = some o) (hn : o.isCells = false) : TkI w B X pre (A.putObj r o') := by
  obtain ⟨v, q1, q2, q3⟩ := h.row
  refine h.ch (ch_obj A r o') hr (fun e => ?_) (fun v' hv' e => ?_)
  · subst e; rw [show A.heap[B]? = _ from q1] at ho; cases ho; cases hn
  · rw [boxed_one hv' q1] at e
    obtain ⟨c, hc⟩ := q2.block e
    rw [hc] at ho; cases ho; cases hn
/-- Behind an append to the list, and its store. -/
theorem TkI.push {w : World} {B : Nat} {X : Nat → Prop} {pre : List (Int × Int)} {A A1 : World} {v v' : Value} {x : Int × Int} {g cap : Nat} (h : TkI w B X pre A) (hv : Boxed A B 95 v) (hr : E86.O w.heap.size A v pre)
    (hg : A.grownBy A1 v.ownBlock) (ho : E86.O w.heap.size A1 v' (pre ++ [x])) (he : v' = .slice (some ⟨g, 0, none⟩) (pre.length + 1) cap) (hat : v.ownBlock = some g ∨ g = A.heap.size) :
    TkI w B X (pre ++ [x]) (A1.setCell ⟨B, 0, none⟩ v') ∧ A1.cell? ⟨B, 0, none⟩ = some v ∧ A1.frozen? ⟨B, 0, none⟩ = false ∧ KeepsOthers A (A1.setCell ⟨B, 0, none⟩ v') ∧ ∀ b, X b → (A1.setCell ⟨B, 0, none⟩ v').heap[b]? = A.heap[b]? := by
  obtain ⟨v0, q1, q2, q3⟩ := h.row
  obtain rfl := boxed_one hv q1
  have hL : v.ownBlock ≠ some B := fun e => by
    obtain ⟨c, hc⟩ := hr.block e
    exact ne_type hc (show A.heap[B]? = some (.cells #[v] 95) from hv) (by decide) rfl
  have hv1 : Boxed A1 B 95 v := (hg.block B hv.lt (fun e => hL e.symm)).trans hv
  have hBW1 : Bel w A1 := Below.trans h.bel ((Below.refl _ A).grown hg h.bel.size (fun k hk => (hr.lt hk).1))
  have e3 : v'.ownBlock ≠ some B := fun e => by
    obtain ⟨c, hc⟩ := ho.block e
    exact ne_type hc (show A1.heap[B]? = some (.cells #[v] 95) from hv1) (by decide) rfl
  refine ⟨⟨Below.setCell hBW1 (p := ⟨B, 0, none⟩) h.lo _, ⟨v', hv1.set v', ho.at (fun k hk => ?_), fun b hb => ?_⟩, h.sep, h.lo, fun b hb => ?_⟩, hv1.cell, hv1.frozen, ?_, fun b hb => ?_⟩
  · exact Below.heap_setCell _ _ _ _ (fun e => by subst e; exact e3 hk)
  · rw [he]
    intro e
    have eg : g = b := by simpa [Value.ownBlock] using e
    subst eg
    rcases hat with hat | hat
    · exact q3 g hb hat
    · have := h.xlt g hb; omega
  · have e1 := h.xlt b hb
    have e2 := hg.size
    have e3 := (KeepsWalks.setCell A1 ⟨B, 0, none⟩ v').size
    omega
  · refine (KeepsOthers.of_grownBy hg fun j o ej hj => ?_).trans (KeepsOthers.setCell _ _ _)
    obtain ⟨c, hc⟩ := hr.block ej
    rw [hc] at hj; cases hj; rfl
  · rw [Below.heap_setCell _ _ _ _ (fun e => (h.sep b hb).2 e)]
    exact hg.block b (h.xlt b hb) (fun e => q3 b hb e.symm)
/-- append of one link that was just laid, within a round. -/
theorem app_oneIn {F : Fence} {n : Nat} {ops : Array Oper} {rest : List Oper} {o : Oper} {a : Act} {Q : Exit → Act → World → Prop} {W : World} {base : Nat} {v : Value} {L : List (Int × Int)} (x : Int × Int) (h : E86.O base W v L) (hbase : base ≤ W.heap.size) (hb : L.length + 1 ≤ 1000000000000)
    (hgd : o.guard = none) (s y : Operand) (ho : o.op = .call { callee := .builtin .append, args := #[s, y], argTypes := #[95, 95] }) (hs : a.eval s = v) (X : Nat) (hX : X = W.heap.size) (hx : a.eval y = .slice (some ⟨X, 0, none⟩) 1 1)
    (hK : ∀ g cap w', E86.O base w' (.slice (some ⟨g, 0, none⟩) (L.length + 1) cap) (L ++ [x]) → (W.alloc (.cells #[.int .i64 x.1, .int .i64 x.2] 86)).grownBy w' v.ownBlock → (v.ownBlock = some g ∨ g = (W.alloc (.cells #[.int .i64 x.1, .int .i64 x.2] 86)).heap.size) → wpListIn F n Try.prog ops Q rest (a.put o.dst (.slice (some ⟨g, 0, none⟩) (L.length + 1) cap)) w') : wpListIn F n Try.prog ops Q (o :: rest) a (W.alloc (.cells #[.int .i64 x.1, .int .i64 x.2] 86)) := by
  subst hX
  refine wpListIn_plain hgd fun K hK' => ?_
  obtain ⟨g, cap, w', hrun, r1, r2, r3⟩ := El.run_app1 (E := E86) (W.alloc (.cells #[.int .i64 x.1, .int .i64 x.2] 86)) base v L (h.bel ((Bel.refl _).alloc _)) (Nat.le_trans hbase (by simp)) x W.heap.size 1 (at_new W _) hb o.type
  have hrun' : (Builtin.append_ #[95, 95] o.type #[v, .slice (some ⟨W.heap.size, 0, none⟩) 1 1]).run Try.prog (W.alloc (.cells #[.int .i64 x.1, .int .i64 x.2] 86)) = .ok (.slice (some ⟨g, 0, none⟩) (L.length + 1) cap) w' := hrun
  unfold Oper.wpIn
  refine ⟨?_, ?_⟩
  · simp [Oper.about, ho, resolve, Target.leads, Sem.run_pure]
  · rw [Oper.semAt_plain F _ _ (by rw [ho]; intro c hc'; cases hc')]
    simp [execOp, ho, resolve, invoke, builtin, hs, hx, hrun', Result.andThen]
    exact hK' _ _ (hK g cap w' r1 r2 r3)
/-- How a round's frame stands behind the assignment. -/
def TkA (w : World) (gf : Nat) (lb : Array Value) (x : Int × Int) (a : Act) (A : World) : Prop := ∃ b6, a = { tmps := #[.slice none 0 0, .func (.func gf) #[] lb, .pointer (some ⟨w.heap.size, 0, none⟩), undef, .slice none 0 0, .pointer (some ⟨b6, 0, none⟩), .func (.func gf) #[] lb, lk x, undef, undef, undef, undef, undef], defers := [] } ∧ A.heap[b6]? = some (.cells #[.int .i64 x.1, .int .i64 x.2] 86)
set_option maxRecDepth 100000 in
set_option maxHeartbeats 4000000 in
theorem appendSeq_any {w : World} {gf : Nat} {lb : Array Value} {Sx : List (Int × Int) → Prop} (en : En gf) (hit : It w 4 900001 gf lb Sx) :
    Calls Try.prog 59 #[.slice none 0 0, .func (.func gf) #[] lb] w fun e w' => ∃ v xs, e = .returned v ∧ Sx xs ∧ E86.O w.heap.size w' v xs ∧ Bel w w' := by
  refine (callsIn_wide (n := 5)).1 ?_
  refine callsIn_of_wp_marks Try.func59 rfl trivial ?_ rfl
  simp only [Try.ntmps59, List.size_toArray, List.length_cons, List.length_nil, Nat.reduceAdd, Nat.reduceSub, Array.replicate_succ, Array.replicate_zero, List.push_toArray, List.append_toArray, List.nil_append, List.cons_append]
  gi_wp2_with fail
  have hb1 : Bel w (w.alloc (.cells #[.slice none 0 0] 95)) := (Bel.refl w).alloc _
  have hI0 : TkI w w.heap.size (fun _ => False) [] (w.alloc (.cells #[.slice none 0 0] 95)) := ⟨hb1, ⟨.slice none 0 0, at_new w _, El.O.nil _ _, fun _ h => h.elim⟩, fun _ h => h.elim, Nat.le_refl _, fun _ h => h.elim⟩
  refine rangeIt (p := 7) (w0 := w) (Sx := Sx) (N := 900001) (by decide) (gf := gf) (lb := lb) rfl en hit hb1 (TkI w w.heap.size) (TkA w gf lb)
    (fun X pre A B h hb => h.next hb) (fun X pre A B h hb => h.own hb) (fun X pre A B b h hX hc => h.set hX hc) (fun X pre A h => h.bel)
    (fun X pre A r o o' h hr ho hn => h.put o' (by simp at hr; omega) ho hn) ?hAx hI0 ?hassign ?hbody ?hdone
  case hAx =>
    rintro x a' A r o o' ⟨b6, rfl, hn⟩ hr ho hc
    refine ⟨b6, rfl, (ch_obj A r o').row hn (fun e => ?_)⟩
    subst e
    rw [hn] at ho; cases ho; cases hc
  case hassign =>
    intro l X pre x A K hI hK
    obtain ⟨xa, xb⟩ := x
    have hfin := hK { tmps := #[.slice none 0 0, .func (.func gf) #[] lb, .pointer (some ⟨w.heap.size, 0, none⟩), undef, .slice none 0 0, .pointer (some ⟨A.heap.size, 0, none⟩), .func (.func gf) #[] lb, lk (xa, xb), undef, undef, undef, undef, undef], defers := [] } (A.alloc (.cells #[.int .i64 xa, .int .i64 xb] 86)) ((Bel.refl _).alloc _) (hI.next ((Bel.refl _).alloc _)) ⟨_, rfl, at_new A _⟩
    have HF := hide hfin
    clear hfin hK hI hit hI0 hb1
    simp only [lk] at HF ⊢
    gi_wp2_with fail
    exact HF.out
  case hbody =>
    rintro l X pre x a' A hI ⟨b6, rfl, hn⟩ hlen
    obtain ⟨v, hv, hr, hvX⟩ := hI.row
    obtain ⟨al, cpl, gl, rfl, _, _, _⟩ := hr.shape
    obtain ⟨xa, xb⟩ := x
    have n0 : A.cell? ⟨b6, 0, none⟩ = some (.int .i64 xa) := cell_of hn
    have n1 : A.cell? ⟨b6, 1, none⟩ = some (.int .i64 xb) := cell_of hn
    have c5 : A.cell? ⟨w.heap.size, 0, none⟩ = some (.slice al pre.length cpl) := hv.cell
    have HR := hide (And.intro hv hr)
    have HI := hide hI
    clear hv hr hvX hI hit hI0 hb1
    simp only [lk]
    gi_wp2_with (refine app_oneIn (xa, xb) (unhide HR).2 (unhide HI).bel.size (by omega) rfl _ _ rfl rfl _ rfl rfl ?_; intro g3 cap3 w3 ho3 hg3 hat3; obtain ⟨hJ3, y1, y2, y3, y4⟩ := ((unhide HI).next ((Bel.refl _).alloc _)).push (x := (xa, xb)) (((Bel.refl _).alloc _).row (unhide HR).1) ((unhide HR).2.bel ((Bel.refl _).alloc _)) hg3 ho3 rfl hat3; have HJ3 := hide (And.intro hJ3 (And.intro y3 y4)); clear hJ3 y3 y4 ho3 hg3 hat3)
    refine ⟨(unhide HJ3).1, (KeepsOthers.alloc A _).trans (unhide HJ3).2.1, fun b hb => ((unhide HJ3).2.2 b hb).trans (((Bel.refl A).alloc _).block b ((unhide HI).xlt b hb))⟩
  case hdone =>
    intro D X xs W hD hsx hI hK
    obtain ⟨v, hv, hr, hvX⟩ := hI.row
    obtain ⟨al, cpl, gl, rfl, _, _, _⟩ := hr.shape
    have c5 : W.cell? ⟨w.heap.size, 0, none⟩ = some (.slice al xs.length cpl) := hv.cell
    have hDw : w.heap.size ≤ D := by simp at hD; omega
    have HI := hide (And.intro hI (And.intro hr (And.intro hK (And.intro hDw hsx))))
    clear hv hr hvX hI hit hI0 hb1 hK hDw hD hsx
    gi_wp2_with fail
    obtain ⟨hI, hr, hK, hDw, hsx⟩ := HI.out
    refine ⟨by simp, .inl ⟨_, _, rfl, run_takeDeferred hK, ?_⟩⟩
    refine ⟨.slice al xs.length cpl, ?_, _, xs, rfl, hsx, ownsRow_putObj (o := .deferred (some [])) hr (.deferred none) hK rfl, (ch_obj W D (.deferred none)).after hI.bel hDw⟩
    simp [results, Try.f59, go_sem]
end Go.Proofs.Ytbcgikkdhfbphaa
