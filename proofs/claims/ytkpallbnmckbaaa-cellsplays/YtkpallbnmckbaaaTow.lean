/- took, for every iterator that has its contract. -/
import Derived.Test.YtkpallbnmckbaaaTok
namespace Go.Proofs.Ytkpallbnmckbaaa
open Go.RowKit Go.Shelf
attribute [local go_sem] Oper.semAt_some
/-- append of one cell that was just laid, within a round. -/
theorem app_oneIn {F : Fence} {n : Nat} {ops : Array Oper} {rest : List Oper} {o : Oper} {a : Act} {Q : Exit → Act → World → Prop} {W : World} {base : Nat} {v : Value} {L : List C} (x : C) (h : OR base W v L) (hbase : base ≤ W.heap.size) (hb : L.length + 1 ≤ 1000000)
    (hgd : o.guard = none) (s y : Operand) (ho : o.op = .call { callee := .builtin .append, args := #[s, y], argTypes := #[25, 25] }) (hs : a.eval s = v) (X : Nat) (hX : X = W.heap.size) (hx : a.eval y = .slice (some ⟨X, 0, none⟩) 1 1)
    (hK : ∀ g cap w', OR base w' (.slice (some ⟨g, 0, none⟩) (L.length + 1) cap) (L ++ [x]) → (W.alloc (.cells #[.string x.k, .int .u64 x.t, .bool x.d, .string x.v] 38)).grownBy w' v.ownBlock → (v.ownBlock = some g ∨ g = (W.alloc (.cells #[.string x.k, .int .u64 x.t, .bool x.d, .string x.v] 38)).heap.size) → wpListIn F n Try.prog ops Q rest (a.put o.dst (.slice (some ⟨g, 0, none⟩) (L.length + 1) cap)) w') : wpListIn F n Try.prog ops Q (o :: rest) a (W.alloc (.cells #[.string x.k, .int .u64 x.t, .bool x.d, .string x.v] 38)) := by
  subst hX
  obtain ⟨i0, hi, hz0, hz1, hz2⟩ := Try.i38
  refine wpListIn_plain hgd fun K hK' => ?_
  have hrow := Row.one (x := x) (at_new W (.cells #[.string x.k, .int .u64 x.t, .bool x.d, .string x.v] 38))
  obtain ⟨g, cap, w', hrun, r1, r2, r3, _⟩ := run_append_lies (P := Try.prog) (W.alloc (.cells #[.string x.k, .int .u64 x.t, .bool x.d, .string x.v] 38)) 25 o.type base 38 i0 _ 4 48 Try.underlying25 hi hz0 hz1 hz2 rfl (by decide) v L.length (fl L) (h.bel ((Bel.refl _).alloc _)) ⟨W.heap.size, 0, none⟩ 1 1 (fl [x]) (fl_len [x]) (fun t u ht => by rw [Addr.add_lit]; exact hrow.flat t u ht) fl_cells (by decide) (by unfold maxLen; omega) (by omega) (Nat.le_trans hbase (by simp)) _ rfl
  unfold Oper.wpIn
  refine ⟨?_, ?_⟩
  · simp [Oper.about, ho, resolve, Target.leads, Sem.run_pure]
  · rw [Oper.semAt_plain F _ _ (by rw [ho]; intro c hc'; cases hc')]
    simp [execOp, ho, resolve, invoke, builtin, hs, hx, hrun, Result.andThen]
    refine hK' _ _ (hK g cap w' ?_ r2 r3)
    unfold OR
    rw [fl_app, List.length_append]
    exact r1
/-- How a round's frame stands behind the assignment. -/
def TkA (w : World) (gf : Nat) (lb : Array Value) (x : C) (a : Act) (A : World) : Prop := ∃ b6, a = { tmps := #[.func (.func gf) #[] lb, .int .i64 (-1), undef, .pointer (some ⟨w.heap.size, 0, none⟩), .slice none 0 0, .pointer (some ⟨w.heap.size + 1, 0, none⟩), .pointer (some ⟨b6, 0, none⟩), .func (.func gf) #[] lb, vC x, undef, undef, undef, undef, undef, undef, undef, undef, undef], defers := [] } ∧ N4 A b6 x
set_option maxRecDepth 100000 in
set_option maxHeartbeats 4000000 in
theorem took_any {w : World} {gf : Nat} {lb : Array Value} {xs : List C} (en : En gf) (hit : It w 4 900000 gf lb xs) :
    Calls Try.prog 17 #[.func (.func gf) #[] lb, .int .i64 (-1)] w fun e w' => ∃ v, e = .returned v ∧ OR w.heap.size w' v xs ∧ Bel w w' := by
  refine (callsIn_wide (n := 5)).1 ?_
  refine callsIn_of_wp_marks Try.func17 rfl trivial ?_ rfl
  simp only [Try.ntmps17, List.size_toArray, List.length_cons, List.length_nil, Nat.reduceAdd, Nat.reduceSub, Array.replicate_succ, Array.replicate_zero, List.push_toArray, List.append_toArray, List.nil_append, List.cons_append]
  gi_wp2_with fail
  have hb1 : Bel w ((w.alloc (.cells #[.int .i64 (-1)] 3)).alloc (.cells #[.slice none 0 0] 25)) := ((Bel.refl w).alloc _).alloc _
  have hI0 : TkI w w.heap.size (w.heap.size + 1) (fun _ => False) [] ((w.alloc (.cells #[.int .i64 (-1)] 3)).alloc (.cells #[.slice none 0 0] 25)) := ⟨hb1, ((Bel.refl _).alloc _).row (at_new w _), ⟨.slice none 0 0, at_new2 w _ _, OR.nil _ _, fun _ h => h.elim⟩, fun _ h => h.elim, by omega, fun _ h => h.elim⟩
  refine rangeIt (p := 8) (w0 := w) (xs := xs) (N := 900000) (by decide) (gf := gf) (lb := lb) rfl en hit hb1 (TkI w w.heap.size (w.heap.size + 1)) (TkA w gf lb)
    (fun X pre A B h hb => h.next hb) (fun X pre A o h => h.own o) (fun X pre A B b c h hX _ hc => h.set hX hc) (fun X pre A h => h.bel)
    (fun X pre A r o o' h hr ho hn => h.put o' (by simp at hr; omega) ho hn) ?hAx hI0 ?hassign ?hbody ?hdone
  case hAx =>
    rintro x a' A r o o' ⟨b6, rfl, hn⟩ hr ho hc
    refine ⟨b6, rfl, hn.ch (ch_put A r o') (fun e => ?_)⟩
    subst e
    have := hn.1
    unfold World.cell? at this
    rw [ho] at this
    cases o <;> simp_all [Obj.isCells]
  case hassign =>
    intro l X pre x A K hI hK
    obtain ⟨xk, xt, xd, xv⟩ := x
    have hfin := hK { tmps := #[.func (.func gf) #[] lb, .int .i64 (-1), undef, .pointer (some ⟨w.heap.size, 0, none⟩), .slice none 0 0, .pointer (some ⟨w.heap.size + 1, 0, none⟩), .pointer (some ⟨A.heap.size, 0, none⟩), .func (.func gf) #[] lb, vC (xk, xt, xd, xv), undef, undef, undef, undef, undef, undef, undef, undef, undef], defers := [] } (A.alloc (.cells #[.string xk, .int .u64 xt, .bool xd, .string xv] 38)) ((Bel.refl _).alloc _) (hI.next ((Bel.refl _).alloc _)) ⟨_, rfl, N4.of (at_new A _)⟩
    have HF := hide hfin
    clear hfin hK hI hit hI0 hb1
    unfold vC at HF ⊢
    gi_wp2_with fail
    exact HF.out
  case hbody =>
    rintro l X pre x a' A hI ⟨b6, rfl, hn⟩ hlen
    obtain ⟨v, hv, hr, hvX⟩ := hI.row
    obtain ⟨al, cpl, gl, rfl, _, _⟩ := hr.shape
    obtain ⟨xk, xt, xd, xv⟩ := x
    obtain ⟨n0, n1, n2, n3⟩ := hn
    simp only [C.k, C.t, C.d, C.v] at n0 n1 n2 n3
    have c5 : A.cell? ⟨w.heap.size + 1, 0, none⟩ = some (.slice al pre.length cpl) := hv.cell
    have c3 : A.cell? ⟨w.heap.size, 0, none⟩ = some (.int .i64 (-1)) := cell_of hI.mst
    have hne : ((pre.length : Int) == -1) = false := by rw [beq_eq_false_iff_ne]; omega
    have HR := hide (And.intro hv hr)
    have HI := hide hI
    clear hv hr hvX hI hit hI0 hb1
    unfold vC
    gi_wp2_with (refine app_oneIn (xk, xt, xd, xv) (unhide HR).2 (unhide HI).bel.size (by omega) rfl _ _ rfl rfl _ rfl rfl ?_; intro g3 cap3 w3 ho3 hg3 hat3; obtain ⟨hJ3, y1, y2, y3, y4⟩ := ((unhide HI).next ((Bel.refl _).alloc _)).push (x := (xk, xt, xd, xv)) (((Bel.refl _).alloc _).row (unhide HR).1) ((unhide HR).2.bel ((Bel.refl _).alloc _)) hg3 ho3 rfl hat3; have HJ3 := hide (And.intro hJ3 (And.intro y3 y4)); clear hJ3 y3 y4 ho3 hg3 hat3)
    refine ⟨(unhide HJ3).1, (KeepsOthers.alloc A _).trans (unhide HJ3).2.1, fun b hb => ((unhide HJ3).2.2 b hb).trans (((Bel.refl A).alloc _).block b ((unhide HI).xlt b hb))⟩
  case hdone =>
    intro D X W hD hI hK
    obtain ⟨v, hv, hr, hvX⟩ := hI.row
    obtain ⟨al, cpl, gl, rfl, _, _⟩ := hr.shape
    have c5 : W.cell? ⟨w.heap.size + 1, 0, none⟩ = some (.slice al xs.length cpl) := hv.cell
    have hDw : w.heap.size ≤ D := by simp at hD; omega
    have HI := hide (And.intro hI (And.intro hr (And.intro hK hDw)))
    clear hv hr hvX hI hit hI0 hb1 hK hDw hD
    gi_wp2_with fail
    obtain ⟨hI, hr, hK, hDw⟩ := HI.out
    refine ⟨by simp, .inl ⟨_, _, rfl, run_takeDeferred hK, ?_⟩⟩
    refine ⟨.slice al xs.length cpl, ?_, _, rfl, ownsRow_putObj (o := .deferred (some [])) hr (.deferred none) hK rfl, (ch_put W D (.deferred none)).after hI.bel hDw⟩
    simp [results, Try.f17, go_sem]
end Go.Proofs.Ytkpallbnmckbaaa
