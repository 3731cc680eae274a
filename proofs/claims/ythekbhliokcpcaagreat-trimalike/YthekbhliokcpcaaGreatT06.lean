/- A range over an iterator that may be left by a return; slices.Backward at entries; membersOf, whatever the log has. vote.Term, vote.Members of any member; slices.Clip at entries; trim.behind. Rows that are read, and of what type their blocks are. A struct is read whole, or boxed; what operation it i -/
import Derived.Test.YthekbhliokcpcaaGreatT03
import Derived.Test.YthekbhliokcpcaaGreatT04
namespace Go.Proofs.YthekbhliokcpcaaGreat
open Go.RowKit Go.Shelf
attribute [local go_sem] Oper.semAt_some
def ItS {α : Type} (w : World) (n gf : Nat) (lb : Array Value) (encs : α → Array Value) (xs : List α) : Prop :=
 ∀ (l : Nat) (J : Nat → World → Prop) (Jx : World → Prop) (W : World), Bel w W → J 0 W →
  (∀ (i : Nat) (x : α) (A : World), xs[i]? = some x → J i A → Bel w A → YieldAt Fence.wide (n - 1) Tryz.prog l (encs x) A fun e B => (e = .returned (.bool true) ∧ J (i + 1) B ∧ Bel w B) ∨ (e = .returned (.bool false) ∧ Jx B)) →
  (∀ i A B, J i A → Bel A B → J i B) → (∀ A B, Jx A → Bel A B → Jx B) →
  CallsIn Fence.wide n Tryz.prog gf (#[.func (.yield l) #[] #[]] ++ lb) W fun e W' => (∃ v, e = .returned v) ∧ ((J xs.length W' ∧ Bel w W') ∨ Jx W')
theorem rangeStop {α : Type} {g : Operand} {ps : Array Tmp} {assign body : Code} {Q : Exit → Act → World → Prop} {a : Act} {w : World} {n : Nat} (h1 : 1 ≤ n) {gf : Nat} {lb : Array Value} (hg : a.eval g = .func (.func gf) #[] lb) (en : En gf) {encs : α → Array Value} (hps : ∀ x, (encs x).size = ps.size) {xs : List α}
  (hit : ItS w (n - 1) gf lb encs xs) (I : Nat → Prop) (bR : Nat) (hbR : bR < w.heap.size) (RX : Obj → Prop) (Ax : α → Act → World → Prop)
  (hI0 : I 0)
  (hAx : ∀ x a' A r o o', Ax x a' A → w.heap.size ≤ r → A.heap[r]? = some o → o.isCells = false → Ax x a' (A.putObj r o'))
  (hassign : ∀ (l : Nat) (x : α) (A : World) (K : Act → World → Prop), Bel w A → (∀ a' A', Bel A A' → Ax x a' A' → K a' A') →
   assign.wpIn (Fence.wide.inRound l) (n - 1 - 1) Tryz.prog (Exit.then K (fun _ _ _ => False)) { tmps := (ps.zip (encs x)).foldl (fun t (p, v) => t.setIfInBounds p v) a.tmps, defers := [] } A)
  (hbody : ∀ (l i : Nat) (x : α) (a' : Act) (A : World), xs[i]? = some x → I i → Bel w A → Ax x a' A → body.wpIn (Fence.wide.inRound l) (n - 1 - 1) Tryz.prog (fun e _ B => (e = .normal ∧ Bel A B ∧ I (i + 1)) ∨ (e = .ret ∧ Ch (fun k => k = bR) A B ∧ ∃ o, B.heap[bR]? = some o ∧ RX o)) a' A)
  (hdone : ∀ (D : Nat) (W : World), w.heap.size ≤ D → Bel w W → I xs.length → W.heap[D]? = some (.deferred (some [])) → Q .normal { a with defers := { target := .collected D, args := #[] } :: a.defers } W)
  (hret : ∀ (D : Nat) (W : World) (o : Obj), w.heap.size ≤ D → Ch (fun k => k = bR) w W → W.heap[bR]? = some o → RX o → W.heap[D]? = some (.deferred (some [])) → Q .ret { a with defers := { target := .collected D, args := #[] } :: a.defers } W) :
  (Code.rangeFunc g ps assign body).wpIn Fence.wide n Tryz.prog Q a w := by
 refine wpIn_rangeFunc ?_
 intro fn hfn
 obtain ⟨rec, hrec⟩ : ∃ rec : LoopState → Option Code → Loop, rec = fun st pe => { state := st, pending := pe, fn, tmps := a.tmps, params := ps, assign, body, defers := w.heap.size } := ⟨_, rfl⟩
 obtain ⟨W1, hW1⟩ : ∃ W1, (w.alloc (.deferred (some []))).alloc (.loop (rec .ready none)) = W1 := ⟨_, rfl⟩
 have hL1 : W1.heap[w.heap.size + 1]? = some (.loop (rec .ready none)) := by rw [← hW1]; exact at_new2 w _ _
 have hK1 : W1.heap[w.heap.size]? = some (.deferred (some [])) := by rw [← hW1]; exact ((Bel.refl _).alloc _).row (at_new w _)
 have hbW : Bel w W1 := by rw [← hW1]; exact ((Bel.refl w).alloc _).alloc _
 refine ⟨w.heap.size + 1, [{ target := .collected w.heap.size, args := #[] }], W1, { target := .fn (.func gf) lb, args := #[.func (.yield (w.heap.size + 1)) #[] #[]] }, W1, gf,
  #[.func (.yield (w.heap.size + 1)) #[] #[]] ++ lb, W1, ?_, ?_, fun _ _ => trivial, ?_, fun _ => h1, ?_⟩
 ·rw [← hW1, hrec]; exact run_enterLoop_outer _ _ _ _ _
 ·simp only [resolve, hg]
  simp [go_sem]
 ·have eg : ∀ (args : Array Value) (w : World), (callFunc gf args).run Tryz.prog w = .ok (.enter gf args) w := en
  simp [invoke, go_sem, eg]
 ·refine (hit (w.heap.size + 1) (fun i A => I i ∧ Bel w A ∧ A.heap[w.heap.size + 1]? = some (.loop (rec .ready none)) ∧ A.heap[w.heap.size]? = some (.deferred (some []))) (fun A => Ch (fun k => k = bR) w A ∧ (∃ o, A.heap[bR]? = some o ∧ RX o) ∧ A.heap[w.heap.size + 1]? = some (.loop (rec .done (some .ret))) ∧ A.heap[w.heap.size]? = some (.deferred (some []))) W1 hbW ⟨hI0, hbW, hL1, hK1⟩ ?yld ?bel ?belx).mono ?fin
  case bel =>
   rintro i A B ⟨q0, q3, q1, q2⟩ hb
   exact ⟨q0, q3.trans hb, hb.row q1, hb.row q2⟩
  case belx =>
   rintro A B ⟨q0, ⟨o, q3, q4⟩, q1, q2⟩ hb
   exact ⟨q0.bel hb, ⟨o, hb.row q3, q4⟩, hb.row q1, hb.row q2⟩
  case yld =>
   rintro i x A hx ⟨hi, _, hl, hk⟩ hbA
   have hy := run_yield (P := Tryz.prog) (args := encs x) hl (by rw [hrec]; exact hps x)
   rw [hrec] at hy
   refine ⟨fn, _, assign, body, hy, roundIn_of_wpIn hfn (hassign _ x A _ hbA ?_)⟩
   intro a' A' hb' hax
   have hl' := hb'.row hl
   have hk' := hb'.row hk
   refine ⟨_, run_beginRound hl' (by rw [hrec]), ?_⟩
   have hx2 := hAx x a' A' _ _ (.loop { rec .ready none with state := .busy }) hax (by omega) hl' rfl
   have hbP := bel_off (hbA.trans hb') (ch_put A' (w.heap.size + 1) (.loop { rec .ready none with state := .busy })) (by omega)
   have hl2 : (A'.putObj (w.heap.size + 1) (.loop { rec .ready none with state := .busy })).heap[w.heap.size + 1]? = some (.loop { rec .ready none with state := .busy }) := World.putObj_heap_same (lt_of_some hl')
   have hk2 : (A'.putObj (w.heap.size + 1) (.loop { rec .ready none with state := .busy })).heap[w.heap.size]? = some (.deferred (some [])) := (World.putObj_heap_other (by omega)).trans hk'
   refine wpIn_mono (hbody _ i x a' _ hx hi hbP hx2) ?_
   rintro e a3 W3 (⟨rfl, hb3, hi3⟩ | ⟨rfl, hc3, o, ho3, hr3⟩)
   ·have hl3 := hb3.row hl2
    have hd3 := hb3.row hk2
    have hend := run_endRound (P := Tryz.prog) none hl3
    refine ⟨_, _, hend, Or.inl ⟨rfl, ⟨hi3, bel_off (hbP.trans hb3) (ch_put W3 _ _) (by omega), ?_, (World.putObj_heap_other (by omega)).trans hd3⟩, bel_off (hbP.trans hb3) (ch_put W3 _ _) (by omega)⟩⟩
    rw [World.putObj_heap_same (lt_of_some hl3), hrec]; rfl
   ·have hl3 := hc3.row hl2 (by omega)
    have hd3 := hc3.row hk2 (by omega)
    have hend := run_endRound (P := Tryz.prog) (some .ret) hl3
    refine ⟨_, _, hend, Or.inr ⟨rfl, ((hbP.ch _).trans hc3 (fun k hk => Or.inl hk)).trans (ch_put W3 _ _) (fun k hk => Or.inr (by omega)), ⟨o, (World.putObj_heap_other (by omega)).trans ho3, hr3⟩, ?_, (World.putObj_heap_other (by omega)).trans hd3⟩⟩
    rw [World.putObj_heap_same (lt_of_some hl3), hrec]; rfl
  case fin =>
   rintro e W2 ⟨⟨v, rfl⟩, ⟨⟨hi, _, hl, hk⟩, hb2⟩ | ⟨hc2, ⟨o, ho, hr⟩, hl, hk⟩⟩
   ·exact ⟨none, _, by have := run_endLoop (P := Tryz.prog) hl (by rw [hrec]; simp); rw [hrec] at this; exact this, hdone _ _ (Nat.le_refl _) (bel_off hb2 (ch_put W2 _ _) (by omega)) hi ((World.putObj_heap_other (by omega)).trans hk)⟩
   ·refine ⟨some .ret, _, by have := run_endLoop (P := Tryz.prog) hl (by rw [hrec]; simp); rw [hrec] at this; exact this, wpIn_ret ?_⟩
    exact hret _ _ o (Nat.le_refl _) (hc2.trans (ch_put W2 _ _) (fun k hk => Or.inr (by omega))) ((World.putObj_heap_other (by omega)).trans ho) hr ((World.putObj_heap_other (by omega)).trans hk)
def memOf (B : List Int) : List GE → List Int
 | [] => B
 | e :: l => memOf (if e.k = 2 then e.m else B) l
theorem memOf_len {n : Nat} : ∀ (l : List GE) (B : List Int), B.length ≤ n → (∀ e ∈ l, e.m.length ≤ n) → (memOf B l).length ≤ n
 | [], _, h, _ => h
 | e :: l, B, h, hl => by
  unfold memOf
  refine memOf_len l _ ?_ (fun y hy => hl y (List.mem_cons_of_mem _ hy))
  split
  ·exact hl e List.mem_cons_self
  ·exact h
def memX (b : List Int × GA) : List (GE × GA) → List Int × GA
 | [] => b
 | e :: l => memX (if e.1.k = 2 then (e.1.m, e.2) else b) l
theorem memX_app (b : List Int × GA) (l m : List (GE × GA)) : memX b (l ++ m) = memX (memX b l) m := by
 induction l generalizing b with
 | nil => rfl
 | cons e l ih => exact ih _
theorem memX_one (b : List Int × GA) (e : GE × GA) : memX b [e] = if e.1.k = 2 then (e.1.m, e.2) else b := rfl
theorem memX_of (b : List Int × GA) (l : List (GE × GA)) : (memX b l).1 = memOf b.1 (l.map (·.1)) := by
 induction l generalizing b with
 | nil => rfl
 | cons e l ih =>
  show (memX (if e.1.k = 2 then (e.1.m, e.2) else b) l).1 = memOf (if e.1.k = 2 then e.1.m else b.1) (l.map (·.1))
  rw [ih]
  by_cases h : e.1.k = 2
  ·rw [if_pos h, if_pos h]
  ·rw [if_neg h, if_neg h]
theorem memX_sl {W : World} (b : List Int × GA) (l : List (GE × GA)) (hb : Sl E3 W b.2.a b.1) (hl : Gm W l) : Sl E3 W (memX b l).2.a (memX b l).1 := by
 induction l generalizing b with
 | nil => exact hb
 | cons e l ih =>
  unfold memX
  refine ih _ ?_ (fun x hx => hl x (List.mem_cons_of_mem _ hx))
  by_cases h : e.1.k = 2
  ·rw [if_pos h]; exact hl e List.mem_cons_self
  ·rw [if_neg h]; exact hb
theorem memX_no (b : List Int × GA) (l : List (GE × GA)) (i : Nat) (hi : i < l.length) (h : memX b l = memX b (l.take (l.length - i))) (hk : l[l.length - 1 - i].1.k ≠ 2) : memX b l = memX b (l.take (l.length - (i + 1))) := by
 rw [h, show l.length - i = (l.length - 1 - i) + 1 by omega, List.take_add_one, List.getElem?_eq_getElem (by omega), memX_app]
 simp only [Option.toList_some]
 rw [memX_one, if_neg hk, show l.length - (i + 1) = l.length - 1 - i by omega]
theorem memX_yes (b : List Int × GA) (l : List (GE × GA)) (i : Nat) (hi : i < l.length) (h : memX b l = memX b (l.take (l.length - i))) (hk : l[l.length - 1 - i].1.k = 2) : memX b l = (l[l.length - 1 - i].1.m, l[l.length - 1 - i].2) := by
 rw [h, show l.length - i = (l.length - 1 - i) + 1 by omega, List.take_add_one, List.getElem?_eq_getElem (by omega), memX_app]
 simp only [Option.toList_some]
 rw [memX_one, if_pos hk]
def encK (x : Nat × GE × GA) : Array Value := #[.int .i64 x.1, .agg (encG x.2).toArray]
def backs (L : List (GE × GA)) : List (Nat × GE × GA) := (L.zipIdx.map fun p => (p.2, p.1)).reverse
theorem backs_len (L : List (GE × GA)) : (backs L).length = L.length := by simp [backs]
theorem backs_at (L : List (GE × GA)) (j : Nat) (hj : j < L.length) : (backs L)[L.length - 1 - j]? = some (j, L[j]) := by
 unfold backs
 rw [List.getElem?_reverse (by simp; omega)]
 simp only [List.length_map, List.length_zipIdx]
 rw [show L.length - 1 - (L.length - 1 - j) = j by omega, List.getElem?_map, List.getElem?_zipIdx, List.getElem?_eq_getElem hj]
 simp
theorem backs_some (L : List (GE × GA)) (i : Nat) (x : Nat × GE × GA) (h : (backs L)[i]? = some x) : i < L.length ∧ x.1 = L.length - 1 - i ∧ L[L.length - 1 - i]? = some x.2 := by
 have hi : i < L.length := by have := (List.getElem?_eq_some_iff.1 h).1; rwa [backs_len] at this
 have := backs_at L (L.length - 1 - i) (by omega)
 rw [show L.length - 1 - (L.length - 1 - i) = i by omega, h] at this
 obtain rfl := Option.some.inj this
 exact ⟨hi, rfl, List.getElem?_eq_getElem (by omega)⟩
set_option maxRecDepth 100000 in
set_option maxHeartbeats 2000000 in
theorem back_g {w : World} {B : Nat} {a : Option Addr} {cap : Nat} {l : List (GE × GA)} (hl : Sl EG w a l) (hn : l.length ≤ 1000000) (hB : w.heap[B]? = some (.cells #[.slice a l.length cap] 27)) : ItS w 4 210 #[.pointer (some ⟨B, 0, none⟩)] encK (backs l) := by
 intro lp J Jx W hbW hJ0 hY hJb hJx
 obtain ⟨g, off, hg, hR⟩ := hl
 rw [backs_len]
 have HAT : Hid (∀ (j : Nat) (x : GE × GA), l[j]? = some x → (backs l)[l.length - 1 - j]? = some (j, x)) := jd (fun j x hx => by
  obtain ⟨hj, e⟩ := List.getElem?_eq_some_iff.1 hx
  rw [backs_at l j hj, e])
 generalize hm : l.length = m at *
 have HM := jd hm
 have HG := jd hg
 have HR := jd hR
 have HB := jd hB
 have cB : W.cell? ⟨B, 0, none⟩ = some (.slice a m cap) := cell_of (hbW.row hB)
 have HY := jd hY
 have HJ0 := jd (aI hJ0 hbW)
 have hw : IntKind.i64.wrap ((m : Int) - 1) = (m : Int) - 1 := wrapI (by omega) (by omega)
 clear hm hg hR hB hY hJ0 hbW hJb
 have HJX := jd hJx
 clear hJx
 refine callsIn_of_wp Tryz.func210 rfl trivial ?_
 simp only [Tryz.ntmps210, List.size_toArray, List.length_cons, List.length_nil, Nat.reduceAdd, Nat.reduceSub, Array.replicate_succ, Array.replicate_zero, List.push_toArray, List.append_toArray, List.nil_append, List.cons_append]
 gi_wp2_with fail
 gi_loopw [3] (fun vi wr => ∃ k : Nat, k ≤ m ∧ vi = .int .i64 ((k : Int) - 1) ∧ Hid (J (m - k) wr ∧ Bel w wr)) (fun vi _ => (intOf vi + 1).toNat)
 case atStart => exact ⟨m, Nat.le_refl _, rfl, by rw [Nat.sub_self]; exact HJ0⟩
 case round =>
  obtain ⟨k, hk, rfl, HJ⟩ := hrel
  by_cases h0 : k = 0
  ·subst h0
   have hlt : ¬ ((0 : Int) ≤ ((0 : Nat) : Int) - 1) := by omega
   gi_wp2_with fail
   go_end0
   exact ⟨⟨_, rfl⟩, Or.inl ⟨by have := (ju HJ).1; rwa [Nat.sub_zero] at this, (ju HJ).2⟩⟩
  ·obtain ⟨j, rfl⟩ : ∃ j, k = j + 1 := ⟨k - 1, by omega⟩
   have e1 : ((j + 1 : Nat) : Int) - 1 = j := by omega
   rw [e1]
   have hjl : j < l.length := by rw [ju HM]; omega
   obtain rfl := (ju HG) (by omega)
   have hjm : (j : Int) < m := by omega
   have cB2 : wr.cell? ⟨B, 0, none⟩ = some (.slice (some ⟨g, off, none⟩) m cap) := cell_of ((ju HJ).2.row (ju HB))
   obtain ⟨r0, r1, r2, r3⟩ := EG_cell (ju HR) j hjl
   have r0 := (ju HJ).2.cell r0
   have r1 := (ju HJ).2.cell r1
   have r2 := (ju HJ).2.cell r2
   have r3 := (ju HJ).2.cell r3
   have HX := jd ((ju HAT) j l[j] (List.getElem?_eq_getElem hjl))
   generalize l[j] = x at *
   obtain ⟨⟨xt, xk, xd, xm⟩, xa, xc⟩ := x
   simp only at r0 r1 r2 r3
   generalize hxm : xm.length = xn at *
   obtain ⟨yfn, ytm, yas, ybd, hyr, hyR⟩ := (ju HY) (m - 1 - j) (j, ⟨xt, xk, xd, xm⟩, ⟨xa, xc⟩) wr (ju HX) (by have := (ju HJ).1; rwa [show m - (j + 1) = m - 1 - j by omega] at this) (ju HJ).2
   have hyr' : (Instr.yield lp #[.int .i64 j, .agg #[.int .u64 xt, .int .u8 xk, .string xd, .slice xa xn xc]]).run Tryz.prog wr = .ok (.round lp yfn ytm yas ybd) wr := by rw [← hxm]; exact hyr
   have HYR := jd hyR
   have hw2 : IntKind.i64.wrap ((j : Int) - 1) = (j : Int) - 1 := wrapI (by omega) (by omega)
   have hge : (0 : Int) ≤ j := by omega
   clear hyr hyR
   gi_wp2_with fail
   refine (ju HYR).mono ?_
   rintro e w4 (⟨rfl, hj4, hb4⟩ | ⟨rfl, hj4⟩)
   ·have HJ4 := jd (aI hj4 hb4)
    clear hj4 hb4
    gi_wp2
    go_roundw
    case rel => exact ⟨j, by omega, by go_num, by rwa [show m - 1 - j + 1 = m - j by omega] at HJ4⟩
    case measure => simp [intOf]
   ·have HJ4 := jd hj4
    clear hj4
    gi_wp2
    refine bodyPost_ret (results_none (by exact rfl) _ _ _) rfl ?_
    exact ⟨⟨_, rfl⟩, Or.inr (ju HJ4)⟩
set_option maxRecDepth 100000 in
set_option maxHeartbeats 2000000 in
theorem members_g {W : World} {s : GP} {x : Px} {L : List (GE × GA)} (hLs : L.map (·.1) = s.log) (hS : Sl EG W x.aL L) (hl : s.log.length ≤ 1000000) (hcap : s.log.length ≤ x.cL) (k : Nat) (hk : k ≤ s.log.length) : Calls Tryz.prog 133 #[.agg (gc s x), .int .i64 k] W fun e w' => e = .returned (.slice (memX (s.B, ⟨x.aB, x.cB⟩) (L.take k)).2.a (memX (s.B, ⟨x.aB, x.cB⟩) (L.take k)).1.length (memX (s.B, ⟨x.aB, x.cB⟩) (L.take k)).2.c) ∧ Bel W w' := by
 have hLn : L.length = s.log.length := by rw [← hLs, List.length_map]
 have hLk : (L.take k).length = k := by rw [List.length_take]; omega
 have HB := jd (backward_any x.aL k x.cL)
 have HI : Hid (∀ w b, Bel W w → w.heap[b]? = some (.cells #[.slice x.aL k x.cL] 27) → ItS w 4 210 #[.pointer (some ⟨b, 0, none⟩)] encK (backs (L.take k))) := jd (fun w b hb hB => by
  obtain ⟨g, off, h1, h2⟩ := hS.bel hb
  refine back_g (cap := x.cL) (a := x.aL) ⟨g, off, fun h0 => h1 (by omega), h2.take k⟩ (by omega) (by rw [hLk]; exact hB))
 have hA : s.log.length ≠ 0 → ∃ g off, x.aL = some ⟨g, off, none⟩ := fun h0 => by obtain ⟨g, off, h1, _⟩ := hS; exact ⟨g, off, h1 (by omega)⟩
 generalize hMb : ((s.B, ⟨x.aB, x.cB⟩) : List Int × GA) = mb at *
 generalize hMx : memX mb (L.take k) = MX at *
 have HMX := jd hMx
 have HMB := jd hMb
 generalize hLL : L.take k = LL at *
 refine (callsIn_wide (n := 5)).1 ?_
 refine callsIn_of_wp_marks Tryz.func133 rfl trivial ?_ rfl
 simp only [Tryz.ntmps133, List.size_toArray, List.length_cons, List.length_nil, Nat.reduceAdd, Nat.reduceSub, Array.replicate_succ, Array.replicate_zero, List.push_toArray, List.append_toArray, List.nil_append, List.cons_append]
 clear hS hMx hMb
 unfold gc
 have hkm : (k : Int) ≤ s.log.length := by omega
 have hm1 : (k : Int) ≤ x.cL := by omega
 have hk0 : (0 : Int) ≤ k := by omega
 generalize hsm : s.log.length = m at *
 gi_wp2_with (first
  | (refine ⟨trivial, ?_⟩; gi_at_call 175; refine (callsIn_wide.2 ((ju HB) _)).mono ?_; rintro e w1 ⟨b1, rfl, hb1, hbel1⟩; have HW1 := jd (aI hb1 hbel1); clear hb1 hbel1))
 have hrP : w1.heap[W.heap.size]? = some (.cells (gc s x) 31) := by rw [show gc s x = #[.int .i64 s.id, .slice x.aM s.M.length x.cM, .int .u64 s.term, .int .i64 s.vote, .int .u8 s.role, .int .i64 s.lead, .int .u64 s.base, .int .u64 s.baseT, .slice x.aB s.B.length x.cB, .string s.snap, .slice x.aL m x.cL, .int .u64 s.commit, .int .i64 s.idle, .int .i64 s.wait, .slice x.aV s.votes.length x.cV, .slice x.aF s.fol.length x.cF, .int .u64 s.round, .slice x.aR s.reads.length x.cR] by rw [← hsm]; rfl]; exact (ju HW1).2.row (((Bel.refl _).alloc _).row (at_new W _))
 have hrR : w1.heap[W.heap.size + 1]? = some (.cells #[.slice none 0 0] 22) := (ju HW1).2.row (at_new2 W _ _)
 have HB1 : Hid (Bel W w1) := jd ((((Bel.refl W).alloc _).alloc _).trans (ju HW1).2)
 have HRP := jd hrP
 have HRR := jd hrR
 generalize hbP : W.heap.size = bP at *
 have HBP := jd hbP
 clear hrP hrR hbP hsm
 generalize hAA : ({ tmps := _, defers := [] } : Act) = AA
 subst hAA
 refine rangeStop (ps := #[12, 13]) (encs := encK) (by decide) rfl En65 (fun _ => rfl) ((ju HI) w1 b1 (ju HB1) (ju HW1).1) (fun i => memX mb LL = memX mb (LL.take (LL.length - i))) (bP + 1) (lt_of_some (ju HRR)) (fun o => o = .cells #[.slice MX.2.a MX.1.length MX.2.c] 22) (fun y a' A => ∃ b6 u5, a' = { tmps := #[.agg #[.int .i64 s.id, .slice x.aM s.M.length x.cM, .int .u64 s.term, .int .i64 s.vote, .int .u8 s.role, .int .i64 s.lead, .int .u64 s.base, .int .u64 s.baseT, .slice x.aB s.B.length x.cB, .string s.snap, .slice x.aL m x.cL, .int .u64 s.commit, .int .i64 s.idle, .int .i64 s.wait, .slice x.aV s.votes.length x.cV, .slice x.aF s.fol.length x.cF, .int .u64 s.round, .slice x.aR s.reads.length x.cR], .int .i64 k, .pointer (some ⟨bP, 0, none⟩), undef, .pointer (some ⟨bP + 1, 0, none⟩), u5, .pointer (some ⟨b6, 0, none⟩), .pointer (some ⟨bP, 10, none⟩), .slice x.aL m x.cL, .int .i64 k, .slice x.aL k x.cL, .func (.func 210) #[] #[.pointer (some ⟨b1, 0, none⟩)], .int .i64 y.1, .agg (encG y.2).toArray, undef, undef, undef, undef, undef, undef, undef], defers := [] } ∧ A.heap[b6]? = some (.cells (encG y.2).toArray 53)) (by rw [Nat.sub_zero, List.take_length]) ?hAx ?hassign ?hbody ?hdone ?hret
 case hAx =>
  rintro y a' A r o o' ⟨b6, u5, rfl, hn⟩ hr ho hc
  refine ⟨b6, u5, rfl, (World.putObj_heap_other (fun e => ?_)).trans hn⟩
  subst e
  rw [hn] at ho
  cases ho
  simp [Obj.isCells] at hc
 case hassign =>
  rintro l ⟨i, t⟩ A K hb hK
  have hfin := hK { tmps := #[.agg #[.int .i64 s.id, .slice x.aM s.M.length x.cM, .int .u64 s.term, .int .i64 s.vote, .int .u8 s.role, .int .i64 s.lead, .int .u64 s.base, .int .u64 s.baseT, .slice x.aB s.B.length x.cB, .string s.snap, .slice x.aL m x.cL, .int .u64 s.commit, .int .i64 s.idle, .int .i64 s.wait, .slice x.aV s.votes.length x.cV, .slice x.aF s.fol.length x.cF, .int .u64 s.round, .slice x.aR s.reads.length x.cR], .int .i64 k, .pointer (some ⟨bP, 0, none⟩), undef, .pointer (some ⟨bP + 1, 0, none⟩), undef, .pointer (some ⟨A.heap.size, 0, none⟩), .pointer (some ⟨bP, 10, none⟩), .slice x.aL m x.cL, .int .i64 k, .slice x.aL k x.cL, .func (.func 210) #[] #[.pointer (some ⟨b1, 0, none⟩)], .int .i64 i, .agg (encG t).toArray, undef, undef, undef, undef, undef, undef, undef], defers := [] } (A.alloc (.cells (encG t).toArray 53)) ((Bel.refl _).alloc _) ⟨_, _, rfl, at_new A _⟩
  have HF := jd hfin
  clear hfin hK
  obtain ⟨⟨tt, tk, td, tm⟩, ta, tc⟩ := t
  unfold encG encK at *
  simp only [encG] at *
  gi_wp2_with fail
  exact HF.out
 case hbody =>
  rintro l i ⟨ix, t⟩ a' A hx hI hb ⟨b6, u5, rfl, hn⟩
  obtain ⟨hi, _, hat⟩ := backs_some LL i _ hx
  simp only at hat
  have hti : LL[LL.length - 1 - i] = t := by rw [List.getElem?_eq_getElem (by omega)] at hat; exact Option.some.inj hat
  have cR : A.cell? ⟨bP + 1, 0, none⟩ = some (.slice none 0 0) := cell_of (hb.row (ju HRR))
  have fR : A.frozen? ⟨bP + 1, 0, none⟩ = false := free_row (p := 0) (hb.row (ju HRR))
  have hrA := jd (hb.row (ju HRR))
  have c1 : A.cell? ⟨b6, 1, none⟩ = some (.int .u8 t.1.k) := cell_of hn
  have c3 : A.cell? ⟨b6, 3, none⟩ = some (.slice t.2.a t.1.m.length t.2.c) := cell_of hn
  by_cases hk2 : t.1.k = 2
  ·have HM := jd (memX_yes mb LL i hi hI (by rw [hti]; exact hk2))
   rw [hti, ju HMX] at HM
   have e1 : MX.1 = t.1.m := by rw [ju HM]
   have e2 : MX.2 = t.2 := by rw [ju HM]
   rw [← e1, ← e2] at c3
   have c2 : (t.1.k == 2) = true := by simp [hk2]
   clear hn hb hx hI hat hti hk2 e1 e2
   generalize t.1.k = tk at *
   generalize MX.2.a = ma at *
   generalize MX.2.c = mc at *
   generalize MX.1.length = mn at *
   gi_wp2_with fail
   exact ⟨Ch.set (ad := ⟨bP + 1, 0, none⟩) (Ch.refl (fun i => i = bP + 1) A) (Or.inl rfl) _, row_set (ju hrA)⟩
  ·have HM := jd (memX_no mb LL i hi hI (by rw [hti]; exact hk2))
   have c2 : (t.1.k == 2) = false := beq_eq_false_iff_ne.2 hk2
   clear hn hb hx hI hat hti hk2 c3
   generalize t.1.k = tk at *
   gi_wp2_with fail
   exact ⟨Bel.refl _, by have := ju HM; first | exact this | rwa [hLk] at this⟩
 case hdone =>
  intro D W2 hD hb2 hI hK
  rw [backs_len, Nat.sub_self, List.take_zero, ju HMX] at hI
  have c8 : W2.cell? ⟨bP, 8, none⟩ = some (.slice MX.2.a MX.1.length MX.2.c) := by
   rw [hI, ← ju HMB]
   exact (Bg.of (hb2.row (ju HRP))).c8
  have cR : W2.cell? ⟨bP + 1, 0, none⟩ = some (.slice none 0 0) := cell_of (hb2.row (ju HRR))
  have fR := free_row (p := 0) (hb2.row (ju HRR))
  have hD1 : bP + 1 < w1.heap.size := lt_of_some (ju HRR)
  have hrR2 := hb2.row (ju HRR)
  have hset : Ch (fun i => i = bP + 1) W2 (W2.setCell ⟨bP + 1, 0, none⟩ (.slice MX.2.a MX.1.length MX.2.c)) := Ch.set (ad := ⟨bP + 1, 0, none⟩) (Ch.refl (fun i => i = bP + 1) W2) (Or.inl rfl) _
  have hr3 := row_set (p := 0) (v := .slice MX.2.a MX.1.length MX.2.c) hrR2
  have hK3 : (W2.setCell ⟨bP + 1, 0, none⟩ (.slice MX.2.a MX.1.length MX.2.c)).heap[D]? = some (.deferred (some [])) := hset.row hK (by omega)
  have hc4 : ((W2.setCell ⟨bP + 1, 0, none⟩ (.slice MX.2.a MX.1.length MX.2.c)).putObj D (.deferred none)).cell? ⟨bP + 1, 0, none⟩ = some (.slice MX.2.a MX.1.length MX.2.c) := cell_of ((World.putObj_heap_other (by omega)).trans hr3)
  have hb4 : Bel W ((W2.setCell ⟨bP + 1, 0, none⟩ (.slice MX.2.a MX.1.length MX.2.c)).putObj D (.deferred none)) := bel_off (bel_off ((ju HB1).trans hb2) hset (by have := ju HBP; omega)) (ch_put _ _ _) (by have := ju HBP; omega)
  have HK := jd (aI hK3 (aI hc4 hb4))
  clear hb2 hK hset hr3 hK3 hc4 hb4 hD1 hrR2 hI
  gi_wp2_with fail
  obtain ⟨hK3, hc4, hb4⟩ := HK.out
  refine ⟨by simp, .inl ⟨_, _, rfl, run_takeDeferred hK3, ?_⟩⟩
  refine ⟨.slice MX.2.a MX.1.length MX.2.c, ?_, rfl, hb4⟩
  simp [results, Tryz.f133, go_sem, hc4]
 case hret =>
  rintro D W2 o hD hc2 ho rfl hK
  have hD1 : bP + 1 < w1.heap.size := lt_of_some (ju HRR)
  have hc4 : (W2.putObj D (.deferred none)).cell? ⟨bP + 1, 0, none⟩ = some (.slice MX.2.a MX.1.length MX.2.c) := cell_of ((World.putObj_heap_other (by omega)).trans ho)
  have hb4 : Bel W (W2.putObj D (.deferred none)) := bel_off (bel_off (ju HB1) hc2 (by have := ju HBP; omega)) (ch_put _ _ _) (by have := ju HBP; omega)
  refine ⟨by simp, .inl ⟨_, _, rfl, run_takeDeferred hK, ?_⟩⟩
  refine ⟨.slice MX.2.a MX.1.length MX.2.c, ?_, rfl, hb4⟩
  simp [results, Tryz.f133, go_sem, hc4]
end Go.Proofs.YthekbhliokcpcaaGreat
namespace Go.Proofs.YthekbhliokcpcaaGreat
open Go.RowKit Go.Maps Go.Sort
def GP.tAt (s : GP) (i : Int) : Option Int := match s.upTo i with
 | none => none
 | some 0 => some s.baseT
 | some (k + 1) => (s.log[k]?).map (·.t)
set_option maxRecDepth 100000 in
set_option maxHeartbeats 4000000 in
theorem term_g {W : World} {s : GP} {x : Px} (h : SlG W x.aL s.log) (i : Int) (h0 : 0 ≤ s.base) (hi : 0 ≤ i ∧ i ≤ 18446744073709551615) (hl : s.log.length ≤ 1000000) : Calls Tryz.prog 74 #[.agg (gc s x), .int .u64 i] W fun e w' => e = .returned (.tuple #[.int .u64 ((s.tAt i).getD 0), .bool (s.tAt i).isSome]) ∧ Bel W w' := by
 obtain ⟨aL, hxr⟩ : ∃ a, a = x.aL := ⟨_, rfl⟩
 rw [← hxr] at h
 have HXR := jd hxr
 clear hxr
 have HB : Hid (∀ W', Calls Tryz.prog 132 #[.agg (gc s x), .int .u64 i] W' fun e w' => e = .returned (.tuple #[.int .i64 ((s.upTo i).getD 0 : Nat), .bool (s.upTo i).isSome]) ∧ Bel W' w') := jd (fun W' => behind_g i h0 hi hl)
 have hup : ∀ k, s.upTo i = some k → k ≤ s.log.length := fun k hk => by
  unfold GP.upTo at hk
  split at hk
  ·cases hk
  ·cases hk; omega
 unfold GP.tAt
 cases hu : s.upTo i with
 | none =>
  rw [hu] at HB
  simp only [Option.getD_none, Option.isSome_none] at HB ⊢
  clear h hup hu h0 hi hl
  go_enter Tryz.func74, Tryz.ntmps74
  go_wp2_with (first
   | (refine bx_box rfl 31 _ rfl (gc s x) rfl ?_; intro b w0 hr0 hs0 hb0; have HR0 := jd hr0; have HB0 := jd hb0; clear hr0 hs0 hb0)
   | (refine bx_ld rfl 31 _ rfl b rfl (gc s x) _ (ju HR0) u31 (zP s x) ?_)
   | (go_at_call 132; refine ((ju HB) _).mono ?_; rintro e w1 ⟨rfl, hb1⟩; obtain ⟨y0, y1, y2, y3, y4, y5, y6, y7, y8, y9, y10, y11, y12, y13, y14, y15, y16, y17⟩ := Bg.of (hb1.row (ju HR0)); have HB1 := jd ((ju HB0).trans hb1); clear hb1))
  go_ret2
  exact ⟨rfl, ju HB1⟩
 | some k =>
  have hk := hup k hu
  rw [hu] at HB
  simp only [Option.getD_some, Option.isSome_some] at HB
  cases k with
  | zero =>
   simp only [Option.getD_some, Option.isSome_some]
   rw [show ((0 : Nat) : Int) = 0 from rfl] at HB
   clear h hup hu h0 hi hl hk
   go_enter Tryz.func74, Tryz.ntmps74
   go_wp2_with (first
    | (refine bx_box rfl 31 _ rfl (gc s x) rfl ?_; intro b w0 hr0 hs0 hb0; have HR0 := jd hr0; have HB0 := jd hb0; clear hr0 hs0 hb0)
    | (refine bx_ld rfl 31 _ rfl b rfl (gc s x) _ (ju HR0) u31 (zP s x) ?_)
    | (go_at_call 132; refine ((ju HB) _).mono ?_; rintro e w1 ⟨rfl, hb1⟩; obtain ⟨y0, y1, y2, y3, y4, y5, y6, y7, y8, y9, y10, y11, y12, y13, y14, y15, y16, y17⟩ := Bg.of (hb1.row (ju HR0)); have HB1 := jd ((ju HB0).trans hb1); clear hb1))
   go_ret2
   exact ⟨rfl, ju HB1⟩
  | succ k =>
   obtain ⟨L, hL, ⟨g, off, hg, hR⟩, _⟩ := h
   have hLn : L.length = s.log.length := by rw [← hL, List.length_map]
   have hkL : k < L.length := by omega
   obtain rfl := hg (by omega)
   have e1 : s.log[k]? = some L[k].1 := by rw [← hL, List.getElem?_map, List.getElem?_eq_getElem hkL]; rfl
   simp only [e1, Option.map_some, Option.getD_some, Option.isSome_some]
   have r0 := (EG_cell hR k hkL).1
   have HR9 := jd r0
   generalize L[k].1.t = t at *
   have hw : IntKind.i64.wrap (k : Int) = k := wrapI (by omega) (by omega)
   have hz : ((k : Int) + 1 == 0) = false := beq_eq_false_iff_ne.2 (by omega)
   have hlt : (k : Int) < s.log.length := by omega
   generalize hsm : s.log.length = m at *
   clear hg hR hup hu h0 hi hl hk hkL hLn hL e1 r0
   go_enter Tryz.func74, Tryz.ntmps74
   go_wp2_with (first
    | (refine bx_box rfl 31 _ rfl (gc s x) rfl ?_; intro b w0 hr0 hs0 hb0; have HR0 := jd hr0; have HB0 := jd hb0; clear hr0 hs0 hb0)
    | (refine bx_ld rfl 31 _ rfl b rfl (gc s x) _ (ju HR0) u31 (zP s x) ?_)
    | (go_at_call 132; refine ((ju HB) _).mono ?_; rintro e w1 ⟨rfl, hb1⟩; obtain ⟨y0, y1, y2, y3, y4, y5, y6, y7, y8, y9, y10, y11, y12, y13, y14, y15, y16, y17⟩ := Bg.of (hb1.row (ju HR0)); rw [hsm, ← ju HXR] at y10; have r0 := ((ju HB0).trans hb1).cell (ju HR9); have HB1 := jd ((ju HB0).trans hb1); clear hb1))
   go_ret2
   exact ⟨rfl, ju HB1⟩
def GP.mAt (s : GP) (i : Int) : List Int := match s.upTo i with
 | none => []
 | some k => memOf s.B (s.log.take k)
set_option maxRecDepth 100000 in
set_option maxHeartbeats 4000000 in
theorem membs_g {W : World} {s : GP} {x : Px} (h : SlG W x.aL s.log) (hB : Sl E3 W x.aB s.B) (i : Int) (h0 : 0 ≤ s.base) (hi : 0 ≤ i ∧ i ≤ 18446744073709551615) (hl : s.log.length ≤ 1000000) (hcap : s.log.length ≤ x.cL) (hB2 : s.B.length ≤ 17592186044416) (hm : ∀ e ∈ s.log, e.m.length ≤ 17592186044416) : Calls Tryz.prog 75 #[.agg (gc s x), .int .u64 i] W fun e w' => ∃ a' c', e = .returned (.slice a' (s.mAt i).length c') ∧ E3.O W.heap.size w' (.slice a' (s.mAt i).length c') (s.mAt i) ∧ Bel W w' := by
 have HB : Hid (∀ W', Calls Tryz.prog 132 #[.agg (gc s x), .int .u64 i] W' fun e w' => e = .returned (.tuple #[.int .i64 ((s.upTo i).getD 0 : Nat), .bool (s.upTo i).isSome]) ∧ Bel W' w') := jd (fun W' => behind_g i h0 hi hl)
 have hup : ∀ k, s.upTo i = some k → k ≤ s.log.length := fun k hk => by
  unfold GP.upTo at hk
  split at hk
  ·cases hk
  ·cases hk; omega
 unfold GP.mAt
 cases hu : s.upTo i with
 | none =>
  rw [hu] at HB
  simp only [Option.getD_none, Option.isSome_none] at HB ⊢
  clear h hup hu h0 hi hl hB hB2 hm hcap
  go_enter Tryz.func75, Tryz.ntmps75
  go_wp2_with (first
   | (refine bx_box rfl 31 _ rfl (gc s x) rfl ?_; intro b w0 hr0 hs0 hb0; have HR0 := jd hr0; have HB0 := jd hb0; clear hr0 hs0 hb0)
   | (refine bx_ld rfl 31 _ rfl b rfl (gc s x) _ (ju HR0) u31 (zP s x) ?_)
   | (go_at_call 132; refine ((ju HB) _).mono ?_; rintro e w1 ⟨rfl, hb1⟩; have HB1 := jd ((ju HB0).trans hb1); clear hb1))
  go_ret
  exact ⟨_, _, rfl, El.O.nil _ _, ju HB1⟩
 | some k =>
  have hk := hup k hu
  rw [hu] at HB
  simp only [Option.getD_some, Option.isSome_some] at HB ⊢
  obtain ⟨L, hL, hS, hG⟩ := h
  obtain ⟨mx, hmx⟩ : ∃ mx, mx = memX (s.B, ⟨x.aB, x.cB⟩) (L.take k) := ⟨_, rfl⟩
  have hmx1 : mx.1 = memOf s.B (s.log.take k) := by rw [hmx, memX_of, List.map_take, hL]
  have hmxl : mx.1.length ≤ 17592186044416 := by
   rw [hmx1]
   exact memOf_len _ _ hB2 (fun e he => hm e (List.mem_of_mem_take he))
  have H2 : Hid (∀ W', Bel W W' → Calls Tryz.prog 133 #[.agg (gc s x), .int .i64 k] W' fun e w' => e = .returned (.slice mx.2.a mx.1.length mx.2.c) ∧ Bel W' w') := jd (fun W' hb => by
   have := members_g hL (hS.bel hb) hl hcap k hk
   rwa [← hmx] at this)
  have H3 : Hid (∀ W', Bel W W' → Calls Tryz.prog 99 #[.slice mx.2.a mx.1.length mx.2.c] W' fun e w' => ∃ a' c', e = .returned (.slice a' mx.1.length c') ∧ E3.O W.heap.size w' (.slice a' mx.1.length c') mx.1 ∧ Bel W' w') := jd (fun W' hb => (clone3w rfl (by have := memX_sl (s.B, ⟨x.aB, x.cB⟩) (L.take k) (hB.bel hb) (fun y hy => (hG.bel hb) y (List.mem_of_mem_take hy)); rwa [← hmx] at this) (by omega)).mono (fun e w' ⟨a', c', he, ho, hb'⟩ => ⟨a', c', he, ho.mono hb.size, hb'⟩))
  rw [← hmx1]
  clear hup hu h0 hi hl hB hB2 hm hcap hk hS hG hmx hmx1 hmxl hL
  generalize mx.1 = M at *
  go_enter Tryz.func75, Tryz.ntmps75
  go_wp2_with (first
   | (refine bx_box rfl 31 _ rfl (gc s x) rfl ?_; intro b w0 hr0 hs0 hb0; have HR0 := jd hr0; have HB0 := jd hb0; clear hr0 hs0 hb0)
   | (refine bx_ld rfl 31 _ rfl b rfl (gc s x) _ (ju HR0) u31 (zP s x) ?_)
   | (go_at_call 132; refine ((ju HB) _).mono ?_; rintro e w1 ⟨rfl, hb1⟩; replace HR0 := jd (hb1.row (ju HR0)); replace HB0 := jd ((ju HB0).trans hb1); clear hb1)
   | (go_at_call 133; refine ((ju H2) _ (ju HB0)).mono ?_; rintro e w2 ⟨rfl, hb2⟩; replace HB0 := jd ((ju HB0).trans hb2); clear hb2)
   | (go_at_call 99; refine ((ju H3) _ (ju HB0)).mono ?_; rintro e w3 ⟨a3, c3, rfl, ho3, hb3⟩; have HF := jd (aI ho3 ((ju HB0).trans hb3)); clear ho3 hb3))
  go_ret
  exact ⟨_, _, rfl, (ju HF).1, (ju HF).2⟩
set_option maxRecDepth 100000 in
theorem clip_g (a : Option Addr) (n cap : Nat) (W : World) (hn : n ≤ cap) : Calls Tryz.prog 134 #[.slice a n cap] W fun e w' => e = .returned (.slice a n n) ∧ w' = W := by
 have hn0 : (0 : Int) ≤ n := by omega
 have hnc : (n : Int) ≤ cap := by omega
 go_enter Tryz.func134, Tryz.ntmps134
 go_wp2_with fail
 go_ret
 exact ⟨rfl, rfl⟩
end Go.Proofs.YthekbhliokcpcaaGreat
namespace Go.Proofs.YthekbhliokcpcaaGreat
open Go.RowKit Go.Maps
def SlT {α : Type} (E : El α) (W : World) (a : Option Addr) (L : List α) : Prop := Sl E W a L ∧ ∀ g off, L.length ≠ 0 → a = some ⟨g, off, none⟩ → ∃ c fr, W.heap[g]? = some (.cells c E.e fr)
section
variable {α : Type} {E : El α} {W W' : World} {a : Option Addr} {L : List α}
theorem SlT.bel (h : SlT E W a L) (hb : Bel W W') : SlT E W' a L := ⟨h.1.bel hb, fun g off h0 ha => by
 obtain ⟨c, fr, hc⟩ := h.2 g off h0 ha
 exact ⟨c, fr, hb.row hc⟩⟩
theorem SlT.of {base n cap : Nat} (h : E.O base W (.slice a n cap) L) : SlT E W a L := ⟨(Sl.of h).1, fun g off _ ha => by
 subst ha
 obtain ⟨c, hc⟩ := h.block (k := g) rfl
 exact ⟨c, _, hc⟩⟩
theorem SlT.box {b : Nat} {cs : Array Value} {t : TypeId} (h : SlT E W a L) (hr : W.heap[b]? = some (.cells cs t)) (ht : E.e ≠ t) (hc : Ch (fun k => k = b) W W') : SlT E W' a L := by
 obtain ⟨⟨g, off, ha, hR⟩, hT⟩ := h
 by_cases h0 : L.length = 0
 ·exact ⟨⟨g, off, fun h => absurd h0 h, fun j hj => by omega⟩, fun g' off' h => absurd h0 h⟩
 ·have e := ha h0
  obtain ⟨c, fr, hg⟩ := hT g off h0 e
  have hne : ¬ g = b := fun e => by
   rw [e, hr] at hg
   injection (Option.some.inj hg) with _ h2
   exact ht h2.symm
  have hge := hc.block g (lt_of_some hg) hne
  refine ⟨⟨g, off, ha, fun j hj cc u hu => ?_⟩, fun g' off' _ h' => ?_⟩
  ·have := hR j hj cc u hu
   simp only [World.cell?, hge] at this ⊢
   exact this
  ·rw [e] at h'
   injection h' with h'
   injection h' with h'
   rw [← h', hge]
   exact ⟨c, fr, hg⟩
end
def SlGT (W : World) (a : Option Addr) (l : List GE) : Prop := ∃ L : List (GE × GA), L.map (·.1) = l ∧ SlT EG W a L ∧ ∀ x ∈ L, SlT E3 W x.2.a x.1.m
def SlRT (W : World) (a : Option Addr) (l : List GR) : Prop := ∃ L : List (GR × GA), L.map (·.1) = l ∧ SlT ER W a L ∧ ∀ x ∈ L, SlT E3 W x.2.a x.1.a
theorem SlGT.sl {W : World} {a : Option Addr} {l : List GE} (h : SlGT W a l) : SlG W a l := by
 obtain ⟨L, h1, h2, h3⟩ := h
 exact ⟨L, h1, h2.1, fun x hx => (h3 x hx).1⟩
theorem SlRT.sl {W : World} {a : Option Addr} {l : List GR} (h : SlRT W a l) : SlR W a l := by
 obtain ⟨L, h1, h2, h3⟩ := h
 exact ⟨L, h1, h2.1, fun x hx => (h3 x hx).1⟩
theorem SlGT.bel {W W' : World} {a : Option Addr} {l : List GE} (h : SlGT W a l) (hb : Bel W W') : SlGT W' a l := by
 obtain ⟨L, h1, h2, h3⟩ := h
 exact ⟨L, h1, h2.bel hb, fun x hx => (h3 x hx).bel hb⟩
theorem SlRT.bel {W W' : World} {a : Option Addr} {l : List GR} (h : SlRT W a l) (hb : Bel W W') : SlRT W' a l := by
 obtain ⟨L, h1, h2, h3⟩ := h
 exact ⟨L, h1, h2.bel hb, fun x hx => (h3 x hx).bel hb⟩
structure Gt (W : World) (s : GP) (x : Px) : Prop where
 m : SlT E3 W x.aM s.M
 b : SlT E3 W x.aB s.B
 l : SlGT W x.aL s.log
 v : SlT E3 W x.aV s.votes
 f : SlT E65 W x.aF s.fol
 r : SlRT W x.aR s.reads
theorem Gt.gp {W : World} {s : GP} {x : Px} (h : Gt W s x) : Gp W s x := ⟨h.m.1, h.b.1, h.l.sl, h.v.1, h.f.1, h.r.sl⟩
theorem Gt.bel {W W' : World} {s : GP} {x : Px} (h : Gt W s x) (hb : Bel W W') : Gt W' s x := ⟨h.m.bel hb, h.b.bel hb, h.l.bel hb, h.v.bel hb, h.f.bel hb, h.r.bel hb⟩
theorem SlGT.box {W W' : World} {a : Option Addr} {l : List GE} {b : Nat} {cs : Array Value} {t : TypeId} (h : SlGT W a l) (hr : W.heap[b]? = some (.cells cs t)) (h1 : EG.e ≠ t) (h2 : E3.e ≠ t) (hc : Ch (fun k => k = b) W W') : SlGT W' a l := by
 obtain ⟨L, q1, q2, q3⟩ := h
 exact ⟨L, q1, q2.box hr h1 hc, fun x hx => (q3 x hx).box hr h2 hc⟩
theorem SlRT.box {W W' : World} {a : Option Addr} {l : List GR} {b : Nat} {cs : Array Value} {t : TypeId} (h : SlRT W a l) (hr : W.heap[b]? = some (.cells cs t)) (h1 : ER.e ≠ t) (h2 : E3.e ≠ t) (hc : Ch (fun k => k = b) W W') : SlRT W' a l := by
 obtain ⟨L, q1, q2, q3⟩ := h
 exact ⟨L, q1, q2.box hr h1 hc, fun x hx => (q3 x hx).box hr h2 hc⟩
theorem Gt.box {W W' : World} {s : GP} {x : Px} {b : Nat} {c : Array Value} (h : Gt W s x) (hr : W.heap[b]? = some (.cells c 31)) (hc : Ch (fun k => k = b) W W') : Gt W' s x := ⟨h.m.box hr (by decide) hc, h.b.box hr (by decide) hc, h.l.box hr (by decide) (by decide) hc, h.v.box hr (by decide) hc, h.f.box hr (by decide) hc, h.r.box hr (by decide) (by decide) hc⟩
theorem bx_ldK {ops : Array Oper} {rest : List Oper} {o : Oper} {a : Act} {Q : Exit → Act → World → Prop} {W : World} (t : TypeId) (x : Operand) (ho : o.op = .load t x) (b : Nat) (hx : a.eval x = .pointer (some ⟨b, 0, none⟩)) (hw : Region.wanted o (yielded ops a.tmps) = true) (cs : Array Value) (fs : Array Field) (hg : W.heap[b]? = some (.cells cs t)) (hu : Tryz.prog.underlying t = some (.struct fs)) (hi : (Tryz.prog.info? t).map (·.size) = some cs.size)
  (h : wpList Tryz.prog ops Q rest (a.put o.dst (.agg cs)) W) : wpList Tryz.prog ops Q (o :: rest) a W := bx_ldG hw t x ho b hx cs fs hg hu hi h
theorem bx_boxK {ops : Array Oper} {rest : List Oper} {o : Oper} {a : Act} {Q : Exit → Act → World → Prop} {W : World} (t : TypeId) (x : Operand) (ho : o.op = .box t x) (hgd : o.guard = none) (cs : Array Value) (hx : a.eval x = .agg cs)
  (h : ∀ b w', w'.heap[b]? = some (.cells cs t) → W.heap.size = b → Bel W w' → wpList Tryz.prog ops Q rest (a.put o.dst (.pointer (some ⟨b, 0, none⟩))) w') : wpList Tryz.prog ops Q (o :: rest) a W := bx_box hgd t x ho cs hx h
def numB (s : GP) : Bool := idB s.id && (noneB s.vote && (noneB s.lead && (decide (s.role ≤ 2) && (decide (s.term ≤ 4611686018427387904) && (decide (s.base ≤ 4611686018427387904) && (decide (s.round ≤ 4611686018427387904) && (decide (0 < s.wait) && (decide (s.wait ≤ 1073741824) && (decide (0 ≤ s.idle) && (decide (s.idle ≤ 1073741824)))))))))))
set_option maxRecDepth 100000 in
set_option maxHeartbeats 4000000 in
theorem numbers_g {W : World} {s : GP} {x : Px} : Calls Tryz.prog 103 #[.agg (gc s x)] W fun e w' => e = .returned (.bool (numB s)) ∧ Bel W w' := by
 have H1 := jd (isId_any s.id)
 have H2 : Hid (∀ (y : Int) (b : Bool) (W : World), noneB y = b → Calls Tryz.prog 150 #[.int .i64 y] W fun e w' => e = .returned (.bool b) ∧ w' = W) := jd (fun y b W hy => by rw [← hy]; exact none_any y W)
 unfold numB gc
 cases h0 : idB s.id with
 | false =>
  rw [h0] at H1
  simp only [Bool.false_and]
  go_enter Tryz.func103, Tryz.ntmps103
  go_wp2_with (first
   | (go_at_call 149; refine ((ju H1) _).mono ?_; rintro e w9 ⟨rfl, hw9⟩; rw [hw9]; clear hw9)
   | (go_at_call 150; refine ((ju H2) _ _ _ (by assumption)).mono ?_; rintro e w9 ⟨rfl, hw9⟩; rw [hw9]; clear hw9))
  go_ret
  exact ⟨rfl, (Bel.refl W).alloc _⟩
 | true =>
  rw [h0] at H1
  simp only [Bool.true_and]
  cases h1 : noneB s.vote with
  | false =>
   simp only [Bool.false_and]
   go_enter Tryz.func103, Tryz.ntmps103
   go_wp2_with (first
    | (go_at_call 149; refine ((ju H1) _).mono ?_; rintro e w9 ⟨rfl, hw9⟩; rw [hw9]; clear hw9)
    | (go_at_call 150; refine ((ju H2) _ _ _ (by assumption)).mono ?_; rintro e w9 ⟨rfl, hw9⟩; rw [hw9]; clear hw9))
   go_ret
   exact ⟨rfl, (Bel.refl W).alloc _⟩
  | true =>
   simp only [Bool.true_and]
   cases h2 : noneB s.lead with
   | false =>
    simp only [Bool.false_and]
    go_enter Tryz.func103, Tryz.ntmps103
    go_wp2_with (first
     | (go_at_call 149; refine ((ju H1) _).mono ?_; rintro e w9 ⟨rfl, hw9⟩; rw [hw9]; clear hw9)
     | (go_at_call 150; refine ((ju H2) _ _ _ (by assumption)).mono ?_; rintro e w9 ⟨rfl, hw9⟩; rw [hw9]; clear hw9))
    go_ret
    exact ⟨rfl, (Bel.refl W).alloc _⟩
   | true =>
    simp only [Bool.true_and]
    by_cases h3 : s.role ≤ 2
    ·rw [decide_eq_true h3]
     simp only [Bool.true_and]
     by_cases h4 : s.term ≤ 4611686018427387904
     ·rw [decide_eq_true h4]
      simp only [Bool.true_and]
      by_cases h5 : s.base ≤ 4611686018427387904
      ·rw [decide_eq_true h5]
       simp only [Bool.true_and]
       by_cases h6 : s.round ≤ 4611686018427387904
       ·rw [decide_eq_true h6]
        simp only [Bool.true_and]
        by_cases h7 : 0 < s.wait
        ·rw [decide_eq_true h7]
         simp only [Bool.true_and]
         by_cases h8 : s.wait ≤ 1073741824
         ·rw [decide_eq_true h8]
          simp only [Bool.true_and]
          by_cases h9 : 0 ≤ s.idle
          ·rw [decide_eq_true h9]
           simp only [Bool.true_and]
           go_enter Tryz.func103, Tryz.ntmps103
           go_wp2_with (first
            | (go_at_call 149; refine ((ju H1) _).mono ?_; rintro e w9 ⟨rfl, hw9⟩; rw [hw9]; clear hw9)
            | (go_at_call 150; refine ((ju H2) _ _ _ (by assumption)).mono ?_; rintro e w9 ⟨rfl, hw9⟩; rw [hw9]; clear hw9))
           go_ret
           exact ⟨rfl, (Bel.refl W).alloc _⟩
          ·rw [decide_eq_false h9]
           simp only [Bool.false_and]
           go_enter Tryz.func103, Tryz.ntmps103
           go_wp2_with (first
            | (go_at_call 149; refine ((ju H1) _).mono ?_; rintro e w9 ⟨rfl, hw9⟩; rw [hw9]; clear hw9)
            | (go_at_call 150; refine ((ju H2) _ _ _ (by assumption)).mono ?_; rintro e w9 ⟨rfl, hw9⟩; rw [hw9]; clear hw9))
           go_ret
           exact ⟨rfl, (Bel.refl W).alloc _⟩
         ·rw [decide_eq_false h8]
          simp only [Bool.false_and]
          go_enter Tryz.func103, Tryz.ntmps103
          go_wp2_with (first
           | (go_at_call 149; refine ((ju H1) _).mono ?_; rintro e w9 ⟨rfl, hw9⟩; rw [hw9]; clear hw9)
           | (go_at_call 150; refine ((ju H2) _ _ _ (by assumption)).mono ?_; rintro e w9 ⟨rfl, hw9⟩; rw [hw9]; clear hw9))
          go_ret
          exact ⟨rfl, (Bel.refl W).alloc _⟩
        ·rw [decide_eq_false h7]
         simp only [Bool.false_and]
         go_enter Tryz.func103, Tryz.ntmps103
         go_wp2_with (first
          | (go_at_call 149; refine ((ju H1) _).mono ?_; rintro e w9 ⟨rfl, hw9⟩; rw [hw9]; clear hw9)
          | (go_at_call 150; refine ((ju H2) _ _ _ (by assumption)).mono ?_; rintro e w9 ⟨rfl, hw9⟩; rw [hw9]; clear hw9))
         go_ret
         exact ⟨rfl, (Bel.refl W).alloc _⟩
       ·rw [decide_eq_false h6]
        simp only [Bool.false_and]
        go_enter Tryz.func103, Tryz.ntmps103
        go_wp2_with (first
         | (go_at_call 149; refine ((ju H1) _).mono ?_; rintro e w9 ⟨rfl, hw9⟩; rw [hw9]; clear hw9)
         | (go_at_call 150; refine ((ju H2) _ _ _ (by assumption)).mono ?_; rintro e w9 ⟨rfl, hw9⟩; rw [hw9]; clear hw9))
        go_ret
        exact ⟨rfl, (Bel.refl W).alloc _⟩
      ·rw [decide_eq_false h5]
       simp only [Bool.false_and]
       go_enter Tryz.func103, Tryz.ntmps103
       go_wp2_with (first
        | (go_at_call 149; refine ((ju H1) _).mono ?_; rintro e w9 ⟨rfl, hw9⟩; rw [hw9]; clear hw9)
        | (go_at_call 150; refine ((ju H2) _ _ _ (by assumption)).mono ?_; rintro e w9 ⟨rfl, hw9⟩; rw [hw9]; clear hw9))
       go_ret
       exact ⟨rfl, (Bel.refl W).alloc _⟩
     ·rw [decide_eq_false h4]
      simp only [Bool.false_and]
      go_enter Tryz.func103, Tryz.ntmps103
      go_wp2_with (first
       | (go_at_call 149; refine ((ju H1) _).mono ?_; rintro e w9 ⟨rfl, hw9⟩; rw [hw9]; clear hw9)
       | (go_at_call 150; refine ((ju H2) _ _ _ (by assumption)).mono ?_; rintro e w9 ⟨rfl, hw9⟩; rw [hw9]; clear hw9))
      go_ret
      exact ⟨rfl, (Bel.refl W).alloc _⟩
    ·rw [decide_eq_false h3]
     simp only [Bool.false_and]
     go_enter Tryz.func103, Tryz.ntmps103
     go_wp2_with (first
      | (go_at_call 149; refine ((ju H1) _).mono ?_; rintro e w9 ⟨rfl, hw9⟩; rw [hw9]; clear hw9)
      | (go_at_call 150; refine ((ju H2) _ _ _ (by assumption)).mono ?_; rintro e w9 ⟨rfl, hw9⟩; rw [hw9]; clear hw9))
     go_ret
     exact ⟨rfl, (Bel.refl W).alloc _⟩
end Go.Proofs.YthekbhliokcpcaaGreat
