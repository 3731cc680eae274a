/- A range over an iterator that may be left by a return; slices.Backward at entries; membersOf, whatever the log has. -/
import Derived.Test.YthekbhliokcpcaaGreatHpe
import Derived.Test.YthekbhliokcpcaaGreatNmen
namespace Go.Proofs.YthekbhliokcpcaaGreat
open Go.RowKit Go.Shelf
attribute [local go_sem] Oper.semAt_some
/-- An iterator that tells these, one behind the other, until it is told to stop. -/
def ItS {α : Type} (w : World) (n gf : Nat) (lb : Array Value) (encs : α → Array Value) (xs : List α) : Prop :=
  ∀ (l : Nat) (J : Nat → World → Prop) (Jx : World → Prop) (W : World), Bel w W → J 0 W →
    (∀ (i : Nat) (x : α) (A : World), xs[i]? = some x → J i A → Bel w A → YieldAt Fence.wide (n - 1) Tryz.prog l (encs x) A fun e B => (e = .returned (.bool true) ∧ J (i + 1) B ∧ Bel w B) ∨ (e = .returned (.bool false) ∧ Jx B)) →
    (∀ i A B, J i A → Bel A B → J i B) → (∀ A B, Jx A → Bel A B → Jx B) →
    CallsIn Fence.wide n Tryz.prog gf (#[.func (.yield l) #[] #[]] ++ lb) W fun e W' => (∃ v, e = .returned v) ∧ ((J xs.length W' ∧ Bel w W') ∨ Jx W')
/-- 'for .. range it { .. return .. }': the round returns with the result in block bR, or goes on. -/
theorem rangeStop {α : Type} {g : Operand} {ps : Array Tmp} {assign body : Code} {Q : Exit → Act → World → Prop} {a : Act} {w : World} {n : Nat} (h1 : 1 ≤ n) {gf : Nat} {lb : Array Value} (hg : a.eval g = .func (.func gf) #[] lb) (en : En gf) {encs : α → Array Value} (hps : ∀ x, (encs x).size = ps.size) {xs : List α}
    (hit : ItS w (n - 1) gf lb encs xs) (I : Nat → Prop) (bR : Nat) (hbR : bR < w.heap.size) (RX : Obj → Prop) (Ax : α → Act → World → Prop)
    (hI0 : I 0)
    (hAx : ∀ x a' A r o o', Ax x a' A → w.heap.size ≤ r → A.heap[r]? = some o → o.isCells = false → Ax x a' (A.putObj r o'))
    (hassign : ∀ (l : Nat) (x : α) (A : World) (K : Act → World → Prop), Bel w A → (∀ a' A', Bel A A' → Ax x a' A' → K a' A') →
      assign.wpIn (Fence.wide.inRound l) (n - 1 - 1) Tryz.prog (Exit.then K (fun _ _ _ => False)) { tmps := (ps.zip (encs x)).foldl (fun t (p, v) => t.setIfInBounds p v) a.tmps, defers := [] } A)
    (hbody : ∀ (l i : Nat) (x : α) (a' : Act) (A : World), xs[i]? = some x → I i → Bel w A → Ax x a' A → body.wpIn (Fence.wide.inRound l) (n - 1 - 1) Tryz.prog (fun e _ B => (e = .normal ∧ Bel A B ∧ I (i + 1)) ∨ (e = .ret ∧ Ch (fun k => k = bR) A B ∧ ∃ o, B.heap[bR]? = some o ∧ RX o)) a' A)
    (hdone : ∀ (D : Nat) (W : World), w.heap.size ≤ D → Bel w W → I xs.length → W.heap[D]? = some (.deferred (some [])) → Q .normal { a with defers := { target := .collected D, args := #[] } :: a.defers } W)
    (hret : ∀ (D : Nat) (W : World) (o : Obj), w.heap.size ≤ D → Ch (fun k => k = bR) w W → W.heap[bR]? = some o → RX o → W.heap[D]? = some (.deferred (some [])) → Q .ret { a with defers := { target := .collected D, args := #[] } :: a.defers } W) :
    (Code.rangeFunc g ps assign body).wpIn Fence.wide n Tryz.prog Q a w := by
  refine wpIn_rangeFunc ?_
  intro fn hfn
  obtain ⟨rec, hrec⟩ : ∃ rec : LoopState → Option Code → Loop, rec = fun st pe => { state := st, pending := pe, fn, tmps := a.tmps, params := ps, assign, body, defers := w.heap.size } := ⟨_, rfl⟩
  obtain ⟨W1, hW1⟩ : ∃ W1, (w.alloc (.deferred (some []))).alloc (.loop (rec .ready none)) = W1 := ⟨_, rfl⟩
  have hL1 : W1.heap[w.heap.size + 1]? = some (.loop (rec .ready none)) := by rw [← hW1]; exact at_new2 w _ _
  have hK1 : W1.heap[w.heap.size]? = some (.deferred (some [])) := by rw [← hW1]; exact ((Bel.refl _).alloc _).row (at_new w _)
  have hbW : Bel w W1 := by rw [← hW1]; exact ((Bel.refl w).alloc _).alloc _
  refine ⟨w.heap.size + 1, [{ target := .collected w.heap.size, args := #[] }], W1, { target := .fn (.func gf) lb, args := #[.func (.yield (w.heap.size + 1)) #[] #[]] }, W1, gf,
    #[.func (.yield (w.heap.size + 1)) #[] #[]] ++ lb, W1, ?_, ?_, fun _ _ => trivial, ?_, fun _ => h1, ?_⟩
  · rw [← hW1, hrec]; exact run_enterLoop_outer _ _ _ _ _
  · simp only [resolve, hg]
    simp [go_sem]
  · have eg : ∀ (args : Array Value) (w : World), (callFunc gf args).run Tryz.prog w = .ok (.enter gf args) w := en
    simp [invoke, go_sem, eg]
  · refine (hit (w.heap.size + 1) (fun i A => I i ∧ Bel w A ∧ A.heap[w.heap.size + 1]? = some (.loop (rec .ready none)) ∧ A.heap[w.heap.size]? = some (.deferred (some []))) (fun A => Ch (fun k => k = bR) w A ∧ (∃ o, A.heap[bR]? = some o ∧ RX o) ∧ A.heap[w.heap.size + 1]? = some (.loop (rec .done (some .ret))) ∧ A.heap[w.heap.size]? = some (.deferred (some []))) W1 hbW ⟨hI0, hbW, hL1, hK1⟩ ?yld ?bel ?belx).mono ?fin
    case bel =>
      rintro i A B ⟨q0, q3, q1, q2⟩ hb
      exact ⟨q0, q3.trans hb, hb.row q1, hb.row q2⟩
    case belx =>
      rintro A B ⟨q0, ⟨o, q3, q4⟩, q1, q2⟩ hb
      exact ⟨q0.bel hb, ⟨o, hb.row q3, q4⟩, hb.row q1, hb.row q2⟩
    case yld =>
      rintro i x A hx ⟨hi, _, hl, hk⟩ hbA
      have hy := run_yield (P := Tryz.prog) (args := encs x) hl (by rw [hrec]; exact hps x)
      rw [hrec] at hy
      refine ⟨fn, _, assign, body, hy, roundIn_of_wpIn hfn (hassign _ x A _ hbA ?_)⟩
      intro a' A' hb' hax
      have hl' := hb'.row hl
      have hk' := hb'.row hk
      refine ⟨_, run_beginRound hl' (by rw [hrec]), ?_⟩
      have hx2 := hAx x a' A' _ _ (.loop { rec .ready none with state := .busy }) hax (by omega) hl' rfl
      have hbP := bel_off (hbA.trans hb') (ch_put A' (w.heap.size + 1) (.loop { rec .ready none with state := .busy })) (by omega)
      have hl2 : (A'.putObj (w.heap.size + 1) (.loop { rec .ready none with state := .busy })).heap[w.heap.size + 1]? = some (.loop { rec .ready none with state := .busy }) := World.putObj_heap_same (lt_of_some hl')
      have hk2 : (A'.putObj (w.heap.size + 1) (.loop { rec .ready none with state := .busy })).heap[w.heap.size]? = some (.deferred (some [])) := (World.putObj_heap_other (by omega)).trans hk'
      refine wpIn_mono (hbody _ i x a' _ hx hi hbP hx2) ?_
      rintro e a3 W3 (⟨rfl, hb3, hi3⟩ | ⟨rfl, hc3, o, ho3, hr3⟩)
      · have hl3 := hb3.row hl2
        have hd3 := hb3.row hk2
        have hend := run_endRound (P := Tryz.prog) none hl3
        refine ⟨_, _, hend, Or.inl ⟨rfl, ⟨hi3, bel_off (hbP.trans hb3) (ch_put W3 _ _) (by omega), ?_, (World.putObj_heap_other (by omega)).trans hd3⟩, bel_off (hbP.trans hb3) (ch_put W3 _ _) (by omega)⟩⟩
        rw [World.putObj_heap_same (lt_of_some hl3), hrec]; rfl
      · have hl3 := hc3.row hl2 (by omega)
        have hd3 := hc3.row hk2 (by omega)
        have hend := run_endRound (P := Tryz.prog) (some .ret) hl3
        refine ⟨_, _, hend, Or.inr ⟨rfl, ((hbP.ch _).trans hc3 (fun k hk => Or.inl hk)).trans (ch_put W3 _ _) (fun k hk => Or.inr (by omega)), ⟨o, (World.putObj_heap_other (by omega)).trans ho3, hr3⟩, ?_, (World.putObj_heap_other (by omega)).trans hd3⟩⟩
        rw [World.putObj_heap_same (lt_of_some hl3), hrec]; rfl
    case fin =>
      rintro e W2 ⟨⟨v, rfl⟩, ⟨⟨hi, _, hl, hk⟩, hb2⟩ | ⟨hc2, ⟨o, ho, hr⟩, hl, hk⟩⟩
      · exact ⟨none, _, by have := run_endLoop (P := Tryz.prog) hl (by rw [hrec]; simp); rw [hrec] at this; exact this, hdone _ _ (Nat.le_refl _) (bel_off hb2 (ch_put W2 _ _) (by omega)) hi ((World.putObj_heap_other (by omega)).trans hk)⟩
      · refine ⟨some .ret, _, by have := run_endLoop (P := Tryz.prog) hl (by rw [hrec]; simp); rw [hrec] at this; exact this, wpIn_ret ?_⟩
        exact hret _ _ o (Nat.le_refl _) (hc2.trans (ch_put W2 _ _) (fun k hk => Or.inr (by omega))) ((World.putObj_heap_other (by omega)).trans ho) hr ((World.putObj_heap_other (by omega)).trans hk)
/-- The members as of the last of these entries. -/
def memOf (B : List Int) : List GE → List Int
  | [] => B
  | e :: l => memOf (if e.k = 2 then e.m else B) l
theorem memOf_app (B : List Int) (l m : List GE) : memOf B (l ++ m) = memOf (memOf B l) m := by
  induction l generalizing B with
  | nil => rfl
  | cons e l ih => exact ih _
theorem memOf_one (B : List Int) (e : GE) : memOf B [e] = if e.k = 2 then e.m else B := rfl
theorem memOf_len {n : Nat} : ∀ (l : List GE) (B : List Int), B.length ≤ n → (∀ e ∈ l, e.m.length ≤ n) → (memOf B l).length ≤ n
  | [], _, h, _ => h
  | e :: l, B, h, hl => by
    unfold memOf
    refine memOf_len l _ ?_ (fun y hy => hl y (List.mem_cons_of_mem _ hy))
    split
    · exact hl e List.mem_cons_self
    · exact h
/-- The same, and where they lie. -/
def memX (b : List Int × GA) : List (GE × GA) → List Int × GA
  | [] => b
  | e :: l => memX (if e.1.k = 2 then (e.1.m, e.2) else b) l
theorem memX_app (b : List Int × GA) (l m : List (GE × GA)) : memX b (l ++ m) = memX (memX b l) m := by
  induction l generalizing b with
  | nil => rfl
  | cons e l ih => exact ih _
theorem memX_one (b : List Int × GA) (e : GE × GA) : memX b [e] = if e.1.k = 2 then (e.1.m, e.2) else b := rfl
theorem memX_of (b : List Int × GA) (l : List (GE × GA)) : (memX b l).1 = memOf b.1 (l.map (·.1)) := by
  induction l generalizing b with
  | nil => rfl
  | cons e l ih =>
    show (memX (if e.1.k = 2 then (e.1.m, e.2) else b) l).1 = memOf (if e.1.k = 2 then e.1.m else b.1) (l.map (·.1))
    rw [ih]
    by_cases h : e.1.k = 2
    · rw [if_pos h, if_pos h]
    · rw [if_neg h, if_neg h]
theorem memX_sl {W : World} (b : List Int × GA) (l : List (GE × GA)) (hb : Sl E3 W b.2.a b.1) (hl : Gm W l) : Sl E3 W (memX b l).2.a (memX b l).1 := by
  induction l generalizing b with
  | nil => exact hb
  | cons e l ih =>
    unfold memX
    refine ih _ ?_ (fun x hx => hl x (List.mem_cons_of_mem _ hx))
    by_cases h : e.1.k = 2
    · rw [if_pos h]; exact hl e List.mem_cons_self
    · rw [if_neg h]; exact hb
/-- i of them from the end are no Seats, the next one is (or none is). -/
theorem memX_no (b : List Int × GA) (l : List (GE × GA)) (i : Nat) (hi : i < l.length) (h : memX b l = memX b (l.take (l.length - i))) (hk : l[l.length - 1 - i].1.k ≠ 2) : memX b l = memX b (l.take (l.length - (i + 1))) := by
  rw [h, show l.length - i = (l.length - 1 - i) + 1 by omega, List.take_add_one, List.getElem?_eq_getElem (by omega), memX_app]
  simp only [Option.toList_some]
  rw [memX_one, if_neg hk, show l.length - (i + 1) = l.length - 1 - i by omega]
theorem memX_yes (b : List Int × GA) (l : List (GE × GA)) (i : Nat) (hi : i < l.length) (h : memX b l = memX b (l.take (l.length - i))) (hk : l[l.length - 1 - i].1.k = 2) : memX b l = (l[l.length - 1 - i].1.m, l[l.length - 1 - i].2) := by
  rw [h, show l.length - i = (l.length - 1 - i) + 1 by omega, List.take_add_one, List.getElem?_eq_getElem (by omega), memX_app]
  simp only [Option.toList_some]
  rw [memX_one, if_pos hk]
/-- What Backward hands on. -/
def encK (x : Nat × GE × GA) : Array Value := #[.int .i64 x.1, .agg (encG x.2).toArray]
def backs (L : List (GE × GA)) : List (Nat × GE × GA) := (L.zipIdx.map fun p => (p.2, p.1)).reverse
theorem backs_len (L : List (GE × GA)) : (backs L).length = L.length := by simp [backs]
theorem backs_at (L : List (GE × GA)) (j : Nat) (hj : j < L.length) : (backs L)[L.length - 1 - j]? = some (j, L[j]) := by
  unfold backs
  rw [List.getElem?_reverse (by simp; omega)]
  simp only [List.length_map, List.length_zipIdx]
  rw [show L.length - 1 - (L.length - 1 - j) = j by omega, List.getElem?_map, List.getElem?_zipIdx, List.getElem?_eq_getElem hj]
  simp
theorem backs_some (L : List (GE × GA)) (i : Nat) (x : Nat × GE × GA) (h : (backs L)[i]? = some x) : i < L.length ∧ x.1 = L.length - 1 - i ∧ L[L.length - 1 - i]? = some x.2 := by
  have hi : i < L.length := by have := (List.getElem?_eq_some_iff.1 h).1; rwa [backs_len] at this
  have := backs_at L (L.length - 1 - i) (by omega)
  rw [show L.length - 1 - (L.length - 1 - i) = i by omega, h] at this
  obtain rfl := Option.some.inj this
  exact ⟨hi, rfl, List.getElem?_eq_getElem (by omega)⟩
set_option maxRecDepth 100000 in
set_option maxHeartbeats 2000000 in
theorem back_g {w : World} {B : Nat} {a : Option Addr} {cap : Nat} {l : List (GE × GA)} (hl : Sl EG w a l) (hn : l.length ≤ 1000000) (hB : w.heap[B]? = some (.cells #[.slice a l.length cap] 27)) : ItS w 4 210 #[.pointer (some ⟨B, 0, none⟩)] encK (backs l) := by
  intro lp J Jx W hbW hJ0 hY hJb hJx
  obtain ⟨g, off, hg, hR⟩ := hl
  rw [backs_len]
  have HAT : Hid (∀ (j : Nat) (x : GE × GA), l[j]? = some x → (backs l)[l.length - 1 - j]? = some (j, x)) := hide (fun j x hx => by
    obtain ⟨hj, e⟩ := List.getElem?_eq_some_iff.1 hx
    rw [backs_at l j hj, e])
  generalize hm : l.length = m at *
  have HM := hide hm
  have HG := hide hg
  have HR := hide hR
  have HB := hide hB
  have cB : W.cell? ⟨B, 0, none⟩ = some (.slice a m cap) := cell_of (hbW.row hB)
  have HY := hide hY
  have HJ0 := hide (And.intro hJ0 hbW)
  have hw : IntKind.i64.wrap ((m : Int) - 1) = (m : Int) - 1 := wrapI (by omega) (by omega)
  clear hm hg hR hB hY hJ0 hbW hJb
  have HJX := hide hJx
  clear hJx
  refine callsIn_of_wp Tryz.func210 rfl trivial ?_
  simp only [Tryz.ntmps210, List.size_toArray, List.length_cons, List.length_nil, Nat.reduceAdd, Nat.reduceSub, Array.replicate_succ, Array.replicate_zero, List.push_toArray, List.append_toArray, List.nil_append, List.cons_append]
  gi_wp2_with fail
  gi_loopw [3] (fun vi wr => ∃ k : Nat, k ≤ m ∧ vi = .int .i64 ((k : Int) - 1) ∧ Hid (J (m - k) wr ∧ Bel w wr)) (fun vi _ => (intOf vi + 1).toNat)
  case atStart => exact ⟨m, Nat.le_refl _, rfl, by rw [Nat.sub_self]; exact HJ0⟩
  case round =>
    obtain ⟨k, hk, rfl, HJ⟩ := hrel
    by_cases h0 : k = 0
    · subst h0
      have hlt : ¬ ((0 : Int) ≤ ((0 : Nat) : Int) - 1) := by omega
      gi_wp2_with fail
      go_end0
      exact ⟨⟨_, rfl⟩, Or.inl ⟨by have := (unhide HJ).1; rwa [Nat.sub_zero] at this, (unhide HJ).2⟩⟩
    · obtain ⟨j, rfl⟩ : ∃ j, k = j + 1 := ⟨k - 1, by omega⟩
      have e1 : ((j + 1 : Nat) : Int) - 1 = j := by omega
      rw [e1]
      have hjl : j < l.length := by rw [unhide HM]; omega
      obtain rfl := (unhide HG) (by omega)
      have hjm : (j : Int) < m := by omega
      have cB2 : wr.cell? ⟨B, 0, none⟩ = some (.slice (some ⟨g, off, none⟩) m cap) := cell_of ((unhide HJ).2.row (unhide HB))
      obtain ⟨r0, r1, r2, r3⟩ := EG_cell (unhide HR) j hjl
      have r0 := (unhide HJ).2.cell r0
      have r1 := (unhide HJ).2.cell r1
      have r2 := (unhide HJ).2.cell r2
      have r3 := (unhide HJ).2.cell r3
      have HX := hide ((unhide HAT) j l[j] (List.getElem?_eq_getElem hjl))
      generalize l[j] = x at *
      obtain ⟨⟨xt, xk, xd, xm⟩, xa, xc⟩ := x
      simp only at r0 r1 r2 r3
      generalize hxm : xm.length = xn at *
      obtain ⟨yfn, ytm, yas, ybd, hyr, hyR⟩ := (unhide HY) (m - 1 - j) (j, ⟨xt, xk, xd, xm⟩, ⟨xa, xc⟩) wr (unhide HX) (by have := (unhide HJ).1; rwa [show m - (j + 1) = m - 1 - j by omega] at this) (unhide HJ).2
      have hyr' : (Instr.yield lp #[.int .i64 j, .agg #[.int .u64 xt, .int .u8 xk, .string xd, .slice xa xn xc]]).run Tryz.prog wr = .ok (.round lp yfn ytm yas ybd) wr := by rw [← hxm]; exact hyr
      have HYR := hide hyR
      have hw2 : IntKind.i64.wrap ((j : Int) - 1) = (j : Int) - 1 := wrapI (by omega) (by omega)
      have hge : (0 : Int) ≤ j := by omega
      clear hyr hyR
      gi_wp2_with fail
      refine (unhide HYR).mono ?_
      rintro e w4 (⟨rfl, hj4, hb4⟩ | ⟨rfl, hj4⟩)
      · have HJ4 := hide (And.intro hj4 hb4)
        clear hj4 hb4
        gi_wp2
        go_roundw
        case rel => exact ⟨j, by omega, by go_num, by rwa [show m - 1 - j + 1 = m - j by omega] at HJ4⟩
        case measure => simp [intOf]
      · have HJ4 := hide hj4
        clear hj4
        gi_wp2
        refine bodyPost_ret (results_none (by exact rfl) _ _ _) rfl ?_
        exact ⟨⟨_, rfl⟩, Or.inr (unhide HJ4)⟩
set_option maxRecDepth 100000 in
set_option maxHeartbeats 2000000 in
/-- The members behind so many entries. -/
theorem members_g {W : World} {s : GP} {x : Px} {L : List (GE × GA)} (hLs : L.map (·.1) = s.log) (hS : Sl EG W x.aL L) (hl : s.log.length ≤ 1000000) (hcap : s.log.length ≤ x.cL) (k : Nat) (hk : k ≤ s.log.length) : Calls Tryz.prog 133 #[.agg (gc s x), .int .i64 k] W fun e w' => e = .returned (.slice (memX (s.B, ⟨x.aB, x.cB⟩) (L.take k)).2.a (memX (s.B, ⟨x.aB, x.cB⟩) (L.take k)).1.length (memX (s.B, ⟨x.aB, x.cB⟩) (L.take k)).2.c) ∧ Bel W w' := by
  have hLn : L.length = s.log.length := by rw [← hLs, List.length_map]
  have hLk : (L.take k).length = k := by rw [List.length_take]; omega
  have HB := hide (backward_any x.aL k x.cL)
  have HI : Hid (∀ w b, Bel W w → w.heap[b]? = some (.cells #[.slice x.aL k x.cL] 27) → ItS w 4 210 #[.pointer (some ⟨b, 0, none⟩)] encK (backs (L.take k))) := hide (fun w b hb hB => by
    obtain ⟨g, off, h1, h2⟩ := hS.bel hb
    refine back_g (cap := x.cL) (a := x.aL) ⟨g, off, fun h0 => h1 (by omega), h2.take k⟩ (by omega) (by rw [hLk]; exact hB))
  have hA : s.log.length ≠ 0 → ∃ g off, x.aL = some ⟨g, off, none⟩ := fun h0 => by obtain ⟨g, off, h1, _⟩ := hS; exact ⟨g, off, h1 (by omega)⟩
  generalize hMb : ((s.B, ⟨x.aB, x.cB⟩) : List Int × GA) = mb at *
  generalize hMx : memX mb (L.take k) = MX at *
  have HMX := hide hMx
  have HMB := hide hMb
  generalize hLL : L.take k = LL at *
  refine (callsIn_wide (n := 5)).1 ?_
  refine callsIn_of_wp_marks Tryz.func133 rfl trivial ?_ rfl
  simp only [Tryz.ntmps133, List.size_toArray, List.length_cons, List.length_nil, Nat.reduceAdd, Nat.reduceSub, Array.replicate_succ, Array.replicate_zero, List.push_toArray, List.append_toArray, List.nil_append, List.cons_append]
  clear hS hMx hMb
  unfold gc
  have hkm : (k : Int) ≤ s.log.length := by omega
  have hm1 : (k : Int) ≤ x.cL := by omega
  have hk0 : (0 : Int) ≤ k := by omega
  generalize hsm : s.log.length = m at *
  gi_wp2_with (first
    | (refine ⟨trivial, ?_⟩; gi_at_call 175; refine (callsIn_wide.2 ((unhide HB) _)).mono ?_; rintro e w1 ⟨b1, rfl, hb1, hbel1⟩; have HW1 := hide (And.intro hb1 hbel1); clear hb1 hbel1))
  have hrP : w1.heap[W.heap.size]? = some (.cells (gc s x) 31) := by rw [show gc s x = #[.int .i64 s.id, .slice x.aM s.M.length x.cM, .int .u64 s.term, .int .i64 s.vote, .int .u8 s.role, .int .i64 s.lead, .int .u64 s.base, .int .u64 s.baseT, .slice x.aB s.B.length x.cB, .string s.snap, .slice x.aL m x.cL, .int .u64 s.commit, .int .i64 s.idle, .int .i64 s.wait, .slice x.aV s.votes.length x.cV, .slice x.aF s.fol.length x.cF, .int .u64 s.round, .slice x.aR s.reads.length x.cR] by rw [← hsm]; rfl]; exact (unhide HW1).2.row (((Bel.refl _).alloc _).row (at_new W _))
  have hrR : w1.heap[W.heap.size + 1]? = some (.cells #[.slice none 0 0] 22) := (unhide HW1).2.row (at_new2 W _ _)
  have HB1 : Hid (Bel W w1) := hide ((((Bel.refl W).alloc _).alloc _).trans (unhide HW1).2)
  have HRP := hide hrP
  have HRR := hide hrR
  generalize hbP : W.heap.size = bP at *
  have HBP := hide hbP
  clear hrP hrR hbP hsm
  generalize hAA : ({ tmps := _, defers := [] } : Act) = AA
  subst hAA
  refine rangeStop (ps := #[12, 13]) (encs := encK) (by decide) rfl En65 (fun _ => rfl) ((unhide HI) w1 b1 (unhide HB1) (unhide HW1).1) (fun i => memX mb LL = memX mb (LL.take (LL.length - i))) (bP + 1) (lt_of_some (unhide HRR)) (fun o => o = .cells #[.slice MX.2.a MX.1.length MX.2.c] 22) (fun y a' A => ∃ b6 u5, a' = { tmps := #[.agg #[.int .i64 s.id, .slice x.aM s.M.length x.cM, .int .u64 s.term, .int .i64 s.vote, .int .u8 s.role, .int .i64 s.lead, .int .u64 s.base, .int .u64 s.baseT, .slice x.aB s.B.length x.cB, .string s.snap, .slice x.aL m x.cL, .int .u64 s.commit, .int .i64 s.idle, .int .i64 s.wait, .slice x.aV s.votes.length x.cV, .slice x.aF s.fol.length x.cF, .int .u64 s.round, .slice x.aR s.reads.length x.cR], .int .i64 k, .pointer (some ⟨bP, 0, none⟩), undef, .pointer (some ⟨bP + 1, 0, none⟩), u5, .pointer (some ⟨b6, 0, none⟩), .pointer (some ⟨bP, 10, none⟩), .slice x.aL m x.cL, .int .i64 k, .slice x.aL k x.cL, .func (.func 210) #[] #[.pointer (some ⟨b1, 0, none⟩)], .int .i64 y.1, .agg (encG y.2).toArray, undef, undef, undef, undef, undef, undef, undef], defers := [] } ∧ A.heap[b6]? = some (.cells (encG y.2).toArray 53)) (by rw [Nat.sub_zero, List.take_length]) ?hAx ?hassign ?hbody ?hdone ?hret
  case hAx =>
    rintro y a' A r o o' ⟨b6, u5, rfl, hn⟩ hr ho hc
    refine ⟨b6, u5, rfl, (World.putObj_heap_other (fun e => ?_)).trans hn⟩
    subst e
    rw [hn] at ho
    cases ho
    simp [Obj.isCells] at hc
  case hassign =>
    rintro l ⟨i, t⟩ A K hb hK
    have hfin := hK { tmps := #[.agg #[.int .i64 s.id, .slice x.aM s.M.length x.cM, .int .u64 s.term, .int .i64 s.vote, .int .u8 s.role, .int .i64 s.lead, .int .u64 s.base, .int .u64 s.baseT, .slice x.aB s.B.length x.cB, .string s.snap, .slice x.aL m x.cL, .int .u64 s.commit, .int .i64 s.idle, .int .i64 s.wait, .slice x.aV s.votes.length x.cV, .slice x.aF s.fol.length x.cF, .int .u64 s.round, .slice x.aR s.reads.length x.cR], .int .i64 k, .pointer (some ⟨bP, 0, none⟩), undef, .pointer (some ⟨bP + 1, 0, none⟩), undef, .pointer (some ⟨A.heap.size, 0, none⟩), .pointer (some ⟨bP, 10, none⟩), .slice x.aL m x.cL, .int .i64 k, .slice x.aL k x.cL, .func (.func 210) #[] #[.pointer (some ⟨b1, 0, none⟩)], .int .i64 i, .agg (encG t).toArray, undef, undef, undef, undef, undef, undef, undef], defers := [] } (A.alloc (.cells (encG t).toArray 53)) ((Bel.refl _).alloc _) ⟨_, _, rfl, at_new A _⟩
    have HF := hide hfin
    clear hfin hK
    obtain ⟨⟨tt, tk, td, tm⟩, ta, tc⟩ := t
    unfold encG encK at *
    simp only [encG] at *
    gi_wp2_with fail
    exact HF.out
  case hbody =>
    rintro l i ⟨ix, t⟩ a' A hx hI hb ⟨b6, u5, rfl, hn⟩
    obtain ⟨hi, _, hat⟩ := backs_some LL i _ hx
    simp only at hat
    have hti : LL[LL.length - 1 - i] = t := by rw [List.getElem?_eq_getElem (by omega)] at hat; exact Option.some.inj hat
    have cR : A.cell? ⟨bP + 1, 0, none⟩ = some (.slice none 0 0) := cell_of (hb.row (unhide HRR))
    have fR : A.frozen? ⟨bP + 1, 0, none⟩ = false := free_row (p := 0) (hb.row (unhide HRR))
    have hrA := hide (hb.row (unhide HRR))
    have c1 : A.cell? ⟨b6, 1, none⟩ = some (.int .u8 t.1.k) := cell_of hn
    have c3 : A.cell? ⟨b6, 3, none⟩ = some (.slice t.2.a t.1.m.length t.2.c) := cell_of hn
    by_cases hk2 : t.1.k = 2
    · have HM := hide (memX_yes mb LL i hi hI (by rw [hti]; exact hk2))
      rw [hti, unhide HMX] at HM
      have e1 : MX.1 = t.1.m := by rw [unhide HM]
      have e2 : MX.2 = t.2 := by rw [unhide HM]
      rw [← e1, ← e2] at c3
      have c2 : (t.1.k == 2) = true := by simp [hk2]
      clear hn hb hx hI hat hti hk2 e1 e2
      generalize t.1.k = tk at *
      generalize MX.2.a = ma at *
      generalize MX.2.c = mc at *
      generalize MX.1.length = mn at *
      gi_wp2_with fail
      exact ⟨Ch.set (ad := ⟨bP + 1, 0, none⟩) (Ch.refl (fun i => i = bP + 1) A) (Or.inl rfl) _, row_set (unhide hrA)⟩
    · have HM := hide (memX_no mb LL i hi hI (by rw [hti]; exact hk2))
      have c2 : (t.1.k == 2) = false := beq_eq_false_iff_ne.2 hk2
      clear hn hb hx hI hat hti hk2 c3
      generalize t.1.k = tk at *
      gi_wp2_with fail
      exact ⟨Bel.refl _, by have := unhide HM; first | exact this | rwa [hLk] at this⟩
  case hdone =>
    intro D W2 hD hb2 hI hK
    rw [backs_len, Nat.sub_self, List.take_zero, unhide HMX] at hI
    have c8 : W2.cell? ⟨bP, 8, none⟩ = some (.slice MX.2.a MX.1.length MX.2.c) := by
      rw [hI, ← unhide HMB]
      exact (Bg.of (hb2.row (unhide HRP))).c8
    have cR : W2.cell? ⟨bP + 1, 0, none⟩ = some (.slice none 0 0) := cell_of (hb2.row (unhide HRR))
    have fR := free_row (p := 0) (hb2.row (unhide HRR))
    have hD1 : bP + 1 < w1.heap.size := lt_of_some (unhide HRR)
    have hrR2 := hb2.row (unhide HRR)
    have hset : Ch (fun i => i = bP + 1) W2 (W2.setCell ⟨bP + 1, 0, none⟩ (.slice MX.2.a MX.1.length MX.2.c)) := Ch.set (ad := ⟨bP + 1, 0, none⟩) (Ch.refl (fun i => i = bP + 1) W2) (Or.inl rfl) _
    have hr3 := row_set (p := 0) (v := .slice MX.2.a MX.1.length MX.2.c) hrR2
    have hK3 : (W2.setCell ⟨bP + 1, 0, none⟩ (.slice MX.2.a MX.1.length MX.2.c)).heap[D]? = some (.deferred (some [])) := hset.row hK (by omega)
    have hc4 : ((W2.setCell ⟨bP + 1, 0, none⟩ (.slice MX.2.a MX.1.length MX.2.c)).putObj D (.deferred none)).cell? ⟨bP + 1, 0, none⟩ = some (.slice MX.2.a MX.1.length MX.2.c) := cell_of ((World.putObj_heap_other (by omega)).trans hr3)
    have hb4 : Bel W ((W2.setCell ⟨bP + 1, 0, none⟩ (.slice MX.2.a MX.1.length MX.2.c)).putObj D (.deferred none)) := bel_off (bel_off ((unhide HB1).trans hb2) hset (by have := unhide HBP; omega)) (ch_put _ _ _) (by have := unhide HBP; omega)
    have HK := hide (And.intro hK3 (And.intro hc4 hb4))
    clear hb2 hK hset hr3 hK3 hc4 hb4 hD1 hrR2 hI
    gi_wp2_with fail
    obtain ⟨hK3, hc4, hb4⟩ := HK.out
    refine ⟨by simp, .inl ⟨_, _, rfl, run_takeDeferred hK3, ?_⟩⟩
    refine ⟨.slice MX.2.a MX.1.length MX.2.c, ?_, rfl, hb4⟩
    simp [results, Tryz.f133, go_sem, hc4]
  case hret =>
    rintro D W2 o hD hc2 ho rfl hK
    have hD1 : bP + 1 < w1.heap.size := lt_of_some (unhide HRR)
    have hc4 : (W2.putObj D (.deferred none)).cell? ⟨bP + 1, 0, none⟩ = some (.slice MX.2.a MX.1.length MX.2.c) := cell_of ((World.putObj_heap_other (by omega)).trans ho)
    have hb4 : Bel W (W2.putObj D (.deferred none)) := bel_off (bel_off (unhide HB1) hc2 (by have := unhide HBP; omega)) (ch_put _ _ _) (by have := unhide HBP; omega)
    refine ⟨by simp, .inl ⟨_, _, rfl, run_takeDeferred hK, ?_⟩⟩
    refine ⟨.slice MX.2.a MX.1.length MX.2.c, ?_, rfl, hb4⟩
    simp [results, Tryz.f133, go_sem, hc4]
end Go.Proofs.YthekbhliokcpcaaGreat
