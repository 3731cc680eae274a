/- mayEntries, mayNumbers, mayLog of members that may be. slices.Backward at entries; membersOf. -/
import Derived.Test.YthekbhliokcpcaaGreatNclo
import Derived.RangeFuncNested
import Derived.RangeFuncBound
import Derived.RangeFuncCalls
import Derived.RangeFuncLeaves
import Derived.RangeFuncFrom
import Derived.Shelf.Abstract
import Derived.Shelf.RegionOpen
import Derived.OwnWalkIn
import Derived.TacticsInMore
import Derived.LoopNIn
import Derived.LoopIn
namespace Go.Proofs.YthekbhliokcpcaaGreat
open Go.RowKit Go.Maps
set_option maxRecDepth 100000 in
set_option maxHeartbeats 1000000 in
theorem entries_ok {W : World} {a : Option Addr} {l : List PE} (h : Sl E69 W a l) (cap : Nat) {t lo : Int} (hl : Lg t l) (hlo : ∀ x ∈ l, lo ≤ x.t) (hn : l.length ≤ 1000000) : Calls Tryz.prog 151 #[.slice a l.length cap, .int .u64 lo, .int .u64 t] W fun e w' => e = .returned (.bool true) ∧ Bel W w' := by
  obtain ⟨g, off, hg, hR⟩ := h
  generalize hn2 : l.length = n at *
  have HN := hide hn2
  have HG := hide hg
  have HR := hide hR
  have HL := hide hl
  have HO := hide hlo
  clear hn2 hg hR hl hlo
  go_enter Tryz.func151, Tryz.ntmps151
  go_wp2_with fail
  go_loopw [1, 11] (fun vb vk wr => ∃ (k : Nat) (b : Int), k ≤ n ∧ vk = .int .i64 k ∧ vb = .int .u64 b ∧ Bel W wr ∧ Hid (∀ x ∈ l.drop k, b ≤ x.t)) (fun _ vk _ => n - (intOf vk).toNat)
  case atStart => exact ⟨0, lo, Nat.zero_le _, rfl, rfl, Bel.refl _, hide (fun x hx => (unhide HO) x (List.mem_of_mem_drop hx))⟩
  case round =>
    obtain ⟨k, b, hk, rfl, rfl, hb, HE⟩ := hrel
    by_cases hlt : k < n
    · have hkl : k < l.length := by rw [unhide HN]; exact hlt
      obtain rfl := (unhide HG) (by omega)
      have hkn : (k : Int) < n := by omega
      obtain ⟨r0, r1, r2, r3⟩ := E69_cell (unhide HR) k hkl
      have r0 := hb.cell r0
      have r1 := hb.cell r1
      have r2 := hb.cell r2
      have r3 := hb.cell r3
      have hx := ((unhide HL).2 _ (List.getElem_mem hkl)).1
      have HC := hide (entry_any l[k] ((unhide HL).2 _ (List.getElem_mem hkl)).2)
      have hbx : b ≤ l[k].t := (unhide HE) _ (by rw [List.drop_eq_getElem_cons hkl]; exact List.mem_cons_self)
      have HF : Hid (∀ x ∈ l.drop (k + 1), l[k].t ≤ x.t) := hide (fun x hx => by
        have h1 := (unhide HL).1
        rw [← List.take_append_drop k l, List.pairwise_append] at h1
        have h2 := h1.2.1
        rw [List.drop_eq_getElem_cons hkl, List.pairwise_cons] at h2
        exact h2.1 x hx)
      generalize l[k] = x at *
      have h1 : (x.t == 0) = false := beq_eq_false_iff_ne.2 (by omega)
      have h2 : ¬ (x.t < b) := by omega
      have h3 : ¬ (t < x.t) := by omega
      unfold encE at HC
      have HB := hide hb
      clear hb hx hbx
      go_wp2_with (first
        | (go_at_call 187; refine ((unhide HC) _).mono ?_; rintro e w9 ⟨rfl, hb9⟩; have HB9 := hide hb9; have c0 : w9.cell? ⟨wr.heap.size, 0, none⟩ = some (.int .u64 x.t) := cell_of (hb9.row (at_new wr _)); clear hb9))
      go_roundw
      case rel => exact ⟨k + 1, x.t, by omega, by go_num, rfl, ((unhide HB).alloc _).trans (unhide HB9), HF⟩
      case measure => simp [intOf]; omega
    · obtain rfl : k = n := by omega
      have HB := hide hb
      clear hb
      go_wp2_with fail
      go_ret
      exact ⟨rfl, unhide HB⟩
set_option maxRecDepth 100000 in
set_option maxHeartbeats 1000000 in
theorem numbers_ok {W : World} {n T G : Nat} {s : PP} (x : Px) (h : Ok n T G s) (hn : n ≤ 64) (hT : T ≤ 1000000) : Calls Tryz.prog 103 #[.agg (pc n s x)] W fun e w' => e = .returned (.bool true) ∧ Bel W w' := by
  have e1 : idB s.id = true := by have := h.id1; have := h.idn; simp [idB]; omega
  have e2 : noneB s.vote = true := by have := h.vote; simp [noneB, idB]; omega
  have e3 : noneB s.lead = true := by have := h.lead; simp [noneB, idB]; omega
  have e4 : s.role ≤ 2 := by rcases h.role with ⟨e, _⟩ | ⟨e, _⟩ | ⟨e, _⟩ <;> omega
  have e5 : s.term ≤ 4611686018427387904 := by have := h.tT; omega
  have e6 : 0 < s.wait := by have := h.wait; omega
  have e7 : s.wait ≤ 1073741824 := by have := h.wait; omega
  have e8 : 0 ≤ s.idle := h.idle.1
  have e9 : s.idle ≤ 1073741824 := by have := h.idle; omega
  have H1 := hide (isId_any s.id)
  rw [e1] at H1
  have H2 : Hid (∀ (y : Int) (W : World), noneB y = true → Calls Tryz.prog 150 #[.int .i64 y] W fun e w' => e = .returned (.bool true) ∧ w' = W) := hide (fun y W hy => by have := none_any y W; rwa [hy] at this)
  clear h hn hT e1
  unfold pc
  go_enter Tryz.func103, Tryz.ntmps103
  go_wp2_with (first
    | (go_at_call 149; refine ((unhide H1) _).mono ?_; rintro e w9 ⟨rfl, hw9⟩; rw [hw9]; clear hw9)
    | (go_at_call 150; refine ((unhide H2) _ _ (by assumption)).mono ?_; rintro e w9 ⟨rfl, hw9⟩; rw [hw9]; clear hw9))
  go_ret
  exact ⟨rfl, (Bel.refl W).alloc _⟩
set_option maxRecDepth 100000 in
set_option maxHeartbeats 1000000 in
theorem log_ok {W : World} {n T G : Nat} {s : PP} {x : Px} (hx : Sl E69 W x.aL s.log) (h : Ok n T G s) (hG : G ≤ 1000000) : Calls Tryz.prog 104 #[.agg (pc n s x)] W fun e w' => e = .returned (.bool true) ∧ Bel W w' := by
  have hgl := h.glen
  have H1 : Hid (∀ W', Bel W W' → Calls Tryz.prog 79 #[.agg (pc n s x)] W' fun e w' => e = .returned (.tuple #[.int .u64 s.lastI, .int .u64 s.lastT]) ∧ Bel W' w') := hide (fun W' hb => last_any (hx.bel hb) (by omega))
  have H2 : Hid (∀ W', Bel W W' → Calls Tryz.prog 151 #[.slice x.aL s.log.length x.cL, .int .u64 0, .int .u64 s.term] W' fun e w' => e = .returned (.bool true) ∧ Bel W' w') := hide (fun W' hb => entries_ok (hx.bel hb) _ h.log (fun y hy => by have := (h.log.2 y hy).1; omega) (by omega))
  have h0 := h.t0
  have hI : 0 ≤ s.lastI := by unfold PP.lastI; omega
  have hcm : (s.commit : Int) ≤ s.lastI := by have := h.com; unfold PP.lastI; omega
  have hcm0 : (0 : Int) ≤ s.commit := by omega
  clear h hx hgl
  generalize s.lastI = i at *
  generalize s.lastT = t at *
  go_enter Tryz.func104, Tryz.ntmps104
  go_wp2_with (first
    | (refine bx_box rfl 31 _ rfl (pc n s x) rfl ?_; intro b w0 hr0 hs0 hb0; have HR0 := hide hr0; have HB0 := hide hb0; clear hr0 hs0 hb0)
    | (refine bx_ld rfl 31 _ rfl b rfl (pc n s x) _ (unhide HR0) Tryz.underlying31 (Tryz.size32 n s x) ?_)
    | (go_at_call 79; refine ((unhide H1) _ (unhide HB0)).mono ?_; rintro e w1 ⟨rfl, hb1⟩; obtain ⟨y0, y1, y2, y3, y4, y5, y6, y7, y8, y9, y10, y11, y12, y13, y14, y15, y16, y17⟩ := Bx.of (hb1.row (unhide HR0)); have HB1 := hide ((unhide HB0).trans hb1); clear hb1)
    | (go_at_call 151; refine ((unhide H2) _ (unhide HB1)).mono ?_; rintro e w2 ⟨rfl, hb2⟩; have y26 := hb2.cell y6; have y211 := hb2.cell y11; have HB2 := hide ((unhide HB1).trans hb2); clear hb2))
  go_ret
  exact ⟨rfl, unhide HB2⟩
end Go.Proofs.YthekbhliokcpcaaGreat
namespace Go.Proofs.YthekbhliokcpcaaGreat
open Go.RowKit Go.Shelf
attribute [local go_sem] Oper.semAt_some
def En (gf : Nat) : Prop := ∀ (args : Array Value) (w : World), (callFunc gf args).run Tryz.prog w = .ok (.enter gf args) w
/-- An iterator that tells these, in a world in which what was there stands. -/
def It2 {α : Type} (w : World) (n gf : Nat) (lb : Array Value) (encs : α → Array Value) : Prop :=
  ∀ (l : Nat) (J : World → Prop) (W : World), Bel w W → J W →
    (∀ x A, J A → Bel w A → YieldAt Fence.wide (n - 1) Tryz.prog l (encs x) A fun e B => e = .returned (.bool true) ∧ J B ∧ Bel w B) →
    (∀ A B, J A → Bel A B → J B) →
    CallsIn Fence.wide n Tryz.prog gf (#[.func (.yield l) #[] #[]] ++ lb) W fun e W' => (∃ v, e = .returned v) ∧ J W' ∧ Bel w W'
theorem ch_put (A : World) (r : Nat) (o : Obj) : Ch (fun i => i = r) A (A.putObj r o) :=
  ⟨rfl, rfl, rfl, by simp, fun k _ hk => World.putObj_heap_other (fun e => hk e)⟩
theorem at_new2 (w : World) (a b : Obj) : ((w.alloc a).alloc b).heap[w.heap.size + 1]? = some b := by
  have := at_new (w.alloc a) b
  rwa [show (w.alloc a).heap.size = w.heap.size + 1 by simp] at this
/-- 'for .. range it', where the body always goes on and makes new memory alone. -/
theorem rangeBel {α : Type} {g : Operand} {ps : Array Tmp} {assign body : Code} {Q : Exit → Act → World → Prop} {a : Act} {w : World} {n : Nat} (h1 : 1 ≤ n) {gf : Nat} {lb : Array Value} (hg : a.eval g = .func (.func gf) #[] lb) (en : En gf) {encs : α → Array Value} (hps : ∀ x, (encs x).size = ps.size)
    (hit : It2 w (n - 1) gf lb encs) (Ax : α → Act → World → Prop)
    (hAx : ∀ x a' A r o o', Ax x a' A → w.heap.size ≤ r → A.heap[r]? = some o → o.isCells = false → Ax x a' (A.putObj r o'))
    (hassign : ∀ (l : Nat) (x : α) (A : World) (K : Act → World → Prop), Bel w A → (∀ a' A', Bel A A' → Ax x a' A' → K a' A') →
      assign.wpIn (Fence.wide.inRound l) (n - 1 - 1) Tryz.prog (Exit.then K (fun _ _ _ => False)) { tmps := (ps.zip (encs x)).foldl (fun t (p, v) => t.setIfInBounds p v) a.tmps, defers := [] } A)
    (hbody : ∀ (l : Nat) (x : α) (a' : Act) (A : World), Bel w A → Ax x a' A → body.wpIn (Fence.wide.inRound l) (n - 1 - 1) Tryz.prog (fun e _ B => e = .normal ∧ Bel A B) a' A)
    (hdone : ∀ (D : Nat) (W : World), w.heap.size ≤ D → Bel w W → W.heap[D]? = some (.deferred (some [])) → Q .normal { a with defers := { target := .collected D, args := #[] } :: a.defers } W) :
    (Code.rangeFunc g ps assign body).wpIn Fence.wide n Tryz.prog Q a w := by
  refine wpIn_rangeFunc ?_
  intro fn hfn
  obtain ⟨rec, hrec⟩ : ∃ rec : LoopState → Option Code → Loop, rec = fun st pe => { state := st, pending := pe, fn, tmps := a.tmps, params := ps, assign, body, defers := w.heap.size } := ⟨_, rfl⟩
  obtain ⟨W1, hW1⟩ : ∃ W1, (w.alloc (.deferred (some []))).alloc (.loop (rec .ready none)) = W1 := ⟨_, rfl⟩
  have hL1 : W1.heap[w.heap.size + 1]? = some (.loop (rec .ready none)) := by rw [← hW1]; exact at_new2 w _ _
  have hK1 : W1.heap[w.heap.size]? = some (.deferred (some [])) := by rw [← hW1]; exact ((Bel.refl _).alloc _).row (at_new w _)
  have hbW : Bel w W1 := by rw [← hW1]; exact ((Bel.refl w).alloc _).alloc _
  refine ⟨w.heap.size + 1, [{ target := .collected w.heap.size, args := #[] }], W1, { target := .fn (.func gf) lb, args := #[.func (.yield (w.heap.size + 1)) #[] #[]] }, W1, gf,
    #[.func (.yield (w.heap.size + 1)) #[] #[]] ++ lb, W1, ?_, ?_, fun _ _ => trivial, ?_, fun _ => h1, ?_⟩
  · rw [← hW1, hrec]; exact run_enterLoop_outer _ _ _ _ _
  · simp only [resolve, hg]
    simp [go_sem]
  · have eg : ∀ (args : Array Value) (w : World), (callFunc gf args).run Tryz.prog w = .ok (.enter gf args) w := en
    simp [invoke, go_sem, eg]
  · refine (hit (w.heap.size + 1) (fun A => A.heap[w.heap.size + 1]? = some (.loop (rec .ready none)) ∧ A.heap[w.heap.size]? = some (.deferred (some []))) W1 hbW ⟨hL1, hK1⟩ ?yld ?bel).mono ?fin
    case bel =>
      rintro A B ⟨q1, q2⟩ hb
      exact ⟨hb.row q1, hb.row q2⟩
    case yld =>
      rintro x A ⟨hl, hk⟩ hbA
      have hy := run_yield (P := Tryz.prog) (args := encs x) hl (by rw [hrec]; exact hps x)
      rw [hrec] at hy
      refine ⟨fn, _, assign, body, hy, roundIn_of_wpIn hfn (hassign _ x A _ hbA ?_)⟩
      intro a' A' hb' hax
      have hl' := hb'.row hl
      have hk' := hb'.row hk
      refine ⟨_, run_beginRound hl' (by rw [hrec]), ?_⟩
      have hx2 := hAx x a' A' _ _ (.loop { rec .ready none with state := .busy }) hax (by omega) hl' rfl
      have hbP := bel_off (hbA.trans hb') (ch_put A' (w.heap.size + 1) (.loop { rec .ready none with state := .busy })) (by omega)
      have hl2 : (A'.putObj (w.heap.size + 1) (.loop { rec .ready none with state := .busy })).heap[w.heap.size + 1]? = some (.loop { rec .ready none with state := .busy }) := World.putObj_heap_same (lt_of_some hl')
      have hk2 : (A'.putObj (w.heap.size + 1) (.loop { rec .ready none with state := .busy })).heap[w.heap.size]? = some (.deferred (some [])) := (World.putObj_heap_other (by omega)).trans hk'
      refine wpIn_mono (hbody _ x a' _ hbP hx2) ?_
      rintro e a3 W3 ⟨rfl, hb3⟩
      have hl3 := hb3.row hl2
      have hd3 := hb3.row hk2
      have hend := run_endRound (P := Tryz.prog) none hl3
      refine ⟨_, _, hend, rfl, ⟨?_, (World.putObj_heap_other (by omega)).trans hd3⟩, bel_off (hbP.trans hb3) (ch_put W3 _ _) (by omega)⟩
      rw [World.putObj_heap_same (lt_of_some hl3), hrec]; rfl
    case fin =>
      rintro e W2 ⟨⟨v, rfl⟩, ⟨hl, hk⟩, hb2⟩
      exact ⟨none, _, by have := run_endLoop (P := Tryz.prog) hl (by rw [hrec]; simp); rw [hrec] at this; exact this, hdone _ _ (Nat.le_refl _) (bel_off hb2 (ch_put W2 _ _) (by omega)) ((World.putObj_heap_other (by omega)).trans hk)⟩
/-- What Backward hands on. -/
def encB (x : Nat × {e : PE // e.k ≠ 2}) : Array Value := #[.int .i64 x.1, .agg (encE x.2.1).toArray]
set_option maxRecDepth 100000 in
set_option maxHeartbeats 2000000 in
theorem back_it {w : World} {B : Nat} {a : Option Addr} {cap : Nat} {l : List PE} (hl : Sl E69 w a l) (hk2 : ∀ e ∈ l, e.k ≠ 2) (hn : l.length ≤ 1000000) (hB : w.heap[B]? = some (.cells #[.slice a l.length cap] 27)) : It2 w 4 210 #[.pointer (some ⟨B, 0, none⟩)] encB := by
  intro lp J W hbW hJ0 hY hJb
  obtain ⟨g, off, hg, hR⟩ := hl
  generalize hm : l.length = m at *
  have HM := hide hm
  have HK2 := hide hk2
  clear hk2
  have HG := hide hg
  have HR := hide hR
  have HB := hide hB
  have cB : W.cell? ⟨B, 0, none⟩ = some (.slice a m cap) := cell_of (hbW.row hB)
  have HY := hide hY
  have HJ0 := hide (And.intro hJ0 hbW)
  have hw : IntKind.i64.wrap ((m : Int) - 1) = (m : Int) - 1 := wrapI (by omega) (by omega)
  clear hm hg hR hB hY hJ0 hbW hJb
  refine callsIn_of_wp Tryz.func210 rfl trivial ?_
  simp only [Tryz.ntmps210, List.size_toArray, List.length_cons, List.length_nil, Nat.reduceAdd, Nat.reduceSub, Array.replicate_succ, Array.replicate_zero, List.push_toArray, List.append_toArray, List.nil_append, List.cons_append]
  gi_wp2_with fail
  gi_loopw [3] (fun vi wr => ∃ k : Nat, k ≤ m ∧ vi = .int .i64 ((k : Int) - 1) ∧ Hid (J wr ∧ Bel w wr)) (fun vi _ => (intOf vi + 1).toNat)
  case atStart => exact ⟨m, Nat.le_refl _, rfl, HJ0⟩
  case round =>
    obtain ⟨k, hk, rfl, HJ⟩ := hrel
    by_cases h0 : k = 0
    · subst h0
      have hlt : ¬ ((0 : Int) ≤ ((0 : Nat) : Int) - 1) := by omega
      gi_wp2_with fail
      go_end0
      exact ⟨⟨_, rfl⟩, (unhide HJ).1, (unhide HJ).2⟩
    · obtain ⟨j, rfl⟩ : ∃ j, k = j + 1 := ⟨k - 1, by omega⟩
      have e1 : ((j + 1 : Nat) : Int) - 1 = j := by omega
      rw [e1]
      have hjl : j < l.length := by rw [unhide HM]; omega
      obtain rfl := (unhide HG) (by omega)
      have hjm : (j : Int) < m := by omega
      have cB2 : wr.cell? ⟨B, 0, none⟩ = some (.slice (some ⟨g, off, none⟩) m cap) := cell_of ((unhide HJ).2.row (unhide HB))
      obtain ⟨r0, r1, r2, r3⟩ := E69_cell (unhide HR) j hjl
      have r0 := (unhide HJ).2.cell r0
      have r1 := (unhide HJ).2.cell r1
      have r2 := (unhide HJ).2.cell r2
      have r3 := (unhide HJ).2.cell r3
      have hx2 := (unhide HK2) l[j] (List.getElem_mem hjl)
      generalize l[j] = x at *
      obtain ⟨yfn, ytm, yas, ybd, hyr, hyR⟩ := (unhide HY) (j, ⟨x, hx2⟩) wr (unhide HJ).1 (unhide HJ).2
      have hyr' : (Instr.yield lp #[.int .i64 j, .agg #[.int .u64 x.t, .int .u8 x.k, .string x.d, .slice none 0 0]]).run Tryz.prog wr = .ok (.round lp yfn ytm yas ybd) wr := hyr
      have HYR := hide hyR
      have hw2 : IntKind.i64.wrap ((j : Int) - 1) = (j : Int) - 1 := wrapI (by omega) (by omega)
      have hge : (0 : Int) ≤ j := by omega
      clear hyr hyR
      gi_wp2_with fail
      refine (unhide HYR).mono ?_
      rintro e w4 ⟨rfl, hj4, hb4⟩
      have HJ4 := hide (And.intro hj4 hb4)
      clear hj4 hb4
      gi_wp2
      go_roundw
      case rel => exact ⟨j, by omega, by go_num, HJ4⟩
      case measure => simp [intOf]
theorem Tryz.size69 (t : PE) : (Tryz.prog.info? 53).map (·.size) = some (encE t).toArray.size := by kernel_rfl
theorem En65 : En 210 := fun _ _ => by kernel_rfl
set_option maxRecDepth 100000 in
theorem backward_any (a : Option Addr) (m cap : Nat) (W : World) : Calls Tryz.prog 175 #[.slice a m cap] W fun e w' => ∃ b, e = .returned (.func (.func 210) #[] #[.pointer (some ⟨b, 0, none⟩)]) ∧ w'.heap[b]? = some (.cells #[.slice a m cap] 27) ∧ Bel W w' := by
  go_enter Tryz.func175, Tryz.ntmps175
  go_wp2_with fail
  go_ret
  exact ⟨_, rfl, at_new W _, (Bel.refl W).alloc _⟩
set_option maxRecDepth 100000 in
set_option maxHeartbeats 2000000 in
theorem members_any {W : World} {n : Nat} {s : PP} {x : Px} (h : Sl E69 W x.aL s.log) (hk2 : ∀ e ∈ s.log, e.k ≠ 2) (hl : s.log.length ≤ 1000000) (hcap : s.log.length ≤ x.cL) : Calls Tryz.prog 133 #[.agg (pc n s x), .int .i64 s.log.length] W fun e w' => e = .returned (.slice x.aB n x.cB) ∧ Bel W w' := by
  have HB := hide (backward_any x.aL s.log.length x.cL)
  have HI : Hid (∀ w b, Bel W w → w.heap[b]? = some (.cells #[.slice x.aL s.log.length x.cL] 27) → It2 w 4 210 #[.pointer (some ⟨b, 0, none⟩)] encB) := hide (fun w b hb hB => back_it (h.bel hb) hk2 hl hB)
  have HA : Hid (s.log.length ≠ 0 → ∃ g off, x.aL = some ⟨g, off, none⟩) := hide (fun h0 => by obtain ⟨g, off, h1, _⟩ := h; exact ⟨g, off, h1 h0⟩)
  refine (callsIn_wide (n := 5)).1 ?_
  refine callsIn_of_wp_marks Tryz.func133 rfl trivial ?_ rfl
  simp only [Tryz.ntmps133, List.size_toArray, List.length_cons, List.length_nil, Nat.reduceAdd, Nat.reduceSub, Array.replicate_succ, Array.replicate_zero, List.push_toArray, List.append_toArray, List.nil_append, List.cons_append]
  clear h hk2
  unfold pc
  generalize s.log.length = m at *
  have hm1 : (m : Int) ≤ x.cL := by omega
  have hm0 : (0 : Int) ≤ m := by omega
  generalize x.aL = aL at *
  generalize x.aB = aB at *
  generalize x.cL = cL at *
  generalize x.cB = cB at *
  gi_wp2_with (first
    | (refine ⟨trivial, ?_⟩; gi_at_call 175; refine (callsIn_wide.2 ((unhide HB) _)).mono ?_; rintro e w1 ⟨b1, rfl, hb1, hbel1⟩; have HW1 := hide (And.intro hb1 hbel1); clear hb1 hbel1))
  have hrP : w1.heap[W.heap.size]? = some (.cells #[.int .i64 s.id, .slice x.aM n x.cM, .int .u64 s.term, .int .i64 s.vote, .int .u8 s.role, .int .i64 s.lead, .int .u64 0, .int .u64 0, .slice aB n cB, .string ⟨#[]⟩, .slice aL m cL, .int .u64 s.commit, .int .i64 s.idle, .int .i64 s.wait, .slice x.aV s.votes.length x.cV, .slice x.aF s.fol.length x.cF, .int .u64 0, .slice x.aR 0 x.cR] 31) := (unhide HW1).2.row (((Bel.refl _).alloc _).row (at_new W _))
  have hrR : w1.heap[W.heap.size + 1]? = some (.cells #[.slice none 0 0] 22) := (unhide HW1).2.row (at_new2 W _ _)
  have HB1 : Hid (Bel W w1) := hide ((((Bel.refl W).alloc _).alloc _).trans (unhide HW1).2)
  have HRP := hide hrP
  have HRR := hide hrR
  generalize hbP : W.heap.size = bP at *
  have HBP := hide hbP
  clear hrP hrR hbP
  generalize hAA : ({ tmps := _, defers := [] } : Act) = AA
  subst hAA
  refine rangeBel (ps := #[12, 13]) (encs := encB) (by decide) rfl En65 (fun _ => rfl) ((unhide HI) w1 b1 (unhide HB1) (unhide HW1).1) (fun y a' A => ∃ b6 u5, a' = { tmps := #[.agg #[.int .i64 s.id, .slice x.aM n x.cM, .int .u64 s.term, .int .i64 s.vote, .int .u8 s.role, .int .i64 s.lead, .int .u64 0, .int .u64 0, .slice aB n cB, .string ⟨#[]⟩, .slice aL m cL, .int .u64 s.commit, .int .i64 s.idle, .int .i64 s.wait, .slice x.aV s.votes.length x.cV, .slice x.aF s.fol.length x.cF, .int .u64 0, .slice x.aR 0 x.cR], .int .i64 m, .pointer (some ⟨bP, 0, none⟩), undef, .pointer (some ⟨bP + 1, 0, none⟩), u5, .pointer (some ⟨b6, 0, none⟩), .pointer (some ⟨bP, 10, none⟩), .slice aL m cL, .int .i64 m, .slice aL m cL, .func (.func 210) #[] #[.pointer (some ⟨b1, 0, none⟩)], .int .i64 y.1, .agg (encE y.2.1).toArray, undef, undef, undef, undef, undef, undef, undef], defers := [] } ∧ A.heap[b6]? = some (.cells (encE y.2.1).toArray 53)) ?hAx ?hassign ?hbody ?hdone
  case hAx =>
    rintro y a' A r o o' ⟨b6, u5, rfl, hn⟩ hr ho hc
    refine ⟨b6, u5, rfl, (World.putObj_heap_other (fun e => ?_)).trans hn⟩
    subst e
    rw [hn] at ho
    cases ho
    simp [Obj.isCells] at hc
  case hassign =>
    rintro l ⟨i, t, ht2⟩ A K hb hK
    have hfin := hK { tmps := #[.agg #[.int .i64 s.id, .slice x.aM n x.cM, .int .u64 s.term, .int .i64 s.vote, .int .u8 s.role, .int .i64 s.lead, .int .u64 0, .int .u64 0, .slice aB n cB, .string ⟨#[]⟩, .slice aL m cL, .int .u64 s.commit, .int .i64 s.idle, .int .i64 s.wait, .slice x.aV s.votes.length x.cV, .slice x.aF s.fol.length x.cF, .int .u64 0, .slice x.aR 0 x.cR], .int .i64 m, .pointer (some ⟨bP, 0, none⟩), undef, .pointer (some ⟨bP + 1, 0, none⟩), undef, .pointer (some ⟨A.heap.size, 0, none⟩), .pointer (some ⟨bP, 10, none⟩), .slice aL m cL, .int .i64 m, .slice aL m cL, .func (.func 210) #[] #[.pointer (some ⟨b1, 0, none⟩)], .int .i64 i, .agg (encE t).toArray, undef, undef, undef, undef, undef, undef, undef], defers := [] } (A.alloc (.cells (encE t).toArray 53)) ((Bel.refl _).alloc _) ⟨_, _, rfl, at_new A _⟩
    have HF := hide hfin
    clear hfin hK
    unfold encE encB at *
    simp only [encE] at *
    gi_wp2_with fail
    exact HF.out
  case hbody =>
    rintro l ⟨i, t, ht2⟩ a' A hb ⟨b6, u5, rfl, hn⟩
    have c1 : A.cell? ⟨b6, 1, none⟩ = some (.int .u8 t.k) := cell_of hn
    have c2 : (t.k == 2) = false := beq_eq_false_iff_ne.2 ht2
    clear hn hb
    gi_wp2_with fail
    exact Bel.refl _
  case hdone =>
    intro D W2 hD hb2 hK
    have c8 : W2.cell? ⟨bP, 8, none⟩ = some (.slice aB n cB) := cell_of (hb2.row (unhide HRP))
    have cR : W2.cell? ⟨bP + 1, 0, none⟩ = some (.slice none 0 0) := cell_of (hb2.row (unhide HRR))
    have fR := free_row (p := 0) (hb2.row (unhide HRR))
    have hD1 : bP + 1 < w1.heap.size := lt_of_some (unhide HRR)
    have hrR2 := hb2.row (unhide HRR)
    have hset : Ch (fun i => i = bP + 1) W2 (W2.setCell ⟨bP + 1, 0, none⟩ (.slice aB n cB)) := Ch.set (ad := ⟨bP + 1, 0, none⟩) (Ch.refl (fun i => i = bP + 1) W2) (Or.inl rfl) _
    have hr3 := row_set (p := 0) (v := .slice aB n cB) hrR2
    have hK3 : (W2.setCell ⟨bP + 1, 0, none⟩ (.slice aB n cB)).heap[D]? = some (.deferred (some [])) := hset.row hK (by omega)
    have hc4 : ((W2.setCell ⟨bP + 1, 0, none⟩ (.slice aB n cB)).putObj D (.deferred none)).cell? ⟨bP + 1, 0, none⟩ = some (.slice aB n cB) := cell_of ((World.putObj_heap_other (by omega)).trans hr3)
    have hb4 : Bel W ((W2.setCell ⟨bP + 1, 0, none⟩ (.slice aB n cB)).putObj D (.deferred none)) := bel_off (bel_off ((unhide HB1).trans hb2) hset (by have := unhide HBP; omega)) (ch_put _ _ _) (by have := unhide HBP; omega)
    have HK := hide (And.intro hK3 (And.intro hc4 hb4))
    clear hb2 hK hset hr3 hK3 hc4 hb4 hD1 hrR2
    gi_wp2_with fail
    obtain ⟨hK3, hc4, hb4⟩ := HK.out
    refine ⟨by simp, .inl ⟨_, _, rfl, run_takeDeferred hK3, ?_⟩⟩
    refine ⟨.slice aB n cB, ?_, rfl, hb4⟩
    simp [results, Tryz.f133, go_sem, hc4]
end Go.Proofs.YthekbhliokcpcaaGreat
