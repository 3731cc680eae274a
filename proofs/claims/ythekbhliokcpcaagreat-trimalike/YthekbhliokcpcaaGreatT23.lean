/- Entries are joined to the log of any member. -/
import Derived.Test.YthekbhliokcpcaaGreatT22
import Derived.Test.YthekbhliokcpcaaGreatT10
namespace Go.Proofs.YthekbhliokcpcaaGreat
open Go.RowKit Go.Maps Go.Sort
theorem mtG_next (s : GP) : ∀ (l : List GE) (bh : Int) (k : Nat) (hk : k < l.length), k ≤ mtG s bh l → (s.tAt (bh + k + 1) = some l[k].t → k + 1 ≤ mtG s bh l) ∧ (s.tAt (bh + k + 1) ≠ some l[k].t → mtG s bh l = k)
 | [], _, _, hk, _ => by simp at hk
 | e :: l, bh, 0, _, _ => by
  have e0 : bh + ((0 : Nat) : Int) + 1 = bh + 1 := by omega
  have em : mtG s bh (e :: l) = if s.tAt (bh + 1) = some e.t then mtG s (bh + 1) l + 1 else 0 := rfl
  rw [e0, em]
  constructor
  ·intro h
   have h' : s.tAt (bh + 1) = some e.t := h
   rw [if_pos h']; omega
  ·intro h
   have h' : ¬ s.tAt (bh + 1) = some e.t := h
   rw [if_neg h']
 | e :: l, bh, k + 1, hk, hm => by
  have em : mtG s bh (e :: l) = if s.tAt (bh + 1) = some e.t then mtG s (bh + 1) l + 1 else 0 := rfl
  have h1 : s.tAt (bh + 1) = some e.t := Classical.byContradiction fun h => by rw [em, if_neg h] at hm; omega
  rw [em, if_pos h1] at hm ⊢
  have ih := mtG_next s l (bh + 1) k (by simpa using hk) (by omega)
  rw [show bh + 1 + (k : Int) + 1 = bh + ((k + 1 : Nat) : Int) + 1 by omega] at ih
  exact ⟨fun h => by have := ih.1 (by simpa using h); omega, fun h => by have := ih.2 (by simpa using h); omega⟩
theorem mtG_le (s : GP) : ∀ (l : List GE) (bh : Int), mtG s bh l ≤ l.length
 | [], _ => Nat.le_refl _
 | e :: l, bh => by
  have em : mtG s bh (e :: l) = if s.tAt (bh + 1) = some e.t then mtG s (bh + 1) l + 1 else 0 := rfl
  have ih := mtG_le s l (bh + 1)
  rw [em]
  split
  ·simp only [List.length_cons]; omega
  ·exact Nat.zero_le _
theorem tAt_last {s : GP} {i : Int} {t : Int} (h : s.tAt i = some t) : s.base ≤ i ∧ i ≤ s.lastI := by
 unfold GP.tAt GP.upTo at h
 unfold GP.lastI
 by_cases hc : i < s.base ∨ (s.log.length : Int) < i - s.base
 ·rw [if_pos hc] at h; cases h
 ·omega
theorem mtG_last (s : GP) : ∀ (l : List GE) (bh : Int), bh ≤ s.lastI → bh + (mtG s bh l : Int) ≤ s.lastI
 | [], bh, h => by show bh + ((0 : Nat) : Int) ≤ _; omega
 | e :: l, bh, h => by
  have em : mtG s bh (e :: l) = if s.tAt (bh + 1) = some e.t then mtG s (bh + 1) l + 1 else 0 := rfl
  rw [em]
  split
  ·rename_i h1
   have := mtG_last s l (bh + 1) (tAt_last h1).2
   omega
  ·omega
theorem app_cutG {W : World} {ad : Option Addr} {L1 N : List (GE × GA)} {B c2 : Nat} {a2 : Option Addr} (h1 : Sl EG W ad L1) (hN : EG.O B W (.slice a2 N.length c2) N) (hn0 : 0 < N.length) (hb : L1.length + N.length ≤ 2000000) (ty : TypeId) :
  ∃ v' w', (Builtin.append_ #[27, 27] ty #[.slice ad L1.length L1.length, .slice a2 N.length c2]).run Tryz.prog W = .ok v' w' ∧ EG.O W.heap.size w' v' (L1 ++ N) ∧ Bel W w' := by
 obtain ⟨i0, hi, hz0, hz1, hz2⟩ := EG.info
 obtain ⟨aN, cN, gN, eN, hgN, hRN, _⟩ := hN.shape
 injection eN with e1 e2 e3
 subst e1 e3
 have haN := hgN (by omega)
 subst haN
 have hbb := EG.hb
 cases ad with
 | none =>
  have hL0 : L1 = [] := by
   obtain ⟨g, off, hg, _⟩ := h1
   cases L1 with
   | nil => rfl
   | cons x l => have := hg (by simp); cases this
  subst hL0
  obtain ⟨v', w', hrun, r1, r2, r3⟩ := El.run_app (E := EG) W W.heap.size (.slice none 0 0) [] N (El.O.nil _ _) (Nat.le_refl _) (some ⟨gN, 0, none⟩) gN 0 c2 (fun _ => rfl) hRN (by simp at hb ⊢; omega) ty
  exact ⟨v', w', hrun, r1, ((Bel.refl W).ch (fun _ => False)).grown r2 (fun k hk => by cases hk) |>.below (Nat.le_refl _) (fun _ h => h.elim)⟩
 | some b =>
  obtain ⟨g, off, hg, hR⟩ := h1
  have holds : ∀ j u, (EG.fl L1)[j]? = some u → W.cell? (b.add j) = some u := fun j u hj => by
   have hlen : L1.length ≠ 0 := fun e => by rw [List.eq_nil_of_length_eq_zero e] at hj; simp [El.fl] at hj
   have e := Option.some.inj (hg hlen)
   subst e
   rw [Addr.add_lit]
   exact hR.flat j u hj
  obtain ⟨v', w', hr, q1, q2⟩ := run_append_arg_grows (P := Tryz.prog) W 27 ty EG.e i0 EG.z EG.k EG.bytes EG.ht hi hz0 hz1 hz2 EG.hz EG.hk b L1.length L1.length (EG.fl L1) (EG.fl_len L1) holds ⟨gN, 0, none⟩ N.length c2 (EG.fl N) (EG.fl_len N) (fun j u hj => by rw [Addr.add_lit]; exact hRN.flat j u hj) (by omega) (by unfold maxLen; omega) (by
   have h1 : (L1.length + N.length) * EG.bytes ≤ 2000000 * 1000 := Nat.mul_le_mul hb hbb
   omega)
  refine ⟨v', w', hr, ?_, ((Bel.refl W).ch (fun _ => False)).grown q2 (fun k hk => by cases hk) |>.below (Nat.le_refl _) (fun _ h => h.elim)⟩
  unfold El.O
  rw [EG.fl_app, List.length_append]
  exact q1
theorem app_run27 {o : Oper} {a : Act} {w : World} (x y : Operand) (ho : o.op = .call { callee := .builtin .append, args := #[x, y], argTypes := #[27, 27] }) {v1 v2 v' : Value} {w' : World} (hs : a.eval x = v1) (hy : a.eval y = v2) (hrun : (Builtin.append_ #[27, 27] o.type #[v1, v2]).run Tryz.prog w = .ok v' w') : (execOp a.eval o).run Tryz.prog w = .ok (.value v') w' := by
 unfold execOp
 simp only [ho, resolve, invoke, builtin, Sem.run_bind, Sem.run_pure, Result.andThen_ok, List.map_toArray, List.map_cons, List.map_nil, hs, hy, hrun]
theorem fld_runG {o : Oper} {a : Act} {w : World} (t : TypeId) (x y : Operand) (ho : o.op = .store t x y) (b i : Nat) (v : Value) (hx : a.eval x = .pointer (some ⟨b, i, none⟩)) (hy : a.eval y = v) (hv : v.cells = #[v]) (hv1 : v.oneCell' = true) (cs : Array Value) (ty : TypeId) (hg : w.heap[b]? = some (.cells cs ty)) (hi : (Tryz.prog.info? t).map (·.size) = some 1) (hlt : i < cs.size) : (execOp a.eval o).run Tryz.prog w = .ok .skip (w.setRow b (cs.setIfInBounds i v)) := by
 have hrun := run_storeCells_at (P := Tryz.prog) b i ty [v] 0 cs w hg (by simp; omega) (fun u hu => by simp at hu; rw [hu]; exact hv1)
 have e : (cs.toList.take (i + 0) ++ [v] ++ cs.toList.drop (i + 0 + [v].length)).toArray = cs.setIfInBounds i v := by
  apply Array.ext'
  simp only [Array.toList_setIfInBounds, Nat.add_zero, List.length_cons, List.length_nil, Nat.zero_add]
  rw [List.set_eq_take_append_cons_drop, if_pos (by simpa using hlt)]
  simp
 rw [e] at hrun
 unfold execOp
 cases hq : Tryz.prog.info? t with
 | none => rw [hq] at hi; simp at hi
 | some j =>
  have hs : j.size = 1 := by rw [hq] at hi; simpa using hi
  have hrun2 : (storeVar t ⟨b, i, none⟩ v).run Tryz.prog w = .ok () (w.setRow b (cs.setIfInBounds i v)) := by
   simp [storeVar, sizeOf, typeInfo, hq, hv, hs, hrun]
  simp only [ho, hx, hy, Instr.storeAt, Instr.sureAddr, Sem.run_bind, Sem.run_pure, Result.andThen_ok, hrun2]
def JnR (W : World) (b b2 : Nat) (s : GP) (x : Px) (bh : Int) (l : List GE) (no : Nat) (vk : Value) (wr : World) : Prop := ∃ k : Nat, k ≤ no ∧ vk = .int .i64 k ∧ Hid (k ≤ mtG s bh l) ∧ Hid (TyG W wr b b2 s x)
theorem TyG.outG {W w w' : World} {b b2 : Nat} {s s' : GP} {x x' : Px} (h : TyG W w b b2 s x) (_ : w'.heap[b2]? = some (.cells (gc s' x') 31)) (hc : Ch (fun i => i = b2) w w') : Bel W w' := bel_off h.bel hc h.ge2
theorem SlGT.cut {W W' : World} {a5 : Option Addr} {LL LN : List (GE × GA)} {L' : List GE} {B n5 c5 : Nat} (h : ∀ y ∈ LL, SlT E3 W y.2.a y.1.m) (hn : ∀ y ∈ LN, SlT E3 W' y.2.a y.1.m) (hb : Bel W W') (hm : (LL ++ LN).map (·.1) = L') (ho : EG.O B W' (.slice a5 n5 c5) (LL ++ LN)) : SlGT W' a5 L' :=
 ⟨LL ++ LN, hm, SlT.of ho, fun y hy => by
  rcases List.mem_append.1 hy with hy | hy
  ·exact (h y hy).bel hb
  ·exact hn y hy⟩
section
variable {W : World} {s : GP} {x : Px}
set_option maxRecDepth 100000 in
set_option maxHeartbeats 8000000 in
theorem join_g (B0 : Nat) (hBS : B0 ≤ W.heap.size) (h : Gt W s x) (h0 : 0 ≤ s.base) (h62 : s.base ≤ 4611686018427387904) (hll : s.log.length ≤ 900000) (hcap : Lc B0 x s.log.length) (hlm : ∀ e ∈ s.log, e.m.length ≤ 17592186044416) (hBl : s.B.length ≤ 17592186044416) (bh : Int) (l : List GE) (L : List (GE × GA)) (a : Option Addr) (c : Nat) (hLl : L.map (·.1) = l) (hs : Sl EG W a L) (hGm : Gm W L) (hc : l.length ≤ c) (hbh : s.base ≤ bh ∧ bh ≤ s.lastI) (hl16 : l.length ≤ 16) (hl2 : ∀ e ∈ l, e.m.length ≤ 17592186044416) : Calls Tryz.prog 239 #[.agg (gc s x), .int .u64 bh, .slice a l.length c] W fun e w' => ∃ x', e = .returned (.tuple #[.agg (gc ((s.join bh l).getD s) x'), .bool (s.join bh l).isSome]) ∧ Gt w' ((s.join bh l).getD s) x' ∧ Lc B0 x' ((s.join bh l).getD s).log.length ∧ Bel W w' := by
 have hI : s.lastI = s.base + s.log.length := rfl
 have HT : Hid (∀ w1 i, Bel W w1 → 0 ≤ i ∧ i ≤ 18446744073709551615 → Calls Tryz.prog 74 #[.agg (gc s x), .int .u64 i] w1 fun e w' => e = .returned (.tuple #[.int .u64 ((s.tAt i).getD 0), .bool (s.tAt i).isSome]) ∧ Bel w1 w') := jd (fun w1 i hb hi => term_g (h.bel hb).l.sl i h0 hi (by omega))
 have HP := jd (aI h (aI hcap (aI hlm hBl)))
 have HB0 : Hid (0 ≤ s.base ∧ s.base ≤ 4611686018427387904 ∧ s.log.length ≤ 900000 ∧ s.base ≤ bh ∧ bh ≤ s.base + s.log.length ∧ l.length ≤ 16 ∧ l.length ≤ c) := jd ⟨h0, h62, hll, hbh.1, by omega, hl16, hc⟩
 have HS := jd (aI hs (aI hGm hl2))
 have HLL := jd hLl
 have hLn : L.length = l.length := by rw [← hLl, List.length_map]
 have HLN := jd hLn
 have hbb : 0 ≤ bh ∧ bh ≤ 4611686018428287904 := by omega
 clear h h0 h62 hll hcap hlm hBl hLl hs hGm hbh hl2 hI hLn
 generalize hno : l.length = no at *
 have HNO := jd hno
 have hno16 : no ≤ 16 := hl16
 clear hno hc hl16
 go_enter Tryz.func239, Tryz.ntmps239
 go_wp2_with (first
  | go_skip
  | go_guarded
  | (refine bx_boxK 31 (.tmp 0) (by exact rfl) (by exact rfl) (gc s x) (by exact rfl) ?_; intro b w0 hr0 hs0 hb0; have HR0 := jd hr0; have HBB := jd (aI hb0 hs0); clear hr0 hs0 hb0)
  | (refine bx_new rfl 31 rfl _ Tryz.zeroP ?_; intro b2 w1 hr1 hs1 hb1; have HY : Hid (TyG W w1 b b2 s x) := jd ⟨hb1.row (ju HR0), (ju HBB).1.trans hb1, ⟨_, _, hr1⟩, by have := (ju HBB).2; omega, by have := (ju HBB).1.size; omega, fun e => by have := lt_of_some (ju HR0); omega⟩; clear hr1 hs1 hb1 HR0 HBB))
 go_loopw [18] (JnR W b b2 s x bh l no) (fun vk _ => no - (intOf vk).toNat)
 case atStart => exact ⟨0, Nat.zero_le _, rfl, jd (Nat.zero_le _), HY⟩
 case round =>
  obtain ⟨k, hk, rfl, HM, HY⟩ := hrel
  by_cases hlt : k < no
  ·have hkn : (k : Int) < no := by omega
   have hkl : k < l.length := by rw [ju HNO]; exact hlt
   have hkL : k < L.length := by rw [ju HLN]; exact hlt
   have hLk : L[k].1 = l[k] := by
    have := ju HLL
    subst this
    rw [List.getElem_map]
   obtain ⟨gl, ol, hgl, hRW⟩ := (ju HS).1
   have hRl := hRW.bel (ju HY).bel
   have ea := hgl (by omega)
   obtain ⟨r0, r1, r2, r3⟩ := EG_cell hRl k hkL
   have hnx := mtG_next s l bh k hkl (ju HM)
   have hwk : IntKind.u64.wrap (k : Int) = (k : Int) := wrapU (by omega) (by omega)
   have hwb : IntKind.u64.wrap (bh + (k : Int)) = bh + (k : Int) := wrapU (by omega) (by omega)
   obtain ⟨i1, hi1⟩ : ∃ i1 : Int, i1 = bh + (k : Int) + 1 := ⟨_, rfl⟩
   have hwi : IntKind.u64.wrap (bh + (k : Int) + 1) = i1 := by rw [wrapU (by omega) (by omega)]; omega
   have HKL : Hid (bh + (k : Int) ≤ s.base + s.log.length) := jd (by have h1 := mtG_last s l bh (by have := ju HB0; show bh ≤ s.base + s.log.length; omega); have h2 := ju HM; have h3 : s.lastI = s.base + s.log.length := rfl; omega)
   rw [ea]
   have HGL : Hid (EG.R W gl ol L) := jd hRW
   have HTk : Hid (∀ w1, Bel W w1 → Calls Tryz.prog 74 #[.agg (gc s x), .int .u64 i1] w1 fun e w' => e = .returned (.tuple #[.int .u64 ((s.tAt i1).getD 0), .bool (s.tAt i1).isSome]) ∧ Bel w1 w') := jd (fun w1 hb => (ju HT) w1 i1 hb (by omega))
   rw [hLk] at r0 r1 r2 r3
   obtain ⟨te, hte⟩ : ∃ te, te = l[k].t := ⟨_, rfl⟩
   rw [← hte] at r0
   have hyes : s.tAt i1 = some te → k + 1 ≤ mtG s bh l := fun hh => hnx.1 (by rw [← hi1, hh, hte])
   have hnot : s.tAt i1 ≠ some te → mtG s bh l = k := fun hh => hnx.2 (by rw [← hi1, ← hte]; exact hh)
   have hek : l[mtG s bh l]? = some l[k] ∨ mtG s bh l ≠ k := by
    by_cases hq : mtG s bh l = k
    ·rw [hq]; exact Or.inl (List.getElem?_eq_getElem hkl)
    ·exact Or.inr hq
   generalize l[k].k = ke at *
   generalize l[k].d = de at *
   generalize L[k].2.a = ya at *
   generalize L[k].2.c = yc at *
   generalize l[k].m.length = yn at *
   clear hgl hRl hRW ea hnx hLk
   have hthr : (s.tAt i1 = some te ∧ (s.tAt i1).isSome = true ∧ ((s.tAt i1).getD 0 == te) = true) ∨ (s.tAt i1 ≠ some te ∧ ((s.tAt i1).isSome = false ∨ ((s.tAt i1).isSome = true ∧ ((s.tAt i1).getD 0 == te) = false))) := by
    cases hq : s.tAt i1 with
    | none => exact Or.inr ⟨fun h => (by cases h), Or.inl rfl⟩
    | some t0 =>
     by_cases ht0 : t0 = te
     ·exact Or.inl ⟨by rw [ht0], rfl, by simp [ht0]⟩
     ·exact Or.inr ⟨fun h => ht0 (Option.some.inj h), Or.inr ⟨rfl, by simp [ht0]⟩⟩
   have HC := jd (aI hyes hnot)
   have HEK := jd hek
   have HTE := jd hte
   have HI1 := jd hi1
   clear hyes hnot hek hte hi1
   generalize hti : (s.tAt i1).getD 0 = ti at *
   generalize hth : (s.tAt i1).isSome = th at *
   clear hti hth
   rcases hthr with ⟨hA, hB, heq⟩ | ⟨hA, hBC⟩
   ·subst hB
    have HM1 : Hid (k + 1 ≤ mtG s bh l) := jd ((ju HC).1 hA)
    clear hA HC HEK HTE HI1
    go_wp2_with (first
     | go_skip
     | (refine bx_ldK 31 _ (by exact rfl) b (by exact rfl) (by exact rfl) _ _ (((Bel.refl _).alloc _).row (ju HY).row) Tryz.underlying31 (zP s x) ?_)
     | (go_at_call 74; refine ((ju HTk) _ ((ju HY).bel.alloc _)).mono ?_; rintro e w3 ⟨rfl, hb3⟩; have HY3 := jd ((ju HY).next (((Bel.refl wr).alloc (.cells #[.int .u64 te, .int .u8 ke, .string de, .slice ya yn yc] 53)).trans hb3)); have z0 : w3.cell? ⟨wr.heap.size, 0, none⟩ = some (.int .u64 te) := cell_of (hb3.row (at_new wr (.cells #[.int .u64 te, .int .u8 ke, .string de, .slice ya yn yc] 53))); have y11 := (Bg.of (ju HY3).row).c11; have y7 := (Bg.of (ju HY3).row).c7; have y6 := (Bg.of (ju HY3).row).c6; clear hb3)
     | go_guarded)
    go_roundw
    case rel =>
     have hfin : ∀ v : Value, v = .int .i64 ((k + 1 : Nat) : Int) → JnR W b b2 s x bh l no v w3 := fun v hv => ⟨k + 1, by omega, hv, HM1, HY3⟩
     first
      | exact hfin _ (by go_num)
      | ((repeat apply Exists.intro); exact ⟨hfin _ (by go_num), rfl⟩)
    case measure => simp [intOf]; omega
   ·rcases hBC with hth | hth
    ·subst hth
     have hmk := (ju HC).2 hA
     have hek : l[mtG s bh l]? = some l[k] := (ju HEK).elim id (fun hq => absurd hmk hq)
     have hcut : i1 ≤ s.commit ∨ te < s.baseT → s.join bh l = none := fun hq => by
      unfold GP.join
      rw [hek]
      show (if bh + (mtG s bh l : Int) + 1 ≤ s.commit ∨ l[k].t < s.baseT then none else some (s.withL (s.joinL bh l))) = none
      rw [hmk, if_pos (by rw [← ju HTE]; have := ju HI1; omega)]
     by_cases hc1 : i1 ≤ s.commit
     ·have hd1 : decide (i1 ≤ s.commit) = true := decide_eq_true hc1
      have HJ := jd (hcut (Or.inl hc1))
      clear hA hmk hek hcut hc1 HC HEK HTE HI1
      go_wp2_with (first
       | go_skip
       | (refine bx_ldK 31 _ (by exact rfl) b (by exact rfl) (by exact rfl) _ _ (((Bel.refl _).alloc _).row (ju HY).row) Tryz.underlying31 (zP s x) ?_)
       | (refine bx_ldK 31 _ (by exact rfl) b (by exact rfl) (by exact rfl) _ _ (ju HY3).row Tryz.underlying31 (zP s x) ?_)
       | (go_at_call 74; refine ((ju HTk) _ ((ju HY).bel.alloc _)).mono ?_; rintro e w3 ⟨rfl, hb3⟩; have HY3 := jd ((ju HY).next (((Bel.refl wr).alloc (.cells #[.int .u64 te, .int .u8 ke, .string de, .slice ya yn yc] 53)).trans hb3)); have z0 : w3.cell? ⟨wr.heap.size, 0, none⟩ = some (.int .u64 te) := cell_of (hb3.row (at_new wr (.cells #[.int .u64 te, .int .u8 ke, .string de, .slice ya yn yc] 53))); have y11 := (Bg.of (ju HY3).row).c11; have y7 := (Bg.of (ju HY3).row).c7; have y6 := (Bg.of (ju HY3).row).c6; clear hb3)
       | go_guarded
       | (obtain ⟨s2, x2, h2⟩ := (ju HY3).row2; refine bx_st rfl 31 _ _ rfl b2 (gc s x) _ rfl rfl h2 (zP _ _) rfl (gc_one _ _) ?_; intro w9 hr9 hc9; have HR9 := jd (aI hr9 (aI ((ju HY3).outG hr9 hc9) (((ju HP).1.bel (ju HY3).bel).box h2 hc9))); clear hr9 hc9 h2))
      rw [ju HJ]
      exact bodyPost_ret (res2 (p := 6) (q := 7) rfl Tryz.underlying31 (zP _ _) (ju HR9).1 _ _ rfl rfl) rfl ⟨_, rfl, (ju HR9).2.2, (ju HP).2.1, (ju HR9).2.1⟩
     ·have hd1 : decide (i1 ≤ s.commit) = false := decide_eq_false hc1
      by_cases hc2 : te < s.baseT
      ·have hd2 : decide (te < s.baseT) = true := decide_eq_true hc2
       have HJ := jd (hcut (Or.inr hc2))
       clear hA hmk hek hcut hc1 hc2 HC HEK HTE HI1
       go_wp2_with (first
        | go_skip
        | (refine bx_ldK 31 _ (by exact rfl) b (by exact rfl) (by exact rfl) _ _ (((Bel.refl _).alloc _).row (ju HY).row) Tryz.underlying31 (zP s x) ?_)
        | (refine bx_ldK 31 _ (by exact rfl) b (by exact rfl) (by exact rfl) _ _ (ju HY3).row Tryz.underlying31 (zP s x) ?_)
        | (go_at_call 74; refine ((ju HTk) _ ((ju HY).bel.alloc _)).mono ?_; rintro e w3 ⟨rfl, hb3⟩; have HY3 := jd ((ju HY).next (((Bel.refl wr).alloc (.cells #[.int .u64 te, .int .u8 ke, .string de, .slice ya yn yc] 53)).trans hb3)); have z0 : w3.cell? ⟨wr.heap.size, 0, none⟩ = some (.int .u64 te) := cell_of (hb3.row (at_new wr (.cells #[.int .u64 te, .int .u8 ke, .string de, .slice ya yn yc] 53))); have y11 := (Bg.of (ju HY3).row).c11; have y7 := (Bg.of (ju HY3).row).c7; have y6 := (Bg.of (ju HY3).row).c6; clear hb3)
        | go_guarded
        | (obtain ⟨s2, x2, h2⟩ := (ju HY3).row2; refine bx_st rfl 31 _ _ rfl b2 (gc s x) _ rfl rfl h2 (zP _ _) rfl (gc_one _ _) ?_; intro w9 hr9 hc9; have HR9 := jd (aI hr9 (aI ((ju HY3).outG hr9 hc9) (((ju HP).1.bel (ju HY3).bel).box h2 hc9))); clear hr9 hc9 h2))
       rw [ju HJ]
       exact bodyPost_ret (res2 (p := 6) (q := 7) rfl Tryz.underlying31 (zP _ _) (ju HR9).1 _ _ rfl rfl) rfl ⟨_, rfl, (ju HR9).2.2, (ju HP).2.1, (ju HR9).2.1⟩
      ·have hd2 : decide (te < s.baseT) = false := decide_eq_false hc2
       obtain ⟨st, hst⟩ : ∃ st : Nat, st = (bh + (k : Int) - s.base).toNat := ⟨_, rfl⟩
       have hbq := ju HB0
       have HST : Hid (st = (bh + (k : Int) - s.base).toNat ∧ s.base + st = bh + k ∧ i1 = bh + k + 1) := jd ⟨hst, by omega, ju HI1⟩
       obtain ⟨L', hL'⟩ : ∃ L', L' = s.log.take st ++ l.drop k := ⟨_, rfl⟩
       have hj : s.join bh l = some (s.withL L') := by
        unfold GP.join
        rw [hek]
        show (if bh + (mtG s bh l : Int) + 1 ≤ s.commit ∨ l[k].t < s.baseT then none else some (s.withL (s.joinL bh l))) = _
        rw [hmk, if_neg (by rw [← ju HTE]; have := ju HI1; omega)]
        unfold GP.joinL
        rw [hmk, ← hst, hL']
       have HJ := jd hj
       have HL' := jd hL'
       have HLB : Hid (L'.length ≤ 1000000 ∧ ∀ e ∈ L', e.m.length ≤ 17592186044416) := jd ⟨by rw [hL', List.length_append, List.length_take, List.length_drop, ju HNO]; omega, fun e he => by
        rw [hL'] at he
        rcases List.mem_append.1 he with he | he
        ·exact (ju HP).2.2.1 e (List.mem_of_mem_take he)
        ·exact (ju HS).2.2 e (List.mem_of_mem_drop he)⟩
       have hw7 : IntKind.u64.wrap (i1 - s.base) = i1 - s.base := by have := ju HI1; exact wrapU (by omega) (by omega)
       have hw8 : IntKind.u64.wrap (i1 - s.base - 1) = (st : Int) := by have := ju HI1; rw [wrapU (by omega) (by omega)]; omega
       clear hA hmk hek hcut hc1 hc2 HC HEK HTE HI1 hst hL' hj hbq
       go_wp2_with (first
        | go_skip
        | (refine bx_ldK 31 _ (by exact rfl) b (by exact rfl) (by exact rfl) _ _ (((Bel.refl _).alloc _).row (ju HY).row) Tryz.underlying31 (zP s x) ?_)
        | (go_at_call 74; refine ((ju HTk) _ ((ju HY).bel.alloc _)).mono ?_; rintro e w3 ⟨rfl, hb3⟩; have HY3 := jd ((ju HY).next (((Bel.refl wr).alloc (.cells #[.int .u64 te, .int .u8 ke, .string de, .slice ya yn yc] 53)).trans hb3)); have z0 : w3.cell? ⟨wr.heap.size, 0, none⟩ = some (.int .u64 te) := cell_of (hb3.row (at_new wr (.cells #[.int .u64 te, .int .u8 ke, .string de, .slice ya yn yc] 53))); have y11 := (Bg.of (ju HY3).row).c11; have y7 := (Bg.of (ju HY3).row).c7; have y6 := (Bg.of (ju HY3).row).c6; clear hb3)
        | go_guarded)
       have hZd := (ju HY3).next (Bel.refl w3).drew
       have HZd := jd hZd
       have hst0 : st ≤ s.log.length := by have := ju HST; have := ju HKL; have := ju HB0; omega
       have hstc : st ≤ x.cL := Nat.le_trans hst0 (ju HP).2.1.1
       have hkc : k < c := by have := ju HB0; omega
       have hnc : no ≤ c := (ju HB0).2.2.2.2.2.2
       clear HY3 HY HTk z0 y11 y7 y6
       refine wp_region_held_drew (S := fun _ => True) Tryz.follows trivial (fun _ => ?_)
       clear hZd
       generalize w3.drew = wd at *
       refine any_take (i := 0) (v := .pointer (some ⟨b, 10, none⟩)) rfl (by kernel_rfl) (fun _ _ _ h => h) rfl trivial (fun w _ => by go_simp) ?_
       refine any_take (i := 2) (v := .int .u64 (st : Int)) rfl (by kernel_rfl) (fun _ _ _ h => h) rfl trivial (fun w _ => by go_simp) ?_
       refine any_take (i := 3) (v := .int .u64 (st : Int)) rfl (by kernel_rfl) (fun _ _ _ h => h) rfl trivial (fun w _ => by go_simp) ?_
       refine any_take (i := 5) (v := .slice (some ⟨gl, ol, none⟩) no c) rfl (by kernel_rfl) (fun _ _ _ h => h) rfl trivial (fun w _ => by go_simp) ?_
       refine any_take (i := 6) (v := .int .i64 (k : Int)) rfl (by kernel_rfl) (fun _ _ _ h => h) rfl trivial (fun w _ => by go_simp) ?_
       refine any_take (i := 7) (v := .slice (some ⟨gl, ol + k * 4, none⟩) (no - k) (c - k)) rfl (by kernel_rfl) (fun _ _ _ h => h) rfl trivial (fun w _ => by go_simp; intro e; omega) ?_
       have hRk : EG.R wd gl ol L := (ju HGL).bel (ju HZd).bel
       have hEnt := entries_g (W := wd) (a := some ⟨gl, ol + k * 4, none⟩) (n := no - k) (cap := c - k) (L := L.drop k) (by rw [List.length_drop, ju HLN]) ⟨gl, ol + k * 4, fun _ => rfl, hRk.drop k⟩ (fun y hy => ((ju HS).2.1 y (List.mem_of_mem_drop hy)).bel (ju HZd).bel) (by omega) (fun y hy => (ju HS).2.2 y.1 (by rw [← ju HLL]; exact List.mem_map.2 ⟨y, List.mem_of_mem_drop hy, rfl⟩))
       clear hRk
       have y10 := (Bg.of (ju HZd).row).c10
       obtain ⟨LG, hLG, hLS, hLo⟩ := (ju HP).1.l
       have hLGn : LG.length = s.log.length := by rw [← hLG, List.length_map]
       have hLL : (LG.take st).length = st := by simp; omega
       have HLo := jd (aI hLS hLo)
       have HL2 : Hid (∀ LN : List (GE × GA), LN.map (·.1) = (L.drop k).map (·.1) → (LG.take st ++ LN).map (·.1) = L') := jd (fun LN hq => by
        rw [ju HL', List.map_append, hq, List.map_take, hLG, List.map_drop, ju HLL, (ju HST).1])
       have HL3 : Hid (LG.length = s.log.length ∧ (LG.take st).length = st) := jd ⟨hLGn, hLL⟩
       clear hLG hLS hLo hLGn hLL
       have HAP : Hid (∀ w4 a4 c4 LN, Bel wd w4 → LN.map (·.1) = (L.drop k).map (·.1) → EG.O wd.heap.size w4 (.slice a4 (no - k) c4) LN → (∀ y ∈ LN, E3.O wd.heap.size w4 (.slice y.2.a y.1.m.length y.2.c) y.1.m) → ∃ a5 c5 w5, (∀ ty, (Builtin.append_ #[27, 27] ty #[.slice x.aL st st, .slice a4 (no - k) c4]).run Tryz.prog w4 = .ok (.slice a5 L'.length c5) w5) ∧ SlGT w5 a5 L' ∧ (L'.length ≤ c5 ∧ Nw B0 a5 L'.length) ∧ Bel w4 w5) := jd (by
        intro w4 a4 c4 LN hb4 hm4 ho4 hy4
        have hB4 := (ju HZd).bel.trans hb4
        have hLNn : LN.length = no - k := by
         have := congrArg List.length hm4
         rw [List.length_map, List.length_map, List.length_drop, ju HLN] at this
         exact this
        have hSl : Sl EG w4 x.aL (LG.take st) := by
         obtain ⟨g1, o1, q1, q2⟩ := ((ju HLo).1.bel hB4).1
         exact ⟨g1, o1, fun hq => q1 (by rw [(ju HL3).2] at hq; have h2 := (ju HL3).1; omega), q2.take st⟩
        obtain ⟨v5, w5, hrun5, ho5, hb5⟩ := app_cutG (ad := x.aL) (L1 := LG.take st) (N := LN) (a2 := a4) (c2 := c4) hSl (by rw [hLNn]; exact ho4) (by omega) (by have := ju HB0; rw [(ju HL3).2, hLNn]; omega) 27
        rw [(ju HL3).2, hLNn] at hrun5
        obtain ⟨a5, c5, g5, hv5, _, _, hc5⟩ := ho5.shape
        have hL5 : (LG.take st ++ LN).length = L'.length := by have := congrArg List.length ((ju HL2) LN hm4); rwa [List.length_map] at this
        subst hv5
        rw [hL5] at ho5 hrun5
        exact ⟨a5, c5, w5, fun ty => by rw [← hrun5]; rfl, SlGT.cut (fun y hy => ((ju HLo).2 y (List.mem_of_mem_take hy)).bel hB4) (fun y hy => SlT.of ((hy4 y hy).bel hb5)) hb5 ((ju HL2) LN hm4) ho5, ⟨by rw [← hL5]; exact (Sl.of ho5).2.2, ho5.nw (Nat.le_trans hBS hB4.size)⟩, hb5⟩)
       refine any_vc (i := 1) (j := 8) (v := .slice x.aL s.log.length x.cL) (by kernel_rfl) rfl rfl rfl rfl (by go_simp) (by go_simp) hEnt ⟨trivial, ?_⟩ ?_
       ·clear y10
        refine any_take (i := 4) (v := .slice x.aL st st) rfl (by kernel_rfl) (fun _ _ _ h => h) rfl trivial (fun w _ => by go_simp) ?_
        refine any_call (i := 8) (R := fun e w' => ∃ a' c' L', e = .returned (.slice a' (no - k) c') ∧ L'.map (·.1) = (L.drop k).map (·.1) ∧ EG.O wd.heap.size w' (.slice a' (no - k) c') L' ∧ (∀ x ∈ L', E3.O wd.heap.size w' (.slice x.2.a x.1.m.length x.2.c) x.1.m) ∧ Bel wd w') (by kernel_rfl) rfl rfl (by go_simp) hEnt ?_
        rintro e w4 ⟨a4, c4, LN, rfl, hm4, ho4, hy4, hb4⟩
        refine ⟨_, rfl, trivial, ?_⟩
        have hZ4 := (ju HZd).next hb4
        obtain ⟨a5, c5, w5, hrun5, hg5, hc5, hb5⟩ := (ju HAP) w4 a4 c4 LN hb4 hm4 ho4 hy4
        refine any_do (i := 9) (v := .slice a5 L'.length c5) (w' := w5) (by kernel_rfl) rfl rfl (app_run27 (.tmp 62) (.tmp 66) (by exact rfl) (by go_simp) (by go_simp) (hrun5 _)) ⟨trivial, ?_⟩
        refine any_do (i := 10) (v := .pointer (some ⟨b, 10, none⟩)) (w' := w5) (by kernel_rfl) rfl rfl (by go_simp) ⟨trivial, ?_⟩
        have hZ5 := hZ4.next hb5
        refine any_skip (i := 11) (w' := w5.setRow b (gc { s with log := L' } { x with aL := a5, cL := c5 })) (by kernel_rfl) rfl rfl (fld_runG 27 (.tmp 68) (.tmp 67) (by exact rfl) b 10 (.slice a5 L'.length c5) (by go_simp) (by go_simp) rfl rfl (gc s x) 31 hZ5.row (by kernel_rfl) (by rw [gc_size]; decide)) ⟨trivial, ?_⟩
        refine wpAnyH_done (by kernel_rfl) ?_ _
        have hc6 := ch_row (c' := gc { s with log := L' } { x with aL := a5, cL := c5 }) hZ5.row
        have hTy6 := hZ5.set hc6.1 hc6.2
        have hG5 := (ju HP).1.bel hZ5.bel
        have hG6 : Gt (w5.setRow b (gc { s with log := L' } { x with aL := a5, cL := c5 })) { s with log := L' } { x with aL := a5, cL := c5 } := ⟨hG5.m.box hZ5.row (by decide) hc6.2, hG5.b.box hZ5.row (by decide) hc6.2, hg5.box hZ5.row (by decide) (by decide) hc6.2, hG5.v.box hZ5.row (by decide) hc6.2, hG5.f.box hZ5.row (by decide) hc6.2, hG5.r.box hZ5.row (by decide) (by decide) hc6.2⟩
        generalize w5.setRow b (gc { s with log := L' } { x with aL := a5, cL := c5 }) = w6 at *
        obtain ⟨s6, hs6⟩ : ∃ s6 : GP, s6 = { s with log := L' } := ⟨_, rfl⟩
        obtain ⟨x6, hx6⟩ : ∃ x6 : Px, x6 = { x with aL := a5, cL := c5 } := ⟨_, rfl⟩
        rw [← hs6, ← hx6] at hTy6 hG6
        have hl6 : s6.log = L' := by rw [hs6]
        have hcl6 : s6.log.length ≤ x6.cL := by rw [hl6, hx6]; exact hc5.1
        have hb6 : s6.base = s.base ∧ s6.B = s.B := by rw [hs6]; exact ⟨rfl, rfl⟩
        have hln6 : s6.log.length ≤ 1000000 := by rw [hl6]; exact (ju HLB).1
        have hme6 : ∀ e ∈ s6.log, e.m.length ≤ 17592186044416 := by rw [hl6]; exact (ju HLB).2
        have hm6 : s6.mAt s6.lastI = memOf s.B L' := by
         have eu : s6.upTo s6.lastI = some s6.log.length := by
          unfold GP.upTo GP.lastI
          rw [if_neg (by omega), show (s6.base + (s6.log.length : Int) - s6.base).toNat = s6.log.length by omega]
         unfold GP.mAt
         rw [eu]
         show memOf s6.B (s6.log.take s6.log.length) = _
         rw [List.take_length, hb6.2, hl6]
        have HLa : Hid (∀ w1, Gt w1 s6 x6 → Calls Tryz.prog 79 #[.agg (gc s6 x6)] w1 fun e w' => e = .returned (.tuple #[.int .u64 s6.lastI, .int .u64 s6.lastT]) ∧ Bel w1 w') := jd (fun w1 hg => last_g hg.l.sl (by rw [hb6.1]; exact (ju HB0).1) (by rw [hb6.1]; exact (ju HB0).2.1) hln6)
        have HMe : Hid (∀ w1, Gt w1 s6 x6 → Calls Tryz.prog 75 #[.agg (gc s6 x6), .int .u64 s6.lastI] w1 fun e w' => ∃ a' c', e = .returned (.slice a' (memOf s.B L').length c') ∧ SlT E3 w' a' (memOf s.B L') ∧ Bel w1 w') := jd (fun w1 hg => by
         have := membs_g hg.l.sl hg.b.1 s6.lastI (by rw [hb6.1]; exact (ju HB0).1) (by have h1 := (ju HB0).1; have h2 := (ju HB0).2.1; have h3 : s6.lastI = s6.base + s6.log.length := rfl; rw [hb6.1] at h3; omega) hln6 hcl6 (by rw [hb6.2]; exact (ju HP).2.2.2) hme6
         rw [hm6] at this
         exact this.mono (fun e w' ⟨a', c', he, ho, hb'⟩ => ⟨a', c', he, SlT.of ho, hb'⟩))
        have HY6 := jd hTy6
        have HG6 := jd (aI hG6 hcl6)
        have HE6 : Hid (∀ a8 c8, (gc s6 x6).setIfInBounds 1 (.slice a8 (memOf s.B L').length c8) = gc (s.withL L') { x6 with aM := a8, cM := c8 }) := jd (fun a8 c8 => by rw [hs6]; rfl)
        have HG7 : Hid (∀ w7 a8 c8, Gt w7 s6 x6 → SlT E3 w7 a8 (memOf s.B L') → Gt w7 (s.withL L') { x6 with aM := a8, cM := c8 }) := jd (fun w7 a8 c8 hg hm => by
         rw [hs6] at hg
         exact ⟨hm, hg.b, hg.l, hg.v, hg.f, hg.r⟩)
        have HC7 : Hid (Lc B0 x6 (s.withL L').log.length) := jd ⟨by rw [hs6] at hcl6; exact hcl6, by rw [hx6]; exact hc5.2⟩
        clear hc6 hTy6 hG5 hG6 hl6 hcl6 hb6 hln6 hme6 hm6 hs6 hx6 hrun5 hg5 hc5 hb5 hZ5 hZ4 ho4 hb4 hy4 hm4 hEnt HAP
        generalize memOf s.B L' = MB at *
        obtain ⟨sw, hsw⟩ : ∃ sw, sw = s.withL L' := ⟨_, rfl⟩
        rw [← hsw] at HE6 HG7 HC7 HJ
        clear hsw
        generalize s6.lastI = li at *
        simp [Act.put]
        go_wp2_with (first
         | go_skip
         | (refine bx_ldK 31 _ (by exact rfl) b (by exact rfl) (by exact rfl) _ _ (ju HY6).row Tryz.underlying31 (zP s6 x6) ?_)
         | (go_at_call 79; refine ((ju HLa) _ (ju HG6).1).mono ?_; rintro e w7 ⟨rfl, hb7⟩; replace HY6 := jd ((ju HY6).next hb7); replace HG6 := jd (aI ((ju HG6).1.bel hb7) (ju HG6).2); clear hb7 HLa)
         | (go_at_call 75; refine ((ju HMe) _ (ju HG6).1).mono ?_; rintro e w8 ⟨a8, c8, rfl, ho8, hb8⟩; have HO8 := jd ho8; replace HY6 := jd ((ju HY6).next hb8); replace HG6 := jd (aI ((ju HG6).1.bel hb8) (ju HG6).2); clear hb8 ho8 HMe)
         | (refine bx_set (by exact rfl) 22 (.tmp 77) (.tmp 76) (by exact rfl) b 1 (.slice a8 MB.length c8) (by exact rfl) (by exact rfl) (by exact rfl) (by exact rfl) (gc s6 x6) _ (ju HY6).row (by kernel_rfl) (by simp [gc]) ?_; intro w9 hr9 hc9; rw [(ju HE6) a8 c8] at hr9; have HGA := jd ((ju HG7) _ a8 c8 ((ju HG6).1.box (ju HY6).row hc9) ((ju HO8).box (ju HY6).row (by decide) hc9)); have HYA := jd ((ju HY6).set hr9 hc9); clear hr9 hc9 HY6 HG6 HO8)
         | go_guarded
         | (refine bx_ldK 31 _ (by exact rfl) b (by exact rfl) (by exact rfl) _ _ (ju HYA).row Tryz.underlying31 (zP sw { x6 with aM := a8, cM := c8 }) ?_)
         | (obtain ⟨s2, x2, h2⟩ := (ju HYA).row2; refine bx_st rfl 31 _ _ rfl b2 (gc sw { x6 with aM := a8, cM := c8 }) _ rfl rfl h2 (zP _ _) rfl (gc_one _ _) ?_; intro wA hrA hcA; have HRA := jd (aI hrA (aI ((ju HYA).outG hrA hcA) ((ju HGA).box h2 hcA))); clear hrA hcA h2))
        rw [ju HJ]
        exact bodyPost_ret (res2 (p := 6) (q := 7) rfl Tryz.underlying31 (zP _ _) (ju HRA).1 _ _ rfl rfl) rfl ⟨_, rfl, (ju HRA).2.2, ju HC7, (ju HRA).2.1⟩
       ·clear y10
        rintro e w4 ⟨a4, c4, LN, rfl, hm4, ho4, hy4, hb4⟩
        refine ⟨_, rfl, trivial, ?_⟩
        have y10 := (Bg.of ((ju HZd).next hb4).row).c10
        refine any_do (i := 1) (v := .slice x.aL s.log.length x.cL) (w' := w4) (by kernel_rfl) rfl rfl (by go_simp) ⟨trivial, ?_⟩
        clear y10
        refine any_do (i := 4) (v := .slice x.aL st st) (w' := w4) (by kernel_rfl) rfl rfl (by go_simp) ⟨trivial, ?_⟩
        have hZ4 := (ju HZd).next hb4
        obtain ⟨a5, c5, w5, hrun5, hg5, hc5, hb5⟩ := (ju HAP) w4 a4 c4 LN hb4 hm4 ho4 hy4
        refine any_do (i := 9) (v := .slice a5 L'.length c5) (w' := w5) (by kernel_rfl) rfl rfl (app_run27 (.tmp 62) (.tmp 66) (by exact rfl) (by go_simp) (by go_simp) (hrun5 _)) ⟨trivial, ?_⟩
        refine any_do (i := 10) (v := .pointer (some ⟨b, 10, none⟩)) (w' := w5) (by kernel_rfl) rfl rfl (by go_simp) ⟨trivial, ?_⟩
        have hZ5 := hZ4.next hb5
        refine any_skip (i := 11) (w' := w5.setRow b (gc { s with log := L' } { x with aL := a5, cL := c5 })) (by kernel_rfl) rfl rfl (fld_runG 27 (.tmp 68) (.tmp 67) (by exact rfl) b 10 (.slice a5 L'.length c5) (by go_simp) (by go_simp) rfl rfl (gc s x) 31 hZ5.row (by kernel_rfl) (by rw [gc_size]; decide)) ⟨trivial, ?_⟩
        refine wpAnyH_done (by kernel_rfl) ?_ _
        have hc6 := ch_row (c' := gc { s with log := L' } { x with aL := a5, cL := c5 }) hZ5.row
        have hTy6 := hZ5.set hc6.1 hc6.2
        have hG5 := (ju HP).1.bel hZ5.bel
        have hG6 : Gt (w5.setRow b (gc { s with log := L' } { x with aL := a5, cL := c5 })) { s with log := L' } { x with aL := a5, cL := c5 } := ⟨hG5.m.box hZ5.row (by decide) hc6.2, hG5.b.box hZ5.row (by decide) hc6.2, hg5.box hZ5.row (by decide) (by decide) hc6.2, hG5.v.box hZ5.row (by decide) hc6.2, hG5.f.box hZ5.row (by decide) hc6.2, hG5.r.box hZ5.row (by decide) (by decide) hc6.2⟩
        generalize w5.setRow b (gc { s with log := L' } { x with aL := a5, cL := c5 }) = w6 at *
        obtain ⟨s6, hs6⟩ : ∃ s6 : GP, s6 = { s with log := L' } := ⟨_, rfl⟩
        obtain ⟨x6, hx6⟩ : ∃ x6 : Px, x6 = { x with aL := a5, cL := c5 } := ⟨_, rfl⟩
        rw [← hs6, ← hx6] at hTy6 hG6
        have hl6 : s6.log = L' := by rw [hs6]
        have hcl6 : s6.log.length ≤ x6.cL := by rw [hl6, hx6]; exact hc5.1
        have hb6 : s6.base = s.base ∧ s6.B = s.B := by rw [hs6]; exact ⟨rfl, rfl⟩
        have hln6 : s6.log.length ≤ 1000000 := by rw [hl6]; exact (ju HLB).1
        have hme6 : ∀ e ∈ s6.log, e.m.length ≤ 17592186044416 := by rw [hl6]; exact (ju HLB).2
        have hm6 : s6.mAt s6.lastI = memOf s.B L' := by
         have eu : s6.upTo s6.lastI = some s6.log.length := by
          unfold GP.upTo GP.lastI
          rw [if_neg (by omega), show (s6.base + (s6.log.length : Int) - s6.base).toNat = s6.log.length by omega]
         unfold GP.mAt
         rw [eu]
         show memOf s6.B (s6.log.take s6.log.length) = _
         rw [List.take_length, hb6.2, hl6]
        have HLa : Hid (∀ w1, Gt w1 s6 x6 → Calls Tryz.prog 79 #[.agg (gc s6 x6)] w1 fun e w' => e = .returned (.tuple #[.int .u64 s6.lastI, .int .u64 s6.lastT]) ∧ Bel w1 w') := jd (fun w1 hg => last_g hg.l.sl (by rw [hb6.1]; exact (ju HB0).1) (by rw [hb6.1]; exact (ju HB0).2.1) hln6)
        have HMe : Hid (∀ w1, Gt w1 s6 x6 → Calls Tryz.prog 75 #[.agg (gc s6 x6), .int .u64 s6.lastI] w1 fun e w' => ∃ a' c', e = .returned (.slice a' (memOf s.B L').length c') ∧ SlT E3 w' a' (memOf s.B L') ∧ Bel w1 w') := jd (fun w1 hg => by
         have := membs_g hg.l.sl hg.b.1 s6.lastI (by rw [hb6.1]; exact (ju HB0).1) (by have h1 := (ju HB0).1; have h2 := (ju HB0).2.1; have h3 : s6.lastI = s6.base + s6.log.length := rfl; rw [hb6.1] at h3; omega) hln6 hcl6 (by rw [hb6.2]; exact (ju HP).2.2.2) hme6
         rw [hm6] at this
         exact this.mono (fun e w' ⟨a', c', he, ho, hb'⟩ => ⟨a', c', he, SlT.of ho, hb'⟩))
        have HY6 := jd hTy6
        have HG6 := jd (aI hG6 hcl6)
        have HE6 : Hid (∀ a8 c8, (gc s6 x6).setIfInBounds 1 (.slice a8 (memOf s.B L').length c8) = gc (s.withL L') { x6 with aM := a8, cM := c8 }) := jd (fun a8 c8 => by rw [hs6]; rfl)
        have HG7 : Hid (∀ w7 a8 c8, Gt w7 s6 x6 → SlT E3 w7 a8 (memOf s.B L') → Gt w7 (s.withL L') { x6 with aM := a8, cM := c8 }) := jd (fun w7 a8 c8 hg hm => by
         rw [hs6] at hg
         exact ⟨hm, hg.b, hg.l, hg.v, hg.f, hg.r⟩)
        have HC7 : Hid (Lc B0 x6 (s.withL L').log.length) := jd ⟨by rw [hs6] at hcl6; exact hcl6, by rw [hx6]; exact hc5.2⟩
        clear hc6 hTy6 hG5 hG6 hl6 hcl6 hb6 hln6 hme6 hm6 hs6 hx6 hrun5 hg5 hc5 hb5 hZ5 hZ4 ho4 hb4 hy4 hm4 hEnt HAP
        generalize memOf s.B L' = MB at *
        obtain ⟨sw, hsw⟩ : ∃ sw, sw = s.withL L' := ⟨_, rfl⟩
        rw [← hsw] at HE6 HG7 HC7 HJ
        clear hsw
        generalize s6.lastI = li at *
        simp [Act.put]
        go_wp2_with (first
         | go_skip
         | (refine bx_ldK 31 _ (by exact rfl) b (by exact rfl) (by exact rfl) _ _ (ju HY6).row Tryz.underlying31 (zP s6 x6) ?_)
         | (go_at_call 79; refine ((ju HLa) _ (ju HG6).1).mono ?_; rintro e w7 ⟨rfl, hb7⟩; replace HY6 := jd ((ju HY6).next hb7); replace HG6 := jd (aI ((ju HG6).1.bel hb7) (ju HG6).2); clear hb7 HLa)
         | (go_at_call 75; refine ((ju HMe) _ (ju HG6).1).mono ?_; rintro e w8 ⟨a8, c8, rfl, ho8, hb8⟩; have HO8 := jd ho8; replace HY6 := jd ((ju HY6).next hb8); replace HG6 := jd (aI ((ju HG6).1.bel hb8) (ju HG6).2); clear hb8 ho8 HMe)
         | (refine bx_set (by exact rfl) 22 (.tmp 77) (.tmp 76) (by exact rfl) b 1 (.slice a8 MB.length c8) (by exact rfl) (by exact rfl) (by exact rfl) (by exact rfl) (gc s6 x6) _ (ju HY6).row (by kernel_rfl) (by simp [gc]) ?_; intro w9 hr9 hc9; rw [(ju HE6) a8 c8] at hr9; have HGA := jd ((ju HG7) _ a8 c8 ((ju HG6).1.box (ju HY6).row hc9) ((ju HO8).box (ju HY6).row (by decide) hc9)); have HYA := jd ((ju HY6).set hr9 hc9); clear hr9 hc9 HY6 HG6 HO8)
         | go_guarded
         | (refine bx_ldK 31 _ (by exact rfl) b (by exact rfl) (by exact rfl) _ _ (ju HYA).row Tryz.underlying31 (zP sw { x6 with aM := a8, cM := c8 }) ?_)
         | (obtain ⟨s2, x2, h2⟩ := (ju HYA).row2; refine bx_st rfl 31 _ _ rfl b2 (gc sw { x6 with aM := a8, cM := c8 }) _ rfl rfl h2 (zP _ _) rfl (gc_one _ _) ?_; intro wA hrA hcA; have HRA := jd (aI hrA (aI ((ju HYA).outG hrA hcA) ((ju HGA).box h2 hcA))); clear hrA hcA h2))
        rw [ju HJ]
        exact bodyPost_ret (res2 (p := 6) (q := 7) rfl Tryz.underlying31 (zP _ _) (ju HRA).1 _ _ rfl rfl) rfl ⟨_, rfl, (ju HRA).2.2, ju HC7, (ju HRA).2.1⟩
    ·obtain ⟨hth, heq⟩ := hth
     subst hth
     have hmk := (ju HC).2 hA
     have hek : l[mtG s bh l]? = some l[k] := (ju HEK).elim id (fun hq => absurd hmk hq)
     have hcut : i1 ≤ s.commit ∨ te < s.baseT → s.join bh l = none := fun hq => by
      unfold GP.join
      rw [hek]
      show (if bh + (mtG s bh l : Int) + 1 ≤ s.commit ∨ l[k].t < s.baseT then none else some (s.withL (s.joinL bh l))) = none
      rw [hmk, if_pos (by rw [← ju HTE]; have := ju HI1; omega)]
     by_cases hc1 : i1 ≤ s.commit
     ·have hd1 : decide (i1 ≤ s.commit) = true := decide_eq_true hc1
      have HJ := jd (hcut (Or.inl hc1))
      clear hA hmk hek hcut hc1 HC HEK HTE HI1
      go_wp2_with (first
       | go_skip
       | (refine bx_ldK 31 _ (by exact rfl) b (by exact rfl) (by exact rfl) _ _ (((Bel.refl _).alloc _).row (ju HY).row) Tryz.underlying31 (zP s x) ?_)
       | (refine bx_ldK 31 _ (by exact rfl) b (by exact rfl) (by exact rfl) _ _ (ju HY3).row Tryz.underlying31 (zP s x) ?_)
       | (go_at_call 74; refine ((ju HTk) _ ((ju HY).bel.alloc _)).mono ?_; rintro e w3 ⟨rfl, hb3⟩; have HY3 := jd ((ju HY).next (((Bel.refl wr).alloc (.cells #[.int .u64 te, .int .u8 ke, .string de, .slice ya yn yc] 53)).trans hb3)); have z0 : w3.cell? ⟨wr.heap.size, 0, none⟩ = some (.int .u64 te) := cell_of (hb3.row (at_new wr (.cells #[.int .u64 te, .int .u8 ke, .string de, .slice ya yn yc] 53))); have y11 := (Bg.of (ju HY3).row).c11; have y7 := (Bg.of (ju HY3).row).c7; have y6 := (Bg.of (ju HY3).row).c6; clear hb3)
       | go_guarded
       | (obtain ⟨s2, x2, h2⟩ := (ju HY3).row2; refine bx_st rfl 31 _ _ rfl b2 (gc s x) _ rfl rfl h2 (zP _ _) rfl (gc_one _ _) ?_; intro w9 hr9 hc9; have HR9 := jd (aI hr9 (aI ((ju HY3).outG hr9 hc9) (((ju HP).1.bel (ju HY3).bel).box h2 hc9))); clear hr9 hc9 h2))
      rw [ju HJ]
      exact bodyPost_ret (res2 (p := 6) (q := 7) rfl Tryz.underlying31 (zP _ _) (ju HR9).1 _ _ rfl rfl) rfl ⟨_, rfl, (ju HR9).2.2, (ju HP).2.1, (ju HR9).2.1⟩
     ·have hd1 : decide (i1 ≤ s.commit) = false := decide_eq_false hc1
      by_cases hc2 : te < s.baseT
      ·have hd2 : decide (te < s.baseT) = true := decide_eq_true hc2
       have HJ := jd (hcut (Or.inr hc2))
       clear hA hmk hek hcut hc1 hc2 HC HEK HTE HI1
       go_wp2_with (first
        | go_skip
        | (refine bx_ldK 31 _ (by exact rfl) b (by exact rfl) (by exact rfl) _ _ (((Bel.refl _).alloc _).row (ju HY).row) Tryz.underlying31 (zP s x) ?_)
        | (refine bx_ldK 31 _ (by exact rfl) b (by exact rfl) (by exact rfl) _ _ (ju HY3).row Tryz.underlying31 (zP s x) ?_)
        | (go_at_call 74; refine ((ju HTk) _ ((ju HY).bel.alloc _)).mono ?_; rintro e w3 ⟨rfl, hb3⟩; have HY3 := jd ((ju HY).next (((Bel.refl wr).alloc (.cells #[.int .u64 te, .int .u8 ke, .string de, .slice ya yn yc] 53)).trans hb3)); have z0 : w3.cell? ⟨wr.heap.size, 0, none⟩ = some (.int .u64 te) := cell_of (hb3.row (at_new wr (.cells #[.int .u64 te, .int .u8 ke, .string de, .slice ya yn yc] 53))); have y11 := (Bg.of (ju HY3).row).c11; have y7 := (Bg.of (ju HY3).row).c7; have y6 := (Bg.of (ju HY3).row).c6; clear hb3)
        | go_guarded
        | (obtain ⟨s2, x2, h2⟩ := (ju HY3).row2; refine bx_st rfl 31 _ _ rfl b2 (gc s x) _ rfl rfl h2 (zP _ _) rfl (gc_one _ _) ?_; intro w9 hr9 hc9; have HR9 := jd (aI hr9 (aI ((ju HY3).outG hr9 hc9) (((ju HP).1.bel (ju HY3).bel).box h2 hc9))); clear hr9 hc9 h2))
       rw [ju HJ]
       exact bodyPost_ret (res2 (p := 6) (q := 7) rfl Tryz.underlying31 (zP _ _) (ju HR9).1 _ _ rfl rfl) rfl ⟨_, rfl, (ju HR9).2.2, (ju HP).2.1, (ju HR9).2.1⟩
      ·have hd2 : decide (te < s.baseT) = false := decide_eq_false hc2
       obtain ⟨st, hst⟩ : ∃ st : Nat, st = (bh + (k : Int) - s.base).toNat := ⟨_, rfl⟩
       have hbq := ju HB0
       have HST : Hid (st = (bh + (k : Int) - s.base).toNat ∧ s.base + st = bh + k ∧ i1 = bh + k + 1) := jd ⟨hst, by omega, ju HI1⟩
       obtain ⟨L', hL'⟩ : ∃ L', L' = s.log.take st ++ l.drop k := ⟨_, rfl⟩
       have hj : s.join bh l = some (s.withL L') := by
        unfold GP.join
        rw [hek]
        show (if bh + (mtG s bh l : Int) + 1 ≤ s.commit ∨ l[k].t < s.baseT then none else some (s.withL (s.joinL bh l))) = _
        rw [hmk, if_neg (by rw [← ju HTE]; have := ju HI1; omega)]
        unfold GP.joinL
        rw [hmk, ← hst, hL']
       have HJ := jd hj
       have HL' := jd hL'
       have HLB : Hid (L'.length ≤ 1000000 ∧ ∀ e ∈ L', e.m.length ≤ 17592186044416) := jd ⟨by rw [hL', List.length_append, List.length_take, List.length_drop, ju HNO]; omega, fun e he => by
        rw [hL'] at he
        rcases List.mem_append.1 he with he | he
        ·exact (ju HP).2.2.1 e (List.mem_of_mem_take he)
        ·exact (ju HS).2.2 e (List.mem_of_mem_drop he)⟩
       have hw7 : IntKind.u64.wrap (i1 - s.base) = i1 - s.base := by have := ju HI1; exact wrapU (by omega) (by omega)
       have hw8 : IntKind.u64.wrap (i1 - s.base - 1) = (st : Int) := by have := ju HI1; rw [wrapU (by omega) (by omega)]; omega
       clear hA hmk hek hcut hc1 hc2 HC HEK HTE HI1 hst hL' hj hbq
       go_wp2_with (first
        | go_skip
        | (refine bx_ldK 31 _ (by exact rfl) b (by exact rfl) (by exact rfl) _ _ (((Bel.refl _).alloc _).row (ju HY).row) Tryz.underlying31 (zP s x) ?_)
        | (go_at_call 74; refine ((ju HTk) _ ((ju HY).bel.alloc _)).mono ?_; rintro e w3 ⟨rfl, hb3⟩; have HY3 := jd ((ju HY).next (((Bel.refl wr).alloc (.cells #[.int .u64 te, .int .u8 ke, .string de, .slice ya yn yc] 53)).trans hb3)); have z0 : w3.cell? ⟨wr.heap.size, 0, none⟩ = some (.int .u64 te) := cell_of (hb3.row (at_new wr (.cells #[.int .u64 te, .int .u8 ke, .string de, .slice ya yn yc] 53))); have y11 := (Bg.of (ju HY3).row).c11; have y7 := (Bg.of (ju HY3).row).c7; have y6 := (Bg.of (ju HY3).row).c6; clear hb3)
        | go_guarded)
       have hZd := (ju HY3).next (Bel.refl w3).drew
       have HZd := jd hZd
       have hst0 : st ≤ s.log.length := by have := ju HST; have := ju HKL; have := ju HB0; omega
       have hstc : st ≤ x.cL := Nat.le_trans hst0 (ju HP).2.1.1
       have hkc : k < c := by have := ju HB0; omega
       have hnc : no ≤ c := (ju HB0).2.2.2.2.2.2
       clear HY3 HY HTk z0 y11 y7 y6
       refine wp_region_held_drew (S := fun _ => True) Tryz.follows trivial (fun _ => ?_)
       clear hZd
       generalize w3.drew = wd at *
       refine any_take (i := 0) (v := .pointer (some ⟨b, 10, none⟩)) rfl (by kernel_rfl) (fun _ _ _ h => h) rfl trivial (fun w _ => by go_simp) ?_
       refine any_take (i := 2) (v := .int .u64 (st : Int)) rfl (by kernel_rfl) (fun _ _ _ h => h) rfl trivial (fun w _ => by go_simp) ?_
       refine any_take (i := 3) (v := .int .u64 (st : Int)) rfl (by kernel_rfl) (fun _ _ _ h => h) rfl trivial (fun w _ => by go_simp) ?_
       refine any_take (i := 5) (v := .slice (some ⟨gl, ol, none⟩) no c) rfl (by kernel_rfl) (fun _ _ _ h => h) rfl trivial (fun w _ => by go_simp) ?_
       refine any_take (i := 6) (v := .int .i64 (k : Int)) rfl (by kernel_rfl) (fun _ _ _ h => h) rfl trivial (fun w _ => by go_simp) ?_
       refine any_take (i := 7) (v := .slice (some ⟨gl, ol + k * 4, none⟩) (no - k) (c - k)) rfl (by kernel_rfl) (fun _ _ _ h => h) rfl trivial (fun w _ => by go_simp; intro e; omega) ?_
       have hRk : EG.R wd gl ol L := (ju HGL).bel (ju HZd).bel
       have hEnt := entries_g (W := wd) (a := some ⟨gl, ol + k * 4, none⟩) (n := no - k) (cap := c - k) (L := L.drop k) (by rw [List.length_drop, ju HLN]) ⟨gl, ol + k * 4, fun _ => rfl, hRk.drop k⟩ (fun y hy => ((ju HS).2.1 y (List.mem_of_mem_drop hy)).bel (ju HZd).bel) (by omega) (fun y hy => (ju HS).2.2 y.1 (by rw [← ju HLL]; exact List.mem_map.2 ⟨y, List.mem_of_mem_drop hy, rfl⟩))
       clear hRk
       have y10 := (Bg.of (ju HZd).row).c10
       obtain ⟨LG, hLG, hLS, hLo⟩ := (ju HP).1.l
       have hLGn : LG.length = s.log.length := by rw [← hLG, List.length_map]
       have hLL : (LG.take st).length = st := by simp; omega
       have HLo := jd (aI hLS hLo)
       have HL2 : Hid (∀ LN : List (GE × GA), LN.map (·.1) = (L.drop k).map (·.1) → (LG.take st ++ LN).map (·.1) = L') := jd (fun LN hq => by
        rw [ju HL', List.map_append, hq, List.map_take, hLG, List.map_drop, ju HLL, (ju HST).1])
       have HL3 : Hid (LG.length = s.log.length ∧ (LG.take st).length = st) := jd ⟨hLGn, hLL⟩
       clear hLG hLS hLo hLGn hLL
       have HAP : Hid (∀ w4 a4 c4 LN, Bel wd w4 → LN.map (·.1) = (L.drop k).map (·.1) → EG.O wd.heap.size w4 (.slice a4 (no - k) c4) LN → (∀ y ∈ LN, E3.O wd.heap.size w4 (.slice y.2.a y.1.m.length y.2.c) y.1.m) → ∃ a5 c5 w5, (∀ ty, (Builtin.append_ #[27, 27] ty #[.slice x.aL st st, .slice a4 (no - k) c4]).run Tryz.prog w4 = .ok (.slice a5 L'.length c5) w5) ∧ SlGT w5 a5 L' ∧ (L'.length ≤ c5 ∧ Nw B0 a5 L'.length) ∧ Bel w4 w5) := jd (by
        intro w4 a4 c4 LN hb4 hm4 ho4 hy4
        have hB4 := (ju HZd).bel.trans hb4
        have hLNn : LN.length = no - k := by
         have := congrArg List.length hm4
         rw [List.length_map, List.length_map, List.length_drop, ju HLN] at this
         exact this
        have hSl : Sl EG w4 x.aL (LG.take st) := by
         obtain ⟨g1, o1, q1, q2⟩ := ((ju HLo).1.bel hB4).1
         exact ⟨g1, o1, fun hq => q1 (by rw [(ju HL3).2] at hq; have h2 := (ju HL3).1; omega), q2.take st⟩
        obtain ⟨v5, w5, hrun5, ho5, hb5⟩ := app_cutG (ad := x.aL) (L1 := LG.take st) (N := LN) (a2 := a4) (c2 := c4) hSl (by rw [hLNn]; exact ho4) (by omega) (by have := ju HB0; rw [(ju HL3).2, hLNn]; omega) 27
        rw [(ju HL3).2, hLNn] at hrun5
        obtain ⟨a5, c5, g5, hv5, _, _, hc5⟩ := ho5.shape
        have hL5 : (LG.take st ++ LN).length = L'.length := by have := congrArg List.length ((ju HL2) LN hm4); rwa [List.length_map] at this
        subst hv5
        rw [hL5] at ho5 hrun5
        exact ⟨a5, c5, w5, fun ty => by rw [← hrun5]; rfl, SlGT.cut (fun y hy => ((ju HLo).2 y (List.mem_of_mem_take hy)).bel hB4) (fun y hy => SlT.of ((hy4 y hy).bel hb5)) hb5 ((ju HL2) LN hm4) ho5, ⟨by rw [← hL5]; exact (Sl.of ho5).2.2, ho5.nw (Nat.le_trans hBS hB4.size)⟩, hb5⟩)
       refine any_vc (i := 1) (j := 8) (v := .slice x.aL s.log.length x.cL) (by kernel_rfl) rfl rfl rfl rfl (by go_simp) (by go_simp) hEnt ⟨trivial, ?_⟩ ?_
       ·clear y10
        refine any_take (i := 4) (v := .slice x.aL st st) rfl (by kernel_rfl) (fun _ _ _ h => h) rfl trivial (fun w _ => by go_simp) ?_
        refine any_call (i := 8) (R := fun e w' => ∃ a' c' L', e = .returned (.slice a' (no - k) c') ∧ L'.map (·.1) = (L.drop k).map (·.1) ∧ EG.O wd.heap.size w' (.slice a' (no - k) c') L' ∧ (∀ x ∈ L', E3.O wd.heap.size w' (.slice x.2.a x.1.m.length x.2.c) x.1.m) ∧ Bel wd w') (by kernel_rfl) rfl rfl (by go_simp) hEnt ?_
        rintro e w4 ⟨a4, c4, LN, rfl, hm4, ho4, hy4, hb4⟩
        refine ⟨_, rfl, trivial, ?_⟩
        have hZ4 := (ju HZd).next hb4
        obtain ⟨a5, c5, w5, hrun5, hg5, hc5, hb5⟩ := (ju HAP) w4 a4 c4 LN hb4 hm4 ho4 hy4
        refine any_do (i := 9) (v := .slice a5 L'.length c5) (w' := w5) (by kernel_rfl) rfl rfl (app_run27 (.tmp 62) (.tmp 66) (by exact rfl) (by go_simp) (by go_simp) (hrun5 _)) ⟨trivial, ?_⟩
        refine any_do (i := 10) (v := .pointer (some ⟨b, 10, none⟩)) (w' := w5) (by kernel_rfl) rfl rfl (by go_simp) ⟨trivial, ?_⟩
        have hZ5 := hZ4.next hb5
        refine any_skip (i := 11) (w' := w5.setRow b (gc { s with log := L' } { x with aL := a5, cL := c5 })) (by kernel_rfl) rfl rfl (fld_runG 27 (.tmp 68) (.tmp 67) (by exact rfl) b 10 (.slice a5 L'.length c5) (by go_simp) (by go_simp) rfl rfl (gc s x) 31 hZ5.row (by kernel_rfl) (by rw [gc_size]; decide)) ⟨trivial, ?_⟩
        refine wpAnyH_done (by kernel_rfl) ?_ _
        have hc6 := ch_row (c' := gc { s with log := L' } { x with aL := a5, cL := c5 }) hZ5.row
        have hTy6 := hZ5.set hc6.1 hc6.2
        have hG5 := (ju HP).1.bel hZ5.bel
        have hG6 : Gt (w5.setRow b (gc { s with log := L' } { x with aL := a5, cL := c5 })) { s with log := L' } { x with aL := a5, cL := c5 } := ⟨hG5.m.box hZ5.row (by decide) hc6.2, hG5.b.box hZ5.row (by decide) hc6.2, hg5.box hZ5.row (by decide) (by decide) hc6.2, hG5.v.box hZ5.row (by decide) hc6.2, hG5.f.box hZ5.row (by decide) hc6.2, hG5.r.box hZ5.row (by decide) (by decide) hc6.2⟩
        generalize w5.setRow b (gc { s with log := L' } { x with aL := a5, cL := c5 }) = w6 at *
        obtain ⟨s6, hs6⟩ : ∃ s6 : GP, s6 = { s with log := L' } := ⟨_, rfl⟩
        obtain ⟨x6, hx6⟩ : ∃ x6 : Px, x6 = { x with aL := a5, cL := c5 } := ⟨_, rfl⟩
        rw [← hs6, ← hx6] at hTy6 hG6
        have hl6 : s6.log = L' := by rw [hs6]
        have hcl6 : s6.log.length ≤ x6.cL := by rw [hl6, hx6]; exact hc5.1
        have hb6 : s6.base = s.base ∧ s6.B = s.B := by rw [hs6]; exact ⟨rfl, rfl⟩
        have hln6 : s6.log.length ≤ 1000000 := by rw [hl6]; exact (ju HLB).1
        have hme6 : ∀ e ∈ s6.log, e.m.length ≤ 17592186044416 := by rw [hl6]; exact (ju HLB).2
        have hm6 : s6.mAt s6.lastI = memOf s.B L' := by
         have eu : s6.upTo s6.lastI = some s6.log.length := by
          unfold GP.upTo GP.lastI
          rw [if_neg (by omega), show (s6.base + (s6.log.length : Int) - s6.base).toNat = s6.log.length by omega]
         unfold GP.mAt
         rw [eu]
         show memOf s6.B (s6.log.take s6.log.length) = _
         rw [List.take_length, hb6.2, hl6]
        have HLa : Hid (∀ w1, Gt w1 s6 x6 → Calls Tryz.prog 79 #[.agg (gc s6 x6)] w1 fun e w' => e = .returned (.tuple #[.int .u64 s6.lastI, .int .u64 s6.lastT]) ∧ Bel w1 w') := jd (fun w1 hg => last_g hg.l.sl (by rw [hb6.1]; exact (ju HB0).1) (by rw [hb6.1]; exact (ju HB0).2.1) hln6)
        have HMe : Hid (∀ w1, Gt w1 s6 x6 → Calls Tryz.prog 75 #[.agg (gc s6 x6), .int .u64 s6.lastI] w1 fun e w' => ∃ a' c', e = .returned (.slice a' (memOf s.B L').length c') ∧ SlT E3 w' a' (memOf s.B L') ∧ Bel w1 w') := jd (fun w1 hg => by
         have := membs_g hg.l.sl hg.b.1 s6.lastI (by rw [hb6.1]; exact (ju HB0).1) (by have h1 := (ju HB0).1; have h2 := (ju HB0).2.1; have h3 : s6.lastI = s6.base + s6.log.length := rfl; rw [hb6.1] at h3; omega) hln6 hcl6 (by rw [hb6.2]; exact (ju HP).2.2.2) hme6
         rw [hm6] at this
         exact this.mono (fun e w' ⟨a', c', he, ho, hb'⟩ => ⟨a', c', he, SlT.of ho, hb'⟩))
        have HY6 := jd hTy6
        have HG6 := jd (aI hG6 hcl6)
        have HE6 : Hid (∀ a8 c8, (gc s6 x6).setIfInBounds 1 (.slice a8 (memOf s.B L').length c8) = gc (s.withL L') { x6 with aM := a8, cM := c8 }) := jd (fun a8 c8 => by rw [hs6]; rfl)
        have HG7 : Hid (∀ w7 a8 c8, Gt w7 s6 x6 → SlT E3 w7 a8 (memOf s.B L') → Gt w7 (s.withL L') { x6 with aM := a8, cM := c8 }) := jd (fun w7 a8 c8 hg hm => by
         rw [hs6] at hg
         exact ⟨hm, hg.b, hg.l, hg.v, hg.f, hg.r⟩)
        have HC7 : Hid (Lc B0 x6 (s.withL L').log.length) := jd ⟨by rw [hs6] at hcl6; exact hcl6, by rw [hx6]; exact hc5.2⟩
        clear hc6 hTy6 hG5 hG6 hl6 hcl6 hb6 hln6 hme6 hm6 hs6 hx6 hrun5 hg5 hc5 hb5 hZ5 hZ4 ho4 hb4 hy4 hm4 hEnt HAP
        generalize memOf s.B L' = MB at *
        obtain ⟨sw, hsw⟩ : ∃ sw, sw = s.withL L' := ⟨_, rfl⟩
        rw [← hsw] at HE6 HG7 HC7 HJ
        clear hsw
        generalize s6.lastI = li at *
        simp [Act.put]
        go_wp2_with (first
         | go_skip
         | (refine bx_ldK 31 _ (by exact rfl) b (by exact rfl) (by exact rfl) _ _ (ju HY6).row Tryz.underlying31 (zP s6 x6) ?_)
         | (go_at_call 79; refine ((ju HLa) _ (ju HG6).1).mono ?_; rintro e w7 ⟨rfl, hb7⟩; replace HY6 := jd ((ju HY6).next hb7); replace HG6 := jd (aI ((ju HG6).1.bel hb7) (ju HG6).2); clear hb7 HLa)
         | (go_at_call 75; refine ((ju HMe) _ (ju HG6).1).mono ?_; rintro e w8 ⟨a8, c8, rfl, ho8, hb8⟩; have HO8 := jd ho8; replace HY6 := jd ((ju HY6).next hb8); replace HG6 := jd (aI ((ju HG6).1.bel hb8) (ju HG6).2); clear hb8 ho8 HMe)
         | (refine bx_set (by exact rfl) 22 (.tmp 77) (.tmp 76) (by exact rfl) b 1 (.slice a8 MB.length c8) (by exact rfl) (by exact rfl) (by exact rfl) (by exact rfl) (gc s6 x6) _ (ju HY6).row (by kernel_rfl) (by simp [gc]) ?_; intro w9 hr9 hc9; rw [(ju HE6) a8 c8] at hr9; have HGA := jd ((ju HG7) _ a8 c8 ((ju HG6).1.box (ju HY6).row hc9) ((ju HO8).box (ju HY6).row (by decide) hc9)); have HYA := jd ((ju HY6).set hr9 hc9); clear hr9 hc9 HY6 HG6 HO8)
         | go_guarded
         | (refine bx_ldK 31 _ (by exact rfl) b (by exact rfl) (by exact rfl) _ _ (ju HYA).row Tryz.underlying31 (zP sw { x6 with aM := a8, cM := c8 }) ?_)
         | (obtain ⟨s2, x2, h2⟩ := (ju HYA).row2; refine bx_st rfl 31 _ _ rfl b2 (gc sw { x6 with aM := a8, cM := c8 }) _ rfl rfl h2 (zP _ _) rfl (gc_one _ _) ?_; intro wA hrA hcA; have HRA := jd (aI hrA (aI ((ju HYA).outG hrA hcA) ((ju HGA).box h2 hcA))); clear hrA hcA h2))
        rw [ju HJ]
        exact bodyPost_ret (res2 (p := 6) (q := 7) rfl Tryz.underlying31 (zP _ _) (ju HRA).1 _ _ rfl rfl) rfl ⟨_, rfl, (ju HRA).2.2, ju HC7, (ju HRA).2.1⟩
       ·clear y10
        rintro e w4 ⟨a4, c4, LN, rfl, hm4, ho4, hy4, hb4⟩
        refine ⟨_, rfl, trivial, ?_⟩
        have y10 := (Bg.of ((ju HZd).next hb4).row).c10
        refine any_do (i := 1) (v := .slice x.aL s.log.length x.cL) (w' := w4) (by kernel_rfl) rfl rfl (by go_simp) ⟨trivial, ?_⟩
        clear y10
        refine any_do (i := 4) (v := .slice x.aL st st) (w' := w4) (by kernel_rfl) rfl rfl (by go_simp) ⟨trivial, ?_⟩
        have hZ4 := (ju HZd).next hb4
        obtain ⟨a5, c5, w5, hrun5, hg5, hc5, hb5⟩ := (ju HAP) w4 a4 c4 LN hb4 hm4 ho4 hy4
        refine any_do (i := 9) (v := .slice a5 L'.length c5) (w' := w5) (by kernel_rfl) rfl rfl (app_run27 (.tmp 62) (.tmp 66) (by exact rfl) (by go_simp) (by go_simp) (hrun5 _)) ⟨trivial, ?_⟩
        refine any_do (i := 10) (v := .pointer (some ⟨b, 10, none⟩)) (w' := w5) (by kernel_rfl) rfl rfl (by go_simp) ⟨trivial, ?_⟩
        have hZ5 := hZ4.next hb5
        refine any_skip (i := 11) (w' := w5.setRow b (gc { s with log := L' } { x with aL := a5, cL := c5 })) (by kernel_rfl) rfl rfl (fld_runG 27 (.tmp 68) (.tmp 67) (by exact rfl) b 10 (.slice a5 L'.length c5) (by go_simp) (by go_simp) rfl rfl (gc s x) 31 hZ5.row (by kernel_rfl) (by rw [gc_size]; decide)) ⟨trivial, ?_⟩
        refine wpAnyH_done (by kernel_rfl) ?_ _
        have hc6 := ch_row (c' := gc { s with log := L' } { x with aL := a5, cL := c5 }) hZ5.row
        have hTy6 := hZ5.set hc6.1 hc6.2
        have hG5 := (ju HP).1.bel hZ5.bel
        have hG6 : Gt (w5.setRow b (gc { s with log := L' } { x with aL := a5, cL := c5 })) { s with log := L' } { x with aL := a5, cL := c5 } := ⟨hG5.m.box hZ5.row (by decide) hc6.2, hG5.b.box hZ5.row (by decide) hc6.2, hg5.box hZ5.row (by decide) (by decide) hc6.2, hG5.v.box hZ5.row (by decide) hc6.2, hG5.f.box hZ5.row (by decide) hc6.2, hG5.r.box hZ5.row (by decide) (by decide) hc6.2⟩
        generalize w5.setRow b (gc { s with log := L' } { x with aL := a5, cL := c5 }) = w6 at *
        obtain ⟨s6, hs6⟩ : ∃ s6 : GP, s6 = { s with log := L' } := ⟨_, rfl⟩
        obtain ⟨x6, hx6⟩ : ∃ x6 : Px, x6 = { x with aL := a5, cL := c5 } := ⟨_, rfl⟩
        rw [← hs6, ← hx6] at hTy6 hG6
        have hl6 : s6.log = L' := by rw [hs6]
        have hcl6 : s6.log.length ≤ x6.cL := by rw [hl6, hx6]; exact hc5.1
        have hb6 : s6.base = s.base ∧ s6.B = s.B := by rw [hs6]; exact ⟨rfl, rfl⟩
        have hln6 : s6.log.length ≤ 1000000 := by rw [hl6]; exact (ju HLB).1
        have hme6 : ∀ e ∈ s6.log, e.m.length ≤ 17592186044416 := by rw [hl6]; exact (ju HLB).2
        have hm6 : s6.mAt s6.lastI = memOf s.B L' := by
         have eu : s6.upTo s6.lastI = some s6.log.length := by
          unfold GP.upTo GP.lastI
          rw [if_neg (by omega), show (s6.base + (s6.log.length : Int) - s6.base).toNat = s6.log.length by omega]
         unfold GP.mAt
         rw [eu]
         show memOf s6.B (s6.log.take s6.log.length) = _
         rw [List.take_length, hb6.2, hl6]
        have HLa : Hid (∀ w1, Gt w1 s6 x6 → Calls Tryz.prog 79 #[.agg (gc s6 x6)] w1 fun e w' => e = .returned (.tuple #[.int .u64 s6.lastI, .int .u64 s6.lastT]) ∧ Bel w1 w') := jd (fun w1 hg => last_g hg.l.sl (by rw [hb6.1]; exact (ju HB0).1) (by rw [hb6.1]; exact (ju HB0).2.1) hln6)
        have HMe : Hid (∀ w1, Gt w1 s6 x6 → Calls Tryz.prog 75 #[.agg (gc s6 x6), .int .u64 s6.lastI] w1 fun e w' => ∃ a' c', e = .returned (.slice a' (memOf s.B L').length c') ∧ SlT E3 w' a' (memOf s.B L') ∧ Bel w1 w') := jd (fun w1 hg => by
         have := membs_g hg.l.sl hg.b.1 s6.lastI (by rw [hb6.1]; exact (ju HB0).1) (by have h1 := (ju HB0).1; have h2 := (ju HB0).2.1; have h3 : s6.lastI = s6.base + s6.log.length := rfl; rw [hb6.1] at h3; omega) hln6 hcl6 (by rw [hb6.2]; exact (ju HP).2.2.2) hme6
         rw [hm6] at this
         exact this.mono (fun e w' ⟨a', c', he, ho, hb'⟩ => ⟨a', c', he, SlT.of ho, hb'⟩))
        have HY6 := jd hTy6
        have HG6 := jd (aI hG6 hcl6)
        have HE6 : Hid (∀ a8 c8, (gc s6 x6).setIfInBounds 1 (.slice a8 (memOf s.B L').length c8) = gc (s.withL L') { x6 with aM := a8, cM := c8 }) := jd (fun a8 c8 => by rw [hs6]; rfl)
        have HG7 : Hid (∀ w7 a8 c8, Gt w7 s6 x6 → SlT E3 w7 a8 (memOf s.B L') → Gt w7 (s.withL L') { x6 with aM := a8, cM := c8 }) := jd (fun w7 a8 c8 hg hm => by
         rw [hs6] at hg
         exact ⟨hm, hg.b, hg.l, hg.v, hg.f, hg.r⟩)
        have HC7 : Hid (Lc B0 x6 (s.withL L').log.length) := jd ⟨by rw [hs6] at hcl6; exact hcl6, by rw [hx6]; exact hc5.2⟩
        clear hc6 hTy6 hG5 hG6 hl6 hcl6 hb6 hln6 hme6 hm6 hs6 hx6 hrun5 hg5 hc5 hb5 hZ5 hZ4 ho4 hb4 hy4 hm4 hEnt HAP
        generalize memOf s.B L' = MB at *
        obtain ⟨sw, hsw⟩ : ∃ sw, sw = s.withL L' := ⟨_, rfl⟩
        rw [← hsw] at HE6 HG7 HC7 HJ
        clear hsw
        generalize s6.lastI = li at *
        simp [Act.put]
        go_wp2_with (first
         | go_skip
         | (refine bx_ldK 31 _ (by exact rfl) b (by exact rfl) (by exact rfl) _ _ (ju HY6).row Tryz.underlying31 (zP s6 x6) ?_)
         | (go_at_call 79; refine ((ju HLa) _ (ju HG6).1).mono ?_; rintro e w7 ⟨rfl, hb7⟩; replace HY6 := jd ((ju HY6).next hb7); replace HG6 := jd (aI ((ju HG6).1.bel hb7) (ju HG6).2); clear hb7 HLa)
         | (go_at_call 75; refine ((ju HMe) _ (ju HG6).1).mono ?_; rintro e w8 ⟨a8, c8, rfl, ho8, hb8⟩; have HO8 := jd ho8; replace HY6 := jd ((ju HY6).next hb8); replace HG6 := jd (aI ((ju HG6).1.bel hb8) (ju HG6).2); clear hb8 ho8 HMe)
         | (refine bx_set (by exact rfl) 22 (.tmp 77) (.tmp 76) (by exact rfl) b 1 (.slice a8 MB.length c8) (by exact rfl) (by exact rfl) (by exact rfl) (by exact rfl) (gc s6 x6) _ (ju HY6).row (by kernel_rfl) (by simp [gc]) ?_; intro w9 hr9 hc9; rw [(ju HE6) a8 c8] at hr9; have HGA := jd ((ju HG7) _ a8 c8 ((ju HG6).1.box (ju HY6).row hc9) ((ju HO8).box (ju HY6).row (by decide) hc9)); have HYA := jd ((ju HY6).set hr9 hc9); clear hr9 hc9 HY6 HG6 HO8)
         | go_guarded
         | (refine bx_ldK 31 _ (by exact rfl) b (by exact rfl) (by exact rfl) _ _ (ju HYA).row Tryz.underlying31 (zP sw { x6 with aM := a8, cM := c8 }) ?_)
         | (obtain ⟨s2, x2, h2⟩ := (ju HYA).row2; refine bx_st rfl 31 _ _ rfl b2 (gc sw { x6 with aM := a8, cM := c8 }) _ rfl rfl h2 (zP _ _) rfl (gc_one _ _) ?_; intro wA hrA hcA; have HRA := jd (aI hrA (aI ((ju HYA).outG hrA hcA) ((ju HGA).box h2 hcA))); clear hrA hcA h2))
        rw [ju HJ]
        exact bodyPost_ret (res2 (p := 6) (q := 7) rfl Tryz.underlying31 (zP _ _) (ju HRA).1 _ _ rfl rfl) rfl ⟨_, rfl, (ju HRA).2.2, ju HC7, (ju HRA).2.1⟩
  ·obtain rfl : k = no := by omega
   have hj : s.join bh l = some s := by
    unfold GP.join
    have h1 := mtG_le s l bh
    have h2 := ju HM
    have h3 := ju HNO
    rw [List.getElem?_eq_none (by omega)]
   have HJ := jd hj
   clear hj
   have HY3 := HY
   go_wp2_with (first
    | go_skip
    | (refine bx_ldK 31 _ (by exact rfl) b (by exact rfl) (by exact rfl) _ _ (ju HY3).row Tryz.underlying31 (zP s x) ?_)
    | go_guarded
    | (obtain ⟨s2, x2, h2⟩ := (ju HY3).row2; refine bx_st rfl 31 _ _ rfl b2 (gc s x) _ rfl rfl h2 (zP _ _) rfl (gc_one _ _) ?_; intro w9 hr9 hc9; have HR9 := jd (aI hr9 (aI ((ju HY3).outG hr9 hc9) (((ju HP).1.bel (ju HY3).bel).box h2 hc9))); clear hr9 hc9 h2))
   rw [ju HJ]
   exact bodyPost_ret (res2 (p := 6) (q := 7) rfl Tryz.underlying31 (zP _ _) (ju HR9).1 _ _ rfl rfl) rfl ⟨_, rfl, (ju HR9).2.2, (ju HP).2.1, (ju HR9).2.1⟩
end
end Go.Proofs.YthekbhliokcpcaaGreat
