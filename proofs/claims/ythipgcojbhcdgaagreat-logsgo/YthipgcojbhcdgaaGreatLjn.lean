/- Entries are joined to a log. -/
import Derived.Test.YthipgcojbhcdgaaGreatLjo
namespace Go.Proofs.YthipgcojbhcdgaaGreat
open Go.RowKit Go.Maps Go.Sort
section
variable {o : Oper} {a : Act} {w : World}
theorem app_run24 (x y : Operand) (ho : o.op = .call { callee := .builtin .append, args := #[x, y], argTypes := #[24, 24] }) {v1 v2 v' : Value} {w' : World} (hs : a.eval x = v1) (hy : a.eval y = v2) (hrun : (Builtin.append_ #[24, 24] o.type #[v1, v2]).run Tryz.prog w = .ok v' w') : (execOp a.eval o).run Tryz.prog w = .ok (.value v') w' := by
  unfold execOp
  simp only [ho, resolve, invoke, builtin, Sem.run_bind, Sem.run_pure, Result.andThen_ok, List.map_toArray, List.map_cons, List.map_nil, hs, hy, hrun]
/-- A field of a box is set. -/
theorem fld_run (t : TypeId) (x y : Operand) (ho : o.op = .store t x y) (b i : Nat) (v : Value) (hx : a.eval x = .pointer (some ⟨b, i, none⟩)) (hy : a.eval y = v) (hv : v.cells = #[v]) (hv1 : v.oneCell' = true) (cs : Array Value) (ty : TypeId) (hg : w.heap[b]? = some (.cells cs ty)) (hi : (Tryz.prog.info? t).map (·.size) = some 1) (hlt : i < cs.size) : (execOp a.eval o).run Tryz.prog w = .ok .skip (w.setRow b (cs.setIfInBounds i v)) := by
  have hrun := run_storeCells_at (P := Tryz.prog) b i ty [v] 0 cs w hg (by simp; omega) (fun u hu => by simp at hu; rw [hu]; exact hv1)
  have e : (cs.toList.take (i + 0) ++ [v] ++ cs.toList.drop (i + 0 + [v].length)).toArray = cs.setIfInBounds i v := by
    apply Array.ext'
    simp only [Array.toList_setIfInBounds, Nat.add_zero, List.length_cons, List.length_nil, Nat.zero_add]
    rw [List.set_eq_take_append_cons_drop, if_pos (by simpa using hlt)]
    simp
  rw [e] at hrun
  unfold execOp
  cases hq : Tryz.prog.info? t with
  | none => rw [hq] at hi; simp at hi
  | some j =>
    have hs : j.size = 1 := by rw [hq] at hi; simpa using hi
    have hrun2 : (storeVar t ⟨b, i, none⟩ v).run Tryz.prog w = .ok () (w.setRow b (cs.setIfInBounds i v)) := by
      simp [storeVar, sizeOf, typeInfo, hq, hv, hs, hrun]
    simp only [ho, hx, hy, Instr.storeAt, Instr.sureAddr, Sem.run_bind, Sem.run_pure, Result.andThen_ok, hrun2]
end
/-- A member's rows, whatever lies first. -/
structure Pg (base : Nat) (W : World) (n : Nat) (s : PP) (x : Px) : Prop where
  m : E3.O base W (.slice x.aM n x.cM) (mem n)
  b : E3.O base W (.slice x.aB n x.cB) (mem n)
  l : E69.O base W (.slice x.aL s.log.length x.cL) s.log
  v : E3.O base W (.slice x.aV s.votes.length x.cV) s.votes
  f : E65.O base W (.slice x.aF s.fol.length x.cF) s.fol
theorem Pf.pg {base : Nat} {W : World} {n : Nat} {s : PP} {x : Px} (h : Pf base W n s x) : Pg base W n s x := ⟨h.m, h.b, h.l, h.v, h.f⟩
theorem Pg.bel {base : Nat} {W W' : World} {n : Nat} {s : PP} {x : Px} (h : Pg base W n s x) (hb : Bel W W') : Pg base W' n s x := ⟨h.m.bel hb, h.b.bel hb, h.l.bel hb, h.v.bel hb, h.f.bel hb⟩
theorem Pg.box {base : Nat} {W W' : World} {n : Nat} {s : PP} {x : Px} {b : Nat} {c : Array Value} (h : Pg base W n s x) (hr : W.heap[b]? = some (.cells c 56)) (hc : Ch (fun k => k = b) W W') : Pg base W' n s x := ⟨h.m.box hr (by decide) hc, h.b.box hr (by decide) hc, h.l.box hr (by decide) hc, h.v.box hr (by decide) hc, h.f.box hr (by decide) hc⟩
theorem Pg.mem {base : Nat} {W W' : World} {n : Nat} {s : PP} {x : Px} {b : Nat} {c : Array Value} {a8 : Option Addr} {c8 : Nat} (h : Pg base W n s x) (ho : E3.O base W (.slice a8 n c8) (mem n)) (hr : W.heap[b]? = some (.cells c 56)) (hc : Ch (fun k => k = b) W W') : Pg base W' n s { x with aM := a8, cM := c8 } := ⟨ho.box hr (by decide) hc, h.b.box hr (by decide) hc, h.l.box hr (by decide) hc, h.v.box hr (by decide) hc, h.f.box hr (by decide) hc⟩
theorem Pg.pq {base : Nat} {W : World} {n : Nat} {s : PP} {x : Px} (h : Pg base W n s x) : Pq W n s x := ⟨⟨(Sl.of h.m).1, (Sl.of h.b).1, (Sl.of h.l).1, (Sl.of h.v).1, (Sl.of h.f).1⟩, (Sl.of h.l).2.2⟩
theorem fl_mem {ops : Array Oper} {Q : Exit → Act → World → Prop} {rest : List Oper} {o : Oper} {a : Act} {W : World} {n : Nat} {s : PP} {z : Px} (hgd : o.guard = none) (x y : Operand) (ho : o.op = .store 25 x y) (b : Nat) (v : Option Addr) (c : Nat) (hx : a.eval x = .pointer (some ⟨b, 1, none⟩)) (hy : a.eval y = .slice v n c) (hg : W.heap[b]? = some (.cells (pc n s z) 56))
    (hK : ∀ w', w'.heap[b]? = some (.cells (pc n s { z with aM := v, cM := c }) 56) → Ch (fun k => k = b) W w' → wpList Tryz.prog ops Q rest (a.put o.dst undef) w') : wpList Tryz.prog ops Q (o :: rest) a W :=
  bx_fld hgd 25 x y ho b 1 _ hx hy rfl rfl hg Tryz.one24 (by decide) rfl hK
/-- A value and a call, whichever comes first. -/
theorem any_vc {ops : Array Oper} {Q : Exit → Act → World → Prop} {md : Region.Mode} {S : World → Prop} {i j : Nat} {o o' : Oper} {fuel : Nat} {listed : Array Bool} {a : Act} {w : World} {v : Value} {f : FuncId} {args : Array Value} {R : Ending → World → Prop} (hr : Region.ready md ops listed = [i, j]) (hi : ops[i]? = some o) (hj : ops[j]? = some o') (hwi : Region.wanted o (yielded ops a.tmps) = true) (hwj : Region.wanted o' (yielded ops a.tmps) = true) (hi2 : (execOp a.eval o).run Tryz.prog w = .ok (.value v) w) (hj2 : (execOp a.eval o').run Tryz.prog w = .ok (.enter f args) w) (hc : Calls Tryz.prog f args w R)
    (hKi : S w ∧ wpAnyH Tryz.prog md ops Q S fuel (listed.setIfInBounds i true) (a.put o.dst v) w) (hKj : ∀ e w', R e w' → ∃ u, e = .returned u ∧ S w' ∧ wpAnyH Tryz.prog md ops Q S fuel (listed.setIfInBounds j true) (a.put o'.dst u) w') : wpAnyH Tryz.prog md ops Q S (fuel + 1) listed a w := by
  refine wpAnyH_all hr (by simp) (fun k hk => ?_)
  rcases List.mem_cons.1 hk with rfl | hk
  · unfold wpOp
    simp only [hi, hwi, if_true, Oper.wp, hi2, Oper.upon_value]
    exact .inl hKi
  · rw [List.mem_singleton.1 hk]
    unfold wpOp
    simp only [hj, hwj, if_true, Oper.wp, hj2, Oper.upon_enter]
    refine .inl (hc.mono ?_)
    intro e w' he
    obtain ⟨u, rfl, h1, h2⟩ := hKj e w' he
    exact ⟨h1, h2⟩
def JnR (W : World) (b b2 n : Nat) (s : PP) (x : Px) (bh : Nat) (l : List PE) (no : Nat) (vk : Value) (wr : World) : Prop := ∃ k : Nat, k ≤ no ∧ vk = .int .i64 k ∧ Hid (k ≤ mt s.log bh l) ∧ Hid (Ty W wr b b2 n s x)
section
variable {W : World} {n T G base : Nat} {s : PP} {x : Px}
set_option maxRecDepth 100000 in
set_option maxHeartbeats 8000000 in
theorem join_any (h : Pf base W n s x) (hB : base ≤ W.heap.size) (hok : Ok n T G s) (hn : n ≤ 64) (hG : G ≤ 900000) (bh : Nat) (l : List PE) (a : Option Addr) (c : Nat) (hs : Sl E69 W a l) (hc : l.length ≤ c) (hbh : bh ≤ s.log.length) (hl16 : l.length ≤ 16) (hl2 : ∀ e ∈ l, e.k ≠ 2) (hlt : ∀ e ∈ l, 0 ≤ e.t) : Calls Tryz.prog 135 #[.agg (pc n s x), .int .u64 (bh : Int), .slice a l.length c] W fun e w' => ∃ x', e = .returned (.tuple #[.agg (pc n ((s.join bh l).getD s) x'), .bool (s.join bh l).isSome]) ∧ Pg base w' n ((s.join bh l).getD s) x' ∧ Bel W w' := by
  have hgl := hok.glen
  have hcom := hok.com
  have HTI : Hid (∀ w1 i, Bel W w1 → i ≤ s.log.length → Calls Tryz.prog 87 #[.agg (pc n s x), .int .u64 ((i : Nat) : Int)] w1 fun e w' => e = .returned (.tuple #[.int .u64 (tAt s.log i), .bool true]) ∧ Bel w1 w') := hide (fun w1 i hb hi => term_in (h.pw.l.bel hb) hi (by omega))
  have HTO : Hid (∀ w1 i, s.log.length < i → i ≤ 1000000 → Calls Tryz.prog 87 #[.agg (pc n s x), .int .u64 ((i : Nat) : Int)] w1 fun e w' => e = .returned (.tuple #[.int .u64 0, .bool false]) ∧ Bel w1 w') := hide (fun w1 i hi h2 => term_out hi (by omega) (by omega))
  have HP := hide (And.intro h (And.intro hB hok))
  have HS := hide hs
  have HL := hide (And.intro hl2 hlt)
  have HBH : Hid (bh ≤ s.log.length ∧ s.log.length ≤ 900000 ∧ l.length ≤ 16 ∧ l.length ≤ c ∧ s.commit ≤ s.log.length) := hide ⟨hbh, by omega, hl16, hc, hcom⟩
  have HK2 : Hid (∀ L' : List PE, ∀ {i k : Nat}, L' = s.log.take i ++ l.drop k → ∀ e ∈ L', e.k ≠ 2) := hide (fun L' i k hL e he => by
    rw [hL] at he
    rcases List.mem_append.1 he with h1 | h1
    · rcases (hok.log.2 e (List.mem_of_mem_take h1)).2 with h2 | h2 <;> omega
    · exact hl2 e (List.mem_of_mem_drop h1))
  have HN64 : Hid (n ≤ 64) := hide hn
  clear h hB hok hn hG hs hl2 hlt hgl hcom
  generalize hno : l.length = no at *
  have HNO := hide hno
  have hno16 : no ≤ 16 := hl16
  clear hno hc hbh hl16
  have hbh9 : bh ≤ 900000 := by have := unhide HBH; omega
  go_enter Tryz.func135, Tryz.ntmps135
  go_wp2_with (first
    | go_skip
    | go_guarded
    | (refine bx_box rfl 56 _ rfl (pc n s x) rfl ?_; intro b w0 hr0 hs0 hb0; have HR0 := hide hr0; have HB0 := hide (And.intro hb0 hs0); clear hr0 hs0 hb0)
    | (refine bx_new rfl 56 rfl _ Tryz.zero32 ?_; intro b2 w1 hr1 hs1 hb1; have HY : Hid (Ty W w1 b b2 n s x) := hide ⟨hb1.row (unhide HR0), (unhide HB0).1.trans hb1, ⟨_, _, _, hr1⟩, by have := (unhide HB0).2; omega, by have := (unhide HB0).1.size; omega, fun e => by have := lt_of_some (unhide HR0); omega⟩; clear hr1 hs1 hb1 HR0 HB0))
  go_loopw [18] (JnR W b b2 n s x bh l no) (fun vk _ => no - (intOf vk).toNat)
  case atStart => exact ⟨0, Nat.zero_le _, rfl, hide (Nat.zero_le _), HY⟩
  case round =>
    obtain ⟨k, hk, rfl, HM, HY⟩ := hrel
    by_cases hlt : k < no
    · have hkn : (k : Int) < no := by omega
      have hkl : k < l.length := by rw [unhide HNO]; exact hlt
      obtain ⟨gl, ol, hgl, hRW⟩ := unhide HS
      have hRl := hRW.bel (unhide HY).bel
      have ea := hgl (by omega)
      obtain ⟨r0, r1, r2, r3⟩ := E69_cell hRl k hkl
      have hnx := mt_next s.log l bh k hkl (unhide HM)
      have HET : Hid (l[k].k ≠ 2 ∧ 0 ≤ l[k].t) := hide ⟨(unhide HL).1 _ (List.getElem_mem hkl), (unhide HL).2 _ (List.getElem_mem hkl)⟩
      have hwk : IntKind.u64.wrap (k : Int) = (k : Int) := wrapU (by omega) (by omega)
      have hwb : IntKind.u64.wrap ((bh : Int) + (k : Int)) = (bh : Int) + (k : Int) := wrapU (by omega) (by omega)
      obtain ⟨i1, hi1⟩ : ∃ i1 : Nat, i1 = bh + k + 1 := ⟨_, rfl⟩
      have hwi : IntKind.u64.wrap ((bh : Int) + (k : Int) + 1) = (i1 : Int) := by rw [wrapU (by omega) (by omega)]; omega
      have HNX := hide hnx
      have HKL : Hid (bh + k ≤ s.log.length) := hide (by have h1 := mt_len s.log l bh (unhide HBH).1; have h2 := unhide HM; omega)
      rw [ea]
      have HGL : Hid (E69.R W gl ol l) := hide hRW
      clear hgl hRl hRW ea hnx
      by_cases hin : i1 ≤ s.log.length
      · have hlt2 : bh + k < s.log.length := by omega
        have htA : tAt s.log i1 = s.log[bh + k].t := by subst hi1; simp [tAt, hlt2]
        by_cases hte : tAt s.log i1 = l[k].t
        · have HM1 : Hid (k + 1 ≤ mt s.log bh l) := hide ((unhide HNX).1 ⟨s.log[bh + k], List.getElem?_eq_getElem hlt2, by rw [← htA]; exact hte⟩)
          have heq : (tAt s.log i1 == l[k].t) = true := by simp [hte]
          have HTk : Hid (∀ w1, Bel W w1 → Calls Tryz.prog 87 #[.agg (pc n s x), .int .u64 (i1 : Int)] w1 fun e w' => e = .returned (.tuple #[.int .u64 (tAt s.log i1), .bool true]) ∧ Bel w1 w') := hide (fun w1 hb => (unhide HTI) w1 i1 hb hin)
          clear htA hte hin hi1 HNX hlt2
          generalize tAt s.log i1 = ti at *
          generalize l[k].t = te at *
          generalize l[k].k = ke at *
          generalize l[k].d = de at *
          go_wp2_with (first
            | go_skip
            | go_guarded
            | (refine bx_ldG rfl 56 _ rfl b rfl (pc n s x) _ (((Bel.refl _).alloc _).row (unhide HY).row) Tryz.underlying56 (Tryz.size32 _ _ _) ?_)
            | (go_at_call 87; refine ((unhide HTk) _ ((unhide HY).bel.alloc _)).mono ?_; rintro e w3 ⟨rfl, hb3⟩; have HY3 := hide ((unhide HY).next (((Bel.refl wr).alloc (.cells #[.int .u64 te, .int .u8 ke, .string de, .slice none 0 0] 61)).trans hb3)); have z0 : w3.cell? ⟨wr.heap.size, 0, none⟩ = some (.int .u64 te) := cell_of (hb3.row (at_new wr (.cells #[.int .u64 te, .int .u8 ke, .string de, .slice none 0 0] 61))); clear hb3))
          go_roundw
          case rel =>
            have hfin : ∀ v : Value, v = .int .i64 ((k + 1 : Nat) : Int) → JnR W b b2 n s x bh l no v w3 := fun v hv => ⟨k + 1, by omega, hv, HM1, HY3⟩
            first
              | exact hfin _ (by go_num)
              | ((repeat apply Exists.intro); exact ⟨hfin _ (by go_num), rfl⟩)
          case measure => simp [intOf]; omega
        · have HMK : Hid (mt s.log bh l = k) := hide ((unhide HNX).2 (by
            rintro ⟨y, hy, hyt⟩
            rw [List.getElem?_eq_getElem hlt2] at hy
            cases hy
            exact hte (by rw [htA]; exact hyt)))
          have heq : (tAt s.log i1 == l[k].t) = false := by simp [hte]
          have HTk : Hid (∀ w1, Bel W w1 → Calls Tryz.prog 87 #[.agg (pc n s x), .int .u64 (i1 : Int)] w1 fun e w' => e = .returned (.tuple #[.int .u64 (tAt s.log i1), .bool true]) ∧ Bel w1 w') := hide (fun w1 hb => (unhide HTI) w1 i1 hb hin)
          clear htA hte hlt2
          generalize tAt s.log i1 = ti at *
          have hee : l[k].t < 0 → False := fun h => by have := (unhide HET).2; omega
          by_cases hcc : i1 ≤ s.commit
          · have hj : s.join bh l = none := by
              unfold PP.join
              rw [if_neg (by rw [unhide HMK]; omega), if_pos (by rw [unhide HMK]; omega)]
            have HJ := hide hj
            have hc1 : decide ((i1 : Int) ≤ (s.commit : Int)) = true := decide_eq_true (by omega)
            clear hj hi1 HNX hin
            generalize l[k].t = te at *
            generalize l[k].k = ke at *
            generalize l[k].d = de at *
            go_wp2_with (first
              | go_skip
              | go_guarded
              | (refine bx_ldG rfl 56 _ rfl b rfl (pc n s x) _ (((Bel.refl _).alloc _).row (unhide HY).row) Tryz.underlying56 (Tryz.size32 _ _ _) ?_)
              | (go_at_call 87; refine ((unhide HTk) _ ((unhide HY).bel.alloc _)).mono ?_; rintro e w3 ⟨rfl, hb3⟩; have HY3 := hide ((unhide HY).next (((Bel.refl wr).alloc (.cells #[.int .u64 te, .int .u8 ke, .string de, .slice none 0 0] 61)).trans hb3)); have z0 : w3.cell? ⟨wr.heap.size, 0, none⟩ = some (.int .u64 te) := cell_of (hb3.row (at_new wr (.cells #[.int .u64 te, .int .u8 ke, .string de, .slice none 0 0] 61))); have y11 := (Bx.of (unhide HY3).row).c11; have y7 := (Bx.of (unhide HY3).row).c7; have y6 := (Bx.of (unhide HY3).row).c6; clear hb3)
              | (refine bx_ldG rfl 56 _ rfl b rfl (pc n s x) _ (unhide HY3).row Tryz.underlying56 (Tryz.size32 _ _ _) ?_)
              | (obtain ⟨s2, x2, n2, h2⟩ := (unhide HY3).row2; refine bx_st rfl 56 _ _ rfl b2 (pc n s x) _ rfl rfl h2 (Tryz.size32 _ _ _) rfl (pc_one _ _ _) ?_; intro w9 hr9 hc9; have HR9 := hide (And.intro hr9 (And.intro ((unhide HY3).out hc9) (((unhide HP).1.bel (unhide HY3).bel).box h2 hc9).pg)); clear hr9 hc9 h2))
            rw [unhide HJ]
            exact bodyPost_ret (res2 (p := 6) (q := 7) rfl Tryz.underlying56 (Tryz.size32 _ _ _) (unhide HR9).1 _ _ rfl rfl) rfl ⟨_, rfl, (unhide HR9).2.2, (unhide HR9).2.1⟩
          · obtain ⟨L', hL'⟩ : ∃ L', L' = s.log.take (bh + k) ++ l.drop k := ⟨_, rfl⟩
            have hj : s.join bh l = some { s with log := L' } := by
              unfold PP.join
              rw [if_neg (by rw [unhide HMK]; omega), if_neg (by rw [unhide HMK]; omega), unhide HMK, hL']
            have HJ := hide hj
            have HL' := hide hL'
            have hc1 : decide ((i1 : Int) ≤ (s.commit : Int)) = false := decide_eq_false (by omega)
            have hc2 : decide (l[k].t < 0) = false := decide_eq_false hee
            have hw7 : IntKind.u64.wrap ((i1 : Int) - 0) = (i1 : Int) := by rw [Int.sub_zero]; exact wrapU (by omega) (by omega)
            have hw9 : IntKind.u64.wrap (i1 : Int) = (i1 : Int) := wrapU (by omega) (by omega)
            obtain ⟨st, hst⟩ : ∃ st : Nat, st = bh + k := ⟨_, rfl⟩
            have hw8 : IntKind.u64.wrap ((i1 : Int) - 1) = (st : Int) := by rw [wrapU (by omega) (by omega)]; omega
            have HST : Hid (st = bh + k ∧ i1 = st + 1) := hide ⟨hst, by omega⟩
            clear hj hi1 HNX hL' hst hin
            generalize l[k].t = te at *
            generalize l[k].k = ke at *
            generalize l[k].d = de at *
            go_wp2_with (first
              | go_skip
              | go_guarded
              | (refine bx_ldG rfl 56 _ rfl b rfl (pc n s x) _ (((Bel.refl _).alloc _).row (unhide HY).row) Tryz.underlying56 (Tryz.size32 _ _ _) ?_)
              | (go_at_call 87; refine ((unhide HTk) _ ((unhide HY).bel.alloc _)).mono ?_; rintro e w3 ⟨rfl, hb3⟩; have HY3 := hide ((unhide HY).next (((Bel.refl wr).alloc (.cells #[.int .u64 te, .int .u8 ke, .string de, .slice none 0 0] 61)).trans hb3)); have z0 : w3.cell? ⟨wr.heap.size, 0, none⟩ = some (.int .u64 te) := cell_of (hb3.row (at_new wr (.cells #[.int .u64 te, .int .u8 ke, .string de, .slice none 0 0] 61))); have y11 := (Bx.of (unhide HY3).row).c11; have y7 := (Bx.of (unhide HY3).row).c7; have y6 := (Bx.of (unhide HY3).row).c6; clear hb3))
            have hZd := (unhide HY3).next (Bel.refl w3).drew
            have HZd := hide hZd
            have hcL : s.log.length ≤ x.cL := (Sl.of (unhide HP).1.l).2.2
            have hstc : st ≤ x.cL := by have := unhide HST; have := unhide HKL; omega
            have hkc : k < c := by have := unhide HBH; omega
            have hnc : no ≤ c := (unhide HBH).2.2.2.1
            clear HY3 HY HTk z0 y11 y7 y6
            refine wp_region_held_drew (S := fun _ => True) Tryz.follows trivial (fun _ => ?_)
            clear hZd
            generalize w3.drew = wd at *
            refine any_take (i := 0) (v := .pointer (some ⟨b, 10, none⟩)) rfl (by kernel_rfl) (by kernel_rfl) (by kernel_rfl) (fun _ _ _ h => h) rfl trivial (fun w _ => by go_simp) ?_
            refine any_take (i := 2) (v := .int .u64 (st : Int)) rfl (by kernel_rfl) (by kernel_rfl) (by kernel_rfl) (fun _ _ _ h => h) rfl trivial (fun w _ => by go_simp) ?_
            refine any_take (i := 3) (v := .int .u64 (st : Int)) rfl (by kernel_rfl) (by kernel_rfl) (by kernel_rfl) (fun _ _ _ h => h) rfl trivial (fun w _ => by go_simp) ?_
            refine any_take (i := 5) (v := .slice (some ⟨gl, ol, none⟩) no c) rfl (by kernel_rfl) (by kernel_rfl) (by kernel_rfl) (fun _ _ _ h => h) rfl trivial (fun w _ => by go_simp) ?_
            refine any_take (i := 6) (v := .int .i64 (k : Int)) rfl (by kernel_rfl) (by kernel_rfl) (by kernel_rfl) (fun _ _ _ h => h) rfl trivial (fun w _ => by go_simp) ?_
            refine any_take (i := 7) (v := .slice (some ⟨gl, ol + k * 4, none⟩) (no - k) (c - k)) rfl (by kernel_rfl) (by kernel_rfl) (by kernel_rfl) (fun _ _ _ h => h) rfl trivial (fun w _ => by go_simp; intro e; omega) ?_
            have hRk : E69.R wd gl ol l := (unhide HGL).bel (unhide HZd).bel
            have hEnt := entries_cl (W := wd) (a := some ⟨gl, ol + k * 4, none⟩) (n := no - k) (cap := c - k) (l := l.drop k) (by rw [List.length_drop, unhide HNO]) ⟨gl, ol + k * 4, fun _ => rfl, by have := hRk.drop k; exact this⟩ (by omega)
            clear hRk
            have y10 := (Bx.of (unhide HZd).row).c10
            have hLL : (s.log.take st).length = st := by have h1 := unhide HST; have h2 := unhide HKL; simp; omega
            have hDL : (l.drop k).length = no - k := by rw [List.length_drop, unhide HNO]
            have hL2 : s.log.take st ++ l.drop k = L' := by rw [unhide HL', (unhide HST).1]
            have HAP : Hid (∀ w4 a4 c4, Bel wd w4 → E69.O wd.heap.size w4 (.slice a4 (no - k) c4) (l.drop k) → ∃ a5 c5 w5, (∀ ty, (Builtin.append_ #[24, 24] ty #[.slice x.aL st st, .slice a4 (no - k) c4]).run Tryz.prog w4 = .ok (.slice a5 L'.length c5) w5) ∧ E69.O w4.heap.size w5 (.slice a5 L'.length c5) L' ∧ Bel w4 w5) := hide (by
              intro w4 a4 c4 hb4 ho4
              have hlog4 := ((unhide HP).1.bel ((unhide HZd).next hb4).bel)
              have hSl : Sl E69 w4 x.aL (s.log.take st) := by
                obtain ⟨g1, o1, q1, q2⟩ := (Sl.of hlog4.l).1
                exact ⟨g1, o1, fun hq => q1 (by rw [hLL] at hq; have h2 := unhide HKL; have h1 := unhide HST; omega), q2.take st⟩
              obtain ⟨v5, w5, hrun5, ho5, hb5⟩ := app_cut (ad := x.aL) (L1 := s.log.take st) (N := l.drop k) (a2 := a4) (c2 := c4) hSl (by rw [hDL]; exact ho4) (by omega) (by have := unhide HBH; rw [hLL, hDL]; have h2 := unhide HKL; have h1 := unhide HST; omega) 24
              rw [hLL, hDL] at hrun5
              obtain ⟨a5, c5, g5, hv5, _, _, _⟩ := ho5.shape
              rw [hL2] at ho5 hv5
              subst hv5
              exact ⟨a5, c5, w5, fun ty => by rw [← hrun5]; rfl, ho5, hb5⟩)
            refine any_vc (i := 1) (j := 8) (v := .slice x.aL s.log.length x.cL) (by kernel_rfl) rfl rfl rfl rfl (by go_simp) (by go_simp) hEnt ⟨trivial, ?_⟩ ?_
            · clear y10
              refine any_take (i := 4) (v := .slice x.aL st st) rfl (by kernel_rfl) (by kernel_rfl) (by kernel_rfl) (fun _ _ _ h => h) rfl trivial (fun w _ => by go_simp) ?_
              refine any_call (i := 8) (R := fun e w' => ∃ a' c', e = .returned (.slice a' (no - k) c') ∧ E69.O wd.heap.size w' (.slice a' (no - k) c') (l.drop k) ∧ Bel wd w') (by kernel_rfl) rfl rfl (by go_simp) hEnt ?_
              rintro e w4 ⟨a4, c4, rfl, ho4, hb4⟩
              refine ⟨_, rfl, trivial, ?_⟩
              have hZ4 := (unhide HZd).next hb4
              obtain ⟨a5, c5, w5, hrun5, ho5, hb5⟩ := (unhide HAP) w4 a4 c4 hb4 ho4
              refine any_do (i := 9) (v := .slice a5 L'.length c5) (w' := w5) (by kernel_rfl) rfl rfl (app_run24 (.tmp 62) (.tmp 66) (by exact rfl) (by go_simp) (by go_simp) (hrun5 _)) ⟨trivial, ?_⟩
              refine any_do (i := 10) (v := .pointer (some ⟨b, 10, none⟩)) (w' := w5) (by kernel_rfl) rfl rfl (by go_simp) ⟨trivial, ?_⟩
              have hZ5 := hZ4.next hb5
              refine any_skip (i := 11) (w' := w5.setRow b (pc n { s with log := L' } { x with aL := a5, cL := c5 })) (by kernel_rfl) rfl rfl (fld_run 24 (.tmp 68) (.tmp 67) (by exact rfl) b 10 (.slice a5 L'.length c5) (by go_simp) (by go_simp) rfl rfl (pc n s x) 56 hZ5.row Tryz.n24 (by rw [pc_size]; decide)) ⟨trivial, ?_⟩
              refine wpAnyH_done (by kernel_rfl) ?_ _
              have hc6 := ch_row (c' := pc n { s with log := L' } { x with aL := a5, cL := c5 }) hZ5.row
              have hTy6 := hZ5.set hc6.1 hc6.2
              have hPf5 := (unhide HP).1.bel hZ5.bel
              have hB5 : base ≤ w4.heap.size := Nat.le_trans (unhide HP).2.1 hZ4.bel.size
              have hPg6 : Pg base (w5.setRow b (pc n { s with log := L' } { x with aL := a5, cL := c5 })) n { s with log := L' } { x with aL := a5, cL := c5 } := ⟨hPf5.m.box hZ5.row (by decide) hc6.2, hPf5.b.box hZ5.row (by decide) hc6.2, (ho5.mono hB5).box hZ5.row (by decide) hc6.2, hPf5.v.box hZ5.row (by decide) hc6.2, hPf5.f.box hZ5.row (by decide) hc6.2⟩
              generalize w5.setRow b (pc n { s with log := L' } { x with aL := a5, cL := c5 }) = w6 at *
              have hk6 : ∀ e ∈ L', e.k ≠ 2 := (unhide HK2) L' hL2.symm
              have hl6 : L'.length ≤ 1000000 := by
                rw [← hL2, List.length_append, hLL, hDL]
                have := unhide HBH; have h2 := unhide HKL; have h1 := unhide HST; omega
              obtain ⟨s6, hs6⟩ : ∃ s6 : PP, s6 = { s with log := L' } := ⟨_, rfl⟩
              obtain ⟨x6, hx6⟩ : ∃ x6 : Px, x6 = { x with aL := a5, cL := c5 } := ⟨_, rfl⟩
              have hlg : s6.log = L' := by rw [hs6]
              rw [← hs6] at HJ hTy6 hPg6
              rw [← hx6] at hTy6 hPg6
              have HY6 := hide hTy6
              have HG6 := hide hPg6
              obtain ⟨m6, hm6⟩ : ∃ m6 : Nat, m6 = s6.log.length := ⟨_, rfl⟩
              have HLa : Hid (∀ w1, Pg base w1 n s6 x6 → Calls Tryz.prog 48 #[.agg (pc n s6 x6)] w1 fun e w' => e = .returned (.tuple #[.int .u64 (m6 : Int), .int .u64 s6.lastT]) ∧ Bel w1 w') := hide (fun w1 hg => by rw [hm6]; exact last_any (Sl.of hg.l).1 (by rw [hlg]; exact hl6))
              have HMe : Hid (∀ w1, Pg base w1 n s6 x6 → Calls Tryz.prog 156 #[.agg (pc n s6 x6), .int .u64 (m6 : Int)] w1 fun e w' => ∃ a' c', e = .returned (.slice a' n c') ∧ E3.O w1.heap.size w' (.slice a' n c') (mem n) ∧ Bel w1 w') := hide (fun w1 hg => by rw [hm6]; exact memb_any (Sl.of hg.b).1 (Sl.of hg.l).1 (by rw [hlg]; exact hk6) (by rw [hlg]; exact hl6) (Sl.of hg.l).2.2 (unhide HN64))
              have HB6 : Hid (base ≤ W.heap.size) := hide (unhide HP).2.1
              clear hc6 hTy6 hPf5 hPg6 hB5 hk6 hl6 hlg hs6 hx6 hm6 hrun5 ho5 hb5 hZ5 hZ4 ho4 hb4 hEnt HAP
              simp [Act.put]
              go_wp2_with (first
                | go_skip
                | go_guarded
                | (refine bx_ldG rfl 56 _ rfl b rfl (pc n s6 x6) _ (unhide HY6).row Tryz.underlying56 (Tryz.size32 _ _ _) ?_)
                | (go_at_call 48; refine ((unhide HLa) _ (unhide HG6)).mono ?_; rintro e w7 ⟨rfl, hb7⟩; replace HY6 := hide ((unhide HY6).next hb7); replace HG6 := hide ((unhide HG6).bel hb7); clear hb7 HLa)
                | (go_at_call 156; refine ((unhide HMe) _ (unhide HG6)).mono ?_; rintro e w8 ⟨a8, c8, rfl, ho8, hb8⟩; have HO8 := hide (ho8.mono (Nat.le_trans (unhide HB6) (unhide HY6).bel.size)); replace HY6 := hide ((unhide HY6).next hb8); replace HG6 := hide ((unhide HG6).bel hb8); clear hb8 ho8 HMe)
                | (refine fl_mem rfl _ _ rfl b a8 c8 rfl rfl (unhide HY6).row ?_; intro w9 hr9 hc9; have HYA := hide ((unhide HY6).set hr9 hc9); have HGA := hide ((unhide HG6).mem (unhide HO8) (unhide HY6).row hc9); clear hr9 hc9 HY6 HG6 HO8)
                | (refine bx_ldG rfl 56 _ rfl b rfl (pc n s6 { x6 with aM := a8, cM := c8 }) _ (unhide HYA).row Tryz.underlying56 (Tryz.size32 _ _ _) ?_)
                | (obtain ⟨s2, x2, n2, h2⟩ := (unhide HYA).row2; refine bx_st rfl 56 _ _ rfl b2 (pc n s6 { x6 with aM := a8, cM := c8 }) _ rfl rfl h2 (Tryz.size32 _ _ _) rfl (pc_one _ _ _) ?_; intro wA hrA hcA; have HRA := hide (And.intro hrA (And.intro ((unhide HYA).out hcA) ((unhide HGA).box h2 hcA))); clear hrA hcA h2))
              rw [unhide HJ]
              exact bodyPost_ret (res2 (p := 6) (q := 7) rfl Tryz.underlying56 (Tryz.size32 _ _ _) (unhide HRA).1 _ _ rfl rfl) rfl ⟨_, rfl, (unhide HRA).2.2, (unhide HRA).2.1⟩
            · clear y10
              rintro e w4 ⟨a4, c4, rfl, ho4, hb4⟩
              refine ⟨_, rfl, trivial, ?_⟩
              have y10 := (Bx.of ((unhide HZd).next hb4).row).c10
              refine any_do (i := 1) (v := .slice x.aL s.log.length x.cL) (w' := w4) (by kernel_rfl) rfl rfl (by go_simp) ⟨trivial, ?_⟩
              clear y10
              refine any_do (i := 4) (v := .slice x.aL st st) (w' := w4) (by kernel_rfl) rfl rfl (by go_simp) ⟨trivial, ?_⟩
              have hZ4 := (unhide HZd).next hb4
              obtain ⟨a5, c5, w5, hrun5, ho5, hb5⟩ := (unhide HAP) w4 a4 c4 hb4 ho4
              refine any_do (i := 9) (v := .slice a5 L'.length c5) (w' := w5) (by kernel_rfl) rfl rfl (app_run24 (.tmp 62) (.tmp 66) (by exact rfl) (by go_simp) (by go_simp) (hrun5 _)) ⟨trivial, ?_⟩
              refine any_do (i := 10) (v := .pointer (some ⟨b, 10, none⟩)) (w' := w5) (by kernel_rfl) rfl rfl (by go_simp) ⟨trivial, ?_⟩
              have hZ5 := hZ4.next hb5
              refine any_skip (i := 11) (w' := w5.setRow b (pc n { s with log := L' } { x with aL := a5, cL := c5 })) (by kernel_rfl) rfl rfl (fld_run 24 (.tmp 68) (.tmp 67) (by exact rfl) b 10 (.slice a5 L'.length c5) (by go_simp) (by go_simp) rfl rfl (pc n s x) 56 hZ5.row Tryz.n24 (by rw [pc_size]; decide)) ⟨trivial, ?_⟩
              refine wpAnyH_done (by kernel_rfl) ?_ _
              have hc6 := ch_row (c' := pc n { s with log := L' } { x with aL := a5, cL := c5 }) hZ5.row
              have hTy6 := hZ5.set hc6.1 hc6.2
              have hPf5 := (unhide HP).1.bel hZ5.bel
              have hB5 : base ≤ w4.heap.size := Nat.le_trans (unhide HP).2.1 hZ4.bel.size
              have hPg6 : Pg base (w5.setRow b (pc n { s with log := L' } { x with aL := a5, cL := c5 })) n { s with log := L' } { x with aL := a5, cL := c5 } := ⟨hPf5.m.box hZ5.row (by decide) hc6.2, hPf5.b.box hZ5.row (by decide) hc6.2, (ho5.mono hB5).box hZ5.row (by decide) hc6.2, hPf5.v.box hZ5.row (by decide) hc6.2, hPf5.f.box hZ5.row (by decide) hc6.2⟩
              generalize w5.setRow b (pc n { s with log := L' } { x with aL := a5, cL := c5 }) = w6 at *
              have hk6 : ∀ e ∈ L', e.k ≠ 2 := (unhide HK2) L' hL2.symm
              have hl6 : L'.length ≤ 1000000 := by
                rw [← hL2, List.length_append, hLL, hDL]
                have := unhide HBH; have h2 := unhide HKL; have h1 := unhide HST; omega
              obtain ⟨s6, hs6⟩ : ∃ s6 : PP, s6 = { s with log := L' } := ⟨_, rfl⟩
              obtain ⟨x6, hx6⟩ : ∃ x6 : Px, x6 = { x with aL := a5, cL := c5 } := ⟨_, rfl⟩
              have hlg : s6.log = L' := by rw [hs6]
              rw [← hs6] at HJ hTy6 hPg6
              rw [← hx6] at hTy6 hPg6
              have HY6 := hide hTy6
              have HG6 := hide hPg6
              obtain ⟨m6, hm6⟩ : ∃ m6 : Nat, m6 = s6.log.length := ⟨_, rfl⟩
              have HLa : Hid (∀ w1, Pg base w1 n s6 x6 → Calls Tryz.prog 48 #[.agg (pc n s6 x6)] w1 fun e w' => e = .returned (.tuple #[.int .u64 (m6 : Int), .int .u64 s6.lastT]) ∧ Bel w1 w') := hide (fun w1 hg => by rw [hm6]; exact last_any (Sl.of hg.l).1 (by rw [hlg]; exact hl6))
              have HMe : Hid (∀ w1, Pg base w1 n s6 x6 → Calls Tryz.prog 156 #[.agg (pc n s6 x6), .int .u64 (m6 : Int)] w1 fun e w' => ∃ a' c', e = .returned (.slice a' n c') ∧ E3.O w1.heap.size w' (.slice a' n c') (mem n) ∧ Bel w1 w') := hide (fun w1 hg => by rw [hm6]; exact memb_any (Sl.of hg.b).1 (Sl.of hg.l).1 (by rw [hlg]; exact hk6) (by rw [hlg]; exact hl6) (Sl.of hg.l).2.2 (unhide HN64))
              have HB6 : Hid (base ≤ W.heap.size) := hide (unhide HP).2.1
              clear hc6 hTy6 hPf5 hPg6 hB5 hk6 hl6 hlg hs6 hx6 hm6 hrun5 ho5 hb5 hZ5 hZ4 ho4 hb4 hEnt HAP
              simp [Act.put]
              go_wp2_with (first
                | go_skip
                | go_guarded
                | (refine bx_ldG rfl 56 _ rfl b rfl (pc n s6 x6) _ (unhide HY6).row Tryz.underlying56 (Tryz.size32 _ _ _) ?_)
                | (go_at_call 48; refine ((unhide HLa) _ (unhide HG6)).mono ?_; rintro e w7 ⟨rfl, hb7⟩; replace HY6 := hide ((unhide HY6).next hb7); replace HG6 := hide ((unhide HG6).bel hb7); clear hb7 HLa)
                | (go_at_call 156; refine ((unhide HMe) _ (unhide HG6)).mono ?_; rintro e w8 ⟨a8, c8, rfl, ho8, hb8⟩; have HO8 := hide (ho8.mono (Nat.le_trans (unhide HB6) (unhide HY6).bel.size)); replace HY6 := hide ((unhide HY6).next hb8); replace HG6 := hide ((unhide HG6).bel hb8); clear hb8 ho8 HMe)
                | (refine fl_mem rfl _ _ rfl b a8 c8 rfl rfl (unhide HY6).row ?_; intro w9 hr9 hc9; have HYA := hide ((unhide HY6).set hr9 hc9); have HGA := hide ((unhide HG6).mem (unhide HO8) (unhide HY6).row hc9); clear hr9 hc9 HY6 HG6 HO8)
                | (refine bx_ldG rfl 56 _ rfl b rfl (pc n s6 { x6 with aM := a8, cM := c8 }) _ (unhide HYA).row Tryz.underlying56 (Tryz.size32 _ _ _) ?_)
                | (obtain ⟨s2, x2, n2, h2⟩ := (unhide HYA).row2; refine bx_st rfl 56 _ _ rfl b2 (pc n s6 { x6 with aM := a8, cM := c8 }) _ rfl rfl h2 (Tryz.size32 _ _ _) rfl (pc_one _ _ _) ?_; intro wA hrA hcA; have HRA := hide (And.intro hrA (And.intro ((unhide HYA).out hcA) ((unhide HGA).box h2 hcA))); clear hrA hcA h2))
              rw [unhide HJ]
              exact bodyPost_ret (res2 (p := 6) (q := 7) rfl Tryz.underlying56 (Tryz.size32 _ _ _) (unhide HRA).1 _ _ rfl rfl) rfl ⟨_, rfl, (unhide HRA).2.2, (unhide HRA).2.1⟩
      · have HMK : Hid (mt s.log bh l = k) := hide ((unhide HNX).2 (by
          rintro ⟨y, hy, _⟩
          have := (List.getElem?_eq_some_iff.1 hy).1
          omega))
        have HTk : Hid (∀ w1, Bel W w1 → Calls Tryz.prog 87 #[.agg (pc n s x), .int .u64 (i1 : Int)] w1 fun e w' => e = .returned (.tuple #[.int .u64 0, .bool false]) ∧ Bel w1 w') := hide (fun w1 hb => (unhide HTO) w1 i1 (by omega) (by omega))
        have hee : l[k].t < 0 → False := fun h => by have := (unhide HET).2; omega
        by_cases hcc : i1 ≤ s.commit
        · have hj : s.join bh l = none := by
            unfold PP.join
            rw [if_neg (by rw [unhide HMK]; omega), if_pos (by rw [unhide HMK]; omega)]
          have HJ := hide hj
          have hc1 : decide ((i1 : Int) ≤ (s.commit : Int)) = true := decide_eq_true (by omega)
          clear hj hi1 HNX hin
          generalize l[k].t = te at *
          generalize l[k].k = ke at *
          generalize l[k].d = de at *
          go_wp2_with (first
            | go_skip
            | go_guarded
            | (refine bx_ldG rfl 56 _ rfl b rfl (pc n s x) _ (((Bel.refl _).alloc _).row (unhide HY).row) Tryz.underlying56 (Tryz.size32 _ _ _) ?_)
            | (go_at_call 87; refine ((unhide HTk) _ ((unhide HY).bel.alloc _)).mono ?_; rintro e w3 ⟨rfl, hb3⟩; have HY3 := hide ((unhide HY).next (((Bel.refl wr).alloc (.cells #[.int .u64 te, .int .u8 ke, .string de, .slice none 0 0] 61)).trans hb3)); have z0 : w3.cell? ⟨wr.heap.size, 0, none⟩ = some (.int .u64 te) := cell_of (hb3.row (at_new wr (.cells #[.int .u64 te, .int .u8 ke, .string de, .slice none 0 0] 61))); have y11 := (Bx.of (unhide HY3).row).c11; have y7 := (Bx.of (unhide HY3).row).c7; have y6 := (Bx.of (unhide HY3).row).c6; clear hb3)
            | (refine bx_ldG rfl 56 _ rfl b rfl (pc n s x) _ (unhide HY3).row Tryz.underlying56 (Tryz.size32 _ _ _) ?_)
            | (obtain ⟨s2, x2, n2, h2⟩ := (unhide HY3).row2; refine bx_st rfl 56 _ _ rfl b2 (pc n s x) _ rfl rfl h2 (Tryz.size32 _ _ _) rfl (pc_one _ _ _) ?_; intro w9 hr9 hc9; have HR9 := hide (And.intro hr9 (And.intro ((unhide HY3).out hc9) (((unhide HP).1.bel (unhide HY3).bel).box h2 hc9).pg)); clear hr9 hc9 h2))
          rw [unhide HJ]
          exact bodyPost_ret (res2 (p := 6) (q := 7) rfl Tryz.underlying56 (Tryz.size32 _ _ _) (unhide HR9).1 _ _ rfl rfl) rfl ⟨_, rfl, (unhide HR9).2.2, (unhide HR9).2.1⟩
        · obtain ⟨L', hL'⟩ : ∃ L', L' = s.log.take (bh + k) ++ l.drop k := ⟨_, rfl⟩
          have hj : s.join bh l = some { s with log := L' } := by
            unfold PP.join
            rw [if_neg (by rw [unhide HMK]; omega), if_neg (by rw [unhide HMK]; omega), unhide HMK, hL']
          have HJ := hide hj
          have HL' := hide hL'
          have hc1 : decide ((i1 : Int) ≤ (s.commit : Int)) = false := decide_eq_false (by omega)
          have hc2 : decide (l[k].t < 0) = false := decide_eq_false hee
          have hw7 : IntKind.u64.wrap ((i1 : Int) - 0) = (i1 : Int) := by rw [Int.sub_zero]; exact wrapU (by omega) (by omega)
          have hw9 : IntKind.u64.wrap (i1 : Int) = (i1 : Int) := wrapU (by omega) (by omega)
          obtain ⟨st, hst⟩ : ∃ st : Nat, st = bh + k := ⟨_, rfl⟩
          have hw8 : IntKind.u64.wrap ((i1 : Int) - 1) = (st : Int) := by rw [wrapU (by omega) (by omega)]; omega
          have HST : Hid (st = bh + k ∧ i1 = st + 1) := hide ⟨hst, by omega⟩
          clear hj hi1 HNX hL' hst hin
          generalize l[k].t = te at *
          generalize l[k].k = ke at *
          generalize l[k].d = de at *
          go_wp2_with (first
            | go_skip
            | go_guarded
            | (refine bx_ldG rfl 56 _ rfl b rfl (pc n s x) _ (((Bel.refl _).alloc _).row (unhide HY).row) Tryz.underlying56 (Tryz.size32 _ _ _) ?_)
            | (go_at_call 87; refine ((unhide HTk) _ ((unhide HY).bel.alloc _)).mono ?_; rintro e w3 ⟨rfl, hb3⟩; have HY3 := hide ((unhide HY).next (((Bel.refl wr).alloc (.cells #[.int .u64 te, .int .u8 ke, .string de, .slice none 0 0] 61)).trans hb3)); have z0 : w3.cell? ⟨wr.heap.size, 0, none⟩ = some (.int .u64 te) := cell_of (hb3.row (at_new wr (.cells #[.int .u64 te, .int .u8 ke, .string de, .slice none 0 0] 61))); have y11 := (Bx.of (unhide HY3).row).c11; have y7 := (Bx.of (unhide HY3).row).c7; have y6 := (Bx.of (unhide HY3).row).c6; clear hb3))
          have hZd := (unhide HY3).next (Bel.refl w3).drew
          have HZd := hide hZd
          have hcL : s.log.length ≤ x.cL := (Sl.of (unhide HP).1.l).2.2
          have hstc : st ≤ x.cL := by have := unhide HST; have := unhide HKL; omega
          have hkc : k < c := by have := unhide HBH; omega
          have hnc : no ≤ c := (unhide HBH).2.2.2.1
          clear HY3 HY HTk z0 y11 y7 y6
          refine wp_region_held_drew (S := fun _ => True) Tryz.follows trivial (fun _ => ?_)
          clear hZd
          generalize w3.drew = wd at *
          refine any_take (i := 0) (v := .pointer (some ⟨b, 10, none⟩)) rfl (by kernel_rfl) (by kernel_rfl) (by kernel_rfl) (fun _ _ _ h => h) rfl trivial (fun w _ => by go_simp) ?_
          refine any_take (i := 2) (v := .int .u64 (st : Int)) rfl (by kernel_rfl) (by kernel_rfl) (by kernel_rfl) (fun _ _ _ h => h) rfl trivial (fun w _ => by go_simp) ?_
          refine any_take (i := 3) (v := .int .u64 (st : Int)) rfl (by kernel_rfl) (by kernel_rfl) (by kernel_rfl) (fun _ _ _ h => h) rfl trivial (fun w _ => by go_simp) ?_
          refine any_take (i := 5) (v := .slice (some ⟨gl, ol, none⟩) no c) rfl (by kernel_rfl) (by kernel_rfl) (by kernel_rfl) (fun _ _ _ h => h) rfl trivial (fun w _ => by go_simp) ?_
          refine any_take (i := 6) (v := .int .i64 (k : Int)) rfl (by kernel_rfl) (by kernel_rfl) (by kernel_rfl) (fun _ _ _ h => h) rfl trivial (fun w _ => by go_simp) ?_
          refine any_take (i := 7) (v := .slice (some ⟨gl, ol + k * 4, none⟩) (no - k) (c - k)) rfl (by kernel_rfl) (by kernel_rfl) (by kernel_rfl) (fun _ _ _ h => h) rfl trivial (fun w _ => by go_simp; intro e; omega) ?_
          have hRk : E69.R wd gl ol l := (unhide HGL).bel (unhide HZd).bel
          have hEnt := entries_cl (W := wd) (a := some ⟨gl, ol + k * 4, none⟩) (n := no - k) (cap := c - k) (l := l.drop k) (by rw [List.length_drop, unhide HNO]) ⟨gl, ol + k * 4, fun _ => rfl, by have := hRk.drop k; exact this⟩ (by omega)
          clear hRk
          have y10 := (Bx.of (unhide HZd).row).c10
          have hLL : (s.log.take st).length = st := by have h1 := unhide HST; have h2 := unhide HKL; simp; omega
          have hDL : (l.drop k).length = no - k := by rw [List.length_drop, unhide HNO]
          have hL2 : s.log.take st ++ l.drop k = L' := by rw [unhide HL', (unhide HST).1]
          have HAP : Hid (∀ w4 a4 c4, Bel wd w4 → E69.O wd.heap.size w4 (.slice a4 (no - k) c4) (l.drop k) → ∃ a5 c5 w5, (∀ ty, (Builtin.append_ #[24, 24] ty #[.slice x.aL st st, .slice a4 (no - k) c4]).run Tryz.prog w4 = .ok (.slice a5 L'.length c5) w5) ∧ E69.O w4.heap.size w5 (.slice a5 L'.length c5) L' ∧ Bel w4 w5) := hide (by
            intro w4 a4 c4 hb4 ho4
            have hlog4 := ((unhide HP).1.bel ((unhide HZd).next hb4).bel)
            have hSl : Sl E69 w4 x.aL (s.log.take st) := by
              obtain ⟨g1, o1, q1, q2⟩ := (Sl.of hlog4.l).1
              exact ⟨g1, o1, fun hq => q1 (by rw [hLL] at hq; have h2 := unhide HKL; have h1 := unhide HST; omega), q2.take st⟩
            obtain ⟨v5, w5, hrun5, ho5, hb5⟩ := app_cut (ad := x.aL) (L1 := s.log.take st) (N := l.drop k) (a2 := a4) (c2 := c4) hSl (by rw [hDL]; exact ho4) (by omega) (by have := unhide HBH; rw [hLL, hDL]; have h2 := unhide HKL; have h1 := unhide HST; omega) 24
            rw [hLL, hDL] at hrun5
            obtain ⟨a5, c5, g5, hv5, _, _, _⟩ := ho5.shape
            rw [hL2] at ho5 hv5
            subst hv5
            exact ⟨a5, c5, w5, fun ty => by rw [← hrun5]; rfl, ho5, hb5⟩)
          refine any_vc (i := 1) (j := 8) (v := .slice x.aL s.log.length x.cL) (by kernel_rfl) rfl rfl rfl rfl (by go_simp) (by go_simp) hEnt ⟨trivial, ?_⟩ ?_
          · clear y10
            refine any_take (i := 4) (v := .slice x.aL st st) rfl (by kernel_rfl) (by kernel_rfl) (by kernel_rfl) (fun _ _ _ h => h) rfl trivial (fun w _ => by go_simp) ?_
            refine any_call (i := 8) (R := fun e w' => ∃ a' c', e = .returned (.slice a' (no - k) c') ∧ E69.O wd.heap.size w' (.slice a' (no - k) c') (l.drop k) ∧ Bel wd w') (by kernel_rfl) rfl rfl (by go_simp) hEnt ?_
            rintro e w4 ⟨a4, c4, rfl, ho4, hb4⟩
            refine ⟨_, rfl, trivial, ?_⟩
            have hZ4 := (unhide HZd).next hb4
            obtain ⟨a5, c5, w5, hrun5, ho5, hb5⟩ := (unhide HAP) w4 a4 c4 hb4 ho4
            refine any_do (i := 9) (v := .slice a5 L'.length c5) (w' := w5) (by kernel_rfl) rfl rfl (app_run24 (.tmp 62) (.tmp 66) (by exact rfl) (by go_simp) (by go_simp) (hrun5 _)) ⟨trivial, ?_⟩
            refine any_do (i := 10) (v := .pointer (some ⟨b, 10, none⟩)) (w' := w5) (by kernel_rfl) rfl rfl (by go_simp) ⟨trivial, ?_⟩
            have hZ5 := hZ4.next hb5
            refine any_skip (i := 11) (w' := w5.setRow b (pc n { s with log := L' } { x with aL := a5, cL := c5 })) (by kernel_rfl) rfl rfl (fld_run 24 (.tmp 68) (.tmp 67) (by exact rfl) b 10 (.slice a5 L'.length c5) (by go_simp) (by go_simp) rfl rfl (pc n s x) 56 hZ5.row Tryz.n24 (by rw [pc_size]; decide)) ⟨trivial, ?_⟩
            refine wpAnyH_done (by kernel_rfl) ?_ _
            have hc6 := ch_row (c' := pc n { s with log := L' } { x with aL := a5, cL := c5 }) hZ5.row
            have hTy6 := hZ5.set hc6.1 hc6.2
            have hPf5 := (unhide HP).1.bel hZ5.bel
            have hB5 : base ≤ w4.heap.size := Nat.le_trans (unhide HP).2.1 hZ4.bel.size
            have hPg6 : Pg base (w5.setRow b (pc n { s with log := L' } { x with aL := a5, cL := c5 })) n { s with log := L' } { x with aL := a5, cL := c5 } := ⟨hPf5.m.box hZ5.row (by decide) hc6.2, hPf5.b.box hZ5.row (by decide) hc6.2, (ho5.mono hB5).box hZ5.row (by decide) hc6.2, hPf5.v.box hZ5.row (by decide) hc6.2, hPf5.f.box hZ5.row (by decide) hc6.2⟩
            generalize w5.setRow b (pc n { s with log := L' } { x with aL := a5, cL := c5 }) = w6 at *
            have hk6 : ∀ e ∈ L', e.k ≠ 2 := (unhide HK2) L' hL2.symm
            have hl6 : L'.length ≤ 1000000 := by
              rw [← hL2, List.length_append, hLL, hDL]
              have := unhide HBH; have h2 := unhide HKL; have h1 := unhide HST; omega
            obtain ⟨s6, hs6⟩ : ∃ s6 : PP, s6 = { s with log := L' } := ⟨_, rfl⟩
            obtain ⟨x6, hx6⟩ : ∃ x6 : Px, x6 = { x with aL := a5, cL := c5 } := ⟨_, rfl⟩
            have hlg : s6.log = L' := by rw [hs6]
            rw [← hs6] at HJ hTy6 hPg6
            rw [← hx6] at hTy6 hPg6
            have HY6 := hide hTy6
            have HG6 := hide hPg6
            obtain ⟨m6, hm6⟩ : ∃ m6 : Nat, m6 = s6.log.length := ⟨_, rfl⟩
            have HLa : Hid (∀ w1, Pg base w1 n s6 x6 → Calls Tryz.prog 48 #[.agg (pc n s6 x6)] w1 fun e w' => e = .returned (.tuple #[.int .u64 (m6 : Int), .int .u64 s6.lastT]) ∧ Bel w1 w') := hide (fun w1 hg => by rw [hm6]; exact last_any (Sl.of hg.l).1 (by rw [hlg]; exact hl6))
            have HMe : Hid (∀ w1, Pg base w1 n s6 x6 → Calls Tryz.prog 156 #[.agg (pc n s6 x6), .int .u64 (m6 : Int)] w1 fun e w' => ∃ a' c', e = .returned (.slice a' n c') ∧ E3.O w1.heap.size w' (.slice a' n c') (mem n) ∧ Bel w1 w') := hide (fun w1 hg => by rw [hm6]; exact memb_any (Sl.of hg.b).1 (Sl.of hg.l).1 (by rw [hlg]; exact hk6) (by rw [hlg]; exact hl6) (Sl.of hg.l).2.2 (unhide HN64))
            have HB6 : Hid (base ≤ W.heap.size) := hide (unhide HP).2.1
            clear hc6 hTy6 hPf5 hPg6 hB5 hk6 hl6 hlg hs6 hx6 hm6 hrun5 ho5 hb5 hZ5 hZ4 ho4 hb4 hEnt HAP
            simp [Act.put]
            go_wp2_with (first
              | go_skip
              | go_guarded
              | (refine bx_ldG rfl 56 _ rfl b rfl (pc n s6 x6) _ (unhide HY6).row Tryz.underlying56 (Tryz.size32 _ _ _) ?_)
              | (go_at_call 48; refine ((unhide HLa) _ (unhide HG6)).mono ?_; rintro e w7 ⟨rfl, hb7⟩; replace HY6 := hide ((unhide HY6).next hb7); replace HG6 := hide ((unhide HG6).bel hb7); clear hb7 HLa)
              | (go_at_call 156; refine ((unhide HMe) _ (unhide HG6)).mono ?_; rintro e w8 ⟨a8, c8, rfl, ho8, hb8⟩; have HO8 := hide (ho8.mono (Nat.le_trans (unhide HB6) (unhide HY6).bel.size)); replace HY6 := hide ((unhide HY6).next hb8); replace HG6 := hide ((unhide HG6).bel hb8); clear hb8 ho8 HMe)
              | (refine fl_mem rfl _ _ rfl b a8 c8 rfl rfl (unhide HY6).row ?_; intro w9 hr9 hc9; have HYA := hide ((unhide HY6).set hr9 hc9); have HGA := hide ((unhide HG6).mem (unhide HO8) (unhide HY6).row hc9); clear hr9 hc9 HY6 HG6 HO8)
              | (refine bx_ldG rfl 56 _ rfl b rfl (pc n s6 { x6 with aM := a8, cM := c8 }) _ (unhide HYA).row Tryz.underlying56 (Tryz.size32 _ _ _) ?_)
              | (obtain ⟨s2, x2, n2, h2⟩ := (unhide HYA).row2; refine bx_st rfl 56 _ _ rfl b2 (pc n s6 { x6 with aM := a8, cM := c8 }) _ rfl rfl h2 (Tryz.size32 _ _ _) rfl (pc_one _ _ _) ?_; intro wA hrA hcA; have HRA := hide (And.intro hrA (And.intro ((unhide HYA).out hcA) ((unhide HGA).box h2 hcA))); clear hrA hcA h2))
            rw [unhide HJ]
            exact bodyPost_ret (res2 (p := 6) (q := 7) rfl Tryz.underlying56 (Tryz.size32 _ _ _) (unhide HRA).1 _ _ rfl rfl) rfl ⟨_, rfl, (unhide HRA).2.2, (unhide HRA).2.1⟩
          · clear y10
            rintro e w4 ⟨a4, c4, rfl, ho4, hb4⟩
            refine ⟨_, rfl, trivial, ?_⟩
            have y10 := (Bx.of ((unhide HZd).next hb4).row).c10
            refine any_do (i := 1) (v := .slice x.aL s.log.length x.cL) (w' := w4) (by kernel_rfl) rfl rfl (by go_simp) ⟨trivial, ?_⟩
            clear y10
            refine any_do (i := 4) (v := .slice x.aL st st) (w' := w4) (by kernel_rfl) rfl rfl (by go_simp) ⟨trivial, ?_⟩
            have hZ4 := (unhide HZd).next hb4
            obtain ⟨a5, c5, w5, hrun5, ho5, hb5⟩ := (unhide HAP) w4 a4 c4 hb4 ho4
            refine any_do (i := 9) (v := .slice a5 L'.length c5) (w' := w5) (by kernel_rfl) rfl rfl (app_run24 (.tmp 62) (.tmp 66) (by exact rfl) (by go_simp) (by go_simp) (hrun5 _)) ⟨trivial, ?_⟩
            refine any_do (i := 10) (v := .pointer (some ⟨b, 10, none⟩)) (w' := w5) (by kernel_rfl) rfl rfl (by go_simp) ⟨trivial, ?_⟩
            have hZ5 := hZ4.next hb5
            refine any_skip (i := 11) (w' := w5.setRow b (pc n { s with log := L' } { x with aL := a5, cL := c5 })) (by kernel_rfl) rfl rfl (fld_run 24 (.tmp 68) (.tmp 67) (by exact rfl) b 10 (.slice a5 L'.length c5) (by go_simp) (by go_simp) rfl rfl (pc n s x) 56 hZ5.row Tryz.n24 (by rw [pc_size]; decide)) ⟨trivial, ?_⟩
            refine wpAnyH_done (by kernel_rfl) ?_ _
            have hc6 := ch_row (c' := pc n { s with log := L' } { x with aL := a5, cL := c5 }) hZ5.row
            have hTy6 := hZ5.set hc6.1 hc6.2
            have hPf5 := (unhide HP).1.bel hZ5.bel
            have hB5 : base ≤ w4.heap.size := Nat.le_trans (unhide HP).2.1 hZ4.bel.size
            have hPg6 : Pg base (w5.setRow b (pc n { s with log := L' } { x with aL := a5, cL := c5 })) n { s with log := L' } { x with aL := a5, cL := c5 } := ⟨hPf5.m.box hZ5.row (by decide) hc6.2, hPf5.b.box hZ5.row (by decide) hc6.2, (ho5.mono hB5).box hZ5.row (by decide) hc6.2, hPf5.v.box hZ5.row (by decide) hc6.2, hPf5.f.box hZ5.row (by decide) hc6.2⟩
            generalize w5.setRow b (pc n { s with log := L' } { x with aL := a5, cL := c5 }) = w6 at *
            have hk6 : ∀ e ∈ L', e.k ≠ 2 := (unhide HK2) L' hL2.symm
            have hl6 : L'.length ≤ 1000000 := by
              rw [← hL2, List.length_append, hLL, hDL]
              have := unhide HBH; have h2 := unhide HKL; have h1 := unhide HST; omega
            obtain ⟨s6, hs6⟩ : ∃ s6 : PP, s6 = { s with log := L' } := ⟨_, rfl⟩
            obtain ⟨x6, hx6⟩ : ∃ x6 : Px, x6 = { x with aL := a5, cL := c5 } := ⟨_, rfl⟩
            have hlg : s6.log = L' := by rw [hs6]
            rw [← hs6] at HJ hTy6 hPg6
            rw [← hx6] at hTy6 hPg6
            have HY6 := hide hTy6
            have HG6 := hide hPg6
            obtain ⟨m6, hm6⟩ : ∃ m6 : Nat, m6 = s6.log.length := ⟨_, rfl⟩
            have HLa : Hid (∀ w1, Pg base w1 n s6 x6 → Calls Tryz.prog 48 #[.agg (pc n s6 x6)] w1 fun e w' => e = .returned (.tuple #[.int .u64 (m6 : Int), .int .u64 s6.lastT]) ∧ Bel w1 w') := hide (fun w1 hg => by rw [hm6]; exact last_any (Sl.of hg.l).1 (by rw [hlg]; exact hl6))
            have HMe : Hid (∀ w1, Pg base w1 n s6 x6 → Calls Tryz.prog 156 #[.agg (pc n s6 x6), .int .u64 (m6 : Int)] w1 fun e w' => ∃ a' c', e = .returned (.slice a' n c') ∧ E3.O w1.heap.size w' (.slice a' n c') (mem n) ∧ Bel w1 w') := hide (fun w1 hg => by rw [hm6]; exact memb_any (Sl.of hg.b).1 (Sl.of hg.l).1 (by rw [hlg]; exact hk6) (by rw [hlg]; exact hl6) (Sl.of hg.l).2.2 (unhide HN64))
            have HB6 : Hid (base ≤ W.heap.size) := hide (unhide HP).2.1
            clear hc6 hTy6 hPf5 hPg6 hB5 hk6 hl6 hlg hs6 hx6 hm6 hrun5 ho5 hb5 hZ5 hZ4 ho4 hb4 hEnt HAP
            simp [Act.put]
            go_wp2_with (first
              | go_skip
              | go_guarded
              | (refine bx_ldG rfl 56 _ rfl b rfl (pc n s6 x6) _ (unhide HY6).row Tryz.underlying56 (Tryz.size32 _ _ _) ?_)
              | (go_at_call 48; refine ((unhide HLa) _ (unhide HG6)).mono ?_; rintro e w7 ⟨rfl, hb7⟩; replace HY6 := hide ((unhide HY6).next hb7); replace HG6 := hide ((unhide HG6).bel hb7); clear hb7 HLa)
              | (go_at_call 156; refine ((unhide HMe) _ (unhide HG6)).mono ?_; rintro e w8 ⟨a8, c8, rfl, ho8, hb8⟩; have HO8 := hide (ho8.mono (Nat.le_trans (unhide HB6) (unhide HY6).bel.size)); replace HY6 := hide ((unhide HY6).next hb8); replace HG6 := hide ((unhide HG6).bel hb8); clear hb8 ho8 HMe)
              | (refine fl_mem rfl _ _ rfl b a8 c8 rfl rfl (unhide HY6).row ?_; intro w9 hr9 hc9; have HYA := hide ((unhide HY6).set hr9 hc9); have HGA := hide ((unhide HG6).mem (unhide HO8) (unhide HY6).row hc9); clear hr9 hc9 HY6 HG6 HO8)
              | (refine bx_ldG rfl 56 _ rfl b rfl (pc n s6 { x6 with aM := a8, cM := c8 }) _ (unhide HYA).row Tryz.underlying56 (Tryz.size32 _ _ _) ?_)
              | (obtain ⟨s2, x2, n2, h2⟩ := (unhide HYA).row2; refine bx_st rfl 56 _ _ rfl b2 (pc n s6 { x6 with aM := a8, cM := c8 }) _ rfl rfl h2 (Tryz.size32 _ _ _) rfl (pc_one _ _ _) ?_; intro wA hrA hcA; have HRA := hide (And.intro hrA (And.intro ((unhide HYA).out hcA) ((unhide HGA).box h2 hcA))); clear hrA hcA h2))
            rw [unhide HJ]
            exact bodyPost_ret (res2 (p := 6) (q := 7) rfl Tryz.underlying56 (Tryz.size32 _ _ _) (unhide HRA).1 _ _ rfl rfl) rfl ⟨_, rfl, (unhide HRA).2.2, (unhide HRA).2.1⟩
    · obtain rfl : k = no := by omega
      have hj : s.join bh l = some s := by
        unfold PP.join
        rw [if_pos (by have := unhide HM; have := mt_le s.log l bh; have := unhide HNO; omega)]
      have HJ := hide hj
      clear hj
      go_wp2_with (first
        | go_skip
        | go_guarded
        | (refine bx_ldG rfl 56 _ rfl b rfl (pc n s x) _ (unhide HY).row Tryz.underlying56 (Tryz.size32 _ _ _) ?_)
        | (obtain ⟨s2, x2, n2, h2⟩ := (unhide HY).row2; refine bx_st rfl 56 _ _ rfl b2 (pc n s x) _ rfl rfl h2 (Tryz.size32 _ _ _) rfl (pc_one _ _ _) ?_; intro w9 hr9 hc9; have HR9 := hide (And.intro hr9 (And.intro ((unhide HY).out hc9) (((unhide HP).1.bel (unhide HY).bel).box h2 hc9).pg)); clear hr9 hc9 h2))
      rw [unhide HJ]
      exact bodyPost_ret (res2 (p := 6) (q := 7) rfl Tryz.underlying56 (Tryz.size32 _ _ _) (unhide HR9).1 _ _ rfl rfl) rfl ⟨_, rfl, (unhide HR9).2.2, (unhide HR9).2.1⟩
end
end Go.Proofs.YthipgcojbhcdgaaGreat
