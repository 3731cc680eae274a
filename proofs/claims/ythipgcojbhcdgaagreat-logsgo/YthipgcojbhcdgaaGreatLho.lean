/- What the law looks at: logs alike, and what is committed. -/
import Derived.Test.YthipgcojbhcdgaaGreatNse
namespace Go.Proofs.YthipgcojbhcdgaaGreat
open Go.RowKit Go.Maps Go.Sort
section
variable {ops : Array Oper} {rest : List Oper} {o : Oper} {a : Act} {Q : Exit → Act → World → Prop} {W : World} {n : Nat}
theorem bxp_st (x y : Operand) (b : Nat) (n : Nat) (s : PP) (z : Px) {n2 : Nat} {s2 : PP} {z2 : Px} (hg : W.heap[b]? = some (.cells (pc n2 s2 z2) 56)) (hgd : o.guard = none) (ho : o.op = .store 56 x y) (hx : a.eval x = .pointer (some ⟨b, 0, none⟩)) (hy : a.eval y = .agg (pc n s z))
    (hK : ∀ w', w'.heap[b]? = some (.cells (pc n s z) 56) → Ch (fun k => k = b) W w' → wpList Tryz.prog ops Q rest (a.put o.dst undef) w') : wpList Tryz.prog ops Q (o :: rest) a W := bx_st hgd 56 x y ho b (pc n s z) _ hx hy hg (Tryz.size32 _ _ _) rfl (pc_one _ _ _) hK
theorem bxp_new (hgd : o.guard = none) (ho : o.op = .alloc 56)
    (hK : ∀ b w', w'.heap[b]? = some (.cells (pc 0 p0 x0) 56) → W.heap.size = b → Bel W w' → wpList Tryz.prog ops Q rest (a.put o.dst (.pointer (some ⟨b, 0, none⟩))) w') : wpList Tryz.prog ops Q (o :: rest) a W := bx_new hgd 56 ho _ Tryz.zero32 hK
theorem elp_ld (x : Operand) (g i : Nat) (s : PP) (z : Px) {base cap m : Nat} {L : List (PP × Px)} (h : (E32 n).O base W (.slice (some ⟨g, 0, none⟩) m cap) L) (hi : i < L.length) (e : L[i] = (s, z)) (hgd : o.guard = none) (ho : o.op = .load 56 x) (hx : a.eval x = .pointer (some ⟨g, i * 18, none⟩))
    (hK : wpList Tryz.prog ops Q rest (a.put o.dst (.agg (pc n s z))) W) : wpList Tryz.prog ops Q (o :: rest) a W := el_ld hgd x ho g i hx h hi Tryz.underlying56 (pc n s z) (by rw [e]; rfl) hK
end
section
variable {o : Oper} {a : Act} {w : World}
theorem one_runE {α : Type} (E : El α) (x : Operand) (v : α) (ho : o.op = .buildSlice E.t 1 #[(0, x)]) (hx : a.eval x = .agg (E.enc v).toArray) (hsm : ¬ 1 * E.k > 2 ^ 24) : (execOp a.eval o).run Tryz.prog w = .ok (.value (.slice (some ⟨w.heap.size, 0, none⟩) 1 1)) (w.alloc (.cells (E.enc v).toArray E.e)) := by
  unfold execOp
  have h2 := run_one E w (E.enc v).toArray (by simp [E.len]) hsm
  simp only [ho, List.map_toArray, List.map_cons, List.map_nil, hx, Sem.run_bind, h2, Result.andThen_ok, Sem.run_pure]
end
section
variable {ops : Array Oper} {Q : Exit → Act → World → Prop} {md : Region.Mode} {S : World → Prop} {i j : Nat} {o o' : Oper} {fuel : Nat} {listed : Array Bool} {a : Act} {w : World}
/-- Either of two values may come up. -/
theorem any_twoV {vi vj : Value} {wi wj : World} (hr : Region.ready md ops listed = [i, j]) (hi : ops[i]? = some o) (hj : ops[j]? = some o') (hwi : Region.wanted o (yielded ops a.tmps) = true) (hwj : Region.wanted o' (yielded ops a.tmps) = true) (hi2 : (execOp a.eval o).run Tryz.prog w = .ok (.value vi) wi) (hj2 : (execOp a.eval o').run Tryz.prog w = .ok (.value vj) wj)
    (hKi : S wi ∧ wpAnyH Tryz.prog md ops Q S fuel (listed.setIfInBounds i true) (a.put o.dst vi) wi) (hKj : S wj ∧ wpAnyH Tryz.prog md ops Q S fuel (listed.setIfInBounds j true) (a.put o'.dst vj) wj) : wpAnyH Tryz.prog md ops Q S (fuel + 1) listed a w := by
  refine wpAnyH_all hr (by simp) (fun k hk => ?_)
  rcases List.mem_cons.1 hk with rfl | hk
  · unfold wpOp
    simp only [hi, hwi, if_true, Oper.wp, hi2, Oper.upon_value]
    exact .inl hKi
  · rw [List.mem_singleton.1 hk]
    unfold wpOp
    simp only [hj, hwj, if_true, Oper.wp, hj2, Oper.upon_value]
    exact .inl hKj
end
/-- A group, and a copy of one of its members in a box. -/
structure Hs (W : World) (n b gP cP : Nat) (vW vD : Value) (L : List (PP × Px)) (Q : List (QM × Option Addr × Nat)) (D : List PE) (b5 : Nat) (s : PP) (x : Px) (w : World) : Prop where
  gs : Gs W n b gP cP vW vD L Q D w
  row : w.heap[b5]? = some (.cells (pc n s x) 56)
section
variable {W w w' : World} {n b gP cP b5 : Nat} {vW vD : Value} {L : List (PP × Px)} {Q : List (QM × Option Addr × Nat)} {D : List PE} {s : PP} {x : Px}
theorem Hs.next (h : Hs W n b gP cP vW vD L Q D b5 s x w) (hb : Bel w w') : Hs W n b gP cP vW vD L Q D b5 s x w' := ⟨h.gs.next hb, hb.row h.row⟩
end
/-- What is committed, as far as it was looked at. -/
def dnI (dn : List PE) (s : PP) (i : Nat) : List PE := dn ++ (s.log.take i).drop dn.length
theorem dnI_start (dn : List PE) (s : PP) : dnI dn s dn.length = dn := by
  unfold dnI
  rw [List.drop_of_length_le (by simp; omega)]
  simp
theorem dnI_succ (dn : List PE) (s : PP) {i : Nat} (h1 : dn.length ≤ i) (h2 : i < s.log.length) : dnI dn s (i + 1) = dnI dn s i ++ [s.log[i]] := by
  unfold dnI
  rw [List.take_add_one, List.getElem?_eq_getElem h2, List.append_assoc]
  congr 1
  rw [List.drop_append_of_le_length (by simp; omega)]
  rfl
theorem dnI_len (dn : List PE) (s : PP) {i : Nat} (h1 : dn.length ≤ i) (h2 : i ≤ s.log.length) : (dnI dn s i).length = i := by
  unfold dnI
  simp
  omega
theorem dnI_end (dn : List PE) (s : PP) {i : Nat} (h1 : dn.length ≤ i) (h2 : i ≤ max dn.length s.commit) (h3 : s.commit ≤ i) : dnI dn s i = doneUp dn s := by
  by_cases h : s.commit ≤ dn.length
  · obtain rfl : i = dn.length := by omega
    rw [dnI_start]
    unfold doneUp
    rw [List.drop_of_length_le (by simp; omega)]
    simp
  · obtain rfl : i = s.commit := by omega
    rfl
theorem one_of {l : List PE} {k : Nat} (hk : k < l.length) : (l.drop k).take 1 = [l[k]] := by
  rw [List.drop_eq_getElem_cons hk]
  rfl
/-- One entry of a row. -/
theorem El.O.one {base : Nat} {w : World} {g m cap : Nat} {l : List PE} (h : E69.O base w (.slice (some ⟨g, 0, none⟩) m cap) l) {k : Nat} (hk : k < l.length) : E69.R w g (k * 4) [l[k]] := by
  have hm : m = l.length := by
    obtain ⟨a', c', g', e, _⟩ := h.shape
    injection e with _ e2
  subst hm
  have := (h.row.drop k).take 1
  rw [one_of hk] at this
  have e : 0 + k * E69.k = k * 4 := by show 0 + k * 4 = k * 4; omega
  rw [e] at this
  exact this
theorem Sl.one {w : World} {g o : Nat} {x : PE} (h : E69.R w g o [x]) : Sl E69 w (some ⟨g, o, none⟩) [x] := ⟨g, o, fun _ => rfl, h⟩
theorem Al.dnlen {n T G : Nat} {ps : List PP} {way : List QM} {dn : List PE} (h : Al n T G ps way dn) : dn.length ≤ G := by
  obtain ⟨g, h⟩ := h
  by_cases h0 : dn.length = 0
  · omega
  · obtain ⟨t, j, _, _, _, i, hi, _, h5⟩ := h.dn (dn.length - 1) (by omega)
    have hok := (h.inv.ok i hi).1
    have h1 := hok.com
    have h2 := hok.glen
    omega
section
variable {W w : World} {n b gP cP T G : Nat} {vW vD : Value} {L : List (PP × Px)} {Q : List (QM × Option Addr × Nat)} {dn : List PE}
set_option maxRecDepth 100000 in
set_option maxHeartbeats 16000000 in
theorem holds_any (h : Gs W n b gP cP vW vD L Q dn w) (hal : Al n T G (L.map (·.1)) (Q.map (·.1)) dn) (hn : n ≤ 64) (hG : G ≤ 900000) {q : Nat} (hq : q < L.length) : Calls Tryz.prog 45 #[.pointer (some ⟨b, 0, none⟩), .int .i64 (q : Int)] w fun e w' => e = .returned (.bool true) ∧ ∃ vD', Gs W n b gP cP vW vD' L Q (doneUp dn L[q].1) w' := by
  have hln := h.len
  have hdn := hal.dnlen
  obtain ⟨s, x, hsx⟩ : ∃ s x, L[q] = (s, x) := ⟨_, _, rfl⟩
  have hs1 : L[q].1 = s := by rw [hsx]
  rw [hs1]
  obtain ⟨D0, hD0⟩ : ∃ D0, D0 = doneUp dn s := ⟨_, rfl⟩
  rw [← hD0]
  have HD0 := hide hD0
  clear hD0 hs1
  have hqm : q < (L.map (·.1)).length := by simpa using hq
  have hgm : (L.map (·.1))[q] = s := by simp [hsx]
  have hok : Ok n T G s := by have := (hal.ok hqm).1; rwa [hgm] at this
  have hgl := hok.glen
  have hcom := hok.com
  have hqn : (q : Int) < n := by omega
  have hwc : IntKind.i64.wrap (s.commit : Int) = (s.commit : Int) := wrapI (by omega) (by omega)
  obtain ⟨aD, cD, gD, eD, _, _, _⟩ := h.dO.shape
  rw [eD] at h
  have y0 := h.c0
  have HG := hide h
  have HAL0 := hide hal
  have HSX := hide hsx
  have HQL : Hid (q < L.length) := hide hq
  have HOK := hide hok
  have HBD : Hid (dn.length ≤ 900000 ∧ s.log.length ≤ 900000 ∧ s.commit ≤ s.log.length ∧ n ≤ 64 ∧ n = L.length) := hide ⟨by omega, by omega, hcom, hn, hln.symm⟩
  clear h hal hsx hok hdn hgl hqm hgm hln eD
  go_enter Tryz.func45, Tryz.ntmps45
  go_wp2_with (first
    | (with_reducible refine elp_ld (.tmp 17) gP q s x (unhide HG).row (unhide HQL) (unhide HSX) ?_ ?_ ?_ ?_; exact rfl; exact rfl; (first | exact rfl | simp [Act.eval]))
    | (with_reducible refine bxp_new ?_ ?_ ?_; exact rfl; exact rfl; intro b5 w3 hr3 hs3 hb3; have HR3 := hide (And.intro hr3 (And.intro hs3 hb3)); clear hr3 hs3 hb3)
    | (with_reducible refine bxp_st (.tmp 5) (.tmp 18) b5 n s x (unhide HR3).1 ?_ ?_ ?_ ?_ ?_; exact rfl; exact rfl; (first | exact rfl | simp [Act.put, Act.eval]); (first | exact rfl | simp [Act.put, Act.eval]); intro w4 hr4 hc4; have HS : Hid (Hs W n b gP cP vW (.slice aD dn.length cD) L Q dn b5 s x w4) := hide ⟨(unhide HG).next (bel_off (unhide HR3).2.2 hc4 (Nat.le_of_eq (unhide HR3).2.1)), hr4⟩; have y2 := (unhide HS).gs.c2; clear hr4 hc4 HR3 HG))
  go_loopw [6] (fun v6 wr => ∃ (i : Nat) (aD : Option Addr) (cD : Nat), dn.length ≤ i ∧ i ≤ max dn.length s.commit ∧ v6 = .int .i64 i ∧ Hid (Hs W n b gP cP vW (.slice aD i cD) L Q (dnI dn s i) b5 s x wr)) (fun v6 _ => max dn.length s.commit - (intOf v6).toNat)
  case atStart => exact ⟨dn.length, aD, cD, Nat.le_refl _, Nat.le_max_left _ _, rfl, hide (by rw [dnI_start]; exact unhide HS)⟩
  case round =>
    clear y0 y2 HS
    obtain ⟨i, aD, cD, hi1, hi2, rfl, HS⟩ := hrel
    have y11 := (Bx.of (unhide HS).row).c11
    by_cases hlt : i < s.commit
    · have hil : i < s.log.length := by have := unhide HBD; omega
      have hli : (i : Int) < (s.commit : Int) := by omega
      have hil2 : (i : Int) < (s.log.length : Int) := by omega
      have hi9 : i ≤ 900000 := by have := unhide HBD; omega
      obtain ⟨gL, hgL⟩ : ∃ gL, x.aL = some ⟨gL, 0, none⟩ := by
        have := ((unhide HS).gs.pf _ (List.getElem_mem (unhide HQL))).l
        rw [unhide HSX] at this
        obtain ⟨a', c', g', e, h1, _⟩ := this.shape
        injection e with e1
        have hl0 : s.log.length ≠ 0 := by omega
        exact ⟨g', by rw [e1]; exact h1 hl0⟩
      have HAL := hide hgL
      have HLO : Hid (E69.O 0 wr (.slice (some ⟨gL, 0, none⟩) s.log.length x.cL) s.log) := hide (by
        have := ((unhide HS).gs.pf _ (List.getElem_mem (unhide HQL))).l
        rw [unhide HSX] at this
        rw [← hgL]
        exact this)
      obtain ⟨ea, hea⟩ : ∃ ea, (encE (s.log[i]'hil)).toArray = ea := ⟨_, rfl⟩
      have HEA := hide hea
      clear hea
      have HDL : Hid ((dnI dn s i).length = i) := hide (dnI_len dn s hi1 (by omega))
      have HDS : Hid (dnI dn s (i + 1) = dnI dn s i ++ [s.log[i]'hil]) := hide (dnI_succ dn s hi1 hil)
      clear hgL
      go_wp2_with fail
      have hSS : (wr.drew).heap[b5]? = some (.cells (pc n s x) 56) ∧ E69.O 0 wr.drew (.slice (some ⟨gL, 0, none⟩) s.log.length x.cL) s.log := ⟨((Bel.refl wr).drew).row (unhide HS).row, (unhide HLO).bel (Bel.refl wr).drew⟩
      have hGd := (unhide HS).gs.next (Bel.refl wr).drew
      refine wp_region_held_drew (S := fun w => w.heap[b5]? = some (.cells (pc n s x) 56) ∧ E69.O 0 w (.slice (some ⟨gL, 0, none⟩) s.log.length x.cL) s.log) Tryz.follows hSS (fun hS => ?_)
      clear hSS
      generalize wr.drew = wd at *
      refine any_take (i := 0) (v := .pointer (some ⟨b, 0, none⟩)) rfl (by kernel_rfl) (by kernel_rfl) (by kernel_rfl) (fun _ _ _ h => h) rfl hS (fun w hw => by go_simp) ?_
      refine any_take (i := 1) (v := .pointer (some ⟨b, 0, none⟩)) rfl (by kernel_rfl) (by kernel_rfl) (by kernel_rfl) (fun _ _ _ h => h) rfl hS (fun w hw => by go_simp) ?_
      refine any_take (i := 2) (v := .pointer (some ⟨b, 0, none⟩)) rfl (by kernel_rfl) (by kernel_rfl) (by kernel_rfl) (fun _ _ _ h => h) rfl hS (fun w hw => by go_simp) ?_
      refine any_take (i := 3) (v := .pointer (some ⟨b, 2, none⟩)) rfl (by kernel_rfl) (by kernel_rfl) (by kernel_rfl) (fun _ _ _ h => h) rfl hS (fun w hw => by go_simp) ?_
      refine any_take (i := 5) (v := .pointer (some ⟨b5, 10, none⟩)) rfl (by kernel_rfl) (by kernel_rfl) (by kernel_rfl) (fun _ _ _ h => h) rfl hS (fun w hw => by go_simp) ?_
      refine any_take (i := 6) (v := .slice (some ⟨gL, 0, none⟩) s.log.length x.cL) rfl (by kernel_rfl) (by kernel_rfl) (by kernel_rfl) (fun _ _ _ h => h) rfl hS (fun w hw => by have := (Bx.of hw.1).c10; rw [unhide HAL] at this; go_simp) ?_
      refine any_take (i := 7) (v := .int .i64 (i : Int)) rfl (by kernel_rfl) (by kernel_rfl) (by kernel_rfl) (fun _ _ _ h => h) rfl hS (fun w hw => by go_simp) ?_
      refine any_take (i := 8) (v := .pointer (some ⟨gL, i * 4, none⟩)) rfl (by kernel_rfl) (by kernel_rfl) (by kernel_rfl) (fun _ _ _ h => h) rfl hS (fun w hw => by go_simp) ?_
      refine any_take (i := 9) (v := .agg ea) rfl (by kernel_rfl) (by kernel_rfl) (by kernel_rfl) (fun _ _ _ h => h) rfl hS (fun w hw => el_ld_run (E := E69) (.tmp 39) (by exact rfl) gL i (by show _ = Value.pointer (some ⟨gL, i * 4, none⟩); go_simp) hw.2 hil Tryz.underlying61 ea (by rw [← unhide HEA]; rfl)) ?_
      have y2 := hGd.c2
      have hA := (Bel.refl wd).alloc (.cells (encE (s.log[i]'hil)).toArray 61)
      have hGA := hGd.next hA
      have hSA : (wd.alloc (.cells (encE (s.log[i]'hil)).toArray 61)).heap[b5]? = some (.cells (pc n s x) 56) ∧ E69.O 0 (wd.alloc (.cells (encE (s.log[i]'hil)).toArray 61)) (.slice (some ⟨gL, 0, none⟩) s.log.length x.cL) s.log := ⟨hA.row hS.1, hS.2.bel hA⟩
      refine any_twoV (i := 4) (j := 10) (vi := .slice aD i cD) (wi := wd) (vj := .slice (some ⟨wd.heap.size, 0, none⟩) 1 1) (wj := wd.alloc (.cells (encE (s.log[i]'hil)).toArray 61)) (by kernel_rfl) (by exact rfl) (by exact rfl) (by exact rfl) (by exact rfl) (by go_simp) (one_runE E69 (.tmp 40) (s.log[i]'hil) (by exact rfl) (by show _ = Value.agg (encE (s.log[i]'hil)).toArray; rw [unhide HEA]; go_simp) (by decide)) ⟨hS, ?_⟩ ⟨hSA, ?_⟩
      all_goals clear y2
      rotate_left
      · have y2 := hGA.c2
        refine any_do (i := 4) (v := .slice aD i cD) (w' := wd.alloc (.cells (encE (s.log[i]'hil)).toArray 61)) (by kernel_rfl) rfl rfl (by go_simp) ⟨hSA, ?_⟩
        clear y2
        have hnw := at_new wd (.cells (encE (s.log[i]'hil)).toArray 61)
        have hwd : wd.heap.size ≤ (wd.alloc (.cells (encE (s.log[i]'hil)).toArray 61)).heap.size := hA.size
        clear hS hGd hA
        generalize hBB : wd.heap.size = B at *
        generalize wd.alloc (.cells (encE (s.log[i]'hil)).toArray 61) = we at *
        have hDl : (dnI dn s i).length = i := unhide HDL
        obtain ⟨g7, c7, w7, hrun, ho7, hg7, hat7⟩ := El.run_app1 (E := E69) we W.heap.size (.slice aD i cD) (dnI dn s i) hGA.dO hGA.bel.size (s.log[i]'hil) B 1 hnw (by omega) 24
        have hS7 : w7.heap[b5]? = some (.cells (pc n s x) 56) ∧ E69.O 0 w7 (.slice (some ⟨gL, 0, none⟩) s.log.length x.cL) s.log := ⟨row_grown hSA.1 hGA.dO hg7 (by decide), hSA.2.apart hGA.dO hg7 (fun k hk => by
          have := hGA.dl _ (List.getElem_mem (unhide HQL)) k
          rw [unhide HSX] at this
          dsimp only at this
          rw [unhide HAL] at this
          exact this hk)⟩
        rw [hDl] at hrun ho7
        refine any_do (i := 11) (v := .slice (some ⟨g7, 0, none⟩) (i + 1) c7) (w' := w7) (by kernel_rfl) rfl rfl (app_run24 (.tmp 35) (.tmp 41) (by exact rfl) (by go_simp) (by go_simp) hrun) ⟨hS7, ?_⟩
        refine any_do (i := 12) (v := .pointer (some ⟨b, 0, none⟩)) (w' := w7) (by kernel_rfl) rfl rfl (by go_simp) ⟨hS7, ?_⟩
        refine any_do (i := 13) (v := .pointer (some ⟨b, 2, none⟩)) (w' := w7) (by kernel_rfl) rfl rfl (by go_simp) ⟨hS7, ?_⟩
        have hbx7 := row_grown hGA.box hGA.dO hg7 (by decide)
        have hcc := ch_row (c' := gc n gP cP vW (.slice (some ⟨g7, 0, none⟩) (i + 1) c7)) hbx7
        have hGN := hGA.joinD (dn' := dnI dn s i ++ [s.log[i]'hil]) (vD' := .slice (some ⟨g7, 0, none⟩) (i + 1) c7) ho7 hg7 (fun k hk => by cases hk; exact hat7.elim Or.inl (fun e => Or.inr (Nat.le_of_eq e.symm))) hcc.1 hcc.2
        have hS8 : (w7.setRow b (gc n gP cP vW (.slice (some ⟨g7, 0, none⟩) (i + 1) c7))).heap[b5]? = some (.cells (pc n s x) 56) ∧ E69.O 0 (w7.setRow b (gc n gP cP vW (.slice (some ⟨g7, 0, none⟩) (i + 1) c7))) (.slice (some ⟨gL, 0, none⟩) s.log.length x.cL) s.log := ⟨hcc.2.row hS7.1 (ne_kind hS7.1 hbx7 (by decide)), hS7.2.box hbx7 (by decide) hcc.2⟩
        refine any_skip (i := 14) (w' := w7.setRow b (gc n gP cP vW (.slice (some ⟨g7, 0, none⟩) (i + 1) c7))) (by kernel_rfl) rfl rfl (fld_run 24 (.tmp 44) (.tmp 42) (by exact rfl) b 2 (.slice (some ⟨g7, 0, none⟩) (i + 1) c7) (by go_simp) (by go_simp) rfl rfl (gc n gP cP vW (.slice aD i cD)) 51 hbx7 Tryz.n24 (by show 2 < 3; decide)) ⟨hS8, ?_⟩
        refine wpAnyH_done (by kernel_rfl) ?_ _
        have HSN : Hid (Hs W n b gP cP vW (.slice (some ⟨g7, 0, none⟩) (i + 1) c7) L Q (dnI dn s (i + 1)) b5 s x (w7.setRow b (gc n gP cP vW (.slice (some ⟨g7, 0, none⟩) (i + 1) c7)))) := hide ⟨by rw [unhide HDS]; exact hGN, hS8.1⟩
        clear hGN hS8 hcc hbx7 hS7 hat7 hg7 ho7 hrun hSA hGA hnw hwd hBB hDl
        generalize w7.setRow b (gc n gP cP vW (.slice (some ⟨g7, 0, none⟩) (i + 1) c7)) = wn at *
        simp [Act.put]
        go_wp2_with fail
        go_roundw
        case rel => exact ⟨i + 1, some ⟨g7, 0, none⟩, c7, by omega, by omega, by go_num, HSN⟩
        case measure => simp [intOf]; omega
      refine any_do (i := 10) (v := .slice (some ⟨wd.heap.size, 0, none⟩) 1 1) (w' := wd.alloc (.cells (encE (s.log[i]'hil)).toArray 61)) (by kernel_rfl) rfl rfl (one_runE E69 (.tmp 40) (s.log[i]'hil) (by exact rfl) (by show _ = Value.agg (encE (s.log[i]'hil)).toArray; rw [unhide HEA]; go_simp) (by decide)) ⟨hSA, ?_⟩
      have hnw := at_new wd (.cells (encE (s.log[i]'hil)).toArray 61)
      have hwd : wd.heap.size ≤ (wd.alloc (.cells (encE (s.log[i]'hil)).toArray 61)).heap.size := hA.size
      clear hS hGd hA
      generalize hBB : wd.heap.size = B at *
      generalize wd.alloc (.cells (encE (s.log[i]'hil)).toArray 61) = we at *
      have hDl : (dnI dn s i).length = i := unhide HDL
      obtain ⟨g7, c7, w7, hrun, ho7, hg7, hat7⟩ := El.run_app1 (E := E69) we W.heap.size (.slice aD i cD) (dnI dn s i) hGA.dO hGA.bel.size (s.log[i]'hil) B 1 hnw (by omega) 24
      have hS7 : w7.heap[b5]? = some (.cells (pc n s x) 56) ∧ E69.O 0 w7 (.slice (some ⟨gL, 0, none⟩) s.log.length x.cL) s.log := ⟨row_grown hSA.1 hGA.dO hg7 (by decide), hSA.2.apart hGA.dO hg7 (fun k hk => by
        have := hGA.dl _ (List.getElem_mem (unhide HQL)) k
        rw [unhide HSX] at this
        dsimp only at this
        rw [unhide HAL] at this
        exact this hk)⟩
      rw [hDl] at hrun ho7
      refine any_do (i := 11) (v := .slice (some ⟨g7, 0, none⟩) (i + 1) c7) (w' := w7) (by kernel_rfl) rfl rfl (app_run24 (.tmp 35) (.tmp 41) (by exact rfl) (by go_simp) (by go_simp) hrun) ⟨hS7, ?_⟩
      refine any_do (i := 12) (v := .pointer (some ⟨b, 0, none⟩)) (w' := w7) (by kernel_rfl) rfl rfl (by go_simp) ⟨hS7, ?_⟩
      refine any_do (i := 13) (v := .pointer (some ⟨b, 2, none⟩)) (w' := w7) (by kernel_rfl) rfl rfl (by go_simp) ⟨hS7, ?_⟩
      have hbx7 := row_grown hGA.box hGA.dO hg7 (by decide)
      have hcc := ch_row (c' := gc n gP cP vW (.slice (some ⟨g7, 0, none⟩) (i + 1) c7)) hbx7
      have hGN := hGA.joinD (dn' := dnI dn s i ++ [s.log[i]'hil]) (vD' := .slice (some ⟨g7, 0, none⟩) (i + 1) c7) ho7 hg7 (fun k hk => by cases hk; exact hat7.elim Or.inl (fun e => Or.inr (Nat.le_of_eq e.symm))) hcc.1 hcc.2
      have hS8 : (w7.setRow b (gc n gP cP vW (.slice (some ⟨g7, 0, none⟩) (i + 1) c7))).heap[b5]? = some (.cells (pc n s x) 56) ∧ E69.O 0 (w7.setRow b (gc n gP cP vW (.slice (some ⟨g7, 0, none⟩) (i + 1) c7))) (.slice (some ⟨gL, 0, none⟩) s.log.length x.cL) s.log := ⟨hcc.2.row hS7.1 (ne_kind hS7.1 hbx7 (by decide)), hS7.2.box hbx7 (by decide) hcc.2⟩
      refine any_skip (i := 14) (w' := w7.setRow b (gc n gP cP vW (.slice (some ⟨g7, 0, none⟩) (i + 1) c7))) (by kernel_rfl) rfl rfl (fld_run 24 (.tmp 44) (.tmp 42) (by exact rfl) b 2 (.slice (some ⟨g7, 0, none⟩) (i + 1) c7) (by go_simp) (by go_simp) rfl rfl (gc n gP cP vW (.slice aD i cD)) 51 hbx7 Tryz.n24 (by show 2 < 3; decide)) ⟨hS8, ?_⟩
      refine wpAnyH_done (by kernel_rfl) ?_ _
      have HSN : Hid (Hs W n b gP cP vW (.slice (some ⟨g7, 0, none⟩) (i + 1) c7) L Q (dnI dn s (i + 1)) b5 s x (w7.setRow b (gc n gP cP vW (.slice (some ⟨g7, 0, none⟩) (i + 1) c7)))) := hide ⟨by rw [unhide HDS]; exact hGN, hS8.1⟩
      clear hGN hS8 hcc hbx7 hS7 hat7 hg7 ho7 hrun hSA hGA hnw hwd hBB hDl
      generalize w7.setRow b (gc n gP cP vW (.slice (some ⟨g7, 0, none⟩) (i + 1) c7)) = wn at *
      simp [Act.put]
      go_wp2_with fail
      go_roundw
      case rel => exact ⟨i + 1, some ⟨g7, 0, none⟩, c7, by omega, by omega, by go_num, HSN⟩
      case measure => simp [intOf]; omega
    · have hli : ¬ ((i : Int) < (s.commit : Int)) := by omega
      have hlc : s.commit ≤ i := by omega
      have HD1 : Hid (Al n T G (L.map (·.1)) (Q.map (·.1)) (dnI dn s i) ∧ s.log.take s.commit <+: dnI dn s i) := hide (by
        rw [dnI_end dn s hi1 hi2 hlc]
        have hqm : q < (L.map (·.1)).length := by simpa using hq
        have hgm : (L.map (·.1))[q] = s := by have := unhide HSX; simp [this]
        have := (unhide HAL0).hold1 hqm
        rwa [hgm] at this)
      have hDl : (dnI dn s i).length = i := by
        obtain ⟨a', c', g', e, _⟩ := (unhide HS).gs.dO.shape
        injection e with _ e2
        exact e2.symm
      have hi9 : i ≤ 900000 := by have := unhide HBD; omega
      obtain ⟨D, hD⟩ : ∃ D, D = dnI dn s i := ⟨_, rfl⟩
      have hDD : D = D0 := by rw [hD, unhide HD0]; exact dnI_end dn s hi1 hi2 hlc
      rw [← hD] at HD1 hDl HS
      clear hD HAL0 hi1 hi2 HD0
      subst hDD
      have HCL : Hid (s.log.length ≤ x.cL ∧ D.length ≤ cD ∧ (s.log.length ≠ 0 → ∃ gL, x.aL = some ⟨gL, 0, none⟩) ∧ (D.length ≠ 0 → ∃ gD, aD = some ⟨gD, 0, none⟩)) := hide (by
        have h1 := ((unhide HS).gs.pf _ (List.getElem_mem (unhide HQL))).l
        rw [unhide HSX] at h1
        obtain ⟨a', c', g', e, h2, _, h3⟩ := h1.shape
        obtain ⟨a2, c2, g2, e2, h4, _, h5⟩ := (unhide HS).gs.dO.shape
        injection e with e1 _ e3
        injection e2 with e4 _ e5
        subst e4 e5
        refine ⟨by rw [show x.cL = c' from e3]; exact h3, h5, fun h0 => ⟨g', by rw [show x.aL = a' from e1]; exact h2 h0⟩, fun h0 => ⟨g2, h4 h0⟩⟩)
      have HHS : Hid (∀ w', Hs W n b gP cP vW (.slice aD i cD) L Q D b5 s x w' → E69.O 0 w' (.slice x.aL s.log.length x.cL) s.log ∧ E69.O W.heap.size w' (.slice aD i cD) D) := hide (fun w' hs => ⟨by
        have h1 := (hs.gs.pf _ (List.getElem_mem (unhide HQL))).l
        rw [unhide HSX] at h1
        exact h1, hs.gs.dO⟩)
      go_wp2_with fail
      clear y11
      go_loopw [7] (fun v7 wr => ∃ (k : Nat), k ≤ s.commit ∧ v7 = .int .i64 k ∧ Hid (Hs W n b gP cP vW (.slice aD i cD) L Q D b5 s x wr)) (fun v7 _ => s.commit - (intOf v7).toNat)
      case atStart => exact ⟨0, Nat.zero_le _, rfl, HS⟩
      case round =>
        clear HS
        obtain ⟨k, hk, rfl, HS⟩ := hrel
        have y11 := (Bx.of (unhide HS).row).c11
        by_cases hkc : k < s.commit
        · have hkl : k < s.log.length := by have := unhide HBD; omega
          have hkD : k < D.length := by omega
          have hkci : (k : Int) < (s.commit : Int) := by omega
          obtain ⟨gL, hgL⟩ := (unhide HCL).2.2.1 (by omega)
          obtain ⟨gD, hgD⟩ := (unhide HCL).2.2.2 (by omega)
          subst hgD
          have heq : D[k] = s.log[k] := by
            have := (unhide HD1).2.getElem (i := k) (by simp; omega)
            rw [← this, List.getElem_take]
          have HSm : Hid (∀ p : BelBy wr, Calls Tryz.prog 33 #[.slice (some ⟨gL, k * 4, none⟩) 1 (x.cL - k), .slice (some ⟨gD, k * 4, none⟩) 1 (cD - k)] p.W fun e w' => e = .returned (.bool true) ∧ Bel p.W w') := hide (fun p => by
            have h1 := (unhide HHS) p.W ((unhide HS).next p.h)
            rw [hgL] at h1
            have r1 := h1.1.one hkl
            have r2 := h1.2.one hkD
            rw [heq] at r2
            exact samee_any (l := [s.log[k]]) (Sl.one r1) (Sl.one r2) (by simp))
          have p10 : ∀ p : BelBy wr, p.W.cell? ⟨b5, 10, none⟩ = some (.slice (some ⟨gL, 0, none⟩) s.log.length x.cL) := fun p => by rw [← hgL]; exact (Bx.of ((unhide HS).next p.h).row).c10
          have p2 : ∀ p : BelBy wr, p.W.cell? ⟨b, 2, none⟩ = some (.slice (some ⟨gD, 0, none⟩) i cD) := fun p => ((unhide HS).next p.h).gs.c2
          have hne := BelBy.some wr
          have hw1 : IntKind.i64.wrap ((k : Int) + 1) = ((k + 1 : Nat) : Int) := by rw [wrapI (by omega) (by omega)]; omega
          have hc1 : ¬ (x.cL = k) := by have := (unhide HCL).1; omega
          have hc2 : ¬ (cD = k) := by have := (unhide HCL).2.1; omega
          have hb1 : ((k + 1 : Nat) : Int) ≤ (x.cL : Int) := by have := (unhide HCL).1; omega
          have hb2 : ((k + 1 : Nat) : Int) ≤ (cD : Int) := by have := (unhide HCL).2.1; omega
          have hb3 : (k : Int) ≤ ((k + 1 : Nat) : Int) := by omega
          clear heq hgL
          go_wp2_with fail
          refine wp_region_bel Tryz.follows (by kernel_rfl) ?_
          repeat (go_big_quiet_step (first | (go_at_call 33; refine calls_by ((unhide HSm) _))))
          refine wpQuiet_nil ?_
          rintro W1 ⟨p9, rfl⟩
          have HS9 := hide ((unhide HS).next p9.h)
          generalize p9.W = W9 at HS9 ⊢
          go_wp2_with fail
          go_roundw
          case rel => exact ⟨k + 1, by omega, by go_num, HS9⟩
          case measure => simp [intOf]; omega
        · have hkci : ¬ ((k : Int) < (s.commit : Int)) := by omega
          go_wp2_with fail
          clear y11 hkc hkci
          go_loopw [8] (fun v8 wr => ∃ (k : Nat), k ≤ n ∧ v8 = .int .i64 k ∧ Hid (Hs W n b gP cP vW (.slice aD i cD) L Q D b5 s x wr)) (fun v8 _ => n - (intOf v8).toNat)
          case atStart => exact ⟨0, Nat.zero_le _, rfl, HS⟩
          case round =>
            clear HS
            obtain ⟨k3, hk3, rfl, HS⟩ := hrel
            have y0 := (unhide HS).gs.c0
            by_cases hkn : k3 < n
            · have hkL : k3 < L.length := by have := unhide HBD; omega
              have hkni : (k3 : Int) < n := by omega
              obtain ⟨s', x', hsx'⟩ : ∃ s' x', L[k3] = (s', x') := ⟨_, _, rfl⟩
              have HSX' := hide hsx'
              have HKL : Hid (k3 < L.length) := hide hkL
              have hl2 : s'.log.length ≤ 900000 := by
                have hqm : k3 < (L.map (·.1)).length := by simpa using hkL
                have hgm : (L.map (·.1))[k3] = s' := by simp [hsx']
                have := ((unhide HD1).1.ok hqm).1.glen
                rw [hgm] at this
                omega
              have HL2 := hide hl2
              clear hsx'
              go_wp2_with (first
                | (with_reducible refine elp_ld (.tmp 82) gP k3 s' x' (unhide HS).gs.row (unhide HKL) (unhide HSX') ?_ ?_ ?_ ?_; exact rfl; exact rfl; (first | exact rfl | simp [Act.eval]))
                | (with_reducible refine bxp_new ?_ ?_ ?_; exact rfl; exact rfl; intro b9 w3 hr3 hs3 hb3; have HR3 := hide (And.intro hr3 (And.intro hs3 hb3)); clear hr3 hs3 hb3)
                | (with_reducible refine bxp_st (.tmp 9) (.tmp 83) b9 n s' x' (unhide HR3).1 ?_ ?_ ?_ ?_ ?_; exact rfl; exact rfl; (first | exact rfl | simp [Act.put, Act.eval]); (first | exact rfl | simp [Act.put, Act.eval]); intro w4 hr4 hc4; have HT : Hid (Hs W n b gP cP vW (.slice aD i cD) L Q D b5 s x w4 ∧ w4.heap[b9]? = some (.cells (pc n s' x') 56)) := hide ⟨(unhide HS).next (bel_off (unhide HR3).2.2 hc4 (Nat.le_of_eq (unhide HR3).2.1)), hr4⟩; have y10 := (Bx.of (unhide HT).1.row).c10; have z10 := (Bx.of (unhide HT).2).c10; clear hr4 hc4 HR3))
              clear y10 z10 y0
              obtain ⟨mm, hmi⟩ : ∃ mm : Nat, min (s.log.length : Int) (s'.log.length : Int) = (mm : Int) := ⟨min s.log.length s'.log.length, by omega⟩
              rw [hmi]
              have HMM : Hid (mm ≤ s.log.length ∧ mm ≤ s'.log.length) := hide (by omega)
              clear hmi
              go_loopw [10] (fun v10 wr => ∃ (m : Nat), m ≤ mm ∧ v10 = .int .i64 m ∧ Hid (Hs W n b gP cP vW (.slice aD i cD) L Q D b5 s x wr ∧ wr.heap[b9]? = some (.cells (pc n s' x') 56))) (fun v10 _ => (intOf v10).toNat)
              case atStart => exact ⟨mm, Nat.le_refl _, rfl, HT⟩
              case round =>
                clear HT HS
                obtain ⟨m, hm, rfl, HT⟩ := hrel
                have hne := BelBy.some wr
                rcases m with _ | m'
                · have hz : decide ((0 : Int) < 0) = false := by decide
                  go_wp2_with fail
                  refine wp_region_bel Tryz.follows (by kernel_rfl) ?_
                  repeat (go_big_quiet_step (fail))
                  refine wpQuiet_nil ?_
                  rintro W1 ⟨p9, rfl⟩
                  have HT8 := hide (And.intro ((unhide HT).1.next p9.h) (p9.h.row (unhide HT).2))
                  generalize p9.W = W9 at HT8 ⊢
                  have hne9 := BelBy.some W9
                  go_wp2_with fail
                  refine wp_region_bel Tryz.follows (by kernel_rfl) ?_
                  repeat (go_big_quiet_step (fail))
                  refine wpQuiet_nil ?_
                  rintro W1 ⟨p9, rfl⟩
                  have HS9 := hide ((unhide HT8).1.next p9.h)
                  generalize p9.W = Wa at HS9 ⊢
                  go_wp2_with fail
                  go_roundw
                  case rel => exact ⟨k3 + 1, by omega, by go_num, HS9⟩
                  case measure => simp [intOf]; omega
                · have hm1 : m' < s.log.length := by have := unhide HMM; omega
                  have hm2 : m' < s'.log.length := by have := unhide HMM; omega
                  have ec : ((m' + 1 : Nat) : Int) = (m' : Int) + 1 := by omega
                  rw [ec]
                  obtain ⟨gL, hgL⟩ := (unhide HCL).2.2.1 (by omega)
                  have HLp : Hid (∀ w', Hs W n b gP cP vW (.slice aD i cD) L Q D b5 s x w' → E69.O 0 w' (.slice x'.aL s'.log.length x'.cL) s'.log) := hide (fun w' hs => by
                    have h1 := (hs.gs.pf _ (List.getElem_mem (unhide HKL))).l
                    rw [unhide HSX'] at h1
                    exact h1)
                  obtain ⟨gM, hgM, hcM⟩ : ∃ gM, x'.aL = some ⟨gM, 0, none⟩ ∧ s'.log.length ≤ x'.cL := by
                    obtain ⟨a2, c2, g2, e2, h4, _, h5⟩ := ((unhide HLp) wr (unhide HT).1).shape
                    injection e2 with e4 _ e5
                    exact ⟨g2, by rw [e4]; exact h4 (by omega), by rw [e5]; exact h5⟩
                  have p10 : ∀ p : BelBy wr, p.W.cell? ⟨b5, 10, none⟩ = some (.slice (some ⟨gL, 0, none⟩) s.log.length x.cL) := fun p => by rw [← hgL]; exact (Bx.of (p.h.row (unhide HT).1.row)).c10
                  have q10 : ∀ p : BelBy wr, p.W.cell? ⟨b9, 10, none⟩ = some (.slice (some ⟨gM, 0, none⟩) s'.log.length x'.cL) := fun p => by rw [← hgM]; exact (Bx.of (p.h.row (unhide HT).2)).c10
                  have pt : ∀ p : BelBy wr, p.W.cell? ⟨gL, m' * 4, none⟩ = some (.int .u64 (s.log[m']'hm1).t) := fun p => by
                    have h1 := (unhide HHS) p.W ((unhide HT).1.next p.h)
                    rw [hgL] at h1
                    have h2 := (E69_cell h1.1.row m' hm1).1
                    rwa [Nat.zero_add] at h2
                  have qt : ∀ p : BelBy wr, p.W.cell? ⟨gM, m' * 4, none⟩ = some (.int .u64 (s'.log[m']'hm2).t) := fun p => by
                    have h1 := (unhide HLp) p.W ((unhide HT).1.next p.h)
                    rw [hgM] at h1
                    have h2 := (E69_cell h1.row m' hm2).1
                    rwa [Nat.zero_add] at h2
                  have hw1 : IntKind.i64.wrap ((m' : Int) + 1 - 1) = (m' : Int) := by rw [wrapI (by omega) (by omega)]; omega
                  have hpos : decide ((0 : Int) < (m' : Int) + 1) = true := decide_eq_true (by omega)
                  have hx1 : (m' : Int) < (s.log.length : Int) := by omega
                  have hx2 : (m' : Int) < (s'.log.length : Int) := by omega
                  by_cases hte : (s.log[m']'hm1).t = (s'.log[m']'hm2).t
                  · have htk : s.log.take (m' + 1) = s'.log.take (m' + 1) := by
                      have hqm : q < (L.map (·.1)).length := by simpa using hq
                      have hkm : k3 < (L.map (·.1)).length := by simpa using (unhide HKL)
                      have hgm : (L.map (·.1))[q] = s := by have := unhide HSX; simp [this]
                      have hgk : (L.map (·.1))[k3] = s' := by have := unhide HSX'; simp [this]
                      have := (unhide HD1).1.hold2 hqm (k := m') hkm (by rw [hgm]; exact hm1) (by rw [hgk]; exact hm2) (by simp only [hgm, hgk]; exact hte)
                      rwa [hgm, hgk] at this
                    have hne1 : ((s.log[m']'hm1).t != (s'.log[m']'hm2).t) = false := by simp [hte]
                    have HSm : Hid (∀ w9, Hs W n b gP cP vW (.slice aD i cD) L Q D b5 s x w9 → Calls Tryz.prog 33 #[.slice (some ⟨gL, 0, none⟩) (m' + 1) x.cL, .slice (some ⟨gM, 0, none⟩) (m' + 1) x'.cL] w9 fun e w' => e = .returned (.bool true) ∧ Bel w9 w') := hide (fun w9 hs => by
                      have h1 := (unhide HHS) w9 hs
                      have h2 := (unhide HLp) w9 hs
                      rw [hgL] at h1
                      rw [hgM] at h2
                      have r1 := h1.1.row.take (m' + 1)
                      have r2 := h2.row.take (m' + 1)
                      rw [← htk] at r2
                      have e1 : (s.log.take (m' + 1)).length = m' + 1 := by simp; omega
                      have := samee_any (W := w9) (a := some ⟨gL, 0, none⟩) (a2 := some ⟨gM, 0, none⟩) (l := s.log.take (m' + 1)) (c := x.cL) (c2 := x'.cL) ⟨gL, 0, fun _ => rfl, r1⟩ ⟨gM, 0, fun _ => rfl, r2⟩ (by have := (unhide HBD).2.1; simp; omega)
                      rwa [e1] at this)
                    clear htk hte
                    generalize (s.log[m']'hm1).t = t1 at *
                    generalize (s'.log[m']'hm2).t = t2 at *
                    go_wp2_with fail
                    refine wp_region_bel Tryz.follows (by kernel_rfl) ?_
                    repeat (go_big_quiet_step (fail))
                    refine wpQuiet_nil ?_
                    rintro W1 ⟨p9, rfl⟩
                    have HT8 := hide (And.intro ((unhide HT).1.next p9.h) (p9.h.row (unhide HT).2))
                    generalize p9.W = W9 at HT8 ⊢
                    have hne9 := BelBy.some W9
                    clear pt qt p10 q10
                    have p10 : ∀ p : BelBy W9, p.W.cell? ⟨b5, 10, none⟩ = some (.slice (some ⟨gL, 0, none⟩) s.log.length x.cL) := fun p => by rw [← hgL]; exact (Bx.of (p.h.row (unhide HT8).1.row)).c10
                    have q10 : ∀ p : BelBy W9, p.W.cell? ⟨b9, 10, none⟩ = some (.slice (some ⟨gM, 0, none⟩) s'.log.length x'.cL) := fun p => by rw [← hgM]; exact (Bx.of (p.h.row (unhide HT8).2)).c10
                    have HSm : Hid (∀ p : BelBy W9, Calls Tryz.prog 33 #[.slice (some ⟨gL, 0, none⟩) (m' + 1) x.cL, .slice (some ⟨gM, 0, none⟩) (m' + 1) x'.cL] p.W fun e w' => e = .returned (.bool true) ∧ Bel p.W w') := hide (fun p => (unhide HSm) p.W ((unhide HT8).1.next p.h))
                    have hy1 : (m' : Int) + 1 ≤ (x.cL : Int) := by have := (unhide HCL).1; omega
                    have hy2 : (m' : Int) + 1 ≤ (x'.cL : Int) := by omega
                    have hy3 : (0 : Int) ≤ (m' : Int) + 1 := by omega
                    have htn : ((m' : Int) + 1).toNat = m' + 1 := by omega
                    go_wp2_with fail
                    refine wp_region_bel Tryz.follows (by kernel_rfl) ?_
                    repeat (go_big_quiet_step (first | (go_at_call 33; refine calls_by ((unhide HSm) _))))
                    refine wpQuiet_nil ?_
                    rintro W1 ⟨p9, rfl⟩
                    have HS9 := hide ((unhide HT8).1.next p9.h)
                    generalize p9.W = Wa at HS9 ⊢
                    go_wp2_with fail
                    go_roundw
                    case rel => exact ⟨k3 + 1, by omega, by go_num, HS9⟩
                    case measure => simp [intOf]; omega
                  · have hne1 : ((s.log[m']'hm1).t != (s'.log[m']'hm2).t) = true := by simp [hte]
                    clear hte
                    generalize (s.log[m']'hm1).t = t1 at *
                    generalize (s'.log[m']'hm2).t = t2 at *
                    go_wp2_with fail
                    refine wp_region_bel Tryz.follows (by kernel_rfl) ?_
                    repeat (go_big_quiet_step (fail))
                    refine wpQuiet_nil ?_
                    rintro W1 ⟨p9, rfl⟩
                    have HT8 := hide (And.intro ((unhide HT).1.next p9.h) (p9.h.row (unhide HT).2))
                    generalize p9.W = W9 at HT8 ⊢
                    go_wp2_with fail
                    go_roundw
                    case rel => exact ⟨m', by omega, rfl, HT8⟩
                    case measure => (simp [intOf] <;> omega)
            · have hkni : ¬ ((k3 : Int) < n) := by omega
              have y4 := (Bx.of (unhide HS).row).c4
              by_cases hrl : s.role = 2
              · have er : (s.role != 2) = false := by simp [hrl]
                have HH3 : Hid (∀ k, (hk : k < D.length) → s.log[k]? = some D[k] ∨ ∃ j, ∃ hj : j < L.length, s.term < L[j].1.term ∧ k < L[j].1.commit) := hide (fun k hk => by
                  have hqm : q < (L.map (·.1)).length := by simpa using hq
                  have hgm : (L.map (·.1))[q] = s := by have := unhide HSX; simp [this]
                  have := (unhide HD1).1.hold3 hqm (by rw [hgm]; exact hrl) hk
                  rw [hgm] at this
                  rcases this with h1 | ⟨j, hj, h2⟩
                  · exact Or.inl h1
                  · exact Or.inr ⟨j, by simpa using hj, by simpa using h2⟩)
                have HCM : Hid (∀ q ∈ L, q.1.commit ≤ 1000000) := hide (fun p hp => by
                  obtain ⟨j, hj, rfl⟩ := List.getElem_of_mem hp
                  have hjm : j < (L.map (·.1)).length := by simpa using hj
                  have h1 := ((unhide HD1).1.ok hjm).1
                  have h2 := h1.com
                  have h3 := h1.glen
                  simp at h2 h3
                  omega)
                go_wp2_with fail
                clear y4 y0
                go_loopw [11] (fun v11 wr => ∃ (k : Nat), k ≤ i ∧ v11 = .int .i64 k ∧ Hid (Hs W n b gP cP vW (.slice aD i cD) L Q D b5 s x wr)) (fun v11 _ => i - (intOf v11).toNat)
                case atStart => exact ⟨0, Nat.zero_le _, rfl, HS⟩
                case round =>
                  clear HS
                  obtain ⟨k5, hk5, rfl, HS⟩ := hrel
                  have y2 := (unhide HS).gs.c2
                  by_cases hki : k5 < i
                  · have hkii : (k5 : Int) < (i : Int) := by omega
                    have hkD : k5 < D.length := by omega
                    obtain ⟨gD, hgD⟩ := (unhide HCL).2.2.2 (by omega)
                    subst hgD
                    have hne := BelBy.some wr
                    have p2 : ∀ p : BelBy wr, p.W.cell? ⟨b, 2, none⟩ = some (.slice (some ⟨gD, 0, none⟩) i cD) := fun p => ((unhide HS).next p.h).gs.c2
                    have pt : ∀ p : BelBy wr, p.W.cell? ⟨gD, k5 * 4, none⟩ = some (.int .u64 (D[k5]'hkD).t) := fun p => by
                      have h1 := ((unhide HHS) p.W ((unhide HS).next p.h)).2
                      rw [← hDl] at h1
                      have h2 := (E69_cell h1.row k5 hkD).1
                      rwa [Nat.zero_add] at h2
                    have ps : ∀ p : BelBy wr, p.W.cell? ⟨b5, 2, none⟩ = some (.int .u64 s.term) := fun p => (Bx.of ((unhide HS).next p.h).row).c2
                    have hw1 : IntKind.i64.wrap ((k5 : Int) + 1) = ((k5 + 1 : Nat) : Int) := by rw [wrapI (by omega) (by omega)]; omega
                    by_cases ct : (D[k5]'hkD).t < s.term
                    · have dt : decide ((D[k5]'hkD).t < s.term) = true := decide_eq_true ct
                      by_cases hkl : k5 < s.log.length
                      · obtain ⟨gL, hgL⟩ := (unhide HCL).2.2.1 (by omega)
                        have p10 : ∀ p : BelBy wr, p.W.cell? ⟨b5, 10, none⟩ = some (.slice (some ⟨gL, 0, none⟩) s.log.length x.cL) := fun p => by rw [← hgL]; exact (Bx.of ((unhide HS).next p.h).row).c10
                        have hc1 : ¬ (x.cL = k5) := by have := (unhide HCL).1; omega
                        have hc2 : ¬ (cD = k5) := by have := (unhide HCL).2.1; omega
                        have hb1 : ((k5 + 1 : Nat) : Int) ≤ (x.cL : Int) := by have := (unhide HCL).1; omega
                        have hb2 : ((k5 + 1 : Nat) : Int) ≤ (cD : Int) := by have := (unhide HCL).2.1; omega
                        have hb3 : (k5 : Int) ≤ ((k5 + 1 : Nat) : Int) := by omega
                        have hge : decide ((s.log.length : Int) ≤ (k5 : Int)) = false := decide_eq_false (by omega)
                        have hge1 : decide ((k5 : Int) ≥ (s.log.length : Int)) = false := decide_eq_false (by omega)
                        have hge2 : decide (s.log.length ≤ k5) = false := decide_eq_false (by omega)
                        have HRR : Hid (∀ p : BelBy wr, E69.R p.W gL (k5 * 4) [s.log[k5]'hkl] ∧ E69.R p.W gD (k5 * 4) [D[k5]'hkD]) := hide (fun p => by
                          have h1 := (unhide HHS) p.W ((unhide HS).next p.h)
                          rw [hgL] at h1
                          exact ⟨h1.1.one hkl, h1.2.one hkD⟩)
                        by_cases heq : s.log[k5]'hkl = D[k5]'hkD
                        · have HSm : Hid (∀ p : BelBy wr, Calls Tryz.prog 33 #[.slice (some ⟨gL, k5 * 4, none⟩) 1 (x.cL - k5), .slice (some ⟨gD, k5 * 4, none⟩) 1 (cD - k5)] p.W fun e w' => e = .returned (.bool true) ∧ Bel p.W w') := hide (fun p => by
                            have h1 := (unhide HRR) p
                            rw [← heq] at h1
                            exact samee_any (l := [s.log[k5]'hkl]) (Sl.one h1.1) (Sl.one h1.2) (by simp))
                          clear heq hgL ct
                          generalize (D[k5]'hkD).t = td at *
                          go_wp2_with fail
                          refine wp_region_bel Tryz.follows (by kernel_rfl) ?_
                          repeat (go_big_quiet_step (first | (go_at_call 33; refine calls_by ((unhide HSm) _))))
                          refine wpQuiet_nil ?_
                          rintro W1 ⟨p9, rfl⟩
                          have HS9 := hide ((unhide HS).next p9.h)
                          generalize p9.W = W9 at HS9 ⊢
                          go_wp2_with fail
                          go_roundw
                          case rel => exact ⟨k5 + 1, by omega, by go_num, HS9⟩
                          case measure => simp [intOf]; omega
                        · have HSm : Hid (∀ p : BelBy wr, Calls Tryz.prog 33 #[.slice (some ⟨gL, k5 * 4, none⟩) 1 (x.cL - k5), .slice (some ⟨gD, k5 * 4, none⟩) 1 (cD - k5)] p.W fun e w' => e = .returned (.bool false) ∧ Bel p.W w') := hide (fun p => by
                            have h1 := (unhide HRR) p
                            exact samee_no h1.1 h1.2 heq)
                          have HLt : Hid (∀ w9, Hs W n b gP cP vW (.slice (some ⟨gD, 0, none⟩) i cD) L Q D b5 s x w9 → Calls Tryz.prog 77 #[.pointer (some ⟨b, 0, none⟩), .int .u64 s.term, .int .i64 (k5 : Int)] w9 fun e w' => e = .returned (.bool true) ∧ Bel w9 w') := hide (fun w9 hs => by
                            rcases (unhide HH3) k5 hkD with h1 | ⟨j, hj, h2, h3⟩
                            · rw [List.getElem?_eq_getElem hkl] at h1
                              exact absurd (Option.some.inj h1) heq
                            · exact late_any hs.gs hn (unhide HCM) s.term k5 hj h2 h3)
                          clear heq hgL ct
                          generalize (D[k5]'hkD).t = td at *
                          go_wp2_with fail
                          refine wp_region_bel Tryz.follows (by kernel_rfl) ?_
                          repeat (go_big_quiet_step (first | (go_at_call 33; refine calls_by ((unhide HSm) _))))
                          refine wpQuiet_nil ?_
                          rintro W1 ⟨p9, rfl⟩
                          have HS9 := hide ((unhide HS).next p9.h)
                          generalize p9.W = W9 at HS9 ⊢
                          have ys := (Bx.of (unhide HS9).row).c2
                          go_wp2_with (first
                            | (go_at_call 77; refine ((unhide HLt) _ (unhide HS9)).mono ?_; rintro e wz ⟨rfl, hbz⟩; have HSZ := hide ((unhide HS9).next hbz); clear hbz))
                          go_ret
                          exact ⟨rfl, _, (unhide HSZ).gs⟩
                      · have hge : decide ((s.log.length : Int) ≤ (k5 : Int)) = true := decide_eq_true (by omega)
                        have hge1 : decide ((k5 : Int) ≥ (s.log.length : Int)) = true := decide_eq_true (by omega)
                        have hge2 : decide (s.log.length ≤ k5) = true := decide_eq_true (by omega)
                        have p10 : ∀ p : BelBy wr, p.W.cell? ⟨b5, 10, none⟩ = some (.slice x.aL s.log.length x.cL) := fun p => (Bx.of ((unhide HS).next p.h).row).c10
                        have HLt : Hid (∀ w9, Hs W n b gP cP vW (.slice (some ⟨gD, 0, none⟩) i cD) L Q D b5 s x w9 → Calls Tryz.prog 77 #[.pointer (some ⟨b, 0, none⟩), .int .u64 s.term, .int .i64 (k5 : Int)] w9 fun e w' => e = .returned (.bool true) ∧ Bel w9 w') := hide (fun w9 hs => by
                          rcases (unhide HH3) k5 hkD with h1 | ⟨j, hj, h2, h3⟩
                          · rw [List.getElem?_eq_none (by omega)] at h1
                            cases h1
                          · exact late_any hs.gs hn (unhide HCM) s.term k5 hj h2 h3)
                        clear ct
                        generalize (D[k5]'hkD).t = td at *
                        go_wp2_with fail
                        refine wp_region_bel Tryz.follows (by kernel_rfl) ?_
                        repeat (go_big_quiet_step (fail))
                        refine wpQuiet_nil ?_
                        rintro W1 ⟨p9, rfl⟩
                        have HS9 := hide ((unhide HS).next p9.h)
                        generalize p9.W = W9 at HS9 ⊢
                        have ys := (Bx.of (unhide HS9).row).c2
                        go_wp2_with (first
                          | (go_at_call 77; refine ((unhide HLt) _ (unhide HS9)).mono ?_; rintro e wz ⟨rfl, hbz⟩; have HSZ := hide ((unhide HS9).next hbz); clear hbz))
                        go_ret
                        exact ⟨rfl, _, (unhide HSZ).gs⟩
                    · have dt : decide ((D[k5]'hkD).t < s.term) = false := decide_eq_false ct
                      clear ct
                      generalize (D[k5]'hkD).t = td at *
                      go_wp2_with fail
                      refine wp_region_bel Tryz.follows (by kernel_rfl) ?_
                      repeat (go_big_quiet_step (fail))
                      refine wpQuiet_nil ?_
                      rintro W1 ⟨p9, rfl⟩
                      have HS9 := hide ((unhide HS).next p9.h)
                      generalize p9.W = W9 at HS9 ⊢
                      go_wp2_with fail
                      go_roundw
                      case rel => exact ⟨k5 + 1, by omega, by go_num, HS9⟩
                      case measure => simp [intOf]; omega
                  · have hkii : ¬ ((k5 : Int) < (i : Int)) := by omega
                    go_wp2_with fail
                    go_ret
                    exact ⟨rfl, _, (unhide HS).gs⟩
              · have er : (s.role != 2) = true := by simp [hrl]
                go_wp2_with fail
                go_ret
                exact ⟨rfl, _, (unhide HS).gs⟩
end
end Go.Proofs.YthipgcojbhcdgaaGreat
