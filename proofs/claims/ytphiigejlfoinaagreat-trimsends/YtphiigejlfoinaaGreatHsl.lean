/- TrimSends' walk. -/
import Derived.Test.YtphiigejlfoinaaGreatHalx
import Derived.Test.YtphiigejlfoinaaGreatHsx
namespace Go.Proofs.YtphiigejlfoinaaGreat
open Go.RowKit Go.Maps Go.Sort
/-- A call, or memory that is made, whichever comes up first. -/
theorem any_ac {ops : Array Oper} {Q : Exit → Act → World → Prop} {md : Region.Mode} {S : World → Prop} {i j : Nat} {o o' : Oper} {fuel : Nat} {listed : Array Bool} {a : Act} {w w' : World} {v : Value} {f : FuncId} {args : Array Value} {R : Ending → World → Prop} (hr : Region.ready md ops listed = [i, j]) (hi : ops[i]? = some o) (hj : ops[j]? = some o') (hwi : Region.wanted o (yielded ops a.tmps) = true) (hwj : Region.wanted o' (yielded ops a.tmps) = true) (hci : (execOp a.eval o).run Tryz.prog w = .ok (.enter f args) w) (hc : Calls Tryz.prog f args w R) (haj : (execOp a.eval o').run Tryz.prog w = .ok (.value v) w')
    (hKi : ∀ e w1, R e w1 → ∃ v, e = .returned v ∧ S w1 ∧ wpAnyH Tryz.prog md ops Q S fuel (listed.setIfInBounds i true) (a.put o.dst v) w1) (hKj : S w' ∧ wpAnyH Tryz.prog md ops Q S fuel (listed.setIfInBounds j true) (a.put o'.dst v) w') : wpAnyH Tryz.prog md ops Q S (fuel + 1) listed a w := by
  refine wpAnyH_all hr (by simp) (fun k hk => ?_)
  rcases List.mem_cons.1 hk with rfl | hk
  · unfold wpOp
    simp only [hi, hwi, if_true, Oper.wp, hci, Oper.upon_enter]
    refine .inl (hc.mono ?_)
    intro e w1 he
    obtain ⟨v, rfl, h1, h2⟩ := hKi e w1 he
    exact ⟨h1, h2⟩
  · rw [List.mem_singleton.1 hk]
    unfold wpOp
    simp only [hj, hwj, if_true, Oper.wp, haj, Oper.upon_value]
    exact .inl hKj
theorem al_run {a : Act} {o : Oper} {w : World} (ho : o.op = .alloc 68) : (execOp a.eval o).run Tryz.prog w = .ok (.value (.pointer (some ⟨w.heap.size, 0, none⟩))) (w.alloc (.cells (mg gz gzx) 68)) := by
  unfold execOp
  simp only [ho]
  simp [go_sem, Instr.alloc, newVar, Value.cells]
  rfl
set_option maxRecDepth 100000 in
set_option maxHeartbeats 8000000 in
theorem sends_big {W : World} {s : GP} {x : Px} (to : Int) (hs : smallB s = false) : Calls Tryz.prog 6 #[.agg (gc s x), .int .u64 to] W fun e w' => e = .returned (.bool true) ∧ Bel W w' := by
  have H1 : Hid (∀ W', Calls Tryz.prog 17 #[.agg (gc s x)] W' fun e w' => e = .returned (.bool false) ∧ Bel W' w') := hide (fun W' => by have := small_g (W := W') (s := s) (x := x); rwa [hs] at this)
  have HAL := hide (fun w => alive_t (W := w))
  clear hs
  go_enter Tryz.func6, Tryz.ntmps6
  go_wp2_with (first
  | go_skip
  | (refine bx_boxK 31 (.tmp 0) (by exact rfl) (by exact rfl) (gc s x) (by exact rfl) ?_; intro b w0 hr0 hs0 hb0; have HR0 := hide hr0; have HB0 := hide (And.intro hb0 (Nat.le_of_eq hs0)); clear hr0 hs0 hb0)
  | (refine bx_ldK 31 (.tmp 2) (by exact rfl) b (by exact rfl) (by exact rfl) (gc s x) _ (unhide HR0) Tryz.underlying31 (Tryz.sizeP s x) ?_)
  | go_guarded
  | (go_at_call 17; refine ((unhide H1) _).mono ?_; rintro e w1 ⟨rfl, hb1⟩; replace HR0 := hide (hb1.row (unhide HR0)); replace HB0 := hide (And.intro ((unhide HB0).1.trans hb1) (unhide HB0).2); clear hb1)
  | (go_at_call 14; refine ((unhide HAL) _).mono ?_; rintro e w2 ⟨rfl, hb2⟩; replace HB0 := hide (And.intro ((unhide HB0).1.trans hb2) (unhide HB0).2); clear hb2))
  go_ret
  exact ⟨rfl, (unhide HB0).1⟩
set_option maxRecDepth 100000 in
set_option maxHeartbeats 8000000 in
theorem sends_no {W : World} {s : GP} {x : Px} (h : Gp W s x) (hz : Gz s x) (to : Int) (hs : smallB s = true) (hc : cmpB s to = false) : Calls Tryz.prog 6 #[.agg (gc s x), .int .u64 to] W fun e w' => e = .returned (.bool true) ∧ Bel W w' := by
  have H1 : Hid (∀ W', Calls Tryz.prog 17 #[.agg (gc s x)] W' fun e w' => e = .returned (.bool true) ∧ Bel W' w') := hide (fun W' => by have := small_g (W := W') (s := s) (x := x); rwa [hs] at this)
  have HAL := hide (fun w => alive_t (W := w))
  have HC : Hid (∀ W', Bel W W' → Calls Tryz.prog 13 #[.agg (gc s x), .int .u64 to, .string ⟨#[115]⟩] W' fun e w' => e = .returned (.tuple #[.agg (gc g0 y0), .int .i64 2]) ∧ Bel W' w') := hide (fun W' hb => compact_no (h.bel hb) hz to _ hc)
  clear hs h hz hc
  go_enter Tryz.func6, Tryz.ntmps6
  go_wp2_with (first
  | go_skip
  | (refine bx_boxK 31 (.tmp 0) (by exact rfl) (by exact rfl) (gc s x) (by exact rfl) ?_; intro b w0 hr0 hs0 hb0; have HR0 := hide hr0; have HB0 := hide (And.intro hb0 (Nat.le_of_eq hs0)); clear hr0 hs0 hb0)
  | (refine bx_ldK 31 (.tmp 2) (by exact rfl) b (by exact rfl) (by exact rfl) (gc s x) _ (unhide HR0) Tryz.underlying31 (Tryz.sizeP s x) ?_)
  | go_guarded
  | (go_at_call 17; refine ((unhide H1) _).mono ?_; rintro e w1 ⟨rfl, hb1⟩; replace HR0 := hide (hb1.row (unhide HR0)); replace HB0 := hide (And.intro ((unhide HB0).1.trans hb1) (unhide HB0).2); clear hb1)
  | (go_at_call 14; refine ((unhide HAL) _).mono ?_; rintro e w2 ⟨rfl, hb2⟩; replace HB0 := hide (And.intro ((unhide HB0).1.trans hb2) (unhide HB0).2); clear hb2)
  | (go_at_call 13; refine ((unhide HC) _ (unhide HB0).1).mono ?_; rintro e w3 ⟨rfl, hb3⟩; replace HR0 := hide (hb3.row (unhide HR0)); replace HB0 := hide (And.intro ((unhide HB0).1.trans hb3) (unhide HB0).2); clear hb3)
  | (refine bx_new rfl 31 rfl _ Tryz.zeroP ?_; intro b5 w4 hr4 hs4 hb4; have HR5 := hide hr4; have HN5 : Hid (b5 ≠ b ∧ W.heap.size ≤ b5) := hide ⟨fun e => by have := lt_of_some (unhide HR0); omega, by have := (unhide HB0).1.size; omega⟩; replace HR0 := hide (hb4.row (unhide HR0)); replace HB0 := hide (And.intro ((unhide HB0).1.trans hb4) (unhide HB0).2); clear hr4 hs4 hb4)
  | (refine bx_st rfl 31 (.tmp 5) _ rfl b5 (gc g0 y0) _ rfl rfl (unhide HR5) (Tryz.sizeP _ _) rfl (gc_one _ _) ?_; intro w6 hr6 hc6; replace HB0 := hide (And.intro (bel_off (unhide HB0).1 hc6 (unhide HN5).2) (unhide HB0).2); clear hr6 hc6))
  go_ret
  exact ⟨rfl, (unhide HB0).1⟩
set_option maxRecDepth 100000 in
set_option maxHeartbeats 8000000 in
theorem sends_yes {W : World} {s : GP} {x : Px} (h : Gp W s x) (hz : Gz s x) (to : Int) (hto : 0 ≤ to ∧ to ≤ 18446744073709551615) (hs : smallB s = true) (hc : cmpB s to = true) : Calls Tryz.prog 6 #[.agg (gc s x), .int .u64 to] W fun e w' => e = .returned (.bool true) ∧ Bel W w' := by
  have hck := ck_of hc hz.base.1
  have hll : s.log.length ≤ 1000000 := by have := hz.l; omega
  have H1 : Hid (∀ W', Calls Tryz.prog 17 #[.agg (gc s x)] W' fun e w' => e = .returned (.bool true) ∧ Bel W' w') := hide (fun W' => by have := small_g (W := W') (s := s) (x := x); rwa [hs] at this)
  have HAL := hide (fun w => alive_t (W := w))
  obtain ⟨q, hq⟩ : ∃ q, q = s.trimTo to ⟨#[115]⟩ := ⟨_, rfl⟩
  have HC : Hid (∀ W', Bel W W' → Calls Tryz.prog 13 #[.agg (gc s x), .int .u64 to, .string ⟨#[115]⟩] W' fun e w' => ∃ x', e = .returned (.tuple #[.agg (gc q x'), .int .i64 0]) ∧ Gt w' q x' ∧ Gz q x' ∧ Bel W' w') := hide (fun W' hb => (compact_yes (h.bel hb) hz to hto ⟨#[115]⟩ hc (by decide)).mono (fun e w' ⟨x', he, hg, hcp, hb'⟩ => ⟨x', by rw [hq]; exact he, by rw [hq]; exact hg, by rw [hq]; exact hck.gz hz _ hcp, hb'⟩))
  have hqI : q.lastI = s.lastI := by rw [hq]; exact hck.lastI _
  have hqT : q.lastT = s.lastT := by rw [hq]; exact hck.lastT _
  have hqM : q.M.length = s.M.length := by rw [hq, hck.mem]
  have hqm : mayG q = true := by rw [hq]; exact hck.mayq _
  have hqf : q.fol = s.fol := by rw [hq, hck.trim]; rfl
  have hqr : q.role = s.role := by rw [hq, hck.trim]; rfl
  have hqc : q.commit = s.commit := by rw [hq, hck.trim]; rfl
  have hqb : q.base ≤ 4611686018427387904 := numB_base (mayG_num hqm).1
  have hsb : s.base ≤ 4611686018427387904 := numB_base (mayG_num hck.may).1
  have H2 : Hid (∀ W', Bel W W' → Calls Tryz.prog 18 #[.agg (gc s x)] W' fun e w' => e = .returned (.tuple #[.int .u64 s.lastI, .int .u64 s.lastT]) ∧ Bel W' w') := hide (fun W' hb => last_g (h.l.bel hb) hz.base.1 hsb hll)
  have H3 : Hid (∀ W' x', Gp W' q x' → Gz q x' → Calls Tryz.prog 18 #[.agg (gc q x')] W' fun e w' => e = .returned (.tuple #[.int .u64 s.lastI, .int .u64 s.lastT]) ∧ Bel W' w') := hide (fun W' x' hg hz' => by have := last_g hg.l hz'.base.1 hqb (by have := hz'.l; omega); rwa [hqI, hqT] at this)
  have H4 : Hid (∀ W' x', Gp W' q x' → Gz q x' → Calls Tryz.prog 19 #[.agg (gc q x')] W' fun e w' => e = .returned (.int .i64 0) ∧ Bel W' w') := hide (fun W' x' hg hz' => by have := may_g hg hz'; rwa [hqm, if_pos rfl] at this)
  have H5 : Hid (∀ (f : Int × Int × Int), f ∈ s.fol → ∃ f', f'.1 = f.1 ∧ (∀ W', Bel W W' → Calls Tryz.prog 20 #[.agg (gc s x), .int .i64 f.1] W' fun e w' => ∃ mx, e = .returned (.tuple #[.agg (mg (s.snd f') mx), .int .i64 0]) ∧ GwT w' (s.snd f') mx ∧ Bel W' w') ∧ (∀ W' x', Gp W' q x' → Gz q x' → Calls Tryz.prog 20 #[.agg (gc q x'), .int .i64 f.1] W' fun e w' => ∃ mx, e = .returned (.tuple #[.agg (mg (q.snd f') mx), .int .i64 0]) ∧ GwT w' (q.snd f') mx ∧ Bel W' w') ∧ ((q.snd f' = s.snd f' ∧ (s.snd f').kind = 3) ∨ ((q.snd f').kind = 5 ∧ (q.snd f').index = to)) ∧ (s.snd f').ents.length ≤ 1000000 ∧ (∀ e ∈ (s.snd f').ents, e.m.length ≤ 17592186044416) ∧ (s.snd f').mem.length ≤ 17592186044416) := hide (fun f hf => by
    have hne : s.fol ≠ [] := fun e => by rw [e] at hf; cases hf
    obtain ⟨hr2, hfa⟩ := may_lead hck.may hne
    obtain ⟨f', hf'⟩ : ∃ f', s.fol.find? (fun y => y.1 == f.1) = some f' := by
      cases hh : s.fol.find? (fun y => y.1 == f.1) with
      | some f' => exact ⟨f', rfl⟩
      | none => rw [List.find?_eq_none] at hh; exact absurd (by simp) (hh f hf)
    have hm' := List.mem_of_find?_eq_some hf'
    have he' : f'.1 = f.1 := by have := List.find?_some hf'; simpa using this
    obtain ⟨g1, g2⟩ := hfa f' hm'
    refine ⟨f', he', fun W' hb => send_g (h.bel hb) hz hck.may hr2 f.1 f' hf' g1 g2, fun W' x' hg hz' => send_g hg hz' hqm (by rw [hqr]; exact hr2) f.1 f' (by rw [hqf]; exact hf') g1 (by rw [hqI]; exact g2), by rw [hq]; exact hck.snd _ f' g2, ?_, ?_, ?_⟩
    · unfold GP.snd; split
      · exact Nat.zero_le _
      · show (((s.log.take _).drop _).length) ≤ _
        rw [List.length_drop, List.length_take]; omega
    · unfold GP.snd; split
      · intro e he; cases he
      · intro e he; exact hz.lm e (List.mem_of_mem_take (List.mem_of_mem_drop he))
    · unfold GP.snd; split
      · exact hz.b
      · exact Nat.zero_le _)
  have HF : Hid (Sl E65 W x.aF s.fol) := hide h.f
  have hfn : s.fol.length ≤ 100000 := hz.f
  clear hck hll hc hs h hz hqI hqT hqm hqb hsb hqr hto
  generalize s.lastI = lI at *
  generalize s.lastT = lT at *
  have HQF := hide hqf
  have HQC := hide hqc
  have HQM := hide hqM
  have HQ := hide hq
  clear hqf hqc hqM hq
  go_enter Tryz.func6, Tryz.ntmps6
  go_wp2_with (first
  | go_skip
  | (refine bx_boxK 31 (.tmp 0) (by exact rfl) (by exact rfl) (gc s x) (by exact rfl) ?_; intro b w0 hr0 hs0 hb0; have HR0 := hide hr0; have HB0 := hide (And.intro hb0 (Nat.le_of_eq hs0)); clear hr0 hs0 hb0)
  | (refine bx_ldK 31 (.tmp 2) (by exact rfl) b (by exact rfl) (by exact rfl) (gc s x) _ (unhide HR0) Tryz.underlying31 (Tryz.sizeP s x) ?_)
  | (refine bx_ldK 31 (.tmp 5) (by exact rfl) b5 (by exact rfl) (by exact rfl) (gc q x5) _ (unhide HR5) Tryz.underlying31 (Tryz.sizeP _ _) ?_)
  | go_guarded
  | (go_at_call 17; refine ((unhide H1) _).mono ?_; rintro e w1 ⟨rfl, hb1⟩; replace HR0 := hide (hb1.row (unhide HR0)); replace HB0 := hide (And.intro ((unhide HB0).1.trans hb1) (unhide HB0).2); clear hb1)
  | (go_at_call 14; refine ((unhide HAL) _).mono ?_; rintro e w2 ⟨rfl, hb2⟩; replace HB0 := hide (And.intro ((unhide HB0).1.trans hb2) (unhide HB0).2); clear hb2)
  | (go_at_call 13; refine ((unhide HC) _ (unhide HB0).1).mono ?_; rintro e w3 ⟨x5, rfl, hg3, hz3, hb3⟩; have HG := hide (And.intro hg3 hz3); replace HR0 := hide (hb3.row (unhide HR0)); replace HB0 := hide (And.intro ((unhide HB0).1.trans hb3) (unhide HB0).2); clear hb3 hg3 hz3)
  | (refine bx_new rfl 31 rfl _ Tryz.zeroP ?_; intro b5 w4 hr4 hs4 hb4; have HR5 := hide hr4; have HN5 : Hid (b5 ≠ b ∧ W.heap.size ≤ b5) := hide ⟨fun e => by have := lt_of_some (unhide HR0); omega, by have := (unhide HB0).1.size; omega⟩; have HS5 := hide hs4; replace HG := hide (And.intro ((unhide HG).1.bel hb4) (unhide HG).2); replace HR0 := hide (hb4.row (unhide HR0)); replace HB0 := hide (And.intro ((unhide HB0).1.trans hb4) (unhide HB0).2); clear hr4 hs4 hb4)
  | (refine bx_st rfl 31 (.tmp 5) _ rfl b5 (gc q x5) _ rfl rfl (unhide HR5) (Tryz.sizeP _ _) rfl (gc_one _ _) ?_; intro w6 hr6 hc6; replace HG := hide (And.intro ((unhide HG).1.box (unhide HR5) hc6) (unhide HG).2); replace HR0 := hide (hc6.row (unhide HR0) (fun e => (unhide HN5).1 e.symm)); replace HR5 := hide hr6; replace HB0 := hide (And.intro (bel_off (unhide HB0).1 hc6 (unhide HN5).2) (unhide HB0).2); clear hr6 hc6)
  | (have hd := HDONE; clear hd; go_at_call 18; refine ((unhide H3) _ _ (unhide HG).1.gp (unhide HG).2).mono ?_; rintro e w8 ⟨rfl, hb8⟩; have y1 := (Bg.of (hb8.row (unhide HR0))).c1; have y11 := (Bg.of (hb8.row (unhide HR0))).c11; have z1 := (Bg.of (hb8.row (unhide HR5))).c1; have z11 := (Bg.of (hb8.row (unhide HR5))).c11; rw [unhide HQM] at z1; rw [unhide HQC] at z11; replace HG := hide (And.intro ((unhide HG).1.bel hb8) (unhide HG).2); replace HR5 := hide (hb8.row (unhide HR5)); replace HR0 := hide (hb8.row (unhide HR0)); replace HB0 := hide (And.intro ((unhide HB0).1.trans hb8) (unhide HB0).2); clear hb8)
  | (go_at_call 18; refine ((unhide H2) _ (unhide HB0).1).mono ?_; rintro e w7 ⟨rfl, hb7⟩; have HDONE := hide trivial; replace HG := hide (And.intro ((unhide HG).1.bel hb7) (unhide HG).2); replace HR5 := hide (hb7.row (unhide HR5)); replace HR0 := hide (hb7.row (unhide HR0)); replace HB0 := hide (And.intro ((unhide HB0).1.trans hb7) (unhide HB0).2); clear hb7)
  | (go_at_call 19; refine ((unhide H4) _ _ (unhide HG).1.gp (unhide HG).2).mono ?_; rintro e w9 ⟨rfl, hb9⟩; replace HG := hide (And.intro ((unhide HG).1.bel hb9) (unhide HG).2); replace HR5 := hide (hb9.row (unhide HR5)); replace HR0 := hide (hb9.row (unhide HR0)); replace HB0 := hide (And.intro ((unhide HB0).1.trans hb9) (unhide HB0).2); clear hb9 y1 y11 z1 z11))
  clear H1 HC H2 H3 H4
  have y15 := (Bg.of (unhide HR0)).c15
  generalize hfnn : s.fol.length = fn at *
  have HFN := hide hfnn
  clear hfnn
  go_loopw [11] (fun vk wr => ∃ i : Nat, i ≤ fn ∧ vk = .int .i64 i ∧ Hid (Bel w9 wr)) (fun vk _ => fn - (intOf vk).toNat)
  case atStart => exact ⟨0, Nat.zero_le _, rfl, hide (Bel.refl _)⟩
  case round =>
    obtain ⟨i, hi, rfl, HB⟩ := hrel
    have z15 := (unhide HB).cell y15
    by_cases hlt : i < fn
    · have hil : i < s.fol.length := by rw [unhide HFN]; exact hlt
      obtain ⟨g, off, hg, hR⟩ := (unhide HF)
      have HSL1 : Hid (Value.slice x.aF s.fol.length x.cF = .slice (some ⟨g, off, none⟩) fn x.cF) := hide (by rw [hg (by omega), unhide HFN])
      have rc1 := (E65_cell (hR.bel ((unhide HB0).1.trans (unhide HB))) i hil).1
      obtain ⟨f', he', hs1, hs2, hsnd, hl1, hl2, hl3⟩ := (unhide H5) s.fol[i] (List.getElem_mem hil)
      have HS1 := hide hs1
      have HS2 := hide hs2
      have HSND := hide hsnd
      have HLL := hide (And.intro hl1 (And.intro hl2 hl3))
      have hin : (i : Int) < fn := by omega
      have hi0 : (0 : Int) ≤ i := by omega
      clear hs1 hs2 hsnd hl1 hl2 hl3 hR hg he'
      generalize s.fol[i].1 = fid at *
      generalize s.snd f' = m1 at *
      generalize q.snd f' = m2 at *
      go_wp2_with fail
      clear y15 z15
      refine wp_region_held_drew (S := fun W => W.heap[b]? = some (.cells (gc s x) 31) ∧ W.cell? ⟨g, off + i * 3, none⟩ = some (.int .i64 fid) ∧ W.heap[b5]? = some (.cells (gc q x5) 31)) Tryz.follows ⟨((unhide HB).row (unhide HR0)), rc1, ((unhide HB).row (unhide HR5))⟩ (fun hS => ?_)
      refine any_ldP (i := 0) (b := b) rfl (by kernel_rfl) (by kernel_rfl) (by kernel_rfl) (fun _ _ _ h => h) rfl hS rfl (by go_simp) (fun w hw => hw.1) ?_
      refine any_take (i := 1) (v := .pointer (some ⟨b, 15, none⟩)) rfl (by kernel_rfl) (by kernel_rfl) (by kernel_rfl) (fun _ _ _ h => h) rfl hS (fun w hw => by go_simp) ?_
      refine any_take (i := 2) (v := .slice (some ⟨g, off, none⟩) fn x.cF) rfl (by kernel_rfl) (by kernel_rfl) (by kernel_rfl) (fun _ _ _ h => h) rfl hS (fun w hw => by have hq : w.cell? ⟨b, 15, none⟩ = some (.slice (some ⟨g, off, none⟩) fn x.cF) := (Bg.of hw.1).c15.trans (by rw [unhide HSL1]); go_simp) ?_
      refine any_take (i := 3) (v := .int .i64 i) rfl (by kernel_rfl) (by kernel_rfl) (by kernel_rfl) (fun _ _ _ h => h) rfl hS (fun w hw => by go_simp) ?_
      refine any_take (i := 4) (v := .pointer (some ⟨g, off + i * 3, none⟩)) rfl (by kernel_rfl) (by kernel_rfl) (by kernel_rfl) (fun _ _ _ h => h) rfl hS (fun w hw => by go_simp) ?_
      refine any_take (i := 5) (v := .pointer (some ⟨g, off + i * 3, none⟩)) rfl (by kernel_rfl) (by kernel_rfl) (by kernel_rfl) (fun _ _ _ h => h) rfl hS (fun w hw => by go_simp) ?_
      refine any_take (i := 6) (v := .int .i64 fid) rfl (by kernel_rfl) (by kernel_rfl) (by kernel_rfl) (fun _ _ _ h => h) rfl hS (fun w hw => by have hq := hw.2.1; go_simp) ?_
      refine any_ac (i := 7) (j := 11) (by kernel_rfl) rfl rfl rfl rfl (by go_simp) ((unhide HS1) _ ((unhide HB0).1.trans (unhide HB)).drew) (al_run rfl) ?_ ⟨⟨((Bel.refl _).alloc _).row hS.1, ((Bel.refl _).alloc _).cell hS.2.1, ((Bel.refl _).alloc _).row hS.2.2⟩, ?_⟩
      · rintro e wa ⟨mx1, rfl, hgw, hba⟩
        have hSa : wa.heap[b]? = some (.cells (gc s x) 31) ∧ wa.cell? ⟨g, off + i * 3, none⟩ = some (.int .i64 fid) ∧ wa.heap[b5]? = some (.cells (gc q x5) 31) := ⟨hba.row hS.1, hba.cell hS.2.1, hba.row hS.2.2⟩
        refine ⟨_, rfl, hSa, ?_⟩
        have hS := hSa
        refine any_take (i := 8) (v := .tuple #[.agg (mg m1 mx1), .int .i64 0]) rfl (by kernel_rfl) (by kernel_rfl) (by kernel_rfl) (fun _ _ _ h => h) rfl hS (fun w hw => by go_simp) ?_
        refine any_take (i := 9) (v := .agg (mg m1 mx1)) rfl (by kernel_rfl) (by kernel_rfl) (by kernel_rfl) (fun _ _ _ h => h) rfl hS (fun w hw => by go_simp) ?_
        refine any_take (i := 10) (v := .int .i64 0) rfl (by kernel_rfl) (by kernel_rfl) (by kernel_rfl) (fun _ _ _ h => h) rfl hS (fun w hw => by go_simp) ?_
        have hSb : (wa.alloc (.cells (mg gz gzx) 68)).heap[b]? = some (.cells (gc s x) 31) ∧ (wa.alloc (.cells (mg gz gzx) 68)).cell? ⟨g, off + i * 3, none⟩ = some (.int .i64 fid) ∧ (wa.alloc (.cells (mg gz gzx) 68)).heap[b5]? = some (.cells (gc q x5) 31) := ⟨((Bel.refl _).alloc _).row hS.1, ((Bel.refl _).alloc _).cell hS.2.1, ((Bel.refl _).alloc _).row hS.2.2⟩
        have hnw : (wa.alloc (.cells (mg gz gzx) 68)).heap[wa.heap.size]? = some (.cells (mg gz gzx) 68) := at_new wa _
        have hl1 := lt_of_some hS.1
        have hl2 := World.block_lt_of_cell? _ _ hS.2.1
        have hl5 := lt_of_some hS.2.2
        simp only at hl2
        have hgw2 := hgw.bel ((Bel.refl wa).alloc (.cells (mg gz gzx) 68))
        have hbb : Bel wr (wa.alloc (.cells (mg gz gzx) 68)) := (((Bel.refl wr).drew.trans hba)).alloc _
        have hge : wr.heap.size ≤ wa.heap.size := ((Bel.refl wr).drew.trans hba).size
        refine any_do (i := 11) (by kernel_rfl) rfl rfl (al_run rfl) ⟨hSb, ?_⟩
        generalize (wa.alloc (.cells (mg gz gzx) 68)) = wb at *
        generalize wa.heap.size = bm1 at *
        have hch := ch_row (c' := mg m1 mx1) hnw
        have hS9 : (wb.setRow bm1 (mg m1 mx1)).heap[b]? = some (.cells (gc s x) 31) ∧ (wb.setRow bm1 (mg m1 mx1)).cell? ⟨g, off + i * 3, none⟩ = some (.int .i64 fid) ∧ (wb.setRow bm1 (mg m1 mx1)).heap[b5]? = some (.cells (gc q x5) 31) := ⟨hch.2.row hSb.1 (by omega), hch.2.cell hSb.2.1 (by show ¬ g = bm1; omega), hch.2.row hSb.2.2 (by omega)⟩
        refine any_skp (i := 12) (w' := wb.setRow bm1 (mg m1 mx1)) (by kernel_rfl) rfl rfl (stM_run (by rfl) (by go_simp) (by go_simp) hnw) ⟨hS9, ?_⟩
        refine any_do (i := 13) (v := .int .i64 0) (w' := wb.setRow bm1 (mg m1 mx1)) (by kernel_rfl) rfl rfl (by go_simp) ⟨hS9, ?_⟩
        refine wpAnyH_done (by kernel_rfl) ?_ _
        simp [Act.put]
        have HRM1 := hide hch.1
        have HGW1 := hide (hgw2.boxM hnw hch.2)
        have HB1n := hide (bel_off hbb hch.2 hge)
        clear hS9 hSb hnw hgw2 hbb hge hl1 hl2 hl5 hch
        generalize (wb.setRow bm1 (mg m1 mx1)) = wn1 at *
        go_wp2_with fail
        refine wp_region_held_drew (S := fun W => W.heap[b]? = some (.cells (gc s x) 31) ∧ W.cell? ⟨g, off + i * 3, none⟩ = some (.int .i64 fid) ∧ W.heap[b5]? = some (.cells (gc q x5) 31)) Tryz.follows ⟨((unhide HB1n).row ((unhide HB).row (unhide HR0))), ((unhide HB1n).cell rc1), ((unhide HB1n).row ((unhide HB).row (unhide HR5)))⟩ (fun hS => ?_)
        refine any_ldP (i := 0) (b := b5) rfl (by kernel_rfl) (by kernel_rfl) (by kernel_rfl) (fun _ _ _ h => h) rfl hS rfl (by go_simp) (fun w hw => hw.2.2) ?_
        refine any_take (i := 1) (v := .pointer (some ⟨b, 15, none⟩)) rfl (by kernel_rfl) (by kernel_rfl) (by kernel_rfl) (fun _ _ _ h => h) rfl hS (fun w hw => by go_simp) ?_
        refine any_take (i := 2) (v := .slice (some ⟨g, off, none⟩) fn x.cF) rfl (by kernel_rfl) (by kernel_rfl) (by kernel_rfl) (fun _ _ _ h => h) rfl hS (fun w hw => by have hq : w.cell? ⟨b, 15, none⟩ = some (.slice (some ⟨g, off, none⟩) fn x.cF) := (Bg.of hw.1).c15.trans (by rw [unhide HSL1]); go_simp) ?_
        refine any_take (i := 3) (v := .int .i64 i) rfl (by kernel_rfl) (by kernel_rfl) (by kernel_rfl) (fun _ _ _ h => h) rfl hS (fun w hw => by go_simp) ?_
        refine any_take (i := 4) (v := .pointer (some ⟨g, off + i * 3, none⟩)) rfl (by kernel_rfl) (by kernel_rfl) (by kernel_rfl) (fun _ _ _ h => h) rfl hS (fun w hw => by go_simp) ?_
        refine any_take (i := 5) (v := .pointer (some ⟨g, off + i * 3, none⟩)) rfl (by kernel_rfl) (by kernel_rfl) (by kernel_rfl) (fun _ _ _ h => h) rfl hS (fun w hw => by go_simp) ?_
        refine any_take (i := 6) (v := .int .i64 fid) rfl (by kernel_rfl) (by kernel_rfl) (by kernel_rfl) (fun _ _ _ h => h) rfl hS (fun w hw => by have hq := hw.2.1; go_simp) ?_
        refine any_ac (i := 7) (j := 11) (by kernel_rfl) rfl rfl rfl rfl (by go_simp) ((unhide HS2) _ _ ((unhide HG).1.bel ((unhide HB).trans (unhide HB1n)).drew).gp (unhide HG).2) (al_run rfl) ?_ ⟨⟨((Bel.refl _).alloc _).row hS.1, ((Bel.refl _).alloc _).cell hS.2.1, ((Bel.refl _).alloc _).row hS.2.2⟩, ?_⟩
        · rintro e wa ⟨mx2, rfl, hgw, hba⟩
          have hSa : wa.heap[b]? = some (.cells (gc s x) 31) ∧ wa.cell? ⟨g, off + i * 3, none⟩ = some (.int .i64 fid) ∧ wa.heap[b5]? = some (.cells (gc q x5) 31) := ⟨hba.row hS.1, hba.cell hS.2.1, hba.row hS.2.2⟩
          refine ⟨_, rfl, hSa, ?_⟩
          have hS := hSa
          refine any_take (i := 8) (v := .tuple #[.agg (mg m2 mx2), .int .i64 0]) rfl (by kernel_rfl) (by kernel_rfl) (by kernel_rfl) (fun _ _ _ h => h) rfl hS (fun w hw => by go_simp) ?_
          refine any_take (i := 9) (v := .agg (mg m2 mx2)) rfl (by kernel_rfl) (by kernel_rfl) (by kernel_rfl) (fun _ _ _ h => h) rfl hS (fun w hw => by go_simp) ?_
          refine any_take (i := 10) (v := .int .i64 0) rfl (by kernel_rfl) (by kernel_rfl) (by kernel_rfl) (fun _ _ _ h => h) rfl hS (fun w hw => by go_simp) ?_
          have hSb : (wa.alloc (.cells (mg gz gzx) 68)).heap[b]? = some (.cells (gc s x) 31) ∧ (wa.alloc (.cells (mg gz gzx) 68)).cell? ⟨g, off + i * 3, none⟩ = some (.int .i64 fid) ∧ (wa.alloc (.cells (mg gz gzx) 68)).heap[b5]? = some (.cells (gc q x5) 31) := ⟨((Bel.refl _).alloc _).row hS.1, ((Bel.refl _).alloc _).cell hS.2.1, ((Bel.refl _).alloc _).row hS.2.2⟩
          have hnw : (wa.alloc (.cells (mg gz gzx) 68)).heap[wa.heap.size]? = some (.cells (mg gz gzx) 68) := at_new wa _
          have hl1 := lt_of_some hS.1
          have hl2 := World.block_lt_of_cell? _ _ hS.2.1
          have hl5 := lt_of_some hS.2.2
          simp only at hl2
          have hgw2 := hgw.bel ((Bel.refl wa).alloc (.cells (mg gz gzx) 68))
          have hbb : Bel wn1 (wa.alloc (.cells (mg gz gzx) 68)) := (((Bel.refl wn1).drew.trans hba)).alloc _
          have hge : wn1.heap.size ≤ wa.heap.size := ((Bel.refl wn1).drew.trans hba).size
          refine any_do (i := 11) (by kernel_rfl) rfl rfl (al_run rfl) ⟨hSb, ?_⟩
          generalize (wa.alloc (.cells (mg gz gzx) 68)) = wb at *
          generalize wa.heap.size = bm2 at *
          have hch := ch_row (c' := mg m2 mx2) hnw
          have hS9 : (wb.setRow bm2 (mg m2 mx2)).heap[b]? = some (.cells (gc s x) 31) ∧ (wb.setRow bm2 (mg m2 mx2)).cell? ⟨g, off + i * 3, none⟩ = some (.int .i64 fid) ∧ (wb.setRow bm2 (mg m2 mx2)).heap[b5]? = some (.cells (gc q x5) 31) := ⟨hch.2.row hSb.1 (by omega), hch.2.cell hSb.2.1 (by show ¬ g = bm2; omega), hch.2.row hSb.2.2 (by omega)⟩
          refine any_skp (i := 12) (w' := wb.setRow bm2 (mg m2 mx2)) (by kernel_rfl) rfl rfl (stM_run (by rfl) (by go_simp) (by go_simp) hnw) ⟨hS9, ?_⟩
          refine any_do (i := 13) (v := .int .i64 0) (w' := wb.setRow bm2 (mg m2 mx2)) (by kernel_rfl) rfl rfl (by go_simp) ⟨hS9, ?_⟩
          refine wpAnyH_done (by kernel_rfl) ?_ _
          simp [Act.put]
          have HRM2 := hide hch.1
          have HGW2 := hide (hgw2.boxM hnw hch.2)
          have HB2n := hide (bel_off hbb hch.2 hge)
          clear hS9 hSb hnw hgw2 hbb hge hl1 hl2 hl5 hch
          generalize (wb.setRow bm2 (mg m2 mx2)) = wn2 at *
          have HBB := hide ((unhide HB).trans ((unhide HB1n).trans (unhide HB2n)))
          have HR1 := hide ((unhide HB2n).row (unhide HRM1))
          have hg1 := (unhide HGW1).bel (unhide HB2n)
          rcases (unhide HSND) with ⟨he, hk3⟩ | ⟨hk5, hix⟩
          · rw [he] at HGW2 HRM2
            have c0 := (Mb2.of (unhide HRM2)).c0
            have k1 : (m1.kind != 5) = true := by simp [hk3]
            have k2 : (m1.kind == 5) = false := by simp [hk3]
            have HSM := hide (sameMsg_g hg1.gw (unhide HGW2).gw (unhide HLL).1 (unhide HLL).2.1 (unhide HLL).2.2)
            clear hk3 he hg1
            go_wp2_with (first
              | go_skip
              | (refine bx_ldK 68 (.tmp 12) (by exact rfl) bm1 (by exact rfl) (by exact rfl) (mg m1 mx1) _ (unhide HR1) Tryz.underlying68 (szM _ _) ?_)
              | (refine bx_ldK 68 (.tmp 14) (by exact rfl) bm2 (by exact rfl) (by exact rfl) (mg m1 mx2) _ (unhide HRM2) Tryz.underlying68 (szM _ _) ?_)
              | go_guarded
              | (go_at_call 21; refine (unhide HSM).mono ?_; rintro e w7 ⟨rfl, hb7⟩; have c0 := hb7.cell c0; have HBE := hide ((unhide HBB).trans hb7); clear hb7))
            go_roundw
            case rel => exact ⟨i + 1, by omega, by go_num, HBE⟩
            case measure => simp [intOf]; omega
          · have c0 := (Mb2.of (unhide HRM2)).c0
            have c4 := (Mb2.of (unhide HRM2)).c4
            rw [hk5] at c0
            rw [hix] at c4
            clear hk5 hix hg1
            go_wp2_with (first
              | go_skip
              | go_guarded)
            go_roundw
            case rel => exact ⟨i + 1, by omega, by go_num, HBB⟩
            case measure => simp [intOf]; omega
        · have hnw : (wn1.drew.alloc (.cells (mg gz gzx) 68)).heap[wn1.drew.heap.size]? = some (.cells (mg gz gzx) 68) := at_new _ _
          have hSa : (wn1.drew.alloc (.cells (mg gz gzx) 68)).heap[b]? = some (.cells (gc s x) 31) ∧ (wn1.drew.alloc (.cells (mg gz gzx) 68)).cell? ⟨g, off + i * 3, none⟩ = some (.int .i64 fid) ∧ (wn1.drew.alloc (.cells (mg gz gzx) 68)).heap[b5]? = some (.cells (gc q x5) 31) := ⟨((Bel.refl _).alloc _).row hS.1, ((Bel.refl _).alloc _).cell hS.2.1, ((Bel.refl _).alloc _).row hS.2.2⟩
          have hl1 := lt_of_some hS.1
          have hl2 := World.block_lt_of_cell? _ _ hS.2.1
          have hl5 := lt_of_some hS.2.2
          simp only at hl2
          refine any_call (i := 7) (by kernel_rfl) rfl rfl (by go_simp) ((unhide HS2) _ _ ((unhide HG).1.bel (((unhide HB).trans (unhide HB1n)).drew.alloc _)).gp (unhide HG).2) ?_
          rintro e wb ⟨mx2, rfl, hgw2, hba⟩
          have hSb : wb.heap[b]? = some (.cells (gc s x) 31) ∧ wb.cell? ⟨g, off + i * 3, none⟩ = some (.int .i64 fid) ∧ wb.heap[b5]? = some (.cells (gc q x5) 31) := ⟨hba.row hSa.1, hba.cell hSa.2.1, hba.row hSa.2.2⟩
          replace hnw := hba.row hnw
          have hbb : Bel wn1 wb := ((Bel.refl wn1).drew.alloc _).trans hba
          have hge : wn1.heap.size ≤ wn1.drew.heap.size := (Bel.refl wn1).drew.size
          refine ⟨_, rfl, hSb, ?_⟩
          have hS := hSb
          refine any_take (i := 8) (v := .tuple #[.agg (mg m2 mx2), .int .i64 0]) rfl (by kernel_rfl) (by kernel_rfl) (by kernel_rfl) (fun _ _ _ h => h) rfl hS (fun w hw => by go_simp) ?_
          refine any_take (i := 9) (v := .agg (mg m2 mx2)) rfl (by kernel_rfl) (by kernel_rfl) (by kernel_rfl) (fun _ _ _ h => h) rfl hS (fun w hw => by go_simp) ?_
          refine any_take (i := 10) (v := .int .i64 0) rfl (by kernel_rfl) (by kernel_rfl) (by kernel_rfl) (fun _ _ _ h => h) rfl hS (fun w hw => by go_simp) ?_
          generalize wn1.drew.heap.size = bm2 at *
          have hch := ch_row (c' := mg m2 mx2) hnw
          have hS9 : (wb.setRow bm2 (mg m2 mx2)).heap[b]? = some (.cells (gc s x) 31) ∧ (wb.setRow bm2 (mg m2 mx2)).cell? ⟨g, off + i * 3, none⟩ = some (.int .i64 fid) ∧ (wb.setRow bm2 (mg m2 mx2)).heap[b5]? = some (.cells (gc q x5) 31) := ⟨hch.2.row hSb.1 (by omega), hch.2.cell hSb.2.1 (by show ¬ g = bm2; omega), hch.2.row hSb.2.2 (by omega)⟩
          refine any_skp (i := 12) (w' := wb.setRow bm2 (mg m2 mx2)) (by kernel_rfl) rfl rfl (stM_run (by rfl) (by go_simp) (by go_simp) hnw) ⟨hS9, ?_⟩
          refine any_do (i := 13) (v := .int .i64 0) (w' := wb.setRow bm2 (mg m2 mx2)) (by kernel_rfl) rfl rfl (by go_simp) ⟨hS9, ?_⟩
          refine wpAnyH_done (by kernel_rfl) ?_ _
          simp [Act.put]
          have HRM2 := hide hch.1
          have HGW2 := hide (hgw2.boxM hnw hch.2)
          have HB2n := hide (bel_off hbb hch.2 hge)
          clear hS9 hSb hnw hgw2 hbb hge hl1 hl2 hl5 hch
          generalize (wb.setRow bm2 (mg m2 mx2)) = wn2 at *
          have HBB := hide ((unhide HB).trans ((unhide HB1n).trans (unhide HB2n)))
          have HR1 := hide ((unhide HB2n).row (unhide HRM1))
          have hg1 := (unhide HGW1).bel (unhide HB2n)
          rcases (unhide HSND) with ⟨he, hk3⟩ | ⟨hk5, hix⟩
          · rw [he] at HGW2 HRM2
            have c0 := (Mb2.of (unhide HRM2)).c0
            have k1 : (m1.kind != 5) = true := by simp [hk3]
            have k2 : (m1.kind == 5) = false := by simp [hk3]
            have HSM := hide (sameMsg_g hg1.gw (unhide HGW2).gw (unhide HLL).1 (unhide HLL).2.1 (unhide HLL).2.2)
            clear hk3 he hg1
            go_wp2_with (first
              | go_skip
              | (refine bx_ldK 68 (.tmp 12) (by exact rfl) bm1 (by exact rfl) (by exact rfl) (mg m1 mx1) _ (unhide HR1) Tryz.underlying68 (szM _ _) ?_)
              | (refine bx_ldK 68 (.tmp 14) (by exact rfl) bm2 (by exact rfl) (by exact rfl) (mg m1 mx2) _ (unhide HRM2) Tryz.underlying68 (szM _ _) ?_)
              | go_guarded
              | (go_at_call 21; refine (unhide HSM).mono ?_; rintro e w7 ⟨rfl, hb7⟩; have c0 := hb7.cell c0; have HBE := hide ((unhide HBB).trans hb7); clear hb7))
            go_roundw
            case rel => exact ⟨i + 1, by omega, by go_num, HBE⟩
            case measure => simp [intOf]; omega
          · have c0 := (Mb2.of (unhide HRM2)).c0
            have c4 := (Mb2.of (unhide HRM2)).c4
            rw [hk5] at c0
            rw [hix] at c4
            clear hk5 hix hg1
            go_wp2_with (first
              | go_skip
              | go_guarded)
            go_roundw
            case rel => exact ⟨i + 1, by omega, by go_num, HBB⟩
            case measure => simp [intOf]; omega
      · have hnw : (wr.drew.alloc (.cells (mg gz gzx) 68)).heap[wr.drew.heap.size]? = some (.cells (mg gz gzx) 68) := at_new _ _
        have hSa : (wr.drew.alloc (.cells (mg gz gzx) 68)).heap[b]? = some (.cells (gc s x) 31) ∧ (wr.drew.alloc (.cells (mg gz gzx) 68)).cell? ⟨g, off + i * 3, none⟩ = some (.int .i64 fid) ∧ (wr.drew.alloc (.cells (mg gz gzx) 68)).heap[b5]? = some (.cells (gc q x5) 31) := ⟨((Bel.refl _).alloc _).row hS.1, ((Bel.refl _).alloc _).cell hS.2.1, ((Bel.refl _).alloc _).row hS.2.2⟩
        have hl1 := lt_of_some hS.1
        have hl2 := World.block_lt_of_cell? _ _ hS.2.1
        have hl5 := lt_of_some hS.2.2
        simp only at hl2
        refine any_call (i := 7) (by kernel_rfl) rfl rfl (by go_simp) ((unhide HS1) _ (((unhide HB0).1.trans (unhide HB)).drew.alloc _)) ?_
        rintro e wb ⟨mx1, rfl, hgw2, hba⟩
        have hSb : wb.heap[b]? = some (.cells (gc s x) 31) ∧ wb.cell? ⟨g, off + i * 3, none⟩ = some (.int .i64 fid) ∧ wb.heap[b5]? = some (.cells (gc q x5) 31) := ⟨hba.row hSa.1, hba.cell hSa.2.1, hba.row hSa.2.2⟩
        replace hnw := hba.row hnw
        have hbb : Bel wr wb := ((Bel.refl wr).drew.alloc _).trans hba
        have hge : wr.heap.size ≤ wr.drew.heap.size := (Bel.refl wr).drew.size
        refine ⟨_, rfl, hSb, ?_⟩
        have hS := hSb
        refine any_take (i := 8) (v := .tuple #[.agg (mg m1 mx1), .int .i64 0]) rfl (by kernel_rfl) (by kernel_rfl) (by kernel_rfl) (fun _ _ _ h => h) rfl hS (fun w hw => by go_simp) ?_
        refine any_take (i := 9) (v := .agg (mg m1 mx1)) rfl (by kernel_rfl) (by kernel_rfl) (by kernel_rfl) (fun _ _ _ h => h) rfl hS (fun w hw => by go_simp) ?_
        refine any_take (i := 10) (v := .int .i64 0) rfl (by kernel_rfl) (by kernel_rfl) (by kernel_rfl) (fun _ _ _ h => h) rfl hS (fun w hw => by go_simp) ?_
        generalize wr.drew.heap.size = bm1 at *
        have hch := ch_row (c' := mg m1 mx1) hnw
        have hS9 : (wb.setRow bm1 (mg m1 mx1)).heap[b]? = some (.cells (gc s x) 31) ∧ (wb.setRow bm1 (mg m1 mx1)).cell? ⟨g, off + i * 3, none⟩ = some (.int .i64 fid) ∧ (wb.setRow bm1 (mg m1 mx1)).heap[b5]? = some (.cells (gc q x5) 31) := ⟨hch.2.row hSb.1 (by omega), hch.2.cell hSb.2.1 (by show ¬ g = bm1; omega), hch.2.row hSb.2.2 (by omega)⟩
        refine any_skp (i := 12) (w' := wb.setRow bm1 (mg m1 mx1)) (by kernel_rfl) rfl rfl (stM_run (by rfl) (by go_simp) (by go_simp) hnw) ⟨hS9, ?_⟩
        refine any_do (i := 13) (v := .int .i64 0) (w' := wb.setRow bm1 (mg m1 mx1)) (by kernel_rfl) rfl rfl (by go_simp) ⟨hS9, ?_⟩
        refine wpAnyH_done (by kernel_rfl) ?_ _
        simp [Act.put]
        have HRM1 := hide hch.1
        have HGW1 := hide (hgw2.boxM hnw hch.2)
        have HB1n := hide (bel_off hbb hch.2 hge)
        clear hS9 hSb hnw hgw2 hbb hge hl1 hl2 hl5 hch
        generalize (wb.setRow bm1 (mg m1 mx1)) = wn1 at *
        go_wp2_with fail
        refine wp_region_held_drew (S := fun W => W.heap[b]? = some (.cells (gc s x) 31) ∧ W.cell? ⟨g, off + i * 3, none⟩ = some (.int .i64 fid) ∧ W.heap[b5]? = some (.cells (gc q x5) 31)) Tryz.follows ⟨((unhide HB1n).row ((unhide HB).row (unhide HR0))), ((unhide HB1n).cell rc1), ((unhide HB1n).row ((unhide HB).row (unhide HR5)))⟩ (fun hS => ?_)
        refine any_ldP (i := 0) (b := b5) rfl (by kernel_rfl) (by kernel_rfl) (by kernel_rfl) (fun _ _ _ h => h) rfl hS rfl (by go_simp) (fun w hw => hw.2.2) ?_
        refine any_take (i := 1) (v := .pointer (some ⟨b, 15, none⟩)) rfl (by kernel_rfl) (by kernel_rfl) (by kernel_rfl) (fun _ _ _ h => h) rfl hS (fun w hw => by go_simp) ?_
        refine any_take (i := 2) (v := .slice (some ⟨g, off, none⟩) fn x.cF) rfl (by kernel_rfl) (by kernel_rfl) (by kernel_rfl) (fun _ _ _ h => h) rfl hS (fun w hw => by have hq : w.cell? ⟨b, 15, none⟩ = some (.slice (some ⟨g, off, none⟩) fn x.cF) := (Bg.of hw.1).c15.trans (by rw [unhide HSL1]); go_simp) ?_
        refine any_take (i := 3) (v := .int .i64 i) rfl (by kernel_rfl) (by kernel_rfl) (by kernel_rfl) (fun _ _ _ h => h) rfl hS (fun w hw => by go_simp) ?_
        refine any_take (i := 4) (v := .pointer (some ⟨g, off + i * 3, none⟩)) rfl (by kernel_rfl) (by kernel_rfl) (by kernel_rfl) (fun _ _ _ h => h) rfl hS (fun w hw => by go_simp) ?_
        refine any_take (i := 5) (v := .pointer (some ⟨g, off + i * 3, none⟩)) rfl (by kernel_rfl) (by kernel_rfl) (by kernel_rfl) (fun _ _ _ h => h) rfl hS (fun w hw => by go_simp) ?_
        refine any_take (i := 6) (v := .int .i64 fid) rfl (by kernel_rfl) (by kernel_rfl) (by kernel_rfl) (fun _ _ _ h => h) rfl hS (fun w hw => by have hq := hw.2.1; go_simp) ?_
        refine any_ac (i := 7) (j := 11) (by kernel_rfl) rfl rfl rfl rfl (by go_simp) ((unhide HS2) _ _ ((unhide HG).1.bel ((unhide HB).trans (unhide HB1n)).drew).gp (unhide HG).2) (al_run rfl) ?_ ⟨⟨((Bel.refl _).alloc _).row hS.1, ((Bel.refl _).alloc _).cell hS.2.1, ((Bel.refl _).alloc _).row hS.2.2⟩, ?_⟩
        · rintro e wa ⟨mx2, rfl, hgw, hba⟩
          have hSa : wa.heap[b]? = some (.cells (gc s x) 31) ∧ wa.cell? ⟨g, off + i * 3, none⟩ = some (.int .i64 fid) ∧ wa.heap[b5]? = some (.cells (gc q x5) 31) := ⟨hba.row hS.1, hba.cell hS.2.1, hba.row hS.2.2⟩
          refine ⟨_, rfl, hSa, ?_⟩
          have hS := hSa
          refine any_take (i := 8) (v := .tuple #[.agg (mg m2 mx2), .int .i64 0]) rfl (by kernel_rfl) (by kernel_rfl) (by kernel_rfl) (fun _ _ _ h => h) rfl hS (fun w hw => by go_simp) ?_
          refine any_take (i := 9) (v := .agg (mg m2 mx2)) rfl (by kernel_rfl) (by kernel_rfl) (by kernel_rfl) (fun _ _ _ h => h) rfl hS (fun w hw => by go_simp) ?_
          refine any_take (i := 10) (v := .int .i64 0) rfl (by kernel_rfl) (by kernel_rfl) (by kernel_rfl) (fun _ _ _ h => h) rfl hS (fun w hw => by go_simp) ?_
          have hSb : (wa.alloc (.cells (mg gz gzx) 68)).heap[b]? = some (.cells (gc s x) 31) ∧ (wa.alloc (.cells (mg gz gzx) 68)).cell? ⟨g, off + i * 3, none⟩ = some (.int .i64 fid) ∧ (wa.alloc (.cells (mg gz gzx) 68)).heap[b5]? = some (.cells (gc q x5) 31) := ⟨((Bel.refl _).alloc _).row hS.1, ((Bel.refl _).alloc _).cell hS.2.1, ((Bel.refl _).alloc _).row hS.2.2⟩
          have hnw : (wa.alloc (.cells (mg gz gzx) 68)).heap[wa.heap.size]? = some (.cells (mg gz gzx) 68) := at_new wa _
          have hl1 := lt_of_some hS.1
          have hl2 := World.block_lt_of_cell? _ _ hS.2.1
          have hl5 := lt_of_some hS.2.2
          simp only at hl2
          have hgw2 := hgw.bel ((Bel.refl wa).alloc (.cells (mg gz gzx) 68))
          have hbb : Bel wn1 (wa.alloc (.cells (mg gz gzx) 68)) := (((Bel.refl wn1).drew.trans hba)).alloc _
          have hge : wn1.heap.size ≤ wa.heap.size := ((Bel.refl wn1).drew.trans hba).size
          refine any_do (i := 11) (by kernel_rfl) rfl rfl (al_run rfl) ⟨hSb, ?_⟩
          generalize (wa.alloc (.cells (mg gz gzx) 68)) = wb at *
          generalize wa.heap.size = bm2 at *
          have hch := ch_row (c' := mg m2 mx2) hnw
          have hS9 : (wb.setRow bm2 (mg m2 mx2)).heap[b]? = some (.cells (gc s x) 31) ∧ (wb.setRow bm2 (mg m2 mx2)).cell? ⟨g, off + i * 3, none⟩ = some (.int .i64 fid) ∧ (wb.setRow bm2 (mg m2 mx2)).heap[b5]? = some (.cells (gc q x5) 31) := ⟨hch.2.row hSb.1 (by omega), hch.2.cell hSb.2.1 (by show ¬ g = bm2; omega), hch.2.row hSb.2.2 (by omega)⟩
          refine any_skp (i := 12) (w' := wb.setRow bm2 (mg m2 mx2)) (by kernel_rfl) rfl rfl (stM_run (by rfl) (by go_simp) (by go_simp) hnw) ⟨hS9, ?_⟩
          refine any_do (i := 13) (v := .int .i64 0) (w' := wb.setRow bm2 (mg m2 mx2)) (by kernel_rfl) rfl rfl (by go_simp) ⟨hS9, ?_⟩
          refine wpAnyH_done (by kernel_rfl) ?_ _
          simp [Act.put]
          have HRM2 := hide hch.1
          have HGW2 := hide (hgw2.boxM hnw hch.2)
          have HB2n := hide (bel_off hbb hch.2 hge)
          clear hS9 hSb hnw hgw2 hbb hge hl1 hl2 hl5 hch
          generalize (wb.setRow bm2 (mg m2 mx2)) = wn2 at *
          have HBB := hide ((unhide HB).trans ((unhide HB1n).trans (unhide HB2n)))
          have HR1 := hide ((unhide HB2n).row (unhide HRM1))
          have hg1 := (unhide HGW1).bel (unhide HB2n)
          rcases (unhide HSND) with ⟨he, hk3⟩ | ⟨hk5, hix⟩
          · rw [he] at HGW2 HRM2
            have c0 := (Mb2.of (unhide HRM2)).c0
            have k1 : (m1.kind != 5) = true := by simp [hk3]
            have k2 : (m1.kind == 5) = false := by simp [hk3]
            have HSM := hide (sameMsg_g hg1.gw (unhide HGW2).gw (unhide HLL).1 (unhide HLL).2.1 (unhide HLL).2.2)
            clear hk3 he hg1
            go_wp2_with (first
              | go_skip
              | (refine bx_ldK 68 (.tmp 12) (by exact rfl) bm1 (by exact rfl) (by exact rfl) (mg m1 mx1) _ (unhide HR1) Tryz.underlying68 (szM _ _) ?_)
              | (refine bx_ldK 68 (.tmp 14) (by exact rfl) bm2 (by exact rfl) (by exact rfl) (mg m1 mx2) _ (unhide HRM2) Tryz.underlying68 (szM _ _) ?_)
              | go_guarded
              | (go_at_call 21; refine (unhide HSM).mono ?_; rintro e w7 ⟨rfl, hb7⟩; have c0 := hb7.cell c0; have HBE := hide ((unhide HBB).trans hb7); clear hb7))
            go_roundw
            case rel => exact ⟨i + 1, by omega, by go_num, HBE⟩
            case measure => simp [intOf]; omega
          · have c0 := (Mb2.of (unhide HRM2)).c0
            have c4 := (Mb2.of (unhide HRM2)).c4
            rw [hk5] at c0
            rw [hix] at c4
            clear hk5 hix hg1
            go_wp2_with (first
              | go_skip
              | go_guarded)
            go_roundw
            case rel => exact ⟨i + 1, by omega, by go_num, HBB⟩
            case measure => simp [intOf]; omega
        · have hnw : (wn1.drew.alloc (.cells (mg gz gzx) 68)).heap[wn1.drew.heap.size]? = some (.cells (mg gz gzx) 68) := at_new _ _
          have hSa : (wn1.drew.alloc (.cells (mg gz gzx) 68)).heap[b]? = some (.cells (gc s x) 31) ∧ (wn1.drew.alloc (.cells (mg gz gzx) 68)).cell? ⟨g, off + i * 3, none⟩ = some (.int .i64 fid) ∧ (wn1.drew.alloc (.cells (mg gz gzx) 68)).heap[b5]? = some (.cells (gc q x5) 31) := ⟨((Bel.refl _).alloc _).row hS.1, ((Bel.refl _).alloc _).cell hS.2.1, ((Bel.refl _).alloc _).row hS.2.2⟩
          have hl1 := lt_of_some hS.1
          have hl2 := World.block_lt_of_cell? _ _ hS.2.1
          have hl5 := lt_of_some hS.2.2
          simp only at hl2
          refine any_call (i := 7) (by kernel_rfl) rfl rfl (by go_simp) ((unhide HS2) _ _ ((unhide HG).1.bel (((unhide HB).trans (unhide HB1n)).drew.alloc _)).gp (unhide HG).2) ?_
          rintro e wb ⟨mx2, rfl, hgw2, hba⟩
          have hSb : wb.heap[b]? = some (.cells (gc s x) 31) ∧ wb.cell? ⟨g, off + i * 3, none⟩ = some (.int .i64 fid) ∧ wb.heap[b5]? = some (.cells (gc q x5) 31) := ⟨hba.row hSa.1, hba.cell hSa.2.1, hba.row hSa.2.2⟩
          replace hnw := hba.row hnw
          have hbb : Bel wn1 wb := ((Bel.refl wn1).drew.alloc _).trans hba
          have hge : wn1.heap.size ≤ wn1.drew.heap.size := (Bel.refl wn1).drew.size
          refine ⟨_, rfl, hSb, ?_⟩
          have hS := hSb
          refine any_take (i := 8) (v := .tuple #[.agg (mg m2 mx2), .int .i64 0]) rfl (by kernel_rfl) (by kernel_rfl) (by kernel_rfl) (fun _ _ _ h => h) rfl hS (fun w hw => by go_simp) ?_
          refine any_take (i := 9) (v := .agg (mg m2 mx2)) rfl (by kernel_rfl) (by kernel_rfl) (by kernel_rfl) (fun _ _ _ h => h) rfl hS (fun w hw => by go_simp) ?_
          refine any_take (i := 10) (v := .int .i64 0) rfl (by kernel_rfl) (by kernel_rfl) (by kernel_rfl) (fun _ _ _ h => h) rfl hS (fun w hw => by go_simp) ?_
          generalize wn1.drew.heap.size = bm2 at *
          have hch := ch_row (c' := mg m2 mx2) hnw
          have hS9 : (wb.setRow bm2 (mg m2 mx2)).heap[b]? = some (.cells (gc s x) 31) ∧ (wb.setRow bm2 (mg m2 mx2)).cell? ⟨g, off + i * 3, none⟩ = some (.int .i64 fid) ∧ (wb.setRow bm2 (mg m2 mx2)).heap[b5]? = some (.cells (gc q x5) 31) := ⟨hch.2.row hSb.1 (by omega), hch.2.cell hSb.2.1 (by show ¬ g = bm2; omega), hch.2.row hSb.2.2 (by omega)⟩
          refine any_skp (i := 12) (w' := wb.setRow bm2 (mg m2 mx2)) (by kernel_rfl) rfl rfl (stM_run (by rfl) (by go_simp) (by go_simp) hnw) ⟨hS9, ?_⟩
          refine any_do (i := 13) (v := .int .i64 0) (w' := wb.setRow bm2 (mg m2 mx2)) (by kernel_rfl) rfl rfl (by go_simp) ⟨hS9, ?_⟩
          refine wpAnyH_done (by kernel_rfl) ?_ _
          simp [Act.put]
          have HRM2 := hide hch.1
          have HGW2 := hide (hgw2.boxM hnw hch.2)
          have HB2n := hide (bel_off hbb hch.2 hge)
          clear hS9 hSb hnw hgw2 hbb hge hl1 hl2 hl5 hch
          generalize (wb.setRow bm2 (mg m2 mx2)) = wn2 at *
          have HBB := hide ((unhide HB).trans ((unhide HB1n).trans (unhide HB2n)))
          have HR1 := hide ((unhide HB2n).row (unhide HRM1))
          have hg1 := (unhide HGW1).bel (unhide HB2n)
          rcases (unhide HSND) with ⟨he, hk3⟩ | ⟨hk5, hix⟩
          · rw [he] at HGW2 HRM2
            have c0 := (Mb2.of (unhide HRM2)).c0
            have k1 : (m1.kind != 5) = true := by simp [hk3]
            have k2 : (m1.kind == 5) = false := by simp [hk3]
            have HSM := hide (sameMsg_g hg1.gw (unhide HGW2).gw (unhide HLL).1 (unhide HLL).2.1 (unhide HLL).2.2)
            clear hk3 he hg1
            go_wp2_with (first
              | go_skip
              | (refine bx_ldK 68 (.tmp 12) (by exact rfl) bm1 (by exact rfl) (by exact rfl) (mg m1 mx1) _ (unhide HR1) Tryz.underlying68 (szM _ _) ?_)
              | (refine bx_ldK 68 (.tmp 14) (by exact rfl) bm2 (by exact rfl) (by exact rfl) (mg m1 mx2) _ (unhide HRM2) Tryz.underlying68 (szM _ _) ?_)
              | go_guarded
              | (go_at_call 21; refine (unhide HSM).mono ?_; rintro e w7 ⟨rfl, hb7⟩; have c0 := hb7.cell c0; have HBE := hide ((unhide HBB).trans hb7); clear hb7))
            go_roundw
            case rel => exact ⟨i + 1, by omega, by go_num, HBE⟩
            case measure => simp [intOf]; omega
          · have c0 := (Mb2.of (unhide HRM2)).c0
            have c4 := (Mb2.of (unhide HRM2)).c4
            rw [hk5] at c0
            rw [hix] at c4
            clear hk5 hix hg1
            go_wp2_with (first
              | go_skip
              | go_guarded)
            go_roundw
            case rel => exact ⟨i + 1, by omega, by go_num, HBB⟩
            case measure => simp [intOf]; omega
    · obtain rfl : i = fn := by omega
      go_wp2_with (first
        | go_skip
        | go_guarded
        | (go_at_call 14; refine ((unhide HAL) _).mono ?_; rintro e w2 ⟨rfl, hb2⟩; have HE := hide ((unhide HB0).1.trans ((unhide HB).trans hb2)); clear hb2))
      go_ret
      exact ⟨rfl, unhide HE⟩
end Go.Proofs.YtphiigejlfoinaaGreat
