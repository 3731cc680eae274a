/- logs.Send of any leader. -/
import Derived.Test.YtphiigejlfoinaaGreatHms
import Derived.Test.YtphiigejlfoinaaGreatHsn
import Derived.Test.YtphiigejlfoinaaGreatHcp
namespace Go.Proofs.YtphiigejlfoinaaGreat
open Go.RowKit Go.Maps Go.Sort
/-- What one of the Follows is sent. -/
def GP.snd (s : GP) (f : Int × Int × Int) : GM := if f.2.1 - 1 < s.base then s.inst f else s.lay f
theorem find_at {id : Int} : ∀ {l : List (Int × Int × Int)} {k : Nat} {f g : Int × Int × Int}, l.find? (fun y => y.1 == id) = some f → l[k]? = some g → g.1 = id → (∀ j, j < k → ∀ h, l[j]? = some h → h.1 ≠ id) → g = f
  | [], k, f, g, h, hk, _, _ => by simp at hk
  | y :: l, 0, f, g, h, hk, hg, _ => by
    simp at hk
    subst hk
    rw [List.find?_cons, show (y.1 == id) = true by simp [hg]] at h
    exact Option.some.inj h
  | y :: l, k + 1, f, g, h, hk, hg, hn => by
    have h0 := hn 0 (Nat.succ_pos k) y rfl
    rw [List.find?_cons, show (y.1 == id) = false from beq_eq_false_iff_ne.2 h0] at h
    refine find_at (l := l) (k := k) h ?_ hg (fun j hj z hz => hn (j + 1) (by omega) z (by simpa using hz))
    simpa using hk
theorem ldF_run {a : Act} {o : Oper} {y : Operand} {w : World} {g p : Nat} {f : Int × Int × Int} (ho : o.op = .load 72 y) (hx : a.eval y = .pointer (some ⟨g, p, none⟩)) (r0 : w.cell? ⟨g, p, none⟩ = some (.int .i64 f.1)) (r1 : w.cell? ⟨g, p + 1, none⟩ = some (.int .u64 f.2.1)) (r2 : w.cell? ⟨g, p + 2, none⟩ = some (.int .u64 f.2.2)) : (execOp a.eval o).run Tryz.prog w = .ok (.value (.agg (encF f).toArray)) w := by
  unfold execOp encF
  rw [ho]
  simp only [hx]
  go_simp
theorem stM_run {a : Act} {o : Oper} {y z : Operand} {w : World} {b : Nat} {m m' : GM} {x x' : GX} (ho : o.op = .store 68 y z) (hx : a.eval y = .pointer (some ⟨b, 0, none⟩)) (hz : a.eval z = .agg (mg m x)) (hg : w.heap[b]? = some (.cells (mg m' x') 68)) : (execOp a.eval o).run Tryz.prog w = .ok .skip (w.setRow b (mg m x)) := by
  unfold execOp
  simp only [ho, hx, hz, Instr.storeAt, Instr.sureAddr, Sem.run_bind, Sem.run_pure, Result.andThen_ok, run_storeVar_row w b 68 68 _ (mg m x) hg (szM m x) rfl (mg_one m x)]
set_option maxRecDepth 100000 in
set_option maxHeartbeats 8000000 in
theorem send_g {W : World} {s : GP} {x : Px} (h : Gp W s x) (hz : Gz s x) (hm : mayG s = true) (hr : s.role = 2) (id : Int) (f : Int × Int × Int) (hf : s.fol.find? (fun y => y.1 == id) = some f) (hf1 : 1 ≤ f.2.1) (hf2 : f.2.1 ≤ s.lastI + 1) : Calls Tryz.prog 20 #[.agg (gc s x), .int .i64 id] W fun e w' => ∃ mx, e = .returned (.tuple #[.agg (mg (s.snd f) mx), .int .i64 0]) ∧ GwT w' (s.snd f) mx ∧ Bel W w' := by
  have hll : s.log.length ≤ 1000000 := by have := hz.l; omega
  have hfl : s.fol.length ≤ 1000000 := by have := hz.f; omega
  have H1 : Hid (∀ W', Bel W W' → Calls Tryz.prog 19 #[.agg (gc s x)] W' fun e w' => e = .returned (.int .i64 0) ∧ Bel W' w') := hide (fun W' hb => by have := may_g (h.bel hb) hz; rwa [hm, if_pos rfl] at this)
  have H2 : Hid (∀ W', Bel W W' → Calls Tryz.prog 46 #[.agg (gc s x), .int .i64 id] W' fun e w' => ∃ k : Nat, e = .returned (.int .i64 k) ∧ s.fol[k]? = some f ∧ Bel W' w') := hide (fun W' hb => (followAt_g (h.f.bel hb) id hfl).mono (fun e w' ⟨i, he, hi, hb'⟩ => by
    rcases hi with ⟨_, hn⟩ | ⟨k, g, rfl, hk, hg, hn⟩
    · have hmem := List.mem_of_find?_eq_some hf
      have := List.find?_some hf
      exact absurd (by simpa using this) (hn f hmem)
    · rw [find_at hf hk hg hn] at hk
      exact ⟨k, he, hk, hb'⟩))
  have H3 : Hid (∀ W', Bel W W' → Calls Tryz.prog 47 #[.agg (gc s x), .agg (encF f).toArray] W' fun e w' => ∃ mx, e = .returned (.agg (mg (s.snd f) mx)) ∧ GwT w' (s.snd f) mx ∧ Bel W' w') := hide (fun W' hb => by
    have hbase := numB_base (mayG_num hm).1
    unfold GP.snd
    by_cases hi : f.2.1 - 1 < s.base
    · rw [if_pos hi]
      exact inst_g (h.b.bel hb) hz.b f hf1 (by have := hz.base; omega) hi
    · rw [if_neg hi]
      exact lay_g (h.l.bel hb) hz.base.1 hbase hll hz.cap hz.lm f hf2 (by omega))
  obtain ⟨g, off, hg, hR⟩ := h.f
  have HR : Hid (∀ (k : Nat) (W' : World), Bel W W' → s.fol[k]? = some f → x.aF = some ⟨g, off, none⟩ ∧ k < s.fol.length ∧ W'.cell? ⟨g, off + k * 3, none⟩ = some (.int .i64 f.1) ∧ W'.cell? ⟨g, off + k * 3 + 1, none⟩ = some (.int .u64 f.2.1) ∧ W'.cell? ⟨g, off + k * 3 + 2, none⟩ = some (.int .u64 f.2.2)) := hide (fun k W' hb hk => by
    obtain ⟨hkl, e⟩ := List.getElem?_eq_some_iff.1 hk
    obtain ⟨r0, r1, r2⟩ := E65_cell (hR.bel hb) k hkl
    rw [e] at r0 r1 r2
    exact ⟨hg (by omega), hkl, r0, r1, r2⟩)
  have e2 : (s.role != 2) = false := by simp [hr]
  generalize s.snd f = sm at *
  clear h hz hm hr hf hf1 hf2 hll hfl hg hR
  go_enter Tryz.func20, Tryz.ntmps20
  go_wp2_with (first
    | go_skip
    | (refine bx_boxK 31 (.tmp 0) (by exact rfl) (by exact rfl) (gc s x) (by exact rfl) ?_; intro b w0 hr0 hs0 hb0; have HR0 := hide hr0; have HB0 := hide (And.intro hb0 (Nat.le_of_eq hs0)); clear hr0 hs0 hb0)
    | (refine bx_new rfl 68 rfl _ zeroM ?_; intro b4 w2 hr2 hs2 hb2; have HR4 := hide hr2; have HN4 : Hid (b4 ≠ b ∧ W.heap.size ≤ b4) := hide ⟨fun e => by have := lt_of_some (unhide HR0); omega, by have := (unhide HB0).1.size; omega⟩; replace HR0 := hide (hb2.row (unhide HR0)); replace HB0 := hide (And.intro ((unhide HB0).1.trans hb2) (unhide HB0).2); clear hr2 hs2 hb2)
    | (refine bx_ldK 31 (.tmp 2) (by exact rfl) b (by exact rfl) (by exact rfl) (gc s x) _ (unhide HR0) Tryz.underlying31 (Tryz.sizeP s x) ?_)
    | go_guarded
    | (go_at_call 46; refine ((unhide H2) _ (unhide HB0).1).mono ?_; rintro e w3 ⟨k, rfl, hk, hb3⟩; have HK := hide hk; have hk0 : ¬ ((k : Int) < 0) := (by omega); replace HR4 := hide (hb3.row (unhide HR4)); replace HR0 := hide (hb3.row (unhide HR0)); replace HB0 := hide (And.intro ((unhide HB0).1.trans hb3) (unhide HB0).2); clear hb3 hk)
    | (go_at_call 19; refine ((unhide H1) _ (unhide HB0).1).mono ?_; rintro e w1 ⟨rfl, hb1⟩; replace HR4 := hide (hb1.row (unhide HR4)); replace HR0 := hide (hb1.row (unhide HR0)); have y4 := (Bg.of (unhide HR0)).c4; replace HB0 := hide (And.intro ((unhide HB0).1.trans hb1) (unhide HB0).2); clear hb1))
  obtain ⟨haF, hkl, r0, r1, r2⟩ := (unhide HR) k w1 (unhide HB0).1 (unhide HK)
  have hgb : ¬ g = b4 := fun e => by have h9 := World.block_lt_of_cell? _ _ ((unhide HR) k W (Bel.refl W) (unhide HK)).2.2.1; have h8 := (unhide HN4).2; simp only at h9; omega
  have hkn : (k : Int) < s.fol.length := by omega
  refine wp_region_held_drew (S := fun W => W.heap[b]? = some (.cells (gc s x) 31) ∧ (W.cell? ⟨g, off + k * 3, none⟩ = some (.int .i64 f.1) ∧ W.cell? ⟨g, off + k * 3 + 1, none⟩ = some (.int .u64 f.2.1) ∧ W.cell? ⟨g, off + k * 3 + 2, none⟩ = some (.int .u64 f.2.2))) Tryz.follows ⟨unhide HR0, r0, r1, r2⟩ (fun hS => ?_)
  refine any_ldP (i := 0) (b := b) rfl (by kernel_rfl) (by kernel_rfl) (by kernel_rfl) (fun _ _ _ h => h) rfl hS rfl (by go_simp) (fun w hw => hw.1) ?_
  refine any_take (i := 1) (v := .pointer (some ⟨b, 15, none⟩)) rfl (by kernel_rfl) (by kernel_rfl) (by kernel_rfl) (fun _ _ _ h => h) rfl hS (fun w _ => by go_simp) ?_
  refine any_take (i := 2) (v := .slice (some ⟨g, off, none⟩) s.fol.length x.cF) rfl (by kernel_rfl) (by kernel_rfl) (by kernel_rfl) (fun _ _ _ h => h) rfl hS (fun w hw => by have hq : w.cell? ⟨b, 15, none⟩ = some (.slice (some ⟨g, off, none⟩) s.fol.length x.cF) := (Bg.of hw.1).c15.trans (by rw [haF]); go_simp) ?_
  refine any_take (i := 3) (v := .int .i64 k) rfl (by kernel_rfl) (by kernel_rfl) (by kernel_rfl) (fun _ _ _ h => h) rfl hS (fun w hw => by go_simp) ?_
  refine any_take (i := 4) (v := .pointer (some ⟨g, off + k * 3, none⟩)) rfl (by kernel_rfl) (by kernel_rfl) (by kernel_rfl) (fun _ _ _ h => h) rfl hS (fun w hw => by go_simp) ?_
  refine any_take (i := 5) (v := .agg (encF f).toArray) rfl (by kernel_rfl) (by kernel_rfl) (by kernel_rfl) (fun _ _ _ h => h) rfl hS (fun w hw => ldF_run rfl (by go_simp) hw.2.1 hw.2.2.1 hw.2.2.2) ?_
  refine any_call (i := 6) (by kernel_rfl) rfl rfl (by go_simp) ((unhide H3) _ (Bel.drew (unhide HB0).1)) ?_
  rintro e w6 ⟨mx, rfl, hg6, hb6⟩
  have hS6 : w6.heap[b]? = some (.cells (gc s x) 31) ∧ (w6.cell? ⟨g, off + k * 3, none⟩ = some (.int .i64 f.1) ∧ w6.cell? ⟨g, off + k * 3 + 1, none⟩ = some (.int .u64 f.2.1) ∧ w6.cell? ⟨g, off + k * 3 + 2, none⟩ = some (.int .u64 f.2.2)) := ⟨hb6.row hS.1, hb6.cell hS.2.1, hb6.cell hS.2.2.1, hb6.cell hS.2.2.2⟩
  refine ⟨_, rfl, hS6, ?_⟩
  have hr6 := hb6.row (show w1.drew.heap[b4]? = _ from unhide HR4)
  have hch := ch_row (c' := mg sm mx) hr6
  have hS9 : (w6.setRow b4 (mg sm mx)).heap[b]? = some (.cells (gc s x) 31) ∧ ((w6.setRow b4 (mg sm mx)).cell? ⟨g, off + k * 3, none⟩ = some (.int .i64 f.1) ∧ (w6.setRow b4 (mg sm mx)).cell? ⟨g, off + k * 3 + 1, none⟩ = some (.int .u64 f.2.1) ∧ (w6.setRow b4 (mg sm mx)).cell? ⟨g, off + k * 3 + 2, none⟩ = some (.int .u64 f.2.2)) := ⟨hch.2.row hS6.1 (fun e => (unhide HN4).1 e.symm), hch.2.cell hS6.2.1 hgb, hch.2.cell hS6.2.2.1 hgb, hch.2.cell hS6.2.2.2 hgb⟩
  refine any_skp (i := 7) (w' := w6.setRow b4 (mg sm mx)) (by kernel_rfl) rfl rfl (stM_run (by rfl) (by go_simp) (by go_simp) hr6) ⟨hS9, ?_⟩
  refine any_do (i := 8) (v := .int .i64 0) (w' := w6.setRow b4 (mg sm mx)) (by kernel_rfl) rfl rfl (by go_simp) ⟨hS9, ?_⟩
  refine wpAnyH_done (by kernel_rfl) ?_ _
  simp [Act.put]
  go_wp2_with fail
  have hbf := bel_off ((unhide HB0).1.drew.trans hb6) hch.2 (unhide HN4).2
  refine bodyPost_ret (res2 (p := 4) (q := 5) rfl Tryz.underlying68 (szM _ _) hch.1 _ _ rfl rfl) rfl ⟨_, rfl, hg6.boxM hr6 hch.2, hbf⟩
end Go.Proofs.YtphiigejlfoinaaGreat
