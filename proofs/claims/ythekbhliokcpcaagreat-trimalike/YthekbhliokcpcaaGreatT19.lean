/- logs.message of any member. message, beat of any member. -/
import Derived.Test.YthekbhliokcpcaaGreatT18
import Derived.Test.YthekbhliokcpcaaGreatT13
import Derived.Test.YthekbhliokcpcaaGreatT10
import Derived.Test.YthekbhliokcpcaaGreatT06
import Derived.Test.YthekbhliokcpcaaGreatT12
import Derived.Test.YthekbhliokcpcaaGreatT11
namespace Go.Proofs.YthekbhliokcpcaaGreat
open Go.RowKit Go.Maps Go.Sort
structure Tg (W w : World) (p b b2 : Nat) (s : GP) (x : Px) (m : GM) (mx : GX) : Prop where
 row : w.heap[b]? = some (.cells (mg m mx) 87)
 row2 : ∃ m2 x2, w.heap[b2]? = some (.cells (mg m2 x2) 87)
 rowp : w.heap[p]? = some (.cells (gc s x) 31)
 bel : Bel W w
 ge : W.heap.size ≤ b
 ge2 : W.heap.size ≤ b2
 ne : ¬ b2 = b
section
variable {W w w' : World} {p b b2 : Nat} {s : GP} {x : Px} {m m' : GM} {mx mx' : GX}
theorem Tg.next (h : Tg W w p b b2 s x m mx) (hb : Bel w w') : Tg W w' p b b2 s x m mx := by
 obtain ⟨m2, x2, h2⟩ := h.row2
 exact ⟨hb.row h.row, ⟨m2, x2, hb.row h2⟩, hb.row h.rowp, h.bel.trans hb, h.ge, h.ge2, h.ne⟩
theorem Tg.pb (h : Tg W w p b b2 s x m mx) : ¬ p = b := fun e => by
 have := h.rowp; rw [e, h.row] at this; injection (Option.some.inj this) with _ h3; exact absurd h3 (by decide)
theorem Tg.set (h : Tg W w p b b2 s x m mx) (h1 : w'.heap[b]? = some (.cells (mg m' mx') 87)) (hc : Ch (fun i => i = b) w w') : Tg W w' p b b2 s x m' mx' := by
 obtain ⟨m2, x2, h2⟩ := h.row2
 exact ⟨h1, ⟨m2, x2, hc.row h2 h.ne⟩, hc.row h.rowp h.pb, bel_off h.bel hc h.ge, h.ge, h.ge2, h.ne⟩
end
theorem gm_set {ops : Array Oper} {rest : List Oper} {o : Oper} {a : Act} {Q : Exit → Act → World → Prop} {W : World} {m : GM} {mx : GX} (t : TypeId) (x y : Operand) (ho : o.op = .store t x y) (hgd : o.guard = none) (b i : Nat) (v : Value) (hx : a.eval x = .pointer (some ⟨b, i, none⟩)) (hy : a.eval y = v) (hv : v.cells = #[v]) (hv1 : v.oneCell' = true) {m' : GM} {mx' : GX} (hg : W.heap[b]? = some (.cells (mg m mx) 87)) (hi : (Tryz.prog.info? t).map (·.size) = some 1) (hlt : i < 12) (e : (mg m mx).setIfInBounds i v = mg m' mx')
  (hK : ∀ w', w'.heap[b]? = some (.cells (mg m' mx') 87) → Ch (fun k => k = b) W w' → wpList Tryz.prog ops Q rest (a.put o.dst undef) w') : wpList Tryz.prog ops Q (o :: rest) a W :=
 bx_set hgd t x y ho b i v hx hy hv hv1 (mg m mx) _ hg hi hlt (fun w' h1 h2 => hK w' (by rw [← e]; exact h1) h2)
theorem SlT.boxM {α : Type} {E : El α} {W W' : World} {a : Option Addr} {L : List α} {b : Nat} {cs : Array Value} (h : SlT E W a L) (hr : W.heap[b]? = some (.cells cs 87)) (ht : E.e ≠ 87) (hc : Ch (fun k => k = b) W W') : SlT E W' a L := h.box hr ht hc
structure GwT (W : World) (m : GM) (x : GX) : Prop where
 e : x.ls.map (·.1) = m.ents
 l : SlT EG W x.ea x.ls
 g : ∀ y ∈ x.ls, SlT E3 W y.2.a y.1.m
 m : SlT E3 W x.ma m.mem
theorem GwT.gw {W : World} {m : GM} {x : GX} (h : GwT W m x) : Gw W m x := ⟨h.e, h.l.1, fun y hy => (h.g y hy).1, h.m.1⟩
theorem GwT.bel {W W' : World} {m : GM} {x : GX} (h : GwT W m x) (hb : Bel W W') : GwT W' m x := ⟨h.e, h.l.bel hb, fun y hy => (h.g y hy).bel hb, h.m.bel hb⟩
theorem SlT.nil {α : Type} (E : El α) (W : World) (a : Option Addr) : SlT E W a [] := ⟨Sl.nil E W a, fun _ _ h => absurd rfl h⟩
def fcs (i n t : Int) : Array Value := #[.int .i64 i, .int .u64 n, .int .u64 t]
def GP.inst (s : GP) (f : Int × Int × Int) : GM := ⟨5, s.id, f.1, s.term, s.base, s.baseT, 0, s.round, false, [], s.B, s.snap⟩
set_option maxRecDepth 100000 in
set_option maxHeartbeats 8000000 in
theorem inst_g {W : World} {s : GP} {x : Px} (h : Sl E3 W x.aB s.B) (hB : s.B.length ≤ 17592186044416) (f : Int × Int × Int) (hf1 : 1 ≤ f.2.1) (hf2 : f.2.1 ≤ 18446744073709551615) (hf3 : f.2.1 - 1 < s.base) : Calls Tryz.prog 131 #[.agg (gc s x), .agg (encF f).toArray] W fun e w' => ∃ mx, e = .returned (.agg (mg (s.inst f) mx)) ∧ GwT w' (s.inst f) mx ∧ Bel W w' := by
 have HC : Hid (∀ w1, Bel W w1 → Calls Tryz.prog 99 #[.slice x.aB s.B.length x.cB] w1 fun e w' => ∃ a' c', e = .returned (.slice a' s.B.length c') ∧ SlT E3 w' a' s.B ∧ Bel w1 w') := jd (fun w1 hb => (clone3w rfl (h.bel hb) (by omega)).mono (fun e w' ⟨a', c', he, ho, hb'⟩ => ⟨a', c', he, SlT.of ho, hb'⟩))
 obtain ⟨f1, f2, f3⟩ := f
 simp only at hf1 hf2 hf3
 have hw1 : IntKind.u64.wrap (f2 - 1) = f2 - 1 := by rw [IntKind.wrap_u64]; omega
 unfold GP.inst
 rw [show (encF (f1, f2, f3)).toArray = fcs f1 f2 f3 from rfl]
 simp only
 clear h hB hf1 hf2
 go_enter Tryz.func131, Tryz.ntmps131
 go_wp2_with (first
 | go_skip
 | (refine bx_boxK 31 (.tmp 0) (by exact rfl) (by exact rfl) (gc s x) (by exact rfl) ?_; intro b0 w0 hr0 hs0 hb0; have HR0 := jd hr0; have HB0 := jd hb0; clear hr0 hs0 hb0)
 | (refine bx_boxK 79 (.tmp 1) (by exact rfl) (by exact rfl) (fcs f1 f2 f3) (by exact rfl) ?_; intro bf w1 hr1 hs1 hb1; have HRF := jd hr1; replace HR0 := jd (hb1.row (ju HR0)); replace HB0 := jd ((ju HB0).trans hb1); clear hr1 hs1 hb1)
 | (refine bx_new rfl 87 rfl _ zeroM ?_; intro b2 w2 hr2 hs2 hb2; have HQ := jd (aI hr2 (aI (show W.heap.size ≤ b2 by have := (ju HB0).size; omega) (aI (hb2.row (ju HRF)) (aI (hb2.row (ju HR0)) ((ju HB0).trans hb2))))); have y0 := (Bg.of (ju HQ).2.2.2.1).c0; have y2 := (Bg.of (ju HQ).2.2.2.1).c2; have y16 := (Bg.of (ju HQ).2.2.2.1).c16; have z0 : w2.cell? ⟨bf, 0, none⟩ = some (.int .i64 f1) := cell_of (ju HQ).2.2.1; clear hr2 hs2 hb2 HR0 HB0 HRF)
 | (refine bx_new rfl 87 rfl _ zeroM ?_; intro b w3 hr3 hs3 hb3; have HN := jd (aI hr3 (aI hs3 hb3)); clear hr3 hs3 hb3)
 | (refine bx_st rfl 87 (.tmp 5) _ rfl b (mg ⟨0, s.id, f1, s.term, 0, 0, 0, s.round, false, [], [], ⟨#[]⟩⟩ gzx) _ rfl rfl (ju HN).1 (szM _ _) rfl (mg_one _ _) ?_; intro w4 hr4 hc4; have hbb := bel_off (ju HN).2.2 hc4 (Nat.le_of_eq (ju HN).2.1); have HZ : Hid (Tg W w4 b0 b b2 s x ⟨0, s.id, f1, s.term, 0, 0, 0, s.round, false, [], [], ⟨#[]⟩⟩ gzx) := jd ⟨hr4, ⟨_, _, hbb.row (ju HQ).1⟩, hbb.row (ju HQ).2.2.2.1, (ju HQ).2.2.2.2.trans hbb, (by have := (ju HQ).2.2.2.2.size; have := (ju HN).2.1; omega), (ju HQ).2.1, fun e => by have := lt_of_some (ju HQ).1; have := (ju HN).2.1; omega⟩; have HRF := jd (hbb.row (ju HQ).2.2.1); have z1 : w4.cell? ⟨bf, 1, none⟩ = some (.int .u64 f2) := cell_of (ju HRF); clear hr4 hc4 hbb HQ HN y0 y2 y16 z0)
 | (refine gm_set (m' := ⟨0, s.id, f1, s.term, f2 - 1, 0, 0, s.round, false, [], [], ⟨#[]⟩⟩) (mx' := gzx) 25 (.tmp 20) (.tmp 19) (by exact rfl) (by exact rfl) b 4 (.int .u64 (f2 - 1)) (by exact rfl) (by exact rfl) rfl rfl (ju HZ).row (by kernel_rfl) (by decide) rfl ?_; intro w5 hr5 hc5; have HRF := jd (hc5.row (ju HRF) (fun e => by have := (ju HZ).row; rw [← e, ju HRF] at this; injection (Option.some.inj this) with _ h3; exact absurd h3 (by decide))); replace HZ := jd ((ju HZ).set hr5 hc5); have y4 := (Mb2.of hr5).c4; have y6 := (Bg.of (ju HZ).rowp).c6; clear hr5 hc5 z1)
 | (refine gm_set (m' := ⟨5, s.id, f1, s.term, f2 - 1, 0, 0, s.round, false, [], [], ⟨#[]⟩⟩) (mx' := gzx) 85 (.tmp 26) (.const (.int .u8 5)) (by exact rfl) (by exact rfl) b 0 (.int .u8 5) (by exact rfl) (by exact rfl) rfl rfl (ju HZ).row (by kernel_rfl) (by decide) rfl ?_; intro w6 hr6 hc6; replace HZ := jd ((ju HZ).set hr6 hc6); clear hr6 hc6 y4 y6))
 have hr5 := (ju HZ).row
 have HZ0 := HZ
 have hS0 := (ju HZ).rowp
 refine wp_region_held_drew (S := fun W => W.heap[b0]? = some (.cells (gc s x) 31)) Tryz.follows hS0 (fun hS => ?_)
 refine any_take (i := 0) (v := .pointer (some ⟨b0, 6, none⟩)) rfl (by kernel_rfl) (fun _ _ _ h => h) rfl hS (fun w _ => by go_simp) ?_
 refine any_take (i := 1) (v := .int .u64 s.base) rfl (by kernel_rfl) (fun _ _ _ h => h) rfl hS (fun w hw => by have hq : w.cell? ⟨b0, 6, none⟩ = some (.int .u64 s.base) := (Bg.of hw).c6; go_simp) ?_
 refine any_take (i := 2) (v := .pointer (some ⟨b0, 7, none⟩)) rfl (by kernel_rfl) (fun _ _ _ h => h) rfl hS (fun w _ => by go_simp) ?_
 refine any_take (i := 3) (v := .int .u64 s.baseT) rfl (by kernel_rfl) (fun _ _ _ h => h) rfl hS (fun w hw => by have hq : w.cell? ⟨b0, 7, none⟩ = some (.int .u64 s.baseT) := (Bg.of hw).c7; go_simp) ?_
 refine any_take (i := 4) (v := .pointer (some ⟨b, 4, none⟩)) rfl (by kernel_rfl) (fun _ _ _ h => h) rfl hS (fun w _ => by go_simp) ?_
 refine any_stc (i := 5) (b := b) (p := 4) (v := .int .u64 s.base) (by kernel_rfl) rfl rfl rfl (by go_simp) (by go_simp) rfl rfl (ju HZ0).row (by kernel_rfl) (by simp [mg]) ?_
 intro a6 ha6 hca6
 have hS := hca6.row hS (ju HZ0).pb
 refine ⟨hS, ?_⟩
 refine any_take (i := 6) (v := .pointer (some ⟨b, 5, none⟩)) rfl (by kernel_rfl) (fun _ _ _ h => h) rfl hS (fun w _ => by go_simp) ?_
 refine any_stc (i := 7) (b := b) (p := 5) (v := .int .u64 s.baseT) (by kernel_rfl) rfl rfl rfl (by go_simp) (by go_simp) rfl rfl ha6 (by kernel_rfl) (by simp [mg]) ?_
 intro a7 ha7 hca7
 have hS := hca7.row hS (ju HZ0).pb
 refine ⟨hS, ?_⟩
 refine wpAnyH_done (by kernel_rfl) ?_ _
 simp [Act.put]
 have HZ1 : Hid (Tg W a7 b0 b b2 s x ⟨5, s.id, f1, s.term, s.base, s.baseT, 0, s.round, false, [], [], ⟨#[]⟩⟩ gzx) := jd (((ju HZ0).next (Bel.refl _).drew).set ha7 (hca6.trans hca7 (fun _ h => Or.inl h)))
 clear ha6 hca6 ha7 hca7 hS hS0 hr5 HZ HZ0
 go_wp2_with fail
 have hS0 := (ju HZ1).rowp
 refine wp_region_held_drew (S := fun W => W.heap[b0]? = some (.cells (gc s x) 31)) Tryz.follows hS0 (fun hS => ?_)
 refine any_take (i := 0) (v := .pointer (some ⟨b0, 8, none⟩)) rfl (by kernel_rfl) (fun _ _ _ h => h) rfl hS (fun w _ => by go_simp) ?_
 refine any_take (i := 1) (v := .slice x.aB s.B.length x.cB) rfl (by kernel_rfl) (fun _ _ _ h => h) rfl hS (fun w hw => by have hq : w.cell? ⟨b0, 8, none⟩ = some (.slice x.aB s.B.length x.cB) := (Bg.of hw).c8; go_simp) ?_
 refine any_take (i := 3) (v := .pointer (some ⟨b0, 9, none⟩)) rfl (by kernel_rfl) (fun _ _ _ h => h) rfl hS (fun w _ => by go_simp) ?_
 refine any_take (i := 4) (v := .string s.snap) rfl (by kernel_rfl) (fun _ _ _ h => h) rfl hS (fun w hw => by have hq : w.cell? ⟨b0, 9, none⟩ = some (.string s.snap) := (Bg.of hw).c9; go_simp) ?_
 refine any_call (i := 2) (by kernel_rfl) rfl rfl (by go_simp) ((ju HC) _ (ju HZ1).bel.drew) ?_
 rintro e b8 ⟨aM, cM, rfl, hsM, hb8⟩
 have hS := hb8.row hS
 refine ⟨_, rfl, hS, ?_⟩
 have hr8 := hb8.row (show a7.drew.heap[b]? = _ from (ju HZ1).row)
 refine any_take (i := 5) (v := .pointer (some ⟨b, 10, none⟩)) rfl (by kernel_rfl) (fun _ _ _ h => h) rfl hS (fun w _ => by go_simp) ?_
 refine any_stc (i := 6) (b := b) (p := 10) (v := .slice aM s.B.length cM) (by kernel_rfl) rfl rfl rfl (by go_simp) (by go_simp) rfl rfl hr8 (by kernel_rfl) (by simp [mg]) ?_
 intro a9 ha9 hca9
 have hS := hca9.row hS (ju HZ1).pb
 refine ⟨hS, ?_⟩
 refine any_take (i := 7) (v := .pointer (some ⟨b, 11, none⟩)) rfl (by kernel_rfl) (fun _ _ _ h => h) rfl hS (fun w _ => by go_simp) ?_
 refine any_stc (i := 8) (b := b) (p := 11) (v := .string s.snap) (by kernel_rfl) rfl rfl rfl (by go_simp) (by go_simp) rfl rfl ha9 (by kernel_rfl) (by simp [mg]) ?_
 intro aa haa hcaa
 have hS := hcaa.row hS (ju HZ1).pb
 refine ⟨hS, ?_⟩
 refine wpAnyH_done (by kernel_rfl) ?_ _
 simp [Act.put]
 have hcc := hca9.trans hcaa (fun _ h => Or.inl h)
 have HZ2 : Hid (Tg W aa b0 b b2 s x ⟨5, s.id, f1, s.term, s.base, s.baseT, 0, s.round, false, [], s.B, s.snap⟩ ⟨none, 0, [], aM, cM⟩) := jd ((((ju HZ1).next (Bel.refl _).drew).next hb8).set haa hcc)
 have HO := jd (hsM.boxM hr8 (by decide) hcc)
 clear ha9 hca9 haa hcaa hS hS0 HZ1 hb8 hr8 hsM hcc
 go_wp2_with (first
  | go_skip
  | (refine bx_ldK 87 (.tmp 5) (by exact rfl) b (by exact rfl) (by exact rfl) (mg _ _) _ (ju HZ2).row Tryz.underlying87 (szM _ _) ?_)
  | (obtain ⟨m2, x2, h2⟩ := (ju HZ2).row2; refine bx_st rfl 87 (.tmp 4) _ rfl b2 (mg _ _) _ rfl rfl h2 (szM _ _) rfl (mg_one _ _) ?_; intro wc hrc hcc; have HR9 := jd (aI hrc (aI ((ju HO).boxM h2 (by decide) hcc) (bel_off (ju HZ2).bel hcc (ju HZ2).ge2))); clear hrc hcc h2))
 exact bodyPost_ret (res1 (p := 4) rfl Tryz.underlying87 (szM _ _) (ju HR9).1 _ rfl) rfl ⟨_, rfl, ⟨rfl, SlT.nil _ _ _, (fun y hy => by cases hy), (ju HR9).2.1⟩, (ju HR9).2.2⟩
def Nm (base : Nat) (m : GM) (x : GX) : Prop := Nw base x.ea m.ents.length ∧ m.ents.length ≤ x.ec
theorem Nm.mono {base base' : Nat} {m : GM} {x : GX} (h : Nm base m x) (hb : base' ≤ base) : Nm base' m x := ⟨h.1.mono hb, h.2⟩
theorem Nm.zero (base : Nat) {m : GM} (x : GX) (h : m.ents = []) : Nm base m x := by unfold Nm; rw [h]; exact ⟨Nw.zero _ _, Nat.zero_le _⟩
def GP.lay (s : GP) (f : Int × Int × Int) : GM := ⟨3, s.id, f.1, s.term, f.2.1 - 1, (s.tAt (f.2.1 - 1)).getD 0, s.commit, s.round, false, (s.log.take (min s.lastI (f.2.1 - 1 + 16) - s.base).toNat).drop (f.2.1 - 1 - s.base).toNat, [], ⟨#[]⟩⟩
set_option maxRecDepth 100000 in
set_option maxHeartbeats 8000000 in
theorem lay_g {W : World} {s : GP} {x : Px} (h : SlG W x.aL s.log) (h0 : 0 ≤ s.base) (h1 : s.base ≤ 4611686018427387904) (hl : s.log.length ≤ 1000000) (hcap : s.log.length ≤ x.cL) (hm : ∀ e ∈ s.log, e.m.length ≤ 17592186044416) (f : Int × Int × Int) (hf2 : f.2.1 ≤ s.lastI + 1) (hf3 : s.base ≤ f.2.1 - 1) : Calls Tryz.prog 131 #[.agg (gc s x), .agg (encF f).toArray] W fun e w' => ∃ mx, e = .returned (.agg (mg (s.lay f) mx)) ∧ GwT w' (s.lay f) mx ∧ Nm W.heap.size (s.lay f) mx ∧ Bel W w' := by
 obtain ⟨f1, f2, f3⟩ := f
 simp only at hf2 hf3
 have hlI : s.lastI = s.base + s.log.length := rfl
 obtain ⟨k, hk⟩ : ∃ k : Nat, f2 - 1 - s.base = k := ⟨(f2 - 1 - s.base).toNat, by omega⟩
 obtain ⟨m, hmm⟩ : ∃ m : Nat, min s.lastI (f2 - 1 + 16) - s.base = m := ⟨(min s.lastI (f2 - 1 + 16) - s.base).toNat, by omega⟩
 have HT : Hid (∀ w1, Bel W w1 → Calls Tryz.prog 74 #[.agg (gc s x), .int .u64 (f2 - 1)] w1 fun e w' => e = .returned (.tuple #[.int .u64 ((s.tAt (f2 - 1)).getD 0), .bool (s.tAt (f2 - 1)).isSome]) ∧ Bel w1 w') := jd (fun w1 hb => term_g (h.bel hb) (f2 - 1) h0 ⟨by omega, by omega⟩ hl)
 have HL : Hid (∀ w1, Bel W w1 → Calls Tryz.prog 79 #[.agg (gc s x)] w1 fun e w' => e = .returned (.tuple #[.int .u64 s.lastI, .int .u64 s.lastT]) ∧ Bel w1 w') := jd (fun w1 hb => last_g (h.bel hb) h0 h1 hl)
 have HE : Hid (∀ w1, Bel W w1 → Calls Tryz.prog 174 #[.agg (gc s x), .int .u64 f2, .int .u64 (min s.lastI (f2 - 1 + 16))] w1 fun e w' => ∃ a' c', e = .returned (.slice a' ((s.log.take m).drop k).length c') ∧ SlGT w' a' ((s.log.take m).drop k) ∧ (Nw W.heap.size a' ((s.log.take m).drop k).length ∧ ((s.log.take m).drop k).length ≤ c') ∧ Bel w1 w') := jd (fun w1 hb => (ents_g (h.bel hb) f2 (min s.lastI (f2 - 1 + 16)) k m (by omega) (by omega) (by omega) hmm hl hcap hm).mono (fun e w' ⟨a', c', e1, e2, e3, e4⟩ => ⟨a', c', e1, e2, ⟨e3.1.mono hb.size, e3.2⟩, e4⟩))
 have hw1 : IntKind.u64.wrap (f2 - 1) = f2 - 1 := by rw [IntKind.wrap_u64]; omega
 have hw2 : IntKind.u64.wrap (f2 - 1 + 16) = f2 - 1 + 16 := by rw [IntKind.wrap_u64]; omega
 have hnb : ¬ (f2 - 1 < s.base) := by omega
 unfold GP.lay
 simp only
 rw [show (min s.lastI (f2 - 1 + 16) - s.base).toNat = m by omega, show (f2 - 1 - s.base).toNat = k by omega]
 rw [show (encF (f1, f2, f3)).toArray = fcs f1 f2 f3 from rfl]
 clear h h0 h1 hl hcap hm hf2 hf3 hk hmm hlI
 generalize (s.tAt (f2 - 1)).getD 0 = tt at *
 generalize (s.tAt (f2 - 1)).isSome = tb at *
 generalize s.lastI = li at *
 generalize s.lastT = lt at *
 generalize (s.log.take m).drop k = E at *
 go_enter Tryz.func131, Tryz.ntmps131
 go_wp2_with (first
 | go_skip
 | (refine bx_boxK 31 (.tmp 0) (by exact rfl) (by exact rfl) (gc s x) (by exact rfl) ?_; intro b0 w0 hr0 hs0 hb0; have HR0 := jd hr0; have HB0 := jd hb0; clear hr0 hs0 hb0)
 | (refine bx_boxK 79 (.tmp 1) (by exact rfl) (by exact rfl) (fcs f1 f2 f3) (by exact rfl) ?_; intro bf w1 hr1 hs1 hb1; have HRF := jd hr1; replace HR0 := jd (hb1.row (ju HR0)); replace HB0 := jd ((ju HB0).trans hb1); clear hr1 hs1 hb1)
 | (refine bx_new rfl 87 rfl _ zeroM ?_; intro b2 w2 hr2 hs2 hb2; have HQ := jd (aI hr2 (aI (show W.heap.size ≤ b2 by have := (ju HB0).size; omega) (aI (hb2.row (ju HRF)) (aI (hb2.row (ju HR0)) ((ju HB0).trans hb2))))); have y0 := (Bg.of (ju HQ).2.2.2.1).c0; have y2 := (Bg.of (ju HQ).2.2.2.1).c2; have y16 := (Bg.of (ju HQ).2.2.2.1).c16; have z0 : w2.cell? ⟨bf, 0, none⟩ = some (.int .i64 f1) := cell_of (ju HQ).2.2.1; clear hr2 hs2 hb2 HR0 HB0 HRF)
 | (refine bx_new rfl 87 rfl _ zeroM ?_; intro b w3 hr3 hs3 hb3; have HN := jd (aI hr3 (aI hs3 hb3)); clear hr3 hs3 hb3)
 | (refine bx_st rfl 87 (.tmp 5) _ rfl b (mg ⟨0, s.id, f1, s.term, 0, 0, 0, s.round, false, [], [], ⟨#[]⟩⟩ gzx) _ rfl rfl (ju HN).1 (szM _ _) rfl (mg_one _ _) ?_; intro w4 hr4 hc4; have hbb := bel_off (ju HN).2.2 hc4 (Nat.le_of_eq (ju HN).2.1); have HZ : Hid (Tg W w4 b0 b b2 s x ⟨0, s.id, f1, s.term, 0, 0, 0, s.round, false, [], [], ⟨#[]⟩⟩ gzx) := jd ⟨hr4, ⟨_, _, hbb.row (ju HQ).1⟩, hbb.row (ju HQ).2.2.2.1, (ju HQ).2.2.2.2.trans hbb, (by have := (ju HQ).2.2.2.2.size; have := (ju HN).2.1; omega), (ju HQ).2.1, fun e => by have := lt_of_some (ju HQ).1; have := (ju HN).2.1; omega⟩; have HRF := jd (hbb.row (ju HQ).2.2.1); have z1 : w4.cell? ⟨bf, 1, none⟩ = some (.int .u64 f2) := cell_of (ju HRF); clear hr4 hc4 hbb HQ HN y0 y2 y16 z0)
 | (refine gm_set (m' := ⟨0, s.id, f1, s.term, f2 - 1, 0, 0, s.round, false, [], [], ⟨#[]⟩⟩) (mx' := gzx) 25 (.tmp 20) (.tmp 19) (by exact rfl) (by exact rfl) b 4 (.int .u64 (f2 - 1)) (by exact rfl) (by exact rfl) rfl rfl (ju HZ).row (by kernel_rfl) (by decide) rfl ?_; intro w5 hr5 hc5; have HRF := jd (hc5.row (ju HRF) (fun e => by have := (ju HZ).row; rw [← e, ju HRF] at this; injection (Option.some.inj this) with _ h3; exact absurd h3 (by decide))); replace HZ := jd ((ju HZ).set hr5 hc5); have y4 := (Mb2.of hr5).c4; have y6 := (Bg.of (ju HZ).rowp).c6; clear hr5 hc5 z1))
 have HZ0 := HZ
 have hS0 := (ju HZ).rowp
 refine wp_region_held_drew (S := fun W => W.heap[b0]? = some (.cells (gc s x) 31)) Tryz.follows hS0 (fun hS => ?_)
 refine any_take (i := 0) (v := .pointer (some ⟨b0, 11, none⟩)) rfl (by kernel_rfl) (fun _ _ _ h => h) rfl hS (fun w _ => by go_simp) ?_
 refine any_take (i := 1) (v := .int .u64 s.commit) rfl (by kernel_rfl) (fun _ _ _ h => h) rfl hS (fun w hw => by have hq : w.cell? ⟨b0, 11, none⟩ = some (.int .u64 s.commit) := (Bg.of hw).c11; go_simp) ?_
 refine any_take (i := 2) (v := .pointer (some ⟨b, 0, none⟩)) rfl (by kernel_rfl) (fun _ _ _ h => h) rfl hS (fun w _ => by go_simp) ?_
 refine any_stc (i := 3) (b := b) (p := 0) (v := .int .u8 3) (by kernel_rfl) rfl rfl rfl (by go_simp) (by go_simp) rfl rfl (ju HZ0).row (by kernel_rfl) (by simp [mg]) ?_
 intro a6 ha6 hca6
 have hS := hca6.row hS (ju HZ0).pb
 refine ⟨hS, ?_⟩
 refine any_take (i := 4) (v := .pointer (some ⟨b, 6, none⟩)) rfl (by kernel_rfl) (fun _ _ _ h => h) rfl hS (fun w _ => by go_simp) ?_
 refine any_stc (i := 5) (b := b) (p := 6) (v := .int .u64 s.commit) (by kernel_rfl) rfl rfl rfl (by go_simp) (by go_simp) rfl rfl ha6 (by kernel_rfl) (by simp [mg]) ?_
 intro a7 ha7 hca7
 have hS := hca7.row hS (ju HZ0).pb
 refine ⟨hS, ?_⟩
 refine wpAnyH_done (by kernel_rfl) ?_ _
 simp [Act.put]
 have hcc := hca6.trans hca7 (fun _ h => Or.inl h)
 have HZ1 : Hid (Tg W a7 b0 b b2 s x ⟨3, s.id, f1, s.term, f2 - 1, 0, s.commit, s.round, false, [], [], ⟨#[]⟩⟩ gzx) := jd (((ju HZ0).next (Bel.refl _).drew).set ha7 hcc)
 have HRF1 := jd (hcc.row (show w5.drew.heap[bf]? = _ from ju HRF) (fun e => by have := (ju HZ0).row; rw [← e, ju HRF] at this; injection (Option.some.inj this) with _ h3; exact absurd h3 (by decide)))
 clear ha6 hca6 ha7 hca7 hS hS0 HZ HZ0 hcc HRF y4 y6
 have y4 : a7.cell? ⟨b, 4, none⟩ = some (.int .u64 (f2 - 1)) := (Mb2.of (ju HZ1).row).c4
 go_wp2_with (first
  | go_skip
  | (refine bx_ldK 31 (.tmp 2) (by exact rfl) b0 (by exact rfl) (by exact rfl) (gc s x) _ (ju HZ1).rowp u31 (zP _ _) ?_)
  | (refine bx_ldK 87 (.tmp 5) (by exact rfl) b (by exact rfl) (by exact rfl) (mg _ _) _ (ju HZ1).row Tryz.underlying87 (szM _ _) ?_)
  | go_guarded
  | (go_at_call 74; refine ((ju HT) _ (ju HZ1).bel).mono ?_; rintro e w7 ⟨rfl, hb7⟩; replace HZ1 := jd ((ju HZ1).next hb7); replace HRF1 := jd (hb7.row (ju HRF1)); clear hb7)
  | (refine gm_set (m' := ⟨3, s.id, f1, s.term, f2 - 1, tt, s.commit, s.round, false, [], [], ⟨#[]⟩⟩) (mx' := gzx) 25 (.tmp 52) (.tmp 50) (by exact rfl) (by exact rfl) b 5 (.int .u64 tt) (by exact rfl) (by exact rfl) rfl rfl (ju HZ1).row (by kernel_rfl) (by decide) rfl ?_; intro w8 hr8 hc8; replace HRF1 := jd (hc8.row (ju HRF1) (fun e => by have := (ju HZ1).row; rw [← e, ju HRF1] at this; injection (Option.some.inj this) with _ h3; exact absurd h3 (by decide))); replace HZ1 := jd ((ju HZ1).set hr8 hc8); clear hr8 hc8)
  | (go_at_call 79; refine ((ju HL) _ (ju HZ1).bel).mono ?_; rintro e w9 ⟨rfl, hb9⟩; replace HZ1 := jd ((ju HZ1).next hb9); replace HRF1 := jd (hb9.row (ju HRF1)); have y4 : w9.cell? ⟨b, 4, none⟩ = some (.int .u64 (f2 - 1)) := (Mb2.of (ju HZ1).row).c4; have z1 : w9.cell? ⟨bf, 1, none⟩ = some (.int .u64 f2) := cell_of (ju HRF1); clear hb9)
  | (go_at_call 174; refine ((ju HE) _ (ju HZ1).bel).mono ?_; rintro e wa ⟨aE, cE, rfl, hsE, hnE, hba⟩; have HO := jd hsE; have HNE := jd hnE; replace HZ1 := jd ((ju HZ1).next hba); clear hsE hnE hba)
  | (obtain ⟨LE, q1, q2, q3⟩ := (ju HO); refine gm_set (m' := ⟨3, s.id, f1, s.term, f2 - 1, tt, s.commit, s.round, false, E, [], ⟨#[]⟩⟩) (mx' := ⟨aE, cE, LE, none, 0⟩) 27 (.tmp 67) (.tmp 66) (by exact rfl) (by exact rfl) b 9 (.slice aE E.length cE) (by exact rfl) (by exact rfl) rfl rfl (ju HZ1).row (by kernel_rfl) (by decide) rfl ?_; intro wb hrb hcb; have HQ : Hid (LE.map (·.1) = E ∧ SlT EG wb aE LE ∧ ∀ y ∈ LE, SlT E3 wb y.2.a y.1.m) := jd ⟨q1, q2.boxM (ju HZ1).row (by decide) hcb, fun y hy => (q3 y hy).boxM (ju HZ1).row (by decide) hcb⟩; replace HZ1 := jd ((ju HZ1).set hrb hcb); clear hrb hcb q1 q2 q3)
  | (obtain ⟨m2, x2, h2⟩ := (ju HZ1).row2; refine bx_st rfl 87 (.tmp 4) _ rfl b2 (mg _ _) _ rfl rfl h2 (szM _ _) rfl (mg_one _ _) ?_; intro wc hrc hcc; have HR9 := jd (aI hrc (aI (aI (ju HQ).1 (aI ((ju HQ).2.1.boxM h2 (by decide) hcc) (fun y hy => ((ju HQ).2.2 y hy).boxM h2 (by decide) hcc))) (bel_off (ju HZ1).bel hcc (ju HZ1).ge2))); clear hrc hcc h2))
 exact bodyPost_ret (res1 (p := 4) rfl Tryz.underlying87 (szM _ _) (ju HR9).1 _ rfl) rfl ⟨_, rfl, ⟨(ju HR9).2.1.1, (ju HR9).2.1.2.1, (fun y hy => (ju HR9).2.1.2.2 y hy), SlT.nil _ _ _⟩, ju HNE, (ju HR9).2.2⟩
def GP.snd (s : GP) (f : Int × Int × Int) : GM := if f.2.1 - 1 < s.base then s.inst f else s.lay f
theorem SlT.grown {α β : Type} {E : El α} {F : El β} {base2 : Nat} {W w' : World} {a : Option Addr} {L : List α} {v2 : Value} {L2 : List β} (h : SlT E W a L) (h2 : F.O base2 W v2 L2) (hg : W.grownBy w' v2.ownBlock) (ht : E.e ≠ F.e) : SlT E w' a L := by
 obtain ⟨⟨g, off, ha, hR⟩, hT⟩ := h
 by_cases h0 : L.length = 0
 ·exact ⟨⟨g, off, fun h => absurd h0 h, fun j hj => by omega⟩, fun g' off' h => absurd h0 h⟩
 ·have e := ha h0
  obtain ⟨c, fr, hgr⟩ := hT g off h0 e
  have hge : w'.heap[g]? = W.heap[g]? := hg.block g (lt_of_some hgr) (fun e2 => by
   obtain ⟨c2, hc2⟩ := h2.block e2.symm
   rw [hgr] at hc2
   injection (Option.some.inj hc2) with _ h3
   exact ht h3)
  refine ⟨⟨g, off, ha, fun j hj cc u hu => ?_⟩, fun g' off' _ h' => ?_⟩
  ·have := hR j hj cc u hu
   simp only [World.cell?, hge] at this ⊢
   exact this
  ·rw [e] at h'
   injection h' with h'
   injection h' with h1 _ _
   subst h1
   exact ⟨c, fr, by rw [hge]; exact hgr⟩
theorem GwT.grown {base2 : Nat} {W w' : World} {m : GM} {x : GX} {v2 : Value} {L2 : List (GM × GX)} (h : GwT W m x) (h2 : EMg.O base2 W v2 L2) (hg : W.grownBy w' v2.ownBlock) : GwT w' m x := ⟨h.e, h.l.grown h2 hg (by decide), fun y hy => (h.g y hy).grown h2 hg (by decide), h.m.grown h2 hg (by decide)⟩
theorem GwT.box {W W' : World} {m : GM} {x : GX} {b : Nat} {cs : Array Value} (h : GwT W m x) (hr : W.heap[b]? = some (.cells cs 31)) (hc : Ch (fun k => k = b) W W') : GwT W' m x := ⟨h.e, h.l.box hr (by decide) hc, fun y hy => (h.g y hy).box hr (by decide) hc, h.m.box hr (by decide) hc⟩
def Ms (base : Nat) (w : World) (v : Value) (ms : List GM) : Prop := ∃ L : List (GM × GX), L.map (·.1) = ms ∧ EMg.O base w v L ∧ ∀ y ∈ L, GwT w y.1 y.2 ∧ Nm base y.1 y.2
section
variable {base : Nat} {w w' : World} {v : Value} {ms : List GM}
theorem Ms.bel (h : Ms base w v ms) (hb : Bel w w') : Ms base w' v ms := by
 obtain ⟨L, h1, h2, h3⟩ := h
 exact ⟨L, h1, h2.bel hb, fun y hy => ⟨(h3 y hy).1.bel hb, (h3 y hy).2⟩⟩
theorem Ms.mono {base' : Nat} (h : Ms base w v ms) (hb : base' ≤ base) : Ms base' w v ms := by
 obtain ⟨L, h1, h2, h3⟩ := h
 exact ⟨L, h1, h2.mono hb, fun y hy => ⟨(h3 y hy).1, (h3 y hy).2.mono hb⟩⟩
theorem Ms.nil (base : Nat) (w : World) : Ms base w (.slice none 0 0) [] := ⟨[], rfl, El.O.nil _ _, fun y hy => by cases hy⟩
theorem Ms.box {b : Nat} {c : Array Value} (h : Ms base w v ms) (hr : w.heap[b]? = some (.cells c 31)) (hc : Ch (fun k => k = b) w w') : Ms base w' v ms := by
 obtain ⟨L, h1, h2, h3⟩ := h
 exact ⟨L, h1, h2.box hr (by decide) hc, fun y hy => ⟨(h3 y hy).1.box hr hc, (h3 y hy).2⟩⟩
theorem Ms.plain {L : List (GM × GX)} (h : EMg.O base w v L) (he : ∀ y ∈ L, y.2 = gzx ∧ y.1.ents = [] ∧ y.1.mem = []) : Ms base w v (L.map (·.1)) := by
 refine ⟨L, rfl, h, fun y hy => ?_⟩
 obtain ⟨e1, e2, e3⟩ := he y hy
 refine ⟨⟨by rw [e1, e2]; rfl, by rw [e1]; exact SlT.nil _ _ _, fun z hz => ?_, by rw [e3]; exact SlT.nil _ _ _⟩, Nm.zero _ _ e2⟩
 rw [e1] at hz; cases hz
end
structure Sd (W : World) (s : GP) (x : Px) : Prop where
 gp : Gp W s x
 b0 : 0 ≤ s.base
 b62 : s.base ≤ 4611686018427387904
 l : s.log.length ≤ 1000000
 cap : s.log.length ≤ x.cL
 lm : ∀ e ∈ s.log, e.m.length ≤ 17592186044416
 B : s.B.length ≤ 17592186044416
 f : ∀ f ∈ s.fol, 1 ≤ f.2.1 ∧ f.2.1 ≤ s.lastI + 1
theorem Sd.bel {W W' : World} {s : GP} {x : Px} (h : Sd W s x) (hb : Bel W W') : Sd W' s x := ⟨h.gp.bel hb, h.b0, h.b62, h.l, h.cap, h.lm, h.B, h.f⟩
theorem message_g {W : World} {s : GP} {x : Px} (h : Sd W s x) (f : Int × Int × Int) (hf : 1 ≤ f.2.1 ∧ f.2.1 ≤ s.lastI + 1) : Calls Tryz.prog 131 #[.agg (gc s x), .agg (encF f).toArray] W fun e w' => ∃ mx, e = .returned (.agg (mg (s.snd f) mx)) ∧ GwT w' (s.snd f) mx ∧ Nm W.heap.size (s.snd f) mx ∧ Bel W w' := by
 have hI : s.lastI = s.base + s.log.length := rfl
 have := h.b62
 have := h.l
 unfold GP.snd
 by_cases c : f.2.1 - 1 < s.base
 ·rw [if_pos c]
  exact (inst_g h.gp.b h.B f hf.1 (by omega) c).mono (fun e w' ⟨mx, e1, e2, e3⟩ => ⟨mx, e1, e2, Nm.zero _ _ rfl, e3⟩)
 ·rw [if_neg c]
  exact lay_g h.gp.l h.b0 h.b62 h.l h.cap h.lm f hf.2 (by omega)
def GP.beat (s : GP) : GP × List GM := if s.idle + 1 < 3 then ({ s with idle := s.idle + 1 }, []) else ({ s with idle := 0 }, s.fol.map s.snd)
theorem TyG.grown {W w w' : World} {b b2 : Nat} {s : GP} {x : Px} {v : Value} {L : List (GM × GX)} (h : TyG W w b b2 s x) (hO : EMg.O W.heap.size w v L) (hg : w.grownBy w' v.ownBlock) : TyG W w' b b2 s x := by
 obtain ⟨s2, x2, h2⟩ := h.row2
 exact ⟨row_grown h.row hO hg (by decide), (((h.bel.ch (fun i => W.heap.size ≤ i)).grown hg (fun k hk => Or.inl (hO.lt hk).1)).below (Nat.le_refl _) (fun _ hi => hi)), ⟨s2, x2, row_grown h2 hO hg (by decide)⟩, h.ge, h.ge2, h.ne⟩
def BtG (W : World) (b b2 : Nat) (s : GP) (x : Px) (no : Nat) (vi vu : Value) (wr : World) : Prop := ∃ (k : Nat) (a : Option Addr) (c : Nat) (qs : List (GM × GX)), k ≤ no ∧ vi = .int .i64 k ∧ vu = .slice a qs.length c ∧ Hid (qs.map (·.1) = (s.fol.take k).map s.snd) ∧ Hid (TyG W wr b b2 s x ∧ EMg.O W.heap.size wr (.slice a qs.length c) qs ∧ ∀ q ∈ qs, GwT wr q.1 q.2 ∧ Nm W.heap.size q.1 q.2)
set_option maxRecDepth 100000 in
set_option maxHeartbeats 4000000 in
theorem beat_g {W : World} {s : GP} {x : Px} (h : Sd W s x) (hidl : 0 ≤ s.idle ∧ s.idle ≤ 1073741824) (hfl : s.fol.length ≤ 64) : Calls Tryz.prog 73 #[.agg (gc s x)] W fun e w' => ∃ aA cA, e = .returned (.tuple #[.agg (gc s.beat.1 x), .slice aA s.beat.2.length cA]) ∧ Ms W.heap.size w' (.slice aA s.beat.2.length cA) s.beat.2 ∧ Bel W w' := by
 have hw1 : IntKind.i64.wrap (s.idle + 1) = s.idle + 1 := wrapI (by omega) (by omega)
 by_cases hi : s.idle + 1 < 3
 ·have HE : Hid (s.beat = ({ s with idle := s.idle + 1 }, [])) := jd (by unfold GP.beat; rw [if_pos hi])
  have hi' : decide (s.idle + 1 < 3) = true := decide_eq_true hi
  clear h hidl hfl
  go_enter Tryz.func73, Tryz.ntmps73
  go_wp2_with (first
   | go_skip
   | (refine bx_boxK 31 (.tmp 0) (by exact rfl) (by exact rfl) (gc s x) (by exact rfl) ?_; intro b w0 hr0 hs0 hb0; have HR0 := jd hr0; have HB0 := jd (aI hb0 hs0); clear hr0 hs0 hb0)
   | (refine bx_new rfl 31 rfl _ Tryz.zeroP ?_; intro b2 w1 hr1 hs1 hb1; have HZ : Hid (TyG W w1 b b2 s x) := jd ⟨hb1.row (ju HR0), (ju HB0).1.trans hb1, ⟨_, _, hr1⟩, by have := (ju HB0).2; omega, by have := (ju HB0).1.size; omega, fun e => by have := lt_of_some (ju HR0); omega⟩; have y12 := (Bg.of (ju HZ).row).c12; clear hr1 hs1 hb1 HR0 HB0)
   | (refine gl_idle rfl _ _ rfl b _ rfl rfl (ju HZ).row ?_; intro w5 hr5 hc5; replace HZ := jd ((ju HZ).set hr5 hc5); have y12 := (Bg.of hr5).c12; clear hr5 hc5)
   | (refine bx_ldK 31 (.tmp 1) (by exact rfl) b (by exact rfl) (by exact rfl) _ _ (ju HZ).row u31 (zP _ _) ?_)
   | go_guarded
   | (obtain ⟨s2, x2, h2⟩ := (ju HZ).row2; refine bx_st rfl 31 (.tmp 2) _ rfl b2 _ _ rfl rfl h2 (zP _ _) rfl (gc_one _ _) ?_; intro w9 hr9 hc9; have HR9 := jd (aI hr9 (bel_off (ju HZ).bel hc9 (ju HZ).ge2)); clear hr9 hc9 h2))
  rw [ju HE]
  exact bodyPost_ret (res2 (p := 2) (q := 3) rfl u31 (zP _ _) (ju HR9).1 _ _ rfl rfl) rfl ⟨_, _, rfl, Ms.nil _ _, (ju HR9).2⟩
 ·obtain ⟨s1, hs1⟩ : ∃ s1 : GP, s1 = { s with idle := 0 } := ⟨_, rfl⟩
  have HS1 := jd hs1
  have hsnd : ∀ f, s1.snd f = s.snd f := fun f => by rw [hs1]; rfl
  have HE : Hid (s.beat = (s1, s.fol.map s1.snd)) := jd (by unfold GP.beat; rw [if_neg hi, hs1]; rfl)
  have hsd1 : Sd W s1 x := by rw [hs1]; exact ⟨⟨h.gp.m, h.gp.b, h.gp.l, h.gp.v, h.gp.f, h.gp.r⟩, h.b0, h.b62, h.l, h.cap, h.lm, h.B, h.f⟩
  have HM : Hid (∀ w1, Bel W w1 → ∀ f ∈ s.fol, Calls Tryz.prog 131 #[.agg (gc s1 x), .agg (encF f).toArray] w1 fun e w' => ∃ mx, e = .returned (.agg (mg (s1.snd f) mx)) ∧ GwT w' (s1.snd f) mx ∧ Nm W.heap.size (s1.snd f) mx ∧ Bel w1 w') := jd (fun w1 hb f hf => (message_g (hsd1.bel hb) f (hsd1.f f (by rw [hs1]; exact hf))).mono (fun e w' ⟨mx, e1, e2, e3, e4⟩ => ⟨mx, e1, e2, e3.mono hb.size, e4⟩))
  have HF := jd h.gp.f
  have HFL := jd hfl
  have hi' : decide (s.idle + 1 < 3) = false := decide_eq_false hi
  clear h hidl hfl hsnd hs1 hsd1
  go_enter Tryz.func73, Tryz.ntmps73
  go_wp2_with (first
   | go_skip
   | (refine bx_boxK 31 (.tmp 0) (by exact rfl) (by exact rfl) (gc s x) (by exact rfl) ?_; intro b w0 hr0 hs0 hb0; have HR0 := jd hr0; have HB0 := jd (aI hb0 hs0); clear hr0 hs0 hb0)
   | (refine bx_new rfl 31 rfl _ Tryz.zeroP ?_; intro b2 w1 hr1 hs1 hb1; have HZ : Hid (TyG W w1 b b2 s x) := jd ⟨hb1.row (ju HR0), (ju HB0).1.trans hb1, ⟨_, _, hr1⟩, by have := (ju HB0).2; omega, by have := (ju HB0).1.size; omega, fun e => by have := lt_of_some (ju HR0); omega⟩; have y12 := (Bg.of (ju HZ).row).c12; clear hr1 hs1 hb1 HR0 HB0)
   | (refine gl_idle rfl _ _ rfl b _ rfl rfl (ju HZ).row ?_; intro w5 hr5 hc5; replace HZ := jd ((ju HZ).set hr5 hc5); have y12 := (Bg.of hr5).c12; have y15 := (Bg.of hr5).c15; clear hr5 hc5)
   | go_guarded)
  have HZ1 : Hid (TyG W w5 b b2 s1 x) := jd (by rw [ju HS1]; exact ju HZ)
  clear y12 y15 HZ
  generalize hno : s.fol.length = no at *
  have HNO := jd hno
  have hno64 : no ≤ 64 := ju HFL
  have HFS : Hid (s1.fol = s.fol) := jd (by rw [ju HS1])
  clear hno hw1 hi'
  go_loopw [19, 4] (BtG W b b2 s1 x no) (fun vi _ _ => no - (intOf vi).toNat)
  case atStart => exact ⟨0, none, 0, [], Nat.zero_le _, rfl, rfl, jd (by simp), jd ⟨ju HZ1, El.O.nil _ _, fun q hq => by cases hq⟩⟩
  case round =>
   obtain ⟨k, aS, cS, qs, hk, rfl, rfl, HQk, HZr⟩ := hrel
   by_cases hlt : k < no
   ·have hkn : (k : Int) < no := by omega
    have hkl : k < s.fol.length := by rw [ju HNO]; exact hlt
    obtain ⟨gf, off, hgf, hR⟩ := (ju HF).bel (ju HZr).1.bel
    have ea := hgf (by omega)
    obtain ⟨r0, r1, r2⟩ := E65_cell hR k hkl
    have HMk : Hid (∀ w1, Bel W w1 → Calls Tryz.prog 131 #[.agg (gc s1 x), .agg #[.int .i64 s.fol[k].1, .int .u64 s.fol[k].2.1, .int .u64 s.fol[k].2.2]] w1 fun e w' => ∃ mx, e = .returned (.agg (mg (s1.snd s.fol[k]) mx)) ∧ GwT w' (s1.snd s.fol[k]) mx ∧ Nm W.heap.size (s1.snd s.fol[k]) mx ∧ Bel w1 w') := jd (fun w1 hb => (ju HM) w1 hb s.fol[k] (List.getElem_mem hkl))
    obtain ⟨mk, hmk⟩ : ∃ mk, mk = s1.snd s.fol[k] := ⟨_, rfl⟩
    rw [← hmk] at HMk
    have HQn : Hid (qs.map (·.1) ++ [mk] = (s1.fol.take (k + 1)).map s1.snd) := jd (by
     rw [ju HQk, ju HFS, List.take_add_one, List.getElem?_eq_getElem hkl, List.map_append, hmk]; rfl)
    have HQL : Hid (qs.length ≤ 64) := jd (by have := congrArg List.length (ju HQk); simp at this; omega)
    rw [ea]
    generalize s.fol[k].2.2 = mt at *
    generalize s.fol[k].2.1 = nx at *
    generalize s.fol[k].1 = fi at *
    clear hgf hR ea hmk
    go_wp2_with (first
     | go_skip
     | (refine bx_ldK 31 (.tmp 1) (by exact rfl) b (by exact rfl) (by exact rfl) (gc s1 x) _ (((Bel.refl _).alloc _).row (ju HZr).1.row) u31 (zP _ _) ?_)
     | (go_at_call 131; refine ((ju HMk) _ ((ju HZr).1.bel.alloc _)).mono ?_; rintro e w6 ⟨mx6, rfl, ho6, hn6, hb6⟩; have hbb := ((Bel.refl wr).alloc (.cells #[.int .i64 fi, .int .u64 nx, .int .u64 mt] 79)).trans hb6; have HA := jd (aI ((ju HZr).1.next hbb) (aI ((ju HZr).2.1.bel hbb) (aI (fun q (hq : q ∈ qs) => (aI (((ju HZr).2.2 q hq).1.bel hbb) ((ju HZr).2.2 q hq).2 : GwT w6 q.1 q.2 ∧ Nm W.heap.size q.1 q.2)) (aI ho6 hn6)))); clear ho6 hn6 hb6 hbb)
     | (refine el_one EMg (mg mk mx6) rfl (by show ¬ 1 * 12 > 2 ^ 24; decide) _ rfl rfl rfl ?_)
     | (at_builtin; refine app1_el (E := EMg) (mk, mx6) (qs ++ [(mk, mx6)]) rfl ((ju HA).2.1.bel ((Bel.refl _).alloc _)) (Nat.le_trans (ju HA).1.bel.size ((Bel.refl _).alloc _).size) _ _ (at_new _ _) (by have := ju HQL; omega) rfl _ _ 47 rfl rfl rfl rfl ?_; intro g7 cap7 w7 ho7 hg7 hat7; have q7 := (ju HA).1.next ((Bel.refl w6).alloc (.cells (EMg.enc (mk, mx6)).toArray 87)); have HB := jd (aI (q7.grown ((ju HA).2.1.bel ((Bel.refl _).alloc _)) hg7) (aI ho7 (fun q (hq : q ∈ qs ++ [(mk, mx6)]) => (aI (show GwT w7 q.1 q.2 from ((List.mem_append.1 hq).elim (fun h => ((ju HA).2.2.1 q h).1.bel ((Bel.refl _).alloc _)) (fun h => (List.mem_singleton.1 h) ▸ (ju HA).2.2.2.1.bel ((Bel.refl _).alloc _))).grown ((ju HA).2.1.bel ((Bel.refl _).alloc _)) hg7) (show Nm W.heap.size q.1 q.2 from (List.mem_append.1 hq).elim (fun h => ((ju HA).2.2.1 q h).2) (fun h => (List.mem_singleton.1 h) ▸ (ju HA).2.2.2.2)))))); clear q7 ho7 hg7 hat7)
     | go_guarded)
    go_roundw
    case rel =>
     have hfin : ∀ v u : Value, v = .int .i64 ((k + 1 : Nat) : Int) → u = .slice (some ⟨g7, 0, none⟩) (qs ++ [(mk, mx6)]).length cap7 → BtG W b b2 s1 x no v u w7 := fun v u hv hu => ⟨k + 1, _, _, qs ++ [(mk, mx6)], by omega, hv, hu, jd (by rw [List.map_append]; exact ju HQn), HB⟩
     first
      | exact hfin _ _ (by go_num) (by simp)
      | ((repeat apply Exists.intro); exact ⟨hfin _ _ (by go_num) (by simp), rfl, rfl⟩)
    case measure => simp [intOf]; omega
   ·obtain rfl : k = no := by omega
    have hQ : qs.map (·.1) = s.fol.map s1.snd := by rw [ju HQk, ju HFS, List.take_of_length_le (by rw [ju HNO]; omega)]
    have HLN : Hid (qs.length = (s.fol.map s1.snd).length) := jd (by rw [← hQ, List.length_map])
    have HQQ := jd hQ
    clear hQ
    go_wp2_with (first
     | go_skip
     | (refine bx_ldK 31 (.tmp 1) (by exact rfl) b (by exact rfl) (by exact rfl) (gc s1 x) _ (ju HZr).1.row u31 (zP _ _) ?_)
     | go_guarded
     | (obtain ⟨s2, x2, h2⟩ := (ju HZr).1.row2; refine bx_st rfl 31 (.tmp 2) _ rfl b2 (gc s1 x) _ rfl rfl h2 (zP _ _) rfl (gc_one _ _) ?_; intro w9 hr9 hc9; have HR9 := jd (aI hr9 (aI (bel_off (ju HZr).1.bel hc9 (ju HZr).1.ge2) (aI ((ju HZr).2.1.box h2 (by decide) hc9) (fun q (hq : q ∈ qs) => (aI (((ju HZr).2.2 q hq).1.box h2 hc9) ((ju HZr).2.2 q hq).2 : GwT w9 q.1 q.2 ∧ Nm W.heap.size q.1 q.2))))); clear hr9 hc9 h2))
    rw [ju HE]
    refine bodyPost_ret (res2 (p := 2) (q := 3) rfl u31 (zP _ _) (ju HR9).1 _ _ rfl rfl) rfl ⟨aS, cS, ?_, ⟨qs, ju HQQ, ?_, (ju HR9).2.2.2⟩, (ju HR9).2.1⟩
    ·rw [← ju HLN]; rfl
    ·rw [← ju HLN]; exact (ju HR9).2.2.1
end Go.Proofs.YthekbhliokcpcaaGreat
