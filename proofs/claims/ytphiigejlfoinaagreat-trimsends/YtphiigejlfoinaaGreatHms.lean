/- logs.message of any member. -/
import Derived.Test.YtphiigejlfoinaaGreatHet
import Derived.Test.YtphiigejlfoinaaGreatHmg
import Derived.Test.YtphiigejlfoinaaGreatHcu
import Derived.Test.YtphiigejlfoinaaGreatHld
namespace Go.Proofs.YtphiigejlfoinaaGreat
open Go.RowKit Go.Maps Go.Sort
/-- A message under way of being built: its box b, the result's b2, the member's p. -/
structure Tg (W w : World) (p b b2 : Nat) (s : GP) (x : Px) (m : GM) (mx : GX) : Prop where
  row : w.heap[b]? = some (.cells (mg m mx) 68)
  row2 : ∃ m2 x2, w.heap[b2]? = some (.cells (mg m2 x2) 68)
  rowp : w.heap[p]? = some (.cells (gc s x) 31)
  bel : Bel W w
  ge : W.heap.size ≤ b
  ge2 : W.heap.size ≤ b2
  ne : ¬ b2 = b
section
variable {W w w' : World} {p b b2 : Nat} {s : GP} {x : Px} {m m' : GM} {mx mx' : GX}
theorem Tg.next (h : Tg W w p b b2 s x m mx) (hb : Bel w w') : Tg W w' p b b2 s x m mx := by
  obtain ⟨m2, x2, h2⟩ := h.row2
  exact ⟨hb.row h.row, ⟨m2, x2, hb.row h2⟩, hb.row h.rowp, h.bel.trans hb, h.ge, h.ge2, h.ne⟩
theorem Tg.pb (h : Tg W w p b b2 s x m mx) : ¬ p = b := fun e => by
  have := h.rowp; rw [e, h.row] at this; injection (Option.some.inj this) with _ h3; exact absurd h3 (by decide)
theorem Tg.set (h : Tg W w p b b2 s x m mx) (h1 : w'.heap[b]? = some (.cells (mg m' mx') 68)) (hc : Ch (fun i => i = b) w w') : Tg W w' p b b2 s x m' mx' := by
  obtain ⟨m2, x2, h2⟩ := h.row2
  exact ⟨h1, ⟨m2, x2, hc.row h2 h.ne⟩, hc.row h.rowp h.pb, bel_off h.bel hc h.ge, h.ge, h.ge2, h.ne⟩
end
theorem gm_set {ops : Array Oper} {rest : List Oper} {o : Oper} {a : Act} {Q : Exit → Act → World → Prop} {W : World} {m : GM} {mx : GX} (t : TypeId) (x y : Operand) (ho : o.op = .store t x y) (hgd : o.guard = none) (b i : Nat) (v : Value) (hx : a.eval x = .pointer (some ⟨b, i, none⟩)) (hy : a.eval y = v) (hv : v.cells = #[v]) (hv1 : v.oneCell' = true) {m' : GM} {mx' : GX} (hg : W.heap[b]? = some (.cells (mg m mx) 68)) (hi : (Tryz.prog.info? t).map (·.size) = some 1) (hlt : i < 12) (e : (mg m mx).setIfInBounds i v = mg m' mx')
    (hK : ∀ w', w'.heap[b]? = some (.cells (mg m' mx') 68) → Ch (fun k => k = b) W w' → wpList Tryz.prog ops Q rest (a.put o.dst undef) w') : wpList Tryz.prog ops Q (o :: rest) a W :=
  bx_set hgd t x y ho b i v hx hy hv hv1 (mg m mx) _ hg hi hlt (fun w' h1 h2 => hK w' (by rw [← e]; exact h1) h2)
theorem SlT.boxM {α : Type} {E : El α} {W W' : World} {a : Option Addr} {L : List α} {b : Nat} {cs : Array Value} (h : SlT E W a L) (hr : W.heap[b]? = some (.cells cs 68)) (ht : E.e ≠ 68) (hc : Ch (fun k => k = b) W W') : SlT E W' a L := h.box hr ht hc
/-- A message's lists are read as they are, and lie in blocks of their types. -/
structure GwT (W : World) (m : GM) (x : GX) : Prop where
  e : x.ls.map (·.1) = m.ents
  l : SlT EG W x.ea x.ls
  g : ∀ y ∈ x.ls, SlT E3 W y.2.a y.1.m
  m : SlT E3 W x.ma m.mem
theorem GwT.gw {W : World} {m : GM} {x : GX} (h : GwT W m x) : Gw W m x := ⟨h.e, h.l.1, fun y hy => (h.g y hy).1, h.m.1⟩
theorem GwT.bel {W W' : World} {m : GM} {x : GX} (h : GwT W m x) (hb : Bel W W') : GwT W' m x := ⟨h.e, h.l.bel hb, fun y hy => (h.g y hy).bel hb, h.m.bel hb⟩
theorem GwT.boxM {W W' : World} {m : GM} {x : GX} {b : Nat} {cs : Array Value} (h : GwT W m x) (hr : W.heap[b]? = some (.cells cs 68)) (hc : Ch (fun k => k = b) W W') : GwT W' m x := ⟨h.e, h.l.box hr (by decide) hc, fun y hy => (h.g y hy).box hr (by decide) hc, h.m.box hr (by decide) hc⟩
theorem SlT.nil {α : Type} (E : El α) (W : World) (a : Option Addr) : SlT E W a [] := ⟨Sl.nil E W a, fun _ _ h => absurd rfl h⟩
theorem Ch.cell {M : Nat → Prop} {w w' : World} (h : Ch M w w') {ad : Addr} {v : Value} (hc : w.cell? ad = some v) (hn : ¬ M ad.block) : w'.cell? ad = some v := by
  have := h.block ad.block (World.block_lt_of_cell? _ _ hc) hn
  simp only [World.cell?, this] at hc ⊢
  exact hc
/-- A follower of these numbers in a box. -/
def fcs (i n t : Int) : Array Value := #[.int .i64 i, .int .u64 n, .int .u64 t]
/-- What one is sent whose next entry went. -/
def GP.inst (s : GP) (f : Int × Int × Int) : GM := ⟨5, s.id, f.1, s.term, s.base, s.baseT, 0, s.round, false, [], s.B, s.snap⟩
set_option maxRecDepth 100000 in
set_option maxHeartbeats 8000000 in
theorem inst_g {W : World} {s : GP} {x : Px} (h : Sl E3 W x.aB s.B) (hB : s.B.length ≤ 17592186044416) (f : Int × Int × Int) (hf1 : 1 ≤ f.2.1) (hf2 : f.2.1 ≤ 18446744073709551615) (hf3 : f.2.1 - 1 < s.base) : Calls Tryz.prog 47 #[.agg (gc s x), .agg (encF f).toArray] W fun e w' => ∃ mx, e = .returned (.agg (mg (s.inst f) mx)) ∧ GwT w' (s.inst f) mx ∧ Bel W w' := by
  have HC : Hid (∀ w1, Bel W w1 → Calls Tryz.prog 74 #[.slice x.aB s.B.length x.cB] w1 fun e w' => ∃ a' c', e = .returned (.slice a' s.B.length c') ∧ SlT E3 w' a' s.B ∧ Bel w1 w') := hide (fun w1 hb => (clone3w rfl (h.bel hb) (by omega)).mono (fun e w' ⟨a', c', he, ho, hb'⟩ => ⟨a', c', he, SlT.of ho, hb'⟩))
  obtain ⟨f1, f2, f3⟩ := f
  simp only at hf1 hf2 hf3
  have hw1 : IntKind.u64.wrap (f2 - 1) = f2 - 1 := by rw [IntKind.wrap_u64]; omega
  unfold GP.inst
  rw [show (encF (f1, f2, f3)).toArray = fcs f1 f2 f3 from rfl]
  simp only
  clear h hB hf1 hf2
  go_enter Tryz.func47, Tryz.ntmps47
  go_wp2_with (first
  | go_skip
  | (refine bx_boxK 31 (.tmp 0) (by exact rfl) (by exact rfl) (gc s x) (by exact rfl) ?_; intro b0 w0 hr0 hs0 hb0; have HR0 := hide hr0; have HB0 := hide hb0; clear hr0 hs0 hb0)
  | (refine bx_boxK 72 (.tmp 1) (by exact rfl) (by exact rfl) (fcs f1 f2 f3) (by exact rfl) ?_; intro bf w1 hr1 hs1 hb1; have HRF := hide hr1; replace HR0 := hide (hb1.row (unhide HR0)); replace HB0 := hide ((unhide HB0).trans hb1); clear hr1 hs1 hb1)
  | (refine bx_new rfl 68 rfl _ zeroM ?_; intro b2 w2 hr2 hs2 hb2; have HQ := hide (And.intro hr2 (And.intro (show W.heap.size ≤ b2 by have := (unhide HB0).size; omega) (And.intro (hb2.row (unhide HRF)) (And.intro (hb2.row (unhide HR0)) ((unhide HB0).trans hb2))))); have y0 := (Bg.of (unhide HQ).2.2.2.1).c0; have y2 := (Bg.of (unhide HQ).2.2.2.1).c2; have y16 := (Bg.of (unhide HQ).2.2.2.1).c16; have z0 : w2.cell? ⟨bf, 0, none⟩ = some (.int .i64 f1) := cell_of (unhide HQ).2.2.1; clear hr2 hs2 hb2 HR0 HB0 HRF)
  | (refine bx_new rfl 68 rfl _ zeroM ?_; intro b w3 hr3 hs3 hb3; have HN := hide (And.intro hr3 (And.intro hs3 hb3)); clear hr3 hs3 hb3)
  | (refine bx_st rfl 68 (.tmp 5) _ rfl b (mg ⟨0, s.id, f1, s.term, 0, 0, 0, s.round, false, [], [], ⟨#[]⟩⟩ gzx) _ rfl rfl (unhide HN).1 (szM _ _) rfl (mg_one _ _) ?_; intro w4 hr4 hc4; have hbb := bel_off (unhide HN).2.2 hc4 (Nat.le_of_eq (unhide HN).2.1); have HZ : Hid (Tg W w4 b0 b b2 s x ⟨0, s.id, f1, s.term, 0, 0, 0, s.round, false, [], [], ⟨#[]⟩⟩ gzx) := hide ⟨hr4, ⟨_, _, hbb.row (unhide HQ).1⟩, hbb.row (unhide HQ).2.2.2.1, (unhide HQ).2.2.2.2.trans hbb, (by have := (unhide HQ).2.2.2.2.size; have := (unhide HN).2.1; omega), (unhide HQ).2.1, fun e => by have := lt_of_some (unhide HQ).1; have := (unhide HN).2.1; omega⟩; have HRF := hide (hbb.row (unhide HQ).2.2.1); have z1 : w4.cell? ⟨bf, 1, none⟩ = some (.int .u64 f2) := cell_of (unhide HRF); clear hr4 hc4 hbb HQ HN y0 y2 y16 z0)
  | (refine gm_set (m' := ⟨0, s.id, f1, s.term, f2 - 1, 0, 0, s.round, false, [], [], ⟨#[]⟩⟩) (mx' := gzx) 25 (.tmp 20) (.tmp 19) (by exact rfl) (by exact rfl) b 4 (.int .u64 (f2 - 1)) (by exact rfl) (by exact rfl) rfl rfl (unhide HZ).row (by kernel_rfl) (by decide) rfl ?_; intro w5 hr5 hc5; have HRF := hide (hc5.row (unhide HRF) (fun e => by have := (unhide HZ).row; rw [← e, unhide HRF] at this; injection (Option.some.inj this) with _ h3; exact absurd h3 (by decide))); replace HZ := hide ((unhide HZ).set hr5 hc5); have y4 := (Mb2.of hr5).c4; have y6 := (Bg.of (unhide HZ).rowp).c6; clear hr5 hc5 z1)
  | (refine gm_set (m' := ⟨5, s.id, f1, s.term, f2 - 1, 0, 0, s.round, false, [], [], ⟨#[]⟩⟩) (mx' := gzx) 66 (.tmp 26) (.const (.int .u8 5)) (by exact rfl) (by exact rfl) b 0 (.int .u8 5) (by exact rfl) (by exact rfl) rfl rfl (unhide HZ).row (by kernel_rfl) (by decide) rfl ?_; intro w6 hr6 hc6; replace HZ := hide ((unhide HZ).set hr6 hc6); clear hr6 hc6 y4 y6))
  have hr5 := (unhide HZ).row
  have HZ0 := HZ
  have hS0 := (unhide HZ).rowp
  refine wp_region_held_drew (S := fun W => W.heap[b0]? = some (.cells (gc s x) 31)) Tryz.follows hS0 (fun hS => ?_)
  refine any_take (i := 0) (v := .pointer (some ⟨b0, 6, none⟩)) rfl (by kernel_rfl) (by kernel_rfl) (by kernel_rfl) (fun _ _ _ h => h) rfl hS (fun w _ => by go_simp) ?_
  refine any_take (i := 1) (v := .int .u64 s.base) rfl (by kernel_rfl) (by kernel_rfl) (by kernel_rfl) (fun _ _ _ h => h) rfl hS (fun w hw => by have hq : w.cell? ⟨b0, 6, none⟩ = some (.int .u64 s.base) := (Bg.of hw).c6; go_simp) ?_
  refine any_take (i := 2) (v := .pointer (some ⟨b0, 7, none⟩)) rfl (by kernel_rfl) (by kernel_rfl) (by kernel_rfl) (fun _ _ _ h => h) rfl hS (fun w _ => by go_simp) ?_
  refine any_take (i := 3) (v := .int .u64 s.baseT) rfl (by kernel_rfl) (by kernel_rfl) (by kernel_rfl) (fun _ _ _ h => h) rfl hS (fun w hw => by have hq : w.cell? ⟨b0, 7, none⟩ = some (.int .u64 s.baseT) := (Bg.of hw).c7; go_simp) ?_
  refine any_take (i := 4) (v := .pointer (some ⟨b, 4, none⟩)) rfl (by kernel_rfl) (by kernel_rfl) (by kernel_rfl) (fun _ _ _ h => h) rfl hS (fun w _ => by go_simp) ?_
  refine any_stc (i := 5) (b := b) (p := 4) (v := .int .u64 s.base) (by kernel_rfl) rfl rfl rfl (by go_simp) (by go_simp) rfl rfl (unhide HZ0).row (by kernel_rfl) (by simp [mg]) ?_
  intro a6 ha6 hca6
  have hS := hca6.row hS (unhide HZ0).pb
  refine ⟨hS, ?_⟩
  refine any_take (i := 6) (v := .pointer (some ⟨b, 5, none⟩)) rfl (by kernel_rfl) (by kernel_rfl) (by kernel_rfl) (fun _ _ _ h => h) rfl hS (fun w _ => by go_simp) ?_
  refine any_stc (i := 7) (b := b) (p := 5) (v := .int .u64 s.baseT) (by kernel_rfl) rfl rfl rfl (by go_simp) (by go_simp) rfl rfl ha6 (by kernel_rfl) (by simp [mg]) ?_
  intro a7 ha7 hca7
  have hS := hca7.row hS (unhide HZ0).pb
  refine ⟨hS, ?_⟩
  refine wpAnyH_done (by kernel_rfl) ?_ _
  simp [Act.put]
  have HZ1 : Hid (Tg W a7 b0 b b2 s x ⟨5, s.id, f1, s.term, s.base, s.baseT, 0, s.round, false, [], [], ⟨#[]⟩⟩ gzx) := hide (((unhide HZ0).next (Bel.refl _).drew).set ha7 (hca6.trans hca7 (fun _ h => Or.inl h)))
  clear ha6 hca6 ha7 hca7 hS hS0 hr5 HZ HZ0
  go_wp2_with fail
  have hS0 := (unhide HZ1).rowp
  refine wp_region_held_drew (S := fun W => W.heap[b0]? = some (.cells (gc s x) 31)) Tryz.follows hS0 (fun hS => ?_)
  refine any_take (i := 0) (v := .pointer (some ⟨b0, 8, none⟩)) rfl (by kernel_rfl) (by kernel_rfl) (by kernel_rfl) (fun _ _ _ h => h) rfl hS (fun w _ => by go_simp) ?_
  refine any_take (i := 1) (v := .slice x.aB s.B.length x.cB) rfl (by kernel_rfl) (by kernel_rfl) (by kernel_rfl) (fun _ _ _ h => h) rfl hS (fun w hw => by have hq : w.cell? ⟨b0, 8, none⟩ = some (.slice x.aB s.B.length x.cB) := (Bg.of hw).c8; go_simp) ?_
  refine any_take (i := 3) (v := .pointer (some ⟨b0, 9, none⟩)) rfl (by kernel_rfl) (by kernel_rfl) (by kernel_rfl) (fun _ _ _ h => h) rfl hS (fun w _ => by go_simp) ?_
  refine any_take (i := 4) (v := .string s.snap) rfl (by kernel_rfl) (by kernel_rfl) (by kernel_rfl) (fun _ _ _ h => h) rfl hS (fun w hw => by have hq : w.cell? ⟨b0, 9, none⟩ = some (.string s.snap) := (Bg.of hw).c9; go_simp) ?_
  refine any_call (i := 2) (by kernel_rfl) rfl rfl (by go_simp) ((unhide HC) _ (unhide HZ1).bel.drew) ?_
  rintro e b8 ⟨aM, cM, rfl, hsM, hb8⟩
  have hS := hb8.row hS
  refine ⟨_, rfl, hS, ?_⟩
  have hr8 := hb8.row (show a7.drew.heap[b]? = _ from (unhide HZ1).row)
  refine any_take (i := 5) (v := .pointer (some ⟨b, 10, none⟩)) rfl (by kernel_rfl) (by kernel_rfl) (by kernel_rfl) (fun _ _ _ h => h) rfl hS (fun w _ => by go_simp) ?_
  refine any_stc (i := 6) (b := b) (p := 10) (v := .slice aM s.B.length cM) (by kernel_rfl) rfl rfl rfl (by go_simp) (by go_simp) rfl rfl hr8 (by kernel_rfl) (by simp [mg]) ?_
  intro a9 ha9 hca9
  have hS := hca9.row hS (unhide HZ1).pb
  refine ⟨hS, ?_⟩
  refine any_take (i := 7) (v := .pointer (some ⟨b, 11, none⟩)) rfl (by kernel_rfl) (by kernel_rfl) (by kernel_rfl) (fun _ _ _ h => h) rfl hS (fun w _ => by go_simp) ?_
  refine any_stc (i := 8) (b := b) (p := 11) (v := .string s.snap) (by kernel_rfl) rfl rfl rfl (by go_simp) (by go_simp) rfl rfl ha9 (by kernel_rfl) (by simp [mg]) ?_
  intro aa haa hcaa
  have hS := hcaa.row hS (unhide HZ1).pb
  refine ⟨hS, ?_⟩
  refine wpAnyH_done (by kernel_rfl) ?_ _
  simp [Act.put]
  have hcc := hca9.trans hcaa (fun _ h => Or.inl h)
  have HZ2 : Hid (Tg W aa b0 b b2 s x ⟨5, s.id, f1, s.term, s.base, s.baseT, 0, s.round, false, [], s.B, s.snap⟩ ⟨none, 0, [], aM, cM⟩) := hide ((((unhide HZ1).next (Bel.refl _).drew).next hb8).set haa hcc)
  have HO := hide (hsM.boxM hr8 (by decide) hcc)
  clear ha9 hca9 haa hcaa hS hS0 HZ1 hb8 hr8 hsM hcc
  go_wp2_with (first
    | go_skip
    | (refine bx_ldK 68 (.tmp 5) (by exact rfl) b (by exact rfl) (by exact rfl) (mg _ _) _ (unhide HZ2).row Tryz.underlying68 (szM _ _) ?_)
    | (obtain ⟨m2, x2, h2⟩ := (unhide HZ2).row2; refine bx_st rfl 68 (.tmp 4) _ rfl b2 (mg _ _) _ rfl rfl h2 (szM _ _) rfl (mg_one _ _) ?_; intro wc hrc hcc; have HR9 := hide (And.intro hrc (And.intro ((unhide HO).boxM h2 (by decide) hcc) (bel_off (unhide HZ2).bel hcc (unhide HZ2).ge2))); clear hrc hcc h2))
  exact bodyPost_ret (res1 (p := 4) rfl Tryz.underlying68 (szM _ _) (unhide HR9).1 _ rfl) rfl ⟨_, rfl, ⟨rfl, SlT.nil _ _ _, (fun y hy => by cases hy), (unhide HR9).2.1⟩, (unhide HR9).2.2⟩

/-- What one is sent whose next entry is there. -/
def GP.lay (s : GP) (f : Int × Int × Int) : GM := ⟨3, s.id, f.1, s.term, f.2.1 - 1, (s.tAt (f.2.1 - 1)).getD 0, s.commit, s.round, false, (s.log.take (min s.lastI (f.2.1 - 1 + 16) - s.base).toNat).drop (f.2.1 - 1 - s.base).toNat, [], ⟨#[]⟩⟩
set_option maxRecDepth 100000 in
set_option maxHeartbeats 8000000 in
theorem lay_g {W : World} {s : GP} {x : Px} (h : SlG W x.aL s.log) (h0 : 0 ≤ s.base) (h1 : s.base ≤ 4611686018427387904) (hl : s.log.length ≤ 1000000) (hcap : s.log.length ≤ x.cL) (hm : ∀ e ∈ s.log, e.m.length ≤ 17592186044416) (f : Int × Int × Int) (hf2 : f.2.1 ≤ s.lastI + 1) (hf3 : s.base ≤ f.2.1 - 1) : Calls Tryz.prog 47 #[.agg (gc s x), .agg (encF f).toArray] W fun e w' => ∃ mx, e = .returned (.agg (mg (s.lay f) mx)) ∧ GwT w' (s.lay f) mx ∧ Bel W w' := by
  obtain ⟨f1, f2, f3⟩ := f
  simp only at hf2 hf3
  have hlI : s.lastI = s.base + s.log.length := rfl
  obtain ⟨k, hk⟩ : ∃ k : Nat, f2 - 1 - s.base = k := ⟨(f2 - 1 - s.base).toNat, by omega⟩
  obtain ⟨m, hmm⟩ : ∃ m : Nat, min s.lastI (f2 - 1 + 16) - s.base = m := ⟨(min s.lastI (f2 - 1 + 16) - s.base).toNat, by omega⟩
  have HT : Hid (∀ w1, Bel W w1 → Calls Tryz.prog 34 #[.agg (gc s x), .int .u64 (f2 - 1)] w1 fun e w' => e = .returned (.tuple #[.int .u64 ((s.tAt (f2 - 1)).getD 0), .bool (s.tAt (f2 - 1)).isSome]) ∧ Bel w1 w') := hide (fun w1 hb => term_g (h.bel hb) (f2 - 1) h0 ⟨by omega, by omega⟩ hl)
  have HL : Hid (∀ w1, Bel W w1 → Calls Tryz.prog 18 #[.agg (gc s x)] w1 fun e w' => e = .returned (.tuple #[.int .u64 s.lastI, .int .u64 s.lastT]) ∧ Bel w1 w') := hide (fun w1 hb => last_g (h.bel hb) h0 h1 hl)
  have HE : Hid (∀ w1, Bel W w1 → Calls Tryz.prog 95 #[.agg (gc s x), .int .u64 f2, .int .u64 (min s.lastI (f2 - 1 + 16))] w1 fun e w' => ∃ a' c', e = .returned (.slice a' ((s.log.take m).drop k).length c') ∧ SlGT w' a' ((s.log.take m).drop k) ∧ Bel w1 w') := hide (fun w1 hb => ents_g (h.bel hb) f2 (min s.lastI (f2 - 1 + 16)) k m (by omega) (by omega) (by omega) hmm hl hcap hm)
  have hw1 : IntKind.u64.wrap (f2 - 1) = f2 - 1 := by rw [IntKind.wrap_u64]; omega
  have hw2 : IntKind.u64.wrap (f2 - 1 + 16) = f2 - 1 + 16 := by rw [IntKind.wrap_u64]; omega
  have hnb : ¬ (f2 - 1 < s.base) := by omega
  unfold GP.lay
  simp only
  rw [show (min s.lastI (f2 - 1 + 16) - s.base).toNat = m by omega, show (f2 - 1 - s.base).toNat = k by omega]
  rw [show (encF (f1, f2, f3)).toArray = fcs f1 f2 f3 from rfl]
  clear h h0 h1 hl hcap hm hf2 hf3 hk hmm hlI
  generalize (s.tAt (f2 - 1)).getD 0 = tt at *
  generalize (s.tAt (f2 - 1)).isSome = tb at *
  generalize s.lastI = li at *
  generalize s.lastT = lt at *
  generalize (s.log.take m).drop k = E at *
  go_enter Tryz.func47, Tryz.ntmps47
  go_wp2_with (first
  | go_skip
  | (refine bx_boxK 31 (.tmp 0) (by exact rfl) (by exact rfl) (gc s x) (by exact rfl) ?_; intro b0 w0 hr0 hs0 hb0; have HR0 := hide hr0; have HB0 := hide hb0; clear hr0 hs0 hb0)
  | (refine bx_boxK 72 (.tmp 1) (by exact rfl) (by exact rfl) (fcs f1 f2 f3) (by exact rfl) ?_; intro bf w1 hr1 hs1 hb1; have HRF := hide hr1; replace HR0 := hide (hb1.row (unhide HR0)); replace HB0 := hide ((unhide HB0).trans hb1); clear hr1 hs1 hb1)
  | (refine bx_new rfl 68 rfl _ zeroM ?_; intro b2 w2 hr2 hs2 hb2; have HQ := hide (And.intro hr2 (And.intro (show W.heap.size ≤ b2 by have := (unhide HB0).size; omega) (And.intro (hb2.row (unhide HRF)) (And.intro (hb2.row (unhide HR0)) ((unhide HB0).trans hb2))))); have y0 := (Bg.of (unhide HQ).2.2.2.1).c0; have y2 := (Bg.of (unhide HQ).2.2.2.1).c2; have y16 := (Bg.of (unhide HQ).2.2.2.1).c16; have z0 : w2.cell? ⟨bf, 0, none⟩ = some (.int .i64 f1) := cell_of (unhide HQ).2.2.1; clear hr2 hs2 hb2 HR0 HB0 HRF)
  | (refine bx_new rfl 68 rfl _ zeroM ?_; intro b w3 hr3 hs3 hb3; have HN := hide (And.intro hr3 (And.intro hs3 hb3)); clear hr3 hs3 hb3)
  | (refine bx_st rfl 68 (.tmp 5) _ rfl b (mg ⟨0, s.id, f1, s.term, 0, 0, 0, s.round, false, [], [], ⟨#[]⟩⟩ gzx) _ rfl rfl (unhide HN).1 (szM _ _) rfl (mg_one _ _) ?_; intro w4 hr4 hc4; have hbb := bel_off (unhide HN).2.2 hc4 (Nat.le_of_eq (unhide HN).2.1); have HZ : Hid (Tg W w4 b0 b b2 s x ⟨0, s.id, f1, s.term, 0, 0, 0, s.round, false, [], [], ⟨#[]⟩⟩ gzx) := hide ⟨hr4, ⟨_, _, hbb.row (unhide HQ).1⟩, hbb.row (unhide HQ).2.2.2.1, (unhide HQ).2.2.2.2.trans hbb, (by have := (unhide HQ).2.2.2.2.size; have := (unhide HN).2.1; omega), (unhide HQ).2.1, fun e => by have := lt_of_some (unhide HQ).1; have := (unhide HN).2.1; omega⟩; have HRF := hide (hbb.row (unhide HQ).2.2.1); have z1 : w4.cell? ⟨bf, 1, none⟩ = some (.int .u64 f2) := cell_of (unhide HRF); clear hr4 hc4 hbb HQ HN y0 y2 y16 z0)
  | (refine gm_set (m' := ⟨0, s.id, f1, s.term, f2 - 1, 0, 0, s.round, false, [], [], ⟨#[]⟩⟩) (mx' := gzx) 25 (.tmp 20) (.tmp 19) (by exact rfl) (by exact rfl) b 4 (.int .u64 (f2 - 1)) (by exact rfl) (by exact rfl) rfl rfl (unhide HZ).row (by kernel_rfl) (by decide) rfl ?_; intro w5 hr5 hc5; have HRF := hide (hc5.row (unhide HRF) (fun e => by have := (unhide HZ).row; rw [← e, unhide HRF] at this; injection (Option.some.inj this) with _ h3; exact absurd h3 (by decide))); replace HZ := hide ((unhide HZ).set hr5 hc5); have y4 := (Mb2.of hr5).c4; have y6 := (Bg.of (unhide HZ).rowp).c6; clear hr5 hc5 z1))
  have HZ0 := HZ
  have hS0 := (unhide HZ).rowp
  refine wp_region_held_drew (S := fun W => W.heap[b0]? = some (.cells (gc s x) 31)) Tryz.follows hS0 (fun hS => ?_)
  refine any_take (i := 0) (v := .pointer (some ⟨b0, 11, none⟩)) rfl (by kernel_rfl) (by kernel_rfl) (by kernel_rfl) (fun _ _ _ h => h) rfl hS (fun w _ => by go_simp) ?_
  refine any_take (i := 1) (v := .int .u64 s.commit) rfl (by kernel_rfl) (by kernel_rfl) (by kernel_rfl) (fun _ _ _ h => h) rfl hS (fun w hw => by have hq : w.cell? ⟨b0, 11, none⟩ = some (.int .u64 s.commit) := (Bg.of hw).c11; go_simp) ?_
  refine any_take (i := 2) (v := .pointer (some ⟨b, 0, none⟩)) rfl (by kernel_rfl) (by kernel_rfl) (by kernel_rfl) (fun _ _ _ h => h) rfl hS (fun w _ => by go_simp) ?_
  refine any_stc (i := 3) (b := b) (p := 0) (v := .int .u8 3) (by kernel_rfl) rfl rfl rfl (by go_simp) (by go_simp) rfl rfl (unhide HZ0).row (by kernel_rfl) (by simp [mg]) ?_
  intro a6 ha6 hca6
  have hS := hca6.row hS (unhide HZ0).pb
  refine ⟨hS, ?_⟩
  refine any_take (i := 4) (v := .pointer (some ⟨b, 6, none⟩)) rfl (by kernel_rfl) (by kernel_rfl) (by kernel_rfl) (fun _ _ _ h => h) rfl hS (fun w _ => by go_simp) ?_
  refine any_stc (i := 5) (b := b) (p := 6) (v := .int .u64 s.commit) (by kernel_rfl) rfl rfl rfl (by go_simp) (by go_simp) rfl rfl ha6 (by kernel_rfl) (by simp [mg]) ?_
  intro a7 ha7 hca7
  have hS := hca7.row hS (unhide HZ0).pb
  refine ⟨hS, ?_⟩
  refine wpAnyH_done (by kernel_rfl) ?_ _
  simp [Act.put]
  have hcc := hca6.trans hca7 (fun _ h => Or.inl h)
  have HZ1 : Hid (Tg W a7 b0 b b2 s x ⟨3, s.id, f1, s.term, f2 - 1, 0, s.commit, s.round, false, [], [], ⟨#[]⟩⟩ gzx) := hide (((unhide HZ0).next (Bel.refl _).drew).set ha7 hcc)
  have HRF1 := hide (hcc.row (show w5.drew.heap[bf]? = _ from unhide HRF) (fun e => by have := (unhide HZ0).row; rw [← e, unhide HRF] at this; injection (Option.some.inj this) with _ h3; exact absurd h3 (by decide)))
  clear ha6 hca6 ha7 hca7 hS hS0 HZ HZ0 hcc HRF y4 y6
  have y4 : a7.cell? ⟨b, 4, none⟩ = some (.int .u64 (f2 - 1)) := (Mb2.of (unhide HZ1).row).c4
  go_wp2_with (first
    | go_skip
    | (refine bx_ldK 31 (.tmp 2) (by exact rfl) b0 (by exact rfl) (by exact rfl) (gc s x) _ (unhide HZ1).rowp Tryz.underlying31 (Tryz.sizeP _ _) ?_)
    | (refine bx_ldK 68 (.tmp 5) (by exact rfl) b (by exact rfl) (by exact rfl) (mg _ _) _ (unhide HZ1).row Tryz.underlying68 (szM _ _) ?_)
    | go_guarded
    | (go_at_call 34; refine ((unhide HT) _ (unhide HZ1).bel).mono ?_; rintro e w7 ⟨rfl, hb7⟩; replace HZ1 := hide ((unhide HZ1).next hb7); replace HRF1 := hide (hb7.row (unhide HRF1)); clear hb7)
    | (refine gm_set (m' := ⟨3, s.id, f1, s.term, f2 - 1, tt, s.commit, s.round, false, [], [], ⟨#[]⟩⟩) (mx' := gzx) 25 (.tmp 52) (.tmp 50) (by exact rfl) (by exact rfl) b 5 (.int .u64 tt) (by exact rfl) (by exact rfl) rfl rfl (unhide HZ1).row (by kernel_rfl) (by decide) rfl ?_; intro w8 hr8 hc8; replace HRF1 := hide (hc8.row (unhide HRF1) (fun e => by have := (unhide HZ1).row; rw [← e, unhide HRF1] at this; injection (Option.some.inj this) with _ h3; exact absurd h3 (by decide))); replace HZ1 := hide ((unhide HZ1).set hr8 hc8); clear hr8 hc8)
    | (go_at_call 18; refine ((unhide HL) _ (unhide HZ1).bel).mono ?_; rintro e w9 ⟨rfl, hb9⟩; replace HZ1 := hide ((unhide HZ1).next hb9); replace HRF1 := hide (hb9.row (unhide HRF1)); have y4 : w9.cell? ⟨b, 4, none⟩ = some (.int .u64 (f2 - 1)) := (Mb2.of (unhide HZ1).row).c4; have z1 : w9.cell? ⟨bf, 1, none⟩ = some (.int .u64 f2) := cell_of (unhide HRF1); clear hb9)
    | (go_at_call 95; refine ((unhide HE) _ (unhide HZ1).bel).mono ?_; rintro e wa ⟨aE, cE, rfl, hsE, hba⟩; have HO := hide hsE; replace HZ1 := hide ((unhide HZ1).next hba); clear hsE hba)
    | (obtain ⟨LE, q1, q2, q3⟩ := (unhide HO); refine gm_set (m' := ⟨3, s.id, f1, s.term, f2 - 1, tt, s.commit, s.round, false, E, [], ⟨#[]⟩⟩) (mx' := ⟨aE, cE, LE, none, 0⟩) 27 (.tmp 67) (.tmp 66) (by exact rfl) (by exact rfl) b 9 (.slice aE E.length cE) (by exact rfl) (by exact rfl) rfl rfl (unhide HZ1).row (by kernel_rfl) (by decide) rfl ?_; intro wb hrb hcb; have HQ : Hid (LE.map (·.1) = E ∧ SlT EG wb aE LE ∧ ∀ y ∈ LE, SlT E3 wb y.2.a y.1.m) := hide ⟨q1, q2.boxM (unhide HZ1).row (by decide) hcb, fun y hy => (q3 y hy).boxM (unhide HZ1).row (by decide) hcb⟩; replace HZ1 := hide ((unhide HZ1).set hrb hcb); clear hrb hcb q1 q2 q3)
    | (obtain ⟨m2, x2, h2⟩ := (unhide HZ1).row2; refine bx_st rfl 68 (.tmp 4) _ rfl b2 (mg _ _) _ rfl rfl h2 (szM _ _) rfl (mg_one _ _) ?_; intro wc hrc hcc; have HR9 := hide (And.intro hrc (And.intro (And.intro (unhide HQ).1 (And.intro ((unhide HQ).2.1.boxM h2 (by decide) hcc) (fun y hy => ((unhide HQ).2.2 y hy).boxM h2 (by decide) hcc))) (bel_off (unhide HZ1).bel hcc (unhide HZ1).ge2))); clear hrc hcc h2))
  exact bodyPost_ret (res1 (p := 4) rfl Tryz.underlying68 (szM _ _) (unhide HR9).1 _ rfl) rfl ⟨_, rfl, ⟨(unhide HR9).2.1.1, (unhide HR9).2.1.2.1, (fun y hy => (unhide HR9).2.1.2.2 y hy), SlT.nil _ _ _⟩, (unhide HR9).2.2⟩
end Go.Proofs.YtphiigejlfoinaaGreat
