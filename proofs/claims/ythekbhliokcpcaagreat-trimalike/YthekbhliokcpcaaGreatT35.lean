/- alive of the law of logs cut off behind a snapshot: a group of one that cuts its log. The calls of a group's law, over a group of any members: what each makes. The call of trim.Step in a group of any members. The law's step: what its branches share. The law's step: a member ticks. The law's step: no -/
import Derived.Test.YthekbhliokcpcaaGreatT34
import Derived.Test.YthekbhliokcpcaaGreatT20
import Derived.Test.YthekbhliokcpcaaGreatT11
import Derived.Deep.DeepCutAuto
import Derived.Deep.CutBlock
import Derived.Laws.BytesArg
namespace Go.Proofs.YthekbhliokcpcaaGreat
open Go.RowKit Go.Maps Go.Sort
theorem sl_row3 (W : World) (l : List Int) : Sl E3 (W.alloc (.cells (l.map fun x => Value.int .i64 x).toArray 3)) (some ⟨W.heap.size, 0, none⟩) l :=
 ⟨W.heap.size, 0, fun _ => rfl, fun j hj c u hu => by
  have hc : c = 0 ∧ u = .int .i64 l[j] := by
   cases c with
   | zero => simp [E3] at hu; exact ⟨rfl, hu.symm⟩
   | succ c => simp [E3] at hu
  obtain ⟨rfl, rfl⟩ := hc
  rw [cell_of (at_new W _)]
  simp [E3, hj]⟩
def gOne : GP := gnew 1 1 [1]
def gTwo : GP := ⟨1, [1], 1, 1, 2, 1, 0, 0, [1], ⟨#[]⟩, [⟨1, 1, ⟨#[]⟩, []⟩], 1, 2, 10, [], [], 0, []⟩
def gThr : GP := ⟨1, [1], 1, 1, 2, 1, 1, 1, [1], ⟨#[115]⟩, [], 1, 2, 10, [], [], 0, []⟩
theorem one_two : gOne.ltick 0 = (gTwo, []) := by rfl
theorem two_thr : gTwo.trimTo 1 ⟨#[115]⟩ = gThr := by rfl
theorem one_may : mayG gOne = true := new_may (n := 1) (by decide) (by decide) (by decide)
theorem two_may : mayG gTwo = true := by
 unfold gTwo
 simp [mayG, numB, logB, memB, rolB, leadB, folB, folsB, reaB, reasB, othG, idB, noneB, aids, mayEs, mayE, memOf, GP.lastI, ByteArray.toList_eq]
 try omega
theorem two_gz (x : Px) (hc : 1 ≤ x.cL) : Gz gTwo x := by
 unfold gTwo
 refine ⟨by decide, by decide, by decide, by decide, by decide, by decide, by decide, by decide, by decide, ?_, ?_, by decide, ?_, by decide, ?_, hc⟩
 ·intro e he; simp at he; rw [he]; decide
 ·intro e he; simp at he; rw [he]; decide
 ·intro e he; simp at he
 ·intro e he; simp at he
theorem thr_gz (x : Px) : Gz gThr x := by
 unfold gThr
 refine ⟨by decide, by decide, by decide, by decide, by decide, by decide, by decide, by decide, by decide, ?_, ?_, by decide, ?_, by decide, ?_, Nat.zero_le _⟩
 ·intro e he; simp at he
 ·intro e he; simp at he
 ·intro e he; simp at he
 ·intro e he; simp at he
theorem two_cmp : cmpB gTwo 1 = true := by
 unfold cmpB
 rw [two_may]
 decide
theorem thr_cmp : cmpB gThr 1 = false := by
 unfold cmpB gThr
 simp
theorem newc_1 (W' : World) : Calls Tryz.prog 17 #[.int .i64 1, .int .i64 1, .slice (some ⟨W'.heap.size, 0, none⟩) 1 1] (W'.alloc (.cells #[.int .i64 1] 3)) fun e w' => ∃ x', e = .returned (.tuple #[.agg (gc gOne x'), .int .i64 0]) ∧ Gp w' gOne x' ∧ Bel W' w' :=
 (new_g (id := 1) (wait := 1) (c := 1) (sl_row3 W' [1]) (by decide)).mono (fun e w' ⟨h1, h2⟩ => by
  rcases h1 with ⟨_, x', he, hp⟩ | ⟨h0, _⟩
  ·exact ⟨x', he, hp.gp, ((Bel.refl W').alloc _).trans h2⟩
  ·have h9 := one_may
   unfold gOne at h9
   rw [h0] at h9; cases h9)
theorem tickc_1 (W' : World) (x' : Px) (hp : Gp W' gOne x') : Calls Tryz.prog 28 #[.agg (gc gOne x'), .int .i64 0] W' fun e w' => ∃ x2 aA cA, e = .returned (.tuple #[.agg (gc gTwo x2), .slice aA 0 cA, .int .i64 0]) ∧ Gp w' gTwo x2 ∧ 1 ≤ x2.cL ∧ Bel W' w' := by
 have := ltick_g hp (gnew_gz 1 1 [1] (by decide) x') one_may (by decide) 0 (by decide)
 rw [one_two] at this
 exact this.mono (fun e w' ⟨x2, aA, cA, he, hpg, _, hb⟩ => ⟨x2, aA, cA, he, hpg.gp, hpg.cap, hb⟩)
theorem comp_1 (W' : World) (x' : Px) (hp : Gp W' gTwo x') (hc : 1 ≤ x'.cL) : Calls Tryz.prog 29 #[.agg (gc gTwo x'), .int .u64 1, .string ⟨#[115]⟩] W' fun e w' => ∃ x2, e = .returned (.tuple #[.agg (gc gThr x2), .int .i64 0]) ∧ Gp w' gThr x2 ∧ Bel W' w' := by
 have := compact_yes hp (two_gz x' hc) 1 (by decide) ⟨#[115]⟩ two_cmp (by decide)
 rw [two_thr] at this
 exact this.mono (fun e w' ⟨x2, he, hpg, _, hb⟩ => ⟨x2, he, hpg.gp, hb⟩)
theorem comp_2 (W' : World) (x' : Px) (hp : Gp W' gThr x') : Calls Tryz.prog 29 #[.agg (gc gThr x'), .int .u64 1, .string ⟨#[115]⟩] W' fun e w' => e = .returned (.tuple #[.agg (gc g0 y0), .int .i64 2]) ∧ Bel W' w' := compact_no hp (thr_gz x') 1 ⟨#[115]⟩ thr_cmp
set_option maxRecDepth 100000 in
set_option maxHeartbeats 4000000 in
theorem alive_t {W : World} : Calls Tryz.prog 11 #[] W fun e w' => e = .returned (.bool true) ∧ Bel W w' := by
 have HN := jd newc_1
 have HT := jd tickc_1
 have HA1 := jd comp_1
 have HA2 := jd comp_2
 have hM6 : gThr.base = 1 := rfl
 have hM9 : gThr.snap = ⟨#[115]⟩ := rfl
 have hM10 : gThr.log.length = 0 := rfl
 generalize gOne = gA at *
 generalize gTwo = gB at *
 generalize gThr = gC at *
 have HML := jd (aI hM6 (aI hM9 hM10))
 clear hM6 hM9 hM10
 go_enter Tryz.func11, Tryz.ntmps11
 go_wp2_with (first
  | go_skip
  | (refine bx_ldK 31 (.tmp 1) (by exact rfl) _ (by exact rfl) (by exact rfl) (gc gA x1) _ (ju HQ1) Tryz.underlying31 (zP _ _) ?_)
  | (refine bx_ldK 31 (.tmp 3) (by exact rfl) _ (by exact rfl) (by exact rfl) (gc gB x2) _ (ju HQ3) Tryz.underlying31 (zP _ _) ?_)
  | (refine bx_ldK 31 (.tmp 6) (by exact rfl) _ (by exact rfl) (by exact rfl) (gc gC x3) _ (ju HQ6) Tryz.underlying31 (zP _ _) ?_)
  | go_guarded
  | (go_at_call 17; refine ((ju HN) _).mono ?_; rintro e w1 ⟨x1, rfl, hp1, hb1⟩; have HP := jd hp1; have HB := jd hb1; clear hp1 hb1)
  | (refine bx_new rfl 31 rfl _ Tryz.zeroP ?_; intro b w4 hr4 hs4 hb4; have HQ := jd (aI hr4 (aI hs4 hb4)); clear hr4 hs4 hb4)
  | (refine bx_st rfl 31 (.tmp 1) _ rfl b (gc gA x1) _ rfl rfl (ju HQ).1 (zP _ _) rfl (gc_one _ _) ?_; intro w5 hr5 hc5; have hbb := bel_off (ju HQ).2.2 hc5 (Nat.le_of_eq (ju HQ).2.1); have HQ1 := jd hr5; have HP := jd ((ju HP).bel hbb); have HB := jd ((ju HB).trans hbb); clear hr5 hc5 hbb)
  | (go_at_call 28; refine ((ju HT) _ _ (ju HP)).mono ?_; rintro e w2 ⟨x2, aA, cA, rfl, hp2, hc2, hb2⟩; have HP2 := jd (aI hp2 hc2); have HB := jd ((ju HB).trans hb2); clear hp2 hc2 hb2)
  | (refine bx_st rfl 31 (.tmp 3) _ rfl b (gc gB x2) _ rfl rfl (ju HQ).1 (zP _ _) rfl (gc_one _ _) ?_; intro w5 hr5 hc5; have hbb := bel_off (ju HQ).2.2 hc5 (Nat.le_of_eq (ju HQ).2.1); have HQ3 := jd hr5; have HP2 := jd (aI ((ju HP2).1.bel hbb) (ju HP2).2); have HB := jd ((ju HB).trans hbb); clear hr5 hc5 hbb)
  | (go_at_call 29; refine ((ju HA1) _ _ (ju HP2).1 (ju HP2).2).mono ?_; rintro e w3 ⟨x3, rfl, hp3, hb3⟩; have HP3 := jd hp3; have HB := jd ((ju HB).trans hb3); clear hp3 hb3 HA1)
  | (refine bx_st rfl 31 (.tmp 6) _ rfl b (gc gC x3) _ rfl rfl (ju HQ).1 (zP _ _) rfl (gc_one _ _) ?_; intro w6 hr6 hc6; have hbb := bel_off (ju HQ).2.2 hc6 (Nat.le_of_eq (ju HQ).2.1); have HQ6 := jd hr6; have HP3 := jd ((ju HP3).bel hbb); have HB := jd ((ju HB).trans hbb); clear hr6 hc6 hbb)
  | (go_at_call 29; refine ((ju HA2) _ _ (ju HP3)).mono ?_; rintro e w7 ⟨rfl, hb7⟩; have HQ6 := jd (hb7.row (ju HQ6)); have HB := jd ((ju HB).trans hb7); clear hb7)
  | (refine bx_st rfl 31 (.tmp 8) _ rfl b (gc g0 y0) _ rfl rfl (ju HQ).1 (zP _ _) rfl (gc_one _ _) ?_; intro w8 hr8 hc8; have hbb := bel_off (ju HQ).2.2 hc8 (Nat.le_of_eq (ju HQ).2.1); have HQ6 := jd (hbb.row (ju HQ6)); have HB := jd ((ju HB).trans hbb); have z6 := (Bg.of (ju HQ6)).c6; have z9 := (Bg.of (ju HQ6)).c9; have z10 := (Bg.of (ju HQ6)).c10; rw [(ju HML).1] at z6; rw [(ju HML).2.1] at z9; rw [(ju HML).2.2] at z10; clear hr8 hc8 hbb))
 go_ret
 exact ⟨rfl, ju HB⟩
section
variable {σ : Nat → ByteArray} {W w w' w1 w2 : World} {n b gP cP bM k km q : Nat} {vW vD vO vW' vD' : Value} {L : List (GP × Px)} {Q O Q' : List (GM × GX)} {D D' : List (GE × GA)} {ld ld' : Int → Int} {M : List (PP × Nat)} {gw : List QM} {dn dn' : List PE} {p p1 : PP} {c b1 : Nat} {x x1 : Px}
theorem Sdk.of {r : GP × List GM} {x1 : Px} {aO : Option Addr} {cO : Nat} (hr : ∃ p1 b1, r.1 = rl n σ p1 b1 ∧ Sp ld n k σ (M.map (·.1)) gw dn q p1 b1 r.2) (hg : Gt w' r.1 x1) (hl : Lc w.heap.size x1 r.1.log.length) (hm : Ms w.heap.size w' (.slice aO r.2.length cO) r.2) (hb : Bel w w') (h64 : r.2.length ≤ 64) : ∃ p1 b1 x2 a2 c2 O, Ending.returned (.tuple #[.agg (gc r.1 x1), .slice aO r.2.length cO, .int .i64 0]) = .returned (.tuple #[.agg (gc (rl n σ p1 b1) x2), .slice a2 O.length c2, .int .i64 0]) ∧ Sdk σ n k q ld M gw dn w p1 b1 x2 (.slice a2 O.length c2) O w' := by
 obtain ⟨p1, b1, e1, hs⟩ := hr
 obtain ⟨O, o1, o2, o3⟩ := hm
 have el : O.length = r.2.length := by rw [← o1, List.length_map]
 refine ⟨p1, b1, x1, aO, cO, O, by rw [el, e1], ?_⟩
 rw [e1] at hg hl
 rw [el]
 exact ⟨hg, hl, o2, o3, hb, by rw [o1]; exact hs, by rw [el]; exact h64⟩
theorem tick_sd (h : Gk σ W n b gP cP bM k km vW vD L Q D ld M gw dn w) (hn : n ≤ 64) (hk : k ≤ 80000) (h0 : σ 0 = ⟨#[]⟩) (hq : q < L.length) (e : L[q] = (rl n σ p c, x)) (em : M[q]? = some (p, c)) (d : Int) (hd : 0 ≤ d) : Calls Tryz.prog 28 #[.agg (gc (rl n σ p c) x), .int .i64 d] w fun e w' => ∃ p1 b1 x1 aO cO O, e = .returned (.tuple #[.agg (gc (rl n σ p1 b1) x1), .slice aO O.length cO, .int .i64 0]) ∧ Sdk σ n k q ld M gw dn w p1 b1 x1 (.slice aO O.length cO) O w' := by
 obtain ⟨h1, h2, h3, h4, h5, h6, h7, h8, h9, h10⟩ := h.at hn hk h0 hq e em
 obtain ⟨out, s1, s2⟩ := sp_tick h9 (h10 h9) h.al (by omega) h6 h7 (σ := σ) d
 refine (ltick_g h1 h2 h3 h8 d hd).mono ?_
 rintro e w' ⟨x1, aA, cA, rfl, q1, q2, q3⟩
 refine Sdk.of (r := (rl n σ p c).ltick d) ⟨_, _, by rw [s1], by rw [s1]; exact s2⟩ q1.gt q1.lc q2 q3 (gltick_len _ _ (by have := fol_bds h4; show p.fol.length ≤ 64; omega) (by rw [rl_oth]; have := oth_lenn (n := n) p.id; omega))
theorem kept_sd (h : Gk σ W n b gP cP bM k km vW vD L Q D ld M gw dn w) (hn : n ≤ 64) (hk : k ≤ 80000) (h0 : σ 0 = ⟨#[]⟩) (hq : q < L.length) (e : L[q] = (rl n σ p c, x)) (em : M[q]? = some (p, c)) : Calls Tryz.prog 31 #[.agg (gc (rl n σ p c) x)] w fun e w' => ∃ p1 b1 x1, e = .returned (.agg (gc (rl n σ p1 b1) x1)) ∧ Sdk σ n k q ld M gw dn w p1 b1 x1 (.slice none 0 0) [] w' := by
 obtain ⟨h1, h2, h3, h4, h5, h6, h7, h8, h9, h10⟩ := h.at hn hk h0 hq e em
 obtain ⟨s1, s2⟩ := sp_crash h9 (h10 h9) h.al h6 h7 (σ := σ)
 refine (kept_g h1 h2 h3).mono ?_
 rintro e w' ⟨x1, rfl, q1, q3⟩
 rw [s1] at q1 ⊢
 exact ⟨_, _, x1, rfl, q1.gt, q1.lc, El.O.nil _ _, fun y hy => (by cases hy), q3, s2, Nat.zero_le _⟩
theorem prop_sd (h : Gk σ W n b gP cP bM k km vW vD L Q D ld M gw dn w) (hn : n ≤ 64) (hk : k ≤ 80000) (h0 : σ 0 = ⟨#[]⟩) (hq : q < L.length) (e : L[q] = (rl n σ p c, x)) (em : M[q]? = some (p, c)) (d : ByteArray) (hd : d.size ≤ 1048576) (hr : p.role = 2) : Calls Tryz.prog 32 #[.agg (gc (rl n σ p c) x), .string d] w fun e w' => ∃ p1 b1 x1 v, e = .returned (.tuple #[.agg (gc (rl n σ p1 b1) x1), v, .int .i64 0]) ∧ Sdk σ n k q ld M gw dn w p1 b1 x1 (.slice none 0 0) [] w' := by
 obtain ⟨h1, h2, h3, h4, h5, h6, h7, h8, h9, h10⟩ := h.at hn hk h0 hq e em
 obtain ⟨s1, s2⟩ := sp_prop h9 (h10 h9) h.al h6 h7 hr (σ := σ) d
 refine (propose_g h1 h2 h3 hr h8 d hd).mono ?_
 rintro e w' ⟨x1, rfl, q1, q3⟩
 rw [s1] at q1 ⊢
 exact ⟨_, _, x1, _, rfl, q1.gt, q1.lc, El.O.nil _ _, fun y hy => (by cases hy), q3, s2, Nat.zero_le _⟩
theorem cut_sd (h : Gk σ W n b gP cP bM k km vW vD L Q D ld M gw dn w) (hn : n ≤ 64) (hk : k ≤ 80000) (h0 : σ 0 = ⟨#[]⟩) (hq : q < L.length) (e : L[q] = (rl n σ p c, x)) (em : M[q]? = some (p, c)) (t : Nat) (d : ByteArray) (hd : d.size ≤ 1044480) (ht : c < t ∧ t ≤ p.commit) (hdt : d = σ t) : Calls Tryz.prog 29 #[.agg (gc (rl n σ p c) x), .int .u64 (t : Int), .string d] w fun e w' => ∃ p1 b1 x1, e = .returned (.tuple #[.agg (gc (rl n σ p1 b1) x1), .int .i64 0]) ∧ Sdk σ n k q ld M gw dn w p1 b1 x1 (.slice none 0 0) [] w' := by
 obtain ⟨h1, h2, h3, h4, h5, h6, h7, h8, h9, h10⟩ := h.at hn hk h0 hq e em
 have hgl := h4.glen
 have hcm := h4.com
 obtain ⟨s1, s2⟩ := sp_cut h9 (h10 h9) h.al h6 h7 (σ := σ) (by omega : c ≤ t) ht.2 hdt
 refine (compact_yes h1 h2 (t : Int) ⟨by omega, by omega⟩ d ?_ hd).mono ?_
 ·unfold cmpB
  rw [h3]
  simp only [Bool.true_and, Bool.and_eq_true, Bool.not_eq_true', decide_eq_false_iff_not]
  refine ⟨?_, ?_⟩
  ·show ¬ _
   have : (rl n σ p c).base = (c : Int) := rfl
   have : (rl n σ p c).commit = (p.commit : Int) := rfl
   omega
  ·show ¬ _
   have : (rl n σ p c).base = (c : Int) := rfl
   have : (rl n σ p c).commit = (p.commit : Int) := rfl
   omega
 rintro e w' ⟨x1, rfl, q1, q2, q3⟩
 rw [s1] at q1 q2 ⊢
 exact ⟨_, _, x1, rfl, q1, q2, El.O.nil _ _, fun y hy => (by cases hy), q3, s2, Nat.zero_le _⟩
end
section
variable {σ : Nat → ByteArray} {W w w' w1 w2 : World} {n b gP cP bM k km q : Nat} {vW vD vO vW' vD' : Value} {L : List (GP × Px)} {Q O Q' : List (GM × GX)} {D D' : List (GE × GA)} {ld ld' : Int → Int} {M : List (PP × Nat)} {gw : List QM} {dn dn' : List PE} {p p1 : PP} {c b1 : Nat} {x x1 : Px}
theorem g_sizes {r : QM} {y : GX} (h : GwT w r.g y) : ∀ z ∈ y.ls, z.1.m.length ≤ 1048576 := fun z hz => by
 have h1 : z.1 ∈ r.g.ents := by rw [← h.e]; exact List.mem_map.2 ⟨z, hz, rfl⟩
 obtain ⟨e, _, h2⟩ := List.mem_map.1 h1
 rw [← h2]
 exact Nat.zero_le _
theorem step_sd (h : Gk σ W n b gP cP bM k km vW vD L Q D ld M gw dn w) (hn : n ≤ 64) (hk : k ≤ 80000) (h0 : σ 0 = ⟨#[]⟩) (hq : q < L.length) (e : L[q] = (rl n σ p c, x)) (em : M[q]? = some (p, c)) {o : GM × GX} (hw : GwT w o.1 o.2 ∧ o.1.ents.length ≤ o.2.ec) (hr : ∃ r ∈ gw, Rw n k k σ dn o.1 r) (hto : o.1.to = p.id) : Calls Tryz.prog 30 #[.agg (gc (rl n σ p c) x), .agg (mg o.1 o.2)] w fun e w' => ∃ p1 b1 x1 aO cO O, e = .returned (.tuple #[.agg (gc (rl n σ p1 b1) x1), .slice aO O.length cO, .int .i64 0]) ∧ Sdk σ n k q ld M gw dn w p1 b1 x1 (.slice aO O.length cO) O w' := by
 obtain ⟨h1, h2, h3, h4, h5, h6, h7, h8, h9, h10⟩ := h.at hn hk h0 hq e em
 have hgl := h4.glen
 have hcm := h4.com
 obtain ⟨m, y⟩ := o
 simp only at hw hr hto ⊢
 obtain ⟨r, hrg, hr⟩ := hr
 have hid : (rl n σ p c).id = p.id := rfl
 rcases hr with ⟨rfl, hsh⟩ | ⟨t, t1, t2, t3, t4, t5, t6⟩
 ·rcases hsh with ⟨hkd, hpq⟩ | hqk
  ·-- votes
   have hmok : MOk n k k r.p := by
    obtain ⟨g, hg⟩ := h.al
    refine hg.inv.msg r.p ?_
    unfold pm
    refine List.mem_map.2 ⟨r, List.mem_filter.2 ⟨hrg, by rcases hkd with h' | h' <;> simp [h']⟩, rfl⟩
   have hmm := sh_may hn (by omega) (by omega) (Or.inl ⟨r.p, hpq, hmok⟩)
   have hr0 : r.ents = [] := by rw [hpq]; rfl
   obtain ⟨out, s1, s2⟩ := sp_votes h9 (h10 h9) h.al h6 h7 hrg hkd (by exact hto) (Or.inl ⟨hkd, hpq⟩) (σ := σ)
   have hvt : (rl n σ p c).voteTake r.g = (rl n σ (p.take n r.p).1 c, (p.take n r.p).2.map PM.gx) := by
    have := rl_vote (σ := σ) h4 (by omega : c ≤ p.log.length) r.p hmok.index.1 hmok.f
    rwa [← hpq] at this
   have hok2 : Ok n k (k + 1) (p.take n r.p).1 := by
    have h11 := mv_take h9 (h10 h9) h.al hrg hkd (by exact hto)
    obtain ⟨hi2, e2⟩ := set_at h9 (p.take n r.p).1
    have := (h11.ok hi2).1
    rwa [e2] at this
   have hc2 := (take_keeps (n := n) p r.p).1
   have hf : ∀ W', Bel w W' → Calls Tryz.prog 135 #[.agg (gc (rl n σ p c) x), .agg (mg r.g y)] W' fun e w' => ∃ x' aA cA, e = .returned (.tuple #[.agg (gc ((rl n σ p c).votesTake r.g).1 x'), .slice aA ((rl n σ p c).votesTake r.g).2.length cA, .int .i64 0]) ∧ Gt w' ((rl n σ p c).votesTake r.g).1 x' ∧ Lc w.heap.size x' ((rl n σ p c).votesTake r.g).1.log.length ∧ Ms w.heap.size w' (.slice aA ((rl n σ p c).votesTake r.g).2.length cA) ((rl n σ p c).votesTake r.g).2 ∧ Bel W' w' := fun W' hb => by
    refine (votesTake_g (h1.bel hb) h2 h3 h8 (hw.1.gw.bel hb) ⟨by show (r.ents.map PE.g).length ≤ _; rw [hr0]; exact Nat.zero_le _, Nat.zero_le _, g_sizes hw.1⟩ hmm hto hkd (by rw [hvt]; exact rl_may hok2 (by rw [hc2]; exact h6) hn (by omega) (by omega) h0) (fun x' hx' => by rw [hvt] at hx' ⊢; exact rl_gz hok2 (by rw [hc2]; exact h6) hn (by omega) (by omega) hx')).mono ?_
    rintro e w' ⟨x', aA, cA, rfl, q1, q2, q3⟩
    exact ⟨x', aA, cA, rfl, q1.gt, q1.lc.mono hb.size, q2.mono hb.size, q3⟩
   refine (step_g (f := 135) (by rcases hkd with h' | h'; exact Or.inl ⟨h', rfl⟩; exact Or.inr (Or.inl ⟨h', rfl⟩)) hf).mono ?_
   rintro e w' ⟨x1, aA, cA, rfl, q1, q2, q3, q4⟩
   exact Sdk.of (r := (rl n σ p c).votesTake r.g) ⟨_, _, by rw [s1], by rw [s1]; exact s2⟩ q1 q2 q3 q4 (Nat.le_trans (votesTake_len _ _) (by decide))
  ·-- logs
   have hkd := hqk.kind
   have hmm := sh_may hn (by omega) (by omega) (Or.inr hqk)
   have hsp : ∃ p1 out, (rl n σ p c).ltake r.g = (rl n σ p1 c, out) ∧ Sp ld n k σ (M.map (·.1)) gw dn q p1 c out := by
    rcases hkd with h' | h'
    ·obtain ⟨m, s1, s2⟩ := sp_lay h9 (h10 h9) h.al h6 h7 hrg h' (by exact hto) hqk (σ := σ)
     exact ⟨_, _, s1, s2⟩
    ·obtain ⟨out, s1, s2⟩ := sp_heard h9 (h10 h9) h.al h6 h7 hrg h' hqk (σ := σ)
     exact ⟨_, _, s1, s2⟩
   obtain ⟨p1, out, s1, s2⟩ := hsp
   have hrk := rais_ok h4 (t := r.term) hqk.term.2
   obtain ⟨r1, r2, r3⟩ := rais_same p r.term
   have he16 : r.g.ents.length ≤ 16 := by
    show (r.ents.map PE.g).length ≤ 16
    rw [List.length_map]
    rcases hkd with h' | h'
    ·exact (hqk.lay h').2.2.1
    ·rw [(hqk.hrd h').2.2]; exact Nat.zero_le _
   have hfb := fol_bds hrk
   have hix := hqk.index
   have htm := hqk.term
   have hf : ∀ W', Bel w W' → Calls Tryz.prog 136 #[.agg (gc (rl n σ p c) x), .agg (mg r.g y)] W' fun e w' => ∃ x' aA cA, e = .returned (.tuple #[.agg (gc ((rl n σ p c).ltake r.g).1 x'), .slice aA ((rl n σ p c).ltake r.g).2.length cA, .int .i64 0]) ∧ Gt w' ((rl n σ p c).ltake r.g).1 x' ∧ Lc w.heap.size x' ((rl n σ p c).ltake r.g).1.log.length ∧ Ms w.heap.size w' (.slice aA ((rl n σ p c).ltake r.g).2.length cA) ((rl n σ p c).ltake r.g).2 ∧ Bel W' w' := fun W' hb => by
    refine (ltake_g (h1.bel hb) h2 h3 (hw.1.gw.bel hb) ⟨he16, Nat.zero_le _, g_sizes hw.1⟩ hmm hto hkd (by show r.term ≤ _; omega) ⟨by show (0 : Int) ≤ (r.index : Int); omega, by show (r.index : Int) ≤ _; omega⟩ hw.2 ?_ ?_ ?_ ?_ ?_ ?_ ?_ ?_).mono ?_
    ·show mayG ((rl n σ p c).raise r.term) = true
     rw [rl_raise]; exact rl_may hrk (by rw [r2]; exact h6) hn (by omega) (by omega) h0
    ·intro x' hx'
     change ((rl n σ p c).raise r.term).log.length ≤ x'.cL at hx'
     show Gz ((rl n σ p c).raise r.term) x'
     rw [rl_raise] at hx' ⊢
     exact rl_gz hrk (by rw [r2]; exact h6) hn (by omega) (by omega) hx'
    ·intro h3k hnb hta
     have hz := (hqk.lay h3k).2.1
     by_cases hi0 : r.index = 0
     ·exfalso
      apply hta
      have hc0 : c = 0 := by
       have : ¬ ((r.index : Int) < (c : Int)) := hnb
       omega
      show (rl n σ p c).tAt (r.index : Nat) = some r.lterm
      rw [rl_tAt (by omega), if_pos ⟨by omega, by omega⟩, hz.1 hi0, hi0]
      rfl
     ·show (1 : Int) ≤ (r.index : Int); omega
    ·show (mem n).length ≤ 64
     rw [mem_len]; exact hn
    ·show ((rl n σ p c).raise r.term).fol.length ≤ 64
     rw [rl_raise]
     exact Nat.le_trans hfb.1 hn
    ·show ∀ f ∈ ((rl n σ p c).raise r.term).fol, 1 ≤ f.2.1 ∧ f.2.1 ≤ (rl n σ p c).lastI + 1 ∧ f.2.2 < f.2.1 ∧ 0 ≤ f.2.2
     rw [rl_raise, rl_lastI (by omega)]
     intro f hf
     have := hfb.2 f hf
     rw [r1] at this
     exact this
    ·show (((rl n σ p c).raise r.term).fol.map (·.1)).Nodup
     rw [rl_raise]
     exact fol_nodup hrk
    ·show ((rl n σ p c).raise r.term).reads = []
     rw [rl_raise]; rfl
    ·rintro e w' ⟨x', aA, cA, rfl, q1, q2, q3, q4⟩
     exact ⟨x', aA, cA, rfl, q1, q2.mono hb.size, q3.mono hb.size, q4⟩
   refine (step_g (f := 136) (by rcases hkd with h' | h'; exact Or.inr (Or.inr (Or.inl ⟨h', rfl⟩)); exact Or.inr (Or.inr (Or.inr (Or.inl ⟨h', rfl⟩)))) hf).mono ?_
   rintro e w' ⟨x1, aA, cA, rfl, q1, q2, q3, q4⟩
   exact Sdk.of (r := (rl n σ p c).ltake r.g) ⟨_, _, by rw [s1], by rw [s1]; exact s2⟩ q1 q2 q3 q4 (Nat.le_trans (ltake_len _ _) (by decide))
 ·-- a snapshot
  have hmay := inst_may (σ := σ) hn h.al (by omega) (by omega) hrg t1 t2 t3 t4 t5 t6
  have hkd : m.kind = 5 := by rw [t6]
  have hmt : m.to = r.to := by rw [t6]
  have hen : m.ents = [] := by rw [t6]
  have hme : m.mem = mem n := by rw [t6]
  have hmr : m.term = r.term := by rw [t6]
  have htm := t5.term
  obtain ⟨p1, b1, out, s1, s2⟩ := sp_inst h9 (h10 h9) h.al h6 h7 hrg t1 t2 t3 t4 t5 (by rw [← hmt]; exact hto) t6 (σ := σ)
  have hf : ∀ W', Bel w W' → Calls Tryz.prog 137 #[.agg (gc (rl n σ p c) x), .agg (mg m y)] W' fun e w' => ∃ x' aA cA, e = .returned (.tuple #[.agg (gc ((rl n σ p c).trimTake m).1 x'), .slice aA ((rl n σ p c).trimTake m).2.length cA, .int .i64 0]) ∧ Gt w' ((rl n σ p c).trimTake m).1 x' ∧ Lc w.heap.size x' ((rl n σ p c).trimTake m).1.log.length ∧ Ms w.heap.size w' (.slice aA ((rl n σ p c).trimTake m).2.length cA) ((rl n σ p c).trimTake m).2 ∧ Bel W' w' := fun W' hb => by
   refine (trimTake_any (h1.bel hb) h2 h3 (hw.1.gw.bel hb) ⟨by rw [hen]; exact Nat.zero_le _, by rw [hme, mem_len]; omega, fun z hz => ?_⟩ hmay.1 hto hkd h8 (by omega) (by omega)).mono ?_
   ·have h11 : z.1 ∈ m.ents := by rw [← hw.1.e]; exact List.mem_map.2 ⟨z, hz, rfl⟩
    rw [hen] at h11
    cases h11
   ·rintro e w' ⟨x', aA, cA, rfl, q1, q2, q3, q4⟩
    exact ⟨x', aA, cA, rfl, q1, q2.mono hb.size, q3.mono hb.size, q4⟩
  refine (step_g (f := 137) (Or.inr (Or.inr (Or.inr (Or.inr ⟨hkd, rfl⟩)))) hf).mono ?_
  rintro e w' ⟨x1, aA, cA, rfl, q1, q2, q3, q4⟩
  exact Sdk.of (r := (rl n σ p c).trimTake m) ⟨_, _, by rw [s1], by rw [s1]; exact s2⟩ q1 q2 q3 q4 (Nat.le_trans (trimTake_len _ _) (by decide))
end
structure Act4 where
 op : Int
 a : Int
 n : Int
 keep : Bool
def ac (A : Act4) : Array Value := #[.int .i64 A.op, .int .i64 A.a, .int .i64 A.n, .bool A.keep]
theorem ofInt_u64 (m : Nat) (hm : m < 18446744073709551616) : (BitVec.ofInt 64 (m : Int)).toNat = m := by
 simp
 omega
theorem i64_mask (z : Int) (m : Nat) (hm : m < 9223372036854775808) : ∃ k : Nat, k ≤ m ∧ bits .and .i64 z (m : Int) = (k : Int) := by
 refine ⟨(BitVec.ofInt 64 z &&& BitVec.ofInt 64 (m : Int)).toNat, ?_, ?_⟩
 ·rw [BitVec.toNat_and, ofInt_u64 m (by omega)]; exact Nat.and_le_right
 ·show IntKind.i64.wrap ((BitVec.ofInt 64 z &&& BitVec.ofInt 64 (m : Int)).toNat : Int) = _
  have h : (BitVec.ofInt 64 z &&& BitVec.ofInt 64 (m : Int)).toNat ≤ m := by
   rw [BitVec.toNat_and, ofInt_u64 m (by omega)]; exact Nat.and_le_right
  exact wrapI (by omega) (by omega)
section
variable {ops : Array Oper} {rest : List Oper} {o : Oper} {a : Act} {Q : Exit → Act → World → Prop} {W : World}
theorem elq_app {base : Nat} {v : Value} {way out : List (GM × GX)} {aO : Option Addr} {mO cO : Nat} (h : EMg.O base W v way) (hbase : base ≤ W.heap.size) (hO : EMg.O 0 W (.slice aO mO cO) out) (hol : out.length ≤ 64) (hwl : way.length ≤ 300) (x y : Operand) (hgd : o.guard = none) (ho : o.op = .call { callee := .builtin .append, args := #[x, y], argTypes := #[47, 47] }) (hs : a.eval x = v) (hy : a.eval y = .slice aO mO cO)
  (hK : ∀ a' c' w', EMg.O base w' (.slice a' (way.length + out.length) c') (way ++ out) → W.grownBy w' v.ownBlock → wpList Tryz.prog ops Q rest (a.put o.dst (.slice a' (way.length + out.length) c')) w') : wpList Tryz.prog ops Q (o :: rest) a W := by
 obtain ⟨h1, h2, h3⟩ := Sl.of hO
 refine app_el (E := EMg) out h hbase aO mO cO h2.symm h1 (by omega) hgd x y 47 rfl ho hs hy (fun v' w' k1 k2 => ?_)
 obtain ⟨a', c', g', e, _⟩ := k1.shape
 subst e
 rw [List.length_append] at k1 ⊢
 exact hK a' c' w' k1 k2
end
theorem Gk.idle {σ : Nat → ByteArray} {W w : World} {n b gP cP bM k km : Nat} {vW vD : Value} {L : List (GP × Px)} {Q : List (GM × GX)} {D : List (GE × GA)} {ld : Int → Int} {M : List (PP × Nat)} {gw : List QM} {dn : List PE} (h : Gk σ W n b gP cP bM k km vW vD L Q D ld M gw dn w) (q : Nat) : Gmk σ W n b gP cP bM (k + 1) km q vW vD L Q D ld M gw dn (.slice none 0 0) [] w :=
 ⟨h.gs, h.hM, h.al.mono (Nat.le_succ _) (Nat.le_succ _), h.hD, h.hb, fun j hj _ => h.hd _ (List.getElem_mem hj), fun m hm => (List.take_prefix_take_left (h.hb m hm)).trans (h.hd m hm), fun o ho => by
  obtain ⟨r, r1, r2⟩ := h.wq o ho
  exact ⟨r, r1, r2.mono (Nat.le_succ _) (Nat.le_succ _) (List.prefix_refl _)⟩, fun o ho => (by cases ho), El.O.nil _ _, fun y hy => (by cases hy), h.ql, Nat.zero_le _, Nat.le_succ_of_le h.kk⟩
def StR (σ : Nat → ByteArray) (W : World) (n b gP cP bM k : Nat) (e : Ending) (w' : World) : Prop := e = .returned (.bool true) ∧ ∃ km vW vD L Q D ld M gw dn, Gk σ W n b gP cP bM k km vW vD L Q D ld M gw dn w'
set_option maxRecDepth 100000 in
set_option maxHeartbeats 16000000 in
theorem step_0 {σ : Nat → ByteArray} {W w : World} {n b gP cP bM k km : Nat} {vW vD : Value} {L : List (GP × Px)} {Q : List (GM × GX)} {D : List (GE × GA)} {ld : Int → Int} {M : List (PP × Nat)} {gw : List QM} {dn : List PE} (h : Gk σ W n b gP cP bM k km vW vD L Q D ld M gw dn w) (hn1 : 1 ≤ n) (hn64 : n ≤ 64) (hk : k ≤ 70000) (hσ : σ 0 = ⟨#[]⟩) (A : Act4) (iz : Int) (ma mn : Nat) (hma : bits .and .i64 A.a 65535 = (ma : Int)) (hmn : bits .and .i64 A.n 65535 = (mn : Int)) (hop : A.op = 0) : Calls Tryz.prog 13 #[.pointer (some ⟨b, 0, none⟩), .agg (ac A), .int .i64 iz] w (StR σ W n b gP cP bM (k + 1)) := by
 have hln := h.len
 obtain ⟨q, hqe⟩ : ∃ q : Nat, q = ma % n := ⟨_, rfl⟩
 have hqn : q < n := by rw [hqe]; exact Nat.mod_lt _ (by omega)
 have hqt : (ma : Int).tmod (n : Int) = (q : Int) := by rw [Int.tmod_eq_emod_of_nonneg (by omega)]; omega
 have hqt' : (ma : Int) % (n : Int) = (q : Int) := by omega
 have hn0 : ((n : Int) == 0) = false := beq_eq_false_iff_ne.2 (by omega)
 have hql : q < L.length := by omega
 have hkk := h.kk
 obtain ⟨p, c, x, hsx, hmq⟩ := rl_inj_at h.hM hql
 have HG := jd h
 have HQL : Hid (q < L.length) := jd hql
 have HSX := jd hsx
 have HTk : Hid (∀ w', Gk σ W n b gP cP bM k km vW vD L Q D ld M gw dn w' → Calls Tryz.prog 28 #[.agg (gc (rl n σ p c) x), .int .i64 (mn : Int)] w' fun e w2 => ∃ p1 b1 x1 aO cO O, e = .returned (.tuple #[.agg (gc (rl n σ p1 b1) x1), .slice aO O.length cO, .int .i64 0]) ∧ Sdk σ n k q ld M gw dn w' p1 b1 x1 (.slice aO O.length cO) O w2) := jd (fun w' hw' => tick_sd hw' hn64 (by omega) hσ hql hsx hmq (mn : Int) (by omega))
 obtain ⟨s, hs⟩ : ∃ s, s = rl n σ p c := ⟨_, rfl⟩
 rw [← hs] at HSX HTk
 clear h hln hsx hmq hqe hs
 go_enter Tryz.func13, Tryz.ntmps13
 go_wp2_with (first
  | (refine bx_boxH 45 (.tmp 1) (by exact rfl) (by exact rfl) (ac A) (by exact rfl) ?_; intro b4 w0 hr0 hs0 hb0; have HV := jd ((ju HG).next hb0); have HR4 := jd hr0; have c1 : w0.cell? ⟨b4, 1, none⟩ = some (.int .i64 A.a) := (cell_of hr0).trans rfl; have y0 := (ju HV).gs.c0; clear hr0 hs0 hb0 HG))
 go_quiet (fail)
 have hb1 := (Bel.refl w0).drewN nq
 replace HV := jd ((ju HV).next hb1)
 replace HR4 := jd (hb1.row (ju HR4))
 clear hb1 c1 y0
 generalize w0.drewN nq = w1 at *
 have c0 : w1.cell? ⟨b4, 0, none⟩ = some (.int .i64 A.op) := (cell_of (ju HR4)).trans rfl
 have c2 : w1.cell? ⟨b4, 2, none⟩ = some (.int .i64 A.n) := (cell_of (ju HR4)).trans rfl
 rw [hop] at c0
 go_wp2_with fail
 clear c0 c2
 have hGd := (ju HV).next (Bel.refl w1).drew
 refine wp_region_held_drew (S := fun w => w.heap[b]? = some (.cells (grp n gP cP bM vW vD) 50)) Tryz.follows hGd.gs.box (fun hS => ?_)
 generalize w1.drew = wd at *
 refine any_take (i := 0) (v := .pointer (some ⟨b, 0, none⟩)) rfl (by kernel_rfl) (fun _ _ _ h => h) rfl hS (fun w hw => by go_simp) ?_
 refine any_take (i := 1) (v := .pointer (some ⟨b, 0, none⟩)) rfl (by kernel_rfl) (fun _ _ _ h => h) rfl hS (fun w hw => by go_simp) ?_
 refine any_take (i := 2) (v := .pointer (some ⟨b, 0, none⟩)) rfl (by kernel_rfl) (fun _ _ _ h => h) rfl hS (fun w hw => by go_simp) ?_
 refine any_take (i := 3) (v := .slice (some ⟨gP, 0, none⟩) n cP) rfl (by kernel_rfl) (fun _ _ _ h => h) rfl hS (fun w hw => by have := (cell_of hw : w.cell? ⟨b, 0, none⟩ = _); change w.cell? ⟨b, 0, none⟩ = some (.slice (some ⟨gP, 0, none⟩) n cP) at this; go_simp) ?_
 refine any_take (i := 4) (v := .int .i64 (q : Int)) rfl (by kernel_rfl) (fun _ _ _ h => h) rfl hS (fun w hw => by go_simp) ?_
 refine any_take (i := 5) (v := .pointer (some ⟨b, 0, none⟩)) rfl (by kernel_rfl) (fun _ _ _ h => h) rfl hS (fun w hw => by go_simp) ?_
 refine any_take (i := 6) (v := .pointer (some ⟨b, 0, none⟩)) rfl (by kernel_rfl) (fun _ _ _ h => h) rfl hS (fun w hw => by go_simp) ?_
 refine any_take (i := 7) (v := .pointer (some ⟨b, 0, none⟩)) rfl (by kernel_rfl) (fun _ _ _ h => h) rfl hS (fun w hw => by go_simp) ?_
 refine any_take (i := 8) (v := .slice (some ⟨gP, 0, none⟩) n cP) rfl (by kernel_rfl) (fun _ _ _ h => h) rfl hS (fun w hw => by have := (cell_of hw : w.cell? ⟨b, 0, none⟩ = _); change w.cell? ⟨b, 0, none⟩ = some (.slice (some ⟨gP, 0, none⟩) n cP) at this; go_simp) ?_
 refine any_take (i := 9) (v := .int .i64 (q : Int)) rfl (by kernel_rfl) (fun _ _ _ h => h) rfl hS (fun w hw => by go_simp) ?_
 refine any_take (i := 10) (v := .pointer (some ⟨gP, q * 18, none⟩)) rfl (by kernel_rfl) (fun _ _ _ h => h) rfl hS (fun w hw => by go_simp) ?_
 refine any_take (i := 12) (v := .int .i64 (mn : Int)) rfl (by kernel_rfl) (fun _ _ _ h => h) rfl hS (fun w hw => by go_simp) ?_
 refine any_do (i := 11) (v := .agg (gc s x)) (w' := wd) (by kernel_rfl) rfl rfl (el_ld_run (E := EPg) (.tmp 73) (by exact rfl) gP q (by show _ = Value.pointer (some ⟨gP, q * 18, none⟩); go_simp) hGd.gs.row (ju HQL) Tryz.underlying31 (gc s x) (by rw [ju HSX]; rfl)) ⟨hS, ?_⟩
 refine any_call (i := 13) (by kernel_rfl) rfl rfl (by go_simp) ((ju HTk) wd hGd) ?_
 rintro e w5 ⟨p1, b1, x1, aO, cO, O, rfl, hsd⟩
 have hG5 := hGd.next hsd.bel
 have hS5 : w5.heap[b]? = some (.cells (grp n gP cP bM vW vD) 50) := hG5.gs.box
 refine ⟨_, rfl, hS5, ?_⟩
 refine any_take (i := 14) (v := .tuple #[.agg (gc (rl n σ p1 b1) x1), .slice aO O.length cO, .int .i64 0]) rfl (by kernel_rfl) (fun _ _ _ h => h) rfl hS5 (fun w hw => by go_simp) ?_
 refine any_take (i := 15) (v := .agg (gc (rl n σ p1 b1) x1)) rfl (by kernel_rfl) (fun _ _ _ h => h) rfl hS5 (fun w hw => by go_simp) ?_
 refine any_take (i := 16) (v := .slice aO O.length cO) rfl (by kernel_rfl) (fun _ _ _ h => h) rfl hS5 (fun w hw => by go_simp) ?_
 refine any_take (i := 17) (v := .int .i64 0) rfl (by kernel_rfl) (fun _ _ _ h => h) rfl hS5 (fun w hw => by go_simp) ?_
 refine any_take (i := 18) (v := .pointer (some ⟨gP, q * 18, none⟩)) rfl (by kernel_rfl) (fun _ _ _ h => h) rfl hS5 (fun w hw => by go_simp) ?_
 obtain ⟨gw', hGM⟩ := hGd.put (ju HQL) hsd (hG5.gs.row.put q (ju HQL) (rl n σ p1 b1, x1)) (ch_setCells _ _ _ _)
 refine any_skip (i := 19) (w' := w5.setCells gP (q * EPg.k) (EPg.enc (rl n σ p1 b1, x1))) (by kernel_rfl) rfl rfl (el_st_run (E := EPg) (.tmp 80) (.tmp 77) (by exact rfl) gP q (by show _ = Value.pointer (some ⟨gP, q * 18, none⟩); go_simp) (gc (rl n σ p1 b1) x1) (by go_simp) (rl n σ p1 b1, x1) rfl hG5.gs.row (ju HQL)) ⟨hGM.gs.box, ?_⟩
 have hS6 : (w5.setCells gP (q * EPg.k) (EPg.enc (rl n σ p1 b1, x1))).heap[b]? = some (.cells (grp n gP cP bM vW vD) 50) := hGM.gs.box
 generalize w5.setCells gP (q * EPg.k) (EPg.enc (rl n σ p1 b1, x1)) = w6 at *
 refine any_do (i := 20) (v := .slice aO O.length cO) (w' := w6) (by kernel_rfl) rfl rfl (by go_simp) ⟨hS6, ?_⟩
 refine any_do (i := 21) (v := .int .i64 0) (w' := w6) (by kernel_rfl) rfl rfl (by go_simp) ⟨hS6, ?_⟩
 refine wpAnyH_done (by kernel_rfl) ?_ _
 clear hsd hS hS5 hS6 hGd hG5
 have HM := jd hGM
 clear hGM
 have HQ2 : Hid (q < (L.set q (rl n σ p1 b1, x1)).length) := jd (by simpa using ju HQL)
 have HWL : Hid (Q.length ≤ 300) := jd (ju HM).ql
 have HBS := jd (ju HM).gs.bel.size
 obtain ⟨aW2, cW2, gW2, eW2, _, _, _⟩ := (ju HM).gs.wo.shape
 subst eW2
 have y1 := (ju HM).gs.c1
 simp [Act.put]
 by_cases hl : Q.length < 150
 ·have hli : (Q.length : Int) < 150 := by omega
  go_wp2_with (first
   | (at_builtin; with_reducible refine elq_app (ju HM).gs.wo (ju HBS) (ju HM).oo (ju HM).ol (ju HWL) (.tmp 252) (.tmp 253) ?_ ?_ ?_ ?_ ?_; exact rfl; exact rfl; (first | exact rfl | simp [Act.eval]); (first | exact rfl | simp [Act.eval]); intro a8 c8 w8 ho8 hg8; have HJ := jd (aI ho8 hg8); have HBX := jd (row_grown (ju HM).gs.box (ju HM).gs.wo hg8 (by decide)); have y1 : w8.cell? ⟨b, 1, none⟩ = some (.slice aW2 Q.length cW2) := (cell_of (ju HBX)).trans rfl; have f1 : w8.frozen? ⟨b, 1, none⟩ = false := free_row (ju HBX); clear ho8 hg8)
   | (go_at_call 33; have HK := jd ((ju HM).join hl (ju HJ).1 (ju HJ).2 (w2 := w8.setCell ⟨b, 1, none⟩ (.slice a8 (Q.length + O.length) c8)) (row_set (ju HBX)) (Ch.set (ad := ⟨b, 1, none⟩) (Ch.refl (fun j => j = b) w8) (Or.inl rfl) _)); refine ((ju HK).held (by omega) (by omega) hn64 (by omega) (ju HQ2)).mono ?_; rintro e wz ⟨rfl, hgz⟩; have HF := jd hgz; clear hgz))
  go_ret
  obtain ⟨vD', D', ld', km', dn', hf⟩ := ju HF
  exact ⟨rfl, _, _, _, _, _, _, _, _, _, _, hf⟩
 ·have hli : ¬ ((Q.length : Int) < 150) := by omega
  have HK := jd (ju HM).skip
  go_wp2_with (first
   | (go_at_call 33; refine ((ju HK).held (by omega) (by omega) hn64 (by omega) (ju HQ2)).mono ?_; rintro e wz ⟨rfl, hgz⟩; have HF := jd hgz; clear hgz))
  go_ret
  obtain ⟨vD', D', ld', km', dn', hf⟩ := ju HF
  exact ⟨rfl, _, _, _, _, _, _, _, _, _, _, hf⟩
theorem Gk.later {σ : Nat → ByteArray} {W w : World} {n b gP cP bM k km : Nat} {vW vD : Value} {L : List (GP × Px)} {Q : List (GM × GX)} {D : List (GE × GA)} {ld : Int → Int} {M : List (PP × Nat)} {gw : List QM} {dn : List PE} (h : Gk σ W n b gP cP bM k km vW vD L Q D ld M gw dn w) : Gk σ W n b gP cP bM (k + 1) km vW vD L Q D ld M gw dn w :=
 ⟨h.gs, h.hM, h.al.mono (Nat.le_succ _) (Nat.le_succ _), h.hD, h.hb, h.hd, fun o ho => by
  obtain ⟨r, r1, r2⟩ := h.wq o ho
  exact ⟨r, r1, r2.mono (Nat.le_succ _) (Nat.le_succ _) (List.prefix_refl _)⟩, h.ql, Nat.le_succ_of_le h.kk⟩
theorem Gk.lost {σ : Nat → ByteArray} {W w : World} {n b gP cP bM k km : Nat} {vW vD : Value} {L : List (GP × Px)} {Q : List (GM × GX)} {D : List (GE × GA)} {ld : Int → Int} {M : List (PP × Nat)} {gw : List QM} {dn : List PE} {vW' : Value} {Q' : List (GM × GX)} {w' : World} (h : Gk σ W n b gP cP bM k km vW vD L Q D ld M gw dn w) (he : ∀ o ∈ Q', o ∈ Q) (hl : Q'.length ≤ 300) (hO : EMg.O W.heap.size w vW' Q') (hr : w'.heap[b]? = some (.cells (grp n gP cP bM vW' vD) 50)) (hc : Ch (fun j => j = b) w w') : Gk σ W n b gP cP bM k km vW' vD L Q' D ld M gw dn w' :=
 ⟨h.gs.setW hO he hr hc, h.hM, h.al, h.hD, h.hb, h.hd, fun o ho => h.wq o (he o ho), hl, h.kk⟩
set_option maxRecDepth 100000 in
set_option maxHeartbeats 16000000 in
theorem step_e {σ : Nat → ByteArray} {W w : World} {n b gP cP bM k km : Nat} {vW vD : Value} {L : List (GP × Px)} {Q : List (GM × GX)} {D : List (GE × GA)} {ld : Int → Int} {M : List (PP × Nat)} {gw : List QM} {dn : List PE} (h : Gk σ W n b gP cP bM k km vW vD L Q D ld M gw dn w) (hn1 : 1 ≤ n) (hn64 : n ≤ 64) (hk : k ≤ 70000) (hσ : σ 0 = ⟨#[]⟩) (A : Act4) (iz : Int) (ma mn : Nat) (hma : bits .and .i64 A.a 65535 = (ma : Int)) (hmn : bits .and .i64 A.n 65535 = (mn : Int)) (hop : A.op = 1 ∨ A.op = 2) (hQ : Q.length = 0) : Calls Tryz.prog 13 #[.pointer (some ⟨b, 0, none⟩), .agg (ac A), .int .i64 iz] w (StR σ W n b gP cP bM (k + 1)) := by
 have _ := hk
 have _ := hσ
 obtain ⟨qa, hqa⟩ : ∃ qa : Nat, qa = ma % n := ⟨_, rfl⟩
 have hqt : (ma : Int).tmod (n : Int) = (qa : Int) := by rw [Int.tmod_eq_emod_of_nonneg (by omega)]; omega
 have hqt' : (ma : Int) % (n : Int) = (qa : Int) := by omega
 have hn0 : ((n : Int) == 0) = false := beq_eq_false_iff_ne.2 (by omega)
 obtain ⟨aW, cW, gW, eW, _, _, _⟩ := h.gs.wo.shape
 rw [hQ] at eW
 subst eW
 have HG := jd h
 clear h hqa
 rcases hop with hop | hop
 all_goals
  go_enter Tryz.func13, Tryz.ntmps13
  go_wp2_with (first
   | (refine bx_boxH 45 (.tmp 1) (by exact rfl) (by exact rfl) (ac A) (by exact rfl) ?_; intro b4 w0 hr0 hs0 hb0; have HV := jd ((ju HG).next hb0); have HR4 := jd hr0; have c1 : w0.cell? ⟨b4, 1, none⟩ = some (.int .i64 A.a) := (cell_of hr0).trans rfl; have y0 := (ju HV).gs.c0; clear hr0 hs0 hb0 HG))
  go_quiet (fail)
  have hb1 := (Bel.refl w0).drewN nq
  replace HV := jd ((ju HV).next hb1)
  replace HR4 := jd (hb1.row (ju HR4))
  clear hb1 c1 y0
  generalize w0.drewN nq = w1 at *
  have c0 : w1.cell? ⟨b4, 0, none⟩ = some (.int .i64 A.op) := (cell_of (ju HR4)).trans rfl
  have c2 : w1.cell? ⟨b4, 2, none⟩ = some (.int .i64 A.n) := (cell_of (ju HR4)).trans rfl
  rw [hop] at c0
  have y1 := (ju HV).gs.c1
  go_wp2_with fail
  go_ret
  exact ⟨rfl, _, _, _, _, _, _, _, _, _, _, (ju HV).later⟩
section
variable {o : Oper} {a : Act} {w : World}
theorem app_run47 (x y : Operand) (ho : o.op = .call { callee := .builtin .append, args := #[x, y], argTypes := #[47, 47] }) {v1 v2 v' : Value} {w' : World} (hs : a.eval x = v1) (hy : a.eval y = v2) (hrun : (Builtin.append_ #[47, 47] o.type #[v1, v2]).run Tryz.prog w = .ok v' w') : (execOp a.eval o).run Tryz.prog w = .ok (.value v') w' := by
 unfold execOp
 simp only [ho, resolve, invoke, builtin, Sem.run_bind, Sem.run_pure, Result.andThen_ok, List.map_toArray, List.map_cons, List.map_nil, hs, hy, hrun]
set_option maxRecDepth 100000 in
theorem sl_lo_run (x y : Operand) (ho : o.op = .slice 47 x none (some y) none) (g m c r : Nat) (hx : a.eval x = .slice (some ⟨g, 0, none⟩) m c) (hy : a.eval y = .int .i64 (r : Int)) (hr : r ≤ c) : (execOp a.eval o).run Tryz.prog w = .ok (.value (.slice (some ⟨g, 0, none⟩) r c)) w := by
 have hr' : (r : Int) ≤ c := by omega
 unfold execOp
 simp only [ho, hx, Option.map_some, Option.map_none, hy]
 go_simp
set_option maxRecDepth 100000 in
theorem sl_hi_run (x y : Operand) (ho : o.op = .slice 47 x (some y) none none) (g m c r : Nat) (hx : a.eval x = .slice (some ⟨g, 0, none⟩) m c) (hy : a.eval y = .int .i64 (r : Int)) (hr : r ≤ m) (hm : m ≤ c) : (execOp a.eval o).run Tryz.prog w = .ok (.value (.slice (if c = r then some ⟨g, 0, none⟩ else some ⟨g, r * 12, none⟩) (m - r) (c - r))) w := by
 have hr' : (r : Int) ≤ m := by omega
 have hm' : (m : Int) ≤ c := by omega
 have hrc : (r : Int) ≤ c := by omega
 unfold execOp
 simp only [ho, hx, Option.map_some, Option.map_none, hy]
 go_simp
end
section
variable {σ : Nat → ByteArray} {W w : World} {n b gP cP bM k km gW cW r : Nat} {vD : Value} {L : List (GP × Px)} {Q : List (GM × GX)} {D : List (GE × GA)} {ld : Int → Int} {M : List (PP × Nat)} {gw : List QM} {dn : List PE}
theorem rem_q (h : Gk σ W n b gP cP bM k km (.slice (some ⟨gW, 0, none⟩) Q.length cW) vD L Q D ld M gw dn w) (hr : r < Q.length) : ∃ v1 w1 a2 l2 c2 w2, (Builtin.append_ #[47, 47] 47 #[.slice none 0 0, .slice (some ⟨gW, 0, none⟩) r cW]).run Tryz.prog w = .ok v1 w1 ∧ (Builtin.append_ #[47, 47] 47 #[v1, .slice (if cW = r + 1 then some ⟨gW, 0, none⟩ else some ⟨gW, (r + 1) * 12, none⟩) (Q.length - (r + 1)) (cW - (r + 1))]).run Tryz.prog w1 = .ok (.slice a2 l2 c2) w2 ∧ Bel w w1 ∧ Bel w w2 ∧ EMg.O W.heap.size w2 (.slice a2 l2 c2) (Q.take r ++ Q.drop (r + 1)) := by
 have hO := h.gs.wo
 have hc := (Sl.of hO).2.2
 have hql := h.ql
 have l1 : (Q.take r).length = r := by rw [List.length_take]; omega
 have l2 : (Q.drop (r + 1)).length = Q.length - (r + 1) := by rw [List.length_drop]
 obtain ⟨v1, w1, hr1, ho1, hg1, _⟩ := El.run_app (E := EMg) w w.heap.size (.slice none 0 0) [] (Q.take r) (El.O.nil _ _) (Nat.le_refl _) (some ⟨gW, 0, none⟩) gW 0 cW (fun _ => rfl) (hO.row.take r) (by simp; omega) 47
 have hb1 : Bel w w1 := ((Ch.refl (fun i => w.heap.size ≤ i) w).grown hg1 (fun i hi => by cases hi)).below (Nat.le_refl _) (fun _ hi => hi)
 rw [l1] at hr1
 have hR : Sl EMg w1 (if cW = r + 1 then some ⟨gW, 0, none⟩ else some ⟨gW, (r + 1) * 12, none⟩) (Q.drop (r + 1)) := by
  by_cases e : cW = r + 1
  ·rw [List.drop_of_length_le (by omega)]
   exact Sl.nil _ _ _
  ·rw [if_neg e]
   refine ⟨gW, (r + 1) * 12, fun _ => rfl, ?_⟩
   have := (hO.row.drop (r + 1)).bel hb1
   rw [Nat.zero_add] at this
   exact this
 obtain ⟨g2, off2, ha2, hR2⟩ := hR
 obtain ⟨v2, w2, hr2, ho2, hg2, _⟩ := El.run_app (E := EMg) w1 w.heap.size v1 ([] ++ Q.take r) (Q.drop (r + 1)) ho1 hb1.size (if cW = r + 1 then some ⟨gW, 0, none⟩ else some ⟨gW, (r + 1) * 12, none⟩) g2 off2 (cW - (r + 1)) ha2 hR2 (by simp; omega) 47
 have hb2 : Bel w w2 := ((hb1.ch (fun i => w.heap.size ≤ i)).grown hg2 (fun i hi => Or.inl (ho1.lt hi).1)).below (Nat.le_refl _) (fun _ hi => hi)
 rw [l2] at hr2
 obtain ⟨a2, c2, g3, e, _⟩ := ho2.shape
 subst e
 exact ⟨v1, w1, a2, _, c2, w2, hr1, hr2, hb1, hb2, by rw [List.nil_append] at ho2; exact ho2.mono h.gs.bel.size⟩
theorem Gk.gone (h : Gk σ W n b gP cP bM k km (.slice (some ⟨gW, 0, none⟩) Q.length cW) vD L Q D ld M gw dn w) {w2 : World} (hb : Bel w w2) {v2 : Value} (hO : EMg.O W.heap.size w2 v2 (Q.take r ++ Q.drop (r + 1))) : Gk σ W n b gP cP bM k km v2 vD L (Q.take r ++ Q.drop (r + 1)) D ld M gw dn (w2.setRow b (grp n gP cP bM v2 vD)) := by
 have h2 := h.next hb
 have hc := ch_row (c' := grp n gP cP bM v2 vD) h2.gs.box
 refine h2.lost (fun o ho => ?_) ?_ hO hc.1 hc.2
 ·rcases List.mem_append.1 ho with h1 | h1
  ·exact List.mem_of_mem_take h1
  ·exact List.mem_of_mem_drop h1
 ·have := h.ql
  simp
  omega
end
section
variable {ops : Array Oper} {rest : List Oper} {o : Oper} {a : Act} {Q : Exit → Act → World → Prop} {W : World}
theorem elq_ld (x : Operand) (g i : Nat) (m : GM × GX) {base cap l : Nat} {L : List (GM × GX)} (h : EMg.O base W (.slice (some ⟨g, 0, none⟩) l cap) L) (hi : i < L.length) (e : L[i] = m) (hgd : o.guard = none) (ho : o.op = .load 87 x) (hx : a.eval x = .pointer (some ⟨g, i * 12, none⟩))
  (hK : wpList Tryz.prog ops Q rest (a.put o.dst (.agg (mg m.1 m.2))) W) : wpList Tryz.prog ops Q (o :: rest) a W := el_ld hgd x ho g i hx h hi Tryz.underlying87 (mg m.1 m.2) (by rw [e]; rfl) hK
theorem bxq_new (hgd : o.guard = none) (ho : o.op = .alloc 87)
  (hK : ∀ b w', w'.heap[b]? = some (.cells (mg gz gzx) 87) → W.heap.size = b → Bel W w' → wpList Tryz.prog ops Q rest (a.put o.dst (.pointer (some ⟨b, 0, none⟩))) w') : wpList Tryz.prog ops Q (o :: rest) a W := bx_new hgd 87 ho _ zeroM hK
theorem bxq_st (x y : Operand) (b : Nat) (m : GM) (z : GX) {m2 : GM} {z2 : GX} (hg : W.heap[b]? = some (.cells (mg m2 z2) 87)) (hgd : o.guard = none) (ho : o.op = .store 87 x y) (hx : a.eval x = .pointer (some ⟨b, 0, none⟩)) (hy : a.eval y = .agg (mg m z))
  (hK : ∀ w', w'.heap[b]? = some (.cells (mg m z) 87) → Ch (fun k => k = b) W w' → wpList Tryz.prog ops Q rest (a.put o.dst undef) w') : wpList Tryz.prog ops Q (o :: rest) a W := bx_st hgd 87 x y ho b (mg m z) _ hx hy hg (szM _ _) rfl (mg_one _ _) hK
end
theorem Gk.to {σ : Nat → ByteArray} {W w : World} {n b gP cP bM k km : Nat} {vW vD : Value} {L : List (GP × Px)} {Q : List (GM × GX)} {D : List (GE × GA)} {ld : Int → Int} {M : List (PP × Nat)} {gw : List QM} {dn : List PE} (h : Gk σ W n b gP cP bM k km vW vD L Q D ld M gw dn w) {o : GM × GX} (ho : o ∈ Q) : 1 ≤ o.1.to ∧ o.1.to ≤ n := by
 obtain ⟨r, r1, r2⟩ := h.wq o ho
 rcases r2 with ⟨e, hsh⟩ | ⟨c, _, _, _, _, h5, h6⟩
 ·rw [e]
  rcases hsh with ⟨hkd, hpq⟩ | hq
  ·obtain ⟨g, hg⟩ := h.al
   have := (hg.inv.msg r.p (by
    unfold pm
    exact List.mem_map.2 ⟨r, List.mem_filter.2 ⟨r1, by rcases hkd with h' | h' <;> simp [h']⟩, rfl⟩)).t
   exact this
  ·exact hq.t
 ·rw [h6]; exact h5.t
end Go.Proofs.YthekbhliokcpcaaGreat
