/- alive of the law of trimmed logs. -/
import Derived.Test.YtphiigejlfoinaaGreatLsm
import Derived.Test.YtphiigejlfoinaaGreatNeg
import Derived.Test.YtphiigejlfoinaaGreatGpl
namespace Go.Proofs.YtphiigejlfoinaaGreat
open Go.RowKit Go.Maps Go.Sort
/-- A group of one, behind its first tick. -/
def mA1 : PP := ⟨1, 1, 1, 2, 1, 2, 10, [noop 1], [], [], 0⟩
def mB1 : PP := ⟨1, 1, 1, 2, 1, 2, 10, [noop 1], [], [], 1⟩
theorem tick_1 : (pnew 1 1).tick 1 0 = (mA1, []) := by rfl
theorem adv_1 : mA1.adv = mB1 := by rfl
theorem lg_1 : Lg 1 [noop 1] := ⟨by simp, fun x hx => by
  rw [List.mem_singleton.1 hx]; exact ⟨⟨by decide, by decide⟩, Or.inr ⟨rfl, rfl⟩⟩⟩
theorem ok_s1 : Ok 1 1 1 mA1 := ⟨by decide, by decide, by decide, by decide, by decide, by decide, by decide, by decide, lg_1, by decide, by decide, List.Pairwise.nil, (fun x hx => by cases hx), Or.inr (Or.inr ⟨rfl, rfl, by decide, rfl, by decide, by decide, (fun f hf => by cases hf)⟩)⟩
theorem ok_q1 : Ok 1 1 1 mB1 := ⟨by decide, by decide, by decide, by decide, by decide, by decide, by decide, by decide, lg_1, by decide, by decide, List.Pairwise.nil, (fun x hx => by cases hx), Or.inr (Or.inr ⟨rfl, rfl, by decide, rfl, by decide, by decide, (fun f hf => by cases hf)⟩)⟩
theorem Pf.low {base : Nat} {W : World} {n : Nat} {s : PP} {x : Px} (hf : Pf base W n s x) : Pf 0 W n s x := ⟨hf.m.mono (Nat.zero_le _), hf.b.mono (Nat.zero_le _), hf.l.mono (Nat.zero_le _), hf.v.mono (Nat.zero_le _), hf.f.mono (Nat.zero_le _), hf.dv⟩
theorem new_1 (W' : World) : Calls Tryz.prog 11 #[.int .i64 1, .int .i64 1, .slice (some ⟨W'.heap.size, 0, none⟩) 1 1] (W'.alloc (.cells #[.int .i64 1] 3)) fun e w' => ∃ x', e = .returned (.tuple #[.agg (pc 1 (pnew 1 1) x'), .int .i64 0]) ∧ Pf 0 w' 1 (pnew 1 1) x' ∧ Bel W' w' :=
  (new_any (n := 1) (id := 1) (wait := 1) (sl_new3 W' [1]) (by decide) (by decide) (by decide)).mono (fun _ _ ⟨x', he, hf, hb⟩ => ⟨x', he, hf.low, ((Bel.refl W').alloc _).trans hb⟩)
theorem ltick_1 (W' : World) (x' : Px) (hp : Pf 0 W' 1 (pnew 1 1) x') : Calls Tryz.prog 12 #[.agg (pc 1 (pnew 1 1) x'), .int .i64 0] W' fun e w' => ∃ x2 aA cA, e = .returned (.tuple #[.agg (pc 1 mB1 x2), .slice aA 0 cA, .int .i64 0]) ∧ Pf 0 w' 1 mB1 x2 ∧ Bel W' w' := by
  have := ltick_win hp.pq (pnew_ok (n := 1) (id := 1) (wait := 1) (by decide) (by decide)) (by decide) (by decide) (by decide) 0 (by decide) (by decide) tick_1 ok_s1 (by decide) rfl
  rw [adv_1] at this
  exact this.mono (fun _ _ ⟨x2, aA, cA, he, hf, hb⟩ => ⟨x2, aA, cA, he, hf.low, hb⟩)
/-- A member of a group of n, as any. -/
def PP.g (n : Nat) (s : PP) : GP := ⟨s.id, mem n, s.term, s.vote, s.role, s.lead, 0, 0, mem n, ⟨#[]⟩, s.log.map (fun e => ⟨e.t, e.k, e.d, []⟩), s.commit, s.idle, s.wait, s.votes, s.fol, 0, []⟩
theorem pc_gc (n : Nat) (s : PP) (x : Px) : pc n s x = gc (s.g n) x := by
  unfold pc gc PP.g
  simp [mem_len]
theorem gp_of {base : Nat} {W : World} {n : Nat} {s : PP} {x : Px} (h : Pf base W n s x) : Gp W (s.g n) x := by
  refine ⟨(Sl.of h.m).1, (Sl.of h.b).1, ?_, (Sl.of h.v).1, (Sl.of h.f).1, ⟨[], rfl, Sl.nil _ _ _, fun x hx => by cases hx⟩⟩
  obtain ⟨g, off, ha, hR⟩ := (Sl.of h.l).1
  refine ⟨s.log.map (fun e => (⟨e.t, e.k, e.d, []⟩, ⟨none, 0⟩)), by rw [List.map_map]; rfl, ⟨g, off, fun h0 => ha (by simpa using h0), fun j hj c u hu => ?_⟩, fun y hy => ?_⟩
  · have hj' : j < s.log.length := by simpa using hj
    rw [List.getElem_map] at hu
    exact hR j hj' c u hu
  · obtain ⟨e, _, rfl⟩ := List.mem_map.1 hy
    exact Sl.nil _ _ _
/-- The one, as any. -/
def gB1 : GP := mB1.g 1
theorem gB1_eq : gB1 = ⟨1, [1], 1, 1, 2, 1, 0, 0, [1], ⟨#[]⟩, [⟨1, 1, ⟨#[]⟩, []⟩], 1, 2, 10, [], [], 0, []⟩ := rfl
def ds : ByteArray := ⟨#[115]⟩
theorem gB1_cmp : cmpB gB1 1 = true := by
  rw [gB1_eq]
  simp [cmpB, mayG, numB, logB, memB, rolB, leadB, folB, folsB, reaB, reasB, othG, idB, noneB, aids, mayEs, mayE, memOf, GP.lastI, ByteArray.toList_eq]
  omega
theorem gB1_ck : Ck gB1 1 1 := by
  have := ck_of gB1_cmp (by rw [gB1_eq]; decide)
  exact this
theorem gB1_gz (x : Px) (hc : 1 ≤ x.cL) : Gz gB1 x := by
  rw [gB1_eq]
  refine ⟨by decide, by decide, by decide, by decide, by decide, by decide, by decide, by decide, by decide, ?_, ?_, by decide, ?_, by decide, ?_, hc⟩
  · intro e he; simp at he; rw [he]; decide
  · intro e he; simp at he; rw [he]; decide
  · intro e he; simp at he
  · intro e he; simp at he
/-- Behind the cut. -/
def gR1 (d : ByteArray) : GP := gB1.trimTo 1 d
theorem gR1_eq (d : ByteArray) : gR1 d = ⟨1, [1], 1, 1, 2, 1, 1, 1, [1], d, [], 1, 2, 10, [], [], 0, []⟩ := rfl
theorem gR1_no (d : ByteArray) : cmpB (gR1 d) 1 = false := by
  unfold cmpB
  rw [gR1_eq]
  simp
set_option maxRecDepth 100000 in
theorem tick_t (W' : World) (x' : Px) (hp : Pf 0 W' 1 (pnew 1 1) x') : Calls Tryz.prog 12 #[.agg (pc 1 (pnew 1 1) x'), .int .i64 0] W' fun e w' => ∃ x2 aA cA, e = .returned (.tuple #[.agg (gc gB1 x2), .slice aA 0 cA, .int .i64 0]) ∧ Gp w' gB1 x2 ∧ 1 ≤ x2.cL ∧ Bel W' w' :=
  (ltick_1 W' x' hp).mono (fun e w' ⟨x2, aA, cA, he, hf, hb⟩ => ⟨x2, aA, cA, by rw [he, pc_gc]; rfl, gp_of hf, (Sl.of hf.l).2.2, hb⟩)
theorem cut_t (W' : World) (x' : Px) (d : ByteArray) (hd : d.size ≤ 1044480) (hp : Gp W' gB1 x') (hc : 1 ≤ x'.cL) : Calls Tryz.prog 13 #[.agg (gc gB1 x'), .int .u64 1, .string d] W' fun e w' => ∃ x2, e = .returned (.tuple #[.agg (gc (gR1 d) x2), .int .i64 0]) ∧ Gp w' (gR1 d) x2 ∧ Bel W' w' :=
  (compact_yes hp (gB1_gz x' hc) 1 (by decide) d gB1_cmp hd).mono (fun e w' ⟨x2, he, hg, _, hb⟩ => ⟨x2, he, hg.gp, hb⟩)
theorem cut_z (W' : World) (x' : Px) (d : ByteArray) (hd : 1044480 < d.size) (hp : Gp W' gB1 x') (hc : 1 ≤ x'.cL) : Calls Tryz.prog 13 #[.agg (gc gB1 x'), .int .u64 1, .string d] W' fun e w' => e = .returned (.tuple #[.agg (gc g0 y0), .int .i64 4]) ∧ Bel W' w' :=
  compact_long hp (gB1_gz x' hc) 1 d gB1_cmp hd
theorem cut_n (W' : World) (x' : Px) (d d2 : ByteArray) (hp : Gp W' (gR1 d) x') : Calls Tryz.prog 13 #[.agg (gc (gR1 d) x'), .int .u64 1, .string d2] W' fun e w' => e = .returned (.tuple #[.agg (gc g0 y0), .int .i64 2]) ∧ Bel W' w' :=
  compact_no hp (gB1_ck.gz (gB1_gz ⟨none, 0, none, 0, none, 1, none, 0, none, 0, none, 0⟩ (by decide)) d (by show (gR1 d).log.length ≤ _; rw [gR1_eq]; exact Nat.zero_le _)) 1 d2 (gR1_no d)
set_option maxRecDepth 100000 in
set_option maxHeartbeats 8000000 in
theorem alive_t {W : World} : Calls Tryz.prog 14 #[] W fun e w' => e = .returned (.bool true) ∧ Bel W w' := by
  have HN := hide new_1
  have HT := hide tick_t
  have HC := hide (fun W' x' => cut_t W' x' ds (by decide))
  have HD := hide (fun W' x' => cut_n W' x' ds ds)
  obtain ⟨r1, hr1⟩ : ∃ r1, r1 = gR1 ds := ⟨_, rfl⟩
  rw [← hr1] at HC HD
  have HR : Hid (r1.base = 1 ∧ r1.snap = ⟨#[115]⟩ ∧ r1.log.length = 0) := hide (by rw [hr1, gR1_eq]; exact ⟨rfl, rfl, rfl⟩)
  rw [show ds = ⟨#[115]⟩ from rfl] at HC HD
  clear hr1
  generalize gB1 = gB at *
  go_enter Tryz.func14, Tryz.ntmps14
  go_wp2_with (first
    | go_skip
    | (refine bx_ldK 31 (.tmp 1) (by exact rfl) _ (by exact rfl) (by exact rfl) (pc 1 (pnew 1 1) x1) _ (unhide HR1) Tryz.underlying31 (Tryz.size32 _ _ _) ?_)
    | (refine bx_ldK 31 (.tmp 3) (by exact rfl) _ (by exact rfl) (by exact rfl) (gc gB x2) _ (unhide HR3) Tryz.underlying31 (Tryz.sizeP _ _) ?_)
    | (refine bx_ldK 31 (.tmp 6) (by exact rfl) _ (by exact rfl) (by exact rfl) (gc r1 x3) _ (unhide HR6) Tryz.underlying31 (Tryz.sizeP _ _) ?_)
    | go_guarded
    | (go_at_call 11; refine ((unhide HN) _).mono ?_; rintro e w1 ⟨x1, rfl, hp1, hb1⟩; have HP := hide hp1; have HB := hide hb1; clear hp1 hb1)
    | (refine bx_new rfl 31 rfl _ Tryz.zeroP ?_; intro b w4 hr4 hs4 hb4; have HQ := hide (And.intro hr4 (And.intro hs4 hb4)); clear hr4 hs4 hb4)
    | (refine bx_st rfl 31 (.tmp 1) _ rfl b (pc 1 (pnew 1 1) x1) _ rfl rfl (unhide HQ).1 (Tryz.size32 _ _ _) rfl (pc_one _ _ _) ?_; intro w5 hr5 hc5; have hbb := bel_off (unhide HQ).2.2 hc5 (Nat.le_of_eq (unhide HQ).2.1); have HR1 := hide hr5; have HP := hide ((unhide HP).bel hbb); have HB := hide ((unhide HB).trans hbb); clear hr5 hc5 hbb)
    | (go_at_call 12; refine ((unhide HT) _ _ (unhide HP)).mono ?_; rintro e w2 ⟨x2, aA, cA, rfl, hp2, hc2, hb2⟩; have HP2 := hide (And.intro hp2 hc2); have HB := hide ((unhide HB).trans hb2); clear hp2 hc2 hb2)
    | (refine bx_st rfl 31 (.tmp 3) _ rfl b (gc gB x2) _ rfl rfl (unhide HQ).1 (Tryz.sizeP _ _) rfl (gc_one _ _) ?_; intro w5 hr5 hc5; have hbb := bel_off (unhide HQ).2.2 hc5 (Nat.le_of_eq (unhide HQ).2.1); have HR3 := hide hr5; have HP2 := hide (And.intro ((unhide HP2).1.bel hbb) (unhide HP2).2); have HB := hide ((unhide HB).trans hbb); clear hr5 hc5 hbb)
    | (go_at_call 13; refine ((unhide HC) _ _ (unhide HP2).1 (unhide HP2).2).mono ?_; rintro e w3 ⟨x3, rfl, hg3, hb3⟩; have HP3 := hide hg3; have HB := hide ((unhide HB).trans hb3); clear hg3 hb3 HC)
    | (refine bx_st rfl 31 (.tmp 6) _ rfl b (gc r1 x3) _ rfl rfl (unhide HQ).1 (Tryz.sizeP _ _) rfl (gc_one _ _) ?_; intro w6 hr6 hc6; have hbb := bel_off (unhide HQ).2.2 hc6 (Nat.le_of_eq (unhide HQ).2.1); have HR6 := hide hr6; have HP3 := hide ((unhide HP3).bel hbb); have HB := hide ((unhide HB).trans hbb); clear hr6 hc6 hbb)
    | (go_at_call 13; refine ((unhide HD) _ _ (unhide HP3)).mono ?_; rintro e w7 ⟨rfl, hb7⟩; have HR6 := hide (hb7.row (unhide HR6)); have HB := hide ((unhide HB).trans hb7); clear hb7)
    | (refine bx_st rfl 31 (.tmp 8) _ rfl b (gc g0 y0) _ rfl rfl (unhide HQ).1 (Tryz.sizeP _ _) rfl (gc_one _ _) ?_; intro w8 hr8 hc8; have hbb := bel_off (unhide HQ).2.2 hc8 (Nat.le_of_eq (unhide HQ).2.1); have z6 := (Bg.of (hbb.row (unhide HR6))).c6; have z9 := (Bg.of (hbb.row (unhide HR6))).c9; have z10 := (Bg.of (hbb.row (unhide HR6))).c10; rw [(unhide HR).1] at z6; rw [(unhide HR).2.1] at z9; rw [(unhide HR).2.2] at z10; have HB := hide ((unhide HB).trans hbb); clear hr8 hc8 hbb))
  go_ret
  exact ⟨rfl, unhide HB⟩
end Go.Proofs.YtphiigejlfoinaaGreat
