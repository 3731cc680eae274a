/- vote.New of any members. alive of the law of seats: a group of one that gets a second member. alive of the law of seats. -/
import Derived.Test.YthekbhliokcpcaaGreatNiv
import Derived.Test.YthekbhliokcpcaaGreatNad
import Derived.Test.YthekbhliokcpcaaGreatLsm
import Derived.Test.YthekbhliokcpcaaGreatNeg
namespace Go.Proofs.YthekbhliokcpcaaGreat
open Go.RowKit Go.Maps Go.Sort
/-- A new member. -/
def gnew (id wait : Int) (l : List Int) : GP := ⟨id, l, 0, 0, 0, 0, 0, 0, l, ⟨#[]⟩, [], 0, 0, wait, [], [], 0, []⟩
def xnw (a : Option Addr) (c : Nat) : Px := ⟨a, c, a, c, none, 0, none, 0, none, 0, none, 0⟩
theorem gnew_gz (id wait : Int) (l : List Int) (hl : l.length ≤ 17592186044416) (x : Px) : Gz (gnew id wait l) x := by
  have z : (0 : Int) ≤ 0 ∧ (0 : Int) ≤ 18446744073709551615 := by decide
  exact ⟨z, z, z, z, z, hl, hl, Nat.zero_le _, Nat.zero_le _, (fun e he => by cases he), (fun e he => by cases he), Nat.zero_le _, (fun e he => by cases he), Nat.zero_le _, (fun e he => by cases he), Nat.zero_le _⟩
structure NwS (W w : World) (b b2 : Nat) (s : GP) (x : Px) : Prop where
  row : w.heap[b]? = some (.cells (gc s x) 31)
  pg : Pg W.heap.size w s x
  bel : Bel W w
  row2 : w.heap[b2]? = some (.cells (gc g0 y0) 31)
  ge : W.heap.size ≤ b
  ge2 : W.heap.size ≤ b2
  ne : b ≠ b2
set_option maxRecDepth 100000 in
set_option maxHeartbeats 4000000 in
theorem new_g {W : World} {a : Option Addr} {c : Nat} {l : List Int} {id wait : Int} (h : Sl E3 W a l) (hl : l.length ≤ 1000000) : Calls Tryz.prog 17 #[.int .i64 id, .int .i64 wait, .slice a l.length c] W fun e w' => ((mayG (gnew id wait l) = true ∧ ∃ x', e = .returned (.tuple #[.agg (gc (gnew id wait l) x'), .int .i64 0]) ∧ Pg W.heap.size w' (gnew id wait l) x') ∨ (mayG (gnew id wait l) = false ∧ e = .returned (.tuple #[.agg (gc g0 y0), .int .i64 2]))) ∧ Bel W w' := by
  have hg : ∀ W', Bel W W' → Gp W' (gnew id wait l) (xnw a c) := fun W' hb => ⟨h.bel hb, h.bel hb, ⟨[], rfl, Sl.nil _ _ _, fun x hx => by cases hx⟩, Sl.nil _ _ _, Sl.nil _ _ _, ⟨[], rfl, Sl.nil _ _ _, fun x hx => by cases hx⟩⟩
  have H2 : Hid (∀ W', Bel W W' → Calls Tryz.prog 41 #[.agg (gc (gnew id wait l) (xnw a c))] W' fun e w' => ∃ x', e = .returned (.agg (gc (gnew id wait l) x')) ∧ Pg W.heap.size w' (gnew id wait l) x' ∧ Bel W' w') := hide (fun W' hb => (clone_g (hg W' hb) (by show l.length ≤ _; omega) (by show l.length ≤ _; omega) (Nat.zero_le _) (fun e he => by cases he) (Nat.zero_le _) (Nat.zero_le _) (Nat.zero_le _) (fun e he => by cases he)).mono (fun _ _ ⟨x', he, hp, hb'⟩ => ⟨x', he, hp.mono hb.size, hb'⟩))
  have H1 : Hid (∀ W' x', Gp W' (gnew id wait l) x' → Calls Tryz.prog 42 #[.agg (gc (gnew id wait l) x')] W' fun e w' => e = .returned (.int .i64 (if mayG (gnew id wait l) then 0 else 2)) ∧ Bel W' w') := hide (fun W' x' hp => may_g hp (gnew_gz id wait l (by omega) x'))
  clear h hl hg
  have HX : Hid ((#[.int .i64 id, .slice a l.length c, .int .u64 0, .int .i64 0, .int .u8 0, .int .i64 0, .int .u64 0, .int .u64 0, .slice a l.length c, .string ⟨#[]⟩, .slice none 0 0, .int .u64 0, .int .i64 0, .int .i64 wait, .slice none 0 0, .slice none 0 0, .int .u64 0, .slice none 0 0] : Array Value) = gc (gnew id wait l) (xnw a c)) := hide rfl
  generalize hgn : gnew id wait l = gn at *
  generalize xnw a c = xn at *
  generalize l.length = n at *
  clear hgn
  cases hm : mayG gn with
  | true =>
    rw [hm, if_pos rfl] at H1
    clear hm
    go_enter Tryz.func17, Tryz.ntmps17
    go_wp2_with (first
      | go_skip
      | (refine bx_new rfl 31 rfl _ Tryz.zeroP ?_; intro b w2 hr2 hs2 hb2; have HA := hide (And.intro hr2 (And.intro (hb2.row (unhide HR1).1) (And.intro ((unhide HR1).2.1.trans hb2) (And.intro (show W.heap.size ≤ b by have := (unhide HR1).2.1.size; omega) (And.intro (show W.heap.size ≤ b2 by have := (unhide HR1).2.2; omega) (show b ≠ b2 from fun e => by have := lt_of_some (unhide HR1).1; omega)))))); have HG := hide ((unhide HG3).bel hb2); clear hr2 hs2 hb2 HR1 HG3)
      | (refine bx_new rfl 31 rfl _ Tryz.zeroP ?_; intro b2 w1 hr1 hs1 hb1; have HR1 := hide (And.intro hr1 (And.intro hb1 (Nat.le_of_eq hs1))); clear hr1 hs1 hb1)
      | (rw [unhide HX]; go_at_call 41; refine ((unhide H2) _ (unhide HR1).2.1).mono ?_; rintro e w3 ⟨x3, rfl, hp3, hb3⟩; have HG3 := hide hp3; replace HR1 := hide (And.intro (hb3.row (unhide HR1).1) (And.intro ((unhide HR1).2.1.trans hb3) (unhide HR1).2.2)); clear hp3 hb3)
      | (refine bx_ldK 31 (.tmp 8) (by exact rfl) b (by exact rfl) (by exact rfl) (gc gn x3) _ (unhide HZ).row Tryz.underlying31 (Tryz.sizeP _ _) ?_)
      | go_guarded
      | (refine bx_st rfl 31 (.tmp 8) _ rfl b (gc gn x3) _ rfl rfl (unhide HA).1 (Tryz.sizeP _ _) rfl (gc_one _ _) ?_; intro w4 hr4 hc4; have HZ : Hid (NwS W w4 b b2 gn x3) := hide ⟨hr4, (unhide HG).box (unhide HA).1 hc4, bel_off (unhide HA).2.2.1 hc4 (unhide HA).2.2.2.1, hc4.row (unhide HA).2.1 (fun e => (unhide HA).2.2.2.2.2 e.symm), (unhide HA).2.2.2.1, (unhide HA).2.2.2.2.1, (unhide HA).2.2.2.2.2⟩; clear hr4 hc4 HA HG)
      | (go_at_call 42; refine ((unhide H1) _ _ (unhide HZ).pg.gp).mono ?_; rintro e w5 ⟨rfl, hb5⟩; replace HZ : Hid (NwS W w5 b b2 gn x3) := hide ⟨hb5.row (unhide HZ).row, (unhide HZ).pg.bel hb5, (unhide HZ).bel.trans hb5, hb5.row (unhide HZ).row2, (unhide HZ).ge, (unhide HZ).ge2, (unhide HZ).ne⟩; clear hb5)
      | (refine bx_st rfl 31 (.tmp 6) _ rfl b2 (gc gn x3) _ rfl rfl (unhide HZ).row2 (Tryz.sizeP _ _) rfl (gc_one _ _) ?_; intro w9 hr9 hc9; have HR9 := hide (And.intro hr9 (And.intro ((unhide HZ).pg.box (unhide HZ).row2 hc9) (bel_off (unhide HZ).bel hc9 (unhide HZ).ge2))); clear hr9 hc9))
    exact bodyPost_ret (res2 (p := 6) (q := 7) rfl Tryz.underlying31 (Tryz.sizeP _ _) (unhide HR9).1 _ _ rfl rfl) rfl ⟨Or.inl ⟨trivial, _, rfl, (unhide HR9).2.1⟩, (unhide HR9).2.2⟩
  | false =>
    rw [hm, if_neg (by decide)] at H1
    clear hm
    go_enter Tryz.func17, Tryz.ntmps17
    go_wp2_with (first
      | go_skip
      | (refine bx_new rfl 31 rfl _ Tryz.zeroP ?_; intro b w2 hr2 hs2 hb2; have HA := hide (And.intro hr2 (And.intro (hb2.row (unhide HR1).1) (And.intro ((unhide HR1).2.1.trans hb2) (And.intro (show W.heap.size ≤ b by have := (unhide HR1).2.1.size; omega) (And.intro (show W.heap.size ≤ b2 by have := (unhide HR1).2.2; omega) (show b ≠ b2 from fun e => by have := lt_of_some (unhide HR1).1; omega)))))); have HG := hide ((unhide HG3).bel hb2); clear hr2 hs2 hb2 HR1 HG3)
      | (refine bx_new rfl 31 rfl _ Tryz.zeroP ?_; intro b2 w1 hr1 hs1 hb1; have HR1 := hide (And.intro hr1 (And.intro hb1 (Nat.le_of_eq hs1))); clear hr1 hs1 hb1)
      | (rw [unhide HX]; go_at_call 41; refine ((unhide H2) _ (unhide HR1).2.1).mono ?_; rintro e w3 ⟨x3, rfl, hp3, hb3⟩; have HG3 := hide hp3; replace HR1 := hide (And.intro (hb3.row (unhide HR1).1) (And.intro ((unhide HR1).2.1.trans hb3) (unhide HR1).2.2)); clear hp3 hb3)
      | (refine bx_ldK 31 (.tmp 8) (by exact rfl) b (by exact rfl) (by exact rfl) (gc gn x3) _ (unhide HZ).row Tryz.underlying31 (Tryz.sizeP _ _) ?_)
      | go_guarded
      | (refine bx_st rfl 31 (.tmp 8) _ rfl b (gc gn x3) _ rfl rfl (unhide HA).1 (Tryz.sizeP _ _) rfl (gc_one _ _) ?_; intro w4 hr4 hc4; have HZ : Hid (NwS W w4 b b2 gn x3) := hide ⟨hr4, (unhide HG).box (unhide HA).1 hc4, bel_off (unhide HA).2.2.1 hc4 (unhide HA).2.2.2.1, hc4.row (unhide HA).2.1 (fun e => (unhide HA).2.2.2.2.2 e.symm), (unhide HA).2.2.2.1, (unhide HA).2.2.2.2.1, (unhide HA).2.2.2.2.2⟩; clear hr4 hc4 HA HG)
      | (go_at_call 42; refine ((unhide H1) _ _ (unhide HZ).pg.gp).mono ?_; rintro e w5 ⟨rfl, hb5⟩; replace HZ : Hid (NwS W w5 b b2 gn x3) := hide ⟨hb5.row (unhide HZ).row, (unhide HZ).pg.bel hb5, (unhide HZ).bel.trans hb5, hb5.row (unhide HZ).row2, (unhide HZ).ge, (unhide HZ).ge2, (unhide HZ).ne⟩; clear hb5)
      | (refine bx_st rfl 31 (.tmp 6) _ rfl b2 (gc g0 y0) _ rfl rfl (unhide HZ).row2 (Tryz.sizeP _ _) rfl (gc_one _ _) ?_; intro w9 hr9 hc9; have HR9 := hide (And.intro hr9 (bel_off (unhide HZ).bel hc9 (unhide HZ).ge2)); clear hr9 hc9))
    exact bodyPost_ret (res2 (p := 6) (q := 7) rfl Tryz.underlying31 (Tryz.sizeP _ _) (unhide HR9).1 _ _ rfl rfl) rfl ⟨Or.inr ⟨trivial, rfl⟩, (unhide HR9).2⟩
end Go.Proofs.YthekbhliokcpcaaGreat
namespace Go.Proofs.YthekbhliokcpcaaGreat
open Go.RowKit Go.Maps Go.Sort
/-- A group of one, behind its first tick. -/
def mA1 : PP := ⟨1, 1, 1, 2, 1, 2, 10, [noop 1], [], [], 0⟩
def mB1 : PP := ⟨1, 1, 1, 2, 1, 2, 10, [noop 1], [], [], 1⟩
theorem tick_1 : (pnew 1 1).tick 1 0 = (mA1, []) := by rfl
theorem adv_1 : mA1.adv = mB1 := by rfl
theorem lg_1 : Lg 1 [noop 1] := ⟨by simp, fun x hx => by
  rw [List.mem_singleton.1 hx]; exact ⟨⟨by decide, by decide⟩, Or.inr ⟨rfl, rfl⟩⟩⟩
theorem ok_s1 : Ok 1 1 1 mA1 := ⟨by decide, by decide, by decide, by decide, by decide, by decide, by decide, by decide, lg_1, by decide, by decide, List.Pairwise.nil, (fun x hx => by cases hx), Or.inr (Or.inr ⟨rfl, rfl, by decide, rfl, by decide, by decide, (fun f hf => by cases hf)⟩)⟩
theorem ok_q1 : Ok 1 1 1 mB1 := ⟨by decide, by decide, by decide, by decide, by decide, by decide, by decide, by decide, lg_1, by decide, by decide, List.Pairwise.nil, (fun x hx => by cases hx), Or.inr (Or.inr ⟨rfl, rfl, by decide, rfl, by decide, by decide, (fun f hf => by cases hf)⟩)⟩
theorem Pf.low {base : Nat} {W : World} {n : Nat} {s : PP} {x : Px} (hf : Pf base W n s x) : Pf 0 W n s x := ⟨hf.m.mono (Nat.zero_le _), hf.b.mono (Nat.zero_le _), hf.l.mono (Nat.zero_le _), hf.v.mono (Nat.zero_le _), hf.f.mono (Nat.zero_le _), hf.dv⟩
theorem new_1 (W' : World) : Calls Tryz.prog 17 #[.int .i64 1, .int .i64 1, .slice (some ⟨W'.heap.size, 0, none⟩) 1 1] (W'.alloc (.cells #[.int .i64 1] 3)) fun e w' => ∃ x', e = .returned (.tuple #[.agg (pc 1 (pnew 1 1) x'), .int .i64 0]) ∧ Pf 0 w' 1 (pnew 1 1) x' ∧ Bel W' w' :=
  (new_any (n := 1) (id := 1) (wait := 1) (sl_new3 W' [1]) (by decide) (by decide) (by decide)).mono (fun _ _ ⟨x', he, hf, hb⟩ => ⟨x', he, hf.low, ((Bel.refl W').alloc _).trans hb⟩)
theorem ltick_1 (W' : World) (x' : Px) (hp : Pf 0 W' 1 (pnew 1 1) x') : Calls Tryz.prog 28 #[.agg (pc 1 (pnew 1 1) x'), .int .i64 0] W' fun e w' => ∃ x2 aA cA, e = .returned (.tuple #[.agg (pc 1 mB1 x2), .slice aA 0 cA, .int .i64 0]) ∧ Pf 0 w' 1 mB1 x2 ∧ Bel W' w' := by
  have := ltick_win hp.pq (pnew_ok (n := 1) (id := 1) (wait := 1) (by decide) (by decide)) (by decide) (by decide) (by decide) 0 (by decide) (by decide) tick_1 ok_s1 (by decide) rfl
  rw [adv_1] at this
  exact this.mono (fun _ _ ⟨x2, aA, cA, he, hf, hb⟩ => ⟨x2, aA, cA, he, hf.low, hb⟩)
/-- A member of a group of n, as any. -/
def PP.g (n : Nat) (s : PP) : GP := ⟨s.id, mem n, s.term, s.vote, s.role, s.lead, 0, 0, mem n, ⟨#[]⟩, s.log.map (fun e => ⟨e.t, e.k, e.d, []⟩), s.commit, s.idle, s.wait, s.votes, s.fol, 0, []⟩
theorem pc_gc (n : Nat) (s : PP) (x : Px) : pc n s x = gc (s.g n) x := by
  unfold pc gc PP.g
  simp [mem_len]
theorem gp_of {base : Nat} {W : World} {n : Nat} {s : PP} {x : Px} (h : Pf base W n s x) : Gp W (s.g n) x := by
  refine ⟨(Sl.of h.m).1, (Sl.of h.b).1, ?_, (Sl.of h.v).1, (Sl.of h.f).1, ⟨[], rfl, Sl.nil _ _ _, fun x hx => by cases hx⟩⟩
  obtain ⟨g, off, ha, hR⟩ := (Sl.of h.l).1
  refine ⟨s.log.map (fun e => (⟨e.t, e.k, e.d, []⟩, ⟨none, 0⟩)), by rw [List.map_map]; rfl, ⟨g, off, fun h0 => ha (by simpa using h0), fun j hj c u hu => ?_⟩, fun y hy => ?_⟩
  · have hj' : j < s.log.length := by simpa using hj
    rw [List.getElem_map] at hu
    exact hR j hj' c u hu
  · obtain ⟨e, _, rfl⟩ := List.mem_map.1 hy
    exact Sl.nil _ _ _
/-- The one, as any. -/
def gB1 : GP := mB1.g 1
theorem gB1_eq : gB1 = ⟨1, [1], 1, 1, 2, 1, 0, 0, [1], ⟨#[]⟩, [⟨1, 1, ⟨#[]⟩, []⟩], 1, 2, 10, [], [], 0, []⟩ := rfl
theorem gB1_gz (x : Px) (hc : 1 ≤ x.cL) : Gz gB1 x := by
  rw [gB1_eq]
  refine ⟨by decide, by decide, by decide, by decide, by decide, by decide, by decide, by decide, by decide, ?_, ?_, by decide, ?_, by decide, ?_, hc⟩
  · intro e he; simp at he; rw [he]; decide
  · intro e he; simp at he; rw [he]; decide
  · intro e he; simp at he
  · intro e he; simp at he
set_option maxRecDepth 100000 in
theorem tick_t (W' : World) (x' : Px) (hp : Pf 0 W' 1 (pnew 1 1) x') : Calls Tryz.prog 28 #[.agg (pc 1 (pnew 1 1) x'), .int .i64 0] W' fun e w' => ∃ x2 aA cA, e = .returned (.tuple #[.agg (gc gB1 x2), .slice aA 0 cA, .int .i64 0]) ∧ Gp w' gB1 x2 ∧ 1 ≤ x2.cL ∧ Bel W' w' :=
  (ltick_1 W' x' hp).mono (fun e w' ⟨x2, aA, cA, he, hf, hb⟩ => ⟨x2, aA, cA, by rw [he, pc_gc]; rfl, gp_of hf, (Sl.of hf.l).2.2, hb⟩)
theorem gB1_may : mayG gB1 = true := by
  rw [gB1_eq]
  simp [mayG, numB, logB, memB, rolB, leadB, folB, folsB, reaB, reasB, othG, idB, noneB, aids, mayEs, mayE, memOf, GP.lastI, ByteArray.toList_eq]
  try omega
theorem gB1_add : gB1.chgE (addB 2 gB1.M) = 0 := by
  unfold GP.chgE
  rw [gB1_may]
  rw [gB1_eq]
  simp [addB, GP.busy, GP.above, GP.sure, GP.tAt, GP.upTo]
theorem gB1_rem : gB1.chgE (remB 9 gB1.M) = 142 := by
  unfold GP.chgE
  rw [gB1_may]
  rw [gB1_eq]
  simp [remB]
theorem gB1_ins : insAt gB1.M (place 2 gB1.M) 2 = [1, 2] := by rw [gB1_eq]; decide
/-- Two members. -/
def gC2 : GP := ⟨1, [1, 2], 1, 1, 2, 1, 0, 0, [1], ⟨#[]⟩, [⟨1, 1, ⟨#[]⟩, []⟩, ⟨1, 2, ⟨#[]⟩, [1, 2]⟩], 1, 2, 10, [], [(2, 2, 0)], 0, []⟩
theorem gC2_eq : gB1.chgd [1, 2] = gC2 := by
  unfold GP.chgd GP.laidM GP.newFol GP.knows othG seatOf gC2
  rw [gB1_eq]
  simp [GP.lastI]
theorem gC2_adv : gC2.adv = gC2 := by
  unfold GP.adv GP.have gC2
  simp [GP.lastI, most, srtD, insD, GP.tAt, GP.upTo]
theorem gC2_may : mayG gC2 = true := by
  unfold gC2
  simp [mayG, numB, logB, memB, rolB, leadB, folB, folsB, fol1B, reaB, reasB, othG, idB, noneB, aids, mayEs, mayE, memOf, GP.lastI, ByteArray.toList_eq]
  try omega
theorem gC2_busy : gC2.busy = true := by
  unfold gC2
  simp [GP.busy, GP.above, seatE]
theorem gC2_add : gC2.chgE (addB 3 gC2.M) = 141 := by
  unfold GP.chgE
  rw [gC2_may, gC2_busy]
  unfold gC2
  simp [addB]
theorem gC2_last : (gB1.laidM [1, 2]).lastI = 2 := by rw [gB1_eq]; rfl
theorem gC2_gz (x : Px) (hc : 2 ≤ x.cL) : Gz gC2 x := by
  unfold gC2
  refine ⟨by decide, by decide, by decide, by decide, by decide, by decide, by decide, by decide, by decide, ?_, ?_, by decide, ?_, by decide, ?_, hc⟩
  · intro e he; simp at he; rcases he with rfl | rfl <;> decide
  · intro e he; simp at he; rcases he with rfl | rfl <;> decide
  · intro e he; simp at he; rw [he]; decide
  · intro e he; simp at he
end Go.Proofs.YthekbhliokcpcaaGreat
namespace Go.Proofs.YthekbhliokcpcaaGreat
open Go.RowKit Go.Maps Go.Sort
theorem add_1 (W' : World) (x' : Px) (hp : Gp W' gB1 x') (hc : 1 ≤ x'.cL) : Calls Tryz.prog 34 #[.agg (gc gB1 x'), .int .i64 2] W' fun e w' => ∃ x2, e = .returned (.tuple #[.agg (gc gC2 x2), .int .u64 2, .int .i64 0]) ∧ Gp w' gC2 x2 ∧ 2 ≤ x2.cL ∧ Bel W' w' := by
  have := add_yes hp (gB1_gz x' hc) (by rw [gB1_eq]; decide) gB1_add gB1_ins (by rw [gC2_eq]; exact gC2_may) (by rw [gB1_eq]; exact List.pairwise_singleton _ _)
  rw [gC2_eq, gC2_adv, gC2_last] at this
  exact this.mono (fun e w' ⟨x2, he, hpg, hb⟩ => ⟨x2, he, hpg.gp, hpg.cap, hb⟩)
theorem add_2 (W' : World) (x' : Px) (hp : Gp W' gC2 x') (hc : 2 ≤ x'.cL) : Calls Tryz.prog 34 #[.agg (gc gC2 x'), .int .i64 3] W' fun e w' => e = .returned (.tuple #[.agg (gc g0 y0), .int .u64 0, .int .i64 141]) ∧ Bel W' w' := by
  have := add_no (id := 3) hp (gC2_gz x' hc) (by rw [gC2_add]; decide)
  rw [gC2_add] at this
  exact this
theorem rem_1 (W' : World) (x' : Px) (hp : Gp W' gB1 x') (hc : 1 ≤ x'.cL) : Calls Tryz.prog 35 #[.agg (gc gB1 x'), .int .i64 9] W' fun e w' => e = .returned (.tuple #[.agg (gc g0 y0), .int .u64 0, .int .i64 142]) ∧ Bel W' w' := by
  have := rem_no (id := 9) hp (gB1_gz x' hc) (by rw [gB1_rem]; decide)
  rw [gB1_rem] at this
  exact this
theorem busy_1 (W' : World) (x' : Px) (hp : Gp W' gC2 x') (hc : 2 ≤ x'.cL) : Calls Tryz.prog 36 #[.agg (gc gC2 x')] W' fun e w' => e = .returned (.bool true) ∧ Bel W' w' := by
  have := busy_g hp.l 1 (by decide) (by decide) (by decide) hc
  rw [gC2_busy] at this
  exact this
set_option maxRecDepth 100000 in
set_option maxHeartbeats 8000000 in
theorem alive_s {W : World} : Calls Tryz.prog 14 #[] W fun e w' => e = .returned (.bool true) ∧ Bel W w' := by
  have HN := hide new_1
  have HT := hide tick_t
  have HA1 := hide add_1
  have HA2 := hide add_2
  have HR1 := hide rem_1
  have HBu := hide busy_1
  have hM : gC2.M.length = 2 := rfl
  generalize gB1 = gB at *
  generalize gC2 = gC at *
  have HML := hide hM
  clear hM
  go_enter Tryz.func14, Tryz.ntmps14
  go_wp2_with (first
    | go_skip
    | (refine bx_ldK 31 (.tmp 1) (by exact rfl) _ (by exact rfl) (by exact rfl) (pc 1 (pnew 1 1) x1) _ (unhide HQ1) Tryz.underlying31 (Tryz.size32 _ _ _) ?_)
    | (refine bx_ldK 31 (.tmp 3) (by exact rfl) _ (by exact rfl) (by exact rfl) (gc gB x2) _ (unhide HQ3) Tryz.underlying31 (Tryz.sizeP _ _) ?_)
    | (refine bx_ldK 31 (.tmp 6) (by exact rfl) _ (by exact rfl) (by exact rfl) (gc gC x3) _ (unhide HQ6) Tryz.underlying31 (Tryz.sizeP _ _) ?_)
    | go_guarded
    | (go_at_call 17; refine ((unhide HN) _).mono ?_; rintro e w1 ⟨x1, rfl, hp1, hb1⟩; have HP := hide hp1; have HB := hide hb1; clear hp1 hb1)
    | (refine bx_new rfl 31 rfl _ Tryz.zeroP ?_; intro b w4 hr4 hs4 hb4; have HQ := hide (And.intro hr4 (And.intro hs4 hb4)); clear hr4 hs4 hb4)
    | (refine bx_st rfl 31 (.tmp 1) _ rfl b (pc 1 (pnew 1 1) x1) _ rfl rfl (unhide HQ).1 (Tryz.size32 _ _ _) rfl (pc_one _ _ _) ?_; intro w5 hr5 hc5; have hbb := bel_off (unhide HQ).2.2 hc5 (Nat.le_of_eq (unhide HQ).2.1); have HQ1 := hide hr5; have HP := hide ((unhide HP).bel hbb); have HB := hide ((unhide HB).trans hbb); clear hr5 hc5 hbb)
    | (go_at_call 28; refine ((unhide HT) _ _ (unhide HP)).mono ?_; rintro e w2 ⟨x2, aA, cA, rfl, hp2, hc2, hb2⟩; have HP2 := hide (And.intro hp2 hc2); have HB := hide ((unhide HB).trans hb2); clear hp2 hc2 hb2)
    | (refine bx_st rfl 31 (.tmp 3) _ rfl b (gc gB x2) _ rfl rfl (unhide HQ).1 (Tryz.sizeP _ _) rfl (gc_one _ _) ?_; intro w5 hr5 hc5; have hbb := bel_off (unhide HQ).2.2 hc5 (Nat.le_of_eq (unhide HQ).2.1); have HQ3 := hide hr5; have HP2 := hide (And.intro ((unhide HP2).1.bel hbb) (unhide HP2).2); have HB := hide ((unhide HB).trans hbb); clear hr5 hc5 hbb)
    | (go_at_call 34; refine ((unhide HA1) _ _ (unhide HP2).1 (unhide HP2).2).mono ?_; rintro e w3 ⟨x3, rfl, hp3, hc3, hb3⟩; have HP3 := hide (And.intro hp3 hc3); have HP2 := hide (And.intro ((unhide HP2).1.bel hb3) (unhide HP2).2); have HQ3 := hide (hb3.row (unhide HQ3)); have HB := hide ((unhide HB).trans hb3); clear hp3 hc3 hb3 HA1)
    | (refine bx_st rfl 31 (.tmp 6) _ rfl b (gc gC x3) _ rfl rfl (unhide HQ).1 (Tryz.sizeP _ _) rfl (gc_one _ _) ?_; intro w6 hr6 hc6; have hbb := bel_off (unhide HQ).2.2 hc6 (Nat.le_of_eq (unhide HQ).2.1); have HQ6 := hide hr6; have HQ3 := hide (hbb.row (unhide HQ3)); have HP2 := hide (And.intro ((unhide HP2).1.bel hbb) (unhide HP2).2); have HP3 := hide (And.intro ((unhide HP3).1.bel hbb) (unhide HP3).2); have HB := hide ((unhide HB).trans hbb); clear hr6 hc6 hbb)
    | (go_at_call 34; refine ((unhide HA2) _ _ (unhide HP3).1 (unhide HP3).2).mono ?_; rintro e w7 ⟨rfl, hb7⟩; have HQ6 := hide (hb7.row (unhide HQ6)); have HQ3 := hide (hb7.row (unhide HQ3)); have HP2 := hide (And.intro ((unhide HP2).1.bel hb7) (unhide HP2).2); have HP3 := hide (And.intro ((unhide HP3).1.bel hb7) (unhide HP3).2); have HB := hide ((unhide HB).trans hb7); clear hb7)
    | (refine bx_st rfl 31 (.tmp 9) _ rfl b (gc g0 y0) _ rfl rfl (unhide HQ).1 (Tryz.sizeP _ _) rfl (gc_one _ _) ?_; intro w8 hr8 hc8; have hbb := bel_off (unhide HQ).2.2 hc8 (Nat.le_of_eq (unhide HQ).2.1); have HQ6 := hide (hbb.row (unhide HQ6)); have HQ3 := hide (hbb.row (unhide HQ3)); have HP2 := hide (And.intro ((unhide HP2).1.bel hbb) (unhide HP2).2); have HP3 := hide (And.intro ((unhide HP3).1.bel hbb) (unhide HP3).2); have HB := hide ((unhide HB).trans hbb); clear hr8 hc8 hbb)
    | (go_at_call 35; refine ((unhide HR1) _ _ (unhide HP2).1 (unhide HP2).2).mono ?_; rintro e w9 ⟨rfl, hb9⟩; have HQ6 := hide (hb9.row (unhide HQ6)); have HP3 := hide (And.intro ((unhide HP3).1.bel hb9) (unhide HP3).2); have HB := hide ((unhide HB).trans hb9); clear hb9)
    | (refine bx_st rfl 31 (.tmp 12) _ rfl b (gc g0 y0) _ rfl rfl (unhide HQ).1 (Tryz.sizeP _ _) rfl (gc_one _ _) ?_; intro w10 hr10 hc10; have hbb := bel_off (unhide HQ).2.2 hc10 (Nat.le_of_eq (unhide HQ).2.1); have HQ6 := hide (hbb.row (unhide HQ6)); have HP3 := hide (And.intro ((unhide HP3).1.bel hbb) (unhide HP3).2); have HB := hide ((unhide HB).trans hbb); have z1 := (Bg.of (unhide HQ6)).c1; rw [unhide HML] at z1; clear hr10 hc10 hbb)
    | (go_at_call 36; refine ((unhide HBu) _ _ (unhide HP3).1 (unhide HP3).2).mono ?_; rintro e w11 ⟨rfl, hb11⟩; have HB := hide ((unhide HB).trans hb11); clear hb11))
  go_ret
  exact ⟨rfl, unhide HB⟩
end Go.Proofs.YthekbhliokcpcaaGreat
