/- others, mayFollows of any member. mayStand of any member. mayLead of any member. mayRole of any member. -/
import Derived.Test.YthekbhliokcpcaaGreatT03
import Derived.Test.YthekbhliokcpcaaGreatT04
import Derived.Test.YthekbhliokcpcaaGreatT07
import Derived.Test.YthekbhliokcpcaaGreatT06
namespace Go.Proofs.YthekbhliokcpcaaGreat
open Go.RowKit Go.Maps Go.Sort
def othG (s : GP) : List Int := s.M.filter fun y => !(y == s.id)
set_option maxRecDepth 100000 in
set_option maxHeartbeats 1000000 in
theorem others_g {W : World} {s : GP} {x : Px} (h : Sl E3 W x.aM s.M) (h1 : 0 < s.M.length) (hn : s.M.length ≤ 1000000) : Calls Tryz.prog 169 #[.agg (gc s x)] W fun e w' => ∃ a' c', e = .returned (.slice a' (othG s).length c') ∧ Sl E3 w' a' (othG s) ∧ Bel W w' := by
 have HC : Hid (∀ w1, Bel W w1 → Calls Tryz.prog 99 #[.slice x.aM s.M.length x.cM] w1 fun e w' => ∃ a' c', e = .returned (.slice a' s.M.length c') ∧ E3.O w1.heap.size w' (.slice a' s.M.length c') s.M ∧ Bel w1 w') := jd (fun w1 hb => clone3w rfl (h.bel hb) (by omega))
 clear h
 unfold othG
 go_enter Tryz.func169, Tryz.ntmps169
 go_wp2_with (first
  | (refine bx_box rfl 31 _ rfl (gc s x) rfl ?_; intro b w0 hr0 hs0 hb0; obtain ⟨y0, y1, y2, y3, y4, y5, y6, y7, y8, y9, y10, y11, y12, y13, y14, y15, y16, y17⟩ := Bg.of hr0; have HR0 := jd hr0; have HB0 := jd hb0; clear hr0 hs0 hb0)
  | (go_at_call 99; refine ((ju HC) _ (ju HB0)).mono ?_; rintro e w1 ⟨a1, c1, rfl, ho1, hb1⟩; have HO1 := jd (aI ho1 hb1); have HR1 := jd (hb1.row (ju HR0)); clear ho1 hb1))
 obtain ⟨g, rfl⟩ : ∃ g, a1 = some ⟨g, 0, none⟩ := by
  obtain ⟨a', c', g', e, hh, _⟩ := (ju HO1).1.shape
  injection e with e1
  exact ⟨g', e1.trans (hh (by omega))⟩
 refine (delete_any (ju HR1) rfl (ju HO1).1 rfl (by omega)).mono ?_
 rintro e w2 ⟨rfl, ho2, hc2⟩
 have HF := jd (aI (Sl.of ho2).1 (bel_off ((ju HB0).trans (ju HO1).2) hc2 (Nat.le_trans (ju HB0).size ((ju HO1).1.lt (k := g) rfl).1)))
 clear ho2 hc2
 go_wp2_with fail
 go_ret
 exact ⟨_, _, rfl, (ju HF).1, (ju HF).2⟩
def fol1B (last : Int) (f : Int × Int × Int) (i : Int) : Bool := (f.1 == i) && (decide (1 ≤ f.2.1) && (decide (f.2.1 ≤ last + 1) && decide (f.2.2 < f.2.1)))
def folsB (last : Int) : List (Int × Int × Int) → List Int → Bool
 | [], [] => true
 | f :: F, i :: I => fol1B last f i && folsB last F I
 | _, _ => false
def folB (s : GP) : Bool := folsB s.lastI s.fol (othG s)
theorem folsB_len {last : Int} : ∀ {F : List (Int × Int × Int)} {I : List Int}, F.length ≠ I.length → folsB last F I = false
 | [], [], h => absurd rfl h
 | [], _ :: _, _ => rfl
 | _ :: _, [], _ => rfl
 | f :: F, i :: I, h => by
  unfold folsB
  rw [folsB_len (F := F) (I := I) (fun e => h (by simp [e])), Bool.and_false]
set_option maxRecDepth 100000 in
set_option maxHeartbeats 2000000 in
theorem fol1_g {W : World} {bl : Nat} {last id : Int} {f : Int × Int × Int} (hl : W.cell? ⟨bl, 0, none⟩ = some (.int .u64 last)) (h0 : 0 ≤ last) (h1 : last ≤ 9000000000000000000) : Calls Tryz.prog 222 #[.agg (encF f).toArray, .int .i64 id, .pointer (some ⟨bl, 0, none⟩)] W fun e w' => e = .returned (.bool (fol1B last f id)) ∧ Bel W w' := by
 have hl2 := ((Bel.refl W).alloc (.cells #[.int .i64 f.1, .int .u64 f.2.1, .int .u64 f.2.2] 79)).cell hl
 have hw : IntKind.u64.wrap (last + 1) = last + 1 := by rw [IntKind.wrap_u64]; omega
 obtain ⟨i, nx, mt⟩ := f
 unfold fol1B
 unfold encF
 simp only at hl2 ⊢
 cases q0 : (i == id) with
 | false =>
  rw [Bool.false_and]
  go_enter Tryz.func222, Tryz.ntmps222
  go_wp2_with fail
  go_ret
  exact ⟨rfl, (Bel.refl W).alloc _⟩
 | true =>
  rw [Bool.true_and]
  by_cases q1 : 1 ≤ nx
  ·rw [decide_eq_true q1, Bool.true_and]
   by_cases q2 : nx ≤ last + 1
   ·rw [decide_eq_true q2, Bool.true_and]
    by_cases q3 : mt < nx
    ·rw [decide_eq_true q3]
     go_enter Tryz.func222, Tryz.ntmps222
     go_wp2_with fail
     go_ret
     exact ⟨rfl, (Bel.refl W).alloc _⟩
    ·rw [decide_eq_false q3]
     go_enter Tryz.func222, Tryz.ntmps222
     go_wp2_with fail
     go_ret
     exact ⟨rfl, (Bel.refl W).alloc _⟩
   ·rw [decide_eq_false q2, Bool.false_and]
    go_enter Tryz.func222, Tryz.ntmps222
    go_wp2_with fail
    go_ret
    exact ⟨rfl, (Bel.refl W).alloc _⟩
  ·rw [decide_eq_false q1, Bool.false_and]
   go_enter Tryz.func222, Tryz.ntmps222
   go_wp2_with fail
   go_ret
   exact ⟨rfl, (Bel.refl W).alloc _⟩
set_option maxRecDepth 100000 in
set_option maxHeartbeats 2000000 in
theorem eqf_g {W : World} {a b : Option Addr} {cap cap2 bl : Nat} {last : Int} {F : List (Int × Int × Int)} {I : List Int} (hF : Sl E65 W a F) (hI : Sl E3 W b I) (hl : W.cell? ⟨bl, 0, none⟩ = some (.int .u64 last)) (h0 : 0 ≤ last) (h1 : last ≤ 9000000000000000000) (hlen2 : I.length ≤ 17592186044416) : Calls Tryz.prog 221 #[.slice a F.length cap, .slice b I.length cap2, .func (.func 222) #[] #[.pointer (some ⟨bl, 0, none⟩)]] W fun e w' => e = .returned (.bool (folsB last F I)) ∧ Bel W w' := by
 by_cases hne : F.length = I.length
 case neg =>
  rw [folsB_len hne]
  have e1 : ((F.length : Int) == I.length) = false := beq_eq_false_iff_ne.2 (by omega)
  clear hF hI hl h0 h1 hlen2 hne
  generalize F.length = n1 at *
  generalize I.length = n2 at *
  go_enter Tryz.func221, Tryz.ntmps221
  go_wp2_with fail
  go_ret
  exact ⟨rfl, Bel.refl _⟩
 case pos =>
 rw [hne]
 obtain ⟨g, off, hg, hR⟩ := hF
 obtain ⟨g2, off2, hg2, hR2⟩ := hI
 have HC : Hid (∀ (w : World) (f : Int × Int × Int) (id : Int) (c : Bool), Bel W w → fol1B last f id = c → Calls Tryz.prog 222 #[.agg (encF f).toArray, .int .i64 id, .pointer (some ⟨bl, 0, none⟩)] w fun e w' => e = .returned (.bool c) ∧ Bel w w') := jd (fun w f id c hb e => by rw [← e]; exact fol1_g (hb.cell hl) h0 h1)
 clear hl h0 h1
 generalize hn : I.length = n at *
 have HN := jd hn
 have HM := jd hne
 have HG := jd hg
 have HR := jd hR
 have HG2 := jd hg2
 have HR2 := jd hR2
 clear hn hg hR hne hg2 hR2
 go_enter Tryz.func221, Tryz.ntmps221
 go_wp2_with fail
 go_loopw [17] (fun vk wr => ∃ (i : Nat), i ≤ n ∧ vk = .int .i64 i ∧ Hid (Bel W wr) ∧ Hid (folsB last F I = folsB last (F.drop i) (I.drop i))) (fun vk _ => n - (intOf vk).toNat)
 case atStart => exact ⟨0, Nat.zero_le _, rfl, jd (Bel.refl _), jd rfl⟩
 case round =>
  obtain ⟨i, hk, rfl, HB, HE⟩ := hrel
  by_cases hlt : i < n
  ·have hil : i < F.length := by rw [ju HM]; exact hlt
   have hik : i < I.length := by rw [ju HN]; exact hlt
   obtain rfl := (ju HG) (by rw [ju HM]; omega)
   obtain rfl := (ju HG2) (by omega)
   have hkn : (i : Int) < n := by omega
   obtain ⟨r0, r1, r2⟩ := E65_cell (ju HR) i hil
   have r0 := (ju HB).cell r0
   have r1 := (ju HB).cell r1
   have r2 := (ju HB).cell r2
   have r3 := (ju HB).cell (E3_cell (ju HR2) i hik)
   have r3' := ((Bel.refl wr).alloc (.cells #[.int .i64 F[i].1, .int .u64 F[i].2.1, .int .u64 F[i].2.2] 79)).cell r3
   have HC2 := jd ((ju HC) (wr.alloc (.cells #[.int .i64 F[i].1, .int .u64 F[i].2.1, .int .u64 F[i].2.2] 79)) F[i] I[i])
   have HD : Hid (folsB last (F.drop i) (I.drop i) = (fol1B last F[i] I[i] && folsB last (F.drop (i + 1)) (I.drop (i + 1)))) := jd (by rw [List.drop_eq_getElem_cons hil, List.drop_eq_getElem_cons hik]; rfl)
   unfold encF at HC2
   generalize F[i] = f at *
   generalize I[i] = id at *
   clear r3
   cases hd : fol1B last f id with
   | true =>
    have HC3 := jd ((ju HC2) true ((ju HB).alloc _) hd)
    have HF : Hid (folsB last F I = folsB last (F.drop (i + 1)) (I.drop (i + 1))) := jd (by rw [ju HE, ju HD, hd, Bool.true_and])
    clear hd HC2
    go_wp2_with (first
     | (go_at_call 222; refine (ju HC3).mono ?_; rintro e w3 ⟨rfl, hb3⟩; have HB3 := jd (((ju HB).alloc (.cells #[.int .i64 f.1, .int .u64 f.2.1, .int .u64 f.2.2] 79)).trans hb3); clear hb3))
    go_roundw
    case rel => exact ⟨i + 1, by omega, by go_num, HB3, HF⟩
    case measure => simp [intOf]; omega
   | false =>
    have HC3 := jd ((ju HC2) false ((ju HB).alloc _) hd)
    have HF : Hid (folsB last F I = false) := jd (by rw [ju HE, ju HD, hd, Bool.false_and])
    clear hd HC2
    go_wp2_with (first
     | (go_at_call 222; refine (ju HC3).mono ?_; rintro e w3 ⟨rfl, hb3⟩; have HB3 := jd (((ju HB).alloc (.cells #[.int .i64 f.1, .int .u64 f.2.1, .int .u64 f.2.2] 79)).trans hb3); clear hb3))
    go_ret
    exact ⟨by rw [ju HF]; rfl, ju HB3⟩
  ·obtain rfl : i = n := by omega
   have HF : Hid (folsB last F I = true) := jd (by rw [ju HE, List.drop_of_length_le (by rw [ju HM]; omega), List.drop_of_length_le (by rw [ju HN]; omega)]; rfl)
   go_wp2_with fail
   go_ret
   exact ⟨by rw [ju HF]; rfl, ju HB⟩
theorem any_ldP {ops : Array Oper} {Q : Exit → Act → World → Prop} {md : Region.Mode} {S : World → Prop} {i : Nat} {o : Oper} {fuel : Nat} {listed : Array Bool} {a : Act} {w : World} {s : GP} {x : Px} {b : Nat} {y : Operand} (hi : ops[i]? = some o) (hs : (Region.noSelect ops && Region.free md ops listed i && (Region.ready md ops listed).contains i) = true) (hQ : ∀ c a w, Q (.panic c) (a.put o.dst (.agg (gc s x))) w → Q (.panic c) a w) (hw : Region.wanted o (yielded ops a.tmps) = true) (hS : S w) (ho : o.op = .load 31 y) (hx : a.eval y = .pointer (some ⟨b, 0, none⟩)) (hb : ∀ w, S w → w.heap[b]? = some (.cells (gc s x) 31))
  (h : wpAnyH Tryz.prog md ops Q S fuel (listed.setIfInBounds i true) (a.put o.dst (.agg (gc s x))) w) : wpAnyH Tryz.prog md ops Q S (fuel + 1) listed a w := any_take hi hs hQ hw hS (fun w hw => by
   unfold execOp
   simp only [ho, hx, Instr.loadAt, Instr.sureAddr, Sem.run_bind, Sem.run_pure, Result.andThen_ok, run_loadVar_row w b 31 31 _ (0, 0) _ (hb w hw) u31 rfl (zP s x)]) h
set_option maxRecDepth 100000 in
set_option maxHeartbeats 2000000 in
theorem follows_g {W : World} {s : GP} {x : Px} (h : Gp W s x) (h0 : 0 ≤ s.base) (h1 : s.base ≤ 4611686018427387904) (hM : 0 < s.M.length) (hM2 : s.M.length ≤ 1000000) (hl : s.log.length ≤ 1000000) : Calls Tryz.prog 189 #[.agg (gc s x)] W fun e w' => e = .returned (.bool (folB s)) ∧ Bel W w' := by
 have H1 : Hid (∀ W', Bel W W' → Calls Tryz.prog 79 #[.agg (gc s x)] W' fun e w' => e = .returned (.tuple #[.int .u64 s.lastI, .int .u64 s.lastT]) ∧ Bel W' w') := jd (fun W' hb => last_g (h.l.bel hb) h0 h1 hl)
 have H2 : Hid (∀ W', Bel W W' → Calls Tryz.prog 169 #[.agg (gc s x)] W' fun e w' => ∃ a' c', e = .returned (.slice a' (othG s).length c') ∧ Sl E3 w' a' (othG s) ∧ Bel W' w') := jd (fun W' hb => others_g (h.m.bel hb) hM hM2)
 have hol : (othG s).length ≤ 17592186044416 := Nat.le_trans (List.length_filter_le _ _) (by omega)
 have H3 : Hid (∀ W' a' c' bl, Bel W W' → Sl E3 W' a' (othG s) → W'.cell? ⟨bl, 0, none⟩ = some (.int .u64 s.lastI) → Calls Tryz.prog 221 #[.slice x.aF s.fol.length x.cF, .slice a' (othG s).length c', .func (.func 222) #[] #[.pointer (some ⟨bl, 0, none⟩)]] W' fun e w' => e = .returned (.bool (folB s)) ∧ Bel W' w') := jd (fun W' a' c' bl hb hs hc => eqf_g (h.f.bel hb) hs hc (by unfold GP.lastI; omega) (by unfold GP.lastI; omega) hol)
 clear h hM hM2 hl hol h0 h1
 generalize folB s = bf at *
 generalize hI : s.lastI = i at *
 generalize s.lastT = t at *
 clear hI
 go_enter Tryz.func189, Tryz.ntmps189
 go_wp2_with (first
  | (refine bx_box rfl 31 _ rfl (gc s x) rfl ?_; intro b w0 hr0 hs0 hb0; have HR0 := jd hr0; have HB0 := jd hb0; clear hr0 hs0 hb0)
  | (refine bx_ld rfl 31 _ rfl b rfl (gc s x) _ (ju HR0) u31 (zP s x) ?_)
  | (go_at_call 79; refine ((ju H1) _ (ju HB0)).mono ?_; rintro e w1 ⟨rfl, hb1⟩; have HR1 := jd (hb1.row (ju HR0)); have HB1 := jd ((ju HB0).trans hb1); clear hb1))
 have hr2 : (w1.alloc (.cells #[.int .u64 i] 25)).heap[b]? = some (.cells (gc s x) 31) := ((Bel.refl w1).alloc _).row (ju HR1)
 have hcl : (w1.alloc (.cells #[.int .u64 i] 25)).cell? ⟨w1.heap.size, 0, none⟩ = some (.int .u64 i) := cell_of (at_new w1 _)
 have hb2 : Bel W (w1.alloc (.cells #[.int .u64 i] 25)) := (ju HB1).alloc _
 generalize (w1.alloc (.cells #[.int .u64 i] 25)) = w2 at *
 generalize w1.heap.size = bl at *
 have c15 := (Bg.of hr2).c15
 generalize (othG s).length = no at *
 refine wp_region_held_drew (S := fun W => W.heap[b]? = some (.cells (gc s x) 31)) Tryz.follows hr2 (fun hS => ?_)
 refine any_take (i := 0) (v := .pointer (some ⟨b, 15, none⟩)) rfl (by kernel_rfl) (fun _ _ _ h => h) rfl hS (fun w _ => by go_simp) ?_
 refine any_take (i := 1) (v := .slice x.aF s.fol.length x.cF) rfl (by kernel_rfl) (fun _ _ _ h => h) rfl hS (fun w hw => by have := (Bg.of hw).c15; go_simp) ?_
 refine any_ldP (i := 2) (b := b) rfl (by kernel_rfl) (fun _ _ _ h => h) rfl hS rfl rfl (fun w hw => hw) ?_
 refine any_take (i := 4) (v := .func (.func 222) #[] #[.pointer (some ⟨bl, 0, none⟩)]) rfl (by kernel_rfl) (fun _ _ _ h => h) rfl hS (fun w hw => by go_simp) ?_
 refine any_call (i := 3) (by kernel_rfl) rfl rfl (by go_simp) ((ju H2) _ (Bel.drew hb2)) ?_
 rintro e w3 ⟨a3, c3, rfl, hs3, hb3⟩
 refine ⟨_, rfl, hb3.row hr2, ?_⟩
 refine any_call (i := 5) (by kernel_rfl) rfl rfl (by go_simp) ((ju H3) w3 a3 c3 bl (hb2.drew.trans hb3) hs3 (hb3.cell hcl)) ?_
 rintro e w4 ⟨rfl, hb4⟩
 refine ⟨_, rfl, hb4.row (hb3.row hr2), ?_⟩
 refine any_do (i := 6) (v := .bool bf) (by kernel_rfl) rfl rfl (by go_simp) ⟨hb4.row (hb3.row hr2), ?_⟩
 refine wpAnyH_done (by kernel_rfl) ?_ _
 go_wp2_with fail
 go_ret
 exact ⟨rfl, (hb2.drew.trans hb3).trans hb4⟩
def standB (s : GP) : Bool := (s.lead == 0) && ((s.vote == s.id) && (aids 0 s.votes && (decide (s.id ∈ s.M) && (decide (s.id ∈ s.votes) && !(s.votes.any fun v => !decide (v ∈ s.M))))))
set_option maxRecDepth 100000 in
set_option maxHeartbeats 8000000 in
theorem stand_g {W : World} {s : GP} {x : Px} (h : Gp W s x) (hM : s.M.length ≤ 17592186044416) (hv : s.votes.length ≤ 17592186044416) : Calls Tryz.prog 154 #[.agg (gc s x)] W fun e w' => e = .returned (.bool (standB s)) ∧ Bel W w' := by
 have H1 : Hid (∀ W', Bel W W' → Calls Tryz.prog 188 #[.slice x.aV s.votes.length x.cV] W' fun e w' => e = .returned (.bool (aids 0 s.votes)) ∧ w' = W') := jd (fun W' hb => areIds_any (h.v.bel hb) x.cV (by omega))
 have H2 : Hid (∀ W', Bel W W' → Calls Tryz.prog 128 #[.agg (gc s x)] W' fun e w' => e = .returned (.bool (decide (s.id ∈ s.M))) ∧ Bel W' w') := jd (fun W' hb => seated_g (h.m.bel hb) hM)
 have H3 : Hid (∀ W', Bel W W' → Calls Tryz.prog 82 #[.slice x.aV s.votes.length x.cV, .int .i64 s.id] W' fun e w' => e = .returned (.bool (decide (s.id ∈ s.votes))) ∧ w' = W') := jd (fun W' hb => contains_any (h.v.bel hb) x.cV s.id (by omega))
 have H4 : Hid (∀ W' b, Bel W W' → W'.heap[b]? = some (.cells (gc s x) 31) → Calls Tryz.prog 191 #[.slice x.aV s.votes.length x.cV, .func (.func 192) #[] #[.pointer (some ⟨b, 0, none⟩)]] W' fun e w' => e = .returned (.bool (s.votes.any fun v => !decide (v ∈ s.M))) ∧ w' = W') := jd (fun W' b hb hr => contf_g hr (h.m.bel hb) hM (h.v.bel hb) x.cV hv)
 clear h hM hv
 unfold standB
 generalize (s.votes.any fun v => !decide (v ∈ s.M)) = bn at *
 generalize decide (s.id ∈ s.votes) = bv at *
 generalize decide (s.id ∈ s.M) = bm at *
 generalize aids 0 s.votes = ba at *
 cases q0 : (s.lead == 0) with
 | false =>
  rw [Bool.false_and]
  go_enter Tryz.func154, Tryz.ntmps154
  go_wp2_with (first
   | go_skip
   | (refine bx_boxK 31 (.tmp 0) (by exact rfl) (by exact rfl) (gc s x) (by exact rfl) ?_; intro b w0 hr0 hs0 hb0; obtain ⟨y0, y1, y2, y3, y4, y5, y6, y7, y8, y9, y10, y11, y12, y13, y14, y15, y16, y17⟩ := Bg.of hr0; have HR0 := jd hr0; have HB0 := jd hb0; clear hr0 hs0 hb0)
   | (refine bx_ldK 31 (.tmp 1) (by exact rfl) b (by exact rfl) (by exact rfl) (gc s x) _ (ju HR0) u31 (zP s x) ?_)
   | (refine bx_ldK 31 (.tmp 1) (by exact rfl) b (by exact rfl) (by exact rfl) (gc s x) _ (ju HR1) u31 (zP s x) ?_)
   | go_guarded
   | (go_at_call 188; refine ((ju H1) _ (ju HB0)).mono ?_; rintro e w9 ⟨rfl, hw9⟩; rw [hw9]; clear hw9)
   | (go_at_call 128; refine ((ju H2) _ (ju HB0)).mono ?_; rintro e w1 ⟨rfl, hb1⟩; obtain ⟨z0, z1, z2, z3, z4, z5, z6, z7, z8, z9, z10, z11, z12, z13, z14, z15, z16, z17⟩ := Bg.of (hb1.row (ju HR0)); have HR1 := jd (hb1.row (ju HR0)); have HB1 := jd ((ju HB0).trans hb1); clear hb1)
   | (go_at_call 82; refine ((ju H3) _ (ju HB1)).mono ?_; rintro e w9 ⟨rfl, hw9⟩; rw [hw9]; clear hw9)
   | (go_at_call 191; refine ((ju H4) _ _ (ju HB1) (ju HR1)).mono ?_; rintro e w9 ⟨rfl, hw9⟩; rw [hw9]; clear hw9))
  go_ret
  first
   | exact ⟨rfl, ju HB1⟩
   | exact ⟨rfl, ju HB0⟩
 | true =>
  rw [Bool.true_and]
  cases q1 : (s.vote == s.id) with
  | false =>
   rw [Bool.false_and]
   go_enter Tryz.func154, Tryz.ntmps154
   go_wp2_with (first
    | go_skip
    | (refine bx_boxK 31 (.tmp 0) (by exact rfl) (by exact rfl) (gc s x) (by exact rfl) ?_; intro b w0 hr0 hs0 hb0; obtain ⟨y0, y1, y2, y3, y4, y5, y6, y7, y8, y9, y10, y11, y12, y13, y14, y15, y16, y17⟩ := Bg.of hr0; have HR0 := jd hr0; have HB0 := jd hb0; clear hr0 hs0 hb0)
    | (refine bx_ldK 31 (.tmp 1) (by exact rfl) b (by exact rfl) (by exact rfl) (gc s x) _ (ju HR0) u31 (zP s x) ?_)
    | (refine bx_ldK 31 (.tmp 1) (by exact rfl) b (by exact rfl) (by exact rfl) (gc s x) _ (ju HR1) u31 (zP s x) ?_)
    | go_guarded
    | (go_at_call 188; refine ((ju H1) _ (ju HB0)).mono ?_; rintro e w9 ⟨rfl, hw9⟩; rw [hw9]; clear hw9)
    | (go_at_call 128; refine ((ju H2) _ (ju HB0)).mono ?_; rintro e w1 ⟨rfl, hb1⟩; obtain ⟨z0, z1, z2, z3, z4, z5, z6, z7, z8, z9, z10, z11, z12, z13, z14, z15, z16, z17⟩ := Bg.of (hb1.row (ju HR0)); have HR1 := jd (hb1.row (ju HR0)); have HB1 := jd ((ju HB0).trans hb1); clear hb1)
    | (go_at_call 82; refine ((ju H3) _ (ju HB1)).mono ?_; rintro e w9 ⟨rfl, hw9⟩; rw [hw9]; clear hw9)
    | (go_at_call 191; refine ((ju H4) _ _ (ju HB1) (ju HR1)).mono ?_; rintro e w9 ⟨rfl, hw9⟩; rw [hw9]; clear hw9))
   go_ret
   first
    | exact ⟨rfl, ju HB1⟩
    | exact ⟨rfl, ju HB0⟩
  | true =>
   rw [Bool.true_and]
   cases ba with
   | false =>
    rw [Bool.false_and]
    go_enter Tryz.func154, Tryz.ntmps154
    go_wp2_with (first
     | go_skip
     | (refine bx_boxK 31 (.tmp 0) (by exact rfl) (by exact rfl) (gc s x) (by exact rfl) ?_; intro b w0 hr0 hs0 hb0; obtain ⟨y0, y1, y2, y3, y4, y5, y6, y7, y8, y9, y10, y11, y12, y13, y14, y15, y16, y17⟩ := Bg.of hr0; have HR0 := jd hr0; have HB0 := jd hb0; clear hr0 hs0 hb0)
     | (refine bx_ldK 31 (.tmp 1) (by exact rfl) b (by exact rfl) (by exact rfl) (gc s x) _ (ju HR0) u31 (zP s x) ?_)
     | (refine bx_ldK 31 (.tmp 1) (by exact rfl) b (by exact rfl) (by exact rfl) (gc s x) _ (ju HR1) u31 (zP s x) ?_)
     | go_guarded
     | (go_at_call 188; refine ((ju H1) _ (ju HB0)).mono ?_; rintro e w9 ⟨rfl, hw9⟩; rw [hw9]; clear hw9)
     | (go_at_call 128; refine ((ju H2) _ (ju HB0)).mono ?_; rintro e w1 ⟨rfl, hb1⟩; obtain ⟨z0, z1, z2, z3, z4, z5, z6, z7, z8, z9, z10, z11, z12, z13, z14, z15, z16, z17⟩ := Bg.of (hb1.row (ju HR0)); have HR1 := jd (hb1.row (ju HR0)); have HB1 := jd ((ju HB0).trans hb1); clear hb1)
     | (go_at_call 82; refine ((ju H3) _ (ju HB1)).mono ?_; rintro e w9 ⟨rfl, hw9⟩; rw [hw9]; clear hw9)
     | (go_at_call 191; refine ((ju H4) _ _ (ju HB1) (ju HR1)).mono ?_; rintro e w9 ⟨rfl, hw9⟩; rw [hw9]; clear hw9))
    go_ret
    first
     | exact ⟨rfl, ju HB1⟩
     | exact ⟨rfl, ju HB0⟩
   | true =>
    rw [Bool.true_and]
    cases bm with
    | false =>
     rw [Bool.false_and]
     go_enter Tryz.func154, Tryz.ntmps154
     go_wp2_with (first
      | go_skip
      | (refine bx_boxK 31 (.tmp 0) (by exact rfl) (by exact rfl) (gc s x) (by exact rfl) ?_; intro b w0 hr0 hs0 hb0; obtain ⟨y0, y1, y2, y3, y4, y5, y6, y7, y8, y9, y10, y11, y12, y13, y14, y15, y16, y17⟩ := Bg.of hr0; have HR0 := jd hr0; have HB0 := jd hb0; clear hr0 hs0 hb0)
      | (refine bx_ldK 31 (.tmp 1) (by exact rfl) b (by exact rfl) (by exact rfl) (gc s x) _ (ju HR0) u31 (zP s x) ?_)
      | (refine bx_ldK 31 (.tmp 1) (by exact rfl) b (by exact rfl) (by exact rfl) (gc s x) _ (ju HR1) u31 (zP s x) ?_)
      | go_guarded
      | (go_at_call 188; refine ((ju H1) _ (ju HB0)).mono ?_; rintro e w9 ⟨rfl, hw9⟩; rw [hw9]; clear hw9)
      | (go_at_call 128; refine ((ju H2) _ (ju HB0)).mono ?_; rintro e w1 ⟨rfl, hb1⟩; obtain ⟨z0, z1, z2, z3, z4, z5, z6, z7, z8, z9, z10, z11, z12, z13, z14, z15, z16, z17⟩ := Bg.of (hb1.row (ju HR0)); have HR1 := jd (hb1.row (ju HR0)); have HB1 := jd ((ju HB0).trans hb1); clear hb1)
      | (go_at_call 82; refine ((ju H3) _ (ju HB1)).mono ?_; rintro e w9 ⟨rfl, hw9⟩; rw [hw9]; clear hw9)
      | (go_at_call 191; refine ((ju H4) _ _ (ju HB1) (ju HR1)).mono ?_; rintro e w9 ⟨rfl, hw9⟩; rw [hw9]; clear hw9))
     go_ret
     first
      | exact ⟨rfl, ju HB1⟩
      | exact ⟨rfl, ju HB0⟩
    | true =>
     rw [Bool.true_and]
     cases bv with
     | false =>
      rw [Bool.false_and]
      go_enter Tryz.func154, Tryz.ntmps154
      go_wp2_with (first
       | go_skip
       | (refine bx_boxK 31 (.tmp 0) (by exact rfl) (by exact rfl) (gc s x) (by exact rfl) ?_; intro b w0 hr0 hs0 hb0; obtain ⟨y0, y1, y2, y3, y4, y5, y6, y7, y8, y9, y10, y11, y12, y13, y14, y15, y16, y17⟩ := Bg.of hr0; have HR0 := jd hr0; have HB0 := jd hb0; clear hr0 hs0 hb0)
       | (refine bx_ldK 31 (.tmp 1) (by exact rfl) b (by exact rfl) (by exact rfl) (gc s x) _ (ju HR0) u31 (zP s x) ?_)
       | (refine bx_ldK 31 (.tmp 1) (by exact rfl) b (by exact rfl) (by exact rfl) (gc s x) _ (ju HR1) u31 (zP s x) ?_)
       | go_guarded
       | (go_at_call 188; refine ((ju H1) _ (ju HB0)).mono ?_; rintro e w9 ⟨rfl, hw9⟩; rw [hw9]; clear hw9)
       | (go_at_call 128; refine ((ju H2) _ (ju HB0)).mono ?_; rintro e w1 ⟨rfl, hb1⟩; obtain ⟨z0, z1, z2, z3, z4, z5, z6, z7, z8, z9, z10, z11, z12, z13, z14, z15, z16, z17⟩ := Bg.of (hb1.row (ju HR0)); have HR1 := jd (hb1.row (ju HR0)); have HB1 := jd ((ju HB0).trans hb1); clear hb1)
       | (go_at_call 82; refine ((ju H3) _ (ju HB1)).mono ?_; rintro e w9 ⟨rfl, hw9⟩; rw [hw9]; clear hw9)
       | (go_at_call 191; refine ((ju H4) _ _ (ju HB1) (ju HR1)).mono ?_; rintro e w9 ⟨rfl, hw9⟩; rw [hw9]; clear hw9))
      go_ret
      first
       | exact ⟨rfl, ju HB1⟩
       | exact ⟨rfl, ju HB0⟩
     | true =>
      rw [Bool.true_and]
      cases bn with
      | false =>
       go_enter Tryz.func154, Tryz.ntmps154
       go_wp2_with (first
        | go_skip
        | (refine bx_boxK 31 (.tmp 0) (by exact rfl) (by exact rfl) (gc s x) (by exact rfl) ?_; intro b w0 hr0 hs0 hb0; obtain ⟨y0, y1, y2, y3, y4, y5, y6, y7, y8, y9, y10, y11, y12, y13, y14, y15, y16, y17⟩ := Bg.of hr0; have HR0 := jd hr0; have HB0 := jd hb0; clear hr0 hs0 hb0)
        | (refine bx_ldK 31 (.tmp 1) (by exact rfl) b (by exact rfl) (by exact rfl) (gc s x) _ (ju HR0) u31 (zP s x) ?_)
        | (refine bx_ldK 31 (.tmp 1) (by exact rfl) b (by exact rfl) (by exact rfl) (gc s x) _ (ju HR1) u31 (zP s x) ?_)
        | go_guarded
        | (go_at_call 188; refine ((ju H1) _ (ju HB0)).mono ?_; rintro e w9 ⟨rfl, hw9⟩; rw [hw9]; clear hw9)
        | (go_at_call 128; refine ((ju H2) _ (ju HB0)).mono ?_; rintro e w1 ⟨rfl, hb1⟩; obtain ⟨z0, z1, z2, z3, z4, z5, z6, z7, z8, z9, z10, z11, z12, z13, z14, z15, z16, z17⟩ := Bg.of (hb1.row (ju HR0)); have HR1 := jd (hb1.row (ju HR0)); have HB1 := jd ((ju HB0).trans hb1); clear hb1)
        | (go_at_call 82; refine ((ju H3) _ (ju HB1)).mono ?_; rintro e w9 ⟨rfl, hw9⟩; rw [hw9]; clear hw9)
        | (go_at_call 191; refine ((ju H4) _ _ (ju HB1) (ju HR1)).mono ?_; rintro e w9 ⟨rfl, hw9⟩; rw [hw9]; clear hw9))
       go_ret
       first
        | exact ⟨rfl, ju HB1⟩
        | exact ⟨rfl, ju HB0⟩
      | true =>
       go_enter Tryz.func154, Tryz.ntmps154
       go_wp2_with (first
        | go_skip
        | (refine bx_boxK 31 (.tmp 0) (by exact rfl) (by exact rfl) (gc s x) (by exact rfl) ?_; intro b w0 hr0 hs0 hb0; obtain ⟨y0, y1, y2, y3, y4, y5, y6, y7, y8, y9, y10, y11, y12, y13, y14, y15, y16, y17⟩ := Bg.of hr0; have HR0 := jd hr0; have HB0 := jd hb0; clear hr0 hs0 hb0)
        | (refine bx_ldK 31 (.tmp 1) (by exact rfl) b (by exact rfl) (by exact rfl) (gc s x) _ (ju HR0) u31 (zP s x) ?_)
        | (refine bx_ldK 31 (.tmp 1) (by exact rfl) b (by exact rfl) (by exact rfl) (gc s x) _ (ju HR1) u31 (zP s x) ?_)
        | go_guarded
        | (go_at_call 188; refine ((ju H1) _ (ju HB0)).mono ?_; rintro e w9 ⟨rfl, hw9⟩; rw [hw9]; clear hw9)
        | (go_at_call 128; refine ((ju H2) _ (ju HB0)).mono ?_; rintro e w1 ⟨rfl, hb1⟩; obtain ⟨z0, z1, z2, z3, z4, z5, z6, z7, z8, z9, z10, z11, z12, z13, z14, z15, z16, z17⟩ := Bg.of (hb1.row (ju HR0)); have HR1 := jd (hb1.row (ju HR0)); have HB1 := jd ((ju HB0).trans hb1); clear hb1)
        | (go_at_call 82; refine ((ju H3) _ (ju HB1)).mono ?_; rintro e w9 ⟨rfl, hw9⟩; rw [hw9]; clear hw9)
        | (go_at_call 191; refine ((ju H4) _ _ (ju HB1) (ju HR1)).mono ?_; rintro e w9 ⟨rfl, hw9⟩; rw [hw9]; clear hw9))
       go_ret
       first
        | exact ⟨rfl, ju HB1⟩
        | exact ⟨rfl, ju HB0⟩
def leadB (s : GP) : Bool := (s.lead == s.id) && (decide (0 < s.term) && (((s.votes.length : Int) == 0) && (folB s && reaB s)))
set_option maxRecDepth 100000 in
set_option maxHeartbeats 8000000 in
theorem lead_g {W : World} {s : GP} {x : Px} (h : Gp W s x) (h0 : 0 ≤ s.base) (h1 : s.base ≤ 4611686018427387904) (hM : 0 < s.M.length) (hM2 : s.M.length ≤ 1000000) (hl : s.log.length ≤ 1000000) (hr : s.reads.length ≤ 1000000) (hra : ∀ r ∈ s.reads, r.a.length ≤ 17592186044416) : Calls Tryz.prog 153 #[.agg (gc s x)] W fun e w' => e = .returned (.bool (leadB s)) ∧ Bel W w' := by
 have H1 : Hid (∀ W', Bel W W' → Calls Tryz.prog 189 #[.agg (gc s x)] W' fun e w' => e = .returned (.bool (folB s)) ∧ Bel W' w') := jd (fun W' hb => follows_g (h.bel hb) h0 h1 hM hM2 hl)
 have H2 : Hid (∀ W', Bel W W' → Calls Tryz.prog 190 #[.agg (gc s x)] W' fun e w' => e = .returned (.bool (reaB s)) ∧ Bel W' w') := jd (fun W' hb => reads_g (h.r.bel hb) hr hra)
 clear h hM hM2 hl hr hra h0 h1
 unfold leadB
 generalize folB s = bf at *
 generalize reaB s = br at *
 generalize hvn : s.votes.length = vn at *
 cases q0 : (s.lead == s.id) with
 | false =>
  rw [Bool.false_and]
  go_enter Tryz.func153, Tryz.ntmps153
  go_wp2_with (first
   | go_skip
   | (refine bx_boxK 31 (.tmp 0) (by exact rfl) (by exact rfl) (gc s x) (by exact rfl) ?_; intro b w0 hr0 hs0 hb0; obtain ⟨y0, y1, y2, y3, y4, y5, y6, y7, y8, y9, y10, y11, y12, y13, y14, y15, y16, y17⟩ := Bg.of hr0; rw [hvn] at y14; have HR0 := jd hr0; have HB0 := jd hb0; clear hr0 hs0 hb0)
   | (refine bx_ldK 31 (.tmp 1) (by exact rfl) b (by exact rfl) (by exact rfl) (gc s x) _ (ju HR0) u31 (zP s x) ?_)
   | (refine bx_ldK 31 (.tmp 1) (by exact rfl) b (by exact rfl) (by exact rfl) (gc s x) _ (ju HR1) u31 (zP s x) ?_)
   | go_guarded
   | (go_at_call 189; refine ((ju H1) _ (ju HB0)).mono ?_; rintro e w1 ⟨rfl, hb1⟩; have HR1 := jd (hb1.row (ju HR0)); have HB1 := jd ((ju HB0).trans hb1); clear hb1)
   | (go_at_call 190; refine ((ju H2) _ (ju HB1)).mono ?_; rintro e w2 ⟨rfl, hb2⟩; have HB2 := jd ((ju HB1).trans hb2); clear hb2))
  go_ret
  first
   | exact ⟨rfl, ju HB2⟩
   | exact ⟨rfl, ju HB1⟩
   | exact ⟨rfl, ju HB0⟩
 | true =>
  rw [Bool.true_and]
  by_cases q1 : 0 < s.term
  ·rw [decide_eq_true q1, Bool.true_and]
   cases q2 : ((vn : Int) == 0) with
   | false =>
    rw [Bool.false_and]
    go_enter Tryz.func153, Tryz.ntmps153
    go_wp2_with (first
     | go_skip
     | (refine bx_boxK 31 (.tmp 0) (by exact rfl) (by exact rfl) (gc s x) (by exact rfl) ?_; intro b w0 hr0 hs0 hb0; obtain ⟨y0, y1, y2, y3, y4, y5, y6, y7, y8, y9, y10, y11, y12, y13, y14, y15, y16, y17⟩ := Bg.of hr0; rw [hvn] at y14; have HR0 := jd hr0; have HB0 := jd hb0; clear hr0 hs0 hb0)
     | (refine bx_ldK 31 (.tmp 1) (by exact rfl) b (by exact rfl) (by exact rfl) (gc s x) _ (ju HR0) u31 (zP s x) ?_)
     | (refine bx_ldK 31 (.tmp 1) (by exact rfl) b (by exact rfl) (by exact rfl) (gc s x) _ (ju HR1) u31 (zP s x) ?_)
     | go_guarded
     | (go_at_call 189; refine ((ju H1) _ (ju HB0)).mono ?_; rintro e w1 ⟨rfl, hb1⟩; have HR1 := jd (hb1.row (ju HR0)); have HB1 := jd ((ju HB0).trans hb1); clear hb1)
     | (go_at_call 190; refine ((ju H2) _ (ju HB1)).mono ?_; rintro e w2 ⟨rfl, hb2⟩; have HB2 := jd ((ju HB1).trans hb2); clear hb2))
    go_ret
    first
     | exact ⟨rfl, ju HB2⟩
     | exact ⟨rfl, ju HB1⟩
     | exact ⟨rfl, ju HB0⟩
   | true =>
    rw [Bool.true_and]
    cases bf with
    | false =>
     rw [Bool.false_and]
     go_enter Tryz.func153, Tryz.ntmps153
     go_wp2_with (first
      | go_skip
      | (refine bx_boxK 31 (.tmp 0) (by exact rfl) (by exact rfl) (gc s x) (by exact rfl) ?_; intro b w0 hr0 hs0 hb0; obtain ⟨y0, y1, y2, y3, y4, y5, y6, y7, y8, y9, y10, y11, y12, y13, y14, y15, y16, y17⟩ := Bg.of hr0; rw [hvn] at y14; have HR0 := jd hr0; have HB0 := jd hb0; clear hr0 hs0 hb0)
      | (refine bx_ldK 31 (.tmp 1) (by exact rfl) b (by exact rfl) (by exact rfl) (gc s x) _ (ju HR0) u31 (zP s x) ?_)
      | (refine bx_ldK 31 (.tmp 1) (by exact rfl) b (by exact rfl) (by exact rfl) (gc s x) _ (ju HR1) u31 (zP s x) ?_)
      | go_guarded
      | (go_at_call 189; refine ((ju H1) _ (ju HB0)).mono ?_; rintro e w1 ⟨rfl, hb1⟩; have HR1 := jd (hb1.row (ju HR0)); have HB1 := jd ((ju HB0).trans hb1); clear hb1)
      | (go_at_call 190; refine ((ju H2) _ (ju HB1)).mono ?_; rintro e w2 ⟨rfl, hb2⟩; have HB2 := jd ((ju HB1).trans hb2); clear hb2))
     go_ret
     first
      | exact ⟨rfl, ju HB2⟩
      | exact ⟨rfl, ju HB1⟩
      | exact ⟨rfl, ju HB0⟩
    | true =>
     rw [Bool.true_and]
     cases br with
     | false =>
      go_enter Tryz.func153, Tryz.ntmps153
      go_wp2_with (first
       | go_skip
       | (refine bx_boxK 31 (.tmp 0) (by exact rfl) (by exact rfl) (gc s x) (by exact rfl) ?_; intro b w0 hr0 hs0 hb0; obtain ⟨y0, y1, y2, y3, y4, y5, y6, y7, y8, y9, y10, y11, y12, y13, y14, y15, y16, y17⟩ := Bg.of hr0; rw [hvn] at y14; have HR0 := jd hr0; have HB0 := jd hb0; clear hr0 hs0 hb0)
       | (refine bx_ldK 31 (.tmp 1) (by exact rfl) b (by exact rfl) (by exact rfl) (gc s x) _ (ju HR0) u31 (zP s x) ?_)
       | (refine bx_ldK 31 (.tmp 1) (by exact rfl) b (by exact rfl) (by exact rfl) (gc s x) _ (ju HR1) u31 (zP s x) ?_)
       | go_guarded
       | (go_at_call 189; refine ((ju H1) _ (ju HB0)).mono ?_; rintro e w1 ⟨rfl, hb1⟩; have HR1 := jd (hb1.row (ju HR0)); have HB1 := jd ((ju HB0).trans hb1); clear hb1)
       | (go_at_call 190; refine ((ju H2) _ (ju HB1)).mono ?_; rintro e w2 ⟨rfl, hb2⟩; have HB2 := jd ((ju HB1).trans hb2); clear hb2))
      go_ret
      first
       | exact ⟨rfl, ju HB2⟩
       | exact ⟨rfl, ju HB1⟩
       | exact ⟨rfl, ju HB0⟩
     | true =>
      go_enter Tryz.func153, Tryz.ntmps153
      go_wp2_with (first
       | go_skip
       | (refine bx_boxK 31 (.tmp 0) (by exact rfl) (by exact rfl) (gc s x) (by exact rfl) ?_; intro b w0 hr0 hs0 hb0; obtain ⟨y0, y1, y2, y3, y4, y5, y6, y7, y8, y9, y10, y11, y12, y13, y14, y15, y16, y17⟩ := Bg.of hr0; rw [hvn] at y14; have HR0 := jd hr0; have HB0 := jd hb0; clear hr0 hs0 hb0)
       | (refine bx_ldK 31 (.tmp 1) (by exact rfl) b (by exact rfl) (by exact rfl) (gc s x) _ (ju HR0) u31 (zP s x) ?_)
       | (refine bx_ldK 31 (.tmp 1) (by exact rfl) b (by exact rfl) (by exact rfl) (gc s x) _ (ju HR1) u31 (zP s x) ?_)
       | go_guarded
       | (go_at_call 189; refine ((ju H1) _ (ju HB0)).mono ?_; rintro e w1 ⟨rfl, hb1⟩; have HR1 := jd (hb1.row (ju HR0)); have HB1 := jd ((ju HB0).trans hb1); clear hb1)
       | (go_at_call 190; refine ((ju H2) _ (ju HB1)).mono ?_; rintro e w2 ⟨rfl, hb2⟩; have HB2 := jd ((ju HB1).trans hb2); clear hb2))
      go_ret
      first
       | exact ⟨rfl, ju HB2⟩
       | exact ⟨rfl, ju HB1⟩
       | exact ⟨rfl, ju HB0⟩
  ·rw [decide_eq_false q1, Bool.false_and]
   go_enter Tryz.func153, Tryz.ntmps153
   go_wp2_with (first
    | go_skip
    | (refine bx_boxK 31 (.tmp 0) (by exact rfl) (by exact rfl) (gc s x) (by exact rfl) ?_; intro b w0 hr0 hs0 hb0; obtain ⟨y0, y1, y2, y3, y4, y5, y6, y7, y8, y9, y10, y11, y12, y13, y14, y15, y16, y17⟩ := Bg.of hr0; rw [hvn] at y14; have HR0 := jd hr0; have HB0 := jd hb0; clear hr0 hs0 hb0)
    | (refine bx_ldK 31 (.tmp 1) (by exact rfl) b (by exact rfl) (by exact rfl) (gc s x) _ (ju HR0) u31 (zP s x) ?_)
    | (refine bx_ldK 31 (.tmp 1) (by exact rfl) b (by exact rfl) (by exact rfl) (gc s x) _ (ju HR1) u31 (zP s x) ?_)
    | go_guarded
    | (go_at_call 189; refine ((ju H1) _ (ju HB0)).mono ?_; rintro e w1 ⟨rfl, hb1⟩; have HR1 := jd (hb1.row (ju HR0)); have HB1 := jd ((ju HB0).trans hb1); clear hb1)
    | (go_at_call 190; refine ((ju H2) _ (ju HB1)).mono ?_; rintro e w2 ⟨rfl, hb2⟩; have HB2 := jd ((ju HB1).trans hb2); clear hb2))
   go_ret
   first
    | exact ⟨rfl, ju HB2⟩
    | exact ⟨rfl, ju HB1⟩
    | exact ⟨rfl, ju HB0⟩
def rolB (s : GP) : Bool := if s.role = 2 then leadB s else if 0 < s.fol.length ∨ 0 < s.reads.length then false else if s.role = 1 then standB s else ((s.votes.length : Int) == 0)
set_option maxRecDepth 100000 in
set_option maxHeartbeats 8000000 in
theorem role_g {W : World} {s : GP} {x : Px} (h : Gp W s x) (h0 : 0 ≤ s.base) (h1 : s.base ≤ 4611686018427387904) (hM : 0 < s.M.length) (hM2 : s.M.length ≤ 1000000) (hv : s.votes.length ≤ 17592186044416) (hl : s.log.length ≤ 1000000) (hr : s.reads.length ≤ 1000000) (hra : ∀ r ∈ s.reads, r.a.length ≤ 17592186044416) : Calls Tryz.prog 106 #[.agg (gc s x)] W fun e w' => e = .returned (.bool (rolB s)) ∧ Bel W w' := by
 have H1 : Hid (∀ W', Bel W W' → Calls Tryz.prog 153 #[.agg (gc s x)] W' fun e w' => e = .returned (.bool (leadB s)) ∧ Bel W' w') := jd (fun W' hb => lead_g (h.bel hb) h0 h1 hM hM2 hl hr hra)
 have H2 : Hid (∀ W', Bel W W' → Calls Tryz.prog 154 #[.agg (gc s x)] W' fun e w' => e = .returned (.bool (standB s)) ∧ Bel W' w') := jd (fun W' hb => stand_g (h.bel hb) (by omega) hv)
 clear h hM hM2 hl hr hra hv h0 h1
 unfold rolB
 generalize leadB s = bl at *
 generalize standB s = bs at *
 generalize hfn : s.fol.length = fn at *
 generalize hrn : s.reads.length = rn at *
 generalize hvn : s.votes.length = vn at *
 by_cases k2 : s.role = 2
 ·rw [if_pos k2]
  have e2 : (s.role == 2) = true := by simp [k2]
  clear k2
  go_enter Tryz.func106, Tryz.ntmps106
  go_wp2_with (first
   | go_skip
   | (refine bx_boxK 31 (.tmp 0) (by exact rfl) (by exact rfl) (gc s x) (by exact rfl) ?_; intro b w0 hr0 hs0 hb0; obtain ⟨y0, y1, y2, y3, y4, y5, y6, y7, y8, y9, y10, y11, y12, y13, y14, y15, y16, y17⟩ := Bg.of hr0; rw [hvn] at y14; rw [hfn] at y15; rw [hrn] at y17; have HR0 := jd hr0; have HB0 := jd hb0; clear hr0 hs0 hb0)
   | (refine bx_ldK 31 (.tmp 1) (by exact rfl) b (by exact rfl) (by exact rfl) (gc s x) _ (ju HR0) u31 (zP s x) ?_)
   | go_guarded
   | (go_at_call 153; refine ((ju H1) _ (ju HB0)).mono ?_; rintro e w1 ⟨rfl, hb1⟩; have HB1 := jd ((ju HB0).trans hb1); clear hb1)
   | (go_at_call 154; refine ((ju H2) _ (ju HB0)).mono ?_; rintro e w1 ⟨rfl, hb1⟩; have HB1 := jd ((ju HB0).trans hb1); clear hb1))
  go_ret
  first
   | exact ⟨rfl, ju HB1⟩
   | exact ⟨rfl, ju HB0⟩
 ·rw [if_neg k2]
  have e2 : (s.role == 2) = false := by simp [k2]
  by_cases kf : 0 < fn
  ·rw [if_pos (Or.inl kf)]
   have kf2 : (0 : Int) < fn := by omega
   go_enter Tryz.func106, Tryz.ntmps106
   go_wp2_with (first
    | go_skip
    | (refine bx_boxK 31 (.tmp 0) (by exact rfl) (by exact rfl) (gc s x) (by exact rfl) ?_; intro b w0 hr0 hs0 hb0; obtain ⟨y0, y1, y2, y3, y4, y5, y6, y7, y8, y9, y10, y11, y12, y13, y14, y15, y16, y17⟩ := Bg.of hr0; rw [hvn] at y14; rw [hfn] at y15; rw [hrn] at y17; have HR0 := jd hr0; have HB0 := jd hb0; clear hr0 hs0 hb0)
    | (refine bx_ldK 31 (.tmp 1) (by exact rfl) b (by exact rfl) (by exact rfl) (gc s x) _ (ju HR0) u31 (zP s x) ?_)
    | go_guarded
    | (go_at_call 153; refine ((ju H1) _ (ju HB0)).mono ?_; rintro e w1 ⟨rfl, hb1⟩; have HB1 := jd ((ju HB0).trans hb1); clear hb1)
    | (go_at_call 154; refine ((ju H2) _ (ju HB0)).mono ?_; rintro e w1 ⟨rfl, hb1⟩; have HB1 := jd ((ju HB0).trans hb1); clear hb1))
   go_ret
   first
    | exact ⟨rfl, ju HB1⟩
    | exact ⟨rfl, ju HB0⟩
  ·have kf2 : ¬ ((0 : Int) < fn) := by omega
   by_cases kr : 0 < rn
   ·rw [if_pos (Or.inr kr)]
    have kr2 : (0 : Int) < rn := by omega
    go_enter Tryz.func106, Tryz.ntmps106
    go_wp2_with (first
     | go_skip
     | (refine bx_boxK 31 (.tmp 0) (by exact rfl) (by exact rfl) (gc s x) (by exact rfl) ?_; intro b w0 hr0 hs0 hb0; obtain ⟨y0, y1, y2, y3, y4, y5, y6, y7, y8, y9, y10, y11, y12, y13, y14, y15, y16, y17⟩ := Bg.of hr0; rw [hvn] at y14; rw [hfn] at y15; rw [hrn] at y17; have HR0 := jd hr0; have HB0 := jd hb0; clear hr0 hs0 hb0)
     | (refine bx_ldK 31 (.tmp 1) (by exact rfl) b (by exact rfl) (by exact rfl) (gc s x) _ (ju HR0) u31 (zP s x) ?_)
     | go_guarded
     | (go_at_call 153; refine ((ju H1) _ (ju HB0)).mono ?_; rintro e w1 ⟨rfl, hb1⟩; have HB1 := jd ((ju HB0).trans hb1); clear hb1)
     | (go_at_call 154; refine ((ju H2) _ (ju HB0)).mono ?_; rintro e w1 ⟨rfl, hb1⟩; have HB1 := jd ((ju HB0).trans hb1); clear hb1))
    go_ret
    first
     | exact ⟨rfl, ju HB1⟩
     | exact ⟨rfl, ju HB0⟩
   ·rw [if_neg (by omega)]
    have kr2 : ¬ ((0 : Int) < rn) := by omega
    by_cases k1 : s.role = 1
    ·rw [if_pos k1]
     have e1 : (s.role == 1) = true := by simp [k1]
     clear k1 k2
     go_enter Tryz.func106, Tryz.ntmps106
     go_wp2_with (first
      | go_skip
      | (refine bx_boxK 31 (.tmp 0) (by exact rfl) (by exact rfl) (gc s x) (by exact rfl) ?_; intro b w0 hr0 hs0 hb0; obtain ⟨y0, y1, y2, y3, y4, y5, y6, y7, y8, y9, y10, y11, y12, y13, y14, y15, y16, y17⟩ := Bg.of hr0; rw [hvn] at y14; rw [hfn] at y15; rw [hrn] at y17; have HR0 := jd hr0; have HB0 := jd hb0; clear hr0 hs0 hb0)
      | (refine bx_ldK 31 (.tmp 1) (by exact rfl) b (by exact rfl) (by exact rfl) (gc s x) _ (ju HR0) u31 (zP s x) ?_)
      | go_guarded
      | (go_at_call 153; refine ((ju H1) _ (ju HB0)).mono ?_; rintro e w1 ⟨rfl, hb1⟩; have HB1 := jd ((ju HB0).trans hb1); clear hb1)
      | (go_at_call 154; refine ((ju H2) _ (ju HB0)).mono ?_; rintro e w1 ⟨rfl, hb1⟩; have HB1 := jd ((ju HB0).trans hb1); clear hb1))
     go_ret
     first
      | exact ⟨rfl, ju HB1⟩
      | exact ⟨rfl, ju HB0⟩
    ·rw [if_neg k1]
     have e1 : (s.role == 1) = false := by simp [k1]
     clear k1 k2
     go_enter Tryz.func106, Tryz.ntmps106
     go_wp2_with (first
      | go_skip
      | (refine bx_boxK 31 (.tmp 0) (by exact rfl) (by exact rfl) (gc s x) (by exact rfl) ?_; intro b w0 hr0 hs0 hb0; obtain ⟨y0, y1, y2, y3, y4, y5, y6, y7, y8, y9, y10, y11, y12, y13, y14, y15, y16, y17⟩ := Bg.of hr0; rw [hvn] at y14; rw [hfn] at y15; rw [hrn] at y17; have HR0 := jd hr0; have HB0 := jd hb0; clear hr0 hs0 hb0)
      | (refine bx_ldK 31 (.tmp 1) (by exact rfl) b (by exact rfl) (by exact rfl) (gc s x) _ (ju HR0) u31 (zP s x) ?_)
      | go_guarded
      | (go_at_call 153; refine ((ju H1) _ (ju HB0)).mono ?_; rintro e w1 ⟨rfl, hb1⟩; have HB1 := jd ((ju HB0).trans hb1); clear hb1)
      | (go_at_call 154; refine ((ju H2) _ (ju HB0)).mono ?_; rintro e w1 ⟨rfl, hb1⟩; have HB1 := jd ((ju HB0).trans hb1); clear hb1))
     go_ret
     first
      | exact ⟨rfl, ju HB1⟩
      | exact ⟨rfl, ju HB0⟩
end Go.Proofs.YthekbhliokcpcaaGreat
