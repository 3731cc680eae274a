/- campaign. -/
import Derived.Test.YthekbhliokcpcaaGreatWin
namespace Go.Proofs.YthekbhliokcpcaaGreat
open Go.RowKit Go.Maps Go.Sort
/-- A row of one thing that was just laid. -/
theorem El.O.built {α : Type} {E : El α} (W : World) (x : α) : E.O W.heap.size (W.alloc (.cells (E.enc x).toArray E.e)) (.slice (some ⟨W.heap.size, 0, none⟩) 1 1) [x] := by
  have h1 : (E.fl [x]).length = 1 * E.k := by rw [E.fl_len]; rfl
  refine ⟨h1, Or.inr ⟨W.heap.size, 1, (E.enc x).toArray, rfl, Nat.le_refl _, at_new W _, Nat.le_refl _, by unfold maxLen; omega, by simp [E.len], ?_⟩⟩
  rw [E.fl_one]
  show List.take (1 * E.k) (E.enc x) = E.enc x
  rw [Nat.one_mul, ← E.len x, List.take_length]
theorem Wz.app44 {base : Nat} {K : Nat → Prop} {W w w' : World} {b b2 n : Nat} {s : PP} {x : Px} {v : Value} {L : List PM} (h : Wz base K W w b b2 n s x) (hO : E44.O W.heap.size w v L) (hg : w.grownBy w' v.ownBlock) : Wz base K W w' b b2 n s x := by
  obtain ⟨s2, x2, n2, h2⟩ := h.row2
  exact ⟨row_grown h.row hO hg (by decide), ⟨h.pf.m.grown hO hg (by decide), h.pf.b.grown hO hg (by decide), h.pf.l.grown hO hg (by decide), h.pf.v.grown hO hg (by decide), h.pf.f.grown hO hg (by decide), h.pf.dv⟩, h.bel.grown hg (fun i hi => Or.inr (hO.lt hi).1), ⟨s2, x2, n2, row_grown h2 hO hg (by decide)⟩, h.ge, h.ge2, h.ne, h.hw, h.cq⟩
theorem Cq.kx {K : Nat → Prop} {W : World} {s : PP} {x : Px} (h : Cq K W s x) : ∀ k, Kx s x k → K k ∨ W.heap.size ≤ k := fun k hk => hk.elim (h.1 k) (fun hk => hk.elim (h.2.1 k) (h.2.2 k))
theorem Kx.types {base : Nat} {W : World} {n : Nat} {s : PP} {x : Px} (h : Pf base W n s x) {k : Nat} (hk : Kx s x k) {c : Array Value} {t : Nat} (hr : W.heap[k]? = some (.cells c t)) : t = 53 ∨ t = 79 ∨ t = 3 := by
  rcases hk with hk | hk | hk
  · obtain ⟨c2, hc2⟩ := h.l.block hk
    rw [hr] at hc2; injection (Option.some.inj hc2) with _ h3; exact Or.inl h3
  · obtain ⟨c2, hc2⟩ := h.f.block hk
    rw [hr] at hc2; injection (Option.some.inj hc2) with _ h3; exact Or.inr (Or.inl h3)
  · obtain ⟨c2, hc2⟩ := h.v.block hk
    rw [hr] at hc2; injection (Option.some.inj hc2) with _ h3; exact Or.inr (Or.inr h3)
theorem Kx.row {base : Nat} {W w' : World} {n : Nat} {s : PP} {x : Px} (h : Pf base W n s x) (hc : Ch (Kx s x) W w') {b : Nat} {c : Array Value} {t : Nat} (hr : W.heap[b]? = some (.cells c t)) (ht : t ≠ 53 ∧ t ≠ 79 ∧ t ≠ 3) : w'.heap[b]? = some (.cells c t) :=
  hc.row hr (fun hk => by rcases Kx.types h hk hr with e | e | e; exact ht.1 e; exact ht.2.1 e; exact ht.2.2 e)
theorem Kx.own {base bb : Nat} {W w' : World} {n : Nat} {s : PP} {x : Px} {α : Type} {E : El α} {v : Value} {L : List α} (h : Pf base W n s x) (hc : Ch (Kx s x) W w') (hO : E.O bb W v L) (ht : E.e ≠ 53 ∧ E.e ≠ 79 ∧ E.e ≠ 3) : E.O bb w' v L :=
  hO.at (fun k hk => hc.block k (hO.lt hk).2 (fun hx => by
    obtain ⟨c, hr⟩ := hO.block hk
    rcases Kx.types h hx hr with e | e | e
    · exact ht.1 e
    · exact ht.2.1 e
    · exact ht.2.2 e))
/-- How campaign's loop stands. -/
def CamR (base : Nat) (K : Nat → Prop) (W : World) (b b2 n : Nat) (s : PP) (x : Px) (no : Nat) (o6 : List Int) (a6 : Option Addr) (c6 : Nat) (tm I tT : Int) (va vk : Value) (wr : World) : Prop := ∃ (k : Nat) (aA : Option Addr) (cA : Nat) (A : List PM), k ≤ no ∧ vk = .int .i64 k ∧ va = .slice aA A.length cA ∧ Hid (A = (o6.take k).map fun i => (⟨1, s.id, i, tm, I, tT, false⟩ : PM)) ∧ Hid (Wz base K W wr b b2 n s x ∧ E3.O 0 wr (.slice a6 no c6) o6 ∧ E44.O W.heap.size wr (.slice aA A.length cA) A)
set_option maxRecDepth 100000 in
set_option maxHeartbeats 2000000 in
theorem campaign_any {base : Nat} {W : World} {n : Nat} {s : PP} {x : Px} (h : Pf base W n s x) (hB : base ≤ W.heap.size) (hn : n ≤ 64) (hi : 1 ≤ s.id ∧ s.id ≤ n) (hl : s.log.length ≤ 999999) (ht : 0 ≤ s.term ∧ s.term ≤ 1000000) (hf : s.fol = []) (draw : Int) (hd : 0 ≤ draw) : Calls Tryz.prog 129 #[.agg (pc n s x), .int .i64 draw] W fun e w' => ∃ x' aA cA, e = .returned (.tuple #[.agg (pc n ((s.cand draw).winIf n) x'), .slice aA ((s.cand draw).asks n).length cA]) ∧ Pf base w' n ((s.cand draw).winIf n) x' ∧ E44.O W.heap.size w' (.slice aA ((s.cand draw).asks n).length cA) ((s.cand draw).asks n) ∧ Ch (Kx s x) W w' := by
  have h1 : 1 ≤ n := by omega
  have HP := hide h
  have HBS := hide hB
  have HNN := hide (And.intro hn h1)
  have HL := hide hl
  have HF0 := hide hf
  have HI := hide hi
  have hw1 : IntKind.u64.wrap (s.term + 1) = s.term + 1 := by rw [IntKind.wrap_u64]; omega
  have hmd : draw.tmod 10 = draw % 10 := Int.tmod_eq_emod_of_nonneg hd
  have hm2 : 0 ≤ draw % 10 ∧ draw % 10 < 10 := by omega
  have hw2 : IntKind.i64.wrap (10 + draw % 10) = 10 + draw % 10 := wrapI (by omega) (by omega)
  clear h hB hn hi hl ht hf h1
  go_enter Tryz.func129, Tryz.ntmps129
  go_wp2_with (first
    | (refine bx_box rfl 31 _ rfl (pc n s x) rfl ?_; intro b w0 hr0 hs0 hb0; have HR0 := hide hr0; have HB0 := hide (And.intro hb0 hs0); clear hr0 hs0 hb0)
    | (refine bx_new rfl 31 rfl _ Tryz.zero32 ?_; intro b2 w1 hr1 hs1 hb1; have y0 := (Bx.of (hb1.row (unhide HR0))).c0; have y1 := (Bx.of (hb1.row (unhide HR0))).c1; have y2 := (Bx.of (hb1.row (unhide HR0))).c2; have y14 := (Bx.of (hb1.row (unhide HR0))).c14; have HBW := hide ((unhide HB0).1.trans hb1); have HZ : Hid (Wz base (Kx s x) W w1 b b2 n s x) := hide ⟨hb1.row (unhide HR0), (unhide HP).bel ((unhide HB0).1.trans hb1), ((unhide HB0).1.trans hb1).ch _, ⟨_, _, _, hr1⟩, by have := (unhide HB0).2; omega, by have := (unhide HB0).1.size; omega, fun e => by have := lt_of_some (unhide HR0); omega, unhide HBS, Kx.cq W s x⟩; clear hr1 hs1 hb1)
    | (refine fl_term rfl _ _ rfl b _ rfl rfl (unhide HZ).row ?_; intro w3 hr3 hc3; have y0 := (Bx.of hr3).c0; have y1 := (Bx.of hr3).c1; have y2 := (Bx.of hr3).c2; have y10 := (Bx.of hr3).c10; have y15 := (Bx.of hr3).c15; replace HZ := hide ((unhide HZ).set hr3 hc3 (by have p := (unhide HZ).pf.box (unhide HZ).row hc3; exact ⟨p.m, p.b, p.l, p.v, p.f, p.dv⟩) (unhide HZ).cq); clear hr3 hc3)
    | (refine fl_role rfl _ _ rfl b _ rfl rfl (unhide HZ).row ?_; intro w3 hr3 hc3; have y0 := (Bx.of hr3).c0; have y1 := (Bx.of hr3).c1; have y2 := (Bx.of hr3).c2; have y10 := (Bx.of hr3).c10; have y15 := (Bx.of hr3).c15; replace HZ := hide ((unhide HZ).set hr3 hc3 (by have p := (unhide HZ).pf.box (unhide HZ).row hc3; exact ⟨p.m, p.b, p.l, p.v, p.f, p.dv⟩) (unhide HZ).cq); clear hr3 hc3)
    | (refine fl_lead rfl _ _ rfl b _ rfl rfl (unhide HZ).row ?_; intro w3 hr3 hc3; have y0 := (Bx.of hr3).c0; have y1 := (Bx.of hr3).c1; have y2 := (Bx.of hr3).c2; have y10 := (Bx.of hr3).c10; have y15 := (Bx.of hr3).c15; replace HZ := hide ((unhide HZ).set hr3 hc3 (by have p := (unhide HZ).pf.box (unhide HZ).row hc3; exact ⟨p.m, p.b, p.l, p.v, p.f, p.dv⟩) (unhide HZ).cq); clear hr3 hc3)
    | (refine fl_idle rfl _ _ rfl b _ rfl rfl (unhide HZ).row ?_; intro w3 hr3 hc3; have y0 := (Bx.of hr3).c0; have y1 := (Bx.of hr3).c1; have y2 := (Bx.of hr3).c2; have y10 := (Bx.of hr3).c10; have y15 := (Bx.of hr3).c15; replace HZ := hide ((unhide HZ).set hr3 hc3 (by have p := (unhide HZ).pf.box (unhide HZ).row hc3; exact ⟨p.m, p.b, p.l, p.v, p.f, p.dv⟩) (unhide HZ).cq); clear hr3 hc3)
    | (refine fl_wait rfl _ _ rfl b _ rfl rfl (unhide HZ).row ?_; intro w3 hr3 hc3; have y0 := (Bx.of hr3).c0; have y1 := (Bx.of hr3).c1; have y2 := (Bx.of hr3).c2; have y10 := (Bx.of hr3).c10; have y15 := (Bx.of hr3).c15; replace HZ := hide ((unhide HZ).set hr3 hc3 (by have p := (unhide HZ).pf.box (unhide HZ).row hc3; exact ⟨p.m, p.b, p.l, p.v, p.f, p.dv⟩) (unhide HZ).cq); clear hr3 hc3)
    | (refine fl_vote rfl _ _ rfl b _ rfl rfl ((unhide HZ).next ((Bel.refl _).alloc (.cells #[.int .i64 s.id] 3))).row ?_; intro w3 hr3 hc3; have y0 := (Bx.of hr3).c0; have y1 := (Bx.of hr3).c1; have y2 := (Bx.of hr3).c2; have y10 := (Bx.of hr3).c10; have y15 := (Bx.of hr3).c15;  have HVo := hide (And.intro ((El.O.built (E := E3) _ s.id).box ((unhide HZ).next ((Bel.refl _).alloc (.cells #[.int .i64 s.id] 3))).row (by decide) hc3) (And.intro (unhide HZ).bel.size (unhide HZ).pf)); replace HZ := hide (((unhide HZ).next ((Bel.refl _).alloc (.cells #[.int .i64 s.id] 3))).set hr3 hc3 (by have p := ((unhide HZ).next ((Bel.refl _).alloc (.cells #[.int .i64 s.id] 3))).pf.box ((unhide HZ).next ((Bel.refl _).alloc (.cells #[.int .i64 s.id] 3))).row hc3; exact ⟨p.m, p.b, p.l, p.v, p.f, p.dv⟩) (unhide HZ).cq); clear hr3 hc3)
    | (refine fl_votes rfl _ _ rfl b _ [s.id] 1 rfl rfl (unhide HZ).row ?_; intro w3 hr3 hc3; have y0 := (Bx.of hr3).c0; have y1 := (Bx.of hr3).c1; have y2 := (Bx.of hr3).c2; have y10 := (Bx.of hr3).c10; have y15 := (Bx.of hr3).c15;  replace HZ := hide ((unhide HZ).set hr3 hc3 (by have p := (unhide HZ).pf.box (unhide HZ).row hc3; exact ⟨p.m, p.b, p.l, ((unhide HVo).1.mono (Nat.le_trans (unhide HZ).hw (unhide HVo).2.1)).box (unhide HZ).row (by decide) hc3, p.f, fun k j hk hj => by cases hk; exact hj.elim (fun e => ((unhide HVo).2.2.m.lt e).2) (fun e => ((unhide HVo).2.2.b.lt e).2)⟩) ⟨(unhide HZ).cq.1, (unhide HZ).cq.2.1, fun k hk => by cases hk; exact Or.inr (unhide HVo).2.1⟩); clear hr3 hc3)
    | (go_at_call 79; refine (last_any (unhide HZ).pf.pw.l (show s.log.length ≤ 1000000 from by have := unhide HL; omega)).mono ?_; rintro e w5 ⟨he5, hb5⟩; obtain ⟨I, tT, hI, hT, hIT⟩ : ∃ I tT, I = (s.cand draw).lastI ∧ tT = (s.cand draw).lastT ∧ e = .returned (.tuple #[.int .u64 I, .int .u64 tT]) := ⟨_, _, rfl, rfl, he5⟩; clear he5; subst hIT; have HIT := hide (And.intro hI hT); clear hI hT; replace HZ := hide ((unhide HZ).next hb5); clear hb5)
    | (go_at_call 169; refine (others_own (unhide HZ).pf.pw.m (unhide HNN).1 (unhide HNN).2).mono ?_; rintro e w6 ⟨a6, c6, rfl, hs6, hb6⟩; have HS6 := hide (hs6.mono (Nat.zero_le _)); have HX6 : Hid (∃ x1, Wz base (Kx s x) W w6 b b2 n (s.cand draw) x1) := hide ⟨_, (unhide HZ).next hb6⟩; clear hb6 hs6)
    | (refine bx_ldG rfl 31 _ rfl b rfl _ _ (unhide HZ).row Tryz.underlying31 (Tryz.size32 _ _ _) ?_))
  obtain ⟨x1, hx1⟩ := unhide HX6
  have HZ1 := hide hx1
  have HAK : Hid ((s.cand draw).asks n = (oth n s.id).map fun i => (⟨1, s.id, i, s.term + 1, I, tT, false⟩ : PM)) := hide (by rw [(unhide HIT).1, (unhide HIT).2]; rfl)
  clear hx1 HX6 HZ
  clear y0 y1 y2 y10 y15 y14
  have hoI : oth n (s.cand draw).id = oth n s.id := rfl
  generalize hno : (oth n s.id).length = no at *
  have hno64 : no ≤ 64 := by rw [← hno]; exact Nat.le_trans (List.length_filter_le _ _) (by rw [mem_len]; exact (unhide HNN).1)
  go_loopw [8, 37] (CamR base (Kx s x) W b b2 n (s.cand draw) x1 no (oth n s.id) a6 c6 (s.term + 1) I tT) (fun _ vk _ => no - (intOf vk).toNat)
  case atStart => exact ⟨0, none, 0, [], Nat.zero_le _, rfl, rfl, hide rfl, hide ⟨unhide HZ1, unhide HS6, El.O.nil _ _⟩⟩
  case round =>
    obtain ⟨k, aA, cA, A, hk, rfl, rfl, HAk, HZr⟩ := hrel
    have z0 : wr.cell? ⟨b, 0, none⟩ = some (.int .i64 s.id) := (Bx.of (unhide HZr).1.row).c0
    have z2 : wr.cell? ⟨b, 2, none⟩ = some (.int .u64 (s.term + 1)) := (Bx.of (unhide HZr).1.row).c2
    by_cases hlt : k < no
    · have hkn : (k : Int) < no := by omega
      have hkl : k < (oth n s.id).length := by rw [hno]; exact hlt
      obtain ⟨g6, rfl⟩ : ∃ g6, a6 = some ⟨g6, 0, none⟩ := by
        obtain ⟨a', c', g', e, hh, _⟩ := (unhide HZr).2.1.shape
        injection e with e1
        exact ⟨g', e1.trans (hh (by omega))⟩
      have hR6 : E3.R wr g6 0 (oth n s.id) := by have := (unhide HZr).2.1; rw [← hno] at this; exact this.row
      have r0 := E3_cell hR6 k hkl
      rw [Nat.zero_add] at r0
      obtain ⟨A', hA'⟩ : ∃ A', A' = A ++ [(⟨1, s.id, (oth n s.id)[k], s.term + 1, I, tT, false⟩ : PM)] := ⟨_, rfl⟩
      have HA2 : Hid (A' = ((oth n s.id).take (k + 1)).map fun i => (⟨1, s.id, i, s.term + 1, I, tT, false⟩ : PM)) := hide (by
        rw [hA', show A = ((oth n s.id).take k).map fun i => (⟨1, s.id, i, s.term + 1, I, tT, false⟩ : PM) from unhide HAk, List.take_add_one, List.getElem?_eq_getElem hkl, List.map_append]; rfl)
      have HA' := hide hA'
      have hAl : A.length ≤ 64 := by rw [show A = ((oth n s.id).take k).map fun i => (⟨1, s.id, i, s.term + 1, I, tT, false⟩ : PM) from unhide HAk]; simp; omega
      generalize (oth n s.id)[k] = to at *
      clear hA' hR6
      go_wp2_with (first
        | (at_builtin; refine app1_el (E := E44) (⟨1, s.id, to, s.term + 1, I, tT, false⟩ : PM) A' (unhide HA') ((unhide HZr).2.2.bel ((Bel.refl _).alloc _)) (Nat.le_trans (unhide HZr).1.bel.size ((Bel.refl _).alloc _).size) _ _ (at_new _ _) (by omega) rfl _ _ 47 rfl rfl rfl rfl ?_; intro gA capA w4 ho4 hg4 hat4; have hZ4 := (unhide HZr).1.next ((Bel.refl wr).alloc (.cells (encM (⟨1, s.id, to, s.term + 1, I, tT, false⟩ : PM)).toArray 87)); have hO4 := (unhide HZr).2.2.bel ((Bel.refl wr).alloc (.cells (encM (⟨1, s.id, to, s.term + 1, I, tT, false⟩ : PM)).toArray 87)); have HZ4 : Hid (Wz base (Kx s x) W w4 b b2 n (s.cand draw) x1 ∧ E3.O 0 w4 (.slice (some ⟨g6, 0, none⟩) no c6) (oth n s.id) ∧ E44.O W.heap.size w4 (.slice (some ⟨gA, 0, none⟩) A'.length capA) A') := hide ⟨hZ4.app44 hO4 hg4, ((unhide HZr).2.1.bel ((Bel.refl wr).alloc _)).grown hO4 hg4 (by decide), ho4⟩; clear hZ4 hO4 ho4 hg4 hat4))
      go_roundw
      case rel =>
        have hfin : ∀ v : Value, v = .int .i64 ((k + 1 : Nat) : Int) → CamR base (Kx s x) W b b2 n (s.cand draw) x1 no (oth n s.id) (some ⟨g6, 0, none⟩) c6 (s.term + 1) I tT (.slice (some ⟨gA, 0, none⟩) A'.length capA) v w4 := fun v hv => ⟨k + 1, _, _, A', by omega, hv, rfl, HA2, HZ4⟩
        first
          | exact hfin _ (by go_num)
          | ((repeat apply Exists.intro); exact ⟨hfin _ (by go_num), rfl⟩)
      case measure => simp [intOf]; omega
    · obtain rfl : k = no := by omega
      have hAA : A = (s.cand draw).asks n := by
        rw [unhide HAK, show A = ((oth n s.id).take k).map fun i => (⟨1, s.id, i, s.term + 1, I, tT, false⟩ : PM) from unhide HAk, List.take_of_length_le (by omega)]
      have HC : Hid (Calls Tryz.prog 170 #[.agg (pc n (s.cand draw) x1)] wr fun e w' => ∃ x', e = .returned (.agg (pc n ((s.cand draw).winIf n) x')) ∧ Pf base w' n ((s.cand draw).winIf n) x' ∧ Ch (Kx (s.cand draw) x1) wr w') := hide (win_any (unhide HZr).1.pf (Nat.le_trans (unhide HZr).1.hw (unhide HZr).1.bel.size) (unhide HNN).1 (unhide HNN).2 (unhide HL) (List.pairwise_singleton _ _) (fun y hy => by have : y ∈ [s.id] := hy; simp at this; rw [this]; exact unhide HI) (unhide HF0))
      subst hAA
      have HZ := hide (unhide HZr).1
      clear z0 z2
      generalize hnA : ((s.cand draw).asks n).length = nA at *
      generalize hsc : s.cand draw = sc at *
      have HSC := hide (And.intro hsc hnA)
      clear hsc hnA
      go_wp2_with (first
        | (refine bx_ldG rfl 31 _ rfl b rfl _ _ (unhide HZ).row Tryz.underlying31 (Tryz.size32 _ _ _) ?_)
        | (go_at_call 170; refine (unhide HC).mono ?_; rintro e w8 ⟨x8, rfl, hp8, hc8⟩; obtain ⟨s2, x2, n2, h2⟩ := (unhide HZ).row2; have HW8 := hide (And.intro hp8 (And.intro ((unhide HZ).bel.trans hc8 (fun i hi => ((unhide HZ).cq.kx i hi))) (And.intro (Kx.own (unhide HZ).pf hc8 (unhide HZr).2.2 (by decide)) (Kx.row (unhide HZ).pf hc8 h2 (by decide))))); clear hp8 hc8 h2)
        | (refine bx_st rfl 31 _ _ rfl b2 _ _ rfl rfl (unhide HW8).2.2.2 (Tryz.size32 _ _ _) rfl (pc_one _ _ _) ?_; intro w9 hr9 hc9; have HR9 := hide (And.intro hr9 (And.intro ((unhide HW8).1.box (unhide HW8).2.2.2 hc9) (And.intro ((unhide HW8).2.2.1.box (unhide HW8).2.2.2 (by decide) hc9) (ch_off (unhide HW8).2.1 hc9 (unhide HZ).ge2)))); clear hr9 hc9))
      obtain ⟨hsc, hnA⟩ := unhide HSC
      subst hsc hnA
      refine bodyPost_ret (res2 (p := 4) (q := 5) rfl Tryz.underlying31 (Tryz.size32 _ _ _) (unhide HR9).1 _ _ rfl rfl) rfl ⟨_, _, _, rfl, (unhide HR9).2.1, (unhide HR9).2.2.1, (unhide HR9).2.2.2⟩
end Go.Proofs.YthekbhliokcpcaaGreat
