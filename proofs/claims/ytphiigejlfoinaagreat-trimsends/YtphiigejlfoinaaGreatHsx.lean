/- Lists and messages, as the document holds them against each other. A message is the same as itself, wherever its lists lie: the document's SameMsg. small, of the law of trimmed logs. -/
import Derived.Test.YtphiigejlfoinaaGreatHmg
import Derived.Test.YtphiigejlfoinaaGreatHld
namespace Go.Proofs.YtphiigejlfoinaaGreat
open Go.RowKit Go.Maps
set_option maxRecDepth 100000 in
set_option maxHeartbeats 2000000 in
theorem sameInts_any {W : World} {a b : Option Addr} {l k : List Int} (h : Sl E3 W a l) (h2 : Sl E3 W b k) (cap cap2 : Nat) (hl : l.length ≤ 9000000000000000000) : Calls Tryz.prog 28 #[.slice a l.length cap, .slice b k.length cap2] W fun e w' => e = .returned (.bool (decide (l = k))) ∧ ∃ m, w' = W.drewN m := by
  by_cases hd : l.length = k.length
  · obtain ⟨g, off, hg, hR⟩ := h
    obtain ⟨g2, off2, hg2, hR2⟩ := h2
    have HM : Hid (k.length = l.length) := hide hd.symm
    rw [← hd]
    generalize hn : l.length = n at *
    have HN := hide hn
    have HG := hide hg
    have HR := hide hR
    have HG2 := hide hg2
    have HR2 := hide hR2
    clear hn hg hR hg2 hR2 hd
    go_enter Tryz.func28, Tryz.ntmps28
    go_wp2_with fail
    go_loopw [5] (fun vk wr => ∃ i j : Nat, i ≤ n ∧ vk = .int .i64 i ∧ wr = W.drewN j ∧ Hid (l.take i = k.take i)) (fun vk _ => n - (intOf vk).toNat)
    case atStart => exact ⟨0, 0, Nat.zero_le _, rfl, rfl, hide (by simp)⟩
    case round =>
      obtain ⟨i, j, hi, rfl, hwr, HE⟩ := hrel
      have HW : Hid (∃ m, wr = W.drewN m) := hide ⟨j, hwr⟩
      have HBl : Hid (Bel W wr) := hide (by rw [hwr]; exact (Bel.refl W).drewN _)
      have HNx : Hid (∀ q, ∃ m, wr.drewN q = W.drewN m) := hide (fun q => ⟨j + q, by rw [hwr, World.drewN_drewN]⟩)
      clear hwr
      by_cases hlt : i < n
      · have hil : i < l.length := by rw [unhide HN]; exact hlt
        have hik : i < k.length := by rw [unhide HM]; exact hlt
        obtain rfl := (unhide HG) (by omega)
        obtain rfl := (unhide HG2) (by rw [unhide HM]; omega)
        have hkn : (i : Int) < n := by omega
        have r0 := (unhide HBl).cell (E3_cell (unhide HR) i hil)
        have r1 := (unhide HBl).cell (E3_cell (unhide HR2) i hik)
        have HD : Hid (l[i] = k[i] → l.take (i + 1) = k.take (i + 1)) := hide (fun e => by rw [List.take_add_one, List.take_add_one, unhide HE, List.getElem?_eq_getElem hil, List.getElem?_eq_getElem hik, e])
        have HD2 : Hid (l[i] ≠ k[i] → l ≠ k) := hide (fun e h => e (by simp [h]))
        generalize l[i] = x at *
        generalize k[i] = y at *
        cases h1 : (x == y) with
        | true =>
          go_wp2_with fail
          go_quiet (fail)
          go_wp2_with fail
          go_roundw
          case rel =>
            obtain ⟨j2, hj2⟩ := (unhide HNx) _
            exact ⟨i + 1, j2, by omega, by go_num, hj2, hide ((unhide HD) (by simpa using h1))⟩
          case measure => simp [intOf]; omega
        | false =>
          have HF : Hid (decide (l = k) = false) := hide (decide_eq_false ((unhide HD2) (by simpa using h1)))
          go_wp2_with fail
          go_quiet (fail)
          go_wp2_with fail
          go_ret
          exact ⟨by rw [unhide HF]; rfl, (unhide HNx) _⟩
      · obtain rfl : i = n := by omega
        have HF : Hid (decide (l = k) = true) := hide (decide_eq_true (by
          have := unhide HE
          rwa [List.take_of_length_le (by rw [unhide HN]; omega), List.take_of_length_le (by rw [unhide HM]; omega)] at this))
        go_wp2_with fail
        go_ret
        exact ⟨by rw [unhide HF]; rfl, unhide HW⟩
  · have e1 : decide (l = k) = false := decide_eq_false (fun e => hd (by rw [e]))
    have e2 : ((l.length : Int) == (k.length : Int)) = false := by simp; omega
    rw [e1]
    generalize l.length = n at *
    generalize k.length = n2 at *
    clear h h2 e1
    go_enter Tryz.func28, Tryz.ntmps28
    go_wp2_with fail
    go_ret
    exact ⟨rfl, 0, rfl⟩
set_option maxRecDepth 100000 in
theorem sameEnts_no {W : World} {a b : Option Addr} (n n2 cap cap2 : Nat) (hd : ¬ n = n2) : Calls Tryz.prog 29 #[.slice a n cap, .slice b n2 cap2] W fun e w' => e = .returned (.bool false) ∧ ∃ m, w' = W.drewN m := by
  have e2 : ((n : Int) == (n2 : Int)) = false := by simp; omega
  go_enter Tryz.func29, Tryz.ntmps29
  go_wp2_with fail
  go_ret
  exact ⟨rfl, 0, rfl⟩
set_option maxRecDepth 100000 in
set_option maxHeartbeats 4000000 in
theorem sameEnts_yes {W : World} {a b : Option Addr} {l k : List (GE × GA)} (h : Sl EG W a l) (h2 : Sl EG W b k) (hm : Gm W l) (hm2 : Gm W k) (he : l.map (·.1) = k.map (·.1)) (cap cap2 : Nat) (hl : l.length ≤ 9000000000000000000) (hq : ∀ x ∈ l, x.1.m.length ≤ 9000000000000000000) : Calls Tryz.prog 29 #[.slice a l.length cap, .slice b l.length cap2] W fun e w' => e = .returned (.bool true) ∧ ∃ m, w' = W.drewN m := by
  have hd : l.length = k.length := by have := congrArg List.length he; simpa using this
  obtain ⟨g, off, hg, hR⟩ := h
  obtain ⟨g2, off2, hg2, hR2⟩ := h2
  have HM : Hid (k.length = l.length) := hide hd.symm
  have HI : Hid (∀ (i : Nat) (h1 : i < l.length) (h2 : i < k.length) W', Bel W W' → Calls Tryz.prog 28 #[.slice l[i].2.a l[i].1.m.length l[i].2.c, .slice k[i].2.a l[i].1.m.length k[i].2.c] W' fun e w' => e = .returned (.bool true) ∧ ∃ m, w' = W'.drewN m) := hide (fun i h1 h2 W' hb => by
    have e9 : l[i].1 = k[i].1 := by
      have z2 : (l.map (·.1))[i]? = (k.map (·.1))[i]? := congrArg (fun l => l[i]?) he
      rw [List.getElem?_map, List.getElem?_map, List.getElem?_eq_getElem h1, List.getElem?_eq_getElem h2] at z2
      exact Option.some.inj z2
    have z := sameInts_any ((hm l[i] (List.getElem_mem h1)).bel hb) ((hm2 k[i] (List.getElem_mem h2)).bel hb) l[i].2.c k[i].2.c (hq _ (List.getElem_mem h1))
    rw [decide_eq_true (congrArg GE.m e9), ← congrArg (fun q => q.m.length) e9] at z
    exact z)
  have HEq : Hid (∀ (i : Nat) (h1 : i < l.length) (h2 : i < k.length), k[i].1 = l[i].1) := hide (fun i h1 h2 => by
    have z2 : (l.map (·.1))[i]? = (k.map (·.1))[i]? := congrArg (fun l => l[i]?) he
    rw [List.getElem?_map, List.getElem?_map, List.getElem?_eq_getElem h1, List.getElem?_eq_getElem h2] at z2
    exact (Option.some.inj z2).symm)
  obtain ⟨n, hn⟩ : ∃ n, l.length = n := ⟨_, rfl⟩
  have HN := hide hn
  rw [hn]
  rw [hn] at hl
  have HG := hide hg
  have HR := hide hR
  have HG2 := hide hg2
  have HR2 := hide hR2
  clear hn hg hR hg2 hR2 hd he hm hm2 hq
  go_enter Tryz.func29, Tryz.ntmps29
  go_wp2_with fail
  go_loopw [5] (fun vk wr => ∃ i j : Nat, i ≤ n ∧ vk = .int .i64 i ∧ wr = W.drewN j) (fun vk _ => n - (intOf vk).toNat)
  case atStart => exact ⟨0, 0, Nat.zero_le _, rfl, rfl⟩
  case round =>
    obtain ⟨i, j, hi, rfl, hwr⟩ := hrel
    have HW : Hid (∃ m, wr = W.drewN m) := hide ⟨j, hwr⟩
    have HBl : Hid (Bel W wr) := hide (by rw [hwr]; exact (Bel.refl W).drewN _)
    have HNx : Hid (∀ q, ∃ m, wr.drewN q = W.drewN m) := hide (fun q => ⟨j + q, by rw [hwr, World.drewN_drewN]⟩)
    clear hwr
    by_cases hlt : i < n
    · have hil : i < l.length := by rw [unhide HN]; exact hlt
      have hik : i < k.length := by rw [unhide HM, unhide HN]; exact hlt
      obtain rfl := (unhide HG) (by omega)
      obtain rfl := (unhide HG2) (by omega)
      have hkn : (i : Int) < n := by omega
      obtain ⟨r0, r1, r2, r3⟩ := EG_cell (unhide HR) i hil
      obtain ⟨t0, t1, t2, t3⟩ := EG_cell (unhide HR2) i hik
      have r0 := (unhide HBl).cell r0
      have r1 := (unhide HBl).cell r1
      have r2 := (unhide HBl).cell r2
      have r3 := (unhide HBl).cell r3
      have t0 := (unhide HBl).cell t0
      have t1 := (unhide HBl).cell t1
      have t2 := (unhide HBl).cell t2
      have t3 := (unhide HBl).cell t3
      rw [(unhide HEq) i hil hik] at t0 t1 t2 t3
      have HIx : Hid (∀ q, Calls Tryz.prog 28 #[.slice l[i].2.a l[i].1.m.length l[i].2.c, .slice k[i].2.a l[i].1.m.length k[i].2.c] (wr.drewN q) fun e w' => e = .returned (.bool true) ∧ ∃ m, w' = (wr.drewN q).drewN m) := hide (fun q => (unhide HI) i hil hik _ ((unhide HBl).drewN q))
      generalize l[i] = x at *
      generalize k[i] = y at *
      obtain ⟨⟨t, kd, d, m⟩, ax, cx⟩ := x
      obtain ⟨y1, ay, cy⟩ := y
      simp only at r0 r1 r2 r3 t0 t1 t2 t3 HIx
      generalize m.length = nm at *
      clear HI HEq
      go_wp2_with fail
      go_quiet ((go_at_call 28; refine Calls.quiet_of ((unhide HIx) _)))
      go_wp2_with fail
      go_roundw
      case rel =>
        obtain ⟨j2, hj2⟩ := (unhide HNx) _
        exact ⟨i + 1, j2, by omega, by go_num, hj2⟩
      case measure => simp [intOf]; omega
    · obtain rfl : i = n := by omega
      go_wp2_with fail
      go_ret
      exact ⟨rfl, unhide HW⟩
end Go.Proofs.YtphiigejlfoinaaGreat
namespace Go.Proofs.YtphiigejlfoinaaGreat
open Go.RowKit Go.Maps
theorem bel_of_drew {w w' : World} {q : Nat} (h : w' = w.drewN q) : Bel w w' := by rw [h]; exact (Bel.refl w).drewN q
set_option maxRecDepth 100000 in
set_option maxHeartbeats 8000000 in
theorem sameMsg_g {W : World} {m : GM} {x y : GX} (hx : Gw W m x) (hy : Gw W m y) (he : m.ents.length ≤ 1000000) (hq : ∀ e ∈ m.ents, e.m.length ≤ 17592186044416) (hm : m.mem.length ≤ 17592186044416) : Calls Tryz.prog 21 #[.agg (mg m x), .agg (mg m y)] W fun e w' => e = .returned (.bool true) ∧ Bel W w' := by
  have hlx : x.ls.length = m.ents.length := by rw [← hx.e, List.length_map]
  have HE : Hid (∀ W', Bel W W' → Calls Tryz.prog 29 #[.slice x.ea m.ents.length x.ec, .slice y.ea m.ents.length y.ec] W' fun e w' => e = .returned (.bool true) ∧ ∃ m, w' = W'.drewN m) := hide (fun W' hb => by
    have := sameEnts_yes (hx.l.bel hb) (hy.l.bel hb) (hx.g.bel hb) (hy.g.bel hb) (hx.e.trans hy.e.symm) x.ec y.ec (by omega) (fun z hz => by have := hq _ (by rw [← hx.e]; exact List.mem_map_of_mem hz); omega)
    rwa [hlx] at this)
  have HI : Hid (∀ W', Bel W W' → Calls Tryz.prog 28 #[.slice x.ma m.mem.length x.mc, .slice y.ma m.mem.length y.mc] W' fun e w' => e = .returned (.bool true) ∧ ∃ m, w' = W'.drewN m) := hide (fun W' hb => by
    have := sameInts_any (hx.m.bel hb) (hy.m.bel hb) x.mc y.mc (by omega)
    rwa [decide_eq_true rfl] at this)
  clear hx hy he hq hm hlx
  go_enter Tryz.func21, Tryz.ntmps21
  go_wp2_with (first
    | go_skip
    | go_guarded
    | (refine bx_box rfl 68 (.tmp 0) rfl (mg m x) rfl ?_; intro b w0 hr0 hs0 hb0; have HB := hide (And.intro hr0 hb0); clear hr0 hs0 hb0)
    | (refine bx_box rfl 68 (.tmp 1) rfl (mg m y) rfl ?_; intro b2 w2 hr2 hs2 hb2; obtain ⟨d0, d1, d2, d3, d4, d5, d6, d7, d8, d9, _, _⟩ := Mb2.of hr2; obtain ⟨c0, c1, c2, c3, c4, c5, c6, c7, c8, c9, _, _⟩ := Mb2.of (hb2.row (unhide HB).1); replace HB := hide (And.intro (hb2.row (unhide HB).1) (And.intro hr2 ((unhide HB).2.trans hb2))); clear hr2 hs2 hb2)
    | (go_at_call 29; refine ((unhide HE) _ (unhide HB).2.2).mono ?_; rintro e w3 ⟨rfl, q3, hq3⟩; have hb3 := bel_of_drew hq3; have HB3 := hide ((unhide HB).2.2.trans hb3); have HR3 : Hid (Mb2 w3 b m x ∧ Mb2 w3 b2 m y) := hide (And.intro (Mb2.of (hb3.row (unhide HB).1)) (Mb2.of (hb3.row (unhide HB).2.1))); clear hb3; clear c0 c1 c2 c3 c4 c5 c6 c7 c8 c9 d0 d1 d2 d3 d4 d5 d6 d7 d8 d9; have c10 := (unhide HR3).1.c10; have d10 := (unhide HR3).2.c10; have c11 := (unhide HR3).1.c11; have d11 := (unhide HR3).2.c11; clear hq3)
    | (go_at_call 28; refine ((unhide HI) _ (unhide HB3)).mono ?_; rintro e w4 ⟨rfl, q4, hq4⟩; have hb4 := bel_of_drew hq4; have HB4 := hide ((unhide HB3).trans hb4); have z11 := hb4.cell c11; have y11 := hb4.cell d11; clear hb4; clear hq4 c10 d10 c11 d11)
  )
  go_ret
  exact ⟨by simp, unhide HB4⟩
end Go.Proofs.YtphiigejlfoinaaGreat
namespace Go.Proofs.YtphiigejlfoinaaGreat
open Go.RowKit Go.Maps Go.Sort
/-- Few enough entries. -/
def smallB (s : GP) : Bool := decide (s.log.length ≤ 60) && (decide (s.fol.length ≤ 64) && (decide (s.reads.length ≤ 60) && decide (s.snap.size < 4096)))
set_option maxRecDepth 100000 in
set_option maxHeartbeats 4000000 in
theorem small_g {W : World} {s : GP} {x : Px} : Calls Tryz.prog 17 #[.agg (gc s x)] W fun e w' => e = .returned (.bool (smallB s)) ∧ Bel W w' := by
  unfold smallB
  generalize hln : s.log.length = ln at *
  generalize hfn : s.fol.length = fn at *
  generalize hrn : s.reads.length = rn at *
  by_cases h1 : ln ≤ 60
  · have k1 : (ln : Int) ≤ 60 := by omega
    rw [decide_eq_true h1, Bool.true_and]
    by_cases h2 : fn ≤ 64
    · have k2 : (fn : Int) ≤ 64 := by omega
      rw [decide_eq_true h2, Bool.true_and]
      by_cases h3 : rn ≤ 60
      · have k3 : (rn : Int) ≤ 60 := by omega
        rw [decide_eq_true h3, Bool.true_and]
        by_cases h4 : s.snap.size < 4096
        · have k4 : (s.snap.size : Int) < 4096 := by omega
          rw [decide_eq_true h4]
          clear h1 h2 h3 h4
          go_enter Tryz.func17, Tryz.ntmps17
          go_wp2_with (first
            | go_skip
            | (refine bx_boxK 31 (.tmp 0) (by exact rfl) (by exact rfl) (gc s x) (by exact rfl) ?_; intro b w0 hr0 hs0 hb0; have y9 := (Bg.of hr0).c9; have y10 := (Bg.of hr0).c10; have y15 := (Bg.of hr0).c15; have y17 := (Bg.of hr0).c17; rw [hln] at y10; rw [hfn] at y15; rw [hrn] at y17; have HB0 := hide hb0; clear hr0 hs0 hb0)
            | go_guarded)
          go_ret
          exact ⟨rfl, unhide HB0⟩
        · have k4 : ¬ ((s.snap.size : Int) < 4096) := by omega
          rw [decide_eq_false h4]
          clear h1 h2 h3 h4
          go_enter Tryz.func17, Tryz.ntmps17
          go_wp2_with (first
            | go_skip
            | (refine bx_boxK 31 (.tmp 0) (by exact rfl) (by exact rfl) (gc s x) (by exact rfl) ?_; intro b w0 hr0 hs0 hb0; have y9 := (Bg.of hr0).c9; have y10 := (Bg.of hr0).c10; have y15 := (Bg.of hr0).c15; have y17 := (Bg.of hr0).c17; rw [hln] at y10; rw [hfn] at y15; rw [hrn] at y17; have HB0 := hide hb0; clear hr0 hs0 hb0)
            | go_guarded)
          go_ret
          exact ⟨rfl, unhide HB0⟩
      · have k3 : ¬ ((rn : Int) ≤ 60) := by omega
        rw [decide_eq_false h3, Bool.false_and]
        clear h1 h2 h3
        go_enter Tryz.func17, Tryz.ntmps17
        go_wp2_with (first
          | go_skip
          | (refine bx_boxK 31 (.tmp 0) (by exact rfl) (by exact rfl) (gc s x) (by exact rfl) ?_; intro b w0 hr0 hs0 hb0; have y9 := (Bg.of hr0).c9; have y10 := (Bg.of hr0).c10; have y15 := (Bg.of hr0).c15; have y17 := (Bg.of hr0).c17; rw [hln] at y10; rw [hfn] at y15; rw [hrn] at y17; have HB0 := hide hb0; clear hr0 hs0 hb0)
          | go_guarded)
        go_ret
        exact ⟨rfl, unhide HB0⟩
    · have k2 : ¬ ((fn : Int) ≤ 64) := by omega
      rw [decide_eq_false h2, Bool.false_and]
      clear h1 h2
      go_enter Tryz.func17, Tryz.ntmps17
      go_wp2_with (first
        | go_skip
        | (refine bx_boxK 31 (.tmp 0) (by exact rfl) (by exact rfl) (gc s x) (by exact rfl) ?_; intro b w0 hr0 hs0 hb0; have y9 := (Bg.of hr0).c9; have y10 := (Bg.of hr0).c10; have y15 := (Bg.of hr0).c15; have y17 := (Bg.of hr0).c17; rw [hln] at y10; rw [hfn] at y15; rw [hrn] at y17; have HB0 := hide hb0; clear hr0 hs0 hb0)
        | go_guarded)
      go_ret
      exact ⟨rfl, unhide HB0⟩
  · have k1 : ¬ ((ln : Int) ≤ 60) := by omega
    rw [decide_eq_false h1, Bool.false_and]
    clear h1
    go_enter Tryz.func17, Tryz.ntmps17
    go_wp2_with (first
      | go_skip
      | (refine bx_boxK 31 (.tmp 0) (by exact rfl) (by exact rfl) (gc s x) (by exact rfl) ?_; intro b w0 hr0 hs0 hb0; have y9 := (Bg.of hr0).c9; have y10 := (Bg.of hr0).c10; have y15 := (Bg.of hr0).c15; have y17 := (Bg.of hr0).c17; rw [hln] at y10; rw [hfn] at y15; rw [hrn] at y17; have HB0 := hide hb0; clear hr0 hs0 hb0)
      | go_guarded)
    go_ret
    exact ⟨rfl, unhide HB0⟩
end Go.Proofs.YtphiigejlfoinaaGreat
