/- LogsGo's walk. -/
import Derived.Test.YthipgcojbhcdgaaGreatLgq
namespace Go.Proofs.YthipgcojbhcdgaaGreat
open Go.RowKit Go.Maps Go.Sort
theorem bel_size {w w' : World} (h : Bel w w') : w.heap.size ≤ w'.heap.size := h.size
theorem Gk.mono {W w : World} {n b gP cP k k' : Nat} {vW vD : Value} {L : List (PP × Px)} {Q : List (QM × Option Addr × Nat)} {dn : List PE} (h : Gk W n b gP cP k vW vD L Q dn w) (hk : k ≤ k') : Gk W n b gP cP k' vW vD L Q dn w := ⟨h.gs, h.al.mono hk hk, fun o ho => (h.wq o ho).mono hk hk, h.ql⟩
theorem Sd.next {n k q : Nat} {L : List (PP × Px)} {Q O : List (QM × Option Addr × Nat)} {dn : List PE} {w w' w2 : World} {s1 : PP} {x1 : Px} {vO : Value} (h : Sd n k q L Q dn w s1 x1 vO O w') (hb : Bel w' w2) : Sd n k q L Q dn w s1 x1 vO O w2 := ⟨h.pg.bel hb, h.oo.bel hb, fun o ho => (h.oe o ho).bel hb, h.ol, h.bel.trans hb, h.al, h.wq⟩
/-- A group in memory, behind at most k steps. -/
def Gx (W : World) (n b gP cP k : Nat) (g : PG) (w : World) : Prop := ∃ vW vD L Q dn, Gk W n b gP cP k vW vD L Q dn w ∧ pg L Q dn = g
theorem Gx.mono {W w : World} {n b gP cP k k' : Nat} {g : PG} (h : Gx W n b gP cP k g w) (hk : k ≤ k') : Gx W n b gP cP k' g w := by
  obtain ⟨vW, vD, L, Q, dn, h1, h2⟩ := h
  exact ⟨vW, vD, L, Q, dn, h1.mono hk, h2⟩
theorem mask_i {i : Nat} (h : i ≤ 8) : bits .and .i64 (i : Int) 65535 = (i : Int) := by
  obtain rfl | rfl | rfl | rfl | rfl | rfl | rfl | rfl | rfl : i = 0 ∨ i = 1 ∨ i = 2 ∨ i = 3 ∨ i = 4 ∨ i = 5 ∨ i = 6 ∨ i = 7 ∨ i = 8 := by omega
  all_goals rfl
/-- One step whose outcome is known. -/
theorem step_x {W w : World} {n b gP cP k : Nat} {g : PG} (h : Gx W n b gP cP k g w) (hn1 : 1 ≤ n) (hn64 : n ≤ 64) (hk : k ≤ 800000) (op : Int) (a m : Nat) (hop : op = 0 ∨ op = 1) (ha : a ≤ 8) (hm : m ≤ 8) (iz : Int) : Calls Tryz.prog 15 #[.pointer (some ⟨b, 0, none⟩), .agg #[.int .i64 op, .int .i64 (a : Int), .int .i64 (m : Int), .bool false], .int .i64 iz] w fun e w' => e = .returned (.bool true) ∧ Gx W n b gP cP (k + 1) (pstep n g op a m false) w' := by
  obtain ⟨vW, vD, L, Q, dn, h1, h2⟩ := h
  refine (step_any h1 hn1 hn64 hk ⟨op, (a : Int), (m : Int), false⟩ iz a m (mask_i ha) (mask_i hm)).mono ?_
  rintro e w' ⟨g', ⟨he, vW', vD', L', Q', dn', h', hg⟩, hx⟩
  refine ⟨he, vW', vD', L', Q', dn', h', ?_⟩
  rw [hg, hx (by rcases hop with h0 | h0; exact Or.inl h0; exact Or.inr (Or.inl h0)), h2]
set_option maxRecDepth 100000 in
set_option maxHeartbeats 16000000 in
theorem lgo_law {W : World} {size : Int} {d : ByteArray} : Calls Tryz.prog 5 #[.int .i64 size, .string d] W fun e w' => e = .returned (.bool true) ∧ Bel W w' := by
  obtain ⟨z, hz, hzb⟩ := i64_mask size 65535 (by decide)
  have hzb' : bits .and .i64 size 65535 = (z : Int) := hzb
  clear hz hzb
  obtain ⟨n, hn1, hn5, hnz⟩ : ∃ n : Nat, 1 ≤ n ∧ n ≤ 5 ∧ 1 + (z : Int) % 5 = (n : Int) := ⟨1 + z % 5, by omega, by omega, by omega⟩
  have hzt : (z : Int).tmod 5 = (z : Int) % 5 := Int.tmod_eq_emod_of_nonneg (by omega)
  have hw1 : IntKind.i64.wrap (1 + (z : Int) % 5) = (n : Int) := by rw [hnz]; exact wrapI (by omega) (by omega)
  have HBe := hide (fun W' : World => begin_any (W := W') hn1 hn5)
  by_cases hd : 1000 < d.size
  · have hdi : (1000 : Int) < (d.size : Int) := by omega
    go_enter Tryz.func5, Tryz.ntmps5
    go_wp2_with (first
      | (go_at_call 13; refine alive_l.mono ?_; rintro e w1 ⟨rfl, hb1⟩; have HB1 := hide hb1; clear hb1))
    go_ret
    exact ⟨rfl, unhide HB1⟩
  · have hdi : ¬ ((1000 : Int) < (d.size : Int)) := by omega
    have HDS : Hid (d.size ≤ 1000) := hide (by omega)
    clear hd
    go_enter Tryz.func5, Tryz.ntmps5
    go_wp2_with (first
      | (go_at_call 13; refine alive_l.mono ?_; rintro e w1 ⟨rfl, hb1⟩; have HB1 := hide hb1; clear hb1)
      | (go_at_call 14; (try rw [hnz]); refine ((unhide HBe) w1).mono ?_; rintro e w2 ⟨b, gP, cP, L, rfl, hgk, hnw⟩; have HG : Hid (Gx w1 n b gP cP 0 (news n, [], []) w2) := hide ⟨_, _, _, _, _, hgk, by unfold pg; rw [hnw]; rfl⟩; clear hgk hnw HBe))
    clear hzt hzb' hdi
    try rw [hnz]
    try rw [hw1]
    clear hw1 hnz
    obtain ⟨FN, hFN⟩ : ∃ FN, FN = fin n d := ⟨_, rfl⟩
    have HFN := hide hFN
    clear hFN
    go_loopw [7, 8] (fun v7 v8 wr => ∃ (t : Nat) (sd : Bool), t ≤ 200 ∧ v7 = .bool sd ∧ v8 = .int .i64 t ∧ Hid (∃ g, Gx w1 n b gP cP (t * 2010) g wr ∧ runT n d (200 - t) t (g, sd) = FN)) (fun _ v8 _ => 201 - (intOf v8).toNat)
    case atStart => exact ⟨0, false, Nat.zero_le _, rfl, rfl, hide ⟨_, unhide HG, (unhide HFN).symm⟩⟩
    case round =>
      clear HG
      obtain ⟨t, sd, ht, rfl, rfl, HG⟩ := hrel
      by_cases htl : t < 200
      · have hti : (t : Int) < 200 := by omega
        obtain ⟨tc, htc⟩ : ∃ tc, 200 - t = tc + 1 := ⟨199 - t, by omega⟩
        have HG1 : Hid (∃ g, Gx w1 n b gP cP (t * 2010) g wr ∧ runT n d tc (t + 1) (rT2 n d t (tkF n n 0 g, sd)) = FN) := hide (by
          obtain ⟨g, h1, h2⟩ := unhide HG
          rw [htc, runT_succ] at h2
          exact ⟨g, h1, h2⟩)
        clear HG
        go_wp2_with fail
        go_loopw [9] (fun v9 wr => ∃ (i : Nat), i ≤ n ∧ v9 = .int .i64 i ∧ Hid (∃ g, Gx w1 n b gP cP (t * 2010 + i * 401) g wr ∧ runT n d tc (t + 1) (rT2 n d t (tkF n (n - i) i g, sd)) = FN)) (fun v9 _ => n - (intOf v9).toNat)
        case atStart => exact ⟨0, Nat.zero_le _, rfl, hide (by simpa using unhide HG1)⟩
        case round =>
          clear HG1
          obtain ⟨i, hi, rfl, HG⟩ := hrel
          by_cases hin : i < n
          · have hii : (i : Int) < (n : Int) := by omega
            have hw2 : IntKind.i64.wrap (2 * (i : Int)) = ((2 * i : Nat) : Int) := by rw [wrapI (by omega) (by omega)]; omega
            obtain ⟨jc, hjc⟩ : ∃ jc, n - i = jc + 1 := ⟨n - i - 1, by omega⟩
            have HSt : Hid (Calls Tryz.prog 15 #[.pointer (some ⟨b, 0, none⟩), .agg #[.int .i64 0, .int .i64 (i : Int), .int .i64 ((2 * i : Nat) : Int), .bool false], .int .i64 (t : Int)] wr fun e w' => e = .returned (.bool true) ∧ ∃ g, Gx w1 n b gP cP (t * 2010 + i * 401 + 1) g w' ∧ runT n d tc (t + 1) (rT2 n d t (tkF n jc (i + 1) (drain n 400 g), sd)) = FN) := hide (by
              obtain ⟨g, h1, h2⟩ := unhide HG
              refine (step_x h1 hn1 (by omega) (by omega) 0 i (2 * i) (Or.inl rfl) (by omega) (by omega) (t : Int)).mono ?_
              rintro e w' ⟨he, hg⟩
              refine ⟨he, _, hg, ?_⟩
              rw [hjc, tkF_succ] at h2
              exact h2)
            obtain ⟨i2, hi2⟩ : ∃ i2 : Int, i2 = ((2 * i : Nat) : Int) := ⟨_, rfl⟩
            rw [← hi2] at HSt hw2
            clear hi2
            go_wp2_with (first
              | (go_at_call 15; refine (unhide HSt).mono ?_; rintro e w5 ⟨rfl, hg5⟩; have HG5 := hide hg5; clear hg5 HSt))
            clear hw2 HG
            go_loopw [10] (fun v10 wr => ∃ (kk : Nat), kk ≤ 400 ∧ v10 = .int .i64 kk ∧ Hid (∃ g, Gx w1 n b gP cP (t * 2010 + i * 401 + 1 + kk) g wr ∧ runT n d tc (t + 1) (rT2 n d t (tkF n jc (i + 1) (drain n (400 - kk) g), sd)) = FN)) (fun v10 _ => 401 - (intOf v10).toNat)
            case atStart => exact ⟨0, Nat.zero_le _, rfl, HG5⟩
            case round =>
              clear HG5
              obtain ⟨kk, hkk, rfl, HG⟩ := hrel
              obtain ⟨g, ⟨vW, vD, L, Q, dn, hgk, hpg⟩, hrn⟩ := unhide HG
              obtain ⟨aW, cW, gW, eW, _, _, _⟩ := hgk.gs.wo.shape
              subst eW
              have y1 := hgk.gs.c1
              have HGK := hide hgk
              have HPG := hide hpg
              have HRN := hide hrn
              clear hgk hpg hrn HG
              by_cases hq0 : Q.length = 0
              · have hqd : decide ((0 : Int) < (Q.length : Int)) = false := decide_eq_false (by omega)
                have HNX : Hid (∃ g, Gx w1 n b gP cP (t * 2010 + (i + 1) * 401) g wr ∧ runT n d tc (t + 1) (rT2 n d t (tkF n (n - (i + 1)) (i + 1) g, sd)) = FN) := hide (by
                  refine ⟨g, Gx.mono ⟨_, _, _, _, _, unhide HGK, unhide HPG⟩ (by omega), ?_⟩
                  have hr := unhide HRN
                  rw [drain_nil n _ g (by rw [← unhide HPG]; show Q.map (·.1) = []; rw [List.eq_nil_of_length_eq_zero hq0]; rfl)] at hr
                  rw [show n - (i + 1) = jc by omega]
                  exact hr)
                go_wp2_with fail
                go_roundw
                case rel => exact ⟨i + 1, by omega, by go_num, HNX⟩
                case measure => simp [intOf]; omega
              · have hqd : decide ((0 : Int) < (Q.length : Int)) = true := decide_eq_true (by omega)
                by_cases hk4 : kk < 400
                · have hki : (kk : Int) < 400 := by omega
                  obtain ⟨fc, hfc⟩ : ∃ fc, 400 - kk = fc + 1 := ⟨399 - kk, by omega⟩
                  have HSt : Hid (Calls Tryz.prog 15 #[.pointer (some ⟨b, 0, none⟩), .agg #[.int .i64 1, .int .i64 0, .int .i64 0, .bool false], .int .i64 (t : Int)] wr fun e w' => e = .returned (.bool true) ∧ ∃ g, Gx w1 n b gP cP (t * 2010 + i * 401 + 1 + (kk + 1)) g w' ∧ runT n d tc (t + 1) (rT2 n d t (tkF n jc (i + 1) (drain n (400 - (kk + 1)) g), sd)) = FN) := hide (by
                    refine (step_x (W := w1) ⟨_, _, _, _, _, unhide HGK, unhide HPG⟩ hn1 (by omega) (by omega) 1 0 0 (Or.inr rfl) (by omega) (by omega) (t : Int)).mono ?_
                    rintro e w' ⟨he, hg⟩
                    refine ⟨he, _, hg, ?_⟩
                    have hr := unhide HRN
                    rw [hfc, drain_cons n _ g (by
                      rw [← unhide HPG]
                      show Q.map (·.1) ≠ []
                      intro h0
                      rw [List.map_eq_nil_iff] at h0
                      exact hq0 (by rw [h0]; rfl))] at hr
                    rw [show 400 - (kk + 1) = fc by omega]
                    exact hr)
                  go_wp2_with (first
                    | (go_at_call 15; refine (unhide HSt).mono ?_; rintro e w5 ⟨rfl, hg5⟩; have HG5 := hide hg5; clear hg5 HSt))
                  go_roundw
                  case rel => exact ⟨kk + 1, by omega, by go_num, HG5⟩
                  case measure => simp [intOf]; omega
                · have hki : ¬ ((kk : Int) < 400) := by omega
                  have HNX : Hid (∃ g, Gx w1 n b gP cP (t * 2010 + (i + 1) * 401) g wr ∧ runT n d tc (t + 1) (rT2 n d t (tkF n (n - (i + 1)) (i + 1) g, sd)) = FN) := hide (by
                    refine ⟨g, Gx.mono ⟨_, _, _, _, _, unhide HGK, unhide HPG⟩ (by omega), ?_⟩
                    have hr := unhide HRN
                    rw [show 400 - kk = 0 by omega] at hr
                    rw [show n - (i + 1) = jc by omega]
                    exact hr)
                  go_wp2_with fail
                  go_roundw
                  case rel => exact ⟨i + 1, by omega, by go_num, HNX⟩
                  case measure => simp [intOf]; omega
          · have hii : ¬ ((i : Int) < (n : Int)) := by omega
            obtain rfl : i = n := by omega
            have HG2 : Hid (∃ g, Gx w1 i b gP cP (t * 2010 + i * 401) g wr ∧ runT i d tc (t + 1) (rT2 i d t (g, sd)) = FN) := hide (by
              obtain ⟨g, h1, h2⟩ := unhide HG
              rw [Nat.sub_self] at h2
              exact ⟨g, h1, h2⟩)
            clear HG
            go_wp2_with fail
            go_loopw [7, 11] (fun v7 v11 wr => ∃ (sd : Bool) (i4 : Nat), i4 ≤ i ∧ v7 = .bool sd ∧ v11 = .int .i64 i4 ∧ Hid (∃ g, Gx w1 i b gP cP (t * 2010 + i * 401 + i4) g wr ∧ runT i d tc (t + 1) (if 60 < t then prF d (i - i4) i4 (g, sd) else (g, sd)) = FN)) (fun _ v11 _ => i - (intOf v11).toNat)
            case atStart => exact ⟨sd, 0, Nat.zero_le _, rfl, rfl, HG2⟩
            case round =>
              clear HG2
              obtain ⟨sd, i4, hi4, rfl, rfl, HG⟩ := hrel
              have HEX : (t ≤ 60 ∨ sd = true ∨ i4 = i) → Hid (∃ g, Gx w1 i b gP cP ((t + 1) * 2010) g wr ∧ runT i d (200 - (t + 1)) (t + 1) (g, sd) = FN) := fun hc => hide (by
                obtain ⟨g, h1, h2⟩ := unhide HG
                refine ⟨g, h1.mono (by omega), ?_⟩
                rw [show 200 - (t + 1) = tc by omega]
                have e : (if 60 < t then prF d (i - i4) i4 (g, sd) else (g, sd)) = (g, sd) := by
                  split
                  · rename_i h6
                    rcases hc with hc | rfl | rfl
                    · omega
                    · exact prF_said d _ _ g
                    · rw [Nat.sub_self]; rfl
                  · rfl
                rw [e] at h2
                exact h2)
              by_cases hin4 : i4 < i
              · have hii4 : (i4 : Int) < (i : Int) := by omega
                by_cases h6 : 60 < t
                · have h6i : (60 : Int) < (t : Int) := by omega
                  cases sd with
                  | true =>
                    have HX := HEX (Or.inr (Or.inl rfl))
                    go_wp2_with fail
                    go_roundw
                    case rel => exact ⟨t + 1, true, by omega, rfl, by go_num, HX⟩
                    case measure => simp [intOf]; omega
                  | false =>
                    clear HEX
                    obtain ⟨g, ⟨vW, vD, L, Q, dn, hgk, hpg⟩, hrn⟩ := unhide HG
                    clear HG
                    rw [if_pos h6] at hrn
                    obtain ⟨jc, hjc⟩ : ∃ jc, i - i4 = jc + 1 := ⟨i - i4 - 1, by omega⟩
                    rw [hjc] at hrn
                    have hln := hgk.gs.len
                    have hil : i4 < L.length := by omega
                    obtain ⟨s, z, hsz⟩ : ∃ s z, L[i4] = (s, z) := ⟨_, _, rfl⟩
                    have hg1 : g.1[i4]? = some s := by rw [← hpg]; simp [pg, hil, hsz]
                    have y0 := hgk.gs.c0
                    have y4 := hgk.gs.at hil hsz 4 (.int .u8 s.role) rfl
                    have HGK := hide hgk
                    have HIL : Hid (i4 < L.length) := hide hil
                    have HSX : Hid (L[i4]'hil = (s, z)) := hide hsz
                    by_cases hr : s.role = 2
                    · have er : (s.role == 2) = true := by simp [hr]
                      rw [prF_lead d jc i4 g hg1 hr] at hrn
                      have HTk : Hid (Calls Tryz.prog 16 #[.agg (pc i s z), .string d] wr fun e w' => ∃ x1 v, e = .returned (.tuple #[.agg (pc i (s.prop d) x1), v, .int .i64 0]) ∧ Sd i (t * 2010 + i * 401 + i4) i4 L Q dn wr (s.prop d) x1 (.slice none 0 0) [] w') := hide (prop_sd hgk (by omega) (by omega) hil hsz d (by have := unhide HDS; omega) hr)
                      obtain ⟨s1, hs1⟩ : ∃ s1, s1 = s.prop d := ⟨_, rfl⟩
                      rw [← hs1] at HTk hrn
                      have HRN := hide (And.intro hrn hpg)
                      clear hgk hpg hrn hsz hg1 hs1 hln
                      go_wp2_with (first
                        | (with_reducible refine elp_ld (.tmp 95) gP i4 s z (unhide HGK).gs.row (unhide HIL) (unhide HSX) ?_ ?_ ?_ ?_; exact rfl; exact rfl; (first | exact rfl | simp [Act.eval]))
                        | (go_at_call 16; refine (unhide HTk).mono ?_; rintro e w5 ⟨x5, v5, rfl, hsd5⟩; have HSD5 := hide hsd5; clear hsd5 HTk)
                        | (with_reducible refine bxp_new ?_ ?_ ?_; exact rfl; exact rfl; intro b12 w3 hr3 hs3 hb3; have HR3 := hide (And.intro hr3 (And.intro hs3 hb3)); clear hr3 hs3 hb3)
                        | (with_reducible refine bxp_st (.tmp 12) (.tmp 99) b12 i s1 x5 (unhide HR3).1 ?_ ?_ ?_ ?_ ?_; exact rfl; exact rfl; (first | exact rfl | simp [Act.put, Act.eval]); (first | exact rfl | simp [Act.put, Act.eval]); intro w6 hr6 hc6; have HSD := hide ((unhide HSD5).next (bel_off (unhide HR3).2.2 hc6 (Nat.le_of_eq (unhide HR3).2.1))); have HR12 := hide hr6; have HNB : Hid (b12 ≠ gP) := hide (fun e => by have h1 := ((unhide HGK).gs.row.lt (k := gP) rfl).2; have h2 := bel_size (unhide HSD5).bel; have h3 := (unhide HR3).2.1; omega); clear hr6 hc6 HR3))
                      clear y0 y4
                      have hsd := (unhide HSD).next (Bel.refl w6).drew
                      have hRd := ((Bel.refl w6).drew).row (unhide HR12)
                      have hGd := (unhide HGK).next hsd.bel
                      refine wp_region_held_drew (S := fun w => w.heap[b]? = some (.cells (gc i gP cP vW vD) 51) ∧ w.heap[b12]? = some (.cells (pc i s1 x5) 56)) Tryz.follows ⟨hGd.gs.box, hRd⟩ (fun hS => ?_)
                      generalize w6.drew = wd at *
                      refine any_take (i := 0) (v := .pointer (some ⟨b, 0, none⟩)) rfl (by kernel_rfl) (by kernel_rfl) (by kernel_rfl) (fun _ _ _ h => h) rfl hS (fun w hw => by go_simp) ?_
                      refine any_take (i := 1) (v := .pointer (some ⟨b, 0, none⟩)) rfl (by kernel_rfl) (by kernel_rfl) (by kernel_rfl) (fun _ _ _ h => h) rfl hS (fun w hw => by go_simp) ?_
                      refine any_take (i := 2) (v := .pointer (some ⟨b, 0, none⟩)) rfl (by kernel_rfl) (by kernel_rfl) (by kernel_rfl) (fun _ _ _ h => h) rfl hS (fun w hw => by go_simp) ?_
                      refine any_take (i := 3) (v := .slice (some ⟨gP, 0, none⟩) i cP) rfl (by kernel_rfl) (by kernel_rfl) (by kernel_rfl) (fun _ _ _ h => h) rfl hS (fun w hw => by have := (cell_of hw.1 : w.cell? ⟨b, 0, none⟩ = _); change w.cell? ⟨b, 0, none⟩ = some (.slice (some ⟨gP, 0, none⟩) i cP) at this; go_simp) ?_
                      refine any_take (i := 4) (v := .int .i64 (i4 : Int)) rfl (by kernel_rfl) (by kernel_rfl) (by kernel_rfl) (fun _ _ _ h => h) rfl hS (fun w hw => by go_simp) ?_
                      refine any_ld (i := 5) (b := b12) (y := .tmp 12) rfl (by kernel_rfl) (by kernel_rfl) (by kernel_rfl) (fun _ _ _ h => h) rfl hS (by exact rfl) (by go_simp) (fun w hw => hw.2) ?_
                      refine any_take (i := 6) (v := .pointer (some ⟨gP, i4 * 18, none⟩)) rfl (by kernel_rfl) (by kernel_rfl) (by kernel_rfl) (fun _ _ _ h => h) rfl hS (fun w hw => by go_simp) ?_
                      have hGM := ((unhide HGK).put hsd (hGd.gs.row.put i4 (unhide HIL) (s1, x5)) (ch_setCells _ _ _ _)).skip
                      refine any_skip (i := 7) (w' := wd.setCells gP (i4 * (E32 i).k) ((E32 i).enc (s1, x5))) (by kernel_rfl) rfl rfl (el_st_run (E := E32 i) (.tmp 110) (.tmp 109) (by exact rfl) gP i4 (by show _ = Value.pointer (some ⟨gP, i4 * 18, none⟩); go_simp) (pc i s1 x5) (by go_simp) (s1, x5) rfl hGd.gs.row (unhide HIL)) ⟨⟨hGM.gs.box, (ch_setCells gP _ _ wd).row hRd (unhide HNB)⟩, ?_⟩
                      refine wpAnyH_done (by kernel_rfl) ?_ _
                      have HGM := hide hGM
                      clear hGM hS hGd hRd hsd
                      generalize wd.setCells gP (i4 * (E32 i).k) ((E32 i).enc (s1, x5)) = w7 at *
                      simp [Act.put]
                      go_wp2_with fail
                      go_roundw
                      case rel =>
                        refine ⟨true, i4 + 1, by omega, rfl, by go_num, hide ⟨pg (L.set i4 (s1, x5)) Q dn, ⟨_, _, _, _, _, unhide HGM, rfl⟩, ?_⟩⟩
                        rw [if_pos h6, prF_said]
                        have hr := unhide HRN
                        have e : pg (L.set i4 (s1, x5)) Q dn = (g.1.set i4 s1, g.2.1, g.2.2) := by rw [← hr.2]; simp [pg, List.map_set]
                        rw [e]
                        exact hr.1
                      case measure => simp [intOf]; omega
                    · have er : (s.role == 2) = false := by simp [hr]
                      rw [prF_not d jc i4 g hg1 hr] at hrn
                      have HNX : Hid (∃ g, Gx w1 i b gP cP (t * 2010 + i * 401 + (i4 + 1)) g wr ∧ runT i d tc (t + 1) (if 60 < t then prF d (i - (i4 + 1)) (i4 + 1) (g, false) else (g, false)) = FN) := hide (by
                        refine ⟨g, Gx.mono ⟨_, _, _, _, _, hgk, hpg⟩ (by omega), ?_⟩
                        rw [if_pos h6, show i - (i4 + 1) = jc by omega]
                        exact hrn)
                      clear hgk hpg hrn hsz hg1 hln
                      go_wp2_with fail
                      go_roundw
                      case rel => exact ⟨false, i4 + 1, by omega, rfl, by go_num, HNX⟩
                      case measure => simp [intOf]; omega
                · have h6i : ¬ ((60 : Int) < (t : Int)) := by omega
                  have HX := HEX (Or.inl (by omega))
                  go_wp2_with fail
                  go_roundw
                  case rel => exact ⟨t + 1, sd, by omega, rfl, by go_num, HX⟩
                  case measure => simp [intOf]; omega
              · have hii4 : ¬ ((i4 : Int) < (i : Int)) := by omega
                have HX := HEX (Or.inr (Or.inr (by omega)))
                go_wp2_with fail
                go_roundw
                case rel => exact ⟨t + 1, sd, by omega, rfl, by go_num, HX⟩
                case measure => simp [intOf]; omega
      · have hti : ¬ ((t : Int) < 200) := by omega
        obtain rfl : t = 200 := by omega
        have HG3 : Hid (sd = true ∧ ∃ g, Gx w1 n b gP cP (200 * 2010) g wr ∧ ∀ s ∈ g.1, 1 ≤ s.commit ∧ s.commit = s.log.length ∧ s.log.getLast?.map (·.d) = some d) := hide (by
          obtain ⟨g, h1, h2⟩ := unhide HG
          have h3 : (g, sd) = fin n d := by rw [← unhide HFN]; exact h2
          refine ⟨?_, g, h1, fun s hs => ?_⟩
          · have := fin_said hn1 hn5 d
            rw [← h3] at this
            exact this
          · exact fin_at hn1 hn5 d (by rw [← h3]; exact hs))
        obtain ⟨rfl, g, ⟨vW, vD, L, Q, dn, hgk, hpg⟩, hall⟩ := unhide HG3
        have HGK := hide hgk
        have HALL : Hid (∀ q ∈ L, 1 ≤ q.1.commit ∧ q.1.commit = q.1.log.length ∧ q.1.log.getLast?.map (·.d) = some d) := hide (fun q hq => hall q.1 (by rw [← hpg]; exact List.mem_map.2 ⟨q, hq, rfl⟩))
        have HLN : Hid (L.length = n) := hide hgk.gs.len
        have HBW : Hid (Bel W wr) := hide ((unhide HB1).trans hgk.gs.bel)
        clear HG HG3 hgk hpg hall
        go_wp2_with fail
        go_loopw [15] (fun v15 wz => ∃ (i : Nat), i ≤ n ∧ v15 = .int .i64 i ∧ Hid (wz = wr)) (fun v15 _ => n - (intOf v15).toNat)
        case atStart => exact ⟨0, Nat.zero_le _, rfl, hide rfl⟩
        case round =>
          obtain ⟨i, hi, rfl, hwz⟩ := hrel
          have hwz := unhide hwz
          subst hwz
          by_cases hin : i < n
          · have hii : (i : Int) < (n : Int) := by omega
            have hil : i < L.length := by rw [unhide HLN]; exact hin
            obtain ⟨s, z, hsz⟩ : ∃ s z, L[i] = (s, z) := ⟨_, _, rfl⟩
            obtain ⟨hc1, hc2, hc3⟩ := (unhide HALL) _ (List.getElem_mem hil)
            rw [hsz] at hc1 hc2 hc3
            simp only at hc1 hc2 hc3
            have hok := ((unhide HGK).ok hil hsz).1
            have hgl := hok.glen
            have y0 := (unhide HGK).gs.c0
            have y11 := (unhide HGK).gs.at hil hsz 11 (.int .u64 s.commit) rfl
            have y10 := (unhide HGK).gs.at hil hsz 10 (.slice z.aL s.log.length z.cL) rfl
            have hlO := ((unhide HGK).gs.pf _ (List.getElem_mem hil)).l
            rw [hsz] at hlO
            obtain ⟨a', c', g', e', h1', _⟩ := hlO.shape
            injection e' with e1'
            have haL : z.aL = some ⟨g', 0, none⟩ := by rw [show z.aL = a' from e1']; exact h1' (by show s.log.length ≠ 0; omega)
            dsimp only at hlO
            rw [haL] at hlO y10
            obtain ⟨m, hm⟩ : ∃ m, s.log.length = m + 1 := ⟨s.log.length - 1, by omega⟩
            have hml : m < s.log.length := by omega
            have hd : (s.log[m]'hml).d = d := by
              have h5 : s.log.getLast? = some (s.log[m]'hml) := by
                rw [List.getLast?_eq_getElem?, List.getElem?_eq_getElem (by omega)]
                congr 1
                congr 1
                omega
              rw [h5] at hc3
              simpa using hc3
            have yd := (E69_cell hlO.row m hml).2.2.1
            rw [hd, Nat.zero_add] at yd
            rw [hc2, hm] at y11
            rw [hm] at y10
            have ec : ((m + 1 : Nat) : Int) = (m : Int) + 1 := by omega
            rw [ec] at y11
            have hw1 : IntKind.i64.wrap ((m : Int) + 1) = (m : Int) + 1 := wrapI (by omega) (by omega)
            have hw2 : IntKind.i64.wrap ((m : Int) + 1 - 1) = (m : Int) := by rw [wrapI (by omega) (by omega)]; omega
            have hn1' : decide ((m : Int) + 1 < 1) = false := decide_eq_false (by omega)
            have hn2 : ((m : Int) + 1 != (m : Int) + 1) = false := by simp
            have hn3 : (m : Int) < (m : Int) + 1 := by omega
            have hw3 : wrap64 (m : Int) = (m : Int) := by unfold wrap64; omega
            clear hlO hc1 hc2 hc3 hok hgl e1' h1' haL hd hml hm hsz
            go_wp2_with (first | go_skip | go_guarded)
            go_roundw
            case rel => exact ⟨i + 1, by omega, by go_num, by first | exact hide rfl | exact hide trivial⟩
            case measure => simp [intOf]; omega
          · have hii : ¬ ((i : Int) < (n : Int)) := by omega
            go_wp2_with fail
            go_ret
            exact ⟨rfl, unhide HBW⟩
end Go.Proofs.YthipgcojbhcdgaaGreat
