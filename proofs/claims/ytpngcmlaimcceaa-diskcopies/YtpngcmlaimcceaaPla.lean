/- By any calls and crashes a disk has the files that the document's has: the law's walk. -/
import Derived.Test.YtpngcmlaimcceaaDsl
namespace Go.Proofs.Ytpngcmlaimcceaa
open Go.RowKit Go.Maps Go.WideMaps
/-- The cells of a script's steps. -/
abbrev St := Int × List UInt8 × List UInt8 × Int × Int
/-- A script as it lies in memory. -/
def Row5 (W : World) (g off : Nat) (l : List St) : Prop := ∀ j (h : j < l.length), W.cell? ⟨g, off + j * 5, none⟩ = some (.int .i64 l[j].1) ∧ W.cell? ⟨g, off + j * 5 + 1, none⟩ = some (.string ⟨l[j].2.1.toArray⟩) ∧ W.cell? ⟨g, off + j * 5 + 2, none⟩ = some (.string ⟨l[j].2.2.1.toArray⟩) ∧ W.cell? ⟨g, off + j * 5 + 3, none⟩ = some (.int .i64 l[j].2.2.2.1) ∧ W.cell? ⟨g, off + j * 5 + 4, none⟩ = some (.int .i64 l[j].2.2.2.2)
/-- A step's parts are what a machine bears. -/
def okS (s : St) : Prop := s.2.1.length ≤ maxLen ∧ s.2.2.1.length ≤ maxLen ∧ s.2.2.2.1 < 9223372036854775808 ∧ s.2.2.2.2 < 9223372036854775808
theorem pr_new {w w1 w2 : World} {pd px : Nat} {d : PD} (h1 : Dk 128 w1 pd d (fun i => w.heap.size ≤ i ∧ i < w1.heap.size) (fun _ => False)) (hb1 : Bel w w1) (h2 : Dx 128 w2 px d (fun i => w1.heap.size ≤ i ∧ i < w2.heap.size) (fun _ => False)) (hb2 : Bel w1 w2) : Pr 128 (fun i => i < w.heap.size) w2 pd px d d :=
  ⟨⟨_, _, _, _, h1.bel hb2, h2, fun i a b => by omega, fun _ _ b => b, fun _ _ b => b, fun i a b => by omega, fun i a b => by have := hb1.size; omega⟩, fun i hi => Nat.lt_of_lt_of_le hi (Nat.le_trans hb1.size hb2.size)⟩
/-- Where the script stands. -/
structure Pl (w : World) (pd px : Nat) (k : Nat) (W : World) : Prop where
  ex : ∃ C d, C ≤ 128 + k * 32768 ∧ Pr C (fun i => i < w.heap.size) W pd px d d ∧ d.ops.length ≤ k ∧ Tx C d
  bel : Bel w W
theorem kp_bel {w W W' : World} (h : Bel w W) (k : Kp (fun i => i < w.heap.size) W W') : Bel w W' := ⟨k.os.trans h.os, k.tape.trans h.tape, k.output.trans h.output, Nat.le_trans h.size k.size, fun i hi => (k.block i hi).trans (h.block i hi)⟩
set_option maxRecDepth 100000 in
theorem Pl.up {w W : World} {pd px k : Nat} (h : Pl w pd px k W) : Pl w pd px (k + 1) W := by
  obtain ⟨C, d, h1, h2, h3, h4⟩ := h.ex
  exact ⟨⟨C, d, by omega, h2, by omega, h4⟩, h.bel⟩
set_option maxRecDepth 100000 in
set_option maxHeartbeats 8000000 in
theorem plays_law (room : Int) (hr1 : room < 9223372036854775808) (l : List St) (N cap g off : Nat) (a : Option Addr) (hN : l.length = N) (ha : N ≠ 0 → a = some ⟨g, off, none⟩) (w : World) (hg : N ≠ 0 → g < w.heap.size) (hrow : Row5 w g off l) (hok : ∀ s ∈ l, okS s) :
    Calls Try.prog 3 #[.int .i64 room, .slice a N cap] w fun e w' => e = .returned (.bool true) ∧ Bel w w' := by
  have HN := hide hN
  have HA := hide ha
  have HG := hide hg
  have HROW := hide hrow
  have HOK := hide hok
  have HR := hide hr1
  clear hN ha hg hrow hok hr1
  go_enter Try.func3, Try.ntmps3
  go_wp2_with fail
  refine (new_any room (unhide HR) 128 w).mono ?_
  rintro e w1 ⟨pd, rfl, hd1, hb1⟩
  have HD1 := hide hd1
  clear hd1
  go_wp2_with fail
  refine (dnew_any room (unhide HR) 128 w1).mono ?_
  rintro e w2 ⟨px, rfl, hd2, hb2⟩
  have HPL : Hid (Pl w pd px 0 w2) := ⟨⟨128, PD.new room, by omega, pr_new (unhide HD1) hb1 hd2 hb2, Nat.zero_le _, fun o ho => by cases ho⟩, hb1.trans hb2⟩
  clear hd2 HD1
  go_wp2_with fail
  go_loopw [7] (fun vi wr => ∃ k : Nat, k ≤ N ∧ k ≤ 120 ∧ vi = .int .i64 k ∧ Hid (Pl w pd px k wr)) (fun vi _ => 120 - (intOf vi).toNat)
  case atStart => exact ⟨0, Nat.zero_le _, by omega, rfl, HPL⟩
  case round =>
    obtain ⟨k, hk, hk2, rfl, HO⟩ := hrel
    by_cases hlt : k < N ∧ k < 120
    · obtain ⟨hlt1, hlt2⟩ := hlt
      have hkl : k < l.length := by rw [HN.out]; exact hlt1
      have hg := (unhide HG) (by omega)
      obtain rfl := HA.out (by omega)
      obtain ⟨e0, e1, e2, e3, e4⟩ := (unhide HROW) k hkl
      have hbl := (unhide HO).bel
      have x0 := (hbl.cell hg).trans e0
      have x1 := (hbl.cell hg).trans e1
      have x2 := (hbl.cell hg).trans e2
      have x3 := (hbl.cell hg).trans e3
      have x4 := (hbl.cell hg).trans e4
      have hs := (unhide HOK) l[k] (List.getElem_mem hkl)
      generalize l[k] = s at x0 x1 x2 x3 x4 hs
      obtain ⟨sc, sn, st, sk, sm⟩ := s
      simp only at x0 x1 x2 x3 x4
      have HS : Hid (okS (sc, sn, st, sk, sm)) := hs
      have hki : (k : Int) < (N : Int) := by omega
      have hki2 : (k : Int) < 120 := by omega
      clear e0 e1 e2 e3 e4 hs hbl
      by_cases hbig : 16384 < st.length
      · have hbi : (16384 : Int) < (st.length : Int) := by omega
        go_wp2_with fail
        go_roundw
        case rel => exact ⟨k + 1, by omega, by omega, by go_num, (unhide HO).up⟩
        case measure => simp [intOf]; omega
      · have hbi : ¬ (16384 : Int) < (st.length : Int) := by omega
        obtain ⟨C, d, hC, hp, hol, htx⟩ := (unhide HO).ex
        have h9 := hide (ld_any (hp.bel (Bel.refl wr).drew).1 sc sn st sk sm (unhide HS).1 (unhide HS).2.1 (by omega) (unhide HS).2.2.1 (unhide HS).2.2.2 (by omega) (by omega) htx)
        have hkp0 := hide ((hp.bel (Bel.refl wr).drew).2)
        have HBL := hide (unhide HO).bel
        clear hp htx
        go_wp2_with fail
        go_region_with (first
          | (go_at_call 9; refine (unhide h9).mono ?_; rintro e w5 ⟨rfl, d5, hpr5, hkp5, hnx5⟩; obtain ⟨M1, B1, M2, B2, f1, f2, f3⟩ := hpr5.ex; have u10 := hide (used_any f1); have u11 := hide (dused_any f2 (by omega)); have u12 := hide (loose_any f1); obtain ⟨vk5, vo5, vn5, g5, g6⟩ := f2.co; obtain ⟨ao, co, hvo, hvo2⟩ := own_shape g5.ops; subst hvo; have y2 : w5.cell? ⟨px, 2, none⟩ = some (.slice ao d5.ops.length co) := cell_of g5.row; have HPR := hide hpr5; have HKP := hide hkp5; have HNX := hide hnx5; clear hpr5 hkp5 hnx5 f1 f2 f3 g5 g6 hvo2)
          | (go_at_call 10; refine (unhide u10).mono ?_; rintro e w6 ⟨rfl, hw6⟩; rw [hw6]; clear hw6)
          | (go_at_call 11; refine (unhide u11).mono ?_; rintro e w6 ⟨rfl, hw6⟩; rw [hw6]; clear hw6)
          | (go_at_call 12; refine (unhide u12).mono ?_; rintro e w6 ⟨rfl, hw6⟩; rw [hw6]; clear hw6))
        all_goals
          go_wp2_with fail
          go_roundw
          case rel => exact ⟨k + 1, by omega, by omega, by go_num, ⟨⟨C + 2 * st.length, d5, by omega, unhide HPR, by have := (unhide HNX).1; omega, (unhide HNX).2⟩, kp_bel (unhide HBL) ((unhide hkp0).trans (unhide HKP))⟩⟩
          case measure => simp [intOf]; omega
    · obtain ⟨C, d, hC, hp, hol, htx⟩ := (unhide HO).ex
      have h13 := hide (stands_any hp (by omega))
      have HBL := hide (unhide HO).bel
      clear hp htx
      by_cases hend : (k : Int) < (N : Int)
      · have hend2 : ¬ ((k : Int) < 120) := by omega
        go_wp2_with fail
        refine (unhide h13).mono ?_
        rintro e w5 ⟨rfl, hb5⟩
        have HB5 := hide hb5
        clear hb5
        go_wp2_with fail
        refine (alive_any w5).mono ?_
        rintro e w6 ⟨rfl, hb6⟩
        have HB6 := hide hb6
        clear hb6
        go_wp2_with fail
        all_goals first | exact ⟨rfl, ((unhide HBL).trans (unhide HB5)).trans (unhide HB6)⟩ | (go_ret; exact ⟨rfl, ((unhide HBL).trans (unhide HB5)).trans (unhide HB6)⟩) | trace_state
      · skip
        go_wp2_with fail
        refine (unhide h13).mono ?_
        rintro e w5 ⟨rfl, hb5⟩
        have HB5 := hide hb5
        clear hb5
        go_wp2_with fail
        refine (alive_any w5).mono ?_
        rintro e w6 ⟨rfl, hb6⟩
        have HB6 := hide hb6
        clear hb6
        go_wp2_with fail
        all_goals first | exact ⟨rfl, ((unhide HBL).trans (unhide HB5)).trans (unhide HB6)⟩ | (go_ret; exact ⟨rfl, ((unhide HBL).trans (unhide HB5)).trans (unhide HB6)⟩) | trace_state
end Go.Proofs.Ytpngcmlaimcceaa
