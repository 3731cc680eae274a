/- Term. -/
import Derived.Test.YthekbhliokcpcaaGreatLst
namespace Go.Proofs.YthekbhliokcpcaaGreat
open Go.RowKit Go.Maps Go.Sort
set_option maxRecDepth 100000 in
set_option maxHeartbeats 1000000 in
theorem behind_in {W : World} {n : Nat} {s : PP} {x : Px} {i : Nat} (hi : i ≤ s.log.length) (hl : s.log.length ≤ 1000000) : Calls Tryz.prog 132 #[.agg (pc n s x), .int .u64 i] W fun e w' => e = .returned (.tuple #[.int .i64 i, .bool true]) ∧ Bel W w' := by
  have h0 : decide ((i : Int) < 0) = false := decide_eq_false (by omega)
  have hw : IntKind.u64.wrap ((i : Int) - 0) = (i : Int) := by rw [Int.sub_zero]; exact wrapU (by omega) (by omega)
  have hw2 : IntKind.u64.wrap (s.log.length : Int) = (s.log.length : Int) := wrapU (by omega) (by omega)
  have hg : decide ((s.log.length : Int) < (i : Int)) = false := decide_eq_false (by omega)
  have hw3 : IntKind.i64.wrap (i : Int) = (i : Int) := wrapI (by omega) (by omega)
  go_enter Tryz.func132, Tryz.ntmps132
  go_wp2_with (first
    | go_skip
    | go_guarded
    | (refine bx_box rfl 31 _ rfl (pc n s x) rfl ?_; intro b w0 hr0 hs0 hb0; have y6 := (Bx.of hr0).c6; have y10 := (Bx.of hr0).c10; have HB0 := hide hb0; clear hr0 hs0 hb0))
  go_ret2
  exact ⟨rfl, unhide HB0⟩
set_option maxRecDepth 100000 in
set_option maxHeartbeats 1000000 in
theorem behind_out {W : World} {n : Nat} {s : PP} {x : Px} {i : Nat} (hi : s.log.length < i) (hI : i ≤ 4611686018427387904) (hl : s.log.length ≤ 1000000) : Calls Tryz.prog 132 #[.agg (pc n s x), .int .u64 i] W fun e w' => e = .returned (.tuple #[.int .i64 0, .bool false]) ∧ Bel W w' := by
  have h0 : decide ((i : Int) < 0) = false := decide_eq_false (by omega)
  have hw : IntKind.u64.wrap ((i : Int) - 0) = (i : Int) := by rw [Int.sub_zero]; exact wrapU (by omega) (by omega)
  have hw2 : IntKind.u64.wrap (s.log.length : Int) = (s.log.length : Int) := wrapU (by omega) (by omega)
  have hg : decide ((s.log.length : Int) < (i : Int)) = true := decide_eq_true (by omega)
  have hw4 : IntKind.u64.wrap (i : Int) = (i : Int) := wrapU (by omega) (by omega)
  clear hI
  go_enter Tryz.func132, Tryz.ntmps132
  go_wp2_with (first
    | go_skip
    | go_guarded
    | (refine bx_box rfl 31 _ rfl (pc n s x) rfl ?_; intro b w0 hr0 hs0 hb0; have y6 := (Bx.of hr0).c6; have y10 := (Bx.of hr0).c10; have HB0 := hide hb0; clear hr0 hs0 hb0))
  go_ret2
  exact ⟨rfl, unhide HB0⟩
set_option maxRecDepth 100000 in
set_option maxHeartbeats 1000000 in
theorem term_out {W : World} {n : Nat} {s : PP} {x : Px} {i : Nat} (hi : s.log.length < i) (hI : i ≤ 4611686018427387904) (hl : s.log.length ≤ 1000000) : Calls Tryz.prog 74 #[.agg (pc n s x), .int .u64 i] W fun e w' => e = .returned (.tuple #[.int .u64 0, .bool false]) ∧ Bel W w' := by
  have HC := hide (fun W' => behind_out (W := W') (n := n) (x := x) hi hI hl)
  clear hi hI hl
  go_enter Tryz.func74, Tryz.ntmps74
  go_wp2_with (first
    | go_skip
    | go_guarded
    | (refine bx_box rfl 31 _ rfl (pc n s x) rfl ?_; intro b w0 hr0 hs0 hb0; have HR0 := hide hr0; have HB0 := hide hb0; clear hr0 hs0 hb0)
    | (refine bx_ldG rfl 31 _ rfl b rfl (pc n s x) _ (unhide HR0) Tryz.underlying31 (Tryz.size32 _ _ _) ?_)
    | (go_at_call 132; refine ((unhide HC) _).mono ?_; rintro e w1 ⟨rfl, hb1⟩; have HB1 := hide ((unhide HB0).trans hb1); clear hb1))
  go_ret2
  exact ⟨rfl, unhide HB1⟩
set_option maxRecDepth 100000 in
set_option maxHeartbeats 1000000 in
theorem term_in {W : World} {n : Nat} {s : PP} {x : Px} {i : Nat} (h : Sl E69 W x.aL s.log) (hi : i ≤ s.log.length) (hl : s.log.length ≤ 1000000) : Calls Tryz.prog 74 #[.agg (pc n s x), .int .u64 i] W fun e w' => e = .returned (.tuple #[.int .u64 (tAt s.log i), .bool true]) ∧ Bel W w' := by
  have HC := hide (fun W' => behind_in (W := W') (n := n) (x := x) hi hl)
  cases i with
  | zero =>
    have e0 : tAt s.log 0 = 0 := rfl
    rw [e0]
    clear hi hl h e0
    go_enter Tryz.func74, Tryz.ntmps74
    go_wp2_with (first
      | go_skip
      | go_guarded
      | (refine bx_box rfl 31 _ rfl (pc n s x) rfl ?_; intro b w0 hr0 hs0 hb0; have HR0 := hide hr0; have HB0 := hide hb0; clear hr0 hs0 hb0)
      | (refine bx_ldG rfl 31 _ rfl b rfl (pc n s x) _ (unhide HR0) Tryz.underlying31 (Tryz.size32 _ _ _) ?_)
      | (go_at_call 132; refine ((unhide HC) _).mono ?_; rintro e w1 ⟨rfl, hb1⟩; have HB1 := hide ((unhide HB0).trans hb1); have y7 := (Bx.of (hb1.row (unhide HR0))).c7; clear hb1))
    go_ret2
    exact ⟨rfl, unhide HB1⟩
  | succ k =>
    obtain ⟨g, off, hg, hR⟩ := h
    have hk : k < s.log.length := by omega
    have ea := hg (by omega)
    have e0 : tAt s.log (k + 1) = s.log[k].t := by simp [tAt, hk]
    rw [e0]
    have r0 := hide (E69_cell hR k hk).1
    generalize s.log[k].t = t at *
    have hz : (((k + 1 : Nat) : Int) == 0) = false := beq_eq_false_iff_ne.2 (by omega)
    have hw : IntKind.i64.wrap (((k + 1 : Nat) : Int) - 1) = k := by rw [wrapI (by omega) (by omega)]; omega
    have hlt : (k : Int) < s.log.length := by omega
    clear hi hl hg hR e0
    generalize ((k + 1 : Nat) : Int) = k1 at *
    go_enter Tryz.func74, Tryz.ntmps74
    go_wp2_with (first
      | go_skip
      | go_guarded
      | (refine bx_box rfl 31 _ rfl (pc n s x) rfl ?_; intro b w0 hr0 hs0 hb0; have HR0 := hide hr0; have HB0 := hide hb0; clear hr0 hs0 hb0)
      | (refine bx_ldG rfl 31 _ rfl b rfl (pc n s x) _ (unhide HR0) Tryz.underlying31 (Tryz.size32 _ _ _) ?_)
      | (go_at_call 132; refine ((unhide HC) _).mono ?_; rintro e w1 ⟨rfl, hb1⟩; have HB1 := hide ((unhide HB0).trans hb1); have y10 := (Bx.of (hb1.row (unhide HR0))).c10; rw [ea] at y10; have z0 := ((unhide HB0).trans hb1).cell (unhide r0); clear hb1))
    go_ret2
    exact ⟨rfl, unhide HB1⟩
end Go.Proofs.YthekbhliokcpcaaGreat
