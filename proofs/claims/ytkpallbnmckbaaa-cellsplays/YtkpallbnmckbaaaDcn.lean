/- The document's Lay of a first cell; Put. -/
import Derived.Test.YtkpallbnmckbaaaDcm
namespace Go.Proofs.Ytkpallbnmckbaaa
open Go.RowKit
set_option maxRecDepth 100000 in
set_option maxHeartbeats 4000000 in
theorem lay_nil (c : C) (W : World) : Calls Try.prog 28 #[.slice none 0 0, vC c] W fun e w' => ∃ v', e = .returned v' ∧ Bel W w' ∧ SV w' v' [c] := by
  obtain ⟨k0, t0, d0, v0⟩ := c
  show Calls Try.prog 28 #[.slice none 0 0, .agg #[.string k0, .int .u64 t0, .bool d0, .string v0]] W _
  have hfu := Try.follows
  obtain ⟨W0, hW0⟩ : ∃ W0, W0 = W.alloc (.cells #[.string k0, .int .u64 t0, .bool d0, .string v0] 38) := ⟨_, rfl⟩
  have hb0 : Bel W W0 := by rw [hW0]; exact (Bel.refl _).alloc _
  have hbx : N4 W0 W.heap.size (k0, t0, d0, v0) := by rw [hW0]; exact N4.of (at_new W _)
  have HW0 := hide hW0
  have HBX := hide hbx
  have HB0 := hide hb0
  generalize hX : W.heap.size = X at HBX
  clear hW0 hbx hb0
  go_enter Try.func28, Try.ntmps28
  go_wp2_with fail
  rw [← unhide HW0]
  go_loopw [5] (fun vi wr => vi = .int .i64 0 ∧ Hid (Bel W0 wr)) (fun _ _ => 0)
  case atStart => exact ⟨rfl, Bel.refl _⟩
  case round =>
    rename_i wr
    obtain ⟨rfl, HB⟩ := hrel
    have hne := BelBy.some wr
    go_wp2_with fail
    refine wp_region_bel hfu (by kernel_rfl) ?_
    repeat (go_big_quiet_step (fail))
    refine wpQuiet_nil ?_
    rintro W1 ⟨p1, rfl⟩
    have HW1 := hide ((unhide HB).trans p1.h)
    generalize p1.W = W1 at HW1 ⊢
    go_wp2_with (first | (at_builtin; refine app_one (k0, t0, d0, v0) (unhide HO2) (unhide HB2).size (by simp) rfl _ _ rfl rfl _ (by simp) rfl ?_; intro g3 cap3 w3 ho3 hg3 hat3; have HO3 := hide ho3; have HB3 : Hid (Bel W0 w3) := hide (Below.trans ((unhide HB2).trans ((Bel.refl _).alloc _)) (grown_bel hg3 (Nat.le_trans (unhide HB2).size (by simp)) (fun k hk => ((unhide HO2).lt hk).1))); clear ho3 hg3 hat3) | (at_builtin; refine app_rv (base := W0.heap.size) (M := []) (OR.nil _ _) (unhide HW1).size (RV.nil _) (by simp) rfl _ _ rfl rfl rfl ?_; intro v2 w2 ho2 hg2; have HO2 : Hid (OR W0.heap.size w2 v2 []) := hide ho2; have HB2 : Hid (Bel W0 w2) := hide (Below.trans (unhide HW1) (grown_bel hg2 (unhide HW1).size (fun k hk => by simp [Value.ownBlock] at hk))); obtain ⟨r0, r1, r2, r3⟩ := (unhide HBX).bel (unhide HB2); simp only [C.k, C.t, C.d, C.v] at r0 r1 r2 r3; clear ho2 hg2))
    have hne3 := BelBy.some w3
    refine wp_region_bel hfu (by kernel_rfl) ?_
    repeat (go_big_quiet_step (fail))
    refine wpQuiet_nil ?_
    rintro W4 ⟨p4, rfl⟩
    have HB4 := hide ((unhide HB3).trans p4.h)
    have HO4 := hide ((unhide HO3).bel p4.h)
    generalize p4.W = W4 at HB4 HO4 ⊢
    go_wp2_with (at_builtin; (refine app_rv (base := W0.heap.size) (M := []) (unhide HO4) (unhide HB4).size (RV.nil _) (by simp) rfl _ _ rfl rfl rfl ?_; intro v5 w5 ho5 hg5; have HO5 := hide ho5; have HB5 : Hid (Bel W0 w5) := hide (Below.trans (unhide HB4) (grown_bel hg5 (unhide HB4).size (fun k hk => ((unhide HO4).lt hk).1))); clear ho5 hg5))
    go_ret
    exact ⟨_, rfl, (unhide HB0).trans (unhide HB5), (unhide HO5).sv⟩
theorem lay_any {W : World} {v : Value} {L : List C} (c : C) (h : SV W v L) (hl : L.length ≤ 900000) : Calls Try.prog 28 #[v, vC c] W fun e w' => ∃ v', e = .returned v' ∧ Bel W w' ∧ SV w' v' (ins c L) := by
  rcases h with ⟨rfl, rfl⟩ | ⟨g, off, cap, rfl, h1, h2⟩
  · exact lay_nil c W
  · exact lay_row c h1 h2 hl
end Go.Proofs.Ytkpallbnmckbaaa
