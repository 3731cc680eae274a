/- What is not the wal's is cut off; Sync. -/
import Derived.Test.YtgimciacapfbfaaGreatDoorTak
namespace Go.Proofs.YtgimciacapfbfaaGreatDoor
open Go.RowKit Go.Maps Go.WideMaps
theorem wsync_nil (w : World) : Calls Tryz.prog 9 #[.pointer none] w fun e w' => e = .returned (.int .i64 1) ∧ w' = w := by
  go_enter Tryz.func9, Tryz.ntmps9
  go_wp2_with (go_at_call 24; refine (gone_nil _).mono ?_; rintro e w1 ⟨rfl, rfl⟩)
  go_ret
  exact ⟨rfl, rfl⟩
theorem wsync_any {w0 W : World} {C : Nat} {G : Nat → Prop} {q p : Nat} {x : PW} {d : PD} (h : Wa w0 C G W q p x d) (hn : x.nm ≠ []) (hol : d.ops.length ≤ 1000000) : Calls Tryz.prog 9 #[.pointer (some ⟨q, 0, none⟩)] W fun e w' => e = .returned (.int .i64 0) ∧ Wa w0 C G w' q p x d.sync ∧ Kp G W w' := by
  obtain ⟨a, c, hr, _, _⟩ := h.see
  have h24 := hide (gone_any hr hn)
  have c0 : W.cell? ⟨q, 0, none⟩ = some (.pointer (some ⟨p, 0, none⟩)) := cell_of hr
  have h28 := hide (h.call (fun M B hk => sync_any hk hol))
  clear h hr
  go_enter Tryz.func9, Tryz.ntmps9
  go_wp2_with (first
    | (go_at_call 24; refine (unhide h24).mono ?_; rintro e w1 ⟨rfl, rfl⟩)
    | (go_at_call 28; refine (unhide h28).mono ?_; rintro e w2 ⟨rfl, hwa, hkp⟩))
  go_ret
  exact ⟨rfl, hwa, hkp⟩
theorem clean_ok (q u c : Nat) (a : Option Addr) (W : World) : Calls Tryz.prog 48 #[.pointer (some ⟨q, 0, none⟩), .int .i64 u, .int .i64 u, .slice a 0 c] W fun e w' => e = .returned (.int .i64 0) ∧ w' = W := by
  go_enter Tryz.func48, Tryz.ntmps48
  go_wp2_with fail
  go_ret
  exact ⟨rfl, rfl⟩
set_option maxRecDepth 100000 in
set_option maxHeartbeats 4000000 in
theorem clean_cut {w0 W : World} {C : Nat} {G : Nat → Prop} {q p : Nat} {x : PW} {d d' : PD} (h : Wa w0 C G W q p x d) (hg : Gl w0) (hn : x.nm ≠ []) (hn2 : x.nm.length ≤ 64) (hla : x.last ≤ 1000000) (u s c : Nat) (a : Option Addr) (hu : u < s) (hol : d.ops.length ≤ 1000) (hC : C ≤ 1099511627776) (hol' : d'.ops.length ≤ 1000000) (hd : d.tr (pth x.nm x.last) u = (0, d')) :
    Calls Tryz.prog 48 #[.pointer (some ⟨q, 0, none⟩), .int .i64 u, .int .i64 s, .slice a 0 c] W fun e w' => e = .returned (.int .i64 0) ∧ Wa w0 C G w' q p x d'.sync ∧ Kp G W w' := by
  obtain ⟨a2, c2, hr2, _, _⟩ := h.see
  have R2 := hide hr2
  have H := hide h
  have HN := hide hn
  have s0 : W.drew.cell? ⟨q, 0, none⟩ = some (.pointer (some ⟨p, 0, none⟩)) := cell_of hr2
  have t0 : W.drew.cell? ⟨q, 3, none⟩ = some (.int .i64 (x.last : Nat)) := cell_of hr2
  have hp := hide (fun W' (hb : Bel W W') => path_any (hb.row hr2) (hg.next (h.bel.trans hb)) hn2 x.last (by omega))
  have ha := hide (fun W' (hb : Bel W W') => Wa.call (h.up hb) (fun M B hk => trunc_any hk (pth x.nm x.last) u (by rw [pth_len]; unfold maxLen; omega) (by omega) hC))
  rw [hd] at ha
  have hus : ((u : Int) == (s : Int)) = false := by rw [beq_eq_false_iff_ne]; omega
  have hus2 : (u : Int) < (s : Int) := by omega
  clear hr2 h hn hg hd
  go_enter Tryz.func48, Tryz.ntmps48
  go_wp2_with fail
  go_region_held3 (fun W => W.cell? ⟨q, 0, none⟩ = some (.pointer (some ⟨p, 0, none⟩)) ∧ W.cell? ⟨q, 3, none⟩ = some (.int .i64 (x.last : Nat))) (first | exact ⟨s0, t0⟩ | exact ⟨s1, t1⟩ | exact ⟨s2, t2⟩ | go_simp)
    ((first
      | (go_at_call 37; refine ((unhide hp) _ (Bel.refl _).drew).mono ?_; rintro e w3 ⟨rfl, hb3⟩; have s1 : w3.cell? ⟨q, 0, none⟩ = some (.pointer (some ⟨p, 0, none⟩)) := cell_of ((((Bel.refl W).drew).trans hb3).row (unhide R2)); have t1 : w3.cell? ⟨q, 3, none⟩ = some (.int .i64 (x.last : Nat)) := cell_of ((((Bel.refl W).drew).trans hb3).row (unhide R2)))
      | (go_at_call 40; refine ((unhide ha) _ ((Bel.refl W).drew.trans hb3)).mono ?_; rintro e w4 ⟨rfl, hwa4, hkp4⟩; have H4 := hide hwa4; have KP4 := hide hkp4; clear hwa4 hkp4; have s2 : w4.cell? ⟨q, 0, none⟩ = some (.pointer (some ⟨p, 0, none⟩)) := (unhide H4).see.elim fun _ h => h.elim fun _ h => cell_of h.1; have t2 : w4.cell? ⟨q, 3, none⟩ = some (.int .i64 (x.last : Nat)) := (unhide H4).see.elim fun _ h => h.elim fun _ h => cell_of h.1)))
  all_goals
    have h9 := hide (wsync_any (unhide H4) (unhide HN) hol')
    have hk := hide (((unhide H).kp ((Bel.refl W).drew.trans hb3)).trans (unhide KP4))
    clear s0 s1 s2 t0 t1 t2
    go_wp2_with fail
    go_loopw [11, 12, 41] (fun _ _ vi wr => vi = .int .i64 0 ∧ wr = w4) (fun _ _ _ _ => 0)
    case atStart => exact ⟨rfl, rfl⟩
    case round =>
      obtain ⟨rfl, rfl⟩ := hrel
      go_wp2_with (go_at_call 9; refine (unhide h9).mono ?_; rintro e w5 ⟨rfl, hwa5, hkp5⟩)
      go_ret
      exact ⟨rfl, hwa5, (unhide hk).trans hkp5⟩
end Go.Proofs.YtgimciacapfbfaaGreatDoor
