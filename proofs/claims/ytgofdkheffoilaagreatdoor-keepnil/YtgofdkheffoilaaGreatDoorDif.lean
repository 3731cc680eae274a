/- Diff of a new member and of the same one with a vote. -/
import Derived.Test.YtgofdkheffoilaaGreatDoorOwn
import Derived.Test.YtgofdkheffoilaaGreatDoorRdr
namespace Go.Proofs.YtgofdkheffoilaaGreatDoor
open Go.RowKit Go.Maps
/-- Rows of texts. -/
def E9 : El ByteArray := { enc := fun x => [.string x], k := 1, e := 9, t := 40, bytes := 16, z := .string ⟨#[]⟩, hk := by decide, len := fun _ => rfl, one := fun x u hu => by simp at hu; rw [hu]; rfl, ht := Tryz.underlying40, hi := by kernel_rfl, hz := rfl, hb := by decide }
theorem E9_cell {W : World} {g off : Nat} {l : List ByteArray} (h : E9.R W g off l) (j : Nat) (hj : j < l.length) : W.cell? ⟨g, off + j, none⟩ = some (.string l[j]) := by
  have := h j hj 0 _ rfl
  simpa [E9] using this
/-- The same member with a vote. -/
def pvot (s : PP) (t v : Int) : PP := { s with term := t, vote := v }
set_option maxRecDepth 100000 in
theorem alike_nil (a a' : Option Addr) (c c' : Nat) (W : World) : Calls Tryz.prog 29 #[.slice a 0 c, .slice a' 0 c'] W fun e w' => e = .returned (.int .i64 0) ∧ Bel W w' := by
  go_enter Tryz.func29, Tryz.ntmps29
  go_wp2_with fail
  go_loopw [5] (fun vk wr => vk = .int .i64 0 ∧ wr = W) (fun _ _ => 0)
  case atStart => exact ⟨rfl, rfl⟩
  case round =>
    obtain ⟨rfl, rfl⟩ := hrel
    go_wp2_with fail
    go_quiet (fail)
    go_wp2_with fail
    go_ret
    exact ⟨rfl, (Bel.refl _).drewN _⟩
set_option maxRecDepth 100000 in
set_option maxHeartbeats 1000000 in
theorem voteRec_any {W : World} {n : Nat} {s : PP} {x : Px} (t v : Nat) (ht : t < 2 ^ 64) (hv : v < 2 ^ 63) (e1 : s.term = t) (e2 : s.vote = v) : Calls Tryz.prog 30 #[.agg (pc n s x)] W fun e w' => e = .returned (.string (⟨#[72]⟩ ++ ⟨(num t).toArray⟩ ++ ⟨(num v).toArray⟩)) ∧ Bel W w' := by
  have HN := hide (fun (k : Nat) (hk : Hid (k < 2 ^ 64)) W' => num_any k hk W')
  have HT : Hid (t < 2 ^ 64) := hide ht
  have HV : Hid (v < 2 ^ 64) := hide (by omega)
  have hw : IntKind.u64.wrap (v : Int) = (v : Int) := by rw [IntKind.wrap_u64]; omega
  have hs1 : ¬ (9223372036854775807 < 1 + (num t).length) := by have := num_len t ht; omega
  have hs2 : ¬ (9223372036854775807 < 1 + (num t).length + (num v).length) := by have := num_len t ht; have := num_len v (by omega); omega
  clear ht hv
  go_enter Tryz.func30, Tryz.ntmps30
  go_wp2_with (first
    | (refine bx_box rfl 29 _ rfl (pc n s x) rfl ?_; intro b w0 hr0 hs0 hb0; have HR0 := hide hr0; have HB0 := hide hb0; clear hr0 hs0 hb0))
  have y2 : ∀ p : BelBy w0, p.W.cell? ⟨b, 2, none⟩ = some (.int .u64 (t : Int)) := fun p => by rw [← e1]; exact (Bx.of (p.h.row (unhide HR0))).c2
  have y3 : ∀ p : BelBy w0, p.W.cell? ⟨b, 3, none⟩ = some (.int .i64 (v : Int)) := fun p => by rw [← e2]; exact (Bx.of (p.h.row (unhide HR0))).c3
  have hne := BelBy.some w0
  refine wp_region_bel Tryz.follows (by kernel_rfl) ?_
  repeat (go_big_quiet_step (first
      | (go_at_call 45; refine calls_by ((unhide HN) _ (by assumption) _))))
  refine wpQuiet_nil ?_
  rintro w' ⟨p, rfl⟩
  have HP := hide p.h
  generalize p.W = w1 at *
  clear y2 y3
  go_wp2_with fail
  go_ret
  exact ⟨rfl, (unhide HB0).trans (unhide HP)⟩
/-- A member that may be, whatever is made beside it. -/
def Mb (W : World) (n : Nat) (s : PP) (x : Px) : Prop := ∀ W', Bel W W' → Calls Tryz.prog 17 #[.agg (pc n s x)] W' fun e w' => e = .returned (.int .i64 0) ∧ Bel W' w'
theorem Mb.call {W W' : World} {n : Nat} {s : PP} {x : Px} (h : Mb W n s x) (hb : Bel W W') : Calls Tryz.prog 17 #[.agg (pc n s x)] W' fun e w' => e = .returned (.int .i64 0) ∧ Bel W' w' := h W' hb
set_option maxRecDepth 100000 in
set_option maxHeartbeats 1000000 in
theorem follows_ok {W : World} {n : Nat} {s s' : PP} {x x' : Px} (h : Mb W n s x) (h' : Mb W n s' x') (hi : s.id = s'.id) (ht : s.term ≤ s'.term) : Calls Tryz.prog 28 #[.agg (pc n s x), .agg (pc n s' x')] W fun e w' => e = .returned (.bool true) ∧ Bel W w' := by
  have HM1 := hide h
  have HM2 := hide h'
  have hie : (s.id == s'.id) = true := by simp [hi]
  clear h h' hi
  go_enter Tryz.func28, Tryz.ntmps28
  go_wp2_with (first
    | go_skip
    | (refine bx_box rfl 29 (.tmp 0) rfl (pc n s x) rfl ?_; intro b w0 hr0 hs0 hb0; have HR0 := hide (And.intro hr0 hb0); clear hr0 hs0 hb0)
    | (refine bx_box rfl 29 (.tmp 1) rfl (pc n s' x') rfl ?_; intro b' w1 hr1 hs1 hb1; have HR := hide (And.intro (hb1.row (unhide HR0).1) (And.intro hr1 ((unhide HR0).2.trans hb1))); clear hr1 hs1 hb1)
    | (refine bx_ldH 29 (.tmp 2) (by exact rfl) b (by exact rfl) (by exact rfl) _ _ (unhide HR).1 Tryz.underlying29 (Tryz.size32 _ _ _) ?_)
    | (refine bx_ldH 29 (.tmp 3) (by exact rfl) b' (by exact rfl) (by exact rfl) _ _ (unhide HR).2.1 Tryz.underlying29 (Tryz.size32 _ _ _) ?_)
    | (go_at_call 17; refine ((unhide HM1).call (unhide HR).2.2).mono ?_; rintro e w2 ⟨rfl, hb2⟩; have HS := hide (And.intro (hb2.row (unhide HR).1) (And.intro (hb2.row (unhide HR).2.1) ((unhide HR).2.2.trans hb2))); replace HR := HS; clear hb2 HM1)
    | (go_at_call 17; refine ((unhide HM2).call (unhide HR).2.2).mono ?_; rintro e w3 ⟨rfl, hb3⟩; have HE := hide ((unhide HR).2.2.trans hb3); have y0 := (Bx.of (hb3.row (unhide HR).1)).c0; have y2 := (Bx.of (hb3.row (unhide HR).1)).c2; have y6 := (Bx.of (hb3.row (unhide HR).1)).c6; have z0 := (Bx.of (hb3.row (unhide HR).2.1)).c0; have z2 := (Bx.of (hb3.row (unhide HR).2.1)).c2; have z6 := (Bx.of (hb3.row (unhide HR).2.1)).c6; clear hb3)
    | go_guarded)
  go_ret
  exact ⟨rfl, unhide HE⟩
set_option maxRecDepth 100000 in
set_option maxHeartbeats 1000000 in
theorem sameBase_ok {W : World} {n : Nat} {s s' : PP} {x x' : Px} (h : Sl E3 W x.aB (mem n)) (h' : Sl E3 W x'.aB (mem n)) (hn : n ≤ 64) : Calls Tryz.prog 32 #[.agg (pc n s x), .agg (pc n s' x')] W fun e w' => e = .returned (.bool true) ∧ Bel W w' := by
  have HQ : Hid (∀ W', Bel W W' → Calls Tryz.prog 62 #[.slice x.aB n x.cB, .slice x'.aB n x'.cB] W' fun e w' => e = .returned (.bool true) ∧ Bel W' w') := hide (fun W' hb => by
    have := equal_any (h.bel hb) (h'.bel hb) x.cB x'.cB (by rw [mem_len]; omega)
    rwa [mem_len, decide_eq_true rfl] at this)
  clear h h' hn
  go_enter Tryz.func32, Tryz.ntmps32
  go_wp2_with (first
    | go_skip
    | (refine bx_box rfl 29 (.tmp 0) rfl (pc n s x) rfl ?_; intro b w0 hr0 hs0 hb0; have HR0 := hide (And.intro hr0 hb0); clear hr0 hs0 hb0)
    | (refine bx_box rfl 29 (.tmp 1) rfl (pc n s' x') rfl ?_; intro b' w1 hr1 hs1 hb1; have HE := hide ((unhide HR0).2.trans hb1); have y6 := (Bx.of (hb1.row (unhide HR0).1)).c6; have y7 := (Bx.of (hb1.row (unhide HR0).1)).c7; have y8 := (Bx.of (hb1.row (unhide HR0).1)).c8; have y9 := (Bx.of (hb1.row (unhide HR0).1)).c9; have z6 := (Bx.of hr1).c6; have z7 := (Bx.of hr1).c7; have z8 := (Bx.of hr1).c8; have z9 := (Bx.of hr1).c9; clear hr1 hs1 hb1)
    | (go_at_call 62; refine ((unhide HQ) _ (unhide HE)).mono ?_; rintro e w2 ⟨rfl, hb2⟩; replace HE := hide ((unhide HE).trans hb2); clear hb2)
    | go_guarded)
  go_ret
  exact ⟨rfl, unhide HE⟩
end Go.Proofs.YtgofdkheffoilaaGreatDoor
