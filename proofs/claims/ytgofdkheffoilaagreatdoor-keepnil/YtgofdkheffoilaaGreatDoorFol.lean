/- do and Fold, of a new member and the record of its vote. -/
import Derived.Test.YtgofdkheffoilaaGreatDoorFov
namespace Go.Proofs.YtgofdkheffoilaaGreatDoor
open Go.RowKit Go.Maps
/-- The record of a vote for 1 in the term 1. -/
def rc1 : ByteArray := ⟨#[72, 1, 1, 1, 1]⟩
theorem vrec1 : vrec 1 1 = rc1 := by decide +kernel
theorem rc1_num : pnum ⟨#[1, 1, 1, 1]⟩ false = (1, ⟨#[1, 1]⟩, false) := by decide +kernel
theorem rc1_id : pupto 64 ⟨#[1, 1]⟩ false = (1, ⟨#[]⟩, false) := by decide +kernel
theorem ow_read {W w1 w2 w3 : World} {b b2 br n : Nat} {s : PP} {x : Px} {r : ByteArray} {f : Bool} (h : Ow W w2 b b2 n s x) (h1 : Ow W w1 b b2 n s x) (hs : w1.heap.size = br) (hc : Ch (fun i => i = br) w2 w3) (hr : Rst w3 br r f) : Ow W w3 b b2 n s x ∧ br ≠ b ∧ br ≠ b2 ∧ Rst w3 br r f := by
  have l1 := lt_of_some h1.row
  obtain ⟨s3, x3, n3, h3⟩ := h1.row2
  have l2 := lt_of_some h3
  obtain ⟨s2, x2, n2, h2⟩ := h.row2
  exact ⟨⟨hc.row h.row (by omega), ⟨s2, x2, n2, hc.row h2 (by omega)⟩, bel_off h.bel hc (by have := h.ge; omega), h.ge, h.ge2, h.ne⟩, by omega, by omega, hr⟩
set_option maxRecDepth 100000 in
set_option maxHeartbeats 4000000 in
theorem do_vote {W : World} {n : Nat} {s : PP} {x : Px} (hl : s.log.length = 0) (hm : ∀ W', Bel W W' → Calls Tryz.prog 17 #[.agg (pc n (pvot s 1 1) x)] W' fun e w' => e = .returned (.int .i64 0) ∧ Bel W' w') :
    Calls Tryz.prog 27 #[.agg (pc n s x), .string rc1] W fun e w' => e = .returned (.tuple #[.agg (pc n (pvot s 1 1) x), .bool true]) ∧ Bel W w' := by
  have HN := hide (newReader_any ⟨#[1, 1, 1, 1]⟩)
  have HV : Hid (∀ W' br, Rst W' br ⟨#[1, 1, 1, 1]⟩ false → Bel W W' → W.heap.size ≤ br → Calls Tryz.prog 56 #[.agg (pc n s x), .pointer (some ⟨br, 0, none⟩)] W' fun e w' => e = .returned (.tuple #[.agg (pc n (pvot s 1 1) x), .bool true]) ∧ Rst w' br ⟨#[]⟩ false ∧ Ch (fun i => i = br) W' w') := hide (fun W' br hr hb hge => doVote_ok hl hr (by decide) 1 1 ⟨#[1, 1]⟩ rc1_num rc1_id (by decide) (fun W2 hc => hm W2 (bel_off hb hc hge)))
  have HE : Hid (∀ W' br, Rst W' br ⟨#[]⟩ false → Calls Tryz.prog 60 #[.pointer (some ⟨br, 0, none⟩)] W' fun e w' => e = .returned (.bool true) ∧ Bel W' w') := hide (fun W' br hr => ended_any hr)
  clear hl hm
  unfold rc1
  have q0 : ((⟨#[72, 1, 1, 1, 1]⟩ : ByteArray)[0]).toNat = 72 := rfl
  go_enter Tryz.func27, Tryz.ntmps27
  go_wp2_with (first
    | go_skip
    | (refine bx_box rfl 29 _ rfl (pc n s x) rfl ?_; intro b w0 hr0 hs0 hb0; have HR0 := hide hr0; have HB0 := hide (And.intro hb0 (Nat.le_of_eq hs0)); clear hr0 hs0 hb0)
    | (refine bx_new rfl 29 rfl _ Tryz.zero32 ?_; intro b2 w1 hr1 hs1 hb1; have HO : Hid (Ow W w1 b b2 n s x) := hide ⟨hb1.row (unhide HR0), ⟨_, _, _, hr1⟩, (unhide HB0).1.trans hb1, (unhide HB0).2, (show W.heap.size ≤ b2 by have := (unhide HB0).1.size; omega), (show b2 ≠ b from fun e => by have := lt_of_some (unhide HR0); omega)⟩; clear hr1 hs1 hb1)
    | (go_at_call 54; refine ((unhide HN) _).mono ?_; rintro e w2 ⟨br, rfl, hs2, hr2, hb2⟩; have HR := hide (And.intro hr2 (And.intro hs2 (unhide HO))); replace HO := hide ((unhide HO).next hb2); clear hs2 hr2 hb2)
    | (refine bx_ldH 29 (.tmp 2) (by exact rfl) b (by exact rfl) (by exact rfl) _ _ (unhide HO).row Tryz.underlying29 (Tryz.size32 _ _ _) ?_)
    | (go_at_call 56; refine ((unhide HV) _ _ (unhide HR).1 (unhide HO).bel (by have := (unhide HR).2.1; have := (unhide HR).2.2.bel.size; omega)).mono ?_; rintro e w3 ⟨rfl, hr3, hc3⟩; have HQ : Hid (Ow W w3 b b2 n s x ∧ br ≠ b ∧ br ≠ b2 ∧ Rst w3 br ⟨#[]⟩ false) := hide (ow_read (unhide HO) (unhide HR).2.2 (unhide HR).2.1 hc3 hr3); clear hr3 hc3 HO HR)
    | (refine bx_st rfl 29 (.tmp 2) (.tmp 31) rfl b (pc n (pvot s 1 1) x) _ rfl rfl (unhide HQ).1.row (Tryz.size32 _ _ _) rfl (pc_one _ _ _) ?_; intro w4 hr4 hc4; have HP : Hid (Ow W w4 b b2 n (pvot s 1 1) x ∧ Rst w4 br ⟨#[]⟩ false) := hide ⟨(unhide HQ).1.set hr4 hc4, hc4.row (unhide HQ).2.2.2 (unhide HQ).2.1⟩; have HN2 := hide (unhide HQ).2.2.1; clear hr4 hc4 HQ))
  refine wp_region_held_drew (S := fun W => W.heap[b]? = some (.cells (pc n (pvot s 1 1) x) 29)) Tryz.follows (unhide HP).1.row (fun hS => ?_)
  refine any_ldT (i := 0) (b := b) rfl (by kernel_rfl) (by kernel_rfl) (by kernel_rfl) (fun _ _ _ h => h) rfl hS rfl rfl (fun w hw => hw) Tryz.underlying29 (Tryz.size32 _ _ _) ?_
  refine any_take (i := 1) (v := .bool true) rfl (by kernel_rfl) (by kernel_rfl) (by kernel_rfl) (fun _ _ _ h => h) rfl hS (fun w _ => by go_simp) ?_
  refine any_take (i := 2) (v := .bool true) rfl (by kernel_rfl) (by kernel_rfl) (by kernel_rfl) (fun _ _ _ h => h) rfl hS (fun w _ => by go_simp) ?_
  refine any_take (i := 3) (v := .pointer (some ⟨br, 0, none⟩)) rfl (by kernel_rfl) (by kernel_rfl) (by kernel_rfl) (fun _ _ _ h => h) rfl hS (fun w _ => by go_simp) ?_
  refine any_call (i := 4) (by kernel_rfl) rfl rfl (by go_simp) ((unhide HE) _ br ((unhide HP).2.bel (Bel.refl w4).drew)) ?_
  rintro e w5 ⟨rfl, hb5⟩
  have HT := hide ((unhide HP).1.next ((Bel.refl w4).drew.trans hb5))
  clear hb5 HP
  refine ⟨_, rfl, (unhide HT).row, ?_⟩
  refine any_take (i := 5) (v := .bool true) rfl (by kernel_rfl) (by kernel_rfl) (by kernel_rfl) (fun _ _ _ h => h) rfl (unhide HT).row (fun w _ => by go_simp) ?_
  obtain ⟨s2, x2, n2, h2⟩ := (unhide HT).row2
  have HZ := hide (And.intro (ch_row (c' := pc n (pvot s 1 1) x) h2).1 (bel_off (unhide HT).bel (ch_row (c' := pc n (pvot s 1 1) x) h2).2 (unhide HT).ge2))
  have hS2 := (ch_row (c' := pc n (pvot s 1 1) x) h2).2.row (unhide HT).row (unhide HT).ne.symm
  refine any_skip (i := 6) (by kernel_rfl) rfl rfl (st_run (.tmp 4) (.tmp 57) rfl rfl rfl h2 (Tryz.size32 _ _ _) rfl (pc_one _ _ _)) ⟨hS2, ?_⟩
  refine any_do (i := 7) (v := .bool true) (by kernel_rfl) rfl rfl (by go_simp) ⟨hS2, ?_⟩
  refine wpAnyH_done (by kernel_rfl) ?_ _
  clear hS2 hS
  generalize w5.setRow b2 (pc n (pvot s 1 1) x) = w8 at *
  simp [Act.put]
  go_wp2_with fail
  exact bodyPost_ret (res2 (p := 4) (q := 5) rfl Tryz.underlying29 (Tryz.size32 _ _ _) (unhide HZ).1 _ _ rfl rfl) rfl ⟨rfl, (unhide HZ).2⟩
end Go.Proofs.YtgofdkheffoilaaGreatDoor
