/- doVote of a member without entries. -/
import Derived.Test.YtgofdkheffoilaaGreatDoorDig
import Derived.Test.YtgofdkheffoilaaGreatDoorAny
namespace Go.Proofs.YtgofdkheffoilaaGreatDoor
open Go.RowKit Go.Maps
set_option maxRecDepth 100000 in
set_option maxHeartbeats 1000000 in
theorem short_nil {W : World} {n : Nat} {s : PP} {x : Px} (hl : s.log.length = 0) : Calls Tryz.prog 94 #[.agg (pc n s x)] W fun e w' => e = .returned (.agg (pc n s x)) ∧ Bel W w' := by
  have HL := hide hl
  clear hl
  go_enter Tryz.func94, Tryz.ntmps94
  go_wp2_with (first
    | go_skip
    | (refine bx_box rfl 29 _ rfl (pc n s x) rfl ?_; intro b w0 hr0 hs0 hb0; have HR0 := hide hr0; have HB0 := hide (And.intro hb0 (Nat.le_of_eq hs0)); clear hr0 hs0 hb0)
    | (refine bx_new rfl 29 rfl _ Tryz.zero32 ?_; intro b2 w1 hr1 hs1 hb1; have HO : Hid (Ow W w1 b b2 n s x) := hide ⟨hb1.row (unhide HR0), ⟨_, _, _, hr1⟩, (unhide HB0).1.trans hb1, (unhide HB0).2, (show W.heap.size ≤ b2 by have := (unhide HB0).1.size; omega), (show b2 ≠ b from fun e => by have := lt_of_some (unhide HR0); omega)⟩; have y10 := e10 (unhide HL) (unhide HO).row; clear hr1 hs1 hb1)
    | (refine bx_ldH 29 (.tmp 1) (by exact rfl) b (by exact rfl) (by exact rfl) _ _ (unhide HO).row Tryz.underlying29 (Tryz.size32 _ _ _) ?_)
    | (obtain ⟨s2, x2, n2, h2⟩ := (unhide HO).row2; refine bx_st rfl 29 (.tmp 2) _ rfl b2 _ _ rfl rfl h2 (Tryz.size32 _ _ _) rfl (pc_one _ _ _) ?_; intro w13 hr13 hc13; have HZ := hide (And.intro hr13 (bel_off (unhide HO).bel hc13 (unhide HO).ge2)); clear hr13 hc13 h2)
    | go_guarded)
  exact bodyPost_ret (res1 (p := 2) rfl Tryz.underlying29 (Tryz.size32 _ _ _) (unhide HZ).1 _ rfl) rfl ⟨rfl, (unhide HZ).2⟩
theorem ch_off {M : Nat → Prop} {a b c : World} {k : Nat} (h : Ch M a b) (hc : Ch (fun i => i = k) b c) (hk : a.heap.size ≤ k) : Ch M a c := h.trans hc (fun i hi => Or.inr (by rw [hi]; exact hk))
/-- A member in its box beside a reader: nothing that was there has changed but the reader. -/
structure Oy (W w : World) (b b2 br n : Nat) (s : PP) (x : Px) : Prop where
  row : w.heap[b]? = some (.cells (pc n s x) 29)
  row2 : ∃ s2 x2 n2, w.heap[b2]? = some (.cells (pc n2 s2 x2) 29)
  ch : Ch (fun i => i = br) W w
  ge : W.heap.size ≤ b
  ge2 : W.heap.size ≤ b2
  ne : b2 ≠ b
  lt : br < W.heap.size
section
variable {W w w' : World} {b b2 br n : Nat} {s s' : PP} {x x' : Px}
theorem Oy.set (h : Oy W w b b2 br n s x) (h1 : w'.heap[b]? = some (.cells (pc n s' x') 29)) (hc : Ch (fun i => i = b) w w') : Oy W w' b b2 br n s' x' := by
  obtain ⟨s2, x2, n2, h2⟩ := h.row2
  exact ⟨h1, ⟨s2, x2, n2, hc.row h2 h.ne⟩, ch_off h.ch hc h.ge, h.ge, h.ge2, h.ne, h.lt⟩
theorem Oy.next (h : Oy W w b b2 br n s x) (hb : Bel w w') : Oy W w' b b2 br n s x := by
  obtain ⟨s2, x2, n2, h2⟩ := h.row2
  exact ⟨hb.row h.row, ⟨s2, x2, n2, hb.row h2⟩, h.ch.bel hb, h.ge, h.ge2, h.ne, h.lt⟩
theorem Oy.read (h : Oy W w b b2 br n s x) (hc : Ch (fun i => i = br) w w') : Oy W w' b b2 br n s x := by
  obtain ⟨s2, x2, n2, h2⟩ := h.row2
  have := h.ge
  have := h.ge2
  have := h.lt
  exact ⟨hc.row h.row (by omega), ⟨s2, x2, n2, hc.row h2 (by omega)⟩, Ch.one h.ch hc, h.ge, h.ge2, h.ne, h.lt⟩
theorem Oy.rst {r : ByteArray} {f : Bool} (h : Oy W w b b2 br n s x) (hr : Rst w br r f) (hc : Ch (fun i => i = b) w w') : Rst w' br r f := hc.row hr (by have := h.ge; have := h.lt; omega)
theorem Oy.rst2 {r : ByteArray} {f : Bool} (h : Oy W w b b2 br n s x) (hr : Rst w br r f) (hc : Ch (fun i => i = b2) w w') : Rst w' br r f := hc.row hr (by have := h.ge2; have := h.lt; omega)
end
set_option maxRecDepth 100000 in
set_option maxHeartbeats 2000000 in
theorem doVote_ok {W : World} {n : Nat} {s : PP} {x : Px} {br : Nat} {r : ByteArray} (hl : s.log.length = 0) (hr : Rst W br r false) (hs : r.size ≤ 150000000000000) (t v : Nat) (r1 : ByteArray) (e1 : pnum r false = (t, r1, false)) (e2 : pupto 64 r1 false = (v, ⟨#[]⟩, false)) (h1 : r1.size ≤ 150000000000000) (hm : ∀ W', Ch (fun i => i = br) W W' → Calls Tryz.prog 17 #[.agg (pc n (pvot s t v) x)] W' fun e w' => e = .returned (.int .i64 0) ∧ Bel W' w') :
    Calls Tryz.prog 56 #[.agg (pc n s x), .pointer (some ⟨br, 0, none⟩)] W fun e w' => e = .returned (.tuple #[.agg (pc n (pvot s t v) x), .bool true]) ∧ Rst w' br ⟨#[]⟩ false ∧ Ch (fun i => i = br) W w' := by
  have HR := hide hr
  have HNum : Hid (∀ W', Rst W' br r false → Calls Tryz.prog 89 #[.pointer (some ⟨br, 0, none⟩)] W' fun e w' => e = .returned (.int .u64 (t : Int)) ∧ Rst w' br r1 false ∧ Ch (fun i => i = br) W' w') := hide (fun W' h => by have := rnum_any h hs; rwa [e1] at this)
  have HId : Hid (∀ W', Rst W' br r1 false → Calls Tryz.prog 90 #[.pointer (some ⟨br, 0, none⟩)] W' fun e w' => e = .returned (.int .i64 (v : Int)) ∧ Rst w' br ⟨#[]⟩ false ∧ Ch (fun i => i = br) W' w') := hide (fun W' h => by have := id_any h h1; rwa [e2] at this)
  have HS : Hid (∀ W', Calls Tryz.prog 94 #[.agg (pc n (pvot s t v) x)] W' fun e w' => e = .returned (.agg (pc n (pvot s t v) x)) ∧ Bel W' w') := hide (fun W' => short_nil hl)
  have HM := hide hm
  clear hl hr hs e1 e2 h1 hm
  go_enter Tryz.func56, Tryz.ntmps56
  go_wp2_with (first
    | go_skip
    | (refine bx_box rfl 29 _ rfl (pc n s x) rfl ?_; intro b w0 hr0 hs0 hb0; have HR0 := hide hr0; have HB0 := hide (And.intro hb0 (Nat.le_of_eq hs0)); clear hr0 hs0 hb0)
    | (refine bx_new rfl 29 rfl _ Tryz.zero32 ?_; intro b2 w1 hr1 hs1 hb1; have HO : Hid (Oy W w1 b b2 br n s x) := hide ⟨hb1.row (unhide HR0), ⟨_, _, _, hr1⟩, ((unhide HB0).1.trans hb1).ch _, (unhide HB0).2, (show W.heap.size ≤ b2 by have := (unhide HB0).1.size; omega), (show b2 ≠ b from fun e => by have := lt_of_some (unhide HR0); omega), lt_of_some (unhide HR)⟩; replace HR := hide ((unhide HR).bel ((unhide HB0).1.trans hb1)); clear hr1 hs1 hb1)
    | (go_at_call 89; refine ((unhide HNum) _ (unhide HR)).mono ?_; rintro e w2 ⟨rfl, hr2, hc2⟩; replace HO := hide ((unhide HO).read hc2); replace HR := hide hr2; clear hr2 hc2)
    | (go_at_call 90; refine ((unhide HId) _ (unhide HR)).mono ?_; rintro e w3 ⟨rfl, hr3, hc3⟩; replace HO := hide ((unhide HO).read hc3); replace HR := hide hr3; clear hr3 hc3)
    | (refine fl_term rfl (.tmp 10) (.tmp 7) rfl b (t : Int) rfl rfl (unhide HO).row ?_; intro w4 hr4 hc4; replace HR := hide ((unhide HO).rst (unhide HR) hc4); replace HO := hide ((unhide HO).set hr4 hc4); clear hr4 hc4)
    | (refine fl_vote rfl (.tmp 11) (.tmp 9) rfl b (v : Int) rfl rfl (unhide HO).row ?_; intro w5 hr5 hc5; replace HR := hide ((unhide HO).rst (unhide HR) hc5); have HP : Hid (Oy W w5 b b2 br n (pvot s t v) x) := hide ((unhide HO).set hr5 hc5); clear hr5 hc5 HO))
  refine wp_region_held_drew (S := fun W => W.heap[b]? = some (.cells (pc n (pvot s t v) x) 29)) Tryz.follows (unhide HP).row (fun hS => ?_)
  refine any_ldT (i := 0) (b := b) rfl (by kernel_rfl) (by kernel_rfl) (by kernel_rfl) (fun _ _ _ h => h) rfl hS rfl rfl (fun w hw => hw) Tryz.underlying29 (Tryz.size32 _ _ _) ?_
  refine any_ldT (i := 1) (b := b) rfl (by kernel_rfl) (by kernel_rfl) (by kernel_rfl) (fun _ _ _ h => h) rfl hS rfl rfl (fun w hw => hw) Tryz.underlying29 (Tryz.size32 _ _ _) ?_
  refine any_call (i := 2) (by kernel_rfl) rfl rfl (by go_simp) ((unhide HS) _) ?_
  rintro e w6 ⟨rfl, hb6⟩
  replace HP := hide ((unhide HP).next ((Bel.refl w5).drew.trans hb6))
  replace HR := hide ((unhide HR).bel ((Bel.refl w5).drew.trans hb6))
  clear hb6
  refine ⟨_, rfl, (unhide HP).row, ?_⟩
  refine any_call (i := 3) (by kernel_rfl) rfl rfl (by go_simp) ((unhide HM) _ (unhide HP).ch) ?_
  rintro e w7 ⟨rfl, hb7⟩
  replace HP := hide ((unhide HP).next hb7)
  replace HR := hide ((unhide HR).bel hb7)
  clear hb7
  refine ⟨_, rfl, (unhide HP).row, ?_⟩
  refine any_take (i := 4) (v := .bool true) rfl (by kernel_rfl) (by kernel_rfl) (by kernel_rfl) (fun _ _ _ h => h) rfl (unhide HP).row (fun w _ => by go_simp) ?_
  obtain ⟨s2, x2, n2, h2⟩ := (unhide HP).row2
  have HZ := hide (And.intro (ch_row (c' := pc n (pvot s t v) x) h2).1 (And.intro ((unhide HP).rst2 (unhide HR) (ch_row (c' := pc n (pvot s t v) x) h2).2) (ch_off (unhide HP).ch (ch_row (c' := pc n (pvot s t v) x) h2).2 (unhide HP).ge2)))
  refine any_skip (i := 5) (by kernel_rfl) rfl rfl (st_run (.tmp 4) (.tmp 12) rfl rfl rfl h2 (Tryz.size32 _ _ _) rfl (pc_one _ _ _)) ⟨(ch_row (c' := pc n (pvot s t v) x) h2).2.row (unhide HP).row (unhide HP).ne.symm, ?_⟩
  refine any_do (i := 6) (v := .bool true) (by kernel_rfl) rfl rfl (by go_simp) ⟨(ch_row (c' := pc n (pvot s t v) x) h2).2.row (unhide HP).row (unhide HP).ne.symm, ?_⟩
  refine wpAnyH_done (by kernel_rfl) ?_ _
  generalize w7.setRow b2 (pc n (pvot s t v) x) = w8 at *
  simp [Act.put]
  go_wp2_with fail
  exact bodyPost_ret (res2 (p := 4) (q := 5) rfl Tryz.underlying29 (Tryz.size32 _ _ _) (unhide HZ).1 _ _ rfl rfl) rfl ⟨rfl, (unhide HZ).2.1, (unhide HZ).2.2⟩
end Go.Proofs.YtgofdkheffoilaaGreatDoor
