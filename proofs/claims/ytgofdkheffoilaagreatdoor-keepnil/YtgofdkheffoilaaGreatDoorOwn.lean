/- The document's Own, of a member without entries. -/
import Derived.Test.YtgofdkheffoilaaGreatDoorNew
import Derived.Test.YtgofdkheffoilaaGreatDoorFld
namespace Go.Proofs.YtgofdkheffoilaaGreatDoor
open Go.RowKit Go.Maps
theorem szI : (Tryz.prog.info? 22).map (·.size) = some 1 := by kernel_rfl
theorem szE : (Tryz.prog.info? 25).map (·.size) = some 1 := by kernel_rfl
theorem szF : (Tryz.prog.info? 26).map (·.size) = some 1 := by kernel_rfl
theorem szR : (Tryz.prog.info? 27).map (·.size) = some 1 := by kernel_rfl
set_option maxRecDepth 100000 in
theorem ownE_nil (a : Option Addr) (c : Nat) (W : World) : Calls Tryz.prog 53 #[.slice a 0 c] W fun e w' => e = .returned (.slice none 0 0) ∧ Bel W w' := by
  go_enter Tryz.func53, Tryz.ntmps53
  go_wp2_with fail
  go_loopw [3, 4] (fun vo vk wr => vo = .slice none 0 0 ∧ vk = .int .i64 0 ∧ wr = W) (fun _ _ _ => 0)
  case atStart => exact ⟨rfl, rfl, rfl⟩
  case round =>
    obtain ⟨rfl, rfl, rfl⟩ := hrel
    go_wp2_with fail
    go_ret
    exact ⟨rfl, Bel.refl _⟩
/-- A member that is being copied: its box b, the answer's box b2. -/
structure Ow (W w : World) (b b2 n : Nat) (s : PP) (x : Px) : Prop where
  row : w.heap[b]? = some (.cells (pc n s x) 29)
  row2 : ∃ s2 x2 n2, w.heap[b2]? = some (.cells (pc n2 s2 x2) 29)
  bel : Bel W w
  ge : W.heap.size ≤ b
  ge2 : W.heap.size ≤ b2
  ne : b2 ≠ b
section
variable {W w w' : World} {b b2 n : Nat} {s s' : PP} {x x' : Px}
theorem Ow.set (h : Ow W w b b2 n s x) (h1 : w'.heap[b]? = some (.cells (pc n s' x') 29)) (hc : Ch (fun i => i = b) w w') : Ow W w' b b2 n s' x' := by
  obtain ⟨s2, x2, n2, h2⟩ := h.row2
  exact ⟨h1, ⟨s2, x2, n2, hc.row h2 h.ne⟩, bel_off h.bel hc h.ge, h.ge, h.ge2, h.ne⟩
theorem Ow.next (h : Ow W w b b2 n s x) (hb : Bel w w') : Ow W w' b b2 n s x := by
  obtain ⟨s2, x2, n2, h2⟩ := h.row2
  exact ⟨hb.row h.row, ⟨s2, x2, n2, hb.row h2⟩, h.bel.trans hb, h.ge, h.ge2, h.ne⟩
end
section
variable {W : World} {b n : Nat} {s : PP} {x : Px}
theorem e14 (e : s.votes.length = 0) (h : W.heap[b]? = some (.cells (pc n s x) 29)) : W.cell? ⟨b, 14, none⟩ = some (.slice x.aV 0 x.cV) := by
  have := (Bx.of h).c14
  rwa [e] at this
theorem e10 (e : s.log.length = 0) (h : W.heap[b]? = some (.cells (pc n s x) 29)) : W.cell? ⟨b, 10, none⟩ = some (.slice x.aL 0 x.cL) := by
  have := (Bx.of h).c10
  rwa [e] at this
theorem e15 (e : s.fol.length = 0) (h : W.heap[b]? = some (.cells (pc n s x) 29)) : W.cell? ⟨b, 15, none⟩ = some (.slice x.aF 0 x.cF) := by
  have := (Bx.of h).c15
  rwa [e] at this
theorem p14 {a : Option Addr} {c : Nat} (e : s.votes.length = 0) : (pc n s x).setIfInBounds 14 (.slice a ([] : List Int).length c) = pc n s { x with aV := a, cV := c } := by
  have : ([] : List Int).length = s.votes.length := e.symm
  rw [this]; rfl
theorem p10 {a : Option Addr} {c : Nat} (e : s.log.length = 0) : (pc n s x).setIfInBounds 10 (.slice a 0 c) = pc n s { x with aL := a, cL := c } := by
  have : (0 : Nat) = s.log.length := e.symm
  conv => lhs; rw [show Value.slice a 0 c = .slice a s.log.length c by rw [e]]
  rfl
theorem p15 {a : Option Addr} {c : Nat} (e : s.fol.length = 0) : (pc n s x).setIfInBounds 15 (.slice a ([] : List (Int × Int × Int)).length c) = pc n s { x with aF := a, cF := c } := by
  have : ([] : List (Int × Int × Int)).length = s.fol.length := e.symm
  rw [this]; rfl
end
theorem bel_made {w A B : World} {o : Obj} (hg : (A.alloc o).grownBy B (some A.heap.size)) (h : Bel w A) : Bel w B := h.trans (bel_grown ((Bel.refl A).alloc _) hg (fun k hk => by cases hk; exact Nat.le_refl _))
/-- A member's lists of members, made behind base. -/
structure Pm (base : Nat) (W : World) (n : Nat) (x : Px) : Prop where
  m : E3.O base W (.slice x.aM n x.cM) (mem n)
  b : E3.O base W (.slice x.aB n x.cB) (mem n)
theorem Pm.bel {base : Nat} {W W' : World} {n : Nat} {x : Px} (h : Pm base W n x) (hb : Bel W W') : Pm base W' n x := ⟨h.m.bel hb, h.b.bel hb⟩
theorem Pm.box {base : Nat} {W W' : World} {n : Nat} {x : Px} {b : Nat} {c : Array Value} (h : Pm base W n x) (hr : W.heap[b]? = some (.cells c 29)) (hc : Ch (fun k => k = b) W W') : Pm base W' n x := ⟨h.m.box hr (by decide) hc, h.b.box hr (by decide) hc⟩
theorem Pm.pw {base : Nat} {W : World} {n : Nat} {x : Px} (h : Pm base W n x) {s : PP} (h1 : s.log = []) (h2 : s.votes = []) (h3 : s.fol = []) : Pw W n s x := ⟨(Sl.of h.m).1, (Sl.of h.b).1, by rw [h1]; exact Sl.nil _ _ _, by rw [h2]; exact Sl.nil _ _ _, by rw [h3]; exact Sl.nil _ _ _⟩
set_option maxRecDepth 100000 in
set_option maxHeartbeats 2000000 in
theorem own_any {W : World} {n : Nat} {s : PP} {x : Px} (h : Pw W n s x) (hn : n ≤ 64) (hl : s.log = []) (hv : s.votes = []) (hf : s.fol = []) : Calls Tryz.prog 22 #[.agg (pc n s x)] W fun e w' => ∃ x', e = .returned (.agg (pc n s x')) ∧ Pm W.heap.size w' n x' ∧ Bel W w' := by
  have hl0 : s.log.length = 0 := by rw [hl]; rfl
  have hv0 : s.votes.length = 0 := by rw [hv]; rfl
  have hf0 : s.fol.length = 0 := by rw [hf]; rfl
  have HN := hide ownE_nil
  have HW := hide h
  have HS := hide hn
  clear h hl hv hf hn
  go_enter Tryz.func22, Tryz.ntmps22
  go_wp2_with (first
    | go_skip
    | (refine bx_box rfl 29 _ rfl (pc n s x) rfl ?_; intro b w0 hr0 hs0 hb0; have HR0 := hide hr0; have HB0 := hide (And.intro hb0 (Nat.le_of_eq hs0)); clear hr0 hs0 hb0)
    | (refine bx_new rfl 29 rfl _ Tryz.zero32 ?_; intro b2 w1 hr1 hs1 hb1; have HO : Hid (Ow W w1 b b2 n s x) := hide ⟨hb1.row (unhide HR0), ⟨_, _, _, hr1⟩, (unhide HB0).1.trans hb1, (unhide HB0).2, (show W.heap.size ≤ b2 by have := (unhide HB0).1.size; omega), (show b2 ≠ b from fun e => by have := lt_of_some (unhide HR0); omega)⟩; have y1 : (w1.alloc (.cells #[] 3)).cell? ⟨b, 1, none⟩ = some (.slice x.aM n x.cM) := (Bx.of (((Bel.refl w1).alloc _).row (unhide HO).row)).c1; clear hr1 hs1 hb1)
    | (at_builtin; refine app_el (E := E3) (L := []) (mem n) (El.O.made w1) (by simp) x.aM n x.cM (mem_len n) ((unhide HW).m.bel ((unhide HO).bel.alloc _)) (by have := unhide HS; rw [mem_len]; simp; omega) rfl (.tmp 6) (.tmp 8) 22 rfl rfl rfl rfl ?_; intro v2 w2 ho2 hg2; rw [List.nil_append] at ho2; obtain ⟨a2, c2, g2, hv2, _, _, _⟩ := ho2.shape; rw [mem_len] at hv2; subst hv2; have HM := hide (ho2.mono (unhide HO).bel.size); replace HO := hide ((unhide HO).next (bel_made hg2 (Bel.refl _))); clear ho2 hg2 y1)
    | (refine bx_fld rfl 22 (.tmp 10) (.tmp 9) rfl b 1 _ rfl rfl rfl rfl (s' := s) (z' := { x with aM := a2, cM := c2 }) (unhide HO).row szI (by decide) rfl ?_; intro w3 hr3 hc3; replace HM := hide ((unhide HM).box (unhide HO).row (by decide) hc3); replace HO := hide ((unhide HO).set hr3 hc3); have y8 : (w3.alloc (.cells #[] 3)).cell? ⟨b, 8, none⟩ = some (.slice x.aB n x.cB) := (Bx.of (((Bel.refl w3).alloc _).row (unhide HO).row)).c8; clear hr3 hc3)
    | (at_builtin; refine app_el (E := E3) (L := []) (mem n) (El.O.made w3) (by simp) x.aB n x.cB (mem_len n) ((unhide HW).b.bel ((unhide HO).bel.alloc _)) (by have := unhide HS; rw [mem_len]; simp; omega) rfl (.tmp 11) (.tmp 13) 22 rfl rfl rfl rfl ?_; intro v4 w4 ho4 hg4; rw [List.nil_append] at ho4; obtain ⟨a4, c4, g4, hv4, _, _, _⟩ := ho4.shape; rw [mem_len] at hv4; subst hv4; have HB := hide (ho4.mono (unhide HO).bel.size); replace HM := hide ((unhide HM).bel (bel_made hg4 (Bel.refl _))); replace HO := hide ((unhide HO).next (bel_made hg4 (Bel.refl _))); clear ho4 hg4 y8)
    | (refine bx_fld rfl 22 (.tmp 15) (.tmp 14) rfl b 8 _ rfl rfl rfl rfl (s' := s) (z' := { x with aM := a2, cM := c2, aB := a4, cB := c4 }) (unhide HO).row szI (by decide) rfl ?_; intro w5 hr5 hc5; replace HM := hide ((unhide HM).box (unhide HO).row (by decide) hc5); replace HB := hide ((unhide HB).box (unhide HO).row (by decide) hc5); replace HO := hide ((unhide HO).set hr5 hc5); have z14 := e14 hv0 (((Bel.refl w5).alloc (.cells #[] 3)).row (unhide HO).row); have y14 : (w5.alloc (.cells #[] 3)).cell? ⟨b, 14, none⟩ = some (.slice x.aV 0 x.cV) := z14; clear z14; clear hr5 hc5)
    | (at_builtin; refine app_el (E := E3) (L := []) [] (El.O.made w5) (by simp) x.aV 0 x.cV rfl (Sl.nil _ _ _) (by simp) rfl (.tmp 16) (.tmp 18) 22 rfl rfl rfl rfl ?_; intro v6 w6 ho6 hg6; rw [List.nil_append] at ho6; obtain ⟨a6, c6, g6, hv6, _, _, _⟩ := ho6.shape; subst hv6; replace HM := hide ((unhide HM).bel (bel_made hg6 (Bel.refl _))); replace HB := hide ((unhide HB).bel (bel_made hg6 (Bel.refl _))); replace HO := hide ((unhide HO).next (bel_made hg6 (Bel.refl _))); clear ho6 hg6 y14)
    | (refine bx_fld rfl 22 (.tmp 20) (.tmp 19) rfl b 14 _ rfl rfl rfl rfl (s' := s) (z' := { x with aM := a2, cM := c2, aB := a4, cB := c4, aV := a6, cV := c6 }) (unhide HO).row szI (by decide) (p14 hv0) ?_; intro w7 hr7 hc7; replace HM := hide ((unhide HM).box (unhide HO).row (by decide) hc7); replace HB := hide ((unhide HB).box (unhide HO).row (by decide) hc7); replace HO := hide ((unhide HO).set hr7 hc7); have z10 := e10 hl0 (unhide HO).row; have y10 : w7.cell? ⟨b, 10, none⟩ = some (.slice x.aL 0 x.cL) := z10; clear z10; clear hr7 hc7)
    | (go_at_call 53; refine ((unhide HN) _ _ _).mono ?_; rintro e w8 ⟨rfl, hb8⟩; replace HM := hide ((unhide HM).bel hb8); replace HB := hide ((unhide HB).bel hb8); replace HO := hide ((unhide HO).next hb8); clear hb8 y10)
    | (refine bx_fld rfl 25 (.tmp 24) (.tmp 23) rfl b 10 _ rfl rfl rfl rfl (s' := s) (z' := { x with aM := a2, cM := c2, aB := a4, cB := c4, aV := a6, cV := c6, aL := none, cL := 0 }) (unhide HO).row szE (by decide) (p10 hl0) ?_; intro w9 hr9 hc9; replace HM := hide ((unhide HM).box (unhide HO).row (by decide) hc9); replace HB := hide ((unhide HB).box (unhide HO).row (by decide) hc9); replace HO := hide ((unhide HO).set hr9 hc9); have z15 := e15 hf0 (((Bel.refl w9).alloc (.cells #[] 48)).row (unhide HO).row); have y15 : (w9.alloc (.cells #[] 48)).cell? ⟨b, 15, none⟩ = some (.slice x.aF 0 x.cF) := z15; clear z15; clear hr9 hc9)
    | (at_builtin; refine app_el (E := E65) (L := []) [] (El.O.made w9) (by simp) x.aF 0 x.cF rfl (Sl.nil _ _ _) (by simp) rfl (.tmp 25) (.tmp 27) 26 rfl rfl rfl rfl ?_; intro v10 w10 ho10 hg10; rw [List.nil_append] at ho10; obtain ⟨a10, c10, g10, hv10, _, _, _⟩ := ho10.shape; subst hv10; replace HM := hide ((unhide HM).bel (bel_made hg10 (Bel.refl _))); replace HB := hide ((unhide HB).bel (bel_made hg10 (Bel.refl _))); replace HO := hide ((unhide HO).next (bel_made hg10 (Bel.refl _))); clear ho10 hg10 y15)
    | (refine bx_fld rfl 26 (.tmp 29) (.tmp 28) rfl b 15 _ rfl rfl rfl rfl (s' := s) (z' := { x with aM := a2, cM := c2, aB := a4, cB := c4, aV := a6, cV := c6, aL := none, cL := 0, aF := a10, cF := c10 }) (unhide HO).row szF (by decide) (p15 hf0) ?_; intro w11 hr11 hc11; replace HM := hide ((unhide HM).box (unhide HO).row (by decide) hc11); replace HB := hide ((unhide HB).box (unhide HO).row (by decide) hc11); replace HO := hide ((unhide HO).set hr11 hc11); have y17 : w11.cell? ⟨b, 17, none⟩ = some (.slice x.aR 0 x.cR) := (Bx.of (unhide HO).row).c17; clear hr11 hc11)
    | go_guarded)
  go_loopw [3, 4] (fun vo vk wr => vo = .slice none 0 0 ∧ vk = .int .i64 0 ∧ wr = w11) (fun _ _ _ => 0)
  case atStart => exact ⟨rfl, rfl, rfl⟩
  case round =>
    obtain ⟨rfl, rfl, rfl⟩ := hrel
    go_wp2_with (first
      | go_skip
      | (refine bx_fld rfl 27 (.tmp 52) (.tmp 51) rfl b 17 _ rfl rfl rfl rfl (s' := s) (z' := { x with aM := a2, cM := c2, aB := a4, cB := c4, aV := a6, cV := c6, aL := none, cL := 0, aF := a10, cF := c10, aR := none, cR := 0 }) (unhide HO).row szR (by decide) rfl ?_; intro w12 hr12 hc12; replace HM := hide ((unhide HM).box (unhide HO).row (by decide) hc12); replace HB := hide ((unhide HB).box (unhide HO).row (by decide) hc12); replace HO := hide ((unhide HO).set hr12 hc12); clear hr12 hc12)
      | (refine bx_ldH 29 (.tmp 1) (by exact rfl) b (by exact rfl) (by exact rfl) _ _ (unhide HO).row Tryz.underlying29 (Tryz.size32 _ _ _) ?_)
      | (obtain ⟨s2, x2, n2, h2⟩ := (unhide HO).row2; refine bx_st rfl 29 (.tmp 2) _ rfl b2 _ _ rfl rfl h2 (Tryz.size32 _ _ _) rfl (pc_one _ _ _) ?_; intro w13 hr13 hc13; have HZ := hide (And.intro hr13 (And.intro ((unhide HM).box h2 (by decide) hc13) (And.intro ((unhide HB).box h2 (by decide) hc13) (bel_off (unhide HO).bel hc13 (unhide HO).ge2)))); clear hr13 hc13 h2)
      | go_guarded)
    refine bodyPost_ret (res1 (p := 2) rfl Tryz.underlying29 (Tryz.size32 _ _ _) (unhide HZ).1 _ rfl) rfl ⟨_, rfl, ⟨(unhide HZ).2.1, (unhide HZ).2.2.1⟩, (unhide HZ).2.2.2⟩
end Go.Proofs.YtgofdkheffoilaaGreatDoor
