/- doings, Take. -/
import Derived.Test.YthipgcojbhcdgaaGreatNgra
namespace Go.Proofs.YthipgcojbhcdgaaGreat
open Go.RowKit Go.Maps Go.Sort
/-- What is done, by kinds. -/
def dos : Array Value := #[.nilFunc, .func (.func 106) #[] #[], .func (.func 107) #[] #[], .nilFunc, .nilFunc, .nilFunc]
theorem dos_one : dos.all (·.oneCell') = true := by simp [dos, Value.oneCell']
theorem Tryz.zero57 (w : World) : (zeroValue 127).run Tryz.prog w = .ok (.agg #[.nilFunc, .nilFunc, .nilFunc, .nilFunc, .nilFunc, .nilFunc]) w := by go_simp
theorem Tryz.size57 : (Tryz.prog.info? 127).map (·.size) = some dos.size := by kernel_rfl
theorem Tryz.underlying127 : Tryz.prog.underlying 127 = some (.array 6 126) := by kernel_rfl
/-- A result that is an array. -/
theorem res1a {fn : Func} {p : Tmp} {t : TypeId} (hr : fn.results = #[.cell p t]) {W : World} {B k : Nat} {u : TypeId} {cs : Array Value} (hu : Tryz.prog.underlying t = some (.array k u)) (hs : (Tryz.prog.info? t).map (·.size) = some cs.size) (hg : W.heap[B]? = some (.cells cs t)) (tmps : Array Value) (hp : tmps.getD p undef = .pointer (some ⟨B, 0, none⟩)) : (results fn tmps).run Tryz.prog W = .ok (.agg cs) W := by
  have hp' : tmps[p]?.getD undef = .pointer (some ⟨B, 0, none⟩) := by simpa using hp
  simp [results, hr, hp', asAddr, run_loadVar_row W B t t cs (0, 0) _ hg hu rfl hs]
set_option maxRecDepth 100000 in
theorem doings_any {W : World} : Calls Tryz.prog 72 #[] W fun e w' => e = .returned (.agg dos) ∧ Bel W w' := by
  go_enter Tryz.func72, Tryz.ntmps72
  go_wp2_with (first
    | (refine bx_new rfl 127 rfl _ Tryz.zero57 ?_; intro b2 w1 hr1 hs1 hb1; have HR1 := hide (And.intro hr1 (And.intro hb1 hs1)); clear hr1 hs1 hb1)
    | (refine bx_st rfl 127 _ _ rfl b2 dos _ rfl rfl (unhide HR1).1 Tryz.size57 rfl dos_one ?_; intro w9 hr9 hc9; have HR9 := hide (And.intro hr9 hc9); clear hr9 hc9))
  refine bodyPost_ret (res1a (p := 0) rfl Tryz.underlying127 Tryz.size57 (unhide HR9).1 _ rfl) rfl ⟨rfl, bel_off (unhide HR1).2.1 (unhide HR9).2 (by have := (unhide HR1).2.2; omega)⟩
/-- Boxes of a member, a message and the answer. -/
structure Aq (W w : World) (b b2 b3 n : Nat) (s : PP) (x : Px) (m : PM) : Prop where
  row : w.heap[b]? = some (.cells (pc n s x) 56)
  rm : w.heap[b3]? = some (.cells (mc m) 27)
  row2 : ∃ s2 x2 n2, w.heap[b2]? = some (.cells (pc n2 s2 x2) 56)
  bel : Bel W w
  ge : W.heap.size ≤ b
  ge2 : W.heap.size ≤ b2
  ne : b2 ≠ b
  ne3 : b3 ≠ b
  ne4 : b3 ≠ b2
theorem Aq.next {W w w' : World} {b b2 b3 n : Nat} {s : PP} {x : Px} {m : PM} (h : Aq W w b b2 b3 n s x m) (hb : Bel w w') : Aq W w' b b2 b3 n s x m := by
  obtain ⟨s2, x2, n2, h2⟩ := h.row2
  exact ⟨hb.row h.row, hb.row h.rm, ⟨s2, x2, n2, hb.row h2⟩, h.bel.trans hb, h.ge, h.ge2, h.ne, h.ne3, h.ne4⟩
theorem Aq.set {W w w' : World} {b b2 b3 n : Nat} {s s' : PP} {x x' : Px} {m : PM} (h : Aq W w b b2 b3 n s x m) (h1 : w'.heap[b]? = some (.cells (pc n s' x') 56)) (hc : Ch (fun i => i = b) w w') : Aq W w' b b2 b3 n s' x' m := by
  obtain ⟨s2, x2, n2, h2⟩ := h.row2
  exact ⟨h1, hc.row h.rm h.ne3, ⟨s2, x2, n2, hc.row h2 h.ne⟩, bel_off h.bel hc h.ge, h.ge, h.ge2, h.ne, h.ne3, h.ne4⟩
theorem Aq.mk0 {W w0 w1 w2 : World} {b b2 b3 n : Nat} {s : PP} {x : Px} {m : PM} {n2 : Nat} {s2 : PP} {x2 : Px} (hb0 : Bel W w0) (hs0 : W.heap.size = b) (hr0 : w0.heap[b]? = some (.cells (pc n s x) 56)) (hb1 : Bel w0 w1) (hs1 : w0.heap.size = b3) (hr1 : w1.heap[b3]? = some (.cells (mc m) 27)) (hb2 : Bel w1 w2) (hs2 : w1.heap.size = b2) (hr2 : w2.heap[b2]? = some (.cells (pc n2 s2 x2) 56)) : Aq W w2 b b2 b3 n s x m := by
  have l0 := lt_of_some hr0
  have l1 := lt_of_some hr1
  have l2 := hb1.size
  have l3 := hb0.size
  exact ⟨hb2.row (hb1.row hr0), hb2.row hr1, ⟨_, _, _, hr2⟩, (hb0.trans hb1).trans hb2, by omega, by omega, by omega, by omega, by omega⟩
theorem ix57_1 (w : World) : (Instr.index 127 (.agg dos) (.int .u8 1)).run Tryz.prog w = .ok (.func (.func 106) #[] #[]) w := by kernel_rfl
theorem ix57_2 (w : World) : (Instr.index 127 (.agg dos) (.int .u8 2)).run Tryz.prog w = .ok (.func (.func 107) #[] #[]) w := by kernel_rfl
theorem eq56_36 (w : World) : (binOp BinOp.eql 126 (.func (.func 106) #[] #[]) .nilFunc).run Tryz.prog w = .ok (.bool false) w := by kernel_rfl
theorem eq56_37 (w : World) : (binOp BinOp.eql 126 (.func (.func 107) #[] #[]) .nilFunc).run Tryz.prog w = .ok (.bool false) w := by kernel_rfl
theorem Aq.kx {W w w' : World} {b b2 b3 n : Nat} {s u : PP} {x z : Px} {m : PM} (h : Aq W w b b2 b3 n s x m) (hp : Pf W.heap.size w n u z) (hc : Ch (Kx u z) w w') : Aq W w' b b2 b3 n s x m := by
  obtain ⟨s2, x2, n2, h2⟩ := h.row2
  exact ⟨Kx.row hp hc h.row (by decide), Kx.row hp hc h.rm (by decide), ⟨s2, x2, n2, Kx.row hp hc h2 (by decide)⟩, bel_kx h.bel hc (Kx.ge hp), h.ge, h.ge2, h.ne, h.ne3, h.ne4⟩
/-- What one of the two does, whichever it is. -/
theorem do_any {n T G : Nat} {W : World} {u : PP} {m : PM} {f : Nat} (hmo : MOk n T G m) (hn : n ≤ 64) (h1 : 1 ≤ n) (hl : u.log.length ≤ 999999) (hr : Ris u.votes) (hm : ∀ y ∈ u.votes, 1 ≤ y ∧ y ≤ n) (hf : u.role = 1 → u.fol = []) (hk : (m.kind = 1 ∧ f = 106) ∨ (m.kind = 2 ∧ f = 107)) : ∀ W' x', W.heap.size ≤ W'.heap.size → Pf W.heap.size W' n u x' → Calls Tryz.prog f #[.agg (pc n u x'), .agg (mc m)] W' fun e w' => ∃ x'' aA cA, e = .returned (.tuple #[.agg (pc n (u.take1 n m).1 x''), .slice aA (u.take1 n m).2.length cA]) ∧ Pf W.heap.size w' n (u.take1 n m).1 x'' ∧ E44.O W.heap.size w' (.slice aA (u.take1 n m).2.length cA) (u.take1 n m).2 ∧ Ch (Kx u x') W' w' := by
  intro W' x' hs hp
  rcases hk with ⟨hk, rfl⟩ | ⟨hk, rfl⟩
  · exact (ask_any hp hs (by omega) hk).mono (fun _ _ ⟨aA, cA, he, hf, ho, hb⟩ => ⟨x', aA, cA, he, hf, ho.mono hs, hb.ch _⟩)
  · exact (told_any hp hs hn h1 hl hr hm hf (by omega) hmo.f).mono (fun _ _ ⟨x'', aA, cA, he, hf, ho, hb⟩ => ⟨x'', aA, cA, he, hf, ho.mono hs, hb⟩)
set_option maxRecDepth 100000 in
set_option maxHeartbeats 4000000 in
theorem take_any {W : World} {n T G : Nat} {s : PP} {x : Px} {m : PM} (h : Pq W n s x) (hok : Ok n T G s) (hmo : MOk n T G m) (hto : m.to = s.id) (hn : n ≤ 64) (hT : T ≤ 1000000) (hG : G ≤ 999999) : Calls Tryz.prog 43 #[.agg (pc n s x), .agg (mc m)] W fun e w' => ∃ x' aA cA, e = .returned (.tuple #[.agg (pc n (s.take n m).1 x'), .slice aA (s.take n m).2.length cA, .int .i64 0]) ∧ Pf W.heap.size w' n (s.take n m).1 x' ∧ E44.O W.heap.size w' (.slice aA (s.take n m).2.length cA) (s.take n m).2 ∧ Bel W w' := by
  have hln := hok.lens hn
  have hgl := hok.glen
  have h1 : 1 ≤ n := by have := hok.id1; have := hok.idn; omega
  have H1 : Hid (∀ W', Bel W W' → Calls Tryz.prog 46 #[.agg (pc n s x)] W' fun e w' => e = .returned (.int .i64 0) ∧ Bel W' w') := hide (fun W' hb => may_ok (h.pw.bel hb) hok hn hT hG h.cap)
  have H2 : Hid (∀ W', Bel W W' → Calls Tryz.prog 47 #[.agg (pc n s x)] W' fun e w' => ∃ x', e = .returned (.agg (pc n s x')) ∧ Pf W.heap.size w' n s x' ∧ Bel W' w') := hide (fun W' hb => (clone_any (h.pw.bel hb) hn (by omega) hln.1 hln.2).mono (fun _ _ ⟨x', he, hf, hb'⟩ => ⟨x', he, ⟨hf.m.mono hb.size, hf.b.mono hb.size, hf.l.mono hb.size, hf.v.mono hb.size, hf.f.mono hb.size, hf.dv⟩, hb'⟩))
  have H3 : Hid (∀ W', Calls Tryz.prog 20 #[.agg (mc m)] W' fun e w' => e = .returned (.int .i64 0) ∧ Bel W' w') := hide (fun W' => maymsg_ok hmo hn hT (by omega))
  have e1 : (m.to != s.id) = false := by simp [hto]
  have hfo : s.role = 1 → s.fol = [] := fun hr => by
    rcases hok.role with h' | h' | h'
    · exact h'.2.2
    · exact h'.2.2.2.2
    · omega
  obtain ⟨r, hr⟩ : ∃ r, r = s.take n m := ⟨_, rfl⟩
  rw [← hr]
  by_cases c : s.term < m.term
  · have hru : r = (s.down m.term).take1 n m := by rw [hr]; unfold PP.take; rw [if_pos c]
    have cd : decide (s.term < m.term) = true := decide_eq_true c
    have H5 := hide (do_any (W := W) (u := s.down m.term) (f := 106) hmo hn h1 (by show s.log.length ≤ 999999; omega) List.Pairwise.nil (fun y hy => by cases hy) (fun _ => rfl))
    have H6 := hide (do_any (W := W) (u := s.down m.term) (f := 107) hmo hn h1 (by show s.log.length ≤ 999999; omega) List.Pairwise.nil (fun y hy => by cases hy) (fun _ => rfl))
    rw [← hru] at H5 H6
    rcases hmo.kind with hk | hk
    · have H4 := hide ((unhide H5) (Or.inl ⟨hk, rfl⟩))
      clear h hok hmo hto hn hT hG hln hgl h1 hfo hr c H5 H6 hru
      · go_enter Tryz.func43, Tryz.ntmps43
        go_wp2_with (first
          | go_skip
          | (refine bx_boxH 56 (.tmp 0) (by exact rfl) (by exact rfl) (pc n s x) (by exact rfl) ?_; intro b w0 hr0 hs0 hb0; have HR0 := hide hr0; have HB0 := hide (And.intro hb0 hs0); clear hr0 hs0 hb0)
          | (refine bx_boxH 27 (.tmp 1) (by exact rfl) (by exact rfl) (mc m) (by exact rfl) ?_; intro b3 w1 hr1 hs1 hb1; have HM0 := hide (And.intro hr1 hs1); have HB1 := hide hb1; clear hr1 hs1 hb1)
          | (refine bx_new rfl 56 rfl _ Tryz.zero32 ?_; intro b2 w2 hr2 hs2 hb2; have HA := hide (Aq.mk0 (unhide HB0).1 (unhide HB0).2 (unhide HR0) (unhide HB1) (unhide HM0).2 (unhide HM0).1 hb2 hs2 hr2); clear hr2 hs2 hb2 HR0 HB0 HM0 HB1)
          | (go_at_call 46; refine ((unhide H1) _ (unhide HA).bel).mono ?_; rintro e w3 ⟨rfl, hb3⟩; replace HA := hide ((unhide HA).next hb3); clear hb3)
          | (go_at_call 20; refine ((unhide H3) _).mono ?_; rintro e w4 ⟨rfl, hb4⟩; replace HA := hide ((unhide HA).next hb4); clear hb4; have m2 := (Bm.of (unhide HA).rm).c2; have y0 := (Bx.of (unhide HA).row).c0)
          | (refine bx_ldH 56 (.tmp 2) (by exact rfl) b (by exact rfl) (by exact rfl) _ _ (unhide HA).row Tryz.underlying56 (Tryz.size32 _ _ _) ?_)
          | (refine bx_ldH 27 (.tmp 3) (by exact rfl) b3 (by exact rfl) (by exact rfl) _ _ (unhide HA).rm Tryz.underlying27 (Tryz.size44 _) ?_))
        clear m2 y0
        have hA := (unhide HA).next (Bel.refl w4).drew
        refine wp_region_held_drew (S := fun w => w.heap[b3]? = some (.cells (mc m) 27)) Tryz.follows hA.rm (fun hS => ?_)
        clear HA
        generalize w4.drew = wd at *
        refine any_take (i := 1) (v := .pointer (some ⟨b3, 0, none⟩)) rfl (by kernel_rfl) (by kernel_rfl) (by kernel_rfl) (fun _ _ _ h => h) rfl hS (fun w _ => by go_simp) ?_
        refine any_take (i := 2) (v := .int .u8 1) rfl (by kernel_rfl) (by kernel_rfl) (by kernel_rfl) (fun _ _ _ h => h) rfl hS (fun w hw => by have := (Bm.of hw).c0; rw [hk] at this; go_simp) ?_
        refine any_call (i := 0) (by kernel_rfl) rfl rfl (by go_simp) doings_any ?_
        rintro e w5 ⟨rfl, hb5⟩
        refine ⟨_, rfl, hb5.row hS, ?_⟩
        refine any_do (i := 3) (v := .func (.func 106) #[] #[]) (by kernel_rfl) rfl rfl (by have := ix57_1 w5; go_simp) ⟨hb5.row hS, ?_⟩
        refine any_do (i := 4) (v := .func (.func 106) #[] #[]) (by kernel_rfl) rfl rfl (by go_simp) ⟨hb5.row hS, ?_⟩
        refine wpAnyH_done (by kernel_rfl) ?_ _
        have HA := hide (hA.next hb5)
        clear hA hS hb5 hk
        have q5 := eq56_36 w5
        go_wp2_with (first
          | go_skip
          | go_guarded
          | (go_at_call 47; refine ((unhide H2) _ (unhide HA).bel).mono ?_; rintro e w6 ⟨x6, rfl, hp6, hb6⟩; have HG := hide hp6; replace HA := hide ((unhide HA).next hb6); clear hb6 hp6)
          | (go_at_call 73; refine (standDown_any _).mono ?_; rintro e w8 ⟨rfl, hb8⟩; have HG := hide (((unhide HF).bel hb8).down m.term); replace HA := hide ((unhide HA).next hb8); clear hb8 HF)
          | (go_at_call 106; refine ((unhide H4) _ _ (unhide HA).bel.size (unhide HF)).mono ?_; rintro e w9 ⟨x9, aA, cA, rfl, hp9, ho9, hc9⟩; have HO := hide ho9; have HG := hide hp9; replace HA := hide ((unhide HA).kx (unhide HF) hc9); clear hp9 ho9 hc9 HF)
          | (refine bx_ldH 56 (.tmp 2) (by exact rfl) b (by exact rfl) (by exact rfl) _ _ (unhide HA).row Tryz.underlying56 (Tryz.size32 _ _ _) ?_)
          | (refine bx_ldH 27 (.tmp 3) (by exact rfl) b3 (by exact rfl) (by exact rfl) _ _ (unhide HA).rm Tryz.underlying27 (Tryz.size44 _) ?_)
          | (refine bx_st rfl 56 (.tmp 2) _ rfl b _ _ rfl rfl (unhide HA).row (Tryz.size32 _ _ _) rfl (pc_one _ _ _) ?_; intro w7 hr7 hc7; have HP := hide ((unhide HO).box (unhide HA).row (by decide) hc7); have HF := hide ((unhide HG).box (unhide HA).row hc7); replace HA := hide ((unhide HA).set hr7 hc7); clear hr7 hc7 HG HO)
          | (refine bx_st rfl 56 (.tmp 2) _ rfl b _ _ rfl rfl (unhide HA).row (Tryz.size32 _ _ _) rfl (pc_one _ _ _) ?_; intro w7 hr7 hc7; have HF := hide ((unhide HG).box (unhide HA).row hc7); replace HA := hide ((unhide HA).set hr7 hc7); have y2 := (Bx.of (unhide HA).row).c2; have m3 := (Bm.of (unhide HA).rm).c3; clear hr7 hc7 HG)
          | (obtain ⟨s2, x2, n2, h2⟩ := (unhide HA).row2; refine bx_st rfl 56 (.tmp 4) _ rfl b2 _ _ rfl rfl h2 (Tryz.size32 _ _ _) rfl (pc_one _ _ _) ?_; intro w10 hr10 hc10; have HR10 := hide (And.intro hr10 (And.intro ((unhide HF).box h2 hc10) (And.intro ((unhide HP).box h2 (by decide) hc10) (bel_off (unhide HA).bel hc10 (unhide HA).ge2)))); clear hr10 hc10 h2))
    
        refine bodyPost_ret (res3 (p := 4) (q := 5) (r := 6) rfl Tryz.underlying56 (Tryz.size32 _ _ _) (unhide HR10).1 _ _ _ rfl rfl rfl) rfl ⟨_, _, _, rfl, (unhide HR10).2.1, (unhide HR10).2.2.1, (unhide HR10).2.2.2⟩
    · have H4 := hide ((unhide H6) (Or.inr ⟨hk, rfl⟩))
      clear h hok hmo hto hn hT hG hln hgl h1 hfo hr c H5 H6 hru
      · go_enter Tryz.func43, Tryz.ntmps43
        go_wp2_with (first
          | go_skip
          | (refine bx_boxH 56 (.tmp 0) (by exact rfl) (by exact rfl) (pc n s x) (by exact rfl) ?_; intro b w0 hr0 hs0 hb0; have HR0 := hide hr0; have HB0 := hide (And.intro hb0 hs0); clear hr0 hs0 hb0)
          | (refine bx_boxH 27 (.tmp 1) (by exact rfl) (by exact rfl) (mc m) (by exact rfl) ?_; intro b3 w1 hr1 hs1 hb1; have HM0 := hide (And.intro hr1 hs1); have HB1 := hide hb1; clear hr1 hs1 hb1)
          | (refine bx_new rfl 56 rfl _ Tryz.zero32 ?_; intro b2 w2 hr2 hs2 hb2; have HA := hide (Aq.mk0 (unhide HB0).1 (unhide HB0).2 (unhide HR0) (unhide HB1) (unhide HM0).2 (unhide HM0).1 hb2 hs2 hr2); clear hr2 hs2 hb2 HR0 HB0 HM0 HB1)
          | (go_at_call 46; refine ((unhide H1) _ (unhide HA).bel).mono ?_; rintro e w3 ⟨rfl, hb3⟩; replace HA := hide ((unhide HA).next hb3); clear hb3)
          | (go_at_call 20; refine ((unhide H3) _).mono ?_; rintro e w4 ⟨rfl, hb4⟩; replace HA := hide ((unhide HA).next hb4); clear hb4; have m2 := (Bm.of (unhide HA).rm).c2; have y0 := (Bx.of (unhide HA).row).c0)
          | (refine bx_ldH 56 (.tmp 2) (by exact rfl) b (by exact rfl) (by exact rfl) _ _ (unhide HA).row Tryz.underlying56 (Tryz.size32 _ _ _) ?_)
          | (refine bx_ldH 27 (.tmp 3) (by exact rfl) b3 (by exact rfl) (by exact rfl) _ _ (unhide HA).rm Tryz.underlying27 (Tryz.size44 _) ?_))
        clear m2 y0
        have hA := (unhide HA).next (Bel.refl w4).drew
        refine wp_region_held_drew (S := fun w => w.heap[b3]? = some (.cells (mc m) 27)) Tryz.follows hA.rm (fun hS => ?_)
        clear HA
        generalize w4.drew = wd at *
        refine any_take (i := 1) (v := .pointer (some ⟨b3, 0, none⟩)) rfl (by kernel_rfl) (by kernel_rfl) (by kernel_rfl) (fun _ _ _ h => h) rfl hS (fun w _ => by go_simp) ?_
        refine any_take (i := 2) (v := .int .u8 2) rfl (by kernel_rfl) (by kernel_rfl) (by kernel_rfl) (fun _ _ _ h => h) rfl hS (fun w hw => by have := (Bm.of hw).c0; rw [hk] at this; go_simp) ?_
        refine any_call (i := 0) (by kernel_rfl) rfl rfl (by go_simp) doings_any ?_
        rintro e w5 ⟨rfl, hb5⟩
        refine ⟨_, rfl, hb5.row hS, ?_⟩
        refine any_do (i := 3) (v := .func (.func 107) #[] #[]) (by kernel_rfl) rfl rfl (by have := ix57_2 w5; go_simp) ⟨hb5.row hS, ?_⟩
        refine any_do (i := 4) (v := .func (.func 107) #[] #[]) (by kernel_rfl) rfl rfl (by go_simp) ⟨hb5.row hS, ?_⟩
        refine wpAnyH_done (by kernel_rfl) ?_ _
        have HA := hide (hA.next hb5)
        clear hA hS hb5 hk
        have q5 := eq56_37 w5
        go_wp2_with (first
          | go_skip
          | go_guarded
          | (go_at_call 47; refine ((unhide H2) _ (unhide HA).bel).mono ?_; rintro e w6 ⟨x6, rfl, hp6, hb6⟩; have HG := hide hp6; replace HA := hide ((unhide HA).next hb6); clear hb6 hp6)
          | (go_at_call 73; refine (standDown_any _).mono ?_; rintro e w8 ⟨rfl, hb8⟩; have HG := hide (((unhide HF).bel hb8).down m.term); replace HA := hide ((unhide HA).next hb8); clear hb8 HF)
          | (go_at_call 107; refine ((unhide H4) _ _ (unhide HA).bel.size (unhide HF)).mono ?_; rintro e w9 ⟨x9, aA, cA, rfl, hp9, ho9, hc9⟩; have HO := hide ho9; have HG := hide hp9; replace HA := hide ((unhide HA).kx (unhide HF) hc9); clear hp9 ho9 hc9 HF)
          | (refine bx_ldH 56 (.tmp 2) (by exact rfl) b (by exact rfl) (by exact rfl) _ _ (unhide HA).row Tryz.underlying56 (Tryz.size32 _ _ _) ?_)
          | (refine bx_ldH 27 (.tmp 3) (by exact rfl) b3 (by exact rfl) (by exact rfl) _ _ (unhide HA).rm Tryz.underlying27 (Tryz.size44 _) ?_)
          | (refine bx_st rfl 56 (.tmp 2) _ rfl b _ _ rfl rfl (unhide HA).row (Tryz.size32 _ _ _) rfl (pc_one _ _ _) ?_; intro w7 hr7 hc7; have HP := hide ((unhide HO).box (unhide HA).row (by decide) hc7); have HF := hide ((unhide HG).box (unhide HA).row hc7); replace HA := hide ((unhide HA).set hr7 hc7); clear hr7 hc7 HG HO)
          | (refine bx_st rfl 56 (.tmp 2) _ rfl b _ _ rfl rfl (unhide HA).row (Tryz.size32 _ _ _) rfl (pc_one _ _ _) ?_; intro w7 hr7 hc7; have HF := hide ((unhide HG).box (unhide HA).row hc7); replace HA := hide ((unhide HA).set hr7 hc7); have y2 := (Bx.of (unhide HA).row).c2; have m3 := (Bm.of (unhide HA).rm).c3; clear hr7 hc7 HG)
          | (obtain ⟨s2, x2, n2, h2⟩ := (unhide HA).row2; refine bx_st rfl 56 (.tmp 4) _ rfl b2 _ _ rfl rfl h2 (Tryz.size32 _ _ _) rfl (pc_one _ _ _) ?_; intro w10 hr10 hc10; have HR10 := hide (And.intro hr10 (And.intro ((unhide HF).box h2 hc10) (And.intro ((unhide HP).box h2 (by decide) hc10) (bel_off (unhide HA).bel hc10 (unhide HA).ge2)))); clear hr10 hc10 h2))
    
        refine bodyPost_ret (res3 (p := 4) (q := 5) (r := 6) rfl Tryz.underlying56 (Tryz.size32 _ _ _) (unhide HR10).1 _ _ _ rfl rfl rfl) rfl ⟨_, _, _, rfl, (unhide HR10).2.1, (unhide HR10).2.2.1, (unhide HR10).2.2.2⟩
  · have hru : r = s.take1 n m := by rw [hr]; unfold PP.take; rw [if_neg c]
    have cd : decide (s.term < m.term) = false := decide_eq_false c
    have H5 := hide (do_any (W := W) (u := s) (f := 106) hmo hn h1 (by omega) hok.vr hok.vm hfo)
    have H6 := hide (do_any (W := W) (u := s) (f := 107) hmo hn h1 (by omega) hok.vr hok.vm hfo)
    rw [← hru] at H5 H6
    rcases hmo.kind with hk | hk
    · have H4 := hide ((unhide H5) (Or.inl ⟨hk, rfl⟩))
      clear h hok hmo hto hn hT hG hln hgl h1 hfo hr c H5 H6 hru
      · go_enter Tryz.func43, Tryz.ntmps43
        go_wp2_with (first
          | go_skip
          | (refine bx_boxH 56 (.tmp 0) (by exact rfl) (by exact rfl) (pc n s x) (by exact rfl) ?_; intro b w0 hr0 hs0 hb0; have HR0 := hide hr0; have HB0 := hide (And.intro hb0 hs0); clear hr0 hs0 hb0)
          | (refine bx_boxH 27 (.tmp 1) (by exact rfl) (by exact rfl) (mc m) (by exact rfl) ?_; intro b3 w1 hr1 hs1 hb1; have HM0 := hide (And.intro hr1 hs1); have HB1 := hide hb1; clear hr1 hs1 hb1)
          | (refine bx_new rfl 56 rfl _ Tryz.zero32 ?_; intro b2 w2 hr2 hs2 hb2; have HA := hide (Aq.mk0 (unhide HB0).1 (unhide HB0).2 (unhide HR0) (unhide HB1) (unhide HM0).2 (unhide HM0).1 hb2 hs2 hr2); clear hr2 hs2 hb2 HR0 HB0 HM0 HB1)
          | (go_at_call 46; refine ((unhide H1) _ (unhide HA).bel).mono ?_; rintro e w3 ⟨rfl, hb3⟩; replace HA := hide ((unhide HA).next hb3); clear hb3)
          | (go_at_call 20; refine ((unhide H3) _).mono ?_; rintro e w4 ⟨rfl, hb4⟩; replace HA := hide ((unhide HA).next hb4); clear hb4; have m2 := (Bm.of (unhide HA).rm).c2; have y0 := (Bx.of (unhide HA).row).c0)
          | (refine bx_ldH 56 (.tmp 2) (by exact rfl) b (by exact rfl) (by exact rfl) _ _ (unhide HA).row Tryz.underlying56 (Tryz.size32 _ _ _) ?_)
          | (refine bx_ldH 27 (.tmp 3) (by exact rfl) b3 (by exact rfl) (by exact rfl) _ _ (unhide HA).rm Tryz.underlying27 (Tryz.size44 _) ?_))
        clear m2 y0
        have hA := (unhide HA).next (Bel.refl w4).drew
        refine wp_region_held_drew (S := fun w => w.heap[b3]? = some (.cells (mc m) 27)) Tryz.follows hA.rm (fun hS => ?_)
        clear HA
        generalize w4.drew = wd at *
        refine any_take (i := 1) (v := .pointer (some ⟨b3, 0, none⟩)) rfl (by kernel_rfl) (by kernel_rfl) (by kernel_rfl) (fun _ _ _ h => h) rfl hS (fun w _ => by go_simp) ?_
        refine any_take (i := 2) (v := .int .u8 1) rfl (by kernel_rfl) (by kernel_rfl) (by kernel_rfl) (fun _ _ _ h => h) rfl hS (fun w hw => by have := (Bm.of hw).c0; rw [hk] at this; go_simp) ?_
        refine any_call (i := 0) (by kernel_rfl) rfl rfl (by go_simp) doings_any ?_
        rintro e w5 ⟨rfl, hb5⟩
        refine ⟨_, rfl, hb5.row hS, ?_⟩
        refine any_do (i := 3) (v := .func (.func 106) #[] #[]) (by kernel_rfl) rfl rfl (by have := ix57_1 w5; go_simp) ⟨hb5.row hS, ?_⟩
        refine any_do (i := 4) (v := .func (.func 106) #[] #[]) (by kernel_rfl) rfl rfl (by go_simp) ⟨hb5.row hS, ?_⟩
        refine wpAnyH_done (by kernel_rfl) ?_ _
        have HA := hide (hA.next hb5)
        clear hA hS hb5 hk
        have q5 := eq56_36 w5
        go_wp2_with (first
          | go_skip
          | go_guarded
          | (go_at_call 47; refine ((unhide H2) _ (unhide HA).bel).mono ?_; rintro e w6 ⟨x6, rfl, hp6, hb6⟩; have HG := hide hp6; replace HA := hide ((unhide HA).next hb6); clear hb6 hp6)
          | (go_at_call 73; refine (standDown_any _).mono ?_; rintro e w8 ⟨rfl, hb8⟩; have HG := hide (((unhide HF).bel hb8).down m.term); replace HA := hide ((unhide HA).next hb8); clear hb8 HF)
          | (go_at_call 106; refine ((unhide H4) _ _ (unhide HA).bel.size (unhide HF)).mono ?_; rintro e w9 ⟨x9, aA, cA, rfl, hp9, ho9, hc9⟩; have HO := hide ho9; have HG := hide hp9; replace HA := hide ((unhide HA).kx (unhide HF) hc9); clear hp9 ho9 hc9 HF)
          | (refine bx_ldH 56 (.tmp 2) (by exact rfl) b (by exact rfl) (by exact rfl) _ _ (unhide HA).row Tryz.underlying56 (Tryz.size32 _ _ _) ?_)
          | (refine bx_ldH 27 (.tmp 3) (by exact rfl) b3 (by exact rfl) (by exact rfl) _ _ (unhide HA).rm Tryz.underlying27 (Tryz.size44 _) ?_)
          | (refine bx_st rfl 56 (.tmp 2) _ rfl b _ _ rfl rfl (unhide HA).row (Tryz.size32 _ _ _) rfl (pc_one _ _ _) ?_; intro w7 hr7 hc7; have HP := hide ((unhide HO).box (unhide HA).row (by decide) hc7); have HF := hide ((unhide HG).box (unhide HA).row hc7); replace HA := hide ((unhide HA).set hr7 hc7); clear hr7 hc7 HG HO)
          | (refine bx_st rfl 56 (.tmp 2) _ rfl b _ _ rfl rfl (unhide HA).row (Tryz.size32 _ _ _) rfl (pc_one _ _ _) ?_; intro w7 hr7 hc7; have HF := hide ((unhide HG).box (unhide HA).row hc7); replace HA := hide ((unhide HA).set hr7 hc7); have y2 := (Bx.of (unhide HA).row).c2; have m3 := (Bm.of (unhide HA).rm).c3; clear hr7 hc7 HG)
          | (obtain ⟨s2, x2, n2, h2⟩ := (unhide HA).row2; refine bx_st rfl 56 (.tmp 4) _ rfl b2 _ _ rfl rfl h2 (Tryz.size32 _ _ _) rfl (pc_one _ _ _) ?_; intro w10 hr10 hc10; have HR10 := hide (And.intro hr10 (And.intro ((unhide HF).box h2 hc10) (And.intro ((unhide HP).box h2 (by decide) hc10) (bel_off (unhide HA).bel hc10 (unhide HA).ge2)))); clear hr10 hc10 h2))
    
        refine bodyPost_ret (res3 (p := 4) (q := 5) (r := 6) rfl Tryz.underlying56 (Tryz.size32 _ _ _) (unhide HR10).1 _ _ _ rfl rfl rfl) rfl ⟨_, _, _, rfl, (unhide HR10).2.1, (unhide HR10).2.2.1, (unhide HR10).2.2.2⟩
    · have H4 := hide ((unhide H6) (Or.inr ⟨hk, rfl⟩))
      clear h hok hmo hto hn hT hG hln hgl h1 hfo hr c H5 H6 hru
      · go_enter Tryz.func43, Tryz.ntmps43
        go_wp2_with (first
          | go_skip
          | (refine bx_boxH 56 (.tmp 0) (by exact rfl) (by exact rfl) (pc n s x) (by exact rfl) ?_; intro b w0 hr0 hs0 hb0; have HR0 := hide hr0; have HB0 := hide (And.intro hb0 hs0); clear hr0 hs0 hb0)
          | (refine bx_boxH 27 (.tmp 1) (by exact rfl) (by exact rfl) (mc m) (by exact rfl) ?_; intro b3 w1 hr1 hs1 hb1; have HM0 := hide (And.intro hr1 hs1); have HB1 := hide hb1; clear hr1 hs1 hb1)
          | (refine bx_new rfl 56 rfl _ Tryz.zero32 ?_; intro b2 w2 hr2 hs2 hb2; have HA := hide (Aq.mk0 (unhide HB0).1 (unhide HB0).2 (unhide HR0) (unhide HB1) (unhide HM0).2 (unhide HM0).1 hb2 hs2 hr2); clear hr2 hs2 hb2 HR0 HB0 HM0 HB1)
          | (go_at_call 46; refine ((unhide H1) _ (unhide HA).bel).mono ?_; rintro e w3 ⟨rfl, hb3⟩; replace HA := hide ((unhide HA).next hb3); clear hb3)
          | (go_at_call 20; refine ((unhide H3) _).mono ?_; rintro e w4 ⟨rfl, hb4⟩; replace HA := hide ((unhide HA).next hb4); clear hb4; have m2 := (Bm.of (unhide HA).rm).c2; have y0 := (Bx.of (unhide HA).row).c0)
          | (refine bx_ldH 56 (.tmp 2) (by exact rfl) b (by exact rfl) (by exact rfl) _ _ (unhide HA).row Tryz.underlying56 (Tryz.size32 _ _ _) ?_)
          | (refine bx_ldH 27 (.tmp 3) (by exact rfl) b3 (by exact rfl) (by exact rfl) _ _ (unhide HA).rm Tryz.underlying27 (Tryz.size44 _) ?_))
        clear m2 y0
        have hA := (unhide HA).next (Bel.refl w4).drew
        refine wp_region_held_drew (S := fun w => w.heap[b3]? = some (.cells (mc m) 27)) Tryz.follows hA.rm (fun hS => ?_)
        clear HA
        generalize w4.drew = wd at *
        refine any_take (i := 1) (v := .pointer (some ⟨b3, 0, none⟩)) rfl (by kernel_rfl) (by kernel_rfl) (by kernel_rfl) (fun _ _ _ h => h) rfl hS (fun w _ => by go_simp) ?_
        refine any_take (i := 2) (v := .int .u8 2) rfl (by kernel_rfl) (by kernel_rfl) (by kernel_rfl) (fun _ _ _ h => h) rfl hS (fun w hw => by have := (Bm.of hw).c0; rw [hk] at this; go_simp) ?_
        refine any_call (i := 0) (by kernel_rfl) rfl rfl (by go_simp) doings_any ?_
        rintro e w5 ⟨rfl, hb5⟩
        refine ⟨_, rfl, hb5.row hS, ?_⟩
        refine any_do (i := 3) (v := .func (.func 107) #[] #[]) (by kernel_rfl) rfl rfl (by have := ix57_2 w5; go_simp) ⟨hb5.row hS, ?_⟩
        refine any_do (i := 4) (v := .func (.func 107) #[] #[]) (by kernel_rfl) rfl rfl (by go_simp) ⟨hb5.row hS, ?_⟩
        refine wpAnyH_done (by kernel_rfl) ?_ _
        have HA := hide (hA.next hb5)
        clear hA hS hb5 hk
        have q5 := eq56_37 w5
        go_wp2_with (first
          | go_skip
          | go_guarded
          | (go_at_call 47; refine ((unhide H2) _ (unhide HA).bel).mono ?_; rintro e w6 ⟨x6, rfl, hp6, hb6⟩; have HG := hide hp6; replace HA := hide ((unhide HA).next hb6); clear hb6 hp6)
          | (go_at_call 73; refine (standDown_any _).mono ?_; rintro e w8 ⟨rfl, hb8⟩; have HG := hide (((unhide HF).bel hb8).down m.term); replace HA := hide ((unhide HA).next hb8); clear hb8 HF)
          | (go_at_call 107; refine ((unhide H4) _ _ (unhide HA).bel.size (unhide HF)).mono ?_; rintro e w9 ⟨x9, aA, cA, rfl, hp9, ho9, hc9⟩; have HO := hide ho9; have HG := hide hp9; replace HA := hide ((unhide HA).kx (unhide HF) hc9); clear hp9 ho9 hc9 HF)
          | (refine bx_ldH 56 (.tmp 2) (by exact rfl) b (by exact rfl) (by exact rfl) _ _ (unhide HA).row Tryz.underlying56 (Tryz.size32 _ _ _) ?_)
          | (refine bx_ldH 27 (.tmp 3) (by exact rfl) b3 (by exact rfl) (by exact rfl) _ _ (unhide HA).rm Tryz.underlying27 (Tryz.size44 _) ?_)
          | (refine bx_st rfl 56 (.tmp 2) _ rfl b _ _ rfl rfl (unhide HA).row (Tryz.size32 _ _ _) rfl (pc_one _ _ _) ?_; intro w7 hr7 hc7; have HP := hide ((unhide HO).box (unhide HA).row (by decide) hc7); have HF := hide ((unhide HG).box (unhide HA).row hc7); replace HA := hide ((unhide HA).set hr7 hc7); clear hr7 hc7 HG HO)
          | (refine bx_st rfl 56 (.tmp 2) _ rfl b _ _ rfl rfl (unhide HA).row (Tryz.size32 _ _ _) rfl (pc_one _ _ _) ?_; intro w7 hr7 hc7; have HF := hide ((unhide HG).box (unhide HA).row hc7); replace HA := hide ((unhide HA).set hr7 hc7); have y2 := (Bx.of (unhide HA).row).c2; have m3 := (Bm.of (unhide HA).rm).c3; clear hr7 hc7 HG)
          | (obtain ⟨s2, x2, n2, h2⟩ := (unhide HA).row2; refine bx_st rfl 56 (.tmp 4) _ rfl b2 _ _ rfl rfl h2 (Tryz.size32 _ _ _) rfl (pc_one _ _ _) ?_; intro w10 hr10 hc10; have HR10 := hide (And.intro hr10 (And.intro ((unhide HF).box h2 hc10) (And.intro ((unhide HP).box h2 (by decide) hc10) (bel_off (unhide HA).bel hc10 (unhide HA).ge2)))); clear hr10 hc10 h2))
    
        refine bodyPost_ret (res3 (p := 4) (q := 5) (r := 6) rfl Tryz.underlying56 (Tryz.size32 _ _ _) (unhide HR10).1 _ _ _ rfl rfl rfl) rfl ⟨_, _, _, rfl, (unhide HR10).2.1, (unhide HR10).2.2.1, (unhide HR10).2.2.2⟩
end Go.Proofs.YthipgcojbhcdgaaGreat
