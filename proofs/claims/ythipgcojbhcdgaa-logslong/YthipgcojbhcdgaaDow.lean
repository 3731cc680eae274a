/- Down. -/
import Derived.Test.YthipgcojbhcdgaaSta
namespace Go.Proofs.Ythipgcojbhcdgaa
open Go.RowKit Go.Maps Go.Sort
/-- A member as a value; its log's slice is as long as it may be. -/
structure Pq (W : World) (n : Nat) (s : PP) (x : Px) : Prop where
  pw : Pw W n s x
  cap : s.log.length ≤ x.cL
theorem Pq.bel {W W' : World} {n : Nat} {s : PP} {x : Px} (h : Pq W n s x) (hb : Bel W W') : Pq W' n s x := ⟨h.pw.bel hb, h.cap⟩
theorem Pf.pq {base : Nat} {W : World} {n : Nat} {s : PP} {x : Px} (h : Pf base W n s x) : Pq W n s x := ⟨h.pw, (Sl.of h.l).2.2⟩
theorem Pf.down {base : Nat} {W : World} {n : Nat} {s : PP} {x : Px} (h : Pf base W n s x) (t : Int) : Pf base W n (s.down t) (dnX x) := ⟨h.m, h.b, h.l, El.O.nil _ _, El.O.nil _ _, fun k j hk => by cases hk⟩
theorem Ok.lens {n T G : Nat} {s : PP} (h : Ok n T G s) (hn : n ≤ 64) : s.votes.length ≤ 1000000 ∧ s.fol.length ≤ 1000000 := by
  refine ⟨by have := ris_le n s.votes h.vr.nodup h.vm; omega, ?_⟩
  rcases h.role with ⟨_, _, e⟩ | ⟨_, _, _, _, e⟩ | ⟨_, _, _, _, _, e, _⟩
  · rw [e]; simp
  · rw [e]; simp
  · have h1 : (s.fol.map (·.1)).length = (oth n s.id).length := by rw [e]
    rw [List.length_map] at h1
    have h2 : (oth n s.id).length ≤ (mem n).length := List.length_filter_le _ _
    rw [mem_len] at h2
    omega
set_option maxRecDepth 100000 in
set_option maxHeartbeats 1000000 in
theorem down_any {W : World} {n T G : Nat} {s : PP} {x : Px} (h : Pq W n s x) (hok : Ok n T G s) (hn : n ≤ 64) (hT : T ≤ 1000000) (hG : G ≤ 999999) (t : Int) (ht : t ≤ 1000000) : Calls Try.prog 9 #[.agg (pc n s x), .int .u64 t] W fun e w' => ∃ x', e = .returned (.tuple #[.agg (pc n (s.down t) x'), .int .i64 0]) ∧ Pf W.heap.size w' n (s.down t) x' ∧ Bel W w' := by
  have hln := hok.lens hn
  have hgl := hok.glen
  have H1 : Hid (∀ W', Bel W W' → Calls Try.prog 10 #[.agg (pc n s x)] W' fun e w' => e = .returned (.int .i64 0) ∧ Bel W' w') := hide (fun W' hb => may_ok (h.pw.bel hb) hok hn hT hG h.cap)
  have H2 : Hid (∀ W', Bel W W' → Calls Try.prog 16 #[.agg (pc n s x)] W' fun e w' => ∃ x', e = .returned (.agg (pc n s x')) ∧ Pf W'.heap.size w' n s x' ∧ Bel W' w') := hide (fun W' hb => clone_any (h.pw.bel hb) hn (by omega) hln.1 hln.2)
  have ht' : ¬ (4611686018427387904 < t) := by omega
  clear h hok hn hT hG ht hln hgl
  go_enter Try.func9, Try.ntmps9
  go_wp2_with (first
    | (refine bx_box rfl 32 _ rfl (pc n s x) rfl ?_; intro b w0 hr0 hs0 hb0; have HR0 := hide hr0; have HB0 := hide hb0; clear hr0 hs0 hb0)
    | (refine bx_new rfl 32 rfl _ Try.zero32 ?_; intro b2 w1 hr1 hs1 hb1; have HR1 := hide hr1; have HS1 : Hid (W.heap.size ≤ b2) := hide (Nat.le_trans (unhide HB0).size (Nat.le_of_eq hs1)); replace HR0 := hide (hb1.row (unhide HR0)); replace HB0 := hide ((unhide HB0).trans hb1); clear hr1 hs1 hb1)
    | (refine bx_ldG rfl 32 _ rfl b rfl (pc n s x) _ (unhide HR0) Try.underlying32 (Try.size32 _ _ _) ?_)
    | (go_at_call 10; refine ((unhide H1) _ (unhide HB0)).mono ?_; rintro e w2 ⟨rfl, hb2⟩; replace HR0 := hide (hb2.row (unhide HR0)); replace HR1 := hide (hb2.row (unhide HR1)); replace HB0 := hide ((unhide HB0).trans hb2); clear hb2)
    | (go_at_call 16; refine ((unhide H2) _ (unhide HB0)).mono ?_; rintro e w3 ⟨x1, rfl, hf3, hb3⟩; have HF3 := hide (And.intro hf3 (unhide HB0).size); replace HR1 := hide (hb3.row (unhide HR1)); replace HB0 := hide ((unhide HB0).trans hb3); clear hb3 hf3)
    | (go_at_call 21; refine (standDown_any _).mono ?_; rintro e w4 ⟨rfl, hb4⟩; have HF4 := hide (And.intro ((unhide HF3).1.bel hb4) (unhide HF3).2); replace HR1 := hide (hb4.row (unhide HR1)); replace HB0 := hide ((unhide HB0).trans hb4); clear hb4)
    | (refine bx_st rfl 32 _ _ rfl b2 _ _ rfl rfl (unhide HR1) (Try.size32 _ _ _) rfl (pc_one _ _ _) ?_; intro w9 hr9 hc9; have HR9 := hide (And.intro hr9 hc9); clear hr9 hc9))
  refine bodyPost_ret (res2 (p := 4) (q := 5) rfl Try.underlying32 (Try.size32 _ _ _) (unhide HR9).1 _ _ rfl rfl) rfl ⟨_, rfl, ?_, bel_off (unhide HB0) (unhide HR9).2 (unhide HS1)⟩
  have h9 := ((unhide HF4).1.down t).box (unhide HR1) (unhide HR9).2
  exact ⟨h9.m.mono (unhide HF4).2, h9.b.mono (unhide HF4).2, h9.l.mono (unhide HF4).2, h9.v.mono (unhide HF4).2, h9.f.mono (unhide HF4).2, h9.dv⟩
end Go.Proofs.Ythipgcojbhcdgaa
