/- Diff of a new member and of the same one with a vote: the walk. -/
import Derived.Test.YtgofdkheffoilaaGreatDoorDif
namespace Go.Proofs.YtgofdkheffoilaaGreatDoor
open Go.RowKit Go.Maps
/-- The record of a vote. -/
def vrec (t v : Nat) : ByteArray := ⟨#[72]⟩ ++ ⟨(num t).toArray⟩ ++ ⟨(num v).toArray⟩
theorem sl_new9 (W : World) (x : ByteArray) : Sl E9 (W.alloc (.cells #[.string x] 9)) (some ⟨W.heap.size, 0, none⟩) [x] :=
  ⟨W.heap.size, 0, fun _ => rfl, fun j hj c u hu => by
    have hj0 : j = 0 := by simpa using hj
    subst hj0
    have hc : c = 0 ∧ u = .string x := by
      cases c with
      | zero => simp [E9] at hu; exact ⟨rfl, hu.symm⟩
      | succ c => simp [E9] at hu
    obtain ⟨rfl, rfl⟩ := hc
    rw [cell_of (at_new W _)]
    simp [E9]⟩
set_option maxRecDepth 100000 in
set_option maxHeartbeats 4000000 in
theorem diff_vote {W : World} {n : Nat} {s s' : PP} {x x' : Px} (h : Mb W n s x) (h' : Mb W n s' x') (hB : Sl E3 W x.aB (mem n)) (hB' : Sl E3 W x'.aB (mem n)) (hn : n ≤ 64) (hi : s.id = s'.id) (hl : s.log.length = 0) (hl' : s'.log.length = 0) (t v : Nat) (ht : t < 2 ^ 64) (hv : v < 2 ^ 63) (e1 : s'.term = t) (e2 : s'.vote = v) (hlt : s.term < s'.term) : Calls Tryz.prog 15 #[.agg (pc n s x), .agg (pc n s' x')] W fun e w' => ∃ g cap, e = .returned (.tuple #[.slice (some ⟨g, 0, none⟩) 1 cap, .int .i64 0]) ∧ E9.O W.heap.size w' (.slice (some ⟨g, 0, none⟩) 1 cap) [vrec t v] ∧ Bel W w' := by
  have HF : Hid (∀ W', Bel W W' → Calls Tryz.prog 28 #[.agg (pc n s x), .agg (pc n s' x')] W' fun e w' => e = .returned (.bool true) ∧ Bel W' w') := hide (fun W' hb => follows_ok (fun W2 hb2 => h W2 (hb.trans hb2)) (fun W2 hb2 => h' W2 (hb.trans hb2)) hi (by omega))
  have HA := hide alike_nil
  have HV : Hid (∀ W', Calls Tryz.prog 30 #[.agg (pc n s' x')] W' fun e w' => e = .returned (.string (vrec t v)) ∧ Bel W' w') := hide (fun W' => voteRec_any t v ht hv e1 e2)
  have HS : Hid (∀ W', Bel W W' → Calls Tryz.prog 32 #[.agg (pc n s x), .agg (pc n s' x')] W' fun e w' => e = .returned (.bool true) ∧ Bel W' w') := hide (fun W' hb => sameBase_ok (hB.bel hb) (hB'.bel hb) hn)
  have HL := hide hl
  have HL' := hide hl'
  have hne : (s.term != s'.term) = true := by rw [bne_iff_ne]; omega
  clear h h' hB hB' hn hi hl hl' ht hv e1 e2 hlt
  go_enter Tryz.func15, Tryz.ntmps15
  go_wp2_with (first
    | go_skip
    | (refine bx_box rfl 29 (.tmp 0) rfl (pc n s x) rfl ?_; intro b w0 hr0 hs0 hb0; have HR0 := hide (And.intro hr0 hb0); clear hr0 hs0 hb0)
    | (refine bx_box rfl 29 (.tmp 1) rfl (pc n s' x') rfl ?_; intro b' w1 hr1 hs1 hb1; have HR := hide (And.intro (hb1.row (unhide HR0).1) (And.intro hr1 ((unhide HR0).2.trans hb1))); clear hr1 hs1 hb1)
    | (refine bx_ldH 29 (.tmp 2) (by exact rfl) b (by exact rfl) (by exact rfl) _ _ (unhide HR).1 Tryz.underlying29 (Tryz.size32 _ _ _) ?_)
    | (refine bx_ldH 29 (.tmp 3) (by exact rfl) b' (by exact rfl) (by exact rfl) _ _ (unhide HR).2.1 Tryz.underlying29 (Tryz.size32 _ _ _) ?_)
    | (go_at_call 28; refine ((unhide HF) _ (unhide HR).2.2).mono ?_; rintro e w2 ⟨rfl, hb2⟩; have HT := hide (And.intro (hb2.row (unhide HR).1) (And.intro (hb2.row (unhide HR).2.1) ((unhide HR).2.2.trans hb2))); replace HR := HT; clear HT; have y6 := (Bx.of (unhide HR).1).c6; have z6 := (Bx.of (unhide HR).2.1).c6; have y10 := e10 (unhide HL) (unhide HR).1; have z10 := e10 (unhide HL') (unhide HR).2.1; clear hb2)
    | (go_at_call 29; refine ((unhide HA) _ _ _ _ _).mono ?_; rintro e w3 ⟨rfl, hb3⟩; have HT := hide (And.intro (hb3.row (unhide HR).1) (And.intro (hb3.row (unhide HR).2.1) ((unhide HR).2.2.trans hb3))); replace HR := HT; clear HT y6 z6 y10 z10; have z6 := (Bx.of (unhide HR).2.1).c6; have y2 := (Bx.of (unhide HR).1).c2; have z2 := (Bx.of (unhide HR).2.1).c2; clear hb3)
    | (go_at_call 30; refine ((unhide HV) _).mono ?_; rintro e w4 ⟨rfl, hb4⟩; have HT := hide (And.intro (hb4.row (unhide HR).1) (And.intro (hb4.row (unhide HR).2.1) ((unhide HR).2.2.trans hb4))); replace HR := HT; clear HT y2 z2 z6 hb4)
    | (at_builtin; refine app_el (E := E9) (L := []) [vrec t v] (El.O.nil (E := E9) W.heap.size _) (Nat.le_trans (unhide HR).2.2.size ((Bel.refl w4).alloc _).size) (some ⟨w4.heap.size, 0, none⟩) 1 1 rfl (sl_new9 w4 (vrec t v)) (by simp) rfl (.tmp 51) (.tmp 54) 40 rfl rfl rfl rfl ?_; intro v5 w5 ho5 hg5; rw [List.nil_append] at ho5; obtain ⟨a5, c5, g5, hv5, ha5, _, _⟩ := ho5.shape; have ha6 := ha5 (by simp); subst ha6; rw [List.length_singleton] at hv5; subst hv5; have hb5 := bel_grown ((Bel.refl w4).alloc _) hg5 (fun k hk => by cases hk); have HO := hide ho5; have HT := hide (And.intro (hb5.row (unhide HR).1) (And.intro (hb5.row (unhide HR).2.1) ((unhide HR).2.2.trans hb5))); replace HR := HT; have z10 := e10 (unhide HL') (unhide HR).2.1; clear HT ho5 hg5 hb5 ha5)
    | (go_at_call 32; refine ((unhide HS) _ (unhide HR).2.2).mono ?_; rintro e w6 ⟨rfl, hb6⟩; have HT := hide (And.intro (hb6.row (unhide HR).1) (And.intro (hb6.row (unhide HR).2.1) ((unhide HR).2.2.trans hb6))); replace HR := HT; replace HO := hide ((unhide HO).bel hb6); clear HT z10; have z10 := e10 (unhide HL') (unhide HR).2.1; clear hb6)
    | go_guarded)
  go_loopw [9, 79] (fun vo vk wr => vo = .slice (some ⟨g5, 0, none⟩) 1 c5 ∧ vk = .int .i64 0 ∧ wr = w6) (fun _ _ _ => 0)
  case atStart => exact ⟨rfl, rfl, rfl⟩
  case round =>
    obtain ⟨rfl, rfl, rfl⟩ := hrel
    go_wp2_with fail
    go_ret2
    exact ⟨_, _, rfl, unhide HO, (unhide HR).2.2⟩
end Go.Proofs.YtgofdkheffoilaaGreatDoor
