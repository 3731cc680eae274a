/- What is synced: the program's Sync. -/
import Derived.Test.YtpngcmlaimcceaaCop
namespace Go.Proofs.Ytpngcmlaimcceaa
open Go.RowKit Go.Maps Go.WideMaps
theorem fault_co {w : World} {p bs bk : Nat} {v : Value} {room used : Int} {seen synced : Fs} {n : Nat} {cs : List Value} (h : Co w p bs bk v room used seen synced n cs) : Calls Try.prog 32 #[.pointer (some ⟨p, 0, none⟩), .slice none 0 0] w fun e w' => e = .returned (.int .i64 0) ∧ w' = w :=
  fault_any p bs 0 none [] 0 0 rfl (by omega) w (cell_of h.row) (fun h => absurd rfl h) (fun j hj => absurd hj (by simp)) (by simp)
theorem sync_mid {w w1 : World} {p bs bk : Nat} {v : Value} {room used : Int} {seen synced : Fs} {n : Nat} {cs : List Value} (h : Co w p bs bk v room used seen synced n cs) (h3 : Mp w1 bk seen) (h4 : Mp w1 bs seen) (h5 : Ch (fun i => i = bk) w.drew w1) :
    Hid (Co (w1.setCell ⟨p, 4, none⟩ (.slice none 0 0)) p bs bk (.slice none 0 0) room used seen seen 0 [] ∧ Ch (fun i => i = p ∨ i = bk) w (w1.setCell ⟨p, 4, none⟩ (.slice none 0 0))) ∧ w1.cell? ⟨p, 4, none⟩ = some v ∧ w1.frozen? ⟨p, 4, none⟩ = false := by
  have hr : w1.heap[p]? = some (.cells #[.int .i64 room, .int .i64 used, .map (some bs), .map (some bk), v] 57) := h5.row h.row (fun e => h.my.ne_row h.row e.symm)
  have hps : bs ≠ p := h.ms.ne_row h.row
  have hpk : bk ≠ p := h.my.ne_row h.row
  refine ⟨⟨⟨row_set hr, h4.at (Below.heap_setCell _ _ _ _ hps), h3.at (Below.heap_setCell _ _ _ _ hpk), World.ownsRow_nil _ _ _ _, h.ne, by simp [Value.ownBlock], fun _ => rfl⟩, ?_⟩, cell_of hr, free_row hr⟩
  exact (((Ch.refl (fun i => i = p ∨ i = bk) w).drew.trans h5 (fun i hi => Or.inl (Or.inr hi))).set (Or.inl (Or.inl rfl)) _)
set_option maxRecDepth 100000 in
set_option maxHeartbeats 1000000 in
theorem sync_co {w : World} {p bs bk : Nat} {v : Value} {room used : Int} {seen synced : Fs} {n : Nat} {cs : List Value} (h : Co w p bs bk v room used seen synced n cs) (hs : srt seen) (hl : seen.length ≤ 4096) (h0 : n = 0 → seen = synced) (hn : n ≤ 1000000) :
    Calls Try.prog 20 #[.pointer (some ⟨p, 0, none⟩)] w fun e w' => e = .returned (.int .i64 0) ∧ ∃ v', Co w' p bs bk v' room used seen seen 0 [] ∧ (v' = .slice none 0 0 ∨ v' = v) ∧ Ch (fun i => i = p ∨ i = bk) w w' := by
  have hfu := Try.follows
  have hf := hide (fault_co h)
  have hly := hide (lay_any bk bs synced seen w.drew h.my h.ms h.ne.symm hs hl)
  obtain ⟨a4, c4, rfl, _, _⟩ := own_shape h.lo
  have c4' : w.cell? ⟨p, 4, none⟩ = some (.slice a4 n c4) := cell_of h.row
  have c3 : w.cell? ⟨p, 3, none⟩ = some (.map (some bk)) := cell_of h.row
  have c2 : w.cell? ⟨p, 2, none⟩ = some (.map (some bs)) := cell_of h.row
  have H := hide h
  have H0 := hide h0
  clear h h0 hs
  rcases Nat.eq_zero_or_pos n with rfl | hpos
  · go_enter Try.func20, Try.ntmps20
    go_wp2_with (go_at_call 32; refine (unhide hf).mono ?_; rintro e w1 ⟨rfl, rfl⟩)
    go_ret
    have e0 := (unhide H0) trivial
    refine ⟨rfl, _, ⟨(unhide H).row, (unhide H).ms, ?_, ?_, (unhide H).ne, (unhide H).nv, (unhide H).em⟩, Or.inr rfl, Ch.refl _ _⟩
    · rw [e0]; exact (unhide H).my
    · have := (unhide H).lo
      have hcs : cs = [] := List.length_eq_zero_iff.1 (by have := this.1; omega)
      rw [hcs] at this
      exact this
  · go_enter Try.func20, Try.ntmps20
    go_wp2_with (go_at_call 32; refine (unhide hf).mono ?_; rintro e w1 ⟨rfl, rfl⟩)
    refine wp_region_still_tail 8 hfu (by kernel_rfl) ?_
    change wpStill _ _ (World.drew _) (fun a' => wpList _ _ _ _ a' (World.drew _)) _ _
    simp only [List.take_succ_cons, List.take_zero, List.drop_succ_cons, List.drop_zero]
    repeat still_step
    refine wpStill_nil ?_
    go_wp2_with (go_at_call 39; refine (unhide hly).mono ?_; rintro e w2 ⟨rfl, h3, h4, h5⟩; obtain ⟨hfin, z4, z5⟩ := sync_mid (unhide H) h3 h4 h5)
    go_ret
    exact ⟨rfl, _, (unhide hfin).1, Or.inl rfl, (unhide hfin).2⟩
/-- A disk with nothing loose. -/
theorem aft_of {C : Nat} {w w' : World} {p bs bk : Nat} {v v' : Value} {d : PD} {M B : Nat → Prop} {S : Fs} (h : Dk C w p d M B) (h3 : ∀ i, Fp p bs bk v i → M i) (hv : v' = .slice none 0 0 ∨ v' = v) (hc : Co w' p bs bk v' d.room (tot S) S S 0 []) (hF : Fine C S) (hch : Ch M w w') : Aft C w p M B ⟨d.room, S, S, []⟩ w' := by
  refine ⟨M, B, ⟨⟨bs, bk, v', [], hc, rfl, fun i hi => ?_⟩, rfl, hF, h.dis, fun i hi => Nat.lt_of_lt_of_le (h.ltM i hi) hch.size, fun i hi => Nat.lt_of_lt_of_le (h.ltB i hi) hch.size, h.room⟩, fun _ hi => Or.inl hi, fun _ hi => Or.inl hi, hch⟩
  rcases hi with rfl | rfl | rfl | hi
  · exact h3 _ (Or.inl rfl)
  · exact h3 _ (Or.inr (Or.inl rfl))
  · exact h3 _ (Or.inr (Or.inr (Or.inl rfl)))
  · rcases hv with rfl | rfl
    · cases hi
    · exact h3 _ (Or.inr (Or.inr (Or.inr hi)))
theorem sync_any {C : Nat} {w : World} {p : Nat} {d : PD} {M B : Nat → Prop} (h : Dk C w p d M B) (hol : d.ops.length ≤ 1000000) :
    Calls Try.prog 20 #[.pointer (some ⟨p, 0, none⟩)] w fun e w' => e = .returned (.int .i64 0) ∧ Aft C w p M B d.sync w' := by
  obtain ⟨bs, bk, v, cs, h1, h2, h3⟩ := h.co
  refine (sync_co h1 h.fine.srt h.fine.len (fun h0 => ?_) hol).mono ?_
  · have := h.seen
    rw [List.length_eq_zero_iff.1 h0] at this
    exact this
  · rintro e w' ⟨he, v', hc, hv, hch⟩
    refine ⟨he, aft_of h h3 hv hc h.fine (hch.mono (fun i hi => ?_))⟩
    rcases hi with rfl | rfl
    · exact h3 _ (Or.inl rfl)
    · exact h3 _ (Or.inr (Or.inr (Or.inl rfl)))
end Go.Proofs.Ytpngcmlaimcceaa
