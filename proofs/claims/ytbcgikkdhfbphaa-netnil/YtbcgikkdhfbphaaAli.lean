/- Some answers that the document fixes. -/
import Derived.Test.YtbcgikkdhfbphaaDrp
namespace Go.Proofs.Ytbcgikkdhfbphaa
open Go.RowKit Go.Maps
def ba (x : UInt8) : ByteArray := ⟨#[x]⟩
theorem ali_may (k : Int) (L : List Pk) (h1 : 1 ≤ k) (h2 : k ≤ 2) : (PN.mk (nm 7 2 2) L).may k := ⟨h1, by rw [nm_len]; exact h2⟩
theorem ali_send (L : List Pk) (a b : Int) (x : UInt8) (ha : (PN.mk (nm 7 2 2) L).may a ∧ (PN.mk (nm 7 2 2) L).may b) (hL : L.length < 16384) : (PN.mk (nm 7 2 2) L).sendE a b (ba x) = 0 ∧ (PN.mk (nm 7 2 2) L).sendS a b (ba x) = ⟨nm 7 2 2, L ++ [(a, b, ba x)]⟩ := by
  have h : (PN.mk (nm 7 2 2) L).sendE a b (ba x) = 0 := by
    unfold PN.sendE
    rw [if_pos (mayBB.2 ha), if_neg (show ¬ 4194304 < (ba x).size by show ¬ 4194304 < 1; omega), if_pos hL]
  exact ⟨h, by unfold PN.sendS; rw [if_pos h]; rfl⟩
theorem ali_x (L : List Pk) (x : UInt8) : (PN.mk (nm 7 2 2) L).sendE 1 3 (ba x) = 2 ∧ (PN.mk (nm 7 2 2) L).sendS 1 3 (ba x) = ⟨nm 7 2 2, L⟩ := by
  have h : (PN.mk (nm 7 2 2) L).sendE 1 3 (ba x) = 2 := by
    unfold PN.sendE
    rw [if_neg (fun h => by have := (mayBB.1 h).2.2; rw [nm_len] at this; omega)]
  exact ⟨h, by unfold PN.sendS; rw [if_neg (by rw [h]; decide)]⟩
theorem ali_parted (L : List Pk) : (PN.mk (nm 7 2 2) L).parted 1 2 = false := by
  unfold PN.parted PN.side
  simp [nm]
theorem ali_take : (PN.mk (nm 7 2 2) [(1, 2, ba 97), (1, 2, ba 98)]).takeR 1 2 1 = ((1, 2, ba 98), 0) ∧ (PN.mk (nm 7 2 2) [(1, 2, ba 97), (1, 2, ba 98)]).takeS 1 2 1 = ⟨nm 7 2 2, [(1, 2, ba 97)]⟩ := by
  have hp : (PN.mk (nm 7 2 2) [(1, 2, ba 97), (1, 2, ba 98)]).peek 1 2 1 = (ba 98, 0) := by
    have := peek_yes (s := PN.mk (nm 7 2 2) [(1, 2, ba 97), (1, 2, ba 98)]) (a := 1) (b := 2) ⟨ali_may 1 _ (by omega) (by omega), ali_may 2 _ (by omega) (by omega)⟩ (k := 1) (by simp [qs])
    simpa [qs] using this
  have h : (PN.mk (nm 7 2 2) [(1, 2, ba 97), (1, 2, ba 98)]).takeR 1 2 1 = ((1, 2, ba 98), 0) := by
    unfold PN.takeR
    rw [hp, ali_parted]
    simp
  refine ⟨h, ?_⟩
  unfold PN.takeS
  rw [h, if_pos rfl]
  unfold PN.cut
  simp [rem]
theorem ali_len : (PN.mk (nm 7 2 2) [(1, 2, ba 97)]).lenL 1 2 = 1 := by
  unfold PN.lenL
  rw [if_pos (mayBB.2 ⟨ali_may 1 _ (by omega) (by omega), ali_may 2 _ (by omega) (by omega)⟩)]
  simp [qs]
/-- A net that was made behind w. -/
def Own (C : Nat) (w W : World) (p : Nat) (s : PN) : Prop := ∃ M, Nt C W p s M ∧ (∀ i, M i → w.heap.size ≤ i) ∧ Bel w W
theorem Own.bel {C : Nat} {w W W' : World} {p : Nat} {s : PN} (h : Own C w W p s) (hb : Bel W W') : Own C w W' p s := by
  obtain ⟨M, h1, h2, h3⟩ := h
  exact ⟨M, h1.bel hb, h2, h3.trans hb⟩
theorem Own.aft {C' : Nat} {w W W' : World} {p : Nat} {s' : PN} {M : Nat → Prop} (hM : ∀ i, M i → w.heap.size ≤ i) (hb : Bel w W) (h : Aft C' W p M s' W') : Own C' w W' p s' := by
  obtain ⟨M', h1, h2, h3⟩ := h
  refine ⟨M', h1, fun i hi => (h2 i hi).elim (hM i) (fun h => Nat.le_trans hb.size h), ?_⟩
  exact ((hb.ch (fun i => w.heap.size ≤ i)).trans h3 (fun i hi => Or.inl (hM i hi))).below (Nat.le_refl _) (fun i hi => hi)
/-- A call upon such a net. -/
theorem Own.call {C C' : Nat} {w W : World} {p : Nat} {s s' : PN} {f : FuncId} {args : Array Value} {v : Value} (h : Own C w W p s) (k : ∀ M, Nt C W p s M → Calls Try.prog f args W fun e w' => e = .returned v ∧ Aft C' W p M s' w') : Calls Try.prog f args W fun e w' => e = .returned v ∧ Own C' w w' p s' := by
  obtain ⟨M, h1, h2, h3⟩ := h
  exact (k M h1).mono (fun e w' ⟨he, ha⟩ => ⟨he, Own.aft h2 h3 ha⟩)
theorem Own.ask {C : Nat} {w W : World} {p : Nat} {s : PN} {f : FuncId} {args : Array Value} {v : Value} (h : Own C w W p s) (k : ∀ M, Nt C W p s M → Calls Try.prog f args W fun e w' => e = .returned v ∧ Bel W w') : Calls Try.prog f args W fun e w' => e = .returned v ∧ Own C w w' p s := by
  obtain ⟨M, h1, h2, h3⟩ := h
  exact (k M h1).mono (fun e w' ⟨he, ha⟩ => ⟨he, M, h1.bel ha, h2, h3.trans ha⟩)
theorem Own.mono {C C' : Nat} {w W : World} {p : Nat} {s : PN} (h : Own C w W p s) (hc : C ≤ C') : Own C' w W p s := by
  obtain ⟨M, h1, h2, h3⟩ := h
  exact ⟨M, h1.mono hc, h2, h3⟩
theorem Own.is {C : Nat} {w W : World} {p : Nat} {s : PN} (h : Own C w W p s) : Bel w W := by
  obtain ⟨M, h1, h2, h3⟩ := h
  exact h3
theorem Own.off {C : Nat} {w W W1 W2 : World} {p : Nat} {s : PN} (h : Own C w W p s) (hb : Bel W W1) (hc : Ch (fun i => i = W.heap.size) W1 W2) : Own C w W2 p s := by
  obtain ⟨M, h1, h2, h3⟩ := h
  refine ⟨M, (h1.bel hb).off hc (fun hm => absurd (h1.ltM _ hm) (by omega)), h2, ?_⟩
  have := h3.size
  exact (((h3.trans hb).ch (fun i => w.heap.size ≤ i)).trans hc (fun i hi => by rw [hi]; exact Or.inl this)).below (Nat.le_refl _) (fun i hi => hi)
theorem new_own (seed : Int) (N : Nat) (h1 : 1 ≤ N) (h2 : N ≤ 64) (w W : World) (hb : Bel w W) : Calls Try.prog 8 #[.int .i64 N, .int .u64 seed] W fun e w' => ∃ p, e = .returned (.tuple #[.pointer (some ⟨p, 0, none⟩), .int .i64 0]) ∧ Own 0 w w' p (pnew seed N) :=
  (new_yes seed N h1 h2 W).mono (fun _ _ ⟨p, M, he, h3, h4, h5⟩ => ⟨p, he, M, h3, fun i hi => Nat.le_trans hb.size (h4 i hi), hb.trans h5⟩)
set_option maxRecDepth 100000 in
set_option maxHeartbeats 1000000 in
theorem alive_any (w : World) : Calls Try.prog 10 #[] w fun e w' => e = .returned (.bool true) ∧ Bel w w' := by
  go_enter Try.func10, Try.ntmps10
  go_wp2_with fail
  refine (new_own 7 2 (by omega) (by omega) w w (Bel.refl _)).mono ?_
  rintro e w1 ⟨p, rfl, ho⟩
  have H1 := hide ho
  clear ho
  go_wp2_with fail
  refine ((unhide H1).call (fun M h => send_any h (by omega) 1 2 (ba 97) (by show 1 ≤ _; omega))).mono ?_
  have e1 := ali_send [] 1 2 97 ⟨ali_may 1 _ (by omega) (by omega), ali_may 2 _ (by omega) (by omega)⟩ (by simp)
  rw [show pnew 7 2 = PN.mk (nm 7 2 2) [] from rfl, e1.1, e1.2]
  rintro e w2 ⟨rfl, ho⟩
  have H2 := hide ho
  clear ho e1 H1
  go_wp2_with fail
  refine ((unhide H2).call (fun M h => send_any h (by omega) 1 2 (ba 98) (by show 1 ≤ _; omega))).mono ?_
  have e1 := ali_send ([] ++ [(1, 2, ba 97)]) 1 2 98 ⟨ali_may 1 _ (by omega) (by omega), ali_may 2 _ (by omega) (by omega)⟩ (by simp)
  rw [e1.1, e1.2]
  rintro e w3 ⟨rfl, ho⟩
  have H3 : Hid (Own (0 + 1 + 1) w w3 p ⟨nm 7 2 2, [(1, 2, ba 97), (1, 2, ba 98)]⟩) := hide ho
  clear ho e1 H2
  go_wp2_with fail
  refine ((unhide H3).call (fun M h => take_any h (by omega) 1 2 1)).mono ?_
  rw [ali_take.1, ali_take.2]
  rintro e w4 ⟨rfl, ho⟩
  obtain ⟨M4, q1, q2, q3⟩ := ho
  have Q1 := hide q1
  have Q2 := hide (And.intro q2 q3)
  clear q1 q2 q3 H3
  simp only [pv]
  go_wp2_with (first
    | (refine store_pk rfl _ _ rfl (at_new w4 _) (1, 2, ba 98) rfl rfl ?_; intro W5 hr5 hc5; have H5 := hide (((unhide Q1).bel ((Bel.refl _).alloc _)).off hc5 (fun hm => absurd ((unhide Q1).ltM _ hm) (by omega))); have HC5 := hide (((Bel.refl w4).alloc (.cells #[.int .i64 0, .int .i64 0, .string ⟨#[]⟩] 46)).ch M4 |>.off hc5 (Nat.le_refl _)); have HR5 := hide hr5; clear hr5 hc5))
  refine (send_any (unhide H5) (by omega) 1 3 (ba 120) (by show 1 ≤ _; omega)).mono ?_
  rw [(ali_x _ 120).1, (ali_x _ 120).2]
  rintro e w6 ⟨rfl, ha6⟩
  have ho := Own.aft (M := M4) (unhide Q2).1 (unhide Q2).2 (W := w4) (by
    obtain ⟨M6, k1, k2, k3⟩ := ha6
    exact ⟨M6, k1, fun i hi => or_to (k2 i hi) id (fun h => Nat.le_trans (unhide HC5).size h), (unhide HC5).trans k3 (fun i hi => Or.inl hi)⟩)
  have hr6 : w6.heap[w4.heap.size]? = some (.cells #[.int .i64 1, .int .i64 2, .string (ba 98)] 46) := by
    obtain ⟨M6, k1, k2, k3⟩ := ha6
    exact k3.row (unhide HR5) (fun hm => absurd ((unhide Q1).ltM _ hm) (by omega))
  have b0 : w6.cell? ⟨w4.heap.size, 0, none⟩ = some (.int .i64 1) := cell_of hr6
  have b1 : w6.cell? ⟨w4.heap.size, 1, none⟩ = some (.int .i64 2) := cell_of hr6
  have b2 : w6.cell? ⟨w4.heap.size, 2, none⟩ = some (.string (ba 98)) := cell_of hr6
  have H6 := hide ho
  have HL := hide ((unhide H6).ask (fun M h => lenL_any h 1 2))
  rw [ali_len] at HL
  clear ho ha6 hr6 H5 HC5 HR5 Q1 Q2
  unfold ba at *
  go_wp2_with (first
    | (go_at_call 25; refine (unhide HL).mono ?_; rintro e w7 ⟨rfl, ho7⟩; have H7 := hide ho7; clear ho7))
  go_ret
  exact ⟨rfl, (unhide H7).is⟩
end Go.Proofs.Ytbcgikkdhfbphaa
