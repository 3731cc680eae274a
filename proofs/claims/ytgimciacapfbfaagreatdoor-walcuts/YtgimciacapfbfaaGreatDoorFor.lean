/- Records are forgotten. -/
import Derived.Test.YtgimciacapfbfaaGreatDoorDel
namespace Go.Proofs.YtgimciacapfbfaaGreatDoor
open Go.RowKit Go.Maps Go.WideMaps
/-- The shape of a row of records that is not empty. -/
theorem own_more {w : World} {v : Value} {n : Nat} {cs : List Value} (h : w.ownsRow 0 67 2 v n cs) (hn : 0 < n) : ∃ g cap, v = .slice (some ⟨g, 0, none⟩) n cap ∧ n ≤ cap ∧ cap ≤ maxLen := by
  rcases h.2 with ⟨_, h'⟩ | ⟨g, cap, cur, rfl, _, _, h1, h2, _⟩
  · omega
  · exact ⟨g, cap, rfl, h1, h2⟩
/-- The records are cut to others in the same row. -/
theorem wa_cut {w0 W W1 W2 : World} {C : Nat} {G : Nat → Prop} {q p g n cap : Nat} {x : PW} {d : PD} {M B : Nat → Prop} {rs' : List (List UInt8 × Nat)} (hw : Wc W q p (.slice (some ⟨g, 0, none⟩) n cap) x) (hd : Dk C W p d M B) (ha : Apt G q (.slice (some ⟨g, 0, none⟩) n cap) M B) (lt : ∀ i, G i → i < W.heap.size) (g0 : ∀ i, i < w0.heap.size → G i) (bel : Bel w0 W) (hc : Ch (fun k => k = g) W W1) (n' : Nat) (hn' : n' = rs'.length) (hown : W1.ownsRow 0 67 2 (.slice (some ⟨g, 0, none⟩) n' cap) n' (rcs rs')) (h2 : W2 = W1.setCell ⟨q, 4, none⟩ (.slice (some ⟨g, 0, none⟩) n' cap)) :
    Wa w0 C G W2 q p ⟨x.nm, x.first, x.last, rs'⟩ d ∧ Kp G W W2 := by
  have hgq : g ≠ q := (ha.av g rfl).2.2.2
  have hr1 : W1.heap[q]? = some (.cells #[.pointer (some ⟨p, 0, none⟩), vS x.nm, .int .i64 x.first, .int .i64 x.last, .slice (some ⟨g, 0, none⟩) n cap] 55) := hc.row hw.row (fun e => hgq e.symm)
  have hc' : Ch (fun i => i = q ∨ (Value.slice (some ⟨g, 0, none⟩) n cap).ownBlock = some i) W W1 := hc.mono (fun i hi => Or.inr (by show some g = some i; rw [hi]))
  subst hn' h2
  refine wa_turn hw hd ha lt g0 bel (hc'.set (ad := ⟨q, 4, none⟩) (Or.inl (Or.inl rfl)) _) ⟨row_set hr1, row_at hown (fun k hk => ?_)⟩ (fun k hk => Or.inl hk)
  have hk' : g = k := Option.some.inj hk
  exact Below.heap_setCell _ _ _ _ (by show k ≠ q; omega)
set_option maxRecDepth 100000 in
set_option maxHeartbeats 4000000 in
theorem forget_any {w0 W : World} {C : Nat} {G : Nat → Prop} {q p : Nat} {x : PW} {d : PD} (h : Wa w0 C G W q p x d) (hi : Is x) (f : Nat) (h1 : x.first ≤ f) (h2 : f < x.first + x.rs.length) :
    Calls Tryz.prog 39 #[.pointer (some ⟨q, 0, none⟩), .int .i64 f] W fun e w' => e = .returned (.tuple #[]) ∧ Wa w0 C G w' q p ⟨x.nm, x.first, x.last, x.rs.take (f - x.first)⟩ d ∧ Kp G W w' := by
  obtain ⟨v, M, B, hw, hdk, hap⟩ := h.ex
  obtain ⟨g, cap, rfl, hc1, hc2⟩ := own_more hw.own (by omega)
  have hf := hi.fi
  have hl := hi.le
  have c4 : W.drew.cell? ⟨q, 4, none⟩ = some (.slice (some ⟨g, 0, none⟩) x.rs.length cap) := cell_of hw.row
  have c2 : W.drew.cell? ⟨q, 2, none⟩ = some (.int .i64 (x.first : Nat)) := cell_of hw.row
  have h38 := hide (delete_any g x.rs.length cap (f - x.first) x.rs.length x.rs W.drew hw.own.drew (by omega) (Nat.le_refl _) rfl hc1 hc2)
  rw [show x.rs.length - (x.rs.length - (f - x.first)) = f - x.first by omega, List.drop_length, List.append_nil] at h38
  have e1 : IntKind.i64.wrap ((f : Int) - (x.first : Int)) = ((f - x.first : Nat) : Int) := by rw [wrapI (by omega) (by omega)]; omega
  have hln : Hid (f - x.first = (x.rs.take (f - x.first)).length) := by show _ = _; rw [List.length_take]; omega
  have HW := hide hw
  have HDK := hide hdk
  have HAP := hide hap
  have H := hide h
  generalize f - x.first = k at h38 e1 hln ⊢
  clear hw hdk hap h hi h1 h2
  go_enter Tryz.func39, Tryz.ntmps39
  go_wp2_with fail
  go_region_law (first | (go_simp; go_at_call 38; refine (unhide h38).mono ?_; rintro e w1 ⟨rfl, hown1, hch1⟩; have r1 := hide (hch1.row (unhide HW).row (fun e => ((unhide HAP).av g rfl).2.2.2 e.symm)); have s1 : w1.cell? ⟨q, 4, none⟩ = some (.slice (some ⟨g, 0, none⟩) x.rs.length cap) := cell_of (unhide r1); have f1 := free_row (p := 4) (unhide r1)))
  all_goals
    have hT := hide (wa_cut (unhide HW) (unhide HDK) (unhide HAP) (unhide H).lt (unhide H).g0 (unhide H).bel (show Ch _ W w1 from ⟨hch1.os, hch1.tape, hch1.output, hch1.size, hch1.block⟩) k (unhide hln) hown1 rfl)
    clear hown1 hch1
    go_wp2_with fail
    go_end0
    exact ⟨rfl, (unhide hT).1, (unhide hT).2⟩
end Go.Proofs.YtgimciacapfbfaaGreatDoor
