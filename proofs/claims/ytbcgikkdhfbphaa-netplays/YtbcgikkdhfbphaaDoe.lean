/- One call of both. -/
import Derived.Test.YtbcgikkdhfbphaaPar
namespace Go.Proofs.Ytbcgikkdhfbphaa
open Go.RowKit Go.Maps
/-- No text is too long. -/
def Tb (s : PN) : Prop := ∀ x ∈ s.L, x.2.2.size ≤ 4194304
/-- What one call of both leaves. -/
def DoR (C : Nat) (W : World) (p q : Nat) (Z : Nat → Prop) (w' : World) : Prop := ∃ s', Tb s' ∧ Ap2 (C + 1) W p q Z s' s' w'
theorem tb_send {s : PN} (h : Tb s) (a b : Int) (t : ByteArray) : Tb (s.sendS a b t) := by
  unfold PN.sendS
  split
  · rename_i h0
    have hs : t.size ≤ 4194304 := by
      unfold PN.sendE at h0
      split at h0
      · split at h0
        · omega
        · omega
      · omega
    intro x hx
    rcases List.mem_append.1 hx with hx | hx
    · exact h x hx
    · simp at hx; rw [hx]; exact hs
  · exact h
theorem tb_cut {s : PN} (h : Tb s) (a b : Int) (i : Nat) : Tb (s.cut a b i) := fun x hx => h x (rem_mem _ _ _ _ hx)
set_option maxRecDepth 100000 in
set_option maxHeartbeats 4000000 in
theorem does_send {C : Nat} {W : World} {p q : Nat} {s : PN} {Z : Nat → Prop} (h : Pr C W p q s s Z) (hC : C ≤ 800000) (tb : Tb s) (a b n : Int) (t : ByteArray) (ht : t.size ≤ 1000000000000000) (sv : Option Addr) (sl sc : Nat) : Calls Try.prog 11 #[.pointer (some ⟨p, 0, none⟩), .pointer (some ⟨q, 0, none⟩), .agg #[.int .i64 0, .int .i64 a, .int .i64 b, .int .i64 n, .string t, .slice sv sl sc]] W fun e w' => e = .returned (.bool true) ∧ DoR C W p q Z w' := by
  have hbel : Bel W (W.alloc (.cells #[.int .i64 0, .int .i64 a, .int .i64 b, .int .i64 n, .string t, .slice sv sl sc] 34)) := (Bel.refl W).alloc _
  have hnew := at_new W (.cells #[.int .i64 0, .int .i64 a, .int .i64 b, .int .i64 n, .string t, .slice sv sl sc] 34)
  have HZ := hide h.lt
  generalize hW0 : W.alloc (.cells #[.int .i64 0, .int .i64 a, .int .i64 b, .int .i64 n, .string t, .slice sv sl sc] 34) = W0 at *
  have hpr := h.bel (hbel.trans (Bel.refl W0).drew)
  have HP := hide (hpr.prog (fun M h _ => send_any h (by omega) a b t ht))
  have HD : Hid (∀ w1, Ap2 (C + 1) W0.drew p q Z (s.sendS a b t) s w1 → Calls Try.prog 29 #[.pointer (some ⟨q, 0, none⟩), .int .i64 a, .int .i64 b, .string t] w1 fun e w' => e = .returned (.int .i64 (s.sendE a b t)) ∧ Ap2 (C + 1) W0.drew p q Z (s.sendS a b t) (s.sendS a b t) w') := hide (fun w1 ha => ha.then (fun Z' hz _ => hz.doc (fun K hk _ => sendD hk a b t ht)))
  have d0 : W0.cell? ⟨W.heap.size, 0, none⟩ = some (.int .i64 0) := cell_of hnew
  have d1 : W0.cell? ⟨W.heap.size, 1, none⟩ = some (.int .i64 a) := cell_of hnew
  have d2 : W0.cell? ⟨W.heap.size, 2, none⟩ = some (.int .i64 b) := cell_of hnew
  have d4 : W0.cell? ⟨W.heap.size, 4, none⟩ = some (.string t) := cell_of hnew
  have HKK : Hid (∀ w1 s1 t1, Ap2 (C + 1) W0.drew p q Z s1 t1 w1 → w1.cell? ⟨W.heap.size, 1, none⟩ = some (.int .i64 a) ∧ w1.cell? ⟨W.heap.size, 2, none⟩ = some (.int .i64 b) ∧ w1.cell? ⟨W.heap.size, 4, none⟩ = some (.string t)) := hide (fun w1 s1 t1 ha => by
    have hr := ha.row (unhide HZ) (Nat.le_refl _) (show W0.drew.heap[W.heap.size]? = _ from hnew)
    exact ⟨cell_of hr, cell_of hr, cell_of hr⟩)
  have HFN : Hid (∀ w1, Ap2 (C + 1) W0.drew p q Z (s.sendS a b t) (s.sendS a b t) w1 → DoR C W p q Z w1) := hide (fun w1 ha => ⟨_, tb_send tb a b t, ha.from (hbel.trans (Bel.refl W0).drew)⟩)
  generalize hBB : W.heap.size = B at *
  clear h hbel hnew hpr tb
  go_enter Try.func11, Try.ntmps11
  go_wp2_with fail
  go_region_held3 (fun W' => W'.cell? ⟨B, 1, none⟩ = some (.int .i64 a) ∧ W'.cell? ⟨B, 2, none⟩ = some (.int .i64 b) ∧ W'.cell? ⟨B, 4, none⟩ = some (.string t)) (first | exact (unhide HKK) _ _ _ hA2 | exact (unhide HKK) _ _ _ hA1 | exact ⟨d1, d2, d4⟩) ((first
    | (go_at_call 15; refine (unhide HP).mono ?_; rintro e w1 ⟨rfl, hA1⟩)
    | (go_at_call 29; refine ((unhide HD) _ hA1).mono ?_; rintro e w2 ⟨rfl, hA2⟩)))
  all_goals
    have HF := hide ((unhide HFN) _ hA2)
    go_wp2_with fail
    go_ret
    exact ⟨by simp, unhide HF⟩
end Go.Proofs.Ytbcgikkdhfbphaa
