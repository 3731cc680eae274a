/- A net of the program in memory. -/
import Derived.Test.YtbcgikkdhfbphaaPln
import Derived.Test.YtbcgikkdhfbphaaWld
namespace Go.Proofs.Ytbcgikkdhfbphaa
open Go.RowKit Go.Maps
/-! ### keys -/
def lk (x : Int × Int) : Value := .agg #[.int .i64 x.1, .int .i64 x.2]
def pv (p : Pk) : Value := .agg #[.int .i64 p.1, .int .i64 p.2.1, .string p.2.2]
theorem lk_inj (x y : Int × Int) (h : lk x = lk y) : x = y := by
  simp [lk] at h
  exact Prod.ext h.1 h.2
theorem pv_inj (x y : Pk) (h : pv x = pv y) : x = y := by
  simp [pv] at h
  exact Prod.ext h.1 (Prod.ext h.2.1 h.2.2)
theorem wfI {n : Int} (h0 : -9223372036854775808 ≤ n) (h1 : n < 9223372036854775808) : (Lit.int .i64 n).wf = true := by
  simp [Lit.wf, IntKind.min, IntKind.max, IntKind.signed, IntKind.bits]
  omega
theorem K86 : WideMaps.KeyLaw Try.prog 86 := deep_law_gate (by kernel_rfl) (of_decide_eq_true (by kernel_rfl)) (of_decide_eq_true (by kernel_rfl)) (by kernel_rfl) (by kernel_rfl)
theorem K46 : WideMaps.KeyLaw Try.prog 46 := deep_law_gate (by kernel_rfl) (of_decide_eq_true (by kernel_rfl)) (of_decide_eq_true (by kernel_rfl)) (by kernel_rfl) (by kernel_rfl)
theorem types_pos : ∃ m, Try.prog.types.size = m + 1 := Nat.exists_eq_add_one.2 (of_decide_eq_true (by kernel_rfl))
theorem key86 (x : Int × Int) (wa : (Lit.int .i64 x.1).wf = true) (wb : (Lit.int .i64 x.2).wf = true) : KeyOK 86 (lk x) := by
  have hkt : Try.prog.keyType 86 = true := by kernel_rfl
  have hc : Try.prog.cellsOf 86 = 2 := by kernel_rfl
  have hc3 : Try.prog.cellsOf 3 = 1 := by kernel_rfl
  obtain ⟨m, hm⟩ := types_pos
  refine ⟨.string (keyBytes [.int .i64 x.1, .int .i64 x.2]), ?_⟩
  unfold keyOf lk
  simp only [Try.underlying86, hkt, Value.formed, hc]
  rw [if_pos (by rfl), hm]
  unfold Program.keyLits
  simp only [Try.underlying86, Value.cells, hc]
  simp [hc3, Program.keyLits, Try.underlying3, wa, wb, bind, pure]
theorem key46 (p : Pk) (wa : (Lit.int .i64 p.1).wf = true) (wb : (Lit.int .i64 p.2.1).wf = true) (wc : p.2.2.size ≤ maxLen) : KeyOK 46 (pv p) := by
  have hkt : Try.prog.keyType 46 = true := by kernel_rfl
  have hc : Try.prog.cellsOf 46 = 3 := by kernel_rfl
  have hc3 : Try.prog.cellsOf 3 = 1 := by kernel_rfl
  have hc9 : Try.prog.cellsOf 9 = 1 := by kernel_rfl
  obtain ⟨m, hm⟩ := types_pos
  refine ⟨.string (keyBytes [.int .i64 p.1, .int .i64 p.2.1, .string p.2.2.data.toList]), ?_⟩
  unfold keyOf pv
  simp only [Try.underlying46, hkt, Value.formed, hc]
  rw [if_pos (by rfl), hm]
  unfold Program.keyLits
  simp only [Try.underlying46, Value.cells, hc]
  simp [hc3, hc9, Program.keyLits, Try.underlying3, Try.underlying9, wa, wb, wc, bind, pure]
theorem key86_inv {v : Value} (h : KeyOK 86 v) : ∃ x, v = lk x ∧ (Lit.int .i64 x.1).wf = true ∧ (Lit.int .i64 x.2).wf = true := by
  have hc : Try.prog.cellsOf 86 = 2 := by kernel_rfl
  have hc3 : Try.prog.cellsOf 3 = 1 := by kernel_rfl
  obtain ⟨m, hm⟩ := types_pos
  obtain ⟨l, h⟩ := h
  unfold keyOf at h
  simp only [Try.underlying86] at h
  split at h
  · rename_i hf
    rw [hm] at h
    unfold Program.keyLits at h
    simp only [Try.underlying86, hc] at h
    cases v <;> simp [Value.formed, Try.underlying86] at hf
    rename_i cs
    rw [hc] at hf
    obtain ⟨cl⟩ := cs
    match cl, hf.2 with
    | [u, v], _ =>
      simp only [Value.cells] at h
      cases u <;> simp [hc3, Program.keyLits, Try.underlying3, bind, pure] at h
      rename_i q0 n0 _
      by_cases h0 : q0 = IntKind.i64 ∧ (Lit.int IntKind.i64 n0).wf = true
      · simp only [h0, and_self, if_true, Option.bind_some] at h
        cases v <;> simp at h
        rename_i q1 n1 _
        by_cases h1 : q1 = IntKind.i64 ∧ (Lit.int IntKind.i64 n1).wf = true
        · obtain ⟨rfl, h0⟩ := h0
          obtain ⟨rfl, h1⟩ := h1
          exact ⟨(n0, n1), rfl, h0, h1⟩
        · simp [h1] at h
      · simp [h0] at h
  · cases h
end Go.Proofs.Ytbcgikkdhfbphaa
