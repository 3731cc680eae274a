/- Last; mayEntry, mayEntries, mayNumbers, mayLog of members that may be. -/
import Derived.Test.YtgofdkheffoilaaGreatClo
namespace Go.Proofs.YtgofdkheffoilaaGreat
open Go.RowKit Go.Maps
theorem wrapU {n : Int} (h0 : 0 ≤ n) (h1 : n < 18446744073709551616) : IntKind.u64.wrap n = n := by
  rw [IntKind.wrap_u64]
  omega
theorem E69_cell {W : World} {g off : Nat} {l : List PE} (h : E69.R W g off l) (j : Nat) (hj : j < l.length) : W.cell? ⟨g, off + j * 4, none⟩ = some (.int .u64 l[j].t) ∧ W.cell? ⟨g, off + j * 4 + 1, none⟩ = some (.int .u8 l[j].k) ∧ W.cell? ⟨g, off + j * 4 + 2, none⟩ = some (.string l[j].d) ∧ W.cell? ⟨g, off + j * 4 + 3, none⟩ = some (.slice none 0 0) := by
  have h0 := h j hj 0 _ rfl
  have h1 := h j hj 1 _ rfl
  have h2 := h j hj 2 _ rfl
  have h3 := h j hj 3 _ rfl
  exact ⟨by simpa [E69] using h0, by simpa [E69] using h1, by simpa [E69] using h2, by simpa [E69] using h3⟩
set_option maxRecDepth 100000 in
set_option maxHeartbeats 1000000 in
theorem last_any {W : World} {n : Nat} {s : PP} {x : Px} (h : Sl E69 W x.aL s.log) (hl : s.log.length ≤ 1000000) : Calls Tryz.prog 99 #[.agg (pc n s x)] W fun e w' => e = .returned (.tuple #[.int .u64 s.lastI, .int .u64 s.lastT]) ∧ Bel W w' := by
  obtain ⟨g, off, hg, hR⟩ := h
  unfold pc
  by_cases h0 : s.log.length = 0
  · have e1 : s.lastI = 0 := by unfold PP.lastI; omega
    have e2 : s.lastT = 0 := by unfold PP.lastT; rw [List.eq_nil_of_length_eq_zero h0]; rfl
    rw [h0, e1, e2]
    clear hg hR hl h0 e1 e2
    go_enter Tryz.func99, Tryz.ntmps99
    go_wp2_with fail
    go_quiet (fail)
    go_wp2_with fail
    go_ret2
    exact ⟨rfl, ((Bel.refl W).alloc _).drewN _⟩
  · obtain ⟨k, hk⟩ : ∃ k, s.log.length = k + 1 := ⟨s.log.length - 1, by omega⟩
    have hkl : k < s.log.length := by omega
    have e2 : s.lastT = s.log[k].t := by
      unfold PP.lastT
      rw [List.getLast?_eq_getElem?, hk, Nat.add_sub_cancel, List.getElem?_eq_getElem hkl]
    have r0 := (E69_cell hR k hkl).1
    have ea := hg h0
    rw [show s.lastI = (s.log.length : Int) from rfl, e2, ea]
    generalize s.log[k].t = t at *
    have hw : IntKind.i64.wrap ((s.log.length : Int) - 1) = k := by rw [wrapI (by omega) (by omega)]; omega
    have hw2 : IntKind.u64.wrap (s.log.length : Int) = (s.log.length : Int) := by rw [IntKind.wrap_u64]; omega
    have hz : ((s.log.length : Int) == 0) = false := beq_eq_false_iff_ne.2 (by omega)
    have hlt : (k : Int) < s.log.length := by omega
    generalize s.log.length = m at *
    have r0 := ((Bel.refl W).alloc (.cells #[.int .i64 s.id, .slice x.aM n x.cM, .int .u64 s.term, .int .i64 s.vote, .int .u8 s.role, .int .i64 s.lead, .int .u64 0, .int .u64 0, .slice x.aB n x.cB, .string ⟨#[]⟩, .slice (some ⟨g, off, none⟩) m x.cL, .int .u64 s.commit, .int .i64 s.idle, .int .i64 s.wait, .slice x.aV s.votes.length x.cV, .slice x.aF s.fol.length x.cF, .int .u64 0, .slice x.aR 0 x.cR] 45)).cell r0
    clear hg hR h0 e2 ea hk hkl hl
    go_enter Tryz.func99, Tryz.ntmps99
    go_wp2_with fail
    go_quiet (fail)
    go_wp2_with fail
    go_ret2
    exact ⟨rfl, ((Bel.refl W).alloc _).drewN _⟩
set_option maxRecDepth 100000 in
theorem entry_any (x : PE) (hx : x.k = 0 ∨ (x.k = 1 ∧ x.d = ⟨#[]⟩)) (W : World) : Calls Tryz.prog 137 #[.agg (encE x).toArray] W fun e w' => e = .returned (.bool true) ∧ Bel W w' := by
  unfold encE
  rcases hx with h | ⟨h, h'⟩
  · rw [h]
    go_enter Tryz.func137, Tryz.ntmps137
    go_wp2_with fail
    go_ret
    exact ⟨rfl, (Bel.refl W).alloc _⟩
  · rw [h, h']
    go_enter Tryz.func137, Tryz.ntmps137
    go_wp2_with fail
    go_ret
    exact ⟨rfl, (Bel.refl W).alloc _⟩
end Go.Proofs.YtgofdkheffoilaaGreat
