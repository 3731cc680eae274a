/- The document's Copy, its rows. -/
import Derived.Test.YtbcgikkdhfbphaaCps
namespace Go.Proofs.Ytbcgikkdhfbphaa.Cp13
open Go.RowKit Go.Maps Go.Proofs.Ytbcgikkdhfbphaa
set_option linter.unusedVariables false
set_option maxRecDepth 100000 in
theorem copy13 {W : World} {q : Nat} {nN : Int} {v1 v2 v3 v4 : Value} {L1 : List Pk} {L2 : List Bool} {L3 L4 : List Int} {b1 b2 b3 b4 : Option Addr} {g1 g2 g3 g4 d1 d2 d3 d4 : Nat} (hrow : W.heap[q]? = some (.cells #[.int .i64 nN, v1, v2, v3, v4] 74))
    (hv1 : v1 = .slice b1 L1.length d1) (ha1 : L1.length ≠ 0 → b1 = some ⟨g1, 0, none⟩) (hR1 : E46.R W g1 0 L1) (hl1 : L1.length ≤ 100000)
    (hv2 : v2 = .slice b2 L2.length d2) (ha2 : L2.length ≠ 0 → b2 = some ⟨g2, 0, none⟩) (hR2 : E4.R W g2 0 L2) (hl2 : L2.length ≤ 100000)
    (hv3 : v3 = .slice b3 L3.length d3) (ha3 : L3.length ≠ 0 → b3 = some ⟨g3, 0, none⟩) (hR3 : E3.R W g3 0 L3) (hl3 : L3.length ≤ 100000)
    (hv4 : v4 = .slice b4 L4.length d4) (ha4 : L4.length ≠ 0 → b4 = some ⟨g4, 0, none⟩) (hR4 : E22.R W g4 0 L4) (hl4 : L4.length ≤ 100000) :
    Calls Try.prog 13 #[.pointer (some ⟨q, 0, none⟩)] W fun e w' => ∃ u, e = .returned u ∧ Fn W nN L1 L2 L3 L4 w' u ∧ Bel W w' := by
  have H := hide (fun (Q : Exit → Act → World → Prop) (a : Act) (p : String) (h1 : a.tmps.size = 33) (h3 : a.defers = []) (h2 : a.eval (.tmp 0) = .pointer (some ⟨q, 0, none⟩)) => region13 (Q := Q) (p := p) (id := 1) h1 h3 h2 hrow hv1 ha1 hR1 hl1 hv2 ha2 hR2 hl2 hv3 ha3 hR3 hl3 hv4 ha4 hR4 hl4)
  clear hrow hv1 ha1 hR1 hl1 hv2 ha2 hR2 hl2 hv3 ha3 hR3 hl3 hv4 ha4 hR4 hl4
  go_enter Try.func13, Try.ntmps13
  go_wp2_with fail
  refine (unhide H) _ _ _ ?_ ?_ ?_ ?_
  · rfl
  · rfl
  · rfl
  · intro a' w' u hd hu hf hb
    rename_i Q1 K1 hK1
    refine hK1 a' w' ?_
    have hr : (results Try.f13 a'.tmps).run Try.prog w' = .ok u w' := by
      have hu' : a'.tmps[2]?.getD undef = u := by simpa [Act.eval] using hu
      simp [results, hu']
    have hfin : bodyPost Try.prog Try.f13 (fun e w' => ∃ u, e = .returned u ∧ Fn W nN L1 L2 L3 L4 w' u ∧ Bel W w') .ret a' w' := bodyPost_ret hr hd ⟨u, rfl, hf, hb⟩
    exact wp_ret hfin
end Go.Proofs.Ytbcgikkdhfbphaa.Cp13
