/- trim.behind, trim.cutOff of any member. -/
import Derived.Test.YthekbhliokcpcaaGreatNhty
namespace Go.Proofs.YthekbhliokcpcaaGreat
open Go.RowKit Go.Maps Go.Sort
set_option maxRecDepth 100000 in
set_option maxHeartbeats 4000000 in
theorem tail_g {W : World} {s : GP} {x : Px} (h : SlG W x.aL s.log) (i : Int) (k : Nat) (hk : k ≤ s.log.length) (hi : i - s.base = k) (hl : s.log.length ≤ 1000000) (hcap : s.log.length ≤ x.cL) (hm : ∀ e ∈ s.log, e.m.length ≤ 17592186044416) : Calls Tryz.prog 77 #[.agg (gc s x), .int .u64 i] W fun e w' => ∃ a', e = .returned (.slice a' (s.log.drop k).length (s.log.drop k).length) ∧ SlGT w' a' (s.log.drop k) ∧ Bel W w' := by
  obtain ⟨aL, hxr⟩ : ∃ a, a = x.aL := ⟨_, rfl⟩
  rw [← hxr] at h
  have HXR := hide hxr
  clear hxr
  obtain ⟨L, hL, ⟨g, off, hg, hR⟩, hG⟩ := h
  have hLn : L.length = s.log.length := by rw [← hL, List.length_map]
  have hdl : (s.log.drop k).length = s.log.length - k := List.length_drop
  have HE : Hid (∀ (a : Option Addr) (c : Nat) (W' : World), Bel W W' → (k < s.log.length → a = some ⟨g, off + k * 4, none⟩) → Calls Tryz.prog 101 #[.slice a (s.log.length - k) c] W' fun e w' => ∃ a' c', e = .returned (.slice a' (s.log.length - k) c') ∧ SlGT w' a' (s.log.drop k) ∧ s.log.length - k ≤ c' ∧ Bel W' w') := hide (fun a c W' hb ha => by
    refine (entries_g (L := L.drop k) (by rw [List.length_drop, hLn]) ⟨g, off + k * 4, fun h0 => ha (by rw [List.length_drop] at h0; omega), ?_⟩ (fun y hy => (hG.bel hb) y (List.mem_of_mem_drop hy)) (by omega) (fun y hy => hm _ (by rw [← hL]; exact List.mem_map_of_mem (List.mem_of_mem_drop hy)))).mono ?_
    · exact (hR.bel hb).drop k
    · rintro e w' ⟨a', c', L', he, hmm, ho, hoo, hb'⟩
      have hl' := (Sl.of ho).2
      exact ⟨a', c', he, ⟨L', by rw [hmm, List.map_drop, hL], SlT.of ho, fun y hy => SlT.of (hoo y hy)⟩, by omega, hb'⟩)
  have hw : IntKind.u64.wrap (i - s.base) = (k : Int) := by rw [hi, IntKind.wrap_u64]; omega
  have hkn : (k : Int) ≤ s.log.length := by omega
  have hknc : (k : Int) ≤ x.cL := by omega
  have hnc : (s.log.length : Int) ≤ x.cL := by omega
  have hk0 : (0 : Int) ≤ k := by omega
  rw [hdl]
  have HG := hide hg
  have HD := hide hdl
  have HLN := hide hLn
  clear hL hR hG hLn hg hm hdl hi
  generalize hsm : s.log.length = m at *
  by_cases hck : x.cL = k
  · go_enter Tryz.func77, Tryz.ntmps77
    go_wp2_with (first
      | (refine bx_box rfl 31 _ rfl (gc s x) rfl ?_; intro b w0 hr0 hs0 hb0; have y10 := (Bg.of hr0).c10; rw [hsm, ← unhide HXR] at y10; have y6 := (Bg.of hr0).c6; have HB0 := hide hb0; clear hr0 hs0 hb0)
      | (go_at_call 101; refine ((unhide HE) _ _ _ (unhide HB0) (by intro hkm; omega)).mono ?_; rintro e w2 ⟨a2, c2, rfl, hs2, hc2, hb2⟩; have HS2 := hide (And.intro hs2 (And.intro hc2 ((unhide HB0).trans hb2))); clear hs2 hc2 hb2)
      | (go_at_call 134; refine (clip_g _ _ _ _ (unhide HS2).2.1).mono ?_; rintro e w9 ⟨rfl, hw9⟩; rw [hw9]; clear hw9))
    go_ret
    exact ⟨_, rfl, (unhide HS2).1, (unhide HS2).2.2⟩
  · go_enter Tryz.func77, Tryz.ntmps77
    go_wp2_with (first
      | (refine bx_box rfl 31 _ rfl (gc s x) rfl ?_; intro b w0 hr0 hs0 hb0; have y10 := (Bg.of hr0).c10; rw [hsm, ← unhide HXR] at y10; have y6 := (Bg.of hr0).c6; have HB0 := hide hb0; clear hr0 hs0 hb0)
      | (go_at_call 101; refine ((unhide HE) _ _ _ (unhide HB0) (by intro hkm; have ea := (unhide HG) (by have := unhide HLN; omega); rw [ea]; exact congrArg some (Addr.add_lit _ _ _))).mono ?_; rintro e w2 ⟨a2, c2, rfl, hs2, hc2, hb2⟩; have HS2 := hide (And.intro hs2 (And.intro hc2 ((unhide HB0).trans hb2))); clear hs2 hc2 hb2)
      | (go_at_call 134; refine (clip_g _ _ _ _ (unhide HS2).2.1).mono ?_; rintro e w9 ⟨rfl, hw9⟩; rw [hw9]; clear hw9))
    go_ret
    exact ⟨_, rfl, (unhide HS2).1, (unhide HS2).2.2⟩
end Go.Proofs.YthekbhliokcpcaaGreat
