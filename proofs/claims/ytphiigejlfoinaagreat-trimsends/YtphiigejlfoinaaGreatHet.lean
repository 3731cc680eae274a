/- logs.entries of any member. -/
import Derived.Test.YtphiigejlfoinaaGreatHct
namespace Go.Proofs.YtphiigejlfoinaaGreat
open Go.RowKit Go.Maps Go.Sort
set_option maxRecDepth 100000 in
set_option maxHeartbeats 4000000 in
theorem ents_g {W : World} {s : GP} {x : Px} (h : SlG W x.aL s.log) (i1 i2 : Int) (k m : Nat) (hk : k ≤ m) (hm : m ≤ s.log.length) (h1 : i1 - s.base = k + 1) (h2 : i2 - s.base = m) (hl : s.log.length ≤ 1000000) (hcap : s.log.length ≤ x.cL) (hmm : ∀ e ∈ s.log, e.m.length ≤ 17592186044416) : Calls Tryz.prog 95 #[.agg (gc s x), .int .u64 i1, .int .u64 i2] W fun e w' => ∃ a' c', e = .returned (.slice a' ((s.log.take m).drop k).length c') ∧ SlGT w' a' ((s.log.take m).drop k) ∧ Bel W w' := by
  rw [show ((s.log.take m).drop k).length = m - k by rw [List.length_drop, List.length_take]; omega]
  obtain ⟨aL, hxr⟩ : ∃ a, a = x.aL := ⟨_, rfl⟩
  rw [← hxr] at h
  have HXR := hide hxr
  clear hxr
  obtain ⟨L, hL, ⟨g, off, hg, hR⟩, hG⟩ := h
  have hLn : L.length = s.log.length := by rw [← hL, List.length_map]
  have hdl : ((L.take m).drop k).length = m - k := by rw [List.length_drop, List.length_take]; omega
  have HE : Hid (∀ (a : Option Addr) (c : Nat) (W' : World), Bel W W' → (k < m → a = some ⟨g, off + k * 4, none⟩) → Calls Tryz.prog 76 #[.slice a (m - k) c] W' fun e w' => ∃ a' c', e = .returned (.slice a' (m - k) c') ∧ SlGT w' a' ((s.log.take m).drop k) ∧ Bel W' w') := hide (fun a c W' hb ha => by
    refine (entries_g (L := (L.take m).drop k) hdl ⟨g, off + k * 4, fun h0 => ha (by omega), ?_⟩ (fun y hy => (hG.bel hb) y (List.mem_of_mem_take (List.mem_of_mem_drop hy))) (by omega) (fun y hy => hmm _ (by rw [← hL]; exact List.mem_map_of_mem (List.mem_of_mem_take (List.mem_of_mem_drop hy))))).mono ?_
    · exact ((hR.bel hb).take m).drop k
    · rintro e w' ⟨a', c', L', he, hmp, ho, hoo, hb'⟩
      exact ⟨a', c', he, ⟨L', by rw [hmp, List.map_drop, List.map_take, hL], SlT.of ho, fun y hy => SlT.of (hoo y hy)⟩, hb'⟩)
  have hw1 : IntKind.u64.wrap (i1 - s.base) = (k : Int) + 1 := by rw [h1, IntKind.wrap_u64]; omega
  have hw2 : IntKind.u64.wrap (k : Int) = (k : Int) := by rw [IntKind.wrap_u64]; omega
  have hw3 : IntKind.u64.wrap (i2 - s.base) = (m : Int) := by rw [h2, IntKind.wrap_u64]; omega
  have hkm : (k : Int) ≤ m := by omega
  have hknc : (m : Int) ≤ x.cL := by omega
  have hkc : (k : Int) ≤ x.cL := by omega
  have hk0 : (0 : Int) ≤ k := by omega
  have hm0 : (0 : Int) ≤ m := by omega
  have HG := hide hg
  have HLN := hide hLn
  have hkcn : k ≤ x.cL := by omega
  have hxk : x.cL = k → m = k := by omega
  clear hL hR hG hLn hg hmm hdl h1 h2
  generalize hsm : s.log.length = n at *
  by_cases hck : x.cL = k
  · have HMK := hide (hxk hck)
    clear hxk
    go_enter Tryz.func95, Tryz.ntmps95
    go_wp2_with (first
      | (refine bx_box rfl 31 _ rfl (gc s x) rfl ?_; intro b w0 hr0 hs0 hb0; have y10 := (Bg.of hr0).c10; rw [hsm, ← unhide HXR] at y10; have y6 := (Bg.of hr0).c6; have HB0 := hide hb0; clear hr0 hs0 hb0)
      | (go_at_call 76; refine ((unhide HE) _ _ _ (unhide HB0) (by intro hkm; have := unhide HMK; omega)).mono ?_; rintro e w2 ⟨a2, c2, rfl, hs2, hb2⟩; have HS2 := hide (And.intro hs2 ((unhide HB0).trans hb2)); clear hs2 hb2))
    go_ret
    exact ⟨_, _, rfl, (unhide HS2).1, (unhide HS2).2⟩
  · clear hxk
    go_enter Tryz.func95, Tryz.ntmps95
    go_wp2_with (first
      | (refine bx_box rfl 31 _ rfl (gc s x) rfl ?_; intro b w0 hr0 hs0 hb0; have y10 := (Bg.of hr0).c10; rw [hsm, ← unhide HXR] at y10; have y6 := (Bg.of hr0).c6; have HB0 := hide hb0; clear hr0 hs0 hb0)
      | (go_at_call 76; refine ((unhide HE) _ _ _ (unhide HB0) (by intro hkm; have ea := (unhide HG) (by have := unhide HLN; omega); rw [ea]; exact congrArg some (Addr.add_lit _ _ _))).mono ?_; rintro e w2 ⟨a2, c2, rfl, hs2, hb2⟩; have HS2 := hide (And.intro hs2 ((unhide HB0).trans hb2)); clear hs2 hb2))
    go_ret
    exact ⟨_, _, rfl, (unhide HS2).1, (unhide HS2).2⟩
end Go.Proofs.YtphiigejlfoinaaGreat
