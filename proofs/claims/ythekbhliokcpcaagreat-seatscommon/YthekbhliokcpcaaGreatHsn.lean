/- logs.followAt, logs.entries of any member. -/
import Derived.Test.YthekbhliokcpcaaGreatNhty
import Derived.Test.YthekbhliokcpcaaGreatHfo
namespace Go.Proofs.YthekbhliokcpcaaGreat
open Go.RowKit Go.Maps Go.Sort
set_option maxRecDepth 100000 in
theorem isf_g {W : World} {bl : Nat} {id : Int} (f : Int × Int × Int) (hl : W.cell? ⟨bl, 0, none⟩ = some (.int .i64 id)) : Calls Tryz.prog 186 #[.agg (encF f).toArray, .pointer (some ⟨bl, 0, none⟩)] W fun e w' => e = .returned (.bool (f.1 == id)) ∧ Bel W w' := by
  have hl2 := ((Bel.refl W).alloc (.cells #[.int .i64 f.1, .int .u64 f.2.1, .int .u64 f.2.2] 79)).cell hl
  unfold encF
  go_enter Tryz.func186, Tryz.ntmps186
  go_wp2_with fail
  go_ret
  exact ⟨rfl, (Bel.refl W).alloc _⟩
set_option maxRecDepth 100000 in
set_option maxHeartbeats 2000000 in
theorem fidx_g {W : World} {a : Option Addr} {F : List (Int × Int × Int)} {bl : Nat} {id : Int} (h : Sl E65 W a F) (cap : Nat) (hl : W.cell? ⟨bl, 0, none⟩ = some (.int .i64 id)) (hn : F.length ≤ 1000000) : Calls Tryz.prog 184 #[.slice a F.length cap, .func (.func 186) #[] #[.pointer (some ⟨bl, 0, none⟩)]] W fun e w' => ∃ i, e = .returned (.int .i64 i) ∧ ((i < 0 ∧ ∀ f ∈ F, f.1 ≠ id) ∨ ∃ (k : Nat) (f : Int × Int × Int), i = k ∧ F[k]? = some f ∧ f.1 = id ∧ ∀ j, j < k → ∀ g, F[j]? = some g → g.1 ≠ id) ∧ Bel W w' := by
  obtain ⟨g, off, hg, hR⟩ := h
  have HC : Hid (∀ (w : World) (f : Int × Int × Int) (c : Bool), Bel W w → (f.1 == id) = c → Calls Tryz.prog 186 #[.agg (encF f).toArray, .pointer (some ⟨bl, 0, none⟩)] w fun e w' => e = .returned (.bool c) ∧ Bel w w') := hide (fun w f c hb e => by rw [← e]; exact isf_g f (hb.cell hl))
  clear hl
  generalize hn2 : F.length = n at *
  have HN := hide hn2
  have HG := hide hg
  have HR := hide hR
  clear hn2 hg hR
  go_enter Tryz.func184, Tryz.ntmps184
  go_wp2_with fail
  go_loopw [8] (fun vk wr => ∃ (k : Nat), k ≤ n ∧ vk = .int .i64 k ∧ Hid (Bel W wr) ∧ Hid (∀ j, j < k → ∀ g, F[j]? = some g → g.1 ≠ id)) (fun vk _ => n - (intOf vk).toNat)
  case atStart => exact ⟨0, Nat.zero_le _, rfl, hide (Bel.refl _), hide (fun j h => absurd h (Nat.not_lt_zero _))⟩
  case round =>
    obtain ⟨k, hk, rfl, HB, HE⟩ := hrel
    by_cases hlt : k < n
    · have hkl : k < F.length := by rw [unhide HN]; exact hlt
      obtain rfl := (unhide HG) (by omega)
      have hkn : (k : Int) < n := by omega
      obtain ⟨r0, r1, r2⟩ := E65_cell (unhide HR) k hkl
      have r0 := (unhide HB).cell r0
      have r1 := (unhide HB).cell r1
      have r2 := (unhide HB).cell r2
      have HK : Hid (F[k]? = some F[k]) := hide (List.getElem?_eq_getElem hkl)
      have HC2 := hide ((unhide HC) wr F[k])
      unfold encF at HC2
      generalize F[k] = f at *
      cases hd : (f.1 == id) with
      | true =>
        have HC3 := hide ((unhide HC2) true (unhide HB) hd)
        have HF := hide (eq_of_beq hd)
        clear hd HC2
        go_wp2_with (first
          | (go_at_call 186; refine (unhide HC3).mono ?_; rintro e w3 ⟨rfl, hb3⟩; have HB3 := hide ((unhide HB).trans hb3); clear hb3))
        go_ret
        exact ⟨_, rfl, Or.inr ⟨k, f, rfl, unhide HK, unhide HF, unhide HE⟩, unhide HB3⟩
      | false =>
        have HC3 := hide ((unhide HC2) false (unhide HB) hd)
        have HF := hide (beq_eq_false_iff_ne.1 hd)
        clear hd HC2
        go_wp2_with (first
          | (go_at_call 186; refine (unhide HC3).mono ?_; rintro e w3 ⟨rfl, hb3⟩; have HB3 := hide ((unhide HB).trans hb3); clear hb3))
        go_roundw
        case rel => exact ⟨k + 1, by omega, by go_num, HB3, hide (fun j hj y hy => by
          by_cases e : j = k
          · subst e
            have := unhide HK
            rw [this] at hy
            obtain rfl := Option.some.inj hy
            exact unhide HF
          · exact (unhide HE) j (by omega) y hy)⟩
        case measure => simp [intOf]; omega
    · obtain rfl : k = n := by omega
      go_wp2_with fail
      go_ret
      exact ⟨_, rfl, Or.inl ⟨by decide, fun f hf => by
        obtain ⟨j, hj, e⟩ := List.getElem_of_mem hf
        exact (unhide HE) j (by have := unhide HN; omega) f (by rw [List.getElem?_eq_getElem hj, e])⟩, unhide HB⟩
set_option maxRecDepth 100000 in
theorem followAt_g {W : World} {s : GP} {x : Px} (h : Sl E65 W x.aF s.fol) (id : Int) (hn : s.fol.length ≤ 1000000) : Calls Tryz.prog 146 #[.agg (gc s x), .int .i64 id] W fun e w' => ∃ i, e = .returned (.int .i64 i) ∧ ((i < 0 ∧ ∀ f ∈ s.fol, f.1 ≠ id) ∨ ∃ (k : Nat) (f : Int × Int × Int), i = k ∧ s.fol[k]? = some f ∧ f.1 = id ∧ ∀ j, j < k → ∀ g, s.fol[j]? = some g → g.1 ≠ id) ∧ Bel W w' := by
  have HC : Hid (∀ (W' : World) (bl : Nat), Bel W W' → W'.cell? ⟨bl, 0, none⟩ = some (.int .i64 id) → Calls Tryz.prog 184 #[.slice x.aF s.fol.length x.cF, .func (.func 186) #[] #[.pointer (some ⟨bl, 0, none⟩)]] W' fun e w' => ∃ i, e = .returned (.int .i64 i) ∧ ((i < 0 ∧ ∀ f ∈ s.fol, f.1 ≠ id) ∨ ∃ (k : Nat) (f : Int × Int × Int), i = k ∧ s.fol[k]? = some f ∧ f.1 = id ∧ ∀ j, j < k → ∀ g, s.fol[j]? = some g → g.1 ≠ id) ∧ Bel W' w') := hide (fun W' bl hb hc => fidx_g (h.bel hb) x.cF hc hn)
  generalize hfn : s.fol.length = fn at *
  clear h
  go_enter Tryz.func146, Tryz.ntmps146
  go_wp2_with (first
    | (refine bx_box rfl 31 _ rfl (gc s x) rfl ?_; intro b w0 hr0 hs0 hb0; have y15 := ((Bel.refl w0).alloc (.cells #[.int .i64 id] 3)).cell (Bg.of hr0).c15; rw [hfn] at y15; have hcl : (w0.alloc (.cells #[.int .i64 id] 3)).cell? ⟨w0.heap.size, 0, none⟩ = some (.int .i64 id) := cell_of (at_new w0 _); have HCL := hide hcl; have HB0 := hide (hb0.alloc (.cells #[.int .i64 id] 3)); clear hr0 hs0 hb0 hcl)
    | (go_at_call 184; refine ((unhide HC) _ _ (unhide HB0) (unhide HCL)).mono ?_; rintro e w1 ⟨i, rfl, hi, hb1⟩; have HF := hide (And.intro hi ((unhide HB0).trans hb1)); clear hi hb1))
  go_ret
  exact ⟨_, rfl, (unhide HF).1, (unhide HF).2⟩
end Go.Proofs.YthekbhliokcpcaaGreat
