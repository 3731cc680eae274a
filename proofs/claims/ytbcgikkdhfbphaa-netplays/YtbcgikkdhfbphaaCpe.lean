/- The document's Copy. -/
import Derived.Test.YtbcgikkdhfbphaaCpt
namespace Go.Proofs.Ytbcgikkdhfbphaa
open Go.RowKit Go.Maps
/-- A column as a row. -/
theorem Cw.R {α : Type} {E : El α} {W : World} {g : Nat} {t : TypeId} {xs : List α} {f : α → Value} (h : Cw W g t (xs.map f)) (hk : E.k = 1) (hf : ∀ x, E.enc x = [f x]) (x0 : α) (h0 : f x0 = z0 t) : E.R W g 0 (x0 :: xs) := by
  intro j hj c u hu
  obtain ⟨cur, h1, h2, h3⟩ := h
  rw [hf] at hu
  have hc : c = 0 := by have := (List.getElem?_eq_some_iff.1 hu).1; simpa using this
  subst hc
  simp only [List.getElem?_cons_zero, Option.some.injEq] at hu
  rw [hk, Nat.mul_one, Nat.zero_add, Nat.add_zero, cell_of h1, ← hu]
  cases j with
  | zero => rw [h3]; simp [h0]
  | succ j =>
    have hj2 : j < xs.length := by simpa using hj
    rw [h2 j (by simpa using hj2)]
    simp
/-- A row as a column. -/
theorem El.O.Cw {α : Type} {E : El α} {base : Nat} {W : World} {ad : Option Addr} {n cap : Nat} {xs : List α} {f : α → Value} {x0 : α} (h : E.O base W (.slice ad n cap) (x0 :: xs)) (hk : E.k = 1) (hf : ∀ x, E.enc x = [f x]) (h0 : f x0 = z0 E.e) : ∃ g, ad = some ⟨g, 0, none⟩ ∧ Cw W g E.e (xs.map f) ∧ base ≤ g ∧ g < W.heap.size := by
  obtain ⟨a', c', g', hv, h1, h2, h3⟩ := h.shape
  cases hv
  obtain rfl := h1 (by simp)
  have hlt := h.lt (k := g') rfl
  obtain ⟨cur, hc⟩ := h.block (k := g') rfl
  have hcell : ∀ j (hj : j < (x0 :: xs).length), cur[j]? = some (f (x0 :: xs)[j]) := fun j hj => by
    have := h2 j hj 0 (f (x0 :: xs)[j]) (by rw [hf]; rfl)
    rw [hk, Nat.mul_one, Nat.zero_add, Nat.add_zero, cell_of hc] at this
    exact this
  refine ⟨g', rfl, ⟨cur, hc, fun j hj => ?_, ?_⟩, hlt⟩
  · rw [hcell (j + 1) (by simpa using hj)]
    simp
  · rw [hcell 0 (by simp)]
    simp [h0]
open Cp13 in
theorem copy_fin2 {w W5 : World} {q : Nat} {s : PN} {K : Nat → Prop} {u : Value} (h : Rf w q s K) (hf : Cp13.Fn w s.ms.length s.L (false :: s.ms.map fun m => m.2.2) (0 :: s.ms.map fun m => m.1) (0 :: s.ms.map fun m => m.2.1) W5 u) : ∃ q', u = .pointer (some ⟨q', 0, none⟩) ∧ ∃ K', Rf W5 q' s K' ∧ ∀ i, K' i → w.heap.size ≤ i := by
  obtain ⟨b, a1, a2, a3, a4, c1, c2, c3, c4, rfl, hrow, hge, h1, h2, h3, h4⟩ := hf
  obtain ⟨g2, rfl, k2, m2⟩ := h2.Cw (f := Value.bool) rfl (fun _ => rfl) rfl
  obtain ⟨g3, rfl, k3, m3⟩ := h3.Cw (f := fun x => Value.int .i64 x) rfl (fun _ => rfl) rfl
  obtain ⟨g4, rfl, k4, m4⟩ := h4.Cw (f := fun x => Value.int .u64 x) rfl (fun _ => rfl) rfl
  rw [List.map_map] at k2 k3 k4
  have hrow' : W5.heap[b]? = some (.cells #[.int .i64 s.ms.length, .slice a1 s.L.length c1, .slice (some ⟨g2, 0, none⟩) (s.ms.length + 1) c2, .slice (some ⟨g3, 0, none⟩) (s.ms.length + 1) c3, .slice (some ⟨g4, 0, none⟩) (s.ms.length + 1) c4] 74) := by simpa [cs13] using hrow
  exact ⟨b, rfl, fun i => w.heap.size ≤ i ∧ i < W5.heap.size, ⟨⟨_, g2, c2, g3, c3, g4, c4, ⟨hrow', h1.mono (Nat.zero_le _), k2, k3, k4, ⟨hge, lt_of_some hrow'⟩, m2, m3, m4, fun k hk => h1.lt hk⟩⟩, h.one, h.few, h.may, h.len, fun i hi => hi.2⟩, fun i hi => hi.1⟩
theorem copyD : CopyD := by
  intro w q s K h
  obtain ⟨vL, gS, cS, gT, cT, gX, cX, hc⟩ := h.co
  obtain ⟨aL, cL, gL, rfl, hL1, hL2, _⟩ := hc.l.shape
  have hRS := hc.cs
  have hRT := hc.ct
  have hRX := hc.cx
  have e1 : (s.ms.map fun m => Value.bool m.2.2) = (s.ms.map fun m => m.2.2).map Value.bool := by rw [List.map_map]; rfl
  have e2 : (s.ms.map fun m => Value.int .i64 m.1) = (s.ms.map fun m => m.1).map (fun x => Value.int .i64 x) := by rw [List.map_map]; rfl
  have e3 : (s.ms.map fun m => Value.int .u64 m.2.1) = (s.ms.map fun m => m.2.1).map (fun x => Value.int .u64 x) := by rw [List.map_map]; rfl
  rw [e1] at hRS
  rw [e2] at hRT
  rw [e3] at hRX
  have h1 := hRS.R (E := E4) rfl (fun _ => rfl) false rfl
  have h2 := hRT.R (E := E3) rfl (fun _ => rfl) 0 rfl
  have h3 := hRX.R (E := E22) rfl (fun _ => rfl) 0 rfl
  have hfew := h.few
  have hlen := h.len
  refine (Cp13.copy13 (q := q) (nN := s.ms.length) (L1 := s.L) (L2 := false :: s.ms.map fun m => m.2.2) (L3 := 0 :: s.ms.map fun m => m.1) (L4 := 0 :: s.ms.map fun m => m.2.1) hc.row rfl hL1 hL2 (by omega) (by simp; rfl) (fun _ => rfl) h1 (by simp; omega) (by simp; rfl) (fun _ => rfl) h2 (by simp; omega) (by simp; rfl) (fun _ => rfl) h3 (by simp; omega)).mono ?_
  rintro e w' ⟨u, rfl, hf, hb⟩
  obtain ⟨q', rfl, K', r1, r2⟩ := copy_fin2 h hf
  exact ⟨q', rfl, K', r1, r2, hb⟩
end Go.Proofs.Ytbcgikkdhfbphaa
