/- What Claims answers for one schema and one write that fits it. -/
import Derived.Test.YtgghcfmpfneehabDoorClaF
namespace Go.Proofs.YtgghcfmpfneehabDoor
open Go.RowKit Go.Sort Go.Maps
theorem eF_zero {p : ByteArray} {t : Int} {tm od rv : Bool} {u : Int} {q : ByteArray} {k : Int} {b : Bool} {n : Int} {s : ByteArray} {v : Int} (h : eF p t tm od rv u q k b n s v = 0) :
    eS p t tm od rv = 0 ∧ eT u q k b n s v = 0 ∧ q = p ∧ k = t := by
  unfold eF at h
  by_cases h1 : eS p t tm od rv = 0
  · by_cases h2 : eT u q k b n s v = 0
    · by_cases h3 : (q.toList == p.toList) = true
      · by_cases h4 : (k == t) = true
        · refine ⟨h1, h2, ?_, by simpa using h4⟩
          apply ba_ext
          have := (beq_iff_eq).1 h3
          rwa [ByteArray.toList_eq, ByteArray.toList_eq] at this
        · simp [fstE, h1, h2, eB, h3, h4] at h
      · simp [fstE, h1, h2, eB, h3] at h
    · simp [fstE, h1, h2] at h
  · simp [fstE, h1] at h
theorem one_of {zs : List (List UInt8)} {t : List UInt8} (hp : zs.Pairwise (fun x y => x < y)) (hm : ∀ x, x ∈ zs ↔ x ∈ [t]) : zs = [t] := by
  match zs, hp, hm with
  | [], _, hm => exact absurd ((hm t).2 (by simp)) (by simp)
  | [a], _, hm => rw [List.mem_singleton.1 ((hm a).1 (by simp))]
  | a :: b :: r, hp, hm =>
    have h1 := List.mem_singleton.1 ((hm a).1 (by simp))
    have h2 := List.mem_singleton.1 ((hm b).1 (by simp))
    have h3 := (List.pairwise_cons.1 hp).1 b (by simp)
    rw [h1, h2] at h3
    exact absurd h3 (List.lt_irrefl t)
theorem claims_one (g off cap g2 off2 cap2 : Nat) (p : ByteArray) (t : Int) (l x tm od rv ct : Bool) (d : Bool) (u : Nat) (hu : u < 2 ^ 64) (q : ByteArray) (k : Int) (b : Bool) (n : Int) (s : ByteArray) (v : Int) (hr : inR n v) (w : World) (hrow : Row8 w g off [(p, t, l, x, tm, od, rv, ct)]) (hg : g < w.heap.size) (hrow2 : RowW w g2 off2 [(d, u, q, k, b, n, s, v)]) (hF : eF p t tm od rv u q k b n s v = 0) :
    Calls Tryd.prog 6 #[.slice (some ⟨g, off, none⟩) 1 cap, .slice (some ⟨g2, off2, none⟩) 1 cap2] w fun e w' => ∃ g3 cap3, e = .returned (.tuple #[.slice (some ⟨g3, 0, none⟩) 1 cap3, .int .i64 1, .int .i64 0]) ∧ w'.cell? ⟨g3, 0, none⟩ = some (.string ⟨(clmS l u q k b n s v).toArray⟩) ∧ g3 < w'.heap.size ∧ Bel w w' := by
  obtain ⟨h1, h2, h3, h4⟩ := eF_zero hF
  have hcs : cS (p, t, l, x, tm, od, rv, ct) q = 0 := by
    unfold cS
    rw [cmpB_eq, h3]
  have hclm : ∀ y e, clmW [(p, t, l, x, tm, od, rv, ct)] (d, u, q, k, b, n, s, v) y e → e = 0 ∧ y = clmS l u q k b n s v := by
    intro y e h
    rcases h with ⟨h, _⟩ | ⟨_, i, f, hb, h⟩
    · exact absurd h2 h
    · obtain ⟨hi, hb1, hb2, hb3⟩ := hb
      have hi0 : i = 0 := by
        apply Decidable.byContradiction
        intro hne
        have := hb1 0 (by simp at hi; omega) (by simp)
        rw [show ([(p, t, l, x, tm, od, rv, ct)] : List Sm)[0] = (p, t, l, x, tm, od, rv, ct) from rfl, hcs] at this
        omega
      subst hi0
      have hf : f = true := hb3.2 ⟨by simp, hcs⟩
      rcases h with ⟨h, _⟩ | ⟨_, hi', ⟨h, _⟩ | ⟨_, h, he⟩⟩
      · rw [hf] at h; cases h
      · exact absurd hF h
      · exact ⟨he, h⟩
  refine (claims_any g off cap [(p, t, l, x, tm, od, rv, ct)] g2 off2 cap2 [(d, u, q, k, b, n, s, v)] w (by simp) hrow hg (by simp) hrow2 (fun y hy => by rw [List.mem_singleton.1 hy]; exact ⟨hu, hr⟩)).mono ?_
  rintro e w' ⟨r, at', er, rfl, hb, h⟩
  rcases h with ⟨h, _⟩ | ⟨_, h, _⟩ | ⟨_, _, _, he, ⟨hi, y, hy⟩, _⟩ | ⟨_, _, rfl, rfl, ks, hks, hcl, g3, cap3, zs, rfl, hp, hm, hrw⟩
  · exfalso
    rcases h with ⟨_, hi, hbad, _⟩ | ⟨h, _⟩
    · obtain rfl : at' = 0 := by simp at hi; omega
      rcases hbad with h | ⟨_, h⟩ | ⟨k, hk, _⟩
      · omega
      · exact h h1
      · omega
    · cases h
  · simp at h
  · obtain rfl : at' = 0 := by simp at hi; omega
    exact absurd (hclm y er hy).1 he
  · obtain ⟨y, rfl⟩ : ∃ y, ks = [y] := by
      match ks, hks with
      | [y], _ => exact ⟨y, rfl⟩
    have hy := (hclm y 0 (hcl 0 (by simp) (by simp))).2
    subst hy
    obtain rfl := one_of hp hm
    refine ⟨g3, cap3, rfl, ?_, (hrw.lt g3 rfl).2, hb⟩
    have := hrw.cellAt 0 (by simp)
    simpa [encStr] using this
end Go.Proofs.YtgghcfmpfneehabDoor
