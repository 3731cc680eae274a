/- grown: the tree of a row of cells in order. -/
import Derived.Test.YtkpallbnmckbaaaApp
import Derived.Test.YtkpallbnmckbaaaWit
namespace Go.Proofs.Ytkpallbnmckbaaa
open Go.RowKit
attribute [local go_sem ↓] Go.wp_at_zero Go.wp_at_succ
theorem keepG {W W' : World} {g off m : Nat} {L : List C} {k : ByteArray} {t : Int} {d : Bool} {v : ByteArray} (h : Row W g off L) {hm : m < L.length} (hx : L[m] = (k, t, d, v)) (hb : Bel W W') : (W'.cell? ⟨g, off + m * 4, none⟩ = some (.string k) ∧ W'.cell? ⟨g, off + m * 4 + 1, none⟩ = some (.int .u64 t) ∧ W'.cell? ⟨g, off + m * 4 + 2, none⟩ = some (.bool d) ∧ W'.cell? ⟨g, off + m * 4 + 3, none⟩ = some (.string v)) ∧ Row W' g off L ∧ Bel W W' := by
  have h1 := h.bel hb
  have h2 := h1 m hm
  rw [hx] at h2
  exact ⟨h2, h1, hb⟩
theorem grown_none (a : Option Addr) (cap : Nat) (w : World) : Calls Try.prog 33 #[.slice a 0 cap] w fun e w' => ∃ q, e = .returned (.pointer q) ∧ Bel w w' ∧ TV w' (.pointer q) [] := by
  go_enter Try.func33, Try.ntmps33
  go_wp2_with fail
  go_ret
  exact ⟨_, rfl, Bel.refl _, (Tree.zero w).tv⟩
theorem OR.le {base : Nat} {W : World} {g n cap : Nat} {L : List C} (h : OR base W (.slice (some ⟨g, 0, none⟩) n cap) L) : n ≤ cap := by
  rcases h.2 with ⟨e, _⟩ | ⟨_, _, _, e, _, _, hn, _⟩
  · cases e
  · injection e with _ e2 e3
    rw [e2, e3]; exact hn
set_option maxRecDepth 100000 in
set_option maxHeartbeats 4000000 in
theorem grown_some {w : World} {g off n m m1 cap a2 : Nat} {L : List C} (x : C) (ha2 : (if cap = m1 then (some ⟨g, off, none⟩ : Option Addr) else some ⟨g, off + m1 * 4, none⟩) = some ⟨g, a2, none⟩) (hn : L.length = n) (hr : Row w g off L) (hm : n / 2 = m) (hm1 : m + 1 = m1) (h0 : 0 < n) (hcap : n ≤ cap) (hx : L[m]? = some x) (hl : n ≤ 90000)
    (ih1 : ∀ W', Row W' g off L → Calls Try.prog 33 #[.slice (some ⟨g, off, none⟩) m cap] W' fun e w' => ∃ q, e = .returned (.pointer q) ∧ Bel W' w' ∧ TV w' (.pointer q) (L.take m))
    (ih2 : ∀ W', Row W' g off L → Calls Try.prog 33 #[.slice (some ⟨g, a2, none⟩) (n - m1) (cap - m1)] W' fun e w' => ∃ q, e = .returned (.pointer q) ∧ Bel W' w' ∧ TV w' (.pointer q) (L.drop m1)) :
    Calls Try.prog 33 #[.slice (some ⟨g, off, none⟩) n cap] w fun e w' => ∃ q, e = .returned (.pointer q) ∧ Bel w w' ∧ TV w' (.pointer q) (L.take m ++ x :: L.drop m1) := by
  obtain ⟨k, t, d, v⟩ := x
  have hmi : ((n : Int) / 2) = (m : Int) := by omega
  have hq : (0 : Int) ≤ (m : Int) := by omega
  have hq1 : (m : Int) < (n : Int) := by omega
  have hq2 : (m : Int) ≤ (cap : Int) := by omega
  have hq3 : (m1 : Int) ≤ (n : Int) := by omega
  have hq4 : (n : Int) ≤ (cap : Int) := by omega
  have hq5 : (m1 : Int) ≤ (cap : Int) := by omega
  have hq6 : (0 : Int) ≤ (m1 : Int) := by omega
  have hw : IntKind.i64.wrap ((m : Int) + 1) = (m1 : Int) := by rw [wrapI (by omega) (by omega)]; omega
  have hne : ((n : Int) == 0) = false := by rw [beq_eq_false_iff_ne]; omega
  have hml : m < L.length := by omega
  have hxe : L[m] = (k, t, d, v) := by rw [List.getElem?_eq_getElem hml] at hx; exact Option.some.inj hx
  have HK : Hid (∀ W', Bel w W' → (W'.cell? ⟨g, off + m * 4, none⟩ = some (.string k) ∧ W'.cell? ⟨g, off + m * 4 + 1, none⟩ = some (.int .u64 t) ∧ W'.cell? ⟨g, off + m * 4 + 2, none⟩ = some (.bool d) ∧ W'.cell? ⟨g, off + m * 4 + 3, none⟩ = some (.string v)) ∧ Row W' g off L ∧ Bel w W') := hide (fun W' hb => keepG hr hxe hb)
  have I1 : Hid (∀ W', ((W'.cell? ⟨g, off + m * 4, none⟩ = some (.string k) ∧ W'.cell? ⟨g, off + m * 4 + 1, none⟩ = some (.int .u64 t) ∧ W'.cell? ⟨g, off + m * 4 + 2, none⟩ = some (.bool d) ∧ W'.cell? ⟨g, off + m * 4 + 3, none⟩ = some (.string v)) ∧ Row W' g off L ∧ Bel w W') → Calls Try.prog 33 #[.slice (some ⟨g, off, none⟩) m cap] W' fun e w' => ∃ q, e = .returned (.pointer q) ∧ Bel W' w' ∧ TV w' (.pointer q) (L.take m)) := hide (fun W' h => ih1 W' h.2.1)
  have I2 : Hid (∀ W', ((W'.cell? ⟨g, off + m * 4, none⟩ = some (.string k) ∧ W'.cell? ⟨g, off + m * 4 + 1, none⟩ = some (.int .u64 t) ∧ W'.cell? ⟨g, off + m * 4 + 2, none⟩ = some (.bool d) ∧ W'.cell? ⟨g, off + m * 4 + 3, none⟩ = some (.string v)) ∧ Row W' g off L ∧ Bel w W') → Calls Try.prog 33 #[.slice (some ⟨g, a2, none⟩) (n - m1) (cap - m1)] W' fun e w' => ∃ q, e = .returned (.pointer q) ∧ Bel W' w' ∧ TV w' (.pointer q) (L.drop m1)) := hide (fun W' h => ih2 W' h.2.1)
  have J : Hid (∀ W' p q, TV W' p (L.take m) → TV W' q (L.drop m1) → Calls Try.prog 41 #[p, .agg #[.string k, .int .u64 t, .bool d, .string v], q] W' fun e w' => ∃ b, e = .returned (.pointer (some ⟨b, 0, none⟩)) ∧ Bel W' w' ∧ TV w' (.pointer (some ⟨b, 0, none⟩)) (L.take m ++ (k, t, d, v) :: L.drop m1)) := hide (fun W' p q h1 h2 => joined_tv k t d v h1 h2 (by simp; omega))
  have g1 : m < n := by omega
  have g3 : m1 ≤ n := by omega
  clear hm hm1 hn hr hx hxe ih1 ih2 hml h0
  go_enter Try.func33, Try.ntmps33
  go_wp2_with fail
  go_region_held3 (fun W' => (W'.cell? ⟨g, off + m * 4, none⟩ = some (.string k) ∧ W'.cell? ⟨g, off + m * 4 + 1, none⟩ = some (.int .u64 t) ∧ W'.cell? ⟨g, off + m * 4 + 2, none⟩ = some (.bool d) ∧ W'.cell? ⟨g, off + m * 4 + 3, none⟩ = some (.string v)) ∧ Row W' g off L ∧ Bel w W') (first | exact HK.out _ hB3 | exact HK.out _ hB2 | exact HK.out _ hB1 | exact HK.out _ (Bel.refl _).drew) ((first
    | (go_at_call 33; with_reducible refine (I1.out _ (by assumption)).mono ?_; rintro e w1 ⟨p1, rfl, hb1, ht1⟩; first | (have hB1 := hB2.trans hb1; have ht2' := ht2.bel hb1) | have hB1 := (Bel.refl w).drew.trans hb1)
    | (go_at_call 33; with_reducible refine (I2.out _ (by assumption)).mono ?_; rintro e w2 ⟨p2, rfl, hb2, ht2⟩; first | (have hB2 := hB1.trans hb2; have ht1' := ht1.bel hb2) | have hB2 := (Bel.refl w).drew.trans hb2)
    | (go_at_call 41; refine (J.out _ _ _ (by first | exact ht1' | exact ht1) (by first | exact ht2' | exact ht2)).mono ?_; rintro e w3 ⟨b3, rfl, hb3, ht3⟩; first | have hB3 := hB2.trans hb3 | have hB3 := hB1.trans hb3)))
  all_goals
    go_wp2_with fail
    go_ret
    exact ⟨_, rfl, hB3, ht3⟩
theorem Row.take {w : World} {g off : Nat} {L : List C} (h : Row w g off L) (m : Nat) : Row w g off (L.take m) := by
  intro j hj
  have hj' : j < L.length := by simp at hj; omega
  have := h j hj'
  rw [List.getElem_take]
  exact this
theorem Row.drop {w : World} {g off : Nat} {L : List C} (h : Row w g off L) (m : Nat) : Row w g (off + m * 4) (L.drop m) := by
  intro j hj
  have hj' : m + j < L.length := by simp at hj; omega
  have := h (m + j) hj'
  rw [List.getElem_drop]
  rw [show off + m * 4 + j * 4 = off + (m + j) * 4 by omega]
  exact this
theorem grown_upto (N : Nat) : ∀ (L : List C) (w : World) (a : Option Addr) (g off cap : Nat), L.length ≤ N → L.length ≤ 90000 → Row w g off L → (L.length ≠ 0 → a = some ⟨g, off, none⟩) → L.length ≤ cap →
    Calls Try.prog 33 #[.slice a L.length cap] w fun e w' => ∃ q, e = .returned (.pointer q) ∧ Bel w w' ∧ TV w' (.pointer q) L := by
  induction N with
  | zero =>
    intro L w a g off cap hN _ _ _ _
    obtain rfl : L = [] := List.length_eq_zero_iff.1 (by omega)
    exact grown_none a cap w
  | succ N ih =>
    intro L w a g off cap hN hl hr ha hc
    by_cases h0 : L.length = 0
    · obtain rfl : L = [] := List.length_eq_zero_iff.1 h0
      exact grown_none a cap w
    · obtain rfl := ha h0
      have hm : L.length / 2 < L.length := by omega
      have key : ∀ a2, (if cap = L.length / 2 + 1 then (some ⟨g, off, none⟩ : Option Addr) else some ⟨g, off + (L.length / 2 + 1) * 4, none⟩) = some ⟨g, a2, none⟩ → (cap ≠ L.length / 2 + 1 → a2 = off + (L.length / 2 + 1) * 4) →
          Calls Try.prog 33 #[.slice (some ⟨g, off, none⟩) L.length cap] w fun e w' => ∃ q, e = .returned (.pointer q) ∧ Bel w w' ∧ TV w' (.pointer q) L := fun a2 h2 h3 => by
        have := grown_some (L[L.length / 2]) h2 rfl hr rfl rfl (by omega) hc (List.getElem?_eq_getElem hm) hl
          (fun W' hW => by
            have := ih (L.take (L.length / 2)) W' (some ⟨g, off, none⟩) g off cap (by simp; omega) (by simp; omega) (hW.take _) (fun _ => rfl) (by simp; omega)
            rw [List.length_take, Nat.min_eq_left (by omega)] at this
            exact this)
          (fun W' hW => by
            by_cases hce : cap = L.length / 2 + 1
            · have he : L.drop (L.length / 2 + 1) = [] := by simp; omega
              rw [he, show L.length - (L.length / 2 + 1) = 0 by omega]
              exact grown_none _ _ W'
            · have := ih (L.drop (L.length / 2 + 1)) W' (some ⟨g, a2, none⟩) g (off + (L.length / 2 + 1) * 4) (cap - (L.length / 2 + 1)) (by simp; omega) (by simp; omega) (hW.drop _) (fun _ => by rw [h3 hce]) (by simp; omega)
              rw [List.length_drop] at this
              exact this)
        have e : L.take (L.length / 2) ++ L[L.length / 2] :: L.drop (L.length / 2 + 1) = L := by
          rw [← List.drop_eq_getElem_cons hm, List.take_append_drop]
        rw [e] at this
        exact this
      by_cases hce : cap = L.length / 2 + 1
      · exact key off (by rw [if_pos hce]) (fun h => absurd hce h)
      · exact key _ (by rw [if_neg hce]) (fun _ => rfl)
theorem grown_any {L : List C} {w : World} {a : Option Addr} {g off cap : Nat} (hl : L.length ≤ 90000) (hr : Row w g off L) (ha : L.length ≠ 0 → a = some ⟨g, off, none⟩) (hc : L.length ≤ cap) :
    Calls Try.prog 33 #[.slice a L.length cap] w fun e w' => ∃ q, e = .returned (.pointer q) ∧ Bel w w' ∧ TV w' (.pointer q) L := grown_upto L.length L w a g off cap (Nat.le_refl _) hl hr ha hc
end Go.Proofs.Ytkpallbnmckbaaa
