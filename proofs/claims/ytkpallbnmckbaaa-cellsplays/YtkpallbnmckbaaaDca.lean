/- The document's May, Same, Get. -/
import Derived.Test.YtkpallbnmckbaaaTrp
import Derived.Test.YtkpallbnmckbaaaApp
import Derived.Test.YtkpallbnmckbaaaTrc
namespace Go.Proofs.Ytkpallbnmckbaaa
open Go.RowKit
set_option maxRecDepth 100000 in
theorem dmay_any (x : C) (w : World) : Calls Try.prog 27 #[vC x] w fun e w' => e = .returned (.int .i64 (mayC x)) ∧ Bel w w' := by
  obtain ⟨k, t, d, v⟩ := x
  show Calls Try.prog 27 #[.agg #[.string k, .int .u64 t, .bool d, .string v]] w _
  have HB : Hid (Bel w (w.alloc (.cells #[.string k, .int .u64 t, .bool d, .string v] 38))) := hide ((Bel.refl w).alloc _)
  have HE : Hid (mayC (k, t, d, v) = if 8192 < k.size ∨ 65536 < v.size then 4 else if k.data.toList.isEmpty = true ∨ t = 0 ∨ (d = true ∧ v.data.toList.isEmpty = false) then 2 else 0) := hide rfl
  by_cases h1 : 8192 < k.size
  · have HE' : Hid (mayC (k, t, d, v) = 4) := hide (by rw [HE.out, if_pos (Or.inl h1)])
    have h1' : (8192 : Int) < (k.size : Int) := by omega
    go_enter Try.func27, Try.ntmps27
    go_wp2_with fail
    go_ret
    exact ⟨by rw [HE'.out]; rfl, HB.out⟩
  · by_cases h2 : 65536 < v.size
    · have HE' : Hid (mayC (k, t, d, v) = 4) := hide (by rw [HE.out, if_pos (Or.inr h2)])
      have h1' : ¬ (8192 : Int) < (k.size : Int) := by omega
      have h2' : (65536 : Int) < (v.size : Int) := by omega
      go_enter Try.func27, Try.ntmps27
      go_wp2_with fail
      go_ret
      exact ⟨by rw [HE'.out]; rfl, HB.out⟩
    · have HE1 : Hid (mayC (k, t, d, v) = if k.data.toList.isEmpty = true ∨ t = 0 ∨ (d = true ∧ v.data.toList.isEmpty = false) then 2 else 0) := hide (by rw [HE.out, if_neg (by omega)])
      have h1' : ¬ (8192 : Int) < (k.size : Int) := by omega
      have h2' : ¬ (65536 : Int) < (v.size : Int) := by omega
      clear HE h1 h2
      rcases hk : k.data.toList.isEmpty with _ | _
      · by_cases ht : t = 0
        · have HE' : Hid (mayC (k, t, d, v) = 2) := hide (by rw [HE1.out, if_pos (Or.inr (Or.inl ht))])
          subst ht
          have hk' : k.toList.isEmpty = false := by rw [Lib.toList_data]; exact hk
          go_enter Try.func27, Try.ntmps27
          go_wp2_with fail
          go_ret
          exact ⟨by rw [HE'.out]; rfl, HB.out⟩
        · have ht' : (t == 0) = false := by simpa using ht
          have hk' : k.toList.isEmpty = false := by rw [Lib.toList_data]; exact hk
          cases d with
          | false =>
            have HE' : Hid (mayC (k, t, false, v) = 0) := hide (by rw [HE1.out, if_neg (by simp [hk, ht])])
            clear hk ht
            go_enter Try.func27, Try.ntmps27
            go_wp2_with fail
            go_ret
            exact ⟨by rw [HE'.out]; rfl, HB.out⟩
          | true =>
            rcases hv : v.data.toList.isEmpty with _ | _
            · have HE' : Hid (mayC (k, t, true, v) = 2) := hide (by rw [HE1.out, if_pos (Or.inr (Or.inr ⟨rfl, hv⟩))])
              have hv' : v.toList.isEmpty = false := by rw [Lib.toList_data]; exact hv
              clear hk ht hv
              go_enter Try.func27, Try.ntmps27
              go_wp2_with fail
              go_ret
              exact ⟨by rw [HE'.out]; rfl, HB.out⟩
            · have HE' : Hid (mayC (k, t, true, v) = 0) := hide (by rw [HE1.out, if_neg (by simp [hk, ht, hv])])
              have hv' : v.toList.isEmpty = true := by rw [Lib.toList_data]; exact hv
              clear hk ht hv
              go_enter Try.func27, Try.ntmps27
              go_wp2_with fail
              go_ret
              exact ⟨by rw [HE'.out]; rfl, HB.out⟩
      · have HE' : Hid (mayC (k, t, d, v) = 2) := hide (by rw [HE1.out, if_pos (Or.inl hk)])
        have hk' : k.toList.isEmpty = true := by rw [Lib.toList_data]; exact hk
        clear hk
        go_enter Try.func27, Try.ntmps27
        go_wp2_with fail
        go_ret
        exact ⟨by rw [HE'.out]; rfl, HB.out⟩
/-- A value that is a row of cells, as it is read. -/
def RV (W : World) (v : Value) (L : List C) : Prop := ∃ a cap g off, v = .slice a L.length cap ∧ (L.length ≠ 0 → a = some ⟨g, off, none⟩) ∧ Row W g off L ∧ L.length ≤ cap
theorem RV.bel {W W' : World} {v : Value} {L : List C} (h : RV W v L) (hb : Bel W W') : RV W' v L := by
  obtain ⟨a, cap, g, off, h1, h2, h3, h4⟩ := h
  exact ⟨a, cap, g, off, h1, h2, h3.bel hb, h4⟩
theorem OR.rv {base : Nat} {W : World} {v : Value} {L : List C} (h : OR base W v L) : RV W v L := by
  rcases h.2 with ⟨rfl, h0⟩ | ⟨g, cap, cur, rfl, h1, h2, hn, h3⟩
  · exact ⟨none, 0, 0, 0, by rw [h0], fun e => absurd h0 e, fun j hj => by omega, by omega⟩
  · exact ⟨some ⟨g, 0, none⟩, cap, g, 0, rfl, fun _ => rfl, Row.own h, hn⟩
theorem RV.nil (W : World) : RV W (.slice none 0 0) [] := ⟨none, 0, 0, 0, rfl, fun e => absurd rfl e, fun j hj => by simp at hj, Nat.le_refl _⟩
set_option maxRecDepth 100000 in
set_option maxHeartbeats 2000000 in
theorem same_any {W : World} {v1 v2 : Value} {L : List C} (h1 : RV W v1 L) (h2 : RV W v2 L) (hl : L.length ≤ 900000) : Calls Try.prog 16 #[v1, v2] W fun e w' => e = .returned (.bool true) ∧ Bel W w' := by
  obtain ⟨a1, c1, g1, o1, rfl, ha1, hr1, _⟩ := h1
  obtain ⟨a2, c2, g2, o2, rfl, ha2, hr2, _⟩ := h2
  obtain ⟨N, hN⟩ : ∃ N, L.length = N := ⟨_, rfl⟩
  have HN := hide hN
  have HR1 := hide hr1
  have HR2 := hide hr2
  rw [hN] at ha1 ha2 hl ⊢
  have HA1 := hide ha1
  have HA2 := hide ha2
  clear hN hr1 hr2 ha1 ha2
  go_enter Try.func16, Try.ntmps16
  go_wp2_with fail
  go_loopw [5] (fun vi wr => ∃ k : Nat, k ≤ N ∧ vi = .int .i64 k ∧ Hid (Bel W wr)) (fun vi _ => N - (intOf vi).toNat)
  case atStart => exact ⟨0, Nat.zero_le _, rfl, Bel.refl _⟩
  case round =>
    obtain ⟨k, hk, rfl, HB⟩ := hrel
    by_cases hlt : k < N
    · have hkl : k < L.length := by rw [HN.out]; exact hlt
      obtain rfl := HA1.out (by omega)
      obtain rfl := HA2.out (by omega)
      have hki : (k : Int) < (N : Int) := by omega
      obtain ⟨x0, x1, x2, x3⟩ := ((unhide HR1).bel (unhide HB)) k hkl
      obtain ⟨y0, y1, y2, y3⟩ := ((unhide HR2).bel (unhide HB)) k hkl
      generalize L[k] = x at *
      obtain ⟨xk, xt, xd, xv⟩ := x
      simp only [C.k, C.t, C.d, C.v] at x0 x1 x2 x3 y0 y1 y2 y3
      go_wp2_with fail
      go_quiet (fail)
      go_wp2_with fail
      refine ⟨⟨k + 1, by omega, by go_num, (unhide HB).drewN _⟩, by simp [intOf]; omega⟩
    · have hki : ¬ (k : Int) < (N : Int) := by omega
      go_wp2_with fail
      go_ret
      exact ⟨rfl, unhide HB⟩
/-- The first of a key up to a time. -/
def fndP (l : List C) (key : ByteArray) (t : Int) : Option C := l.find? (fun y => decide (y.k = key) && decide (y.t ≤ t))
def dG (l : List C) (key : ByteArray) (t : Int) : Option C := match fndP l key t with
  | none => none
  | some y => if y.d = true then none else some y
end Go.Proofs.Ytkpallbnmckbaaa
