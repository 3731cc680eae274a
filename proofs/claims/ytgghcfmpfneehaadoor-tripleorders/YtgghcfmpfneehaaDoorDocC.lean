/- What the document's Cmp of values returns. -/
import Derived.Test.YtgghcfmpfneehaaDoorOrdA
import Derived.Test.YtgghcfmpfneehaaDoorValQ
namespace Go.Proofs.YtgghcfmpfneehaaDoor
open Go.RowKit Go.Sort
def enc5 (x : V) : List Value := [.int .u8 x.k, .bool x.b, .int .i64 x.n, .string x.s, .int .u64 x.u]
theorem bytes_inj {a b : ByteArray} (h : a.toList = b.toList) : a = b := by
  rw [ByteArray.toList_eq, ByteArray.toList_eq] at h
  exact ByteArray.ext (Array.toList_inj.1 h)
set_option maxRecDepth 100000 in
theorem dcmp_kinds1 (k : Int) (b : Bool) (n : Int) (s : ByteArray) (u : Int) (k' : Int) (b' : Bool) (n' : Int) (s' : ByteArray) (u' : Int) (h : k < k') (w : World) :
    Calls Tryd.prog 41 #[ev k b n s u, ev k' b' n' s' u'] w fun e w' => e = .returned (.int .i64 (-1)) ∧ Bel w w' := by
  have h1 : ¬ k = k' := by omega
  have h2 := ne_beq h1
  unfold ev
  go_enter Tryd.func41, Tryd.ntmps41
  go_wp2_with fail
  go_ret
  exact ⟨rfl, ((Bel.refl _).alloc _).alloc _⟩
set_option maxRecDepth 100000 in
theorem dcmp_kinds2 (k : Int) (b : Bool) (n : Int) (s : ByteArray) (u : Int) (k' : Int) (b' : Bool) (n' : Int) (s' : ByteArray) (u' : Int) (h : k' < k) (w : World) :
    Calls Tryd.prog 41 #[ev k b n s u, ev k' b' n' s' u'] w fun e w' => e = .returned (.int .i64 1) ∧ Bel w w' := by
  have h1 : ¬ k = k' := by omega
  have h2 := ne_beq h1
  have h3 : ¬ k < k' := by omega
  unfold ev
  go_enter Tryd.func41, Tryd.ntmps41
  go_wp2_with fail
  go_ret
  exact ⟨rfl, ((Bel.refl _).alloc _).alloc _⟩
set_option maxRecDepth 100000 in
theorem dcmp_same (k : Int) (b : Bool) (n : Int) (s : ByteArray) (u : Int) (w : World) :
    Calls Tryd.prog 41 #[ev k b n s u, ev k b n s u] w fun e w' => e = .returned (.int .i64 0) ∧ Bel w w' := by
  unfold ev
  go_enter Tryd.func41, Tryd.ntmps41
  go_wp2_with fail
  go_ret
  exact ⟨rfl, ((Bel.refl _).alloc _).alloc _⟩
set_option maxRecDepth 100000 in
theorem dcmp_1a (w : World) : Calls Tryd.prog 41 #[ev 1 false 0 ⟨#[]⟩ 0, ev 1 true 0 ⟨#[]⟩ 0] w fun e w' => e = .returned (.int .i64 (-1)) ∧ Bel w w' := by
  unfold ev
  go_enter Tryd.func41, Tryd.ntmps41
  go_wp2_with fail
  go_ret
  exact ⟨rfl, ((Bel.refl _).alloc _).alloc _⟩
set_option maxRecDepth 100000 in
theorem dcmp_1b (w : World) : Calls Tryd.prog 41 #[ev 1 true 0 ⟨#[]⟩ 0, ev 1 false 0 ⟨#[]⟩ 0] w fun e w' => e = .returned (.int .i64 1) ∧ Bel w w' := by
  unfold ev
  go_enter Tryd.func41, Tryd.ntmps41
  go_wp2_with fail
  go_ret
  exact ⟨rfl, ((Bel.refl _).alloc _).alloc _⟩
set_option maxRecDepth 100000 in
theorem dcmp_2a (n n' : Int) (h : n < n') (w : World) : Calls Tryd.prog 41 #[ev 2 false n ⟨#[]⟩ 0, ev 2 false n' ⟨#[]⟩ 0] w fun e w' => e = .returned (.int .i64 (-1)) ∧ Bel w w' := by
  have h1 : ¬ n = n' := by omega
  unfold ev
  go_enter Tryd.func41, Tryd.ntmps41
  go_wp2_with fail
  go_ret
  exact ⟨rfl, ((Bel.refl _).alloc _).alloc _⟩
set_option maxRecDepth 100000 in
theorem dcmp_2b (n n' : Int) (h : n' < n) (w : World) : Calls Tryd.prog 41 #[ev 2 false n ⟨#[]⟩ 0, ev 2 false n' ⟨#[]⟩ 0] w fun e w' => e = .returned (.int .i64 1) ∧ Bel w w' := by
  have h1 : ¬ n = n' := by omega
  have h2 : ¬ n < n' := by omega
  unfold ev
  go_enter Tryd.func41, Tryd.ntmps41
  go_wp2_with fail
  go_ret
  exact ⟨rfl, ((Bel.refl _).alloc _).alloc _⟩
set_option maxRecDepth 100000 in
theorem dcmp_3a (s s' : ByteArray) (h1 : ¬ s.toList = s'.toList) (h : Op.bytesLess s.toList s'.toList = true) (w : World) : Calls Tryd.prog 41 #[ev 3 false 0 s 0, ev 3 false 0 s' 0] w fun e w' => e = .returned (.int .i64 (-1)) ∧ Bel w w' := by
  unfold ev
  go_enter Tryd.func41, Tryd.ntmps41
  go_wp2_with fail
  go_ret
  exact ⟨rfl, ((Bel.refl _).alloc _).alloc _⟩
set_option maxRecDepth 100000 in
theorem dcmp_3b (s s' : ByteArray) (h1 : ¬ s.toList = s'.toList) (h : Op.bytesLess s.toList s'.toList = false) (w : World) : Calls Tryd.prog 41 #[ev 3 false 0 s 0, ev 3 false 0 s' 0] w fun e w' => e = .returned (.int .i64 1) ∧ Bel w w' := by
  unfold ev
  go_enter Tryd.func41, Tryd.ntmps41
  go_wp2_with fail
  go_ret
  exact ⟨rfl, ((Bel.refl _).alloc _).alloc _⟩
set_option maxRecDepth 100000 in
theorem dcmp_4a (u u' : Int) (h : u < u') (w : World) : Calls Tryd.prog 41 #[ev 4 false 0 ⟨#[]⟩ u, ev 4 false 0 ⟨#[]⟩ u'] w fun e w' => e = .returned (.int .i64 (-1)) ∧ Bel w w' := by
  have h1 : ¬ u = u' := by omega
  unfold ev
  go_enter Tryd.func41, Tryd.ntmps41
  go_wp2_with fail
  go_ret
  exact ⟨rfl, ((Bel.refl _).alloc _).alloc _⟩
set_option maxRecDepth 100000 in
theorem dcmp_4b (u u' : Int) (h : u' < u) (w : World) : Calls Tryd.prog 41 #[ev 4 false 0 ⟨#[]⟩ u, ev 4 false 0 ⟨#[]⟩ u'] w fun e w' => e = .returned (.int .i64 1) ∧ Bel w w' := by
  have h1 : ¬ u = u' := by omega
  have h2 : ¬ u < u' := by omega
  unfold ev
  go_enter Tryd.func41, Tryd.ntmps41
  go_wp2_with fail
  go_ret
  exact ⟨rfl, ((Bel.refl _).alloc _).alloc _⟩
def mayx (x : V) : Prop := mayV x.k x.b x.n x.s x.u
theorem cmpI_m1 {a b : Int} (h : a < b) : cmpI a b = -1 := by unfold cmpI; rw [if_pos h]
theorem cmpI_1 {a b : Int} (h : b < a) : cmpI a b = 1 := by unfold cmpI; rw [if_neg (by omega), if_pos h]
theorem cmpB_sgn : ∀ (a b : List UInt8), Lib.compareBytes a b = -1 ∨ Lib.compareBytes a b = 0 ∨ Lib.compareBytes a b = 1
  | [], [] => by simp [Lib.compareBytes]
  | [], _ :: _ => by simp [Lib.compareBytes]
  | _ :: _, [] => by simp [Lib.compareBytes]
  | x :: a, y :: b => by
    have := cmpB_sgn a b
    unfold Lib.compareBytes
    repeat' split
    all_goals first | exact this | simp
theorem dcmp_kinds (x y : V) (h : x.k ≠ y.k) (w : World) : Calls Tryd.prog 41 #[.agg (enc5 x).toArray, .agg (enc5 y).toArray] w fun e w' => e = .returned (.int .i64 (vo x y)) ∧ Bel w w' := by
  have e : vo x y = cmpI x.k y.k := ord_kinds h _ _ _ _ _ _ _ _
  rw [e]
  by_cases hlt : x.k < y.k
  · rw [cmpI_m1 hlt]; exact dcmp_kinds1 _ _ _ _ _ _ _ _ _ _ hlt w
  · have hgt : y.k < x.k := by omega
    rw [cmpI_1 hgt]; exact dcmp_kinds2 _ _ _ _ _ _ _ _ _ _ hgt w
/-- What the document's Cmp returns; for every two values that may be. -/
theorem dcmp_any (x y : V) (hx : mayx x) (hy : mayx y) (w : World) : Calls Tryd.prog 41 #[.agg (enc5 x).toArray, .agg (enc5 y).toArray] w fun e w' => e = .returned (.int .i64 (vo x y)) ∧ Bel w w' := by
  by_cases hk : x.k = y.k
  · by_cases hxy : x = y
    · subst hxy
      rw [(vo_zero x x).2 rfl]
      exact dcmp_same _ _ _ _ _ w
    · obtain ⟨k, b, n, s, u⟩ := x
      obtain ⟨k', b', n', s', u'⟩ := y
      have hk' : k = k' := hk
      subst hk'
      have hx : mayV k b n s u := hx
      have hy : mayV k b' n' s' u' := hy
      rcases hx with ⟨rfl, rfl, rfl, rfl⟩ | ⟨rfl, rfl, rfl, rfl⟩ | ⟨rfl, rfl, rfl, rfl, h⟩ | ⟨rfl, rfl, rfl, rfl, h⟩
      · rcases hy with ⟨_, rfl, rfl, rfl⟩ | ⟨h', _⟩ | ⟨h', _⟩ | ⟨h', _⟩
        · have e : vo ⟨1, b, 0, ⟨#[]⟩, 0⟩ ⟨1, b', 0, ⟨#[]⟩, 0⟩ = cmpI ((bt b).toNat : Int) ((bt b').toNat : Int) := ord_1 b b'
          rw [e]
          cases b <;> cases b'
          · exact absurd rfl hxy
          · exact dcmp_1a w
          · exact dcmp_1b w
          · exact absurd rfl hxy
        · exact absurd h' (by decide)
        · exact absurd h' (by decide)
        · exact absurd h' (by decide)
      · rcases hy with ⟨h', _⟩ | ⟨_, rfl, rfl, rfl⟩ | ⟨h', _⟩ | ⟨h', _⟩
        · exact absurd h' (by decide)
        · have e : vo ⟨2, false, n, ⟨#[]⟩, 0⟩ ⟨2, false, n', ⟨#[]⟩, 0⟩ = cmpI n n' := ord_2 n n'
          rw [e]
          by_cases hlt : n < n'
          · rw [cmpI_m1 hlt]; exact dcmp_2a n n' hlt w
          · have hgt : n' < n := by
              have : n ≠ n' := fun e => hxy (by rw [e])
              omega
            rw [cmpI_1 hgt]; exact dcmp_2b n n' hgt w
        · exact absurd h' (by decide)
        · exact absurd h' (by decide)
      · rcases hy with ⟨h', _⟩ | ⟨h', _⟩ | ⟨_, rfl, rfl, rfl, _⟩ | ⟨h', _⟩
        · exact absurd h' (by decide)
        · exact absurd h' (by decide)
        · have e : vo ⟨3, false, 0, s, 0⟩ ⟨3, false, 0, s', 0⟩ = Lib.compareBytes s.data.toList s'.data.toList := ord_3 s s'
          rw [e]
          have h1 : ¬ s.toList = s'.toList := fun e => hxy (by rw [bytes_inj e])
          have h2 : Lib.compareBytes s.data.toList s'.data.toList ≠ 0 := fun e => h1 (by rw [ByteArray.toList_eq, ByteArray.toList_eq]; exact (cmpB_eq _ _).1 e)
          have h3 := cmpB_lt s.data.toList s'.data.toList
          rcases cmpB_sgn s.data.toList s'.data.toList with h4 | h4 | h4
          · rw [h4] at h3 ⊢
            exact dcmp_3a s s' h1 (by rw [ByteArray.toList_eq, ByteArray.toList_eq, ← h3]; rfl) w
          · exact absurd h4 h2
          · rw [h4] at h3 ⊢
            exact dcmp_3b s s' h1 (by rw [ByteArray.toList_eq, ByteArray.toList_eq, ← h3]; rfl) w
        · exact absurd h' (by decide)
      · rcases hy with ⟨h', _⟩ | ⟨h', _⟩ | ⟨h', _⟩ | ⟨_, rfl, rfl, rfl, _⟩
        · exact absurd h' (by decide)
        · exact absurd h' (by decide)
        · exact absurd h' (by decide)
        · have e : vo ⟨4, false, 0, ⟨#[]⟩, u⟩ ⟨4, false, 0, ⟨#[]⟩, u'⟩ = cmpI u u' := ord_4 u u'
          rw [e]
          by_cases hlt : u < u'
          · rw [cmpI_m1 hlt]; exact dcmp_4a u u' hlt w
          · have hgt : u' < u := by
              have : u ≠ u' := fun e => hxy (by rw [e])
              omega
            rw [cmpI_1 hgt]; exact dcmp_4b u u' hgt w
  · exact dcmp_kinds x y hk w
end Go.Proofs.YtgghcfmpfneehaaDoor
