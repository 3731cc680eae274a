/- with, for every tree; Put. -/
import Derived.Test.YtkpallbnmckbaaaWit
namespace Go.Proofs.Ytkpallbnmckbaaa
open Go.RowKit
attribute [local go_sem ↓] Go.wp_at_zero Go.wp_at_succ
theorem with_nil (c : C) (w : World) : Calls Try.prog 26 #[.pointer none, vC c] w fun e w' => ∃ b, e = .returned (.pointer (some ⟨b, 0, none⟩)) ∧ Bel w w' ∧ TV w' (.pointer (some ⟨b, 0, none⟩)) [c] := by
  obtain ⟨k, t, d, v⟩ := c
  show Calls Try.prog 26 #[.pointer none, .agg #[.string k, .int .u64 t, .bool d, .string v]] w _
  have J := hide (fun W => joined_tv (w := W) k t d v (Tree.zero W).tv (Tree.zero W).tv (by simp))
  rw [pt_none] at J
  have HB := hide (((Bel.refl w).alloc (.cells #[.string k, .int .u64 t, .bool d, .string v] 38)))
  go_enter Try.func26, Try.ntmps26
  go_wp2_with (go_at_call 41; refine (J.out _).mono ?_; rintro e w1 ⟨b, rfl, hb, ht⟩)
  go_ret
  exact ⟨b, rfl, HB.out.trans hb, ht⟩
theorem with_upto (m : Nat) : ∀ (w : World) (v : Option Nat) (l : List C) (c : C), l.length ≤ m → l.length ≤ 80000 → Tree w v l → Srt l → Calls Try.prog 26 #[pt v, vC c] w fun e w' => ∃ b, e = .returned (.pointer (some ⟨b, 0, none⟩)) ∧ Bel w w' ∧ TV w' (.pointer (some ⟨b, 0, none⟩)) (ins c l) := by
  induction m with
  | zero =>
    intro w v l c hm hl ht hs
    obtain rfl : l = [] := List.length_eq_zero_iff.1 (by omega)
    cases v with
    | none => exact with_nil c w
    | some b =>
      obtain ⟨_, _, l1, x, l2, _, e, _⟩ := ht.one
      exact absurd e.symm (by simp)
  | succ m ih =>
    intro w v l c hm hl ht hs
    cases v with
    | none =>
      have := ht.nil
      subst this
      exact with_nil c w
    | some b =>
      obtain ⟨lv, rv, l1, x, l2, hn, rfl, h1, h2⟩ := ht.one
      obtain ⟨s1, s2, _, _⟩ := hs.parts
      have hlen : l1.length + l2.length + 1 = (l1 ++ x :: l2).length := by simp; omega
      rcases cmpC_one c x with hc | hc | hc
      · have := with_left c x hn h1 h2 (by omega) hc (fun W' ⟨o, e, hT⟩ => by rw [e]; exact ih W' o l1 c (by omega) (by omega) hT s1)
        rw [ins_left (by omega)]
        exact this
      · have := with_same c x hn h1 h2 (by omega) hc
        rw [ins_same hs (cmpC_cm.zero hc)]
        exact this
      · have := with_right c x hn h1 h2 (by omega) hc (fun W' ⟨o, e, hT⟩ => by rw [e]; exact ih W' o l2 c (by omega) (by omega) hT s2)
        rw [ins_right hs ((cmpC_cm.anti x c).2 (by omega))]
        exact this
theorem with_any {w : World} {v : Option Nat} {l : List C} (c : C) (hl : l.length ≤ 80000) (ht : Tree w v l) (hs : Srt l) : Calls Try.prog 26 #[pt v, vC c] w fun e w' => ∃ b, e = .returned (.pointer (some ⟨b, 0, none⟩)) ∧ Bel w w' ∧ TV w' (.pointer (some ⟨b, 0, none⟩)) (ins c l) := with_upto l.length w v l c (Nat.le_refl _) hl ht hs
/-- Cells in memory: block p, what they are. -/
structure Cs (w : World) (p : Nat) (l : List C) : Prop where
  see : ∃ v, Cl w p v ∧ Tree w v l
  srt : Srt l
theorem Cs.bel {w w' : World} {p : Nat} {l : List C} (h : Cs w p l) (hb : Bel w w') : Cs w' p l := by
  obtain ⟨⟨v, h1, h2⟩, h3⟩ := h
  exact ⟨⟨v, hb.row h1, h2.bel hb⟩, h3⟩
/-- A row of cells as it is read: L in the block g, from off on; nothing is asked where there is none. -/
def Row (w : World) (g off : Nat) (L : List C) : Prop := ∀ j (h : j < L.length), w.cell? ⟨g, off + j * 4, none⟩ = some (.string L[j].k) ∧ w.cell? ⟨g, off + j * 4 + 1, none⟩ = some (.int .u64 L[j].t) ∧ w.cell? ⟨g, off + j * 4 + 2, none⟩ = some (.bool L[j].d) ∧ w.cell? ⟨g, off + j * 4 + 3, none⟩ = some (.string L[j].v)
theorem Row.lt {w : World} {g off : Nat} {L : List C} (h : Row w g off L) (h0 : L.length ≠ 0) : g < w.heap.size := lt_cell (h 0 (by omega)).1
theorem Row.at {w w' : World} {g off : Nat} {L : List C} (h : Row w g off L) (hk : w'.heap[g]? = w.heap[g]?) : Row w' g off L := by
  intro j hj
  have e : ∀ i, w'.cell? ⟨g, i, none⟩ = w.cell? ⟨g, i, none⟩ := fun i => World.cell?_of_block hk
  obtain ⟨h1, h2, h3, h4⟩ := h j hj
  exact ⟨(e _).trans h1, (e _).trans h2, (e _).trans h3, (e _).trans h4⟩
theorem Row.bel {w w' : World} {g off : Nat} {L : List C} (h : Row w g off L) (hb : Bel w w') : Row w' g off L := by
  intro j hj
  obtain ⟨h1, h2, h3, h4⟩ := h j hj
  exact ⟨hb.cell h1, hb.cell h2, hb.cell h3, hb.cell h4⟩
/-- How many of these may be, ahead of the first that may not. -/
def bad : List C → Option (Nat × Int)
  | [] => none
  | x :: r => if mayC x = 0 then (bad r).map (fun y => (y.1 + 1, y.2)) else some (0, mayC x)
/-- What Put leaves, and what it answers. -/
def puts (l L : List C) : List C := L.foldl (fun a c => ins c a) l
theorem bad_none {L : List C} : bad L = none ↔ ∀ x ∈ L, mayC x = 0 := by
  induction L with
  | nil => simp [bad]
  | cons x r ih =>
    unfold bad
    split
    · rename_i h
      rw [Option.map_eq_none_iff, ih]
      simp [h]
    · rename_i h
      simp [h]
theorem bad_at {L : List C} (j : Nat) (hj : j < L.length) (h : ∀ i (hi : i < j), mayC (L[i]'(by omega)) = 0) (hb : mayC L[j] ≠ 0) : bad L = some (j, mayC L[j]) := by
  induction L generalizing j with
  | nil => simp at hj
  | cons x r ih =>
    cases j with
    | zero => simp at hb; simp [bad, hb]
    | succ j =>
      have h0 := h 0 (by omega)
      simp at h0
      have := ih j (by simpa using hj) (fun i hi => by have := h (i + 1) (by omega); simpa using this) (by simpa using hb)
      simp [bad, h0, this]
theorem take_one {α : Type} (l : List α) (k : Nat) (h : k < l.length) : l.take (k + 1) = l.take k ++ [l[k]] := by
  rw [List.take_succ_eq_append_getElem h]
theorem puts_one (l L : List C) (k : Nat) (h : k < L.length) : puts l (L.take (k + 1)) = ins L[k] (puts l (L.take k)) := by
  unfold puts; rw [take_one L k h, List.foldl_append]; rfl
theorem puts_len (l L : List C) : (puts l L).length ≤ l.length + L.length := by
  induction L generalizing l with
  | nil => simp [puts]
  | cons x r ih => have := ih (ins x l); have := ins_len x l; simp [puts] at *; omega
theorem puts_srt {l : List C} (h : Srt l) (L : List C) : Srt (puts l L) := by
  induction L generalizing l with
  | nil => exact h
  | cons x r ih => exact ih (h.ins x)
/-- The answer of Put. -/
def putA (L : List C) : Int × Int := match bad L with | none => ((L.length : Int), 0) | some (i, e) => ((i : Int), e)
def putL (l L : List C) : List C := match bad L with | none => puts l L | some _ => l
theorem Cl.off {w : World} {p : Nat} {v : Option Nat} (h : Cl w p v) {g off : Nat} {L : List C} (hr : Row w g off L) (h0 : L.length ≠ 0) : g ≠ p := by
  rintro rfl
  have h1 := (hr 0 (by omega)).1
  rw [cell_of h] at h1
  rcases off with _ | _ | off
  · simp at h1
  · simp [pt] at h1
  · simp at h1
theorem Cs.store {w : World} {p b : Nat} {v : Option Nat} {l : List C} (hc : Cl w p v) (ht : TV w (.pointer (some ⟨b, 0, none⟩)) l) (hs : Srt l) : Cs (w.setCell ⟨p, 1, none⟩ (.pointer (some ⟨b, 0, none⟩))) p l := by
  obtain ⟨o, e, ht⟩ := ht
  rw [e]
  refine ⟨⟨o, ?_, ht.at (fun k c hk => ?_)⟩, hs⟩
  · have := row_set (p := 1) (v := pt o) hc
    exact this
  · rw [Below.heap_setCell _ _ _ _ (fun e => ?_)]
    · exact hk
    · have e' : k = p := e
      subst e'
      rw [hc] at hk
      cases hk
theorem keepP {W W' : World} {p B : Nat} {pv : Value} {x : C} (h : W.heap[p]? = some (.cells #[.bool true, pv] 57) ∧ N4 W B x) (hb : Bel W W') : (W'.cell? ⟨p, 1, none⟩ = some pv ∧ W'.frozen? ⟨p, 1, none⟩ = false) ∧ N4 W' B x ∧ Bel W W' :=
  ⟨⟨cell_of (hb.row h.1), free_row (hb.row h.1)⟩, h.2.bel hb, hb⟩
theorem put_nil (v : Value) (w : World) : Calls Try.prog 9 #[.pointer none, v] w fun e w' => e = .returned (.tuple #[.int .i64 0, .int .i64 1]) ∧ w' = w := by
  go_enter Try.func9, Try.ntmps9
  go_wp2_with (go_at_call 24; refine (gone_nil _).mono ?_; rintro e w1 ⟨rfl, rfl⟩)
  go_ret2
  exact ⟨rfl, rfl⟩
set_option maxRecDepth 100000 in
set_option maxHeartbeats 4000000 in
theorem put_any {w : World} {p : Nat} {l L : List C} {a : Option Addr} {cap g off : Nat} (h : Cs w p l) (hr : Row w g off L) (ha : L.length ≠ 0 → a = some ⟨g, off, none⟩) (hl : l.length + L.length ≤ 80000) :
    Calls Try.prog 9 #[.pointer (some ⟨p, 0, none⟩), .slice a L.length cap] w fun e w' => e = .returned (.tuple #[.int .i64 (putA L).1, .int .i64 (putA L).2]) ∧ Cs w' p (putL l L) ∧ Ch (fun i => i = p) w w' := by
  obtain ⟨v, hc, ht⟩ := h.see
  have hfu := Try.follows
  have h24 := hide (gone_any hc)
  have H := hide h
  have HR := hide hr
  have HA := hide ha
  have HO := hide (fun h0 => hc.off hr h0)
  obtain ⟨N, hN⟩ : ∃ N, L.length = N := ⟨_, rfl⟩
  have HN := hide hN
  have HL := hide hl
  rw [hN]
  have hN2 : N ≤ 80000 := by omega
  clear h hr ha hc ht hN hl
  go_enter Try.func9, Try.ntmps9
  go_wp2_with (go_at_call 24; refine (unhide h24).mono ?_; rintro e w1 ⟨rfl, rfl⟩)
  obtain ⟨WW, hWW⟩ : ∃ z, z = w1 := ⟨_, rfl⟩
  subst hWW
  go_loopw [6, 7, 8, 15] (fun _ _ _ vi wr => ∃ k : Nat, k ≤ N ∧ vi = .int .i64 k ∧ Hid (Bel WW wr ∧ ∀ i, i < k → ∀ h : i < L.length, mayC L[i] = 0)) (fun _ _ _ vi _ => N - (intOf vi).toNat)
  case atStart => exact ⟨0, Nat.zero_le _, rfl, Bel.refl _, fun i hi => absurd hi (Nat.not_lt_zero _)⟩
  case round =>
    obtain ⟨k, hk, rfl, HB⟩ := hrel
    by_cases hlt : k < N
    · have hkl : k < L.length := by rw [HN.out]; exact hlt
      obtain rfl := HA.out (by omega)
      obtain ⟨x0, x1, x2, x3⟩ := ((unhide HR).bel (unhide HB).1) k hkl
      have hki : (k : Int) < (N : Int) := by omega
      have C25 := hide (fun W => may_any L[k] W)
      unfold vC at C25
      by_cases hm : mayC L[k] = 0
      · rw [hm] at C25
        have HM := hide hm
        have HB2 : Hid (∀ W, Bel WW W → Bel WW W ∧ ∀ i, i < k + 1 → ∀ h : i < L.length, mayC L[i] = 0) := hide (fun W hW => ⟨hW, fun i hi h => by
          by_cases e : i = k
          · subst e; exact HM.out
          · exact HB.out.2 i (by omega) h⟩)
        generalize L[k].k = kk at *
        generalize L[k].t = kt at *
        generalize L[k].d = kd at *
        generalize L[k].v = kv at *
        clear hm
        go_wp2_with (go_at_call 25; refine (C25.out _).mono ?_; rintro e w2 ⟨rfl, hb2⟩)
        go_roundw
        case rel => exact ⟨k + 1, by omega, by go_num, HB2.out _ (((unhide HB).1.trans ((Bel.refl _).alloc _)).trans hb2)⟩
        case measure => simp [intOf]; omega
      · have HP : Hid (putA L = ((k : Int), mayC L[k]) ∧ putL l L = l) := hide (by
          have := bad_at k hkl (fun i hi => HB.out.2 i hi (by omega)) hm
          exact ⟨by unfold putA; rw [this], by unfold putL; rw [this]⟩)
        have hm' : (mayC L[k] != 0) = true := by simpa using hm
        generalize mayC L[k] = z at *
        generalize L[k].k = kk at *
        generalize L[k].t = kt at *
        generalize L[k].d = kd at *
        generalize L[k].v = kv at *
        clear hm
        go_wp2_with (go_at_call 25; refine (C25.out _).mono ?_; rintro e w2 ⟨rfl, hb2⟩)
        go_ret2
        rw [HP.out.1, HP.out.2]
        have hbb := (((unhide HB).1.trans ((Bel.refl _).alloc _)).trans hb2)
        exact ⟨rfl, (unhide H).bel hbb, hbb.ch _⟩
    · have hki : ¬ (k : Int) < (N : Int) := by omega
      have HP : Hid (putA L = ((N : Int), 0) ∧ putL l L = puts l L) := hide (by
        have : bad L = none := bad_none.2 (fun x hx => by
          obtain ⟨i, hi, rfl⟩ := List.mem_iff_getElem.1 hx
          exact HB.out.2 i (by have := HN.out; omega) hi)
        have hN := HN.out
        exact ⟨by unfold putA; rw [this]; simp [hN], by unfold putL; rw [this]⟩)
      have hbr := hide ((unhide HB).1)
      clear HB hlt
      go_wp2_with fail
      go_loopw [10, 29] (fun _ vi wq => ∃ k : Nat, k ≤ N ∧ vi = .int .i64 k ∧ Hid (Cs wq p (puts l (L.take k)) ∧ Ch (fun i => i = p) WW wq)) (fun _ vi _ => N - (intOf vi).toNat)
      case atStart => exact ⟨0, Nat.zero_le _, rfl, (unhide H).bel (unhide hbr), (unhide hbr).ch _⟩
      case round =>
        obtain ⟨k, hk, rfl, HB⟩ := hrel
        by_cases hlt : k < N
        · have hkl : k < L.length := by rw [HN.out]; exact hlt
          obtain rfl := HA.out (by omega)
          have hgp := (unhide HO) (by omega)
          obtain ⟨x0, x1, x2, x3⟩ := ((unhide HR).at ((unhide HB).2.block g ((unhide HR).lt (by omega)) hgp)) k hkl
          have hki : (k : Int) < (N : Int) := by omega
          obtain ⟨v, hcl, htr⟩ := (unhide HB).1.see
          have hlen := puts_len l (L.take k)
          have hl' : (puts l (L.take k)).length ≤ 80000 := by have := HL.out; simp at hlen; omega
          have J : Hid (∀ (W' : World), (W'.cell? ⟨p, 1, none⟩ = some (pt v) ∧ W'.frozen? ⟨p, 1, none⟩ = false) ∧ (W'.cell? ⟨wr.heap.size, 0, none⟩ = some (.string L[k].k) ∧ W'.cell? ⟨wr.heap.size, 1, none⟩ = some (.int .u64 L[k].t) ∧ W'.cell? ⟨wr.heap.size, 2, none⟩ = some (.bool L[k].d) ∧ W'.cell? ⟨wr.heap.size, 3, none⟩ = some (.string L[k].v)) ∧ Bel (wr.alloc (.cells #[.string L[k].k, .int .u64 L[k].t, .bool L[k].d, .string L[k].v] 38)) W' → Calls Try.prog 26 #[pt v, .agg #[.string L[k].k, .int .u64 L[k].t, .bool L[k].d, .string L[k].v]] W' fun e w' => ∃ b, e = .returned (.pointer (some ⟨b, 0, none⟩)) ∧ Bel W' w' ∧ TV w' (.pointer (some ⟨b, 0, none⟩)) (ins L[k] (puts l (L.take k)))) := hide (fun W' h => with_any L[k] hl' (htr.bel (((Bel.refl _).alloc _).trans h.2.2)) (unhide HB).1.srt)
          obtain ⟨W1, hW1⟩ : ∃ W1, W1 = (wr.alloc (.cells #[.string L[k].k, .int .u64 L[k].t, .bool L[k].d, .string L[k].v] 38)) := ⟨_, rfl⟩
          have hbq : Bel wr W1 := by rw [hW1]; exact (Bel.refl _).alloc _
          have hS := hide (And.intro (show W1.heap[p]? = some (.cells #[.bool true, pt v] 57) from hbq.row hcl) (show N4 W1 wr.heap.size L[k] by rw [hW1]; exact N4.of (at_new wr _)))
          have hfd := hide (puts_one l L k hkl)
          have hsr := hide ((unhide HB).1.srt.ins L[k])
          rw [← hW1] at J
          have HW1 := hide hW1
          have HBQ := hide hbq
          have HCL := hide hcl
          generalize pt v = pv at J hS
          have HFIN : Hid (∀ w2 b, Bel W1 w2 → TV w2 (.pointer (some ⟨b, 0, none⟩)) (ins L[k] (puts l (L.take k))) → Cs (w2.setCell ⟨p, 1, none⟩ (.pointer (some ⟨b, 0, none⟩))) p (puts l (L.take (k + 1))) ∧ Ch (fun i => i = p) WW (w2.setCell ⟨p, 1, none⟩ (.pointer (some ⟨b, 0, none⟩)))) := hide (fun w2 b hb2 ht2 => ⟨by rw [hfd.out]; exact Cs.store (show Cl w2 p v from hb2.row (hbq.row hcl)) ht2 hsr.out, (((unhide HB).2.bel hbq).bel hb2).set (Or.inl rfl) _⟩)
          generalize puts l (L.take k) = pl at *
          generalize L[k] = x at *
          obtain ⟨kk, kt, kd, kv⟩ := x
          simp only [C.k, C.t, C.d, C.v] at x0 x1 x2 x3 J HW1
          clear hcl htr hW1 hbq hl' hlen HB hfd
          go_wp2_with fail
          rw [← unhide HW1]
          have hc1 : W1.drew.cell? ⟨p, 1, none⟩ = some pv := cell_of (unhide hS).1
          obtain ⟨n0, n1, n2, n3⟩ : N4 W1.drew wr.heap.size (kk, kt, kd, kv) := (unhide hS).2
          have JJ : Hid (Calls Try.prog 26 #[pv, .agg #[.string kk, .int .u64 kt, .bool kd, .string kv]] W1.drew fun e w' => ∃ b, e = .returned (.pointer (some ⟨b, 0, none⟩)) ∧ Bel W1.drew w' ∧ TV w' (.pointer (some ⟨b, 0, none⟩)) (ins (kk, kt, kd, kv) pl)) := hide (J.out _ (keepP (unhide hS) (Bel.refl _).drew))
          go_region_with (go_at_call 26; refine (JJ.out).mono ?_; rintro e w2 ⟨b, rfl, hb2, ht2⟩; have hB2 := (Bel.refl W1).drew.trans hb2; have hc2 := (keepP (unhide hS) hB2).1.1; have hf2 := (keepP (unhide hS) hB2).1.2)
          all_goals
            go_wp2_with fail
            exact ⟨⟨k + 1, by omega, by go_num, HFIN.out _ _ hB2 ht2⟩, by simp [intOf]; omega⟩
        · have hki : ¬ (k : Int) < (N : Int) := by omega
          have hkn : Hid (k = N) := hide (by omega)
          go_wp2_with fail
          go_ret2
          rw [HP.out.1, HP.out.2]
          obtain ⟨z1, z2⟩ := unhide HB
          rw [unhide hkn, List.take_of_length_le (by rw [HN.out]; exact Nat.le_refl _)] at z1
          exact ⟨rfl, z1, z2⟩
end Go.Proofs.Ytkpallbnmckbaaa
