/- The document's net in memory. -/
import Derived.Test.YtbcgikkdhfbphaaWai
import Derived.Test.YtbcgikkdhfbphaaCnt
namespace Go.Proofs.Ytbcgikkdhfbphaa
open Go.RowKit Go.Maps
/-- What lies in cell 0 of a column. -/
def z0 (t : TypeId) : Value := if t = 4 then .bool false else if t = 3 then .int .i64 0 else .int .u64 0
/-- A column: block g has the values of vs from cell 1 on, and its first one ahead of them. -/
def Cw (W : World) (g : Nat) (t : TypeId) (vs : List Value) : Prop := ∃ cur, W.heap[g]? = some (.cells cur t) ∧ (∀ j (h : j < vs.length), cur[j + 1]? = some vs[j]) ∧ cur[0]? = some (z0 t)
theorem Cw.at {W W' : World} {g : Nat} {t : TypeId} {vs : List Value} (h : Cw W g t vs) (e : W'.heap[g]? = W.heap[g]?) : Cw W' g t vs := by
  obtain ⟨cur, h1, h2⟩ := h
  exact ⟨cur, e.trans h1, h2⟩
theorem Cw.lt {W : World} {g : Nat} {t : TypeId} {vs : List Value} (h : Cw W g t vs) : g < W.heap.size := by
  obtain ⟨cur, h1, _⟩ := h
  exact lt_of_some h1
theorem Cw.cell {W : World} {g : Nat} {t : TypeId} {vs : List Value} (h : Cw W g t vs) {j : Nat} (hj : j < vs.length) : W.cell? ⟨g, j + 1, none⟩ = some vs[j] := by
  obtain ⟨cur, h1, h2⟩ := h
  rw [cell_of h1, h2.1 j hj]
theorem Cw.free {W : World} {g : Nat} {t : TypeId} {vs : List Value} (h : Cw W g t vs) (j : Nat) : W.frozen? ⟨g, j, none⟩ = false := by
  obtain ⟨cur, h1, _⟩ := h
  exact free_row h1
theorem Cw.set {W : World} {g : Nat} {t : TypeId} {vs : List Value} (h : Cw W g t vs) {j : Nat} (hj : j < vs.length) (v : Value) : Cw (W.setCell ⟨g, j + 1, none⟩ v) g t (vs.set j v) := by
  obtain ⟨cur, h1, h2⟩ := h
  refine ⟨_, row_set h1, fun i hi => ?_, by rw [Array.getElem?_setIfInBounds_ne (by omega)]; exact h2.2⟩
  have hi2 : i < vs.length := by rw [List.length_set] at hi; exact hi
  by_cases e : i = j
  · subst e
    have := h2.1 i hi2
    have hlt : i + 1 < cur.size := (Array.getElem?_eq_some_iff.1 this).1
    rw [List.getElem_set_self, Array.getElem?_setIfInBounds_self_of_lt hlt]
  · rw [List.getElem_set_ne (by omega), Array.getElem?_setIfInBounds_ne (by omega)]
    exact h2.1 i hi2
/-- The document's net: its cells and what they lead to. -/
structure Rc (W : World) (q : Nat) (vL : Value) (gS cS gT cT gX cX : Nat) (s : PN) (M : Nat → Prop) : Prop where
  row : W.heap[q]? = some (.cells #[.int .i64 s.ms.length, vL, .slice (some ⟨gS, 0, none⟩) (s.ms.length + 1) cS, .slice (some ⟨gT, 0, none⟩) (s.ms.length + 1) cT, .slice (some ⟨gX, 0, none⟩) (s.ms.length + 1) cX] 74)
  l : E46.O 0 W vL s.L
  cs : Cw W gS 4 (s.ms.map fun m => .bool m.2.2)
  ct : Cw W gT 3 (s.ms.map fun m => .int .i64 m.1)
  cx : Cw W gX 22 (s.ms.map fun m => .int .u64 m.2.1)
  mq : M q
  mS : M gS
  mT : M gT
  mX : M gX
  mL : ∀ k, vL.ownBlock = some k → M k
/-- The document's net. -/
structure Rf (W : World) (q : Nat) (s : PN) (M : Nat → Prop) : Prop where
  co : ∃ vL gS cS gT cT gX cX, Rc W q vL gS cS gT cT gX cX s M
  one : 1 ≤ s.ms.length
  few : s.ms.length ≤ 64
  may : ∀ x ∈ s.L, s.may x.1 ∧ s.may x.2.1
  len : s.L.length ≤ 16384
  ltM : ∀ i, M i → i < W.heap.size
theorem Rc.at {W W' : World} {q : Nat} {vL : Value} {gS cS gT cT gX cX : Nat} {s : PN} {M : Nat → Prop} (h : Rc W q vL gS cS gT cT gX cX s M) (hb : ∀ i, M i → W'.heap[i]? = W.heap[i]?) : Rc W' q vL gS cS gT cT gX cX s M :=
  ⟨(hb q h.mq).trans h.row, h.l.at (fun k hk => hb k (h.mL k hk)), h.cs.at (hb _ h.mS), h.ct.at (hb _ h.mT), h.cx.at (hb _ h.mX), h.mq, h.mS, h.mT, h.mX, h.mL⟩
section
variable {W W' : World} {q : Nat} {s s' : PN} {M K : Nat → Prop}
theorem Rf.at (h : Rf W q s M) (hs : W.heap.size ≤ W'.heap.size) (hb : ∀ i, M i → W'.heap[i]? = W.heap[i]?) : Rf W' q s M := by
  obtain ⟨vL, gS, cS, gT, cT, gX, cX, h1⟩ := h.co
  exact ⟨⟨vL, gS, cS, gT, cT, gX, cX, h1.at hb⟩, h.one, h.few, h.may, h.len, fun i hi => Nat.lt_of_lt_of_le (h.ltM i hi) hs⟩
theorem Rf.bel (h : Rf W q s M) (c : Bel W W') : Rf W' q s M := h.at c.size (fun i hi => c.block i (h.ltM i hi))
theorem Rf.ch (h : Rf W q s M) (c : Ch K W W') (hd : ∀ i, M i → K i → False) : Rf W' q s M := h.at c.size (fun i hi => c.block i (h.ltM i hi) (hd i hi))
/-- What a call upon the document's net leaves. -/
def Afr (W : World) (q : Nat) (M : Nat → Prop) (s' : PN) (W' : World) : Prop := ∃ M', Rf W' q s' M' ∧ (∀ i, M' i → M i ∨ W.heap.size ≤ i) ∧ Ch M W W'
theorem Rf.aft (h : Rf W q s M) (c : Bel W W') : Afr W q M s W' := ⟨M, h.bel c, fun _ hi => Or.inl hi, c.ch M⟩
theorem Afr.bel {W'' : World} (h : Afr W q M s W') (c : Bel W' W'') : Afr W q M s W'' := by
  obtain ⟨M', h1, h2, h3⟩ := h
  exact ⟨M', h1.bel c, h2, h3.bel c⟩
theorem Afr.from {W'' : World} (h : Afr W' q M s W'') (c : Bel W W') : Afr W q M s W'' := by
  obtain ⟨M', h1, h2, h3⟩ := h
  exact ⟨M', h1, fun i hi => or_to (h2 i hi) id (fun h => Nat.le_trans c.size h), (c.ch M).trans h3 (fun i hi => Or.inl hi)⟩
end
theorem Rf.n {W : World} {q : Nat} {s : PN} {M : Nat → Prop} (h : Rf W q s M) : W.cell? ⟨q, 0, none⟩ = some (.int .i64 s.ms.length) := by
  obtain ⟨vL, gS, cS, gT, cT, gX, cX, h1⟩ := h.co
  exact cell_of h1.row
/-- The list, opened. -/
theorem Rf.list {W : World} {q : Nat} {s : PN} {M : Nat → Prop} (h : Rf W q s M) : ∃ a g cap, W.cell? ⟨q, 1, none⟩ = some (.slice a s.L.length cap) ∧ (s.L.length ≠ 0 → a = some ⟨g, 0, none⟩) ∧ E46.R W g 0 s.L ∧ s.L.length ≤ cap := by
  obtain ⟨vL, gS, cS, gT, cT, gX, cX, h1⟩ := h.co
  obtain ⟨a, cap, g, rfl, h2, h3, h4⟩ := h1.l.shape
  exact ⟨a, g, cap, cell_of h1.row, h2, h3, h4⟩
set_option maxRecDepth 100000 in
theorem may_any {W : World} {q : Nat} {s : PN} {M : Nat → Prop} (h : Rf W q s M) (a : Int) : Calls Try.prog 51 #[.pointer (some ⟨q, 0, none⟩), .int .i64 a] W fun e w' => e = .returned (.bool (s.mayB a)) ∧ w' = W := by
  have c0 := h.n
  have hfew := h.few
  by_cases h1 : 1 ≤ a
  · by_cases h2 : a ≤ s.ms.length
    · have e : s.mayB a = true := by simp [PN.mayB, h1, h2]
      rw [e]
      clear h e
      generalize s.ms.length = n at *
      go_enter Try.func51, Try.ntmps51
      go_wp2_with fail
      go_ret
      exact ⟨rfl, rfl⟩
    · have e : s.mayB a = false := by simp [PN.mayB, h2]
      rw [e]
      clear h e
      generalize s.ms.length = n at *
      go_enter Try.func51, Try.ntmps51
      go_wp2_with fail
      go_ret
      exact ⟨rfl, rfl⟩
  · have e : s.mayB a = false := by simp [PN.mayB, h1]
    rw [e]
    clear h e
    go_enter Try.func51, Try.ntmps51
    go_wp2_with fail
    go_ret
    exact ⟨rfl, rfl⟩
/-- What find answers. -/
def fndI (L : List Pk) (a b : Int) (i : Nat) : Int := match fnd L a b i with | some k => k | none => -1
theorem fnd_drop {L : List Pk} {a b : Int} {k i : Nat} (hk : k < L.length) : fnd (L.drop k) a b i = if L[k].1 = a ∧ L[k].2.1 = b then (match i with | 0 => some 0 | i + 1 => (fnd (L.drop (k + 1)) a b i).map (· + 1)) else (fnd (L.drop (k + 1)) a b i).map (· + 1) := by
  rw [List.drop_eq_getElem_cons hk]
  rfl
set_option maxRecDepth 100000 in
set_option maxHeartbeats 1000000 in
theorem find_any {W : World} {q : Nat} {s : PN} {M : Nat → Prop} (h : Rf W q s M) (a b : Int) (i : Nat) (hi : i ≤ 9223372036854775807) : Calls Try.prog 53 #[.pointer (some ⟨q, 0, none⟩), .int .i64 a, .int .i64 b, .int .i64 i] W fun e w' => e = .returned (.int .i64 (fndI s.L a b i)) ∧ w' = W := by
  obtain ⟨ad, g, cap, c1, hg, hR, hcap⟩ := h.list
  have hlen := h.len
  clear h
  generalize s.L = L at *
  generalize hn : L.length = n at *
  have HN := hide hn
  have HG := hide hg
  have HR := hide hR
  clear hn hg hR
  go_enter Try.func53, Try.ntmps53
  go_wp2_with fail
  go_loopw [3, 9] (fun vi vk wr => ∃ k i' : Nat, k ≤ n ∧ vk = .int .i64 k ∧ vi = .int .i64 i' ∧ i' ≤ i ∧ wr = W ∧ Hid (fnd L a b i = (fnd (L.drop k) a b i').map (· + k))) (fun _ vk _ => n - (intOf vk).toNat)
  case atStart => exact ⟨0, i, Nat.zero_le _, rfl, rfl, Nat.le_refl _, rfl, hide (by simp)⟩
  case round =>
    obtain ⟨k, i', hk, rfl, rfl, hi', rfl, HE⟩ := hrel
    by_cases hlt : k < n
    · have hkl : k < L.length := by rw [unhide HN]; exact hlt
      obtain rfl := (unhide HG) (by omega)
      have hkn : (k : Int) < n := by omega
      have r0 : wr.cell? ⟨g, k * 3, none⟩ = some (.int .i64 L[k].1) := by have := (unhide HR) k hkl 0 _ rfl; simpa [E46] using this
      have r1 : wr.cell? ⟨g, k * 3 + 1, none⟩ = some (.int .i64 L[k].2.1) := by have := (unhide HR) k hkl 1 _ rfl; simpa [E46] using this
      have HD := hide (fnd_drop (L := L) (a := a) (b := b) (k := k) (i := i') hkl)
      generalize L[k].1 = x0 at *
      generalize L[k].2.1 = x1 at *
      by_cases hm : x0 = a ∧ x1 = b
      · obtain ⟨rfl, rfl⟩ := hm
        have hD := unhide HD
        rw [if_pos ⟨rfl, rfl⟩] at hD
        have HD2 := hide hD
        clear hD HD
        by_cases h0 : i' = 0
        · subst h0
          have HF : Hid (fndI L x0 x1 i = (k : Int)) := hide (by
            unfold fndI
            rw [unhide HE, unhide HD2]
            simp)
          go_wp2_with fail
          go_ret
          exact ⟨by rw [unhide HF]; rfl, rfl⟩
        · obtain ⟨i2, rfl⟩ : ∃ i2, i' = i2 + 1 := ⟨i' - 1, by omega⟩
          have hz : (((i2 + 1 : Nat) : Int) == 0) = false := by simp; omega
          have HF : Hid (fnd L x0 x1 i = (fnd (L.drop (k + 1)) x0 x1 i2).map (· + (k + 1))) := hide (by
            rw [unhide HE, unhide HD2]
            simp [Option.map_map, Function.comp_def]
            congr 1; funext z; omega)
          have hw : IntKind.i64.wrap (((i2 + 1 : Nat) : Int) - 1) = i2 := by rw [wrapI (by omega) (by omega)]; omega
          go_wp2_with fail
          go_roundw
          case rel => exact ⟨k + 1, i2, by omega, by go_num, by go_num, by omega, by trivial, HF⟩
          case measure => simp [intOf]; omega
      · have hD := unhide HD
        rw [if_neg hm] at hD
        have HF : Hid (fnd L a b i = (fnd (L.drop (k + 1)) a b i').map (· + (k + 1))) := hide (by
          rw [unhide HE, hD]
          simp [Option.map_map, Function.comp_def]
          congr 1; funext z; omega)
        clear hD HD
        by_cases hx : x0 = a
        · have hx0 : (x0 == a) = true := by simp [hx]
          have hx1 : (x1 == b) = false := by simp; exact fun e => hm ⟨hx, e⟩
          clear hm hx
          go_wp2_with fail
          go_roundw
          case rel => exact ⟨k + 1, i', by omega, by go_num, rfl, hi', by trivial, HF⟩
          case measure => simp [intOf]; omega
        · have hx0 : (x0 == a) = false := by simp [hx]
          clear hm hx
          go_wp2_with fail
          go_roundw
          case rel => exact ⟨k + 1, i', by omega, by go_num, rfl, hi', by trivial, HF⟩
          case measure => simp [intOf]; omega
    · obtain rfl : k = n := by omega
      have HF : Hid (fndI L a b i = -1) := hide (by
        unfold fndI
        rw [unhide HE, List.drop_of_length_le (by rw [unhide HN]; omega)]
        rfl)
      go_wp2_with fail
      go_ret
      exact ⟨by rw [unhide HF]; rfl, rfl⟩
theorem fndI_some {L : List Pk} {a b : Int} {i : Nat} (h : i < (qs L a b).length) : ∃ k : Nat, fndI L a b i = k ∧ ∃ hk : k < L.length, L[k] = (a, b, (qs L a b)[i]) ∧ rem L a b i = L.take k ++ L.drop (k + 1) := by
  obtain ⟨k, h1, h2⟩ := fnd_some L a b i h
  exact ⟨k, by unfold fndI; rw [h1], h2⟩
theorem fndI_none {L : List Pk} {a b : Int} {i : Nat} (h : (qs L a b).length ≤ i) : fndI L a b i = -1 := by unfold fndI; rw [fnd_none L a b i h]
set_option maxRecDepth 100000 in
theorem len_any {W : World} {q : Nat} {s : PN} {M : Nat → Prop} (h : Rf W q s M) (a b : Int) : Calls Try.prog 43 #[.pointer (some ⟨q, 0, none⟩), .int .i64 a, .int .i64 b] W fun e w' => e = .returned (.int .i64 (qs s.L a b).length) ∧ w' = W := by
  have HF := hide (fun i hi => find_any h a b i hi)
  have hl : (qs s.L a b).length ≤ 16384 := Nat.le_trans (qs_len _ _ _) h.len
  have HS : Hid (∀ i, i < (qs s.L a b).length → 0 ≤ fndI s.L a b i) := hide (fun i hi => by obtain ⟨k, e, _⟩ := fndI_some hi; rw [e]; omega)
  have HE : Hid (fndI s.L a b (qs s.L a b).length = -1) := hide (fndI_none (Nat.le_refl _))
  clear h
  generalize hn : (qs s.L a b).length = n at *
  clear hn
  go_enter Try.func43, Try.ntmps43
  go_wp2_with fail
  go_loopw [7] (fun vk wr => ∃ k : Nat, k ≤ n ∧ vk = .int .i64 k ∧ wr = W) (fun vk _ => n - (intOf vk).toNat)
  case atStart => exact ⟨0, Nat.zero_le _, rfl, rfl⟩
  case round =>
    obtain ⟨k, hk, rfl, rfl⟩ := hrel
    by_cases hlt : k < n
    · have hF := (unhide HF) k (by omega)
      have hge := (unhide HS) k hlt
      generalize fndI s.L a b k = x at hF hge
      have HF2 := hide hF
      clear hF
      go_wp2_with (first
        | (go_at_call 53; refine (unhide HF2).mono ?_; rintro e w9 ⟨rfl, hw9⟩; rw [hw9]; clear hw9))
      go_roundw
      case rel => exact ⟨k + 1, by omega, by go_num, by trivial⟩
      case measure => simp [intOf]; omega
    · obtain rfl : k = n := by omega
      have hF := (unhide HF) k (by omega)
      rw [unhide HE] at hF
      have HF2 := hide hF
      clear hF
      go_wp2_with (first
        | (go_at_call 53; refine (unhide HF2).mono ?_; rintro e w9 ⟨rfl, hw9⟩; rw [hw9]; clear hw9))
      go_ret
      exact ⟨rfl, rfl⟩
theorem qs_nil {s : PN} (hm : ∀ x ∈ s.L, s.may x.1 ∧ s.may x.2.1) {a b : Int} (h : ¬ (s.may a ∧ s.may b)) : qs s.L a b = [] := by
  cases hq : qs s.L a b with
  | nil => rfl
  | cons t l =>
    have h0 : 0 < (qs s.L a b).length := by rw [hq]; simp
    have := hm _ (qs_mem s.L a b 0 h0)
    exact absurd this h
/-- Of machines that are none no messages are under way. -/
theorem Rf.lenL {W : World} {q : Nat} {s : PN} {M : Nat → Prop} (h : Rf W q s M) (a b : Int) : ((qs s.L a b).length : Int) = s.lenL a b := by
  unfold PN.lenL
  split
  · rfl
  · rename_i hn
    rw [qs_nil h.may (fun h' => hn (mayBB.2 h'))]
    rfl
/-- What look answers. -/
def PN.lookR (s : PN) (a b i : Int) : Int × Int := if (s.peek a b i).2 = 0 then (fndI s.L a b i.toNat, 0) else (-1, (s.peek a b i).2)
theorem mayB_not {s : PN} {a : Int} (h : ¬ s.may a) : s.mayB a = false := by
  cases hb : s.mayB a with
  | false => rfl
  | true => exact absurd (mayB_iff.1 hb) h
set_option maxRecDepth 100000 in
set_option maxHeartbeats 2000000 in
theorem look_any {W : World} {q : Nat} {s : PN} {M : Nat → Prop} (h : Rf W q s M) (a b i : Int) (hi : i ≤ 9223372036854775807) : Calls Try.prog 52 #[.pointer (some ⟨q, 0, none⟩), .int .i64 a, .int .i64 b, .int .i64 i] W fun e w' => e = .returned (.tuple #[.int .i64 (s.lookR a b i).1, .int .i64 (s.lookR a b i).2]) ∧ w' = W := by
  have HM := hide (fun x => may_any h x)
  have HF := hide (fun i hi => find_any h a b i hi)
  by_cases hm : s.may a ∧ s.may b
  · have hma := mayB_iff.2 hm.1
    have hmb := mayB_iff.2 hm.2
    by_cases h0 : 0 ≤ i
    · obtain ⟨k, rfl⟩ : ∃ k : Nat, i = k := ⟨i.toNat, by omega⟩
      have hF := (unhide HF) k (by omega)
      by_cases hk : k < (qs s.L a b).length
      · have hp := peek_yes hm hk
        obtain ⟨j, hj, hj2⟩ := fndI_some hk
        have e : s.lookR a b k = ((j : Int), 0) := by unfold PN.lookR; rw [hp, if_pos rfl, Int.toNat_natCast, hj]
        rw [e]
        rw [hj] at hF
        have HF2 := hide hF
        clear hj2 hF h hp e hj hk hm
        go_enter Try.func52, Try.ntmps52
        go_wp2_with (first
          | (go_at_call 51; refine ((unhide HM) _).mono ?_; rintro e w9 ⟨rfl, hw9⟩; rw [hw9]; clear hw9)
          | (go_at_call 53; refine (unhide HF2).mono ?_; rintro e w9 ⟨rfl, hw9⟩; rw [hw9]; clear hw9))
        go_ret2
        exact ⟨rfl, rfl⟩
      · have hp := peek_none hm (i := (k : Int)) (by omega)
        have e : s.lookR a b k = (-1, 5) := by unfold PN.lookR; rw [hp, if_neg (by decide)]
        rw [e]
        rw [fndI_none (by omega)] at hF
        have HF2 := hide hF
        clear hF h hp e hk hm
        go_enter Try.func52, Try.ntmps52
        go_wp2_with (first
          | (go_at_call 51; refine ((unhide HM) _).mono ?_; rintro e w9 ⟨rfl, hw9⟩; rw [hw9]; clear hw9)
          | (go_at_call 53; refine (unhide HF2).mono ?_; rintro e w9 ⟨rfl, hw9⟩; rw [hw9]; clear hw9))
        go_ret2
        exact ⟨rfl, rfl⟩
    · have hp := peek_none hm (i := i) (by omega)
      have e : s.lookR a b i = (-1, 5) := by unfold PN.lookR; rw [hp, if_neg (by decide)]
      rw [e]
      clear h hp e hm
      go_enter Try.func52, Try.ntmps52
      go_wp2_with (first
        | (go_at_call 51; refine ((unhide HM) _).mono ?_; rintro e w9 ⟨rfl, hw9⟩; rw [hw9]; clear hw9))
      go_ret2
      exact ⟨rfl, rfl⟩
  · have hp := peek_arg i hm
    have e : s.lookR a b i = (-1, 2) := by unfold PN.lookR; rw [hp, if_neg (by decide)]
    rw [e]
    by_cases hma : s.may a
    · have hmb := mayB_not (s := s) (a := b) (fun hb => hm ⟨hma, hb⟩)
      have hma := mayB_iff.2 hma
      clear h hp e hm
      go_enter Try.func52, Try.ntmps52
      go_wp2_with (first
        | (go_at_call 51; refine ((unhide HM) _).mono ?_; rintro e w9 ⟨rfl, hw9⟩; rw [hw9]; clear hw9))
      go_ret2
      exact ⟨rfl, rfl⟩
    · have hma := mayB_not hma
      clear h hp e hm
      go_enter Try.func52, Try.ntmps52
      go_wp2_with (first
        | (go_at_call 51; refine ((unhide HM) _).mono ?_; rintro e w9 ⟨rfl, hw9⟩; rw [hw9]; clear hw9))
      go_ret2
      exact ⟨rfl, rfl⟩
end Go.Proofs.Ytbcgikkdhfbphaa
