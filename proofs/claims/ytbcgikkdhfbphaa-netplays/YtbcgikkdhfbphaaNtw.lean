/- A net of the program in memory, and what its small calls answer. -/
import Derived.Test.YtbcgikkdhfbphaaStr
import Derived.Laws.ResultCell
import Derived.Laws.Rows
namespace Go.Proofs.Ytbcgikkdhfbphaa
open Go.RowKit Go.Maps
/-- The machines' cells. -/
def MR (w : World) (bm : Nat) (ms : List Mc) : Prop := ∃ cur, w.heap[bm]? = some (.cells cur 67) ∧ ms.length * 3 ≤ cur.size ∧ ∀ j (h : j < ms.length), cur[j * 3]? = some (.int .i64 ms[j].1) ∧ cur[j * 3 + 1]? = some (.int .u64 ms[j].2.1) ∧ cur[j * 3 + 2]? = some (.bool ms[j].2.2)
theorem MR.at {w w' : World} {bm : Nat} {ms : List Mc} (h : MR w bm ms) (e : w'.heap[bm]? = w.heap[bm]?) : MR w' bm ms := by
  obtain ⟨cur, h1, h2⟩ := h
  exact ⟨cur, e.trans h1, h2⟩
theorem MR.lt {w : World} {bm : Nat} {ms : List Mc} (h : MR w bm ms) : bm < w.heap.size := by
  obtain ⟨cur, h1, _⟩ := h
  exact lt_of_some h1
theorem MR.cells {w : World} {bm : Nat} {ms : List Mc} (h : MR w bm ms) {j : Nat} (hj : j < ms.length) : w.cell? ⟨bm, j * 3, none⟩ = some (.int .i64 ms[j].1) ∧ w.cell? ⟨bm, j * 3 + 1, none⟩ = some (.int .u64 ms[j].2.1) ∧ w.cell? ⟨bm, j * 3 + 2, none⟩ = some (.bool ms[j].2.2) := by
  obtain ⟨cur, h1, _, h3⟩ := h
  rw [cell_of h1, cell_of h1, cell_of h1]
  exact h3 j hj
theorem MR.free {w : World} {bm : Nat} {ms : List Mc} (h : MR w bm ms) (j : Nat) : w.frozen? ⟨bm, j, none⟩ = false := by
  obtain ⟨cur, h1, _⟩ := h
  exact free_row h1
/-- What the links' map has at a link. -/
def LK (w : World) (M : Nat → Prop) (L : List Pk) (x : Int × Int) (v : Value) : Prop := ∃ g off cap, v = .slice (some ⟨g, off, none⟩) (qs L x.1 x.2).length cap ∧ SR w g off cap (qs L x.1 x.2) ∧ qs L x.1 x.2 ≠ [] ∧ M g
/-- A net's cells and what they lead to. -/
structure Cn (w : World) (p bm cm bl n : Nat) (f : Int × Int → Option Value) (s : PN) (M : Nat → Prop) : Prop where
  row : w.heap[p]? = some (.cells #[.slice (some ⟨bm, 0, none⟩) s.ms.length cm, .map (some bl), .int .i64 s.L.length] 70)
  le : s.ms.length ≤ cm
  mr : MR w bm s.ms
  mg : Mg 86 lk w bl n f
  no : ∀ x, f x = none → qs s.L x.1 x.2 = []
  yes : ∀ x v, f x = some v → LK w M s.L x v
  ap : ∀ x y v u g, f x = some v → f y = some u → v.ownBlock = some g → u.ownBlock = some g → x = y
  mp : M p
  mm : M bm
  ml : M bl
/-- A net of the program; M: the blocks that its calls may change. -/
structure Nt (C : Nat) (w : World) (p : Nat) (s : PN) (M : Nat → Prop) : Prop where
  co : ∃ bm cm bl n f, Cn w p bm cm bl n f s M ∧ n ≤ C
  ltM : ∀ i, M i → i < w.heap.size
  one : 1 ≤ s.ms.length
  few : s.ms.length ≤ 64
  may : ∀ x ∈ s.L, s.may x.1 ∧ s.may x.2.1
  len : s.L.length ≤ 16384
theorem Cn.at {w w' : World} {p bm cm bl n : Nat} {f : Int × Int → Option Value} {s : PN} {M : Nat → Prop} (h : Cn w p bm cm bl n f s M) (hb : ∀ i, M i → w'.heap[i]? = w.heap[i]?) : Cn w' p bm cm bl n f s M :=
  ⟨(hb p h.mp).trans h.row, h.le, h.mr.at (hb bm h.mm), h.mg.at (hb bl h.ml), h.no, fun x v hx => by obtain ⟨g, off, cap, h1, h2, h3, h4⟩ := h.yes x v hx; exact ⟨g, off, cap, h1, h2.at (hb g h4), h3, h4⟩, h.ap, h.mp, h.mm, h.ml⟩
theorem Nt.at {C : Nat} {w w' : World} {p : Nat} {s : PN} {M : Nat → Prop} (h : Nt C w p s M) (hs : w.heap.size ≤ w'.heap.size) (hb : ∀ i, M i → w'.heap[i]? = w.heap[i]?) : Nt C w' p s M := by
  obtain ⟨bm, cm, bl, n, f, h1, h2⟩ := h.co
  exact ⟨⟨bm, cm, bl, n, f, h1.at hb, h2⟩, fun i hi => Nat.lt_of_lt_of_le (h.ltM i hi) hs, h.one, h.few, h.may, h.len⟩
theorem Nt.bel {C : Nat} {w w' : World} {p : Nat} {s : PN} {M : Nat → Prop} (h : Nt C w p s M) (c : Bel w w') : Nt C w' p s M := h.at c.size (fun i hi => c.block i (h.ltM i hi))
theorem Nt.ch {C : Nat} {w w' : World} {p : Nat} {s : PN} {M K : Nat → Prop} (h : Nt C w p s M) (c : Ch K w w') (hd : ∀ i, M i → K i → False) : Nt C w' p s M := h.at c.size (fun i hi => c.block i (h.ltM i hi) (hd i hi))
theorem Nt.mono {C C' : Nat} {w : World} {p : Nat} {s : PN} {M : Nat → Prop} (h : Nt C w p s M) (hc : C ≤ C') : Nt C' w p s M := by
  obtain ⟨bm, cm, bl, n, f, h1, h2⟩ := h.co
  exact ⟨⟨bm, cm, bl, n, f, h1, Nat.le_trans h2 hc⟩, h.ltM, h.one, h.few, h.may, h.len⟩
/-- How a call leaves a net. -/
def Aft (C : Nat) (w : World) (p : Nat) (M : Nat → Prop) (s' : PN) (w' : World) : Prop := ∃ M', Nt C w' p s' M' ∧ (∀ i, M' i → M i ∨ w.heap.size ≤ i) ∧ Ch M w w'
theorem Nt.aft {C : Nat} {w w' : World} {p : Nat} {s : PN} {M : Nat → Prop} (h : Nt C w p s M) (c : Bel w w') : Aft C w p M s w' := ⟨M, h.bel c, fun _ hi => Or.inl hi, c.ch M⟩
theorem Aft.bel {C : Nat} {w w' w'' : World} {p : Nat} {s : PN} {M : Nat → Prop} (h : Aft C w p M s w') (c : Bel w' w'') : Aft C w p M s w'' := by
  obtain ⟨M', h1, h2, h4⟩ := h
  exact ⟨M', h1.bel c, h2, h4.bel c⟩
theorem Aft.from {C : Nat} {w w' w'' : World} {p : Nat} {s : PN} {M : Nat → Prop} (h : Aft C w' p M s w'') (c : Bel w w') : Aft C w p M s w'' := by
  obtain ⟨M', h1, h2, h4⟩ := h
  exact ⟨M', h1, fun i hi => (h2 i hi).elim Or.inl (fun h => Or.inr (Nat.le_trans c.size h)), (c.ch M).trans h4 (fun i hi => Or.inl hi)⟩
theorem Aft.mono {C C' : Nat} {w w' : World} {p : Nat} {s : PN} {M : Nat → Prop} (h : Aft C w p M s w') (hc : C ≤ C') : Aft C' w p M s w' := by
  obtain ⟨M', h1, h2⟩ := h
  exact ⟨M', h1.mono hc, h2⟩
theorem Aft.trans {C C' : Nat} {w w' w'' : World} {p : Nat} {s s' : PN} {M : Nat → Prop} (h : Aft C w p M s w') (k : ∀ M', Nt C w' p s M' → Aft C' w' p M' s' w'') : Aft C' w p M s' w'' := by
  obtain ⟨M', h1, h2, h3⟩ := h
  obtain ⟨M2, k1, k2, k3⟩ := k M' h1
  refine ⟨M2, k1, fun i hi => (k2 i hi).elim (fun h => h2 i h) (fun h => Or.inr (Nat.le_trans h3.size h)), h3.trans k3 h2⟩
/-- A slice of numbers. -/
def RI (w : World) (v : Value) (l : List Int) : Prop := ∃ a cap g off, v = .slice a l.length cap ∧ (l.length ≠ 0 → a = some ⟨g, off, none⟩) ∧ ∀ j (h : j < l.length), w.cell? ⟨g, off + j, none⟩ = some (.int .i64 l[j])
def PN.mayB (s : PN) (a : Int) : Bool := decide (1 ≤ a) && decide (a ≤ s.ms.length)
theorem mayB_iff {s : PN} {a : Int} : s.mayB a = true ↔ s.may a := by simp [PN.mayB, PN.may]
/-- What fault answers. -/
def flt (s : PN) (l : List Int) : Int := if l.all s.mayB then 0 else 2
theorem Nt.n0 {C : Nat} {w : World} {p : Nat} {s : PN} {M : Nat → Prop} (h : Nt C w p s M) : ∃ bm cm, w.cell? ⟨p, 0, none⟩ = some (.slice (some ⟨bm, 0, none⟩) s.ms.length cm) := by
  obtain ⟨bm, cm, bl, n, f, h1, h2⟩ := h.co
  exact ⟨bm, cm, cell_of h1.row⟩
set_option maxRecDepth 100000 in
theorem nodes_nil (w : World) : Calls Try.prog 27 #[.pointer none] w fun e w' => e = .returned (.int .i64 0) ∧ w' = w := by
  go_enter Try.func27, Try.ntmps27
  go_wp2_with fail
  go_ret
  exact ⟨rfl, rfl⟩
set_option maxRecDepth 100000 in
theorem nodes_any {C : Nat} {w : World} {p : Nat} {s : PN} {M : Nat → Prop} (h : Nt C w p s M) : Calls Try.prog 27 #[.pointer (some ⟨p, 0, none⟩)] w fun e w' => e = .returned (.int .i64 s.ms.length) ∧ w' = w := by
  obtain ⟨bm, cm, c0⟩ := h.n0
  clear h
  go_enter Try.func27, Try.ntmps27
  go_wp2_with fail
  go_ret
  exact ⟨rfl, rfl⟩
set_option maxRecDepth 100000 in
theorem fault_nil (v : Value) (w : World) : Calls Try.prog 37 #[.pointer none, v] w fun e w' => e = .returned (.int .i64 1) ∧ w' = w := by
  go_enter Try.func37, Try.ntmps37
  go_wp2_with (first | (go_at_call 27; refine (nodes_nil _).mono ?_; rintro e w9 ⟨rfl, hw9⟩; rw [hw9]; clear hw9))
  go_ret
  exact ⟨rfl, rfl⟩
set_option maxRecDepth 100000 in
theorem fault_any {C : Nat} {w : World} {p : Nat} {s : PN} {M : Nat → Prop} (h : Nt C w p s M) {v : Value} {l : List Int} (hv : RI w v l) (hl : l.length ≤ 1000000000000000) : Calls Try.prog 37 #[.pointer (some ⟨p, 0, none⟩), v] w fun e w' => e = .returned (.int .i64 (flt s l)) ∧ w' = w := by
  obtain ⟨a, cap, g, off, rfl, ha, hc⟩ := hv
  have HC := hide hc
  have HA := hide ha
  have h1 := h.one
  have h2 := h.few
  have HNo := hide (nodes_any h)
  generalize hN : s.ms.length = N at h1 h2 HNo
  have HN := hide hN
  have h0 : ((N : Int) == 0) = false := by simp; omega
  generalize hLl : l.length = n at hl
  have HL := hide hLl
  clear hc ha h hN hLl
  go_enter Try.func37, Try.ntmps37
  go_wp2_with (first | (go_at_call 27; refine HNo.out.mono ?_; rintro e w9 ⟨rfl, hw9⟩; rw [hw9]; clear hw9))
  go_loopw [6, 12] (fun _ vi wr => ∃ k : Nat, k ≤ n ∧ vi = .int .i64 k ∧ Hid (wr = w ∧ (l.take k).all s.mayB = true)) (fun _ vi _ => n - (intOf vi).toNat)
  case atStart => exact ⟨0, Nat.zero_le _, rfl, hide ⟨rfl, rfl⟩⟩
  case round =>
    obtain ⟨k, hk, rfl, HO⟩ := hrel
    obtain rfl := HO.out.1
    by_cases hlt : k < n
    · have hkl : k < l.length := by rw [HL.out]; exact hlt
      have hcx := HC.out k hkl
      obtain rfl := HA.out (by rw [HL.out]; omega)
      generalize hx : l[k] = x at hcx
      have Hx := hide hx
      have hbad : Hid (s.mayB x = false → flt s l = 2) := hide (fun hm => if_neg (by
        intro hall
        have := List.all_eq_true.1 hall x (by rw [← hx]; exact List.getElem_mem hkl)
        rw [hm] at this
        cases this))
      clear hx
      by_cases he : x < 1
      · go_wp2_with fail
        go_ret
        refine ⟨?_, rfl⟩
        rw [hbad.out (by unfold PN.mayB; simp; omega)]
        rfl
      · by_cases he2 : (N : Int) < x
        · go_wp2_with (first | (go_at_call 27; refine HNo.out.mono ?_; rintro e w9 ⟨rfl, hw9⟩; rw [hw9]; clear hw9))
          go_ret
          refine ⟨?_, rfl⟩
          rw [hbad.out (by unfold PN.mayB; rw [HN.out]; simp; omega)]
          rfl
        · go_wp2_with (first | (go_at_call 27; refine HNo.out.mono ?_; rintro e w9 ⟨rfl, hw9⟩; rw [hw9]; clear hw9))
          go_roundw
          case rel =>
            refine ⟨k + 1, by omega, by go_num, hide ⟨trivial, ?_⟩⟩
            rw [List.take_succ_eq_append_getElem hkl, Hx.out, List.all_append, HO.out.2]
            unfold PN.mayB
            rw [HN.out]
            simp
            omega
          case measure => simp [intOf]; omega
    · go_wp2_with fail
      go_ret
      refine ⟨?_, rfl⟩
      have : l.all s.mayB = true := by
        have := HO.out.2
        rw [List.take_of_length_le (by rw [HL.out]; omega)] at this
        exact this
      rw [show flt s l = 0 from if_pos this]
      rfl
end Go.Proofs.Ytbcgikkdhfbphaa
