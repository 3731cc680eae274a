/- What the program's Terms returns; for every text of at most 16384 bytes. -/
import Derived.Test.YtomnajoflcjnfaaDoorTrmC
import Derived.Test.YtomnajoflcjnfaaDoorShelfC
import Derived.Sort.OwnSorted
import Derived.Lib.OwnBridge
namespace Go.Proofs.YtomnajoflcjnfaaDoor
open Go.RowKit
theorem TR.putRun {B : Nat} {w W : World} {L : List (List UInt8)} {R' : List UInt8} {vt vr vr' : Value} (bt : Boxed W B 50 vt) (br : Boxed W (B + 1) 55 vr) (ot : W.ownsRow B 9 1 vt L.length (L.map encStr)) (ho : W.ownsRow B 5 1 vr' R'.length (R'.map vb)) (bel : Below B w W) : TR B w (W.setCell ⟨B + 1, 0, none⟩ vr') L R' vt vr' := {
  bt := (Below.heap_setCell _ _ _ _ (by show B ≠ B + 1; omega)).trans bt
  br := br.set vr'
  ot := ownsRow_setCell_other ot (fun e => br.not_row (by decide) ot e.symm) _
  ob := ownsRow_setCell_other ho (fun e => br.not_row (by decide) ho e.symm) _
  bel := bel.setCell (by show B ≤ B + 1; omega) _ }
/-- A byte more in the run. -/
theorem append_run {ops : Array Oper} {rest : List Oper} {o : Oper} {a : Act} {Q : Exit → Act → World → Prop} {B : Nat} {w W : World} {L : List (List UInt8)} {R : List UInt8} {vt vr : Value} (h : TR B w W L R vt vr) (c : UInt8) (hb : R.length + 1 ≤ 1048577)
    (hgd : o.guard = none) (s x : Operand) (ho : o.op = .call { callee := .builtin .append, args := #[s, x], argTypes := #[55, 55] }) (hs : a.eval s = vr) (hx : a.eval x = .slice (some ⟨W.heap.size, 0, none⟩) 1 1)
    (hK : ∀ g cap w', Boxed w' B 50 vt → Boxed w' (B + 1) 55 vr → TR B w (w'.setCell ⟨B + 1, 0, none⟩ (.slice (some ⟨g, 0, none⟩) (R.length + 1) cap)) L (R ++ [c]) vt (.slice (some ⟨g, 0, none⟩) (R.length + 1) cap) → wpList Tryd.prog ops Q rest (a.put o.dst (.slice (some ⟨g, 0, none⟩) (R.length + 1) cap)) w') : wpList Tryd.prog ops Q (o :: rest) a (W.alloc (.cells #[vb c] 5)) := by
  obtain ⟨i0, hi, hz0, hz1, hz2⟩ := Tryd.i5
  have hBW : B ≤ W.heap.size := by have := h.bt.lt; omega
  refine wpList_append_lies (P := Tryd.prog) _ hgd s x 55 ho B 5 i0 (.int .u8 0) 1 1 Tryd.underlying55 hi hz0 hz1 hz2 rfl (by decide) vr R.length (R.map vb) hs (h.ob.alloc _) ⟨W.heap.size, 0, none⟩ 1 1 [vb c] hx rfl (cells_new W _ 5) (fun u hu => by rw [List.mem_singleton.1 hu]; exact vb_one c) (by decide) (by unfold maxLen; omega) (by omega) (Nat.le_trans hBW (by simp)) _ rfl ?_
  intro g cap w' hown hgrow _ _
  have b1 : Boxed w' B 50 vt := (h.bt.alloc _).kept hgrow (h.bt.not_row (by decide) h.ob)
  have b2 : Boxed w' (B + 1) 55 vr := (h.br.alloc _).kept hgrow (h.br.not_row (by decide) h.ob)
  refine hK g cap w' b1 b2 (TR.putRun b1 b2 ((h.ot.alloc _).kept hgrow (rows_apart h.ot h.ob (by decide))) ?_ ((h.bel.alloc hBW _).grown hgrow (Nat.le_trans hBW (by simp)) (fun k hk => (h.ob.lt k hk).1)))
  rw [List.length_append, List.map_append]
  exact hown
/-- How far the terms are gathered. -/
def TG (B : Nat) (w W : World) (s : List UInt8) (k : Nat) : Prop := ∃ L R vt vr, TR B w W L R vt vr ∧ L.length ≤ k ∧ R.length ≤ k ∧ gat (s.drop k) L R = gat s [] []
theorem TG.start (w : World) (s : List UInt8) : TG w.heap.size w ((w.alloc (.cells #[.slice none 0 0] 50)).alloc (.cells #[.slice none 0 0] 55)) s 0 := by
  refine ⟨[], [], _, _, ⟨(Boxed.new w 50 (.slice none 0 0)).alloc _, ?_, World.ownsRow_nil _ _ _ _, World.ownsRow_nil _ _ _ _, ((Below.refl _ w).alloc (Nat.le_refl _) _).alloc (by simp) _⟩, Nat.le_refl _, Nat.le_refl _, rfl⟩
  have h := Boxed.new (w.alloc (.cells #[.slice none 0 0] 50)) 55 (.slice none 0 0)
  rw [show (w.alloc (.cells #[.slice none 0 0] 50)).heap.size = w.heap.size + 1 by simp] at h
  exact h
set_option maxRecDepth 100000 in
theorem clip_any (a : Option Addr) (n cap : Nat) (hn : n ≤ cap) (w : World) : Calls Tryd.prog 57 #[.slice a n cap] w fun e w' => e = .returned (.slice a n n) ∧ w' = w := by
  cases a with
  | none =>
    go_enter Tryd.func57, Tryd.ntmps57
    go_wp2_with fail
    go_ret
    exact ⟨rfl, rfl⟩
  | some d =>
    go_enter Tryd.func57, Tryd.ntmps57
    go_wp2_with fail
    go_ret
    exact ⟨rfl, rfl⟩
/-- A row of texts as it is read. -/
def RS (W : World) (v : Value) (l : List (List UInt8)) : Prop := ∃ a cap, v = .slice a l.length cap ∧ l.length ≤ cap ∧ (l ≠ [] → ∃ g, a = some ⟨g, 0, none⟩ ∧ g < W.heap.size ∧ ∀ j (hj : j < l.length), W.cell? ⟨g, j, none⟩ = some (.string ⟨l[j].toArray⟩))
/-- What Terms answers: the terms, rising, each once. -/
def trmR (t : List (List UInt8)) (w : World) (e : Ending) (w' : World) : Prop := ∃ v l, e = .returned v ∧ RS w' v l ∧ Bel w w' ∧ ris l ∧ ∀ x, x ∈ l ↔ x ∈ t
theorem drop_next {s : List UInt8} {k : Nat} (h : k < s.length) : s.drop k = s[k] :: s.drop (k + 1) := List.drop_eq_getElem_cons h
set_option maxHeartbeats 4000000 in
set_option maxRecDepth 100000 in
theorem terms_any (s : ByteArray) (hm : s.size ≤ 16384) (l : List (List UInt8)) (hl : gat s.data.toList [] [] = l) (w : World) : Calls Tryd.prog 23 #[.string s] w fun e w' => trmR l w e w' := by
  have HL0 := hide hl
  clear hl
  have hst := TG.start w s.data.toList
  go_enter Tryd.func23, Tryd.ntmps23
  go_wp2_with fail
  go_loopw [11] (fun i W => ∃ k : Nat, k ≤ s.size ∧ i = .int .i64 k ∧ TG w.heap.size w W s.data.toList k) (fun i _ => s.size - (intOf i).toNat)
  case atStart => exact ⟨0, Nat.zero_le _, rfl, hst⟩
  case round =>
    clear hst
    obtain ⟨k, hk, rfl, L, R, vt, vr, hT, hL, hR, hg⟩ := hrel
    have HT := hide hT
    have HG := hide hg
    have HL := hide hL
    have HR := hide hR
    have c1 := hT.br.cell
    clear hg hT hL hR
    by_cases hlt : k < s.size
    · have hkl : k < s.data.toList.length := by simpa using hlt
      have hd := drop_next hkl
      obtain ⟨d, hd'⟩ : ∃ d, d = sm (s.data.toList[k]) := ⟨_, rfl⟩
      have HN := hide (show gat (s.data.toList.drop k) L R = if inT d then gat (s.data.toList.drop (k + 1)) L (R ++ [d]) else gat (s.data.toList.drop (k + 1)) (flush L R) [] by rw [hd, gat, ← hd'])
      have C54 : Hid (∀ W, Calls Tryd.prog 54 #[.int .u8 (s[k].toNat : Int)] W fun e w' => e = .returned (.int .u8 (d.toNat : Int)) ∧ w' = W) := hide (fun W => by
        have h := small_any (s[k]) W
        rw [show sm (s[k]) = d from hd'.symm] at h
        exact h)
      have C55 := hide (fun W => inTerm_any d W)
      unfold vb at C55
      clear hd hd'
      cases hi : inT d with
      | true =>
        rw [hi, if_pos rfl] at HN
        rw [hi] at C55
        go_wp2_with (first | (go_at_call 54; refine (C54.out _).mono ?_; rintro e w' ⟨rfl, rfl⟩) | (go_at_call 55; refine (C55.out _).mono ?_; rintro e w' ⟨rfl, rfl⟩) | (at_builtin; refine append_run HT.out d (by have := HR.out; omega) rfl _ _ rfl rfl rfl ?_; intro g cap w1 b1 b2 hT1; have cb := b2.cell; have fb := b2.frozen; have HT1 := hide hT1; clear hT1))
        go_roundw
        case rel => exact ⟨k + 1, by omega, by go_num, L, R ++ [d], _, _, HT1.out, by have := HL.out; omega, by have := HR.out; simp; omega, HN.out.symm.trans HG.out⟩
        case measure => simp [intOf]; omega
      | false =>
        rw [hi, if_neg (by simp)] at HN
        rw [hi] at C55
        go_wp2_with (first | (go_at_call 54; refine (C54.out _).mono ?_; rintro e w' ⟨rfl, rfl⟩) | (go_at_call 55; refine (C55.out _).mono ?_; rintro e w' ⟨rfl, rfl⟩) | (go_at_call 53; refine (end_any _ w _ L R vt vr HT.out (by have := HL.out; omega) (by have := HR.out; omega)).mono ?_; rintro e w1 ⟨rfl, vt', vr', hT1⟩; have HT1 := hide hT1; clear hT1))
        go_roundw
        case rel => exact ⟨k + 1, by omega, by go_num, flush L R, [], _, _, HT1.out, by have := HL.out; have := flush_len L R; omega, by simp, HN.out.symm.trans HG.out⟩
        case measure => simp [intOf]; omega
    · have hd0 : s.data.toList.drop k = [] := List.drop_of_length_le (by simp; omega)
      have HF : Hid (flush L R = l) := hide (by rw [← HL0.out, ← HG.out, hd0, gat])
      clear hd0
      go_wp2_with fail
      refine (end_any _ w _ L R vt vr HT.out (by have := HL.out; omega) (by have := HR.out; omega)).mono ?_
      rintro e w1 ⟨rfl, vt', vr', hT1⟩
      rw [HF.out] at hT1
      have hlen : l.length ≤ 16385 := by rw [← HF.out]; have := HL.out; have := flush_len L R; omega
      have HS := hide (sorted_ris l)
      clear HT HG HL HR HF c1 HL0
      have HT1 := hide hT1
      have cb := hT1.bt.cell
      rcases hT1.ot.2 with ⟨rfl, h0⟩ | ⟨g, cap, cur, rfl, hg, hh, hnc, hcp, hcs, htake⟩
      · obtain rfl : l = [] := List.length_eq_zero_iff.1 h0
        clear hT1
        go_wp2_with (first | (go_at_call 56; refine (Tryd.slices_Sort_string_none _ _ _).mono ?_; rintro e w2 ⟨rfl, rfl⟩) | (go_at_call 58; refine (Tryd.slices_Compact_string_empty _ _ _).mono ?_; rintro e w2 ⟨rfl, rfl⟩) | (go_at_call 57; refine (clip_any _ _ _ (Nat.le_refl _) _).mono ?_; rintro e w2 ⟨rfl, rfl⟩))
        go_ret
        exact ⟨_, [], rfl, ⟨none, 0, rfl, Nat.le_refl _, fun h => absurd rfl h⟩, HT1.out.bel, List.Pairwise.nil, fun _ => Iff.rfl⟩
      · have hglt : g < w1.heap.size := (Array.getElem?_eq_some_iff.1 hh).1
        have hne := hT1.bt.not_row (by decide) hT1.ot
        obtain ⟨z, hz⟩ : ∃ z, z = l.mergeSort fun x y => decide (x ≤ y) := ⟨_, rfl⟩
        have hzl : z.length = l.length := by rw [hz]; simp
        rw [← hz] at HS
        have HH := hide (holds_of_block hh (by simpa using htake))
        have HW := hide hh
        have HM := hide (And.intro hg (And.intro hnc (And.intro hcp hcs)))
        clear hT1 htake hh
        go_wp2_with fail
        refine (Tryd.slices_Sort_string g 0 cap l w1 HH.out hglt (by omega)).mono ?_
        rintro e w2 ⟨rfl, n, os, hw2⟩
        rw [← hz] at hw2
        have own2 : w2.ownsRow w.heap.size 9 1 (.slice (some ⟨g, 0, none⟩) z.length cap) z.length (z.map encStr) := by
          rw [hw2, hzl]
          exact ownsRow_sorted hzl HM.out.1 HW.out HM.out.2.1 HM.out.2.2.1 HM.out.2.2.2
        have g2 : w1.grownBy w2 (some g) := by rw [hw2]; exact grownBy_sorted _
        have cb2 := (HT1.out.bt.kept g2 hne).cell
        rw [← hzl] at cb2
        have Hbel2 := hide (HT1.out.bel.grown g2 (Nat.le_trans HT1.out.bel.size (Nat.le_refl _)) (fun k hk => by
          have : g = k := Option.some.inj hk
          have := HM.out.1
          omega))
        have Own2 := hide own2
        have hH2 : Sort.Holds encStr w2 g 0 z.toArray := by
          obtain ⟨g', cap', e1, _, _, _, _, _, hH⟩ := Lib.holds_of_ownsRow own2 (by simp)
          injection e1 with e1 _ _
          injection e1 with e1
          injection e1 with e1
          rw [e1]
          exact hH
        have hz1 : z.length ≤ 9223372036854775807 := by omega
        have hz2 : z.length ≤ cap := by omega
        have HC := hide (Tryd.slices_Compact_string g 0 cap z w2 hH2 hz1 hz2)
        have HZL := hide hzl
        clear hw2 own2 g2 hH2 hz1 hz2 hlen hz hzl
        go_wp2_with fail
        refine HC.out.mono ?_
        rintro e w3 ⟨rfl, q, hw3⟩
        have own3 : w3.ownsRow w.heap.size 9 1 (.slice (some ⟨g, 0, none⟩) (Lib.compact z).length cap) (Lib.compact z).length ((Lib.compact z).map encStr) := by
          have h := Lib.ownsRow_putRow (q := q) (k := (Lib.compact z).length) (ys := Lib.compact z ++ List.replicate (z.length - (Lib.compact z).length) []) Own2.out (by have := Lib.compact_length_le z; simp; omega) (Lib.compact_length_le z)
          rw [List.take_left] at h
          rw [hw3]
          exact h
        have hbel3 : Bel w w3 := by rw [hw3]; exact Lib.below_putRow Hbel2.out HM.out.1
        have HCL := hide (show (Lib.compact z).length ≤ cap by have := Lib.compact_length_le z; have := HM.out.2.1; have := HZL.out; omega)
        have Own3 := hide own3
        have Hbel3 := hide hbel3
        clear hw3 own3 hbel3
        go_wp2_with (go_at_call 57; refine (clip_any _ _ _ HCL.out _).mono ?_; rintro e w4 ⟨rfl, rfl⟩)
        go_ret
        refine ⟨_, Lib.compact z, rfl, ⟨some ⟨g, 0, none⟩, (Lib.compact z).length, rfl, Nat.le_refl _, fun _ => ⟨g, rfl, (Own3.out.lt g rfl).2, fun j hj => ?_⟩⟩, Hbel3.out, HS.out.1, HS.out.2⟩
        rw [Own3.out.cellAt j (by omega)]
        simp [hj, encStr]
end Go.Proofs.YtomnajoflcjnfaaDoor
