/- The document's Part. -/
import Derived.Test.YtbcgikkdhfbphaaRfw
namespace Go.Proofs.Ytbcgikkdhfbphaa
open Go.RowKit Go.Maps
theorem Try.i4 : ∃ i, Try.prog.info? 4 = some i ∧ i.zero = some (.bool false) ∧ i.size = 1 ∧ i.bytes = 1 := by
  have h : (Try.prog.info? 4).map (fun i => (i.zero, i.size, i.bytes)) = some (some (.bool false), 1, 1) := by kernel_rfl
  obtain ⟨i, hi, hzz⟩ := Option.map_eq_some_iff.1 h
  simp only [Prod.mk.injEq] at hzz
  exact ⟨i, hi, hzz.1, hzz.2.1, hzz.2.2⟩
theorem sds_map {β : Type} (f : Int × Int → β) (ms : List Mc) (l : List Int) : (sds ms l).map (fun m => f (m.1, m.2.1)) = ms.map (fun m => f (m.1, m.2.1)) := by
  apply List.ext_getElem
  · simp [sds]
  · intro i h1 h2
    simp [sds]
theorem made_at (v : Value) (n j : Nat) (h : j < n) : (madeCells #[v] n)[j]? = some v := by
  simp [madeCells, h, Nat.mod_one]
theorem sds_at (ms : List Mc) (l : List Int) (j : Nat) (h : j < (sds ms l).length) : (sds ms l)[j] = ((ms[j]'(by simpa [sds] using h)).1, (ms[j]'(by simpa [sds] using h)).2.1, l.contains ((j : Int) + 1)) := by simp [sds]
theorem Ch.cell {M : Nat → Prop} {a b : World} (h : Ch M a b) {g o : Nat} {v : Value} (hc : a.cell? ⟨g, o, none⟩ = some v) (hn : ¬ M g) : b.cell? ⟨g, o, none⟩ = some v := by
  have e := h.block g (World.block_lt_of_cell? _ _ hc) hn
  unfold World.cell? at hc ⊢
  simp only [e]
  exact hc
/-- The cells of a row of numbers. -/
def RIc (W : World) (g off : Nat) (l : List Int) : Prop := ∀ j (h : j < l.length), W.cell? ⟨g, off + j, none⟩ = some (.int .i64 l[j])
set_option maxRecDepth 100000 in
set_option maxHeartbeats 2000000 in
theorem partD {W : World} {q : Nat} {s : PN} {M : Nat → Prop} (h : Rf W q s M) {v : Value} {l : List Int} (hv : RI W v l) (hd : l.length ≠ 0 → ∀ k, v.ownBlock = some k → ¬ M k) (hl : l.length ≤ 1000000000000000) : Calls Try.prog 34 #[.pointer (some ⟨q, 0, none⟩), v] W fun e w' => e = .returned (.int .i64 (flt s l)) ∧ Afr W q M (s.partS l) w' := by
  have HM : Hid (∀ x v, s.mayB x = v → Calls Try.prog 51 #[.pointer (some ⟨q, 0, none⟩), .int .i64 x] W fun e w' => e = .returned (.bool v) ∧ w' = W) := hide (fun x v e => by rw [← e]; exact may_any h x)
  obtain ⟨a, cap, g, off, rfl, ha, hc⟩ := hv
  have HC : Hid (RIc W g off l) := hide hc
  clear hc
  have HA := hide ha
  have HD := hide hd
  have HH := hide h
  generalize hn : l.length = n at *
  have HN := hide hn
  clear hn ha hd h
  go_enter Try.func34, Try.ntmps34
  go_wp2_with fail
  go_loopw [5] (fun vi wr => ∃ k : Nat, k ≤ n ∧ vi = .int .i64 k ∧ wr = W ∧ Hid (∀ x ∈ l.take k, s.mayB x = true)) (fun vi _ => n - (intOf vi).toNat)
  case atStart => exact ⟨0, Nat.zero_le _, rfl, rfl, hide (by simp)⟩
  case round =>
    obtain ⟨k, hk, rfl, rfl, HI⟩ := hrel
    by_cases hlt : k < n
    · have hkl : k < l.length := by rw [unhide HN]; exact hlt
      obtain rfl := (unhide HA) (by omega)
      have hkn : (k : Int) < n := by omega
      have r0 := (unhide HC) k hkl
      cases hmb : s.mayB l[k] with
      | true =>
        have HI2 : Hid (∀ x ∈ l.take (k + 1), s.mayB x = true) := hide (fun x hx => by
          rw [List.take_succ_eq_append_getElem hkl] at hx
          rcases List.mem_append.1 hx with hx | hx
          · exact (unhide HI) x hx
          · simp at hx; rw [hx]; exact hmb)
        generalize l[k] = x at *
        go_wp2_with (first
          | (go_at_call 51; refine ((unhide HM) _ _ (by assumption)).mono ?_; rintro e w9 ⟨rfl, hw9⟩; rw [hw9]; clear hw9))
        go_roundw
        case rel => exact ⟨k + 1, by omega, by go_num, by trivial, HI2⟩
        case measure => simp [intOf]; omega
      | false =>
        have e : l.all s.mayB = false := by
          rw [List.all_eq_false]
          exact ⟨l[k], List.getElem_mem hkl, by simp [hmb]⟩
        have e0 : flt s l = 2 := if_neg (by rw [e]; decide)
        have eS : s.partS l = s := if_neg (by rw [e]; decide)
        have E0 := hide e0
        have ES := hide eS
        have HF := hide ((unhide HH).aft (Bel.refl wr))
        clear e e0 eS
        generalize l[k] = x at *
        go_wp2_with (first
          | (go_at_call 51; refine ((unhide HM) _ _ (by assumption)).mono ?_; rintro e w9 ⟨rfl, hw9⟩; rw [hw9]; clear hw9))
        go_ret
        exact ⟨by rw [unhide E0]; rfl, by rw [unhide ES]; exact unhide HF⟩
    · obtain rfl : k = n := by omega
      have hall : ∀ x ∈ l, s.mayB x = true := by
        have := unhide HI
        rw [List.take_of_length_le (by rw [unhide HN]; omega)] at this
        exact this
      have e0 : flt s l = 0 := if_pos (List.all_eq_true.2 hall)
      have eS : s.partS l = ⟨sds s.ms l, s.L⟩ := if_pos (List.all_eq_true.2 hall)
      have E0 := hide e0
      have ES := hide eS
      have HALL := hide hall
      clear e0 eS hall
      have h := unhide HH
      obtain ⟨vL, gS, cS, gT, cT, gX, cX, h1⟩ := h.co
      obtain ⟨i0, hi, hz0, hz1, hz2⟩ := Try.i4
      have hfew := h.few
      have hmk : ∀ U : World, (Instr.makeSlice 71 (.int .i64 ((s.ms.length : Int) + 1)) (.int .i64 ((s.ms.length : Int) + 1))).run Try.prog U = .ok (.slice (some ⟨U.heap.size, 0, none⟩) (s.ms.length + 1) (s.ms.length + 1)) (U.alloc (.cells (madeCells #[.bool false] (s.ms.length + 1)) 4)) := fun U => by
        have := run_make (P := Try.prog) U 71 4 i0 _ Try.underlying71 hi hz0 .i64 .i64 ((s.ms.length : Int) + 1) ((s.ms.length : Int) + 1) (by omega) (by omega) (by rw [hz2]; omega) (by omega)
        have e1 : ((s.ms.length : Int) + 1).toNat = s.ms.length + 1 := by omega
        rw [e1] at this
        rw [hz1] at this
        simpa [Value.cells] using this
      have c0 : wr.cell? ⟨q, 0, none⟩ = some (.int .i64 s.ms.length) := cell_of h1.row
      have hq0 := lt_of_some h1.row
      have hbel : Bel wr (wr.alloc (.cells (madeCells #[.bool false] (s.ms.length + 1)) 4)) := (Bel.refl wr).alloc _
      have c2 : (wr.alloc (.cells (madeCells #[.bool false] (s.ms.length + 1)) 4)).cell? ⟨q, 2, none⟩ = some (.slice (some ⟨gS, 0, none⟩) (s.ms.length + 1) cS) := cell_of (hbel.row h1.row)
      have cf : (wr.alloc (.cells (madeCells #[.bool false] (s.ms.length + 1)) 4)).frozen? ⟨q, 2, none⟩ = false := free_row (hbel.row h1.row)
      have HST : Hid (Rc ((wr.alloc (.cells (madeCells #[.bool false] (s.ms.length + 1)) 4)).setCell ⟨q, 2, none⟩ (.slice (some ⟨wr.heap.size, 0, none⟩) (s.ms.length + 1) (s.ms.length + 1))) q vL wr.heap.size (s.ms.length + 1) gT cT gX cX ⟨sds s.ms (l.take 0), s.L⟩ (fun i => M i ∨ i = wr.heap.size) ∧ Ch M wr ((wr.alloc (.cells (madeCells #[.bool false] (s.ms.length + 1)) 4)).setCell ⟨q, 2, none⟩ (.slice (some ⟨wr.heap.size, 0, none⟩) (s.ms.length + 1) (s.ms.length + 1)))) := hide (by
        have hset : Ch (fun i => i = q) (wr.alloc (.cells (madeCells #[.bool false] (s.ms.length + 1)) 4)) ((wr.alloc (.cells (madeCells #[.bool false] (s.ms.length + 1)) 4)).setCell ⟨q, 2, none⟩ (.slice (some ⟨wr.heap.size, 0, none⟩) (s.ms.length + 1) (s.ms.length + 1))) := Ch.at_set _
        have h1b := h1.at (fun i hi => hbel.block i (h.ltM i hi))
        have hqr := h1b.row
        refine ⟨⟨?_, h1b.l.at (fun z hz => hset.block z (h1b.l.lt hz).2 (fun e => ?_)), ?_, ?_, ?_, Or.inl h1.mq, Or.inr rfl, Or.inl h1.mT, Or.inl h1.mX, fun z hz => Or.inl (h1.mL z hz)⟩, (hbel.ch M).trans (hset.mono (M' := M) (fun i hi => by rw [hi]; exact h1.mq)) (fun i hi => Or.inl hi)⟩
        · rw [row_set hqr]
          simp [sds_len]
        · obtain ⟨c', hc'⟩ := h1b.l.block hz
          rw [e, hqr] at hc'
          cases hc'
        · refine ⟨_, hset.row (at_new wr _) (by omega), fun j hj => ?_, made_at _ _ _ (by omega)⟩
          have hj2 : j < s.ms.length := by simpa [sds_len] using hj
          rw [made_at _ _ _ (by omega)]
          simp [sds]
        · have := h1b.ct.keep (t' := 74) hqr hset (by decide)
          rw [sds_map (fun m => Value.int .i64 m.1)]
          exact this
        · have := h1b.cx.keep (t' := 74) hqr hset (by decide)
          rw [sds_map (fun m => Value.int .u64 m.2)]
          exact this)
      have hst := unhide HST
      rw [World.setCell_alloc_past _ _ _ _ hq0] at hst
      have HS2 := hide hst
      have HRD : Hid (∀ wq, Ch M wr wq → k ≠ 0 → RIc wq g off l) := hide (fun wq hch h0 j hj => hch.cell ((unhide HC) j hj) ((unhide HD) h0 g (by rw [(unhide HA) h0]; rfl)))
      have HT := hide (fun (ms' : List Mc) (hl' : ms'.length = s.ms.length) (wq : World) (hsz : wr.heap.size < wq.heap.size) (hcx : ∃ vL gS cS gT cT gX cX, Rc wq q vL gS cS gT cT gX cX ⟨ms', s.L⟩ (fun i => M i ∨ i = wr.heap.size)) (hch : Ch M wr wq) => (⟨fun i => M i ∨ i = wr.heap.size, ⟨hcx, by rw [hl']; exact h.one, by rw [hl']; exact h.few, fun x hx => by have := h.may x hx; unfold PN.may at *; rw [hl']; exact this, h.len, fun i hi => hi.elim (fun hm => Nat.lt_of_lt_of_le (h.ltM i hm) hch.size) (fun e => by rw [e]; exact hsz)⟩, fun i hi => or_to hi id (fun e => by rw [e]; exact Nat.le_refl _), hch⟩ : Afr wr q M ⟨ms', s.L⟩ wq))
      clear hbel h h1 hst HST
      generalize hnm : s.ms.length = nm at *
      have HNM := hide hnm
      clear hnm
      go_wp2_with fail
      generalize hgN : wr.heap.size = gN at HS2 HT ⊢
      have HGN := hide hgN
      clear hgN c0 c2 cf hmk hq0
      go_loopw [6] (fun vi wq => ∃ j : Nat, j ≤ k ∧ vi = .int .i64 j ∧ Hid (Rc wq q vL gN (nm + 1) gT cT gX cX ⟨sds s.ms (l.take j), s.L⟩ (fun i => M i ∨ i = gN) ∧ Ch M wr wq)) (fun vi _ => k - (intOf vi).toNat)
      case atStart => exact ⟨0, Nat.zero_le _, rfl, HS2⟩
      case round =>
        obtain ⟨j, hj, rfl, HJ⟩ := hrel
        by_cases hjk : j < k
        · have hjl : j < l.length := by rw [unhide HN]; exact hjk
          obtain rfl := (unhide HA) (by omega)
          have hjk' : (j : Int) < k := by omega
          have r0 := (unhide HRD) _ (unhide HJ).2 (by omega) j hjl
          have hmx := mayB_iff.1 ((unhide HALL) l[j] (List.getElem_mem hjl))
          obtain ⟨i, hi1, hi2⟩ : ∃ i : Nat, l[j] = (i : Int) + 1 ∧ i < nm := ⟨(l[j] - 1).toNat, by have := hmx.1; omega, by have := hmx.1; have h2 := hmx.2; rw [unhide HNM] at h2; omega⟩
          have htk : l.take (j + 1) = l.take j ++ [(i : Int) + 1] := by rw [List.take_succ_eq_append_getElem hjl, hi1]
          rw [hi1] at r0
          have h1 := (unhide HJ).1
          have hch := (unhide HJ).2
          have c2 : wr.cell? ⟨q, 2, none⟩ = some (.slice (some ⟨gN, 0, none⟩) (nm + 1) (nm + 1)) := by
            have := cell_of (i := 2) h1.row
            rw [sds_len, unhide HNM] at this
            exact this
          have hil : i < (sds s.ms (l.take j)).length := by rw [sds_len, unhide HNM]; exact hi2
          have hilm : i < ((sds s.ms (l.take j)).map fun m => Value.bool m.2.2).length := by rw [List.length_map]; exact hil
          have ct := h1.cs.cell hilm
          have hfr := h1.cs.free (i + 1)
          obtain ⟨cur, hcur, _⟩ := h1.cs
          have hset := Ch.at_set (w := wr) (b := gN) (j := i + 1) (.bool true)
          have HF : Hid (Rc (wr.setCell ⟨gN, i + 1, none⟩ (.bool true)) q vL gN (nm + 1) gT cT gX cX ⟨sds s.ms (l.take (j + 1)), s.L⟩ (fun i => M i ∨ i = gN) ∧ gN < (wr.setCell ⟨gN, i + 1, none⟩ (.bool true)).heap.size) := hide ⟨by
            rw [htk, ← sds_next _ _ _ hil]
            refine h1.col hcur (by decide) (by decide) hset (by simp) ?_ ?_ ?_
            · rw [List.map_set]
              exact h1.cs.set hilm _
            · rw [map_same hil]
              · exact h1.ct.keep hcur hset (by decide)
              · rfl
            · rw [map_same hil]
              · exact h1.cx.keep hcur hset (by decide)
              · rfl, Nat.lt_of_lt_of_le (lt_of_some hcur) hset.size⟩
          have HG : Hid (∀ z, Ch M z wr → z.heap.size ≤ gN → Ch M z (wr.setCell ⟨gN, i + 1, none⟩ (.bool true))) := hide (fun z hz hg => hz.off hset hg)
          have HJ2 : Hid (Rc (wr.setCell ⟨gN, i + 1, none⟩ (.bool true)).drew q vL gN (nm + 1) gT cT gX cX ⟨sds s.ms (l.take (j + 1)), s.L⟩ (fun i => M i ∨ i = gN) ∧ Ch M _ (wr.setCell ⟨gN, i + 1, none⟩ (.bool true)).drew) := hide ⟨(unhide HF).1.at (fun _ _ => rfl), ((unhide HG) _ (unhide HJ).2 (by rw [unhide HGN]; exact Nat.le_refl _)).drew⟩
          have hn : (i : Int) + 1 < (nm : Int) + 1 := by omega
          have hn0 : 0 ≤ (i : Int) + 1 := by omega
          have hnt : ((i : Int) + 1).toNat = i + 1 := by omega
          generalize ((sds s.ms (l.take j)).map fun m => Value.bool m.2.2)[i] = old at ct
          clear h1 hch hset hcur hi1 htk hmx hil hilm HG HF
          go_wp2_with fail
          go_region_law fail
          all_goals
            go_wp2_with fail
            exact ⟨⟨j + 1, by omega, by go_num, HJ2⟩, by simp [intOf]; omega⟩
        · obtain rfl : j = k := by omega
          have h1 := (unhide HJ).1
          rw [List.take_of_length_le (by rw [unhide HN]; omega)] at h1
          obtain ⟨M', k1, k2, k3⟩ := (unhide HT) _ (by rw [sds_len, unhide HNM]) wr (h1.cs.lt) ⟨_, _, _, _, _, _, _, h1⟩ (unhide HJ).2
          rw [← unhide HGN] at k2
          have HF := hide (And.intro k1 (And.intro k2 k3))
          clear h1 k1 k2 k3
          go_wp2_with fail
          go_ret
          exact ⟨by rw [unhide E0]; rfl, by rw [unhide ES]; exact ⟨M', unhide HF⟩⟩
end Go.Proofs.Ytbcgikkdhfbphaa
