/- Two rows of texts held against each other; the document's Clash. Rows of schemas and of writes, copied: append to nothing. -/
import Derived.Test.YtgghcfmpfneehaaGreatDoorMgA
import Derived.Test.YtgghcfmpfneehaaGreatDoorMgB
import Derived.Test.YtgghcfmpfneehaaGreatDoorClaF
import Derived.Deep.AppendLies
import Derived.Laws.CopyOwn
import Derived.Deep.Upon
import Derived.Laws.OwnMore
namespace Go.Proofs.YtgghcfmpfneehaaGreatDoor
open Go.RowKit
set_option maxRecDepth 100000 in
theorem same_yes (l : List (List UInt8)) (v v' : Value) (w : World) (hr : RS w v l) (hr' : RS w v' l) (hl : l.length ≤ maxLen) : Calls Tryz.prog 15 #[v, v'] w fun e w' => e = .returned (.bool true) ∧ Bel w w' := by
  obtain ⟨a, cap, rfl, _, hn⟩ := hr
  obtain ⟨a', cap', rfl, _, hn'⟩ := hr'
  have HN := hide hn
  have HN' := hide hn'
  obtain ⟨n, hnl⟩ : ∃ n, l.length = n := ⟨_, rfl⟩
  rw [hnl] at hl ⊢
  unfold maxLen at hl
  have HL := hide hnl
  clear hn hn' hnl
  go_enter Tryz.func15, Tryz.ntmps15
  go_wp2_with fail
  go_loopw [5] (fun vi W => ∃ i : Nat, i ≤ n ∧ vi = .int .i64 i ∧ Bel w W) (fun vi _ => n - (intOf vi).toNat)
  case atStart => exact ⟨0, Nat.zero_le _, rfl, Bel.refl _⟩
  case round =>
    obtain ⟨i, hin, rfl, hb⟩ := hrel
    have HB := hide hb
    clear hb
    by_cases hlt : i < n
    · have hil : i < l.length := by rw [HL.out]; exact hlt
      have hne : l ≠ [] := fun h => by rw [h] at hil; simp at hil
      obtain ⟨g, rfl, hg, hc⟩ := HN.out hne
      obtain ⟨g', rfl, hg', hc'⟩ := HN'.out hne
      have x1 := cell_bel (HB.out.cell (hc i hil))
      have x2 := cell_bel (HB.out.cell (hc' i hil))
      generalize l[i] = t at x1 x2
      clear hne hg hc hg' hc'
      have hfol : Tryz.prog.follows .mixedOrders = true := by kernel_rfl
      have hne := BelBy.some wr
      go_wp2_with fail
      refine wp_region_bel hfol (by kernel_rfl) ?_
      repeat (go_big_quiet_step (fail))
      refine wpQuiet_nil ?_
      intro w2 hw'
      obtain ⟨⟨_, hb2⟩, hw''⟩ := hw'
      subst hw''
      clear x1 x2 hne
      go_wp2_with fail
      refine ⟨⟨i + 1, by omega, by go_num, HB.out.trans hb2⟩, by simp [intOf]; omega⟩
    · go_wp2_with fail
      go_ret
      exact ⟨rfl, HB.out⟩
set_option maxHeartbeats 1000000 in
set_option maxRecDepth 100000 in
theorem refClash_any (a1 a2 : Option Addr) (b1 o1 c1 b2 o2 c2 : Nat) (A B : List (List UInt8)) (ha1 : A.length ≠ 0 → a1 = some ⟨b1, o1, none⟩) (ha2 : B.length ≠ 0 → a2 = some ⟨b2, o2, none⟩) (hA : A.length ≤ 1000000) (hB : B.length ≤ 1000000) (w : World) (h1 : ∀ j (h : j < A.length), w.cell? ⟨b1, o1 + j, none⟩ = some (.string ⟨A[j].toArray⟩)) (h2 : ∀ j (h : j < B.length), w.cell? ⟨b2, o2 + j, none⟩ = some (.string ⟨B[j].toArray⟩)) :
    Calls Tryz.prog 17 #[.slice a1 A.length c1, .slice a2 B.length c2] w fun e w' => e = .returned (.bool (B.any (fun x => decide (x ∈ A)))) ∧ Bel w w' := by
  obtain ⟨na, hna⟩ : ∃ na, A.length = na := ⟨_, rfl⟩
  obtain ⟨nb, hnb⟩ : ∃ nb, B.length = nb := ⟨_, rfl⟩
  rw [hna] at ha1 hA ⊢
  rw [hnb] at ha2 hB ⊢
  have HA1 := hide ha1
  have HA2 := hide ha2
  have Hna := hide hna
  have Hnb := hide hnb
  have H1 := hide h1
  have H2 := hide h2
  have hfol : Tryz.prog.follows .mixedOrders = true := by kernel_rfl
  clear h1 h2 hna hnb ha1 ha2
  go_enter Tryz.func17, Tryz.ntmps17
  go_wp2_with fail
  go_loopw [5, 6] (fun vi _ W => ∃ i : Nat, i ≤ na ∧ vi = .int .i64 i ∧ Bel w W ∧ Hid (∀ x ∈ A.take i, x ∉ B)) (fun vi _ _ => na - (intOf vi).toNat)
  case atStart => exact ⟨0, Nat.zero_le _, rfl, Bel.refl _, hide (by simp)⟩
  case round =>
    obtain ⟨i, hin, rfl, hb, HI⟩ := hrel
    have HB := hide hb
    clear hb
    by_cases hlt : i < na
    · have hil : i < A.length := by rw [Hna.out]; exact hlt
      have ea := HA1.out (by omega)
      subst ea
      go_wp2_with fail
      go_loopw [6] (fun vj W => ∃ j : Nat, j ≤ nb ∧ vj = .int .i64 j ∧ Bel w W ∧ Hid (∀ y ∈ B.take j, y ≠ A[i])) (fun vj _ => nb - (intOf vj).toNat)
      case atStart => exact ⟨0, Nat.zero_le _, rfl, HB.out, hide (by simp)⟩
      case round =>
        rename_i wr0 _
        obtain ⟨j, hjn, rfl, hb2, HJ⟩ := hrel
        have HB2 := hide hb2
        clear hb2
        by_cases hlt2 : j < nb
        · have hjl : j < B.length := by rw [Hnb.out]; exact hlt2
          have eb := HA2.out (by omega)
          subst eb
          have x1 := cell_bel (HB2.out.cell (H1.out i hil))
          have x2 := cell_bel (HB2.out.cell (H2.out j hjl))
          obtain ⟨x, hx⟩ : ∃ x, A[i] = x := ⟨_, rfl⟩
          obtain ⟨y, hy⟩ : ∃ y, B[j] = y := ⟨_, rfl⟩
          rw [hx] at x1
          rw [hy] at x2
          have HX := hide hx
          have HY := hide hy
          clear hx hy
          have hne := BelBy.some wr
          by_cases hxy : x = y
          · subst hxy
            go_wp2_with fail
            refine wp_region_bel hfol (by kernel_rfl) ?_
            repeat (go_big_quiet_step (fail))
            refine wpQuiet_nil ?_
            intro w2 hw'
            obtain ⟨⟨_, hb3⟩, hw''⟩ := hw'
            subst hw''
            clear x1 x2 hne
            go_wp2_with fail
            go_ret
            refine ⟨?_, HB2.out.trans hb3⟩
            have e : (B.any fun z => decide (z ∈ A)) = true := by
              rw [List.any_eq_true]
              refine ⟨x, by rw [← HY.out]; exact List.getElem_mem hjl, ?_⟩
              rw [decide_eq_true_eq, ← HX.out]
              exact List.getElem_mem hil
            rw [e]; rfl
          · have hne1 : (x == y) = false := by rw [beq_eq_false_iff_ne]; exact hxy
            have HXY := hide hxy
            clear hxy
            go_wp2_with fail
            refine wp_region_bel hfol (by kernel_rfl) ?_
            repeat (go_big_quiet_step (fail))
            refine wpQuiet_nil ?_
            intro w2 hw'
            obtain ⟨⟨_, hb3⟩, hw''⟩ := hw'
            subst hw''
            clear x1 x2 hne
            go_wp2_with fail
            refine ⟨⟨j + 1, by omega, by go_num, HB2.out.trans hb3, hide fun z hz => ?_⟩, by simp [intOf]; omega⟩
            rw [List.take_succ_eq_append_getElem hjl] at hz
            rcases List.mem_append.1 hz with h | h
            · exact HJ.out z h
            · rw [List.mem_singleton.1 h, HY.out, HX.out]
              exact fun h => HXY.out h.symm
        · go_wp2_with fail
          refine ⟨⟨i + 1, by omega, by go_num, HB2.out, hide fun z hz => ?_⟩, by simp [intOf]; omega⟩
          rw [List.take_succ_eq_append_getElem hil] at hz
          rcases List.mem_append.1 hz with h | h
          · exact HI.out z h
          · rw [List.mem_singleton.1 h]
            intro hm
            exact HJ.out A[i] (by rw [List.take_of_length_le (by rw [Hnb.out]; omega)]; exact hm) rfl
    · go_wp2_with fail
      go_ret
      refine ⟨?_, HB.out⟩
      have e : (B.any fun z => decide (z ∈ A)) = false := by
        rw [List.any_eq_false]
        intro z hz hd
        rw [decide_eq_true_eq] at hd
        exact HI.out z (by rw [List.take_of_length_le (by rw [Hna.out]; omega)]; exact hd) hz
      rw [e]; rfl
end Go.Proofs.YtgghcfmpfneehaaGreatDoor
namespace Go.Proofs.YtgghcfmpfneehaaGreatDoor
open Go.RowKit Go.Sort
theorem flat_at {α : Type} (f : α → List Value) (hf : ∀ x, (f x).length = 8) : ∀ (L : List α) (j c : Nat) (hj : j < L.length) (_ : c < 8), (L.flatMap f)[j * 8 + c]? = (f L[j])[c]?
  | a :: L, 0, c, _, hc => by
    rw [List.flatMap_cons, List.getElem?_append_left (by rw [hf]; omega)]
    simp
  | a :: L, j + 1, c, hj, hc => by
    rw [List.flatMap_cons, List.getElem?_append_right (by rw [hf]; omega), hf, show (j + 1) * 8 + c - 8 = j * 8 + c by omega, flat_at f hf L j c (by simpa using hj) hc]
    simp
theorem flat_len {α : Type} (f : α → List Value) (hf : ∀ x, (f x).length = 8) (L : List α) : (L.flatMap f).length = L.length * 8 := by
  induction L with
  | nil => rfl
  | cons a L ih => rw [List.flatMap_cons, List.length_append, hf, ih, List.length_cons]; omega
theorem flat_cells {α : Type} {f : α → List Value} (hf : ∀ x, (f x).length = 8) {L : List α} {W : World} {g off : Nat} (h : ∀ j (h : j < L.length) c v, (f L[j])[c]? = some v → W.cell? ⟨g, off + j * 8 + c, none⟩ = some v) (t : Nat) (u : Value) (ht : (L.flatMap f)[t]? = some u) : W.cell? ⟨g, off + t, none⟩ = some u := by
  have htl : t < L.length * 8 := by have := (List.getElem?_eq_some_iff.1 ht).1; rw [flat_len f hf] at this; exact this
  have hj : t / 8 < L.length := by omega
  have e : t = t / 8 * 8 + t % 8 := by omega
  rw [e, flat_at f hf L _ _ hj (by omega)] at ht
  have := h _ hj _ _ ht
  rw [show off + t / 8 * 8 + t % 8 = off + t by omega] at this
  exact this
theorem row_cells {α : Type} {f : α → List Value} (hf : ∀ x, (f x).length = 8) {L : List α} {W : World} {B g cap : Nat} {e : TypeId} (h : W.ownsRow B e 8 (.slice (some ⟨g, 0, none⟩) L.length cap) L.length (L.flatMap f)) : ∀ j (h : j < L.length) c v, (f L[j])[c]? = some v → W.cell? ⟨g, 0 + j * 8 + c, none⟩ = some v := by
  intro j hj c v hv
  have hc : c < 8 := by have := (List.getElem?_eq_some_iff.1 hv).1; rw [hf] at this; exact this
  rw [Nat.zero_add, h.cellAt (j * 8 + c) (by omega), flat_at f hf L j c hj hc]
  exact hv
theorem Tryz.i91 : ∃ i, Tryz.prog.info? 91 = some i ∧ i.zero = some (.agg #[.string ⟨#[]⟩, .int .u8 0, .bool false, .bool false, .bool false, .bool false, .bool false, .bool false]) ∧ i.size = 8 ∧ i.bytes = 24 := by
  have h : (Tryz.prog.info? 91).map (fun i => (i.zero, i.size, i.bytes)) = some (some (.agg #[.string ⟨#[]⟩, .int .u8 0, .bool false, .bool false, .bool false, .bool false, .bool false, .bool false]), 8, 24) := by kernel_rfl
  obtain ⟨i, hi, hzz⟩ := Option.map_eq_some_iff.1 h
  simp only [Prod.mk.injEq] at hzz
  exact ⟨i, hi, hzz.1, hzz.2.1, hzz.2.2⟩
theorem cl8_len (x : Sm) : (cl8 x).length = 8 := rfl
theorem cl8_one {L : List Sm} : ∀ u ∈ L.flatMap cl8, u.oneCell' = true := by
  intro u hu
  obtain ⟨x, _, hx⟩ := List.mem_flatMap.1 hu
  simp only [cl8, List.mem_cons, List.not_mem_nil, or_false] at hx
  rcases hx with rfl | rfl | rfl | rfl | rfl | rfl | rfl | rfl <;> rfl
theorem appS {ops : Array Oper} {rest : List Oper} {o : Oper} {a : Act} {Q : Exit → Act → World → Prop} {W : World} {L : List Sm} {ad : Option Addr} {g off n cap : Nat} (hn : L.length = n) (ha : n ≠ 0 → ad = some ⟨g, off, none⟩) (hc : Row8 W g off L) (hl : n ≤ 300)
    (hgd : o.guard = none) (s x : Operand) (ho : o.op = .call { callee := .builtin .append, args := #[s, x], argTypes := #[41, 41] }) (hs : a.eval s = .slice none 0 0) (hx : a.eval x = .slice ad n cap)
    (hK : ∀ ad' g' cap' w', (n ≠ 0 → ad' = some ⟨g', 0, none⟩) → (n ≠ 0 → g' < w'.heap.size) → Row8 w' g' 0 L → Bel W w' → wpList Tryz.prog ops Q rest (a.put o.dst (.slice ad' n cap')) w') : wpList Tryz.prog ops Q (o :: rest) a W := by
  obtain ⟨i0, hi, hz0, hz1, hz2⟩ := Tryz.i91
  subst hn
  by_cases h0 : L.length = 0
  · have hL := List.length_eq_zero_iff.1 h0
    have hk := hK none 0 0 W (fun h => absurd h0 h) (fun h => absurd h0 h) (fun j hj => by omega) (Bel.refl _)
    rw [h0] at hk hx
    refine wpList_plain hgd fun _ hKK => ?_
    have hr : (Builtin.append_ #[41, 41] o.type #[.slice none 0 0, .slice ad 0 cap]).run Tryz.prog W = .ok (.slice none 0 0) W := by
      refine run_append_nothing W 41 41 o.type 91 i0 Tryz.underlying41 hi none 0 0 (Nat.le_refl _) _ ⟨Or.inl ⟨91, Tryz.underlying41⟩, fun w' => ?_, ?_, ?_, by simp, by simp⟩
      · cases ad <;> simp [Builtin.lenOf]
      · cases ad <;> simp [Builtin.firstCells, loadCells, loadCellsFrom]
      · cases ad <;> simp [Builtin.firstCells, loadCells, loadCellsFrom]
    unfold Oper.wp execOp
    simp only [ho, resolve, invoke, builtin, Sem.run_bind, Sem.run_pure, Result.andThen_ok, List.map_toArray, List.map_cons, List.map_nil, hs, hx, hr]
    exact hKK _ _ hk
  · obtain rfl := ha h0
    refine wpList_append_lies (P := Tryz.prog) _ hgd s x 41 ho W.heap.size 91 i0 _ 8 24 Tryz.underlying41 hi hz0 hz1 hz2 rfl (by decide) (.slice none 0 0) 0 [] hs (World.ownsRow_nil _ _ _ _) ⟨g, off, none⟩ L.length cap (L.flatMap cl8) hx (flat_len _ cl8_len L) (fun t u ht => by rw [Addr.add_lit]; exact flat_cells cl8_len hc t u ht) cl8_one (by omega) (by unfold maxLen; omega) (by omega) (Nat.le_refl _) _ rfl ?_
    intro g' cap' w' hown hgrow _ _
    rw [Nat.zero_add, List.nil_append] at hown
    have hb : Bel W w' := ⟨hgrow.os, hgrow.tape, hgrow.output, hgrow.size, fun k hk => hgrow.block k hk (by simp [Value.ownBlock])⟩
    have := hK (some ⟨g', 0, none⟩) g' cap' w' (fun _ => rfl) (fun _ => (hown.lt g' rfl).2) (row_cells cl8_len hown) hb
    rw [Nat.zero_add]
    exact this
theorem Tryz.i29 : ∃ i, Tryz.prog.info? 29 = some i ∧ i.zero = some (.agg #[.bool false, .int .u64 0, .string ⟨#[]⟩, .int .u8 0, .bool false, .int .i64 0, .string ⟨#[]⟩, .int .u64 0]) ∧ i.size = 8 ∧ i.bytes = 72 := by
  have h : (Tryz.prog.info? 29).map (fun i => (i.zero, i.size, i.bytes)) = some (some (.agg #[.bool false, .int .u64 0, .string ⟨#[]⟩, .int .u8 0, .bool false, .int .i64 0, .string ⟨#[]⟩, .int .u64 0]), 8, 72) := by kernel_rfl
  obtain ⟨i, hi, hzz⟩ := Option.map_eq_some_iff.1 h
  simp only [Prod.mk.injEq] at hzz
  exact ⟨i, hi, hzz.1, hzz.2.1, hzz.2.2⟩
theorem cw8_len (x : Wm) : (cw8 x).length = 8 := rfl
theorem cw8_one {L : List Wm} : ∀ u ∈ L.flatMap cw8, u.oneCell' = true := by
  intro u hu
  obtain ⟨x, _, hx⟩ := List.mem_flatMap.1 hu
  simp only [cw8, List.mem_cons, List.not_mem_nil, or_false] at hx
  rcases hx with rfl | rfl | rfl | rfl | rfl | rfl | rfl | rfl <;> rfl
theorem appW {ops : Array Oper} {rest : List Oper} {o : Oper} {a : Act} {Q : Exit → Act → World → Prop} {W : World} {L : List Wm} {ad : Option Addr} {g off n cap : Nat} (hn : L.length = n) (ha : n ≠ 0 → ad = some ⟨g, off, none⟩) (hc : RowW W g off L) (hl : n ≤ 300)
    (hgd : o.guard = none) (s x : Operand) (ho : o.op = .call { callee := .builtin .append, args := #[s, x], argTypes := #[42, 42] }) (hs : a.eval s = .slice none 0 0) (hx : a.eval x = .slice ad n cap)
    (hK : ∀ ad' g' cap' w', (n ≠ 0 → ad' = some ⟨g', 0, none⟩) → (n ≠ 0 → g' < w'.heap.size) → RowW w' g' 0 L → Bel W w' → wpList Tryz.prog ops Q rest (a.put o.dst (.slice ad' n cap')) w') : wpList Tryz.prog ops Q (o :: rest) a W := by
  obtain ⟨i0, hi, hz0, hz1, hz2⟩ := Tryz.i29
  subst hn
  by_cases h0 : L.length = 0
  · have hL := List.length_eq_zero_iff.1 h0
    have hk := hK none 0 0 W (fun h => absurd h0 h) (fun h => absurd h0 h) (fun j hj => by omega) (Bel.refl _)
    rw [h0] at hk hx
    refine wpList_plain hgd fun _ hKK => ?_
    have hr : (Builtin.append_ #[42, 42] o.type #[.slice none 0 0, .slice ad 0 cap]).run Tryz.prog W = .ok (.slice none 0 0) W := by
      refine run_append_nothing W 42 42 o.type 29 i0 Tryz.underlying42 hi none 0 0 (Nat.le_refl _) _ ⟨Or.inl ⟨29, Tryz.underlying42⟩, fun w' => ?_, ?_, ?_, by simp, by simp⟩
      · cases ad <;> simp [Builtin.lenOf]
      · cases ad <;> simp [Builtin.firstCells, loadCells, loadCellsFrom]
      · cases ad <;> simp [Builtin.firstCells, loadCells, loadCellsFrom]
    unfold Oper.wp execOp
    simp only [ho, resolve, invoke, builtin, Sem.run_bind, Sem.run_pure, Result.andThen_ok, List.map_toArray, List.map_cons, List.map_nil, hs, hx, hr]
    exact hKK _ _ hk
  · obtain rfl := ha h0
    refine wpList_append_lies (P := Tryz.prog) _ hgd s x 42 ho W.heap.size 29 i0 _ 8 72 Tryz.underlying42 hi hz0 hz1 hz2 rfl (by decide) (.slice none 0 0) 0 [] hs (World.ownsRow_nil _ _ _ _) ⟨g, off, none⟩ L.length cap (L.flatMap cw8) hx (flat_len _ cw8_len L) (fun t u ht => by rw [Addr.add_lit]; exact flat_cells cw8_len hc t u ht) cw8_one (by omega) (by unfold maxLen; omega) (by omega) (Nat.le_refl _) _ rfl ?_
    intro g' cap' w' hown hgrow _ _
    rw [Nat.zero_add, List.nil_append] at hown
    have hb : Bel W w' := ⟨hgrow.os, hgrow.tape, hgrow.output, hgrow.size, fun k hk => hgrow.block k hk (by simp [Value.ownBlock])⟩
    have := hK (some ⟨g', 0, none⟩) g' cap' w' (fun _ => rfl) (fun _ => (hown.lt g' rfl).2) (row_cells cw8_len hown) hb
    rw [Nat.zero_add]
    exact this
theorem few {l M : List (List UInt8)} (h : l.Pairwise (· < ·)) (hm : ∀ x ∈ l, x ∈ M) : l.length ≤ M.length := by
  induction l generalizing M with
  | nil => exact Nat.zero_le _
  | cons a l ih =>
    have ha := hm a (by simp)
    obtain ⟨h1, h2⟩ := List.pairwise_cons.1 h
    have h3 := ih (M := M.erase a) h2 (fun x hx => (List.mem_erase_of_ne (fun e => by have := h1 x hx; rw [e] at this; exact List.lt_irrefl _ this)).2 (hm x (by simp [hx])))
    rw [List.length_erase_of_mem ha] at h3
    have := List.length_pos_of_mem ha
    simp only [List.length_cons]
    omega
end Go.Proofs.YtgghcfmpfneehaaGreatDoor
