/- Scan's function that visits cells. -/
import Derived.Test.YtkpallbnmckbaaaTow
import Derived.Test.YtkpallbnmckbaaaScp
namespace Go.Proofs.Ytkpallbnmckbaaa
open Go.RowKit Go.Shelf
/-- A cell is stored into a box of its own (beside rounds). -/
theorem store_cellIn {F : Fence} {n : Nat} {ops : Array Oper} {rest : List Oper} {o : Oper} {a : Act} {W : World} {Q : Exit → Act → World → Prop} (hgd : o.guard = none) (x y : Operand) (ho : o.op = .store 38 x y) {B : Nat} {a0 a1 a2 a3 : Value} (hB : W.heap[B]? = some (.cells #[a0, a1, a2, a3] 38))
    (k : ByteArray) (t : Int) (d : Bool) (v : ByteArray) (hx : a.eval x = .pointer (some ⟨B, 0, none⟩)) (hy : a.eval y = .agg #[.string k, .int .u64 t, .bool d, .string v])
    (h : ∀ W', W'.heap[B]? = some (.cells #[.string k, .int .u64 t, .bool d, .string v] 38) → Ch (fun i => i = B) W W' → wpListIn F n Try.prog ops Q rest (a.put o.dst undef) W') : wpListIn F n Try.prog ops Q (o :: rest) a W := by
  have hi : (Try.prog.info? 38).map (·.size) = some 4 := by kernel_rfl
  have hrun := run_storeAt_mid (P := Try.prog) W B 0 38 #[.string k, .int .u64 t, .bool d, .string v] (fun j hj => by
    rw [Nat.zero_add]
    refine ⟨?_, free_row hB⟩
    rw [cell_of hB]
    have hj' : j < 4 := hj
    simp [hj']) hi (all_oneCell_toArray (cs := [.string k, .int .u64 t, .bool d, .string v]) (by simp [Value.oneCell']))
  refine wpListIn_plain hgd fun K hK' => ?_
  unfold Oper.wpIn
  refine ⟨?_, ?_⟩
  · simp [Oper.about, ho]
  · rw [Oper.semAt_plain F _ _ (by rw [ho]; intro c hc'; cases hc')]
    simp only [execOp, ho, hx, hy, Sem.run_bind, hrun, Result.andThen_ok, Sem.run_pure]
    refine hK' _ _ (h _ (set4 (.string k) (.int .u64 t) (.bool d) (.string v) hB) ?_)
    exact ((((Ch.refl (fun i => i = B) W).set (ad := ⟨B, 0, none⟩) (Or.inl rfl) _).set (ad := ⟨B, 1, none⟩) (Or.inl rfl) _).set (ad := ⟨B, 2, none⟩) (Or.inl rfl) _).set (ad := ⟨B, 3, none⟩) (Or.inl rfl) _
/-- How Scan stands in memory: the bound's box and that of the loop's rounds. -/
structure ScJ (J : (Nat → Prop) → List C → World → Prop) (X : Nat → Prop) (B yb lp : Nat) (s : C × List C) (W : World) : Prop where
  j : J X s.2 W
  hB : W.heap[B]? = some (.cells #[.string s.1.k, .int .u64 s.1.t, .bool s.1.d, .string s.1.v] 38)
  hy : W.heap[yb]? = some (.cells #[.func (.yield lp) #[] #[]] 66)
theorem ScJ.next {w : World} {J : (Nat → Prop) → List C → World → Prop} {X : Nat → Prop} {B yb lp : Nat} {s : C × List C} {W W' : World} (hY : Yl w 4 900000 lp J) (h : ScJ J X B yb lp s W) (hb : Bel W W') : ScJ J X B yb lp s W' := ⟨hY.bel _ _ _ _ h.j hb, hb.row h.hB, hb.row h.hy⟩
theorem ScJ.moved {w : World} {J : (Nat → Prop) → List C → World → Prop} {X : Nat → Prop} {B yb lp : Nat} {s : C × List C} {W W' : World} (hY : Yl w 4 900000 lp J) (hX : X B) (h : ScJ J X B yb lp s W) (y : C) (hB : W'.heap[B]? = some (.cells #[.string y.k, .int .u64 y.t, .bool y.d, .string y.v] 38)) (hc : Ch (fun i => i = B) W W') : ScJ J X B yb lp (y, s.2) W' :=
  ⟨hY.set _ _ _ _ _ _ h.j hX h.hB hc, hB, hc.row h.hy (ne_type h.hy h.hB (by decide))⟩
set_option maxRecDepth 100000 in
set_option maxHeartbeats 4000000 in
theorem scc_any {w : World} {J : (Nat → Prop) → List C → World → Prop} {X : Nat → Prop} {B yb lp bto bt : Nat} {to : ByteArray} {t : Int} (hY : Yl w 4 900000 lp J) (hXB : X B) (hXy : X yb) (hto : w.heap[bto]? = some (.cells #[.string to] 9)) (htt : w.heap[bt]? = some (.cells #[.int .u64 t] 27))
    (s : C × List C) (k : ByteArray) (tt : Int) (d : Bool) (v : ByteArray) (W : World) (h : ScJ J X B yb lp s W) (hl : s.2.length < 900000) :
    Calls Try.prog 36 #[.agg #[.string k, .int .u64 tt, .bool d, .string v], .pointer (some ⟨bto, 0, none⟩), .pointer (some ⟨bt, 0, none⟩), .pointer (some ⟨B, 0, none⟩), .pointer (some ⟨yb, 0, none⟩)] W fun e w' => e = .returned (.bool (scS to t s (k, tt, d, v)).2) ∧ ScJ J X B yb lp (scS to t s (k, tt, d, v)).1 w' := by
  have hw := hY.old _ _ _ h.j
  have b1 : ∀ o, (W.alloc o).cell? ⟨bto, 0, none⟩ = some (.string to) := fun o => cell_of ((hw.trans ((Bel.refl _).alloc o)).row hto)
  have b2 : ∀ o, (W.alloc o).cell? ⟨bt, 0, none⟩ = some (.int .u64 t) := fun o => cell_of ((hw.trans ((Bel.refl _).alloc o)).row htt)
  have HT := hide (And.intro hto htt)
  have HY := hide hY
  obtain ⟨W0, hW0⟩ : ∃ W0, W0 = W.alloc (.cells #[.string k, .int .u64 tt, .bool d, .string v] 38) := ⟨_, rfl⟩
  have hb0 : Bel W W0 := by rw [hW0]; exact (Bel.refl _).alloc _
  have H0 := hide (h.next hY hb0)
  have HN : Hid (N4 W0 W.heap.size (k, tt, d, v)) := by rw [hW0]; exact N4.of (at_new W _)
  have hXB' : W.heap.size ≠ B := by have := lt_of_some h.hB; omega
  have HW0 := hide hW0
  have C32 := hide (fun W => behind_any k W)
  unfold vC at C32
  simp only [C.k, C.t, C.d, C.v] at C32
  have hem : (to.toList.isEmpty) = to.data.toList.isEmpty := by rw [Lib.toList_data]
  have hle : Op.bytesLess k.toList to.toList = Op.bytesLess k.data.toList to.data.toList := by rw [Lib.toList_data, Lib.toList_data]
  clear hto htt hY h hw hb0 hW0
  obtain ⟨em, hem'⟩ : ∃ em, to.data.toList.isEmpty = em := ⟨_, rfl⟩
  obtain ⟨le, hle'⟩ : ∃ le, Op.bytesLess k.data.toList to.data.toList = le := ⟨_, rfl⟩
  have hpast : past to k = (!em && !le) := by unfold past; rw [hem', hle']
  rw [hem'] at hem
  rw [hle'] at hle
  clear hem' hle'
  by_cases hp : past to k = true
  · have HS : Hid (scS to t s (k, tt, d, v) = (s, false)) := hide (by unfold scS; exact if_pos hp)
    rw [HS.out]
    rw [hpast] at hp
    have he : em = false := by cases em <;> simp at hp ⊢
    have hl' : le = false := by cases le <;> simp at hp ⊢
    subst he hl'
    clear hpast hp
    go_enter Try.func36, Try.ntmps36
    go_wp2_with fail
    go_ret
    refine ⟨rfl, ?_⟩
    rw [← unhide HW0]
    exact unhide H0
  · have hp' : (!em && !le) = false := by rw [← hpast]; simpa using hp
    cases em with
    | true =>
      clear hp' hle
      by_cases h2 : t < tt
      · have HS : Hid (scS to t s (k, tt, d, v) = (((k, t, false, ⟨#[]⟩), s.2), true)) := hide (by unfold scS; rw [if_neg hp]; exact if_pos h2)
        rw [HS.out]
        clear hp hpast
        go_enter Try.func36, Try.ntmps36
        go_wp2_with (refine store_cell rfl _ _ rfl (show (W.alloc (.cells #[.string k, .int .u64 tt, .bool d, .string v] 38)).heap[B]? = some (.cells #[.string s.1.k, .int .u64 s.1.t, .bool s.1.d, .string s.1.v] 38) by rw [← unhide HW0]; exact (unhide H0).hB) k t false ⟨#[]⟩ rfl rfl ?_; intro W2 hB2 hc2; rw [← unhide HW0] at hc2; have HJ2 := hide ((unhide H0).moved (unhide HY) hXB (k, t, false, ⟨#[]⟩) hB2 hc2); clear hB2 hc2)
        go_ret
        exact ⟨rfl, unhide HJ2⟩
      · cases d with
        | true =>
          have HS : Hid (scS to t s (k, tt, true, v) = ((beh k, s.2), true)) := hide (by unfold scS; rw [if_neg hp, if_neg h2]; rfl)
          rw [HS.out]
          clear hp hpast
          go_enter Try.func36, Try.ntmps36
          go_wp2_with (first | (go_at_call 32; refine (C32.out _).mono ?_; rintro e w1 ⟨rfl, hb1⟩; have hb1' : Bel W0 w1 := (by rw [unhide HW0]; exact hb1); have HJ1 := hide ((unhide H0).next (unhide HY) hb1'); have HN1 := hide ((unhide HN).bel hb1'); clear hb1 hb1') | (refine store_cell rfl _ _ rfl (unhide HJ1).hB k 0 false ⟨#[]⟩ rfl rfl ?_; intro W2 hB2 hc2; have HJ2 := hide ((unhide HJ1).moved (unhide HY) hXB (beh k) hB2 hc2); obtain ⟨z0, z1, z2, z3⟩ := (unhide HN1).ch hc2 hXB'; simp only [C.k, C.t, C.d, C.v] at z0 z1 z2 z3; clear hB2 hc2))
          go_ret
          exact ⟨rfl, unhide HJ2⟩
        | false =>
          have HS : Hid (scS to t s (k, tt, false, v) = ((beh k, s.2 ++ [(k, tt, false, v)]), true)) := hide (by unfold scS; rw [if_neg hp, if_neg h2]; rfl)
          rw [HS.out]
          clear hp hpast
          refine (callsIn_wide (n := 4)).1 ?_
          refine callsIn_of_wp Try.func36 rfl trivial ?_
          simp only [Try.ntmps36, List.size_toArray, List.length_cons, List.length_nil, Nat.reduceAdd, Nat.reduceSub, Array.replicate_succ, Array.replicate_zero, List.push_toArray, List.append_toArray, List.nil_append, List.cons_append]
          gi_wp2_with (first | (refine ⟨trivial, ?_⟩; gi_at_call 32; refine (callsIn_wide.2 (C32.out _)).mono ?_; rintro e w1 ⟨rfl, hb1⟩; have hb1' : Bel W0 w1 := (by rw [unhide HW0]; exact hb1); have HJ1 := hide ((unhide H0).next (unhide HY) hb1'); have HN1 := hide ((unhide HN).bel hb1'); clear hb1 hb1') | (refine store_cellIn rfl _ _ rfl (unhide HJ1).hB k 0 false ⟨#[]⟩ rfl rfl ?_; intro W2 hB2 hc2; have hJ2 := (unhide HJ1).moved (unhide HY) hXB (beh k) hB2 hc2; obtain ⟨z0, z1, z2, z3⟩ := (unhide HN1).ch hc2 hXB'; simp only [C.k, C.t, C.d, C.v] at z0 z1 z2 z3; have zy : W2.cell? ⟨yb, 0, none⟩ = some (.func (.yield lp) #[] #[]) := cell_of hJ2.hy; obtain ⟨yfn, ytm, yas, ybd, hyr, hyR⟩ := (unhide HY).yld X s.2 (k, tt, false, v) W2 hJ2.j hl; have hyr' : (Instr.yield lp #[.agg #[.string k, .int .u64 tt, .bool false, .string v]]).run Try.prog W2 = .ok (.round lp yfn ytm yas ybd) W2 := hyr; have HYR := hide hyR; have HJ2 := hide hJ2; clear hB2 hc2 hyr hyR hJ2) | (refine (unhide HYR).mono ?_; rintro e w4 ⟨rfl, hj4, hx4⟩; have HJ4 := hide (show ScJ J X B yb lp (beh k, s.2 ++ [(k, tt, false, v)]) w4 from ⟨hj4, (hx4 B hXB).trans (unhide HJ2).hB, (hx4 yb hXy).trans (unhide HJ2).hy⟩); clear hj4 hx4))
          go_ret
          exact ⟨rfl, unhide HJ4⟩
    | false =>
      have hlt : le = true := by simpa using hp'
      subst hlt
      clear hp'
      by_cases h2 : t < tt
      · have HS : Hid (scS to t s (k, tt, d, v) = (((k, t, false, ⟨#[]⟩), s.2), true)) := hide (by unfold scS; rw [if_neg hp]; exact if_pos h2)
        rw [HS.out]
        clear hp hpast
        go_enter Try.func36, Try.ntmps36
        go_wp2_with (refine store_cell rfl _ _ rfl (show (W.alloc (.cells #[.string k, .int .u64 tt, .bool d, .string v] 38)).heap[B]? = some (.cells #[.string s.1.k, .int .u64 s.1.t, .bool s.1.d, .string s.1.v] 38) by rw [← unhide HW0]; exact (unhide H0).hB) k t false ⟨#[]⟩ rfl rfl ?_; intro W2 hB2 hc2; rw [← unhide HW0] at hc2; have HJ2 := hide ((unhide H0).moved (unhide HY) hXB (k, t, false, ⟨#[]⟩) hB2 hc2); clear hB2 hc2)
        go_ret
        exact ⟨rfl, unhide HJ2⟩
      · cases d with
        | true =>
          have HS : Hid (scS to t s (k, tt, true, v) = ((beh k, s.2), true)) := hide (by unfold scS; rw [if_neg hp, if_neg h2]; rfl)
          rw [HS.out]
          clear hp hpast
          go_enter Try.func36, Try.ntmps36
          go_wp2_with (first | (go_at_call 32; refine (C32.out _).mono ?_; rintro e w1 ⟨rfl, hb1⟩; have hb1' : Bel W0 w1 := (by rw [unhide HW0]; exact hb1); have HJ1 := hide ((unhide H0).next (unhide HY) hb1'); have HN1 := hide ((unhide HN).bel hb1'); clear hb1 hb1') | (refine store_cell rfl _ _ rfl (unhide HJ1).hB k 0 false ⟨#[]⟩ rfl rfl ?_; intro W2 hB2 hc2; have HJ2 := hide ((unhide HJ1).moved (unhide HY) hXB (beh k) hB2 hc2); obtain ⟨z0, z1, z2, z3⟩ := (unhide HN1).ch hc2 hXB'; simp only [C.k, C.t, C.d, C.v] at z0 z1 z2 z3; clear hB2 hc2))
          go_ret
          exact ⟨rfl, unhide HJ2⟩
        | false =>
          have HS : Hid (scS to t s (k, tt, false, v) = ((beh k, s.2 ++ [(k, tt, false, v)]), true)) := hide (by unfold scS; rw [if_neg hp, if_neg h2]; rfl)
          rw [HS.out]
          clear hp hpast
          refine (callsIn_wide (n := 4)).1 ?_
          refine callsIn_of_wp Try.func36 rfl trivial ?_
          simp only [Try.ntmps36, List.size_toArray, List.length_cons, List.length_nil, Nat.reduceAdd, Nat.reduceSub, Array.replicate_succ, Array.replicate_zero, List.push_toArray, List.append_toArray, List.nil_append, List.cons_append]
          gi_wp2_with (first | (refine ⟨trivial, ?_⟩; gi_at_call 32; refine (callsIn_wide.2 (C32.out _)).mono ?_; rintro e w1 ⟨rfl, hb1⟩; have hb1' : Bel W0 w1 := (by rw [unhide HW0]; exact hb1); have HJ1 := hide ((unhide H0).next (unhide HY) hb1'); have HN1 := hide ((unhide HN).bel hb1'); clear hb1 hb1') | (refine store_cellIn rfl _ _ rfl (unhide HJ1).hB k 0 false ⟨#[]⟩ rfl rfl ?_; intro W2 hB2 hc2; have hJ2 := (unhide HJ1).moved (unhide HY) hXB (beh k) hB2 hc2; obtain ⟨z0, z1, z2, z3⟩ := (unhide HN1).ch hc2 hXB'; simp only [C.k, C.t, C.d, C.v] at z0 z1 z2 z3; have zy : W2.cell? ⟨yb, 0, none⟩ = some (.func (.yield lp) #[] #[]) := cell_of hJ2.hy; obtain ⟨yfn, ytm, yas, ybd, hyr, hyR⟩ := (unhide HY).yld X s.2 (k, tt, false, v) W2 hJ2.j hl; have hyr' : (Instr.yield lp #[.agg #[.string k, .int .u64 tt, .bool false, .string v]]).run Try.prog W2 = .ok (.round lp yfn ytm yas ybd) W2 := hyr; have HYR := hide hyR; have HJ2 := hide hJ2; clear hB2 hc2 hyr hyR hJ2) | (refine (unhide HYR).mono ?_; rintro e w4 ⟨rfl, hj4, hx4⟩; have HJ4 := hide (show ScJ J X B yb lp (beh k, s.2 ++ [(k, tt, false, v)]) w4 from ⟨hj4, (hx4 B hXB).trans (unhide HJ2).hB, (hx4 yb hXy).trans (unhide HJ2).hy⟩); clear hj4 hx4))
          go_ret
          exact ⟨rfl, unhide HJ4⟩
end Go.Proofs.Ytkpallbnmckbaaa
