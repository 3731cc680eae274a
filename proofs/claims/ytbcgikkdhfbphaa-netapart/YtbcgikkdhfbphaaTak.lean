/- Take, Drop, Double. -/
import Derived.Test.YtbcgikkdhfbphaaCut
import Derived.Deep.MidRow
namespace Go.Proofs.Ytbcgikkdhfbphaa
open Go.RowKit Go.Maps
theorem set3 {W : World} {B : Nat} {t : TypeId} {a0 a1 a2 : Value} (x y z : Value) (h : W.heap[B]? = some (.cells #[a0, a1, a2] t)) : (((W.setCell ⟨B, 0, none⟩ x).setCell ⟨B, 1, none⟩ y).setCell ⟨B, 2, none⟩ z).heap[B]? = some (.cells #[x, y, z] t) := by
  rw [row_set (row_set (row_set h))]
  simp
/-- A message is stored into a box. -/
theorem store_pk {ops : Array Oper} {rest : List Oper} {o : Oper} {a : Act} {W : World} {Q : Exit → Act → World → Prop} (hgd : o.guard = none) (x y : Operand) (ho : o.op = .store 46 x y) {B : Nat} {a0 a1 a2 : Value} (hB : W.heap[B]? = some (.cells #[a0, a1, a2] 46))
    (m : Pk) (hx : a.eval x = .pointer (some ⟨B, 0, none⟩)) (hy : a.eval y = pv m)
    (h : ∀ W', W'.heap[B]? = some (.cells #[.int .i64 m.1, .int .i64 m.2.1, .string m.2.2] 46) → Ch (fun i => i = B) W W' → wpList Try.prog ops Q rest (a.put o.dst undef) W') : wpList Try.prog ops Q (o :: rest) a W := by
  have hi : (Try.prog.info? 46).map (·.size) = some 3 := by kernel_rfl
  refine wpList_store_mid (P := Try.prog) hgd 46 x y ho B 0 #[.int .i64 m.1, .int .i64 m.2.1, .string m.2.2] hx hy (fun j hj => ?_) hi (all_oneCell_toArray (cs := [.int .i64 m.1, .int .i64 m.2.1, .string m.2.2]) (by simp [Value.oneCell'])) ?_
  · rw [Nat.zero_add]
    refine ⟨?_, free_row hB⟩
    rw [cell_of hB]
    have hj' : j < 3 := hj
    simp [hj']
  · have h1 := set3 (.int .i64 m.1) (.int .i64 m.2.1) (.string m.2.2) hB
    refine h _ h1 ?_
    exact (((Ch.refl (fun i => i = B) W).set (ad := ⟨B, 0, none⟩) (Or.inl rfl) _).set (ad := ⟨B, 1, none⟩) (Or.inl rfl) _).set (ad := ⟨B, 2, none⟩) (Or.inl rfl) _
def pk0 : Pk := (0, 0, ⟨#[]⟩)
/-- What Take answers, and what it leaves. -/
def PN.takeR (s : PN) (a b i : Int) : Pk × Int := if (s.peek a b i).2 = 0 then (if s.parted a b then (pk0, 3) else ((a, b, (s.peek a b i).1), 0)) else (pk0, (s.peek a b i).2)
def PN.takeS (s : PN) (a b i : Int) : PN := if (s.takeR a b i).2 = 0 then s.cut a b i.toNat else s
theorem peek_ok {s : PN} {a b i : Int} (h : (s.peek a b i).2 = 0) : s.may a ∧ s.may b ∧ 0 ≤ i ∧ i.toNat < (qs s.L a b).length ∧ (i.toNat : Int) = i ∧ (s.peek a b i).1 = (qs s.L a b)[i.toNat]?.getD ⟨#[]⟩ := by
  unfold PN.peek at h ⊢
  split at h
  · rename_i hm
    split at h
    · rename_i hi
      rw [if_pos hi, if_pos hm]
      have := mayBB.1 hm
      exact ⟨this.1, this.2, hi.1, by omega, by omega, rfl⟩
    · cases h
  · cases h
theorem Ch.out {M : Nat → Prop} {w w' : World} (h : Ch M w w') {B : Nat} (hB : ∀ i, M i → i < B) {k : Nat} {o : Obj} (hk : B ≤ k) (hr : w.heap[k]? = some o) : w'.heap[k]? = some o := h.row hr (fun hm => by have := hB k hm; omega)
theorem Ch.off {M : Nat → Prop} {w w1 w2 : World} {B : Nat} (h : Ch M w w1) (k : Ch (fun i => i = B) w1 w2) (hB : w.heap.size ≤ B) : Ch M w w2 := h.trans k (fun i hi => by rw [hi]; exact Or.inr hB)
theorem Nt.off {C : Nat} {w w' : World} {p B : Nat} {s : PN} {M : Nat → Prop} (h : Nt C w p s M) (k : Ch (fun i => i = B) w w') (hB : ¬ M B) : Nt C w' p s M := h.ch k (fun i h1 h2 => by rw [h2] at h1; exact hB h1)
theorem Nt.out {C : Nat} {w w2 w3 : World} {p : Nat} {s : PN} {M : Nat → Prop} (h : Nt C w p s M) (hb : Bel w w2) (hc : Ch (fun i => i = w.heap.size) w2 w3) : Aft (C + 1) w p M s w3 :=
  ⟨M, (((h.bel hb).off hc (fun hm => absurd (h.ltM _ hm) (by omega))).mono (Nat.le_succ _)), fun _ hi => Or.inl hi, (hb.ch M).off hc (Nat.le_refl _)⟩
theorem Aft.out {C : Nat} {w w1 w2 w3 : World} {p : Nat} {s : PN} {M : Nat → Prop} (h : Aft C w1 p M s w2) (hM : ∀ i, M i → i < w.heap.size) (hb : Bel w w1) (hl : w.heap.size < w1.heap.size) (hc : Ch (fun i => i = w.heap.size) w2 w3) : Aft C w p M s w3 := by
  obtain ⟨M', h1, h2, h3⟩ := h
  refine ⟨M', h1.off hc (fun hm => ?_), fun i hi => or_to (h2 i hi) id (fun h => Nat.le_trans hb.size h), ?_⟩
  · rcases h2 _ hm with h' | h'
    · exact absurd (hM _ h') (by omega)
    · omega
  · exact ((hb.ch M).trans h3 (fun i hi => Or.inl hi)).off hc (Nat.le_refl _)
set_option maxRecDepth 100000 in
set_option maxHeartbeats 1000000 in
theorem take_any {C : Nat} {w : World} {p : Nat} {s : PN} {M : Nat → Prop} (h : Nt C w p s M) (hC : C ≤ 900000) (a b i : Int) : Calls Try.prog 19 #[.pointer (some ⟨p, 0, none⟩), .int .i64 a, .int .i64 b, .int .i64 i] w fun e w' => e = .returned (.tuple #[pv (s.takeR a b i).1, .int .i64 (s.takeR a b i).2]) ∧ Aft (C + 1) w p M (s.takeS a b i) w' := by
  have hbel : Bel w (w.alloc (.cells #[.int .i64 0, .int .i64 0, .string ⟨#[]⟩] 46)) := (Bel.refl w).alloc _
  have hr0 := at_new w (.cells #[.int .i64 0, .int .i64 0, .string ⟨#[]⟩] 46)
  have hsz : (w.alloc (.cells #[.int .i64 0, .int .i64 0, .string ⟨#[]⟩] 46)).heap.size = w.heap.size + 1 := by simp
  generalize hW : w.alloc (.cells #[.int .i64 0, .int .i64 0, .string ⟨#[]⟩] 46) = W at *
  have hN := h.bel hbel
  have HM := hide h.ltM
  have HP := hide (peek_any hN a b i)
  have HB := hide hbel
  have HR := hide hr0
  have HN := hide hN
  have HH := hide h
  have HSZ := hide hsz
  clear hsz
  unfold PN.takeS PN.takeR
  by_cases he : (s.peek a b i).2 = 0
  · obtain ⟨ha, hb, hi0, hil, hii, hp1⟩ := peek_ok he
    rw [he] at HP
    simp only [he, if_true]
    have HPT := hide (fun w1 (hb1 : Bel W w1) => parted_any ((unhide HN).bel hb1) a b)
    by_cases hpt : s.parted a b = true
    · simp only [hpt, if_true]
      rw [hpt] at HPT
      generalize (s.peek a b i).1 = t at *
      clear h hN hbel hr0 ha hb hil hii hp1 he hpt
      go_enter Try.func19, Try.ntmps19
      go_wp2_with (first
        | (go_at_call 18; refine (unhide HP).mono ?_; rintro e w1 ⟨rfl, hb1⟩; have HB1 := hide hb1; clear hb1)
        | (go_at_call 20; refine ((unhide HPT) _ (unhide HB1)).mono ?_; rintro e w2 ⟨rfl, hb2⟩; have HB2 := hide ((unhide HB1).trans hb2); clear hb2)
        | (refine store_pk rfl _ _ rfl ((unhide HB2).row (unhide HR)) pk0 rfl rfl ?_; intro W3 hr3 hc3))
      have r0 := cell_of (i := 0) hr3
      have r1 := cell_of (i := 1) hr3
      have r2 := cell_of (i := 2) hr3
      exact bodyPost_ret (v := .tuple #[pv pk0, .int .i64 3]) (by simp [results, Try.results19, go_sem, r0, r1, r2, pv, pk0]) rfl ⟨rfl, (unhide HH).out ((unhide HB).trans (unhide HB2)) hc3⟩
    · have hpt' : s.parted a b = false := by simpa using hpt
      simp only [hpt', if_true, Bool.false_eq_true, if_false]
      rw [hpt'] at HPT
      have HCU := hide (fun w1 (hb1 : Bel W w1) => cut_yes ((unhide HN).bel hb1) hC ha hb hil)
      generalize (s.peek a b i).1 = t at *
      rw [hii] at HCU
      clear h hN hbel hr0 ha hb hil hii hp1 he hpt hpt'
      go_enter Try.func19, Try.ntmps19
      go_wp2_with (first
        | (go_at_call 18; refine (unhide HP).mono ?_; rintro e w1 ⟨rfl, hb1⟩; have HB1 := hide hb1; clear hb1)
        | (go_at_call 20; refine ((unhide HPT) _ (unhide HB1)).mono ?_; rintro e w2 ⟨rfl, hb2⟩; have HB2 := hide ((unhide HB1).trans hb2); clear hb2)
        | (go_at_call 45; refine ((unhide HCU) _ (unhide HB2)).mono ?_; rintro e w4 ⟨rfl, ha4⟩; have HR4 : Hid (w4.heap[w.heap.size]? = some (.cells #[.int .i64 0, .int .i64 0, .string ⟨#[]⟩] 46)) := hide (by obtain ⟨_, _, _, hc⟩ := ha4; exact hc.out (unhide HM) (Nat.le_refl _) ((unhide HB2).row (unhide HR))); have HA4 := hide ha4; clear ha4)
        | (refine store_pk rfl _ _ rfl (unhide HR4) (a, b, t) rfl rfl ?_; intro W3 hr3 hc3))
      have r0 := cell_of (i := 0) hr3
      have r1 := cell_of (i := 1) hr3
      have r2 := cell_of (i := 2) hr3
      exact bodyPost_ret (v := .tuple #[pv (a, b, t), .int .i64 0]) (by simp [results, Try.results19, go_sem, r0, r1, r2, pv]) rfl ⟨rfl, (unhide HA4).out (unhide HM) ((unhide HB).trans (unhide HB2)) (by have := (unhide HB2).size; have := unhide HSZ; omega) hc3⟩
  · simp only [he, if_false]
    generalize (s.peek a b i).1 = t at *
    generalize (s.peek a b i).2 = er at *
    have her : (er == 0) = false := by simpa using he
    clear h hN hbel hr0 he
    go_enter Try.func19, Try.ntmps19
    go_wp2_with (first
      | (go_at_call 18; refine (unhide HP).mono ?_; rintro e w1 ⟨rfl, hb1⟩; have HB1 := hide hb1; clear hb1)
      | (refine store_pk rfl _ _ rfl ((unhide HB1).row (unhide HR)) pk0 rfl rfl ?_; intro W3 hr3 hc3))
    have r0 := cell_of (i := 0) hr3
    have r1 := cell_of (i := 1) hr3
    have r2 := cell_of (i := 2) hr3
    exact bodyPost_ret (v := .tuple #[pv pk0, .int .i64 er]) (by simp [results, Try.results19, go_sem, r0, r1, r2, pv, pk0]) rfl ⟨rfl, (unhide HH).out ((unhide HB).trans (unhide HB1)) hc3⟩
end Go.Proofs.Ytbcgikkdhfbphaa
