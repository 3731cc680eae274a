/- The document's Sync and Crash. -/
import Derived.Test.YtpngcmlaimcceaaDoe
import Derived.Test.YtpngcmlaimcceaaCrb
import Derived.Deep.Upon
namespace Go.Proofs.Ytpngcmlaimcceaa
open Go.RowKit Go.Maps Go.WideMaps
theorem fcs_one : ∀ l : Fs, ∀ u ∈ fcs l, u.oneCell' = true
  | [], u, h => by simp [fcs] at h
  | p :: r, u, h => by
    rw [fcs] at h
    rcases List.mem_cons.1 h with rfl | h
    · rfl
    · rcases List.mem_cons.1 h with rfl | h
      · rfl
      · exact fcs_one r u h
/-- A row of files, copied. -/
theorem app_copy {ops : Array Oper} {rest : List Oper} {o : Oper} {a : Act} {Q : Exit → Act → World → Prop} {W : World} {l : Fs} {v : Value} (hr : Rf W v l) (hl : l.length ≤ 100000)
    (hgd : o.guard = none) (s x : Operand) (ho : o.op = .call { callee := .builtin .append, args := #[s, x], argTypes := #[31, 31] }) (H : Nat) (hH : W.heap.size = H) (hs : a.eval s = .slice (some ⟨H, 0, none⟩) 0 0) (hx : a.eval x = v)
    (hK : ∀ g cap w', Ro W w' (.slice (some ⟨g, 0, none⟩) l.length cap) l → wpList Try.prog ops Q rest (a.put o.dst (.slice (some ⟨g, 0, none⟩) l.length cap)) w') : wpList Try.prog ops Q (o :: rest) a (W.alloc (.cells #[] 66)) := by
  subst hH
  obtain ⟨i0, hi, hz0, hz1, hz2⟩ := Try.i66
  have hempty : (W.alloc (.cells #[] 66)).ownsRow W.heap.size 66 2 (.slice (some ⟨W.heap.size, 0, none⟩) 0 0) 0 [] := ⟨rfl, Or.inr ⟨W.heap.size, 0, #[], rfl, Nat.le_refl _, at_new W _, Nat.le_refl _, Nat.zero_le _, rfl, rfl⟩⟩
  by_cases h0 : l.length = 0
  · have hL := List.length_eq_zero_iff.1 h0
    subst hL
    obtain ⟨ad, cap, g, rfl, _⟩ := hr.shape
    have hk := hK W.heap.size 0 _ ⟨hempty, (Bel.refl W).alloc _⟩
    refine wpList_plain hgd fun _ hKK => ?_
    have hrun : (Builtin.append_ #[31, 31] o.type #[.slice (some ⟨W.heap.size, 0, none⟩) 0 0, .slice ad 0 cap]).run Try.prog (W.alloc (.cells #[] 66)) = .ok (.slice (some ⟨W.heap.size, 0, none⟩) 0 0) (W.alloc (.cells #[] 66)) := by
      refine run_append_nothing _ 31 31 o.type 66 i0 Try.underlying31 hi (some ⟨W.heap.size, 0, none⟩) 0 0 (Nat.le_refl _) _ ⟨Or.inl ⟨66, Try.underlying31⟩, fun w' => ?_, ?_, ?_, by simp, by simp⟩
      · cases ad <;> simp [Builtin.lenOf]
      · cases ad <;> simp [Builtin.firstCells, loadCells, loadCellsFrom]
      · cases ad <;> simp [Builtin.firstCells, loadCells, loadCellsFrom]
    unfold Oper.wp execOp
    have hx' : a.eval x = .slice ad 0 cap := hx
    simp only [ho, resolve, invoke, builtin, Sem.run_bind, Sem.run_pure, Result.andThen_ok, List.map_toArray, List.map_cons, List.map_nil, hs, hx', hrun]
    exact hKK _ _ hk
  · have hr' : Rf (W.alloc (.cells #[] 66)) v l := hr.bel ((Bel.refl W).alloc _)
    rcases hr'.2 with ⟨_, h1⟩ | ⟨g, cap, cur, rfl, _, hg, hc, _, hcs, htk⟩
    · exact absurd h1 h0
    refine wpList_append_lies (P := Try.prog) _ hgd s x 31 ho W.heap.size 66 i0 _ 2 32 Try.underlying31 hi hz0 hz1 hz2 rfl (by decide) (.slice (some ⟨W.heap.size, 0, none⟩) 0 0) 0 [] hs hempty ⟨g, 0, none⟩ l.length cap (fcs l) hx (fcs_len l) (fun j u hu => ?_) (fcs_one l) (by omega) (by unfold maxLen; omega) (by omega) (by simp) _ rfl ?_
    · rw [Addr.add_lit, Nat.zero_add]
      have hj : j < l.length * 2 := by rw [← fcs_len]; exact (List.getElem?_eq_some_iff.1 hu).1
      rw [World.ownsRow.cellAt hr' j hj]
      exact hu
    · intro g' cap' w' hown hgrow _ _
      rw [Nat.zero_add, List.nil_append] at hown
      rw [Nat.zero_add]
      exact hK g' cap' w' ⟨hown, ((Below.refl _ _).alloc (Nat.le_refl _) _).grown hgrow (by simp) (fun k hk => by cases hk; exact Nat.le_refl _)⟩
/-- Nothing is loose any more, and both rows are these. -/
theorem dx_of {C : Nat} {w w' : World} {p : Nat} {d : PD} {M B : Nat → Prop} {vk vn : Value} {S : Fs} (h : Dx C w p d M B) (hM : M p) (hrow : w'.heap[p]? = some (.cells #[.int .i64 d.room, vk, .slice none 0 0, vn] 34)) (hk : Rf w' vk S) (hn : Rf w' vn S) (hF : Fine C S) (hch : Ch M w w')
    (hfk : ∀ k, vk.ownBlock = some k → B k ∨ w.heap.size ≤ k) (hfn : ∀ k, vn.ownBlock = some k → B k ∨ w.heap.size ≤ k) : Afx C w p M B ⟨d.room, S, S, []⟩ w' := by
  have hp := h.ltM p hM
  have hne : ∀ {v : Value}, (∀ k, v.ownBlock = some k → B k ∨ w.heap.size ≤ k) → v.ownBlock ≠ some p := fun {v} hf e => by
    rcases hf p e with h' | h'
    · exact h.dis p hM h'
    · omega
  refine ⟨M, fun i => B i ∨ vk.ownBlock = some i ∨ vn.ownBlock = some i, ⟨⟨vk, .slice none 0 0, vn, ⟨hrow, hk, hn, World.ownsRow_nil _ _ _ _, hne hfk, hne hfn, by simp [Value.ownBlock]⟩, hM, (fun k hk => by cases hk), (fun k hk => Or.inr (Or.inl hk)), (fun k hk => Or.inr (Or.inr hk))⟩, rfl, hF, ?_, ?_, ?_, h.room⟩, fun _ hi => Or.inl hi, ?_, hch⟩
  · have key : ∀ {v : Value}, (∀ k, v.ownBlock = some k → B k ∨ w.heap.size ≤ k) → ∀ i, M i → v.ownBlock = some i → False := fun {v} hf i hm e => by
      rcases hf i e with h' | h'
      · exact h.dis i hm h'
      · have := h.ltM i hm; omega
    rintro i hm (hb | hb | hb)
    · exact h.dis i hm hb
    · exact key hfk i hm hb
    · exact key hfn i hm hb
  · exact fun i hi => Nat.lt_of_lt_of_le (h.ltM i hi) hch.size
  · rintro i (hb | hb | hb)
    · exact Nat.lt_of_lt_of_le (h.ltB i hb) hch.size
    · exact (World.ownsRow.lt hk i hb).2
    · exact (World.ownsRow.lt hn i hb).2
  · rintro i (hb | hb | hb)
    · exact Or.inl hb
    · exact hfk i hb
    · exact hfn i hb
set_option maxRecDepth 100000 in
set_option maxHeartbeats 1000000 in
theorem dsync_any {C : Nat} {w : World} {p : Nat} {d : PD} {M B : Nat → Prop} (h : Dx C w p d M B) :
    Calls Try.prog 29 #[.pointer (some ⟨p, 0, none⟩)] w fun e w' => e = .returned (.tuple #[]) ∧ Afx C w p M B d.sync w' := by
  have hlen : d.seen.length ≤ 4096 := h.fine.len
  obtain ⟨vk, vo, vn, h1, hMp, hMo, hBk, hBn⟩ := h.co
  obtain ⟨an, cn, gn, hvn, _, _, _⟩ := h1.now.shape
  subst hvn
  have c3A : ∀ o, (w.alloc o).cell? ⟨p, 3, none⟩ = some (.slice an d.seen.length cn) := fun o => cell_of (((Bel.refl w).alloc o).row h1.row)
  have H := hide h
  have H1 := hide h1
  clear h h1
  go_enter Try.func29, Try.ntmps29
  go_wp2_with (first
    | (at_builtin; refine app_copy (unhide H1).now (by omega) rfl _ _ rfl _ rfl rfl rfl ?_; intro g cap w1 hro; have hr1 : Hid (w1.heap[p]? = some (.cells #[.int .i64 d.room, vk, vo, .slice an d.seen.length cn] 34)) := hro.bel.row (unhide H1).row; have z1 : w1.cell? ⟨p, 1, none⟩ = some vk := cell_of (unhide hr1); have z2 := free_row (p := 1) (unhide hr1); have z3 : ∀ x, (w1.setCell ⟨p, 1, none⟩ x).cell? ⟨p, 2, none⟩ = some vo := (fun x => cell_of (row_set (unhide hr1))); have z4 : ∀ x, (w1.setCell ⟨p, 1, none⟩ x).frozen? ⟨p, 2, none⟩ = false := (fun x => free_row (row_set (unhide hr1))))
    | go_in)
  go_end0
  refine ⟨rfl, dx_of (unhide H) hMp (row_set (row_set (unhide hr1))) (vk := .slice (some ⟨g, 0, none⟩) d.seen.length cap) ?_ ?_ (unhide H).fine ?_ (fun k hk => Or.inr (hro.fresh k hk)) (fun k hk => Or.inl (hBn k hk))⟩
  · have hgp : g ≠ p := fun e => by have h1 := hro.fresh g rfl; have h2 := lt_of_some (unhide H1).row; omega
    exact row_at hro.rf (fun k hk => by cases hk; rw [Below.heap_setCell _ _ _ _ (show g ≠ p from hgp), Below.heap_setCell _ _ _ _ (show g ≠ p from hgp)])
  · refine row_at (hro.bel |> (unhide H1).now.bel) (fun k hk => ?_)
    have hkp : k ≠ p := fun e => (unhide H1).n2 (by rw [← e]; exact hk)
    rw [Below.heap_setCell _ _ _ _ (show k ≠ p from hkp), Below.heap_setCell _ _ _ _ (show k ≠ p from hkp)]
  · exact ((hro.bel.ch M).set (Or.inl hMp) _).set (Or.inl hMp) _
theorem crash_mid {w W w5 : World} {p g1 cp1 : Nat} {vk vo vn vl : Value} {room : Int} {seen synced S : Fs} {ops : List Op5} (h1 : Dc w p vk vo vn room seen synced ops) (hp : p < w.heap.size) (hr : Rf W vl S) (hb : Bel w W) (hro : Ro W w5 (.slice (some ⟨g1, 0, none⟩) S.length cp1) S) :
    w5.cell? ⟨p, 1, none⟩ = some vk ∧ w5.frozen? ⟨p, 1, none⟩ = false ∧ Hid ((w5.setCell ⟨p, 1, none⟩ (.slice (some ⟨g1, 0, none⟩) S.length cp1)).heap[p]? = some (.cells #[.int .i64 room, .slice (some ⟨g1, 0, none⟩) S.length cp1, vo, vn] 34) ∧ Rf (w5.setCell ⟨p, 1, none⟩ (.slice (some ⟨g1, 0, none⟩) S.length cp1)) vl S ∧ Rf (w5.setCell ⟨p, 1, none⟩ (.slice (some ⟨g1, 0, none⟩) S.length cp1)) (.slice (some ⟨g1, 0, none⟩) S.length cp1) S ∧ Ch (fun i => i = p) w (w5.setCell ⟨p, 1, none⟩ (.slice (some ⟨g1, 0, none⟩) S.length cp1)) ∧ w.heap.size ≤ g1) := by
  have hr5 := (hb.trans hro.bel).row h1.row
  have hg : w.heap.size ≤ g1 := Nat.le_trans hb.size (hro.fresh g1 rfl)
  refine ⟨cell_of hr5, free_row hr5, row_set hr5, ?_, ?_, ((hb.trans hro.bel).ch (fun i => i = p)).set (Or.inl rfl) _, hg⟩
  · refine row_at (hr.bel hro.bel) (fun k hk => Below.heap_setCell _ _ _ _ (show k ≠ p from fun e => ?_))
    subst e
    have := hr.2
    rcases hr.2 with ⟨rfl, _⟩ | ⟨g, cap, cur, rfl, _, hg', _⟩
    · cases hk
    · cases hk
      rw [hb.row h1.row] at hg'
      cases hg'
  · exact row_at hro.rf (fun k hk => by cases hk; exact Below.heap_setCell _ _ _ _ (show g1 ≠ p by omega))
theorem crash_mid2 {w w5 w6 : World} {p g1 cp1 g2 cp2 : Nat} {vo vn vl : Value} {room : Int} {S : Fs} (hE : w5.heap[p]? = some (.cells #[.int .i64 room, .slice (some ⟨g1, 0, none⟩) S.length cp1, vo, vn] 34) ∧ Rf w5 vl S ∧ Rf w5 (.slice (some ⟨g1, 0, none⟩) S.length cp1) S ∧ Ch (fun i => i = p) w w5 ∧ w.heap.size ≤ g1) (hp : p < w.heap.size) (hro : Ro w5 w6 (.slice (some ⟨g2, 0, none⟩) S.length cp2) S) :
    w6.cell? ⟨p, 3, none⟩ = some vn ∧ w6.frozen? ⟨p, 3, none⟩ = false ∧ (∀ x, (w6.setCell ⟨p, 3, none⟩ x).cell? ⟨p, 2, none⟩ = some vo) ∧ (∀ x, (w6.setCell ⟨p, 3, none⟩ x).frozen? ⟨p, 2, none⟩ = false) ∧
      Hid (((w6.setCell ⟨p, 3, none⟩ (.slice (some ⟨g2, 0, none⟩) S.length cp2)).setCell ⟨p, 2, none⟩ (.slice none 0 0)).heap[p]? = some (.cells #[.int .i64 room, .slice (some ⟨g1, 0, none⟩) S.length cp1, .slice none 0 0, .slice (some ⟨g2, 0, none⟩) S.length cp2] 34) ∧
        Rf ((w6.setCell ⟨p, 3, none⟩ (.slice (some ⟨g2, 0, none⟩) S.length cp2)).setCell ⟨p, 2, none⟩ (.slice none 0 0)) (.slice (some ⟨g1, 0, none⟩) S.length cp1) S ∧
        Rf ((w6.setCell ⟨p, 3, none⟩ (.slice (some ⟨g2, 0, none⟩) S.length cp2)).setCell ⟨p, 2, none⟩ (.slice none 0 0)) (.slice (some ⟨g2, 0, none⟩) S.length cp2) S ∧
        Ch (fun i => i = p) w ((w6.setCell ⟨p, 3, none⟩ (.slice (some ⟨g2, 0, none⟩) S.length cp2)).setCell ⟨p, 2, none⟩ (.slice none 0 0)) ∧ (∀ k, (Value.slice (some ⟨g1, 0, none⟩) S.length cp1).ownBlock = some k → w.heap.size ≤ k) ∧ (∀ k, (Value.slice (some ⟨g2, 0, none⟩) S.length cp2).ownBlock = some k → w.heap.size ≤ k)) := by
  obtain ⟨e1, e2, e3, e4, e5⟩ := hE
  have hr6 := hro.bel.row e1
  have hg2 : w.heap.size ≤ g2 := Nat.le_trans e4.size (hro.fresh g2 rfl)
  have hne : ∀ k, k ≠ p → ((w6.setCell ⟨p, 3, none⟩ (.slice (some ⟨g2, 0, none⟩) S.length cp2)).setCell ⟨p, 2, none⟩ (.slice none 0 0)).heap[k]? = w6.heap[k]? := fun k hk => by
    rw [Below.heap_setCell _ _ _ _ (show k ≠ p from hk), Below.heap_setCell _ _ _ _ (show k ≠ p from hk)]
  refine ⟨cell_of hr6, free_row hr6, fun x => cell_of (row_set hr6), fun x => free_row (row_set hr6), row_set (row_set hr6), ?_, ?_, ((e4.bel hro.bel).set (Or.inl rfl) _).set (Or.inl rfl) _, fun k hk => by cases hk; exact e5, fun k hk => by cases hk; exact hg2⟩
  · exact row_at (e3.bel hro.bel) (fun k hk => by cases hk; exact hne g1 (by omega))
  · exact row_at hro.rf (fun k hk => by cases hk; exact hne g2 (by omega))
set_option maxRecDepth 100000 in
set_option maxHeartbeats 8000000 in
theorem dcrash_any {C : Nat} {w : World} {p : Nat} {d : PD} {M B : Nat → Prop} (h : Dx C w p d M B) (keep torn : Int) (hol : d.ops.length ≤ 1000000) (hC : 2 * C ≤ 1099511627776) (ht : ∀ o ∈ d.ops, (oT o).length ≤ C) :
    Calls Try.prog 30 #[.pointer (some ⟨p, 0, none⟩), .int .i64 keep, .int .i64 torn] w fun e w' => e = .returned (.int .i64 (d.crash keep torn).1) ∧ Afx C w p M B (d.crash keep torn).2 w' := by
  obtain ⟨vk, vo, vn, h1, hMp, hMo, hBk, hBn⟩ := h.co
  obtain ⟨ao, co, hvo, hco, hgo⟩ := own_shape h1.ops
  subst hvo
  have k2 : w.cell? ⟨p, 2, none⟩ = some (.slice ao d.ops.length co) := cell_of h1.row
  have H := hide h
  have H1 := hide h1
  by_cases hbad : keep < 0 ∨ (d.ops.length : Int) < keep ∨ torn < 0
  · have hres : Hid (d.crash keep torn = (2, d)) := if_pos hbad
    clear h h1 hgo
    rcases hbad with hb | hb | hb
    · go_enter Try.func30, Try.ntmps30
      go_wp2_with fail
      go_ret
      rw [unhide hres]
      exact ⟨rfl, (unhide H).aft (Bel.refl _)⟩
    · go_enter Try.func30, Try.ntmps30
      go_wp2_with fail
      all_goals
        go_ret
        rw [unhide hres]
        exact ⟨rfl, (unhide H).aft (Bel.refl _)⟩
    · go_enter Try.func30, Try.ntmps30
      go_wp2_with fail
      all_goals
        go_ret
        rw [unhide hres]
        exact ⟨rfl, (unhide H).aft (Bel.refl _)⟩
  · obtain ⟨K, rfl⟩ : ∃ K : Nat, keep = K := ⟨keep.toNat, by omega⟩
    obtain ⟨T, rfl⟩ : ∃ T : Nat, torn = T := ⟨torn.toNat, by omega⟩
    have hKn : K ≤ d.ops.length := by omega
    have hres : Hid (d.crash K T = (0, ⟨d.room, d.left K T, d.left K T, []⟩)) := by
      unfold PD.crash
      rw [if_neg hbad]
      rfl
    have k1 : w.cell? ⟨p, 1, none⟩ = some vk := cell_of h1.row
    have hst : Hid (Rf w vk d.synced ∧ Bel w w) := ⟨h1.kept, Bel.refl w⟩
    have hKi : (K : Int) ≤ (d.ops.length : Int) := by omega
    have hK0 : (0 : Int) ≤ (K : Int) := by omega
    have hT0 : (0 : Int) ≤ (T : Int) := by omega
    have hd1 : decide ((K : Int) < 0) = false := decide_eq_false (by omega)
    have hd2 : decide (d.ops.length < K) = false := decide_eq_false (by omega)
    have hd3 : decide ((T : Int) < 0) = false := decide_eq_false (by omega)
    have HG := hide hgo
    have HT := hide ht
    have hpl : p < w.heap.size := lt_of_some h1.row
    clear h h1 hbad hgo ht
    go_enter Try.func30, Try.ntmps30
    go_wp2_with fail
    go_loopw [7, 8] (fun vl vi W => ∃ k : Nat, k ≤ K ∧ vi = .int .i64 k ∧ Hid (Rf W vl ((d.ops.take k).foldl run5 d.synced) ∧ Bel w W)) (fun _ vi _ => K - (intOf vi).toNat)
    case atStart => exact ⟨0, Nat.zero_le _, rfl, hst⟩
    case round =>
      obtain ⟨k, hk, rfl, HO⟩ := hrel
      by_cases hlt : k < K
      · have hkn : k < d.ops.length := by omega
        obtain ⟨go, rfl⟩ := (unhide HG) (by omega)
        obtain ⟨e0, e1, e2, e3⟩ := ocs_at d.ops k hkn
        have hb := (unhide HO).2
        have hops := row_at (unhide H1).ops (fun j hj => hb.block j ((unhide H1).ops.lt j hj).2)
        have x0 : wr.cell? ⟨go, k * 4, none⟩ = some (.int .i64 (oC d.ops[k])) := (hops.cellAt (k * 4) (by omega)).trans e0
        have x1 : wr.cell? ⟨go, k * 4 + 1, none⟩ = some (.string ⟨(oN d.ops[k]).toArray⟩) := (hops.cellAt (k * 4 + 1) (by omega)).trans e1
        have x2 : wr.cell? ⟨go, k * 4 + 2, none⟩ = some (.string ⟨(oT d.ops[k]).toArray⟩) := (hops.cellAt (k * 4 + 2) (by omega)).trans e2
        have x3 : wr.cell? ⟨go, k * 4 + 3, none⟩ = some (.int .i64 (oK d.ops[k])) := (hops.cellAt (k * 4 + 3) (by omega)).trans e3
        have y2 : wr.cell? ⟨p, 2, none⟩ = some (.slice (some ⟨go, 0, none⟩) d.ops.length co) := cell_of (hb.row (unhide H1).row)
        obtain ⟨hfi1, hok1, hfi2⟩ := (unhide H).val.mid hkn
        have h52 := hide (ddoes_any _ _ d.ops[k] wr (unhide HO).1 (by have := hfi1.len; omega) hfi1.srt hok1 (by have h1 := (unhide HT) d.ops[k] (List.getElem_mem hkn); have h2 := hfi1.tot; omega))
        have hnext : Hid ((d.ops.take (k + 1)).foldl run5 d.synced = run5 ((d.ops.take k).foldl run5 d.synced) d.ops[k]) := by
          show _ = _
          rw [List.take_succ_eq_append_getElem hkn, List.foldl_append]
          rfl
        have HBW := hide hb
        unfold vO at h52
        clear e0 e1 e2 e3 hops hfi1 hok1 hfi2 hb
        generalize oC d.ops[k] = cc at *
        generalize oN d.ops[k] = cnn at *
        generalize oT d.ops[k] = ctt at *
        generalize oK d.ops[k] = ckk at *
        go_wp2_with (go_at_call 52; refine (unhide h52).mono ?_; rintro e w3 ⟨v', rfl, hro⟩)
        go_roundw
        case rel => exact ⟨k + 1, by omega, by go_num, by rw [unhide hnext]; exact ⟨hro.rf, (unhide HBW).trans hro.bel⟩⟩
        case measure => simp [intOf]; omega
      · obtain rfl : k = K := by omega
        obtain ⟨cur, hcur⟩ : ∃ cur, cur = (d.ops.take k).foldl run5 d.synced := ⟨_, rfl⟩
        rw [← hcur] at HO
        by_cases hkn : k < d.ops.length
        · obtain ⟨go, rfl⟩ := (unhide HG) (by omega)
          obtain ⟨e0, e1, e2, e3⟩ := ocs_at d.ops k hkn
          have hb := (unhide HO).2
          have hops := row_at (unhide H1).ops (fun j hj => hb.block j ((unhide H1).ops.lt j hj).2)
          have x0 : wr.cell? ⟨go, k * 4, none⟩ = some (.int .i64 (oC d.ops[k])) := (hops.cellAt (k * 4) (by omega)).trans e0
          have x1 : wr.cell? ⟨go, k * 4 + 1, none⟩ = some (.string ⟨(oN d.ops[k]).toArray⟩) := (hops.cellAt (k * 4 + 1) (by omega)).trans e1
          have x2 : wr.cell? ⟨go, k * 4 + 2, none⟩ = some (.string ⟨(oT d.ops[k]).toArray⟩) := (hops.cellAt (k * 4 + 2) (by omega)).trans e2
          have x3 : wr.cell? ⟨go, k * 4 + 3, none⟩ = some (.int .i64 (oK d.ops[k])) := (hops.cellAt (k * 4 + 3) (by omega)).trans e3
          have y2 : wr.cell? ⟨p, 2, none⟩ = some (.slice (some ⟨go, 0, none⟩) d.ops.length co) := cell_of (hb.row (unhide H1).row)
          obtain ⟨hfi1, hok1, hfi2⟩ := (unhide H).val.mid hkn
          have hnext : (d.ops.take (k + 1)).foldl run5 d.synced = run5 ((d.ops.take k).foldl run5 d.synced) d.ops[k] := by
            rw [List.take_succ_eq_append_getElem hkn, List.foldl_append]
            rfl
          rw [hnext, ← hcur] at hfi2
          rw [← hcur] at hfi1 hok1
          have hlf0 := left_at (T := T) hkn
          rw [← hcur] at hlf0
          have htl := (unhide HT) d.ops[k] (List.getElem_mem hkn)
          have hfT := torn_fine hfi1 hok1 hfi2 (min T (txt5 d.ops[k]).length)
          generalize d.ops[k] = o at x0 x1 x2 x3 hok1 hfi2 hlf0 htl hfT
          have HFC := hide hfi1
          have HOK0 := hide hok1
          have HFT := hide hfT
          have HLF0 := hide hlf0
          have HTL0 := hide htl
          have hb0 := hide hb
          have HCUR := hide hcur
          clear e0 e1 e2 e3 hops hfi1 hok1 hfi2 hb hnext hcur hlf0 htl hfT
          cases o using Op5.on with
          | app n t =>
            have x0' : wr.cell? ⟨go, k * 4, none⟩ = some (.int .i64 1) := x0
            have x1' : wr.cell? ⟨go, k * 4 + 1, none⟩ = some (.string ⟨n.toArray⟩) := x1
            have x2' : wr.cell? ⟨go, k * 4 + 2, none⟩ = some (.string ⟨t.toArray⟩) := x2
            have x3' : wr.cell? ⟨go, k * 4 + 3, none⟩ = some (.int .i64 0) := x3
            have HTL : Hid (t.length ≤ C) := HTL0
            have HLF : Hid (d.left k T = torn5 cur (.app n t) (min T t.length)) := HLF0
            have HFT' : Hid (Fine C (torn5 cur (.app n t) (min T t.length))) := HFT
            clear x0 x1 x2 x3 HTL0 HLF0 HFT
            by_cases ht0 : t = []
            · subst ht0
              have hlf : Hid (d.left k T = cur) := by rw [unhide HLF]; show torn5 cur _ (min T 0) = _; rw [Nat.min_zero]; rfl
              have hfin := HFC
              have hsl : cur.length ≤ 100000 := by have := (unhide HFC).len; omega
              have HE : Hid (Rf (wr.alloc (.cells #[.int .i64 1, .string ⟨n.toArray⟩, .string ⟨#[]⟩, .int .i64 0] 60)) u7 cur ∧ Bel w (wr.alloc (.cells #[.int .i64 1, .string ⟨n.toArray⟩, .string ⟨#[]⟩, .int .i64 0] 60))) := ⟨(unhide HO).1.bel ((Bel.refl _).alloc _), (unhide HO).2.alloc _⟩
              go_wp2_with (first
                | (at_builtin; refine app_copy (unhide HE).1 hsl rfl _ _ rfl (wr.heap.size + 1) (by simp) rfl rfl ?_; intro g1 cp1 w5 hro5; obtain ⟨a1, a2, HE2⟩ := crash_mid (unhide H1) hpl (unhide HE).1 (unhide HE).2 hro5; clear hro5)
                | (at_builtin; refine app_copy (unhide HE2).2.1 hsl rfl _ _ rfl _ (size_set _ _ _) rfl rfl ?_; intro g2 cp2 w6 hro6; obtain ⟨b1, b2, b3, b4, HE3⟩ := crash_mid2 (unhide HE2) hpl hro6; clear hro6)
                | go_in)
              go_ret
              rw [unhide hres, unhide hlf]
              exact ⟨rfl, dx_of (unhide H) hMp (unhide HE3).1 (unhide HE3).2.1 (unhide HE3).2.2.1 (unhide hfin) ((unhide HE3).2.2.2.1.mono (fun i hi => by rw [hi]; exact hMp)) (fun k hk => Or.inr ((unhide HE3).2.2.2.2.1 k hk)) (fun k hk => Or.inr ((unhide HE3).2.2.2.2.2 k hk))⟩
            · have hie : t.isEmpty = false := by cases t; exact absurd rfl ht0; rfl
              have htp : 0 < t.length := by cases t; exact absurd rfl ht0; simp
              rcases Nat.eq_zero_or_pos T with hT | hT
              · subst hT
                have hlf : Hid (d.left k 0 = cur) := by rw [unhide HLF, Nat.zero_min]; rfl
                have hfin := HFC
                have hsl : cur.length ≤ 100000 := by have := (unhide HFC).len; omega
                have HE : Hid (Rf (wr.alloc (.cells #[.int .i64 1, .string ⟨n.toArray⟩, .string ⟨t.toArray⟩, .int .i64 0] 60)) u7 cur ∧ Bel w (wr.alloc (.cells #[.int .i64 1, .string ⟨n.toArray⟩, .string ⟨t.toArray⟩, .int .i64 0] 60))) := ⟨(unhide HO).1.bel ((Bel.refl _).alloc _), (unhide HO).2.alloc _⟩
                go_wp2_with (first
                  | (at_builtin; refine app_copy (unhide HE).1 hsl rfl _ _ rfl (wr.heap.size + 1) (by simp) rfl rfl ?_; intro g1 cp1 w5 hro5; obtain ⟨a1, a2, HE2⟩ := crash_mid (unhide H1) hpl (unhide HE).1 (unhide HE).2 hro5; clear hro5)
                  | (at_builtin; refine app_copy (unhide HE2).2.1 hsl rfl _ _ rfl _ (size_set _ _ _) rfl rfl ?_; intro g2 cp2 w6 hro6; obtain ⟨b1, b2, b3, b4, HE3⟩ := crash_mid2 (unhide HE2) hpl hro6; clear hro6)
                  | go_in)
                go_ret
                rw [unhide hres, unhide hlf]
                exact ⟨rfl, dx_of (unhide H) hMp (unhide HE3).1 (unhide HE3).2.1 (unhide HE3).2.2.1 (unhide hfin) ((unhide HE3).2.2.2.1.mono (fun i hi => by rw [hi]; exact hMp)) (fun k hk => Or.inr ((unhide HE3).2.2.2.2.1 k hk)) (fun k hk => Or.inr ((unhide HE3).2.2.2.2.2 k hk))⟩
              · have HOK : Hid (ok5 cur (.app n t)) := HOK0
                rcases Nat.lt_or_ge T t.length with hlt2 | hge2
                · have hTi : (T : Int) < (t.length : Int) := by omega
                  have hTl : T ≤ t.length := by omega
                  have hS : Hid (torn5 cur (.app n t) (min T t.length) = run5 cur (.app n (t.take T))) := by
                    rw [Nat.min_eq_left hTl]
                    unfold torn5
                    rw [if_neg (by omega)]
                    rfl
                  have h52 := hide (fun W (hb : Bel wr W) => ddoes_any cur u7 (.app n (t.take T)) W ((unhide HO).1.bel hb) (by have := (unhide HFC).len; omega) (unhide HFC).srt (unhide HOK) (by have h2 := (unhide HFC).tot; have h3 := unhide HTL; show tot cur + (t.take T).length ≤ _; rw [List.length_take]; omega))
                  unfold vO oC oN oT oK at h52
                  simp only at h52
                  rw [← ext_str] at h52
                  have hlf : Hid (d.left k T = run5 cur (.app n (t.take T))) := by rw [unhide HLF]; exact hS
                  have hfin : Hid (Fine C (run5 cur (.app n (t.take T)))) := by rw [← unhide hS]; exact HFT'
                  have hsl : (run5 cur (.app n (t.take T))).length ≤ 100000 := by have := (unhide hfin).len; omega
                  generalize run5 cur (.app n (t.take T)) = S at h52 hlf hfin hsl
                  go_wp2_with (first
                    | (go_at_call 52; refine ((unhide h52) _ ((Bel.refl _).alloc _)).mono ?_; rintro e w3 ⟨v', rfl, hro⟩; have HE : Hid (Rf w3 v' S ∧ Bel w w3) := ⟨hro.rf, ((unhide hb0).alloc _).trans hro.bel⟩; clear hro)
                    | (at_builtin; refine app_copy (unhide HE).1 hsl rfl _ _ rfl _ rfl rfl rfl ?_; intro g1 cp1 w5 hro5; obtain ⟨a1, a2, HE2⟩ := crash_mid (unhide H1) hpl (unhide HE).1 (unhide HE).2 hro5; clear hro5)
                    | (at_builtin; refine app_copy (unhide HE2).2.1 hsl rfl _ _ rfl _ (size_set _ _ _) rfl rfl ?_; intro g2 cp2 w6 hro6; obtain ⟨b1, b2, b3, b4, HE3⟩ := crash_mid2 (unhide HE2) hpl hro6; clear hro6)
                    | go_in)
                  go_ret
                  rw [unhide hres, unhide hlf]
                  exact ⟨rfl, dx_of (unhide H) hMp (unhide HE3).1 (unhide HE3).2.1 (unhide HE3).2.2.1 (unhide hfin) ((unhide HE3).2.2.2.1.mono (fun i hi => by rw [hi]; exact hMp)) (fun k hk => Or.inr ((unhide HE3).2.2.2.2.1 k hk)) (fun k hk => Or.inr ((unhide HE3).2.2.2.2.2 k hk))⟩
                · have hTi : ¬ (T : Int) < (t.length : Int) := by omega
                  have hS : Hid (torn5 cur (.app n t) (min T t.length) = run5 cur (.app n t)) := by
                    rw [Nat.min_eq_right hge2]
                    unfold torn5
                    rw [if_neg (by omega)]
                    show run5 cur (.app n (t.take t.length)) = _
                    rw [List.take_length]
                  have h52 := hide (fun W (hb : Bel wr W) => ddoes_any cur u7 (.app n t) W ((unhide HO).1.bel hb) (by have := (unhide HFC).len; omega) (unhide HFC).srt (unhide HOK) (by have h2 := (unhide HFC).tot; have h3 := unhide HTL; show tot cur + t.length ≤ _; omega))
                  unfold vO oC oN oT oK at h52
                  simp only at h52
                  have hlf : Hid (d.left k T = run5 cur (.app n t)) := by rw [unhide HLF]; exact hS
                  have hfin : Hid (Fine C (run5 cur (.app n t))) := by rw [← unhide hS]; exact HFT'
                  have hsl : (run5 cur (.app n t)).length ≤ 100000 := by have := (unhide hfin).len; omega
                  generalize run5 cur (.app n t) = S at h52 hlf hfin hsl
                  go_wp2_with (first
                    | (go_at_call 52; refine ((unhide h52) _ ((Bel.refl _).alloc _)).mono ?_; rintro e w3 ⟨v', rfl, hro⟩; have HE : Hid (Rf w3 v' S ∧ Bel w w3) := ⟨hro.rf, ((unhide hb0).alloc _).trans hro.bel⟩; clear hro)
                    | (at_builtin; refine app_copy (unhide HE).1 hsl rfl _ _ rfl _ rfl rfl rfl ?_; intro g1 cp1 w5 hro5; obtain ⟨a1, a2, HE2⟩ := crash_mid (unhide H1) hpl (unhide HE).1 (unhide HE).2 hro5; clear hro5)
                    | (at_builtin; refine app_copy (unhide HE2).2.1 hsl rfl _ _ rfl _ (size_set _ _ _) rfl rfl ?_; intro g2 cp2 w6 hro6; obtain ⟨b1, b2, b3, b4, HE3⟩ := crash_mid2 (unhide HE2) hpl hro6; clear hro6)
                    | go_in)
                  go_ret
                  rw [unhide hres, unhide hlf]
                  exact ⟨rfl, dx_of (unhide H) hMp (unhide HE3).1 (unhide HE3).2.1 (unhide HE3).2.2.1 (unhide hfin) ((unhide HE3).2.2.2.1.mono (fun i hi => by rw [hi]; exact hMp)) (fun k hk => Or.inr ((unhide HE3).2.2.2.2.1 k hk)) (fun k hk => Or.inr ((unhide HE3).2.2.2.2.2 k hk))⟩
          | wr n t =>
            have x0' : wr.cell? ⟨go, k * 4, none⟩ = some (.int .i64 2) := x0
            have x1' : wr.cell? ⟨go, k * 4 + 1, none⟩ = some (.string ⟨n.toArray⟩) := x1
            have x2' : wr.cell? ⟨go, k * 4 + 2, none⟩ = some (.string ⟨t.toArray⟩) := x2
            have x3' : wr.cell? ⟨go, k * 4 + 3, none⟩ = some (.int .i64 0) := x3
            have HTL : Hid (t.length ≤ C) := HTL0
            have HLF : Hid (d.left k T = torn5 cur (.wr n t) (min T t.length)) := HLF0
            have HFT' : Hid (Fine C (torn5 cur (.wr n t) (min T t.length))) := HFT
            clear x0 x1 x2 x3 HTL0 HLF0 HFT
            by_cases ht0 : t = []
            · subst ht0
              have hlf : Hid (d.left k T = cur) := by rw [unhide HLF]; show torn5 cur _ (min T 0) = _; rw [Nat.min_zero]; rfl
              have hfin := HFC
              have hsl : cur.length ≤ 100000 := by have := (unhide HFC).len; omega
              have HE : Hid (Rf (wr.alloc (.cells #[.int .i64 2, .string ⟨n.toArray⟩, .string ⟨#[]⟩, .int .i64 0] 60)) u7 cur ∧ Bel w (wr.alloc (.cells #[.int .i64 2, .string ⟨n.toArray⟩, .string ⟨#[]⟩, .int .i64 0] 60))) := ⟨(unhide HO).1.bel ((Bel.refl _).alloc _), (unhide HO).2.alloc _⟩
              go_wp2_with (first
                | (at_builtin; refine app_copy (unhide HE).1 hsl rfl _ _ rfl (wr.heap.size + 1) (by simp) rfl rfl ?_; intro g1 cp1 w5 hro5; obtain ⟨a1, a2, HE2⟩ := crash_mid (unhide H1) hpl (unhide HE).1 (unhide HE).2 hro5; clear hro5)
                | (at_builtin; refine app_copy (unhide HE2).2.1 hsl rfl _ _ rfl _ (size_set _ _ _) rfl rfl ?_; intro g2 cp2 w6 hro6; obtain ⟨b1, b2, b3, b4, HE3⟩ := crash_mid2 (unhide HE2) hpl hro6; clear hro6)
                | go_in)
              go_ret
              rw [unhide hres, unhide hlf]
              exact ⟨rfl, dx_of (unhide H) hMp (unhide HE3).1 (unhide HE3).2.1 (unhide HE3).2.2.1 (unhide hfin) ((unhide HE3).2.2.2.1.mono (fun i hi => by rw [hi]; exact hMp)) (fun k hk => Or.inr ((unhide HE3).2.2.2.2.1 k hk)) (fun k hk => Or.inr ((unhide HE3).2.2.2.2.2 k hk))⟩
            · have hie : t.isEmpty = false := by cases t; exact absurd rfl ht0; rfl
              have htp : 0 < t.length := by cases t; exact absurd rfl ht0; simp
              rcases Nat.eq_zero_or_pos T with hT | hT
              · subst hT
                have hlf : Hid (d.left k 0 = cur) := by rw [unhide HLF, Nat.zero_min]; rfl
                have hfin := HFC
                have hsl : cur.length ≤ 100000 := by have := (unhide HFC).len; omega
                have HE : Hid (Rf (wr.alloc (.cells #[.int .i64 2, .string ⟨n.toArray⟩, .string ⟨t.toArray⟩, .int .i64 0] 60)) u7 cur ∧ Bel w (wr.alloc (.cells #[.int .i64 2, .string ⟨n.toArray⟩, .string ⟨t.toArray⟩, .int .i64 0] 60))) := ⟨(unhide HO).1.bel ((Bel.refl _).alloc _), (unhide HO).2.alloc _⟩
                go_wp2_with (first
                  | (at_builtin; refine app_copy (unhide HE).1 hsl rfl _ _ rfl (wr.heap.size + 1) (by simp) rfl rfl ?_; intro g1 cp1 w5 hro5; obtain ⟨a1, a2, HE2⟩ := crash_mid (unhide H1) hpl (unhide HE).1 (unhide HE).2 hro5; clear hro5)
                  | (at_builtin; refine app_copy (unhide HE2).2.1 hsl rfl _ _ rfl _ (size_set _ _ _) rfl rfl ?_; intro g2 cp2 w6 hro6; obtain ⟨b1, b2, b3, b4, HE3⟩ := crash_mid2 (unhide HE2) hpl hro6; clear hro6)
                  | go_in)
                go_ret
                rw [unhide hres, unhide hlf]
                exact ⟨rfl, dx_of (unhide H) hMp (unhide HE3).1 (unhide HE3).2.1 (unhide HE3).2.2.1 (unhide hfin) ((unhide HE3).2.2.2.1.mono (fun i hi => by rw [hi]; exact hMp)) (fun k hk => Or.inr ((unhide HE3).2.2.2.2.1 k hk)) (fun k hk => Or.inr ((unhide HE3).2.2.2.2.2 k hk))⟩
              · have HOK : Hid (ok5 cur (.wr n t)) := HOK0
                rcases Nat.lt_or_ge T t.length with hlt2 | hge2
                · have hTi : (T : Int) < (t.length : Int) := by omega
                  have hTl : T ≤ t.length := by omega
                  have hS : Hid (torn5 cur (.wr n t) (min T t.length) = run5 cur (.wr n (t.take T))) := by
                    rw [Nat.min_eq_left hTl]
                    unfold torn5
                    rw [if_neg (by omega)]
                    rfl
                  have h52 := hide (fun W (hb : Bel wr W) => ddoes_any cur u7 (.wr n (t.take T)) W ((unhide HO).1.bel hb) (by have := (unhide HFC).len; omega) (unhide HFC).srt (unhide HOK) (by have h2 := (unhide HFC).tot; have h3 := unhide HTL; show tot cur + (t.take T).length ≤ _; rw [List.length_take]; omega))
                  unfold vO oC oN oT oK at h52
                  simp only at h52
                  rw [← ext_str] at h52
                  have hlf : Hid (d.left k T = run5 cur (.wr n (t.take T))) := by rw [unhide HLF]; exact hS
                  have hfin : Hid (Fine C (run5 cur (.wr n (t.take T)))) := by rw [← unhide hS]; exact HFT'
                  have hsl : (run5 cur (.wr n (t.take T))).length ≤ 100000 := by have := (unhide hfin).len; omega
                  generalize run5 cur (.wr n (t.take T)) = S at h52 hlf hfin hsl
                  go_wp2_with (first
                    | (go_at_call 52; refine ((unhide h52) _ ((Bel.refl _).alloc _)).mono ?_; rintro e w3 ⟨v', rfl, hro⟩; have HE : Hid (Rf w3 v' S ∧ Bel w w3) := ⟨hro.rf, ((unhide hb0).alloc _).trans hro.bel⟩; clear hro)
                    | (at_builtin; refine app_copy (unhide HE).1 hsl rfl _ _ rfl _ rfl rfl rfl ?_; intro g1 cp1 w5 hro5; obtain ⟨a1, a2, HE2⟩ := crash_mid (unhide H1) hpl (unhide HE).1 (unhide HE).2 hro5; clear hro5)
                    | (at_builtin; refine app_copy (unhide HE2).2.1 hsl rfl _ _ rfl _ (size_set _ _ _) rfl rfl ?_; intro g2 cp2 w6 hro6; obtain ⟨b1, b2, b3, b4, HE3⟩ := crash_mid2 (unhide HE2) hpl hro6; clear hro6)
                    | go_in)
                  go_ret
                  rw [unhide hres, unhide hlf]
                  exact ⟨rfl, dx_of (unhide H) hMp (unhide HE3).1 (unhide HE3).2.1 (unhide HE3).2.2.1 (unhide hfin) ((unhide HE3).2.2.2.1.mono (fun i hi => by rw [hi]; exact hMp)) (fun k hk => Or.inr ((unhide HE3).2.2.2.2.1 k hk)) (fun k hk => Or.inr ((unhide HE3).2.2.2.2.2 k hk))⟩
                · have hTi : ¬ (T : Int) < (t.length : Int) := by omega
                  have hS : Hid (torn5 cur (.wr n t) (min T t.length) = run5 cur (.wr n t)) := by
                    rw [Nat.min_eq_right hge2]
                    unfold torn5
                    rw [if_neg (by omega)]
                    show run5 cur (.wr n (t.take t.length)) = _
                    rw [List.take_length]
                  have h52 := hide (fun W (hb : Bel wr W) => ddoes_any cur u7 (.wr n t) W ((unhide HO).1.bel hb) (by have := (unhide HFC).len; omega) (unhide HFC).srt (unhide HOK) (by have h2 := (unhide HFC).tot; have h3 := unhide HTL; show tot cur + t.length ≤ _; omega))
                  unfold vO oC oN oT oK at h52
                  simp only at h52
                  have hlf : Hid (d.left k T = run5 cur (.wr n t)) := by rw [unhide HLF]; exact hS
                  have hfin : Hid (Fine C (run5 cur (.wr n t))) := by rw [← unhide hS]; exact HFT'
                  have hsl : (run5 cur (.wr n t)).length ≤ 100000 := by have := (unhide hfin).len; omega
                  generalize run5 cur (.wr n t) = S at h52 hlf hfin hsl
                  go_wp2_with (first
                    | (go_at_call 52; refine ((unhide h52) _ ((Bel.refl _).alloc _)).mono ?_; rintro e w3 ⟨v', rfl, hro⟩; have HE : Hid (Rf w3 v' S ∧ Bel w w3) := ⟨hro.rf, ((unhide hb0).alloc _).trans hro.bel⟩; clear hro)
                    | (at_builtin; refine app_copy (unhide HE).1 hsl rfl _ _ rfl _ rfl rfl rfl ?_; intro g1 cp1 w5 hro5; obtain ⟨a1, a2, HE2⟩ := crash_mid (unhide H1) hpl (unhide HE).1 (unhide HE).2 hro5; clear hro5)
                    | (at_builtin; refine app_copy (unhide HE2).2.1 hsl rfl _ _ rfl _ (size_set _ _ _) rfl rfl ?_; intro g2 cp2 w6 hro6; obtain ⟨b1, b2, b3, b4, HE3⟩ := crash_mid2 (unhide HE2) hpl hro6; clear hro6)
                    | go_in)
                  go_ret
                  rw [unhide hres, unhide hlf]
                  exact ⟨rfl, dx_of (unhide H) hMp (unhide HE3).1 (unhide HE3).2.1 (unhide HE3).2.2.1 (unhide hfin) ((unhide HE3).2.2.2.1.mono (fun i hi => by rw [hi]; exact hMp)) (fun k hk => Or.inr ((unhide HE3).2.2.2.2.1 k hk)) (fun k hk => Or.inr ((unhide HE3).2.2.2.2.2 k hk))⟩
          | tr n q =>
            have x0' : wr.cell? ⟨go, k * 4, none⟩ = some (.int .i64 3) := x0
            have x1' : wr.cell? ⟨go, k * 4 + 1, none⟩ = some (.string ⟨n.toArray⟩) := x1
            have x2' : wr.cell? ⟨go, k * 4 + 2, none⟩ = some (.string ⟨#[]⟩) := x2
            have x3' : wr.cell? ⟨go, k * 4 + 3, none⟩ = some (.int .i64 (q : Int)) := x3
            clear x0 x1 x2 x3
            have hlf : Hid (d.left k T = cur) := by rw [unhide HLF0]; show torn5 cur _ (min T 0) = _; rw [Nat.min_zero]; rfl
            have hfin := HFC
            have hsl : cur.length ≤ 100000 := by have := (unhide HFC).len; omega
            have HE : Hid (Rf (wr.alloc (.cells #[.int .i64 3, .string ⟨n.toArray⟩, .string ⟨#[]⟩, .int .i64 (q : Int)] 60)) u7 cur ∧ Bel w (wr.alloc (.cells #[.int .i64 3, .string ⟨n.toArray⟩, .string ⟨#[]⟩, .int .i64 (q : Int)] 60))) := ⟨(unhide HO).1.bel ((Bel.refl _).alloc _), (unhide HO).2.alloc _⟩
            go_wp2_with (first
              | (at_builtin; refine app_copy (unhide HE).1 hsl rfl _ _ rfl (wr.heap.size + 1) (by simp) rfl rfl ?_; intro g1 cp1 w5 hro5; obtain ⟨a1, a2, HE2⟩ := crash_mid (unhide H1) hpl (unhide HE).1 (unhide HE).2 hro5; clear hro5)
              | (at_builtin; refine app_copy (unhide HE2).2.1 hsl rfl _ _ rfl _ (size_set _ _ _) rfl rfl ?_; intro g2 cp2 w6 hro6; obtain ⟨b1, b2, b3, b4, HE3⟩ := crash_mid2 (unhide HE2) hpl hro6; clear hro6)
              | go_in)
            go_ret
            rw [unhide hres, unhide hlf]
            exact ⟨rfl, dx_of (unhide H) hMp (unhide HE3).1 (unhide HE3).2.1 (unhide HE3).2.2.1 (unhide hfin) ((unhide HE3).2.2.2.1.mono (fun i hi => by rw [hi]; exact hMp)) (fun k hk => Or.inr ((unhide HE3).2.2.2.2.1 k hk)) (fun k hk => Or.inr ((unhide HE3).2.2.2.2.2 k hk))⟩
          | ren n t =>
            have x0' : wr.cell? ⟨go, k * 4, none⟩ = some (.int .i64 4) := x0
            have x1' : wr.cell? ⟨go, k * 4 + 1, none⟩ = some (.string ⟨n.toArray⟩) := x1
            have x2' : wr.cell? ⟨go, k * 4 + 2, none⟩ = some (.string ⟨t.toArray⟩) := x2
            have x3' : wr.cell? ⟨go, k * 4 + 3, none⟩ = some (.int .i64 0) := x3
            clear x0 x1 x2 x3
            have hlf : Hid (d.left k T = cur) := by rw [unhide HLF0]; show torn5 cur _ (min T 0) = _; rw [Nat.min_zero]; rfl
            have hfin := HFC
            have hsl : cur.length ≤ 100000 := by have := (unhide HFC).len; omega
            have HE : Hid (Rf (wr.alloc (.cells #[.int .i64 4, .string ⟨n.toArray⟩, .string ⟨t.toArray⟩, .int .i64 0] 60)) u7 cur ∧ Bel w (wr.alloc (.cells #[.int .i64 4, .string ⟨n.toArray⟩, .string ⟨t.toArray⟩, .int .i64 0] 60))) := ⟨(unhide HO).1.bel ((Bel.refl _).alloc _), (unhide HO).2.alloc _⟩
            go_wp2_with (first
              | (at_builtin; refine app_copy (unhide HE).1 hsl rfl _ _ rfl (wr.heap.size + 1) (by simp) rfl rfl ?_; intro g1 cp1 w5 hro5; obtain ⟨a1, a2, HE2⟩ := crash_mid (unhide H1) hpl (unhide HE).1 (unhide HE).2 hro5; clear hro5)
              | (at_builtin; refine app_copy (unhide HE2).2.1 hsl rfl _ _ rfl _ (size_set _ _ _) rfl rfl ?_; intro g2 cp2 w6 hro6; obtain ⟨b1, b2, b3, b4, HE3⟩ := crash_mid2 (unhide HE2) hpl hro6; clear hro6)
              | go_in)
            go_ret
            rw [unhide hres, unhide hlf]
            exact ⟨rfl, dx_of (unhide H) hMp (unhide HE3).1 (unhide HE3).2.1 (unhide HE3).2.2.1 (unhide hfin) ((unhide HE3).2.2.2.1.mono (fun i hi => by rw [hi]; exact hMp)) (fun k hk => Or.inr ((unhide HE3).2.2.2.2.1 k hk)) (fun k hk => Or.inr ((unhide HE3).2.2.2.2.2 k hk))⟩
          | rm n =>
            have x0' : wr.cell? ⟨go, k * 4, none⟩ = some (.int .i64 5) := x0
            have x1' : wr.cell? ⟨go, k * 4 + 1, none⟩ = some (.string ⟨n.toArray⟩) := x1
            have x2' : wr.cell? ⟨go, k * 4 + 2, none⟩ = some (.string ⟨#[]⟩) := x2
            have x3' : wr.cell? ⟨go, k * 4 + 3, none⟩ = some (.int .i64 0) := x3
            clear x0 x1 x2 x3
            have hlf : Hid (d.left k T = cur) := by rw [unhide HLF0]; show torn5 cur _ (min T 0) = _; rw [Nat.min_zero]; rfl
            have hfin := HFC
            have hsl : cur.length ≤ 100000 := by have := (unhide HFC).len; omega
            have HE : Hid (Rf (wr.alloc (.cells #[.int .i64 5, .string ⟨n.toArray⟩, .string ⟨#[]⟩, .int .i64 0] 60)) u7 cur ∧ Bel w (wr.alloc (.cells #[.int .i64 5, .string ⟨n.toArray⟩, .string ⟨#[]⟩, .int .i64 0] 60))) := ⟨(unhide HO).1.bel ((Bel.refl _).alloc _), (unhide HO).2.alloc _⟩
            go_wp2_with (first
              | (at_builtin; refine app_copy (unhide HE).1 hsl rfl _ _ rfl (wr.heap.size + 1) (by simp) rfl rfl ?_; intro g1 cp1 w5 hro5; obtain ⟨a1, a2, HE2⟩ := crash_mid (unhide H1) hpl (unhide HE).1 (unhide HE).2 hro5; clear hro5)
              | (at_builtin; refine app_copy (unhide HE2).2.1 hsl rfl _ _ rfl _ (size_set _ _ _) rfl rfl ?_; intro g2 cp2 w6 hro6; obtain ⟨b1, b2, b3, b4, HE3⟩ := crash_mid2 (unhide HE2) hpl hro6; clear hro6)
              | go_in)
            go_ret
            rw [unhide hres, unhide hlf]
            exact ⟨rfl, dx_of (unhide H) hMp (unhide HE3).1 (unhide HE3).2.1 (unhide HE3).2.2.1 (unhide hfin) ((unhide HE3).2.2.2.1.mono (fun i hi => by rw [hi]; exact hMp)) (fun k hk => Or.inr ((unhide HE3).2.2.2.2.1 k hk)) (fun k hk => Or.inr ((unhide HE3).2.2.2.2.2 k hk))⟩
        · have hkn' : k = d.ops.length := by omega
          have hfin : Hid (Fine C cur) := by
            have := (unhide H).val.last
            rw [hcur, hkn', List.take_length]
            exact this
          have hlf : Hid (d.left k T = cur) := by rw [hcur]; exact left_all (T := T) hkn'
          have hsl : cur.length ≤ 100000 := by have := (unhide hfin).len; omega
          have y2 : wr.cell? ⟨p, 2, none⟩ = some (.slice ao d.ops.length co) := cell_of ((unhide HO).2.row (unhide H1).row)
          have HE := HO
          clear hcur hkn'
          go_wp2_with (first
            | (at_builtin; refine app_copy (unhide HE).1 hsl rfl _ _ rfl _ rfl rfl rfl ?_; intro g1 cp1 w5 hro5; obtain ⟨a1, a2, HE2⟩ := crash_mid (unhide H1) hpl (unhide HE).1 (unhide HE).2 hro5; clear hro5)
            | (at_builtin; refine app_copy (unhide HE2).2.1 hsl rfl _ _ rfl _ (size_set _ _ _) rfl rfl ?_; intro g2 cp2 w6 hro6; obtain ⟨b1, b2, b3, b4, HE3⟩ := crash_mid2 (unhide HE2) hpl hro6; clear hro6)
            | go_in)
          go_ret
          rw [unhide hres, unhide hlf]
          exact ⟨rfl, dx_of (unhide H) hMp (unhide HE3).1 (unhide HE3).2.1 (unhide HE3).2.2.1 (unhide hfin) ((unhide HE3).2.2.2.1.mono (fun i hi => by rw [hi]; exact hMp)) (fun k hk => Or.inr ((unhide HE3).2.2.2.2.1 k hk)) (fun k hk => Or.inr ((unhide HE3).2.2.2.2.2 k hk))⟩
end Go.Proofs.Ytpngcmlaimcceaa
