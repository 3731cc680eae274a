/- What a crash leaves: the program's Crash. -/
import Derived.Test.YtpngcmlaimcceaaCra
import Derived.Test.YtpngcmlaimcceaaSyn
import Derived.Laws.EntriesVeiled
namespace Go.Proofs.Ytpngcmlaimcceaa
open Go.RowKit Go.Maps Go.WideMaps
/-- Where Crash stands when k things have been done again. -/
structure Cr (w : World) (p bs bk : Nat) (v : Value) (d : PD) (M B : Nat → Prop) (cs : List Value) (cur : Fs) (W : World) : Prop where
  co : Co W p bs bk v d.room (tot d.seen) cur d.synced d.ops.length cs
  th : Th W B d.ops cs
  ch : Ch M w W
theorem Cr.bel {w : World} {p bs bk : Nat} {v : Value} {d : PD} {M B : Nat → Prop} {cs : List Value} {cur : Fs} {W W' : World} (h : Cr w p bs bk v d M B cs cur W) (hb : Bel W W') (hB : ∀ i, B i → i < w.heap.size) : Cr w p bs bk v d M B cs cur W' :=
  ⟨h.co.bel hb, h.th.at (fun i hi => ⟨hi, hb.block i (Nat.lt_of_lt_of_le (hB i hi) h.ch.size)⟩), h.ch.bel hb⟩
theorem Cr.turn {w : World} {p bs bk : Nat} {v : Value} {d : PD} {M B : Nat → Prop} {cs : List Value} {cur cur' : Fs} {W W' : World} (h : Cr w p bs bk v d M B cs cur W) (hm : Mp W' bs cur') (hc : Ch (fun i => i = bs) W W') (hM : M bs) (hB : ∀ i, B i → i < w.heap.size) (hd : ∀ i, M i → B i → False) : Cr w p bs bk v d M B cs cur' W' := by
  have hb : ∀ k, k < W.heap.size → k ≠ bs → W'.heap[k]? = W.heap[k]? := fun k hk hne => hc.block k hk hne
  refine ⟨⟨(hb p (lt_of_some h.co.row) (fun e => h.co.ms.ne_row h.co.row e.symm)).trans h.co.row, hm, h.co.my.at (hb bk h.co.my.lt h.co.ne.symm), row_at h.co.lo (fun k hk => hb k (h.co.lo.lt k hk).2 (fun e => ?_)), h.co.ne, h.co.nv, h.co.em⟩,
    h.th.at (fun i hi => ⟨hi, hb i (Nat.lt_of_lt_of_le (hB i hi) h.ch.size) (fun e => hd i (by rw [e]; exact hM) hi)⟩), h.ch.trans hc (fun i hi => Or.inl (by rw [hi]; exact hM))⟩
  subst e
  rcases h.co.lo.2 with ⟨rfl, _⟩ | ⟨g, cap, cur, rfl, _, hg, _⟩
  · cases hk
  · cases hk; exact h.co.ms.ne_row hg rfl
theorem put_torn {C : Nat} {l : Fs} {n b b' : List UInt8} (h : Fine C l) (hn : okN n) (h' : Fine C (put l n b)) (hb : b'.length ≤ b.length) : Fine C (put l n b') := by
  refine ⟨put_srt h.srt n b', ?_, ?_, fun p hp => ?_⟩
  · have h1 := tot_put h.srt n b
    have h2 := tot_put h.srt n b'
    have := h'.tot
    omega
  · have := h'.len
    unfold put at this ⊢
    rw [len_fins] at this ⊢
    exact this
  · unfold put at hp
    rcases mem_fins.1 hp with rfl | hp
    · exact hn
    · exact h.names p (mem_del.1 hp).1
theorem torn_fine {C : Nat} {l : Fs} {o : Op5} (h : Fine C l) (hk : ok5 l o) (h' : Fine C (run5 l o)) (m : Nat) : Fine C (torn5 l o m) := by
  unfold torn5
  split
  · exact h
  · cases o using Op5.on with
    | app n t => exact put_torn h hk h' (by simp [txt5]; omega)
    | wr n t => exact put_torn h hk h' (by simp [txt5]; omega)
    | tr n k => exact h'
    | ren a b => exact h'
    | rm n => exact h'
theorem left_at {d : PD} {K T : Nat} (h : K < d.ops.length) : d.left K T = torn5 ((d.ops.take K).foldl run5 d.synced) d.ops[K] (min T (txt5 d.ops[K]).length) := by
  unfold PD.left torn5
  rw [List.getElem?_eq_getElem h]
theorem left_all {d : PD} {K T : Nat} (h : K = d.ops.length) : d.left K T = (d.ops.take K).foldl run5 d.synced := by
  unfold PD.left
  rw [List.getElem?_eq_none (by omega)]
theorem cr_used {w : World} {p bs bk : Nat} {v : Value} {d : PD} {M B : Nat → Prop} {cs : List Value} {cur : Fs} {W W4 : World} (h : Cr w p bs bk v d M B cs cur W) (hb : Bel W W4) (hp : M p) :
    Hid (Co (W4.setCell ⟨p, 1, none⟩ (.int .i64 (tot cur))) p bs bk v d.room (tot cur) cur d.synced d.ops.length cs ∧ Ch M w (W4.setCell ⟨p, 1, none⟩ (.int .i64 (tot cur)))) ∧ W4.cell? ⟨p, 1, none⟩ = some (.int .i64 (tot d.seen)) ∧ W4.frozen? ⟨p, 1, none⟩ = false := by
  have hc := h.co.bel hb
  have hne : ∀ k, k ≠ p → (W4.setCell ⟨p, 1, none⟩ (.int .i64 (tot cur))).heap[k]? = W4.heap[k]? := fun k hk => Below.heap_setCell _ _ _ _ hk
  exact ⟨⟨⟨row_set hc.row, hc.ms.at (hne bs (hc.ms.ne_row hc.row)), hc.my.at (hne bk (hc.my.ne_row hc.row)), row_at hc.lo (fun k hk => hne k (fun e => hc.nv (by rw [hk, e]))), hc.ne, hc.nv, hc.em⟩, (h.ch.bel hb).set (Or.inl hp) _⟩, cell_of hc.row, free_row hc.row⟩
set_option maxRecDepth 100000 in
set_option maxHeartbeats 2000000 in
theorem crash_any {C : Nat} {w : World} {p : Nat} {d : PD} {M B : Nat → Prop} (h : Dk C w p d M B) (keep torn : Int) (hol : d.ops.length ≤ 1000000) (hC : 2 * C ≤ 1099511627776) (ht : ∀ o ∈ d.ops, (txt5 o).length ≤ C) (hk1 : keep < 9223372036854775808) (ht1 : torn < 9223372036854775808) :
    Calls Try.prog 22 #[.pointer (some ⟨p, 0, none⟩), .int .i64 keep, .int .i64 torn] w fun e w' => e = .returned (.int .i64 (d.crash keep torn).1) ∧ Aft C w p M B (d.crash keep torn).2 w' := by
  have hfu := Try.follows
  have hf := hide (fault_d h)
  obtain ⟨bs, bk, v, cs, h1, h2, h3⟩ := h.co
  obtain ⟨a4, c4, rfl, hc4, hg4⟩ := own_shape h1.lo
  have k4 : w.cell? ⟨p, 4, none⟩ = some (.slice a4 d.ops.length c4) := cell_of h1.row
  by_cases hbad : keep < 0 ∨ (d.ops.length : Int) < keep ∨ torn < 0
  · have hres : Hid (d.crash keep torn = (2, d)) := if_pos hbad
    have H := hide h
    clear h h1 h2 h3
    rcases hbad with hb | hb | hb
    · go_enter Try.func22, Try.ntmps22
      go_wp2_with (go_at_call 32; refine (unhide hf).mono ?_; rintro e w1 ⟨rfl, rfl⟩)
      go_ret
      rw [unhide hres]
      exact ⟨rfl, (unhide H).aft (Bel.refl _)⟩
    · go_enter Try.func22, Try.ntmps22
      go_wp2_with (go_at_call 32; refine (unhide hf).mono ?_; rintro e w1 ⟨rfl, rfl⟩)
      all_goals
        go_ret
        rw [unhide hres]
        exact ⟨rfl, (unhide H).aft (Bel.refl _)⟩
    · go_enter Try.func22, Try.ntmps22
      go_wp2_with (go_at_call 32; refine (unhide hf).mono ?_; rintro e w1 ⟨rfl, rfl⟩)
      all_goals
        go_ret
        rw [unhide hres]
        exact ⟨rfl, (unhide H).aft (Bel.refl _)⟩
  · obtain ⟨K, rfl⟩ : ∃ K : Nat, keep = K := ⟨keep.toNat, by omega⟩
    obtain ⟨T, rfl⟩ : ∃ T : Nat, torn = T := ⟨torn.toNat, by omega⟩
    have hKn : K ≤ d.ops.length := by omega
    have hres : Hid (d.crash K T = (0, ⟨d.room, d.left K T, d.left K T, []⟩)) := by
      unfold PD.crash
      rw [if_neg hbad]
      rfl
    have hsyn : Fine C d.synced := h.val.head
    have hly := hide (lay_any bs bk d.seen d.synced w.drew h1.ms h1.my h1.ne hsyn.srt hsyn.len)
    have k2 : w.cell? ⟨p, 2, none⟩ = some (.map (some bs)) := cell_of h1.row
    have k3 : w.cell? ⟨p, 3, none⟩ = some (.map (some bk)) := cell_of h1.row
    have hbs : M bs := h3 _ (Or.inr (Or.inl rfl))
    have H := hide h
    have hst : Hid (Cr w p bs bk (.slice a4 d.ops.length c4) d M B cs d.seen w.drew) := ⟨h1.bel (Bel.refl w).drew, Th.at (w := w) (w' := w.drew) (B := B) (B' := B) (fun i hi => ⟨hi, rfl⟩) h2, (Ch.refl M w).drew⟩
    have H3 := hide h3
    have HT := hide ht
    have HG := hide hg4
    have hKi : (K : Int) ≤ (d.ops.length : Int) := by omega
    have hK0 : (0 : Int) ≤ (K : Int) := by omega
    have hT0 : (0 : Int) ≤ (T : Int) := by omega
    clear h h1 h2 h3 hbad hsyn ht hg4
    have hte := hide (fun (W : World) (f : Value) (o : Op5) (l : Fs) (a1 : Clo W B f o) (a2 : ∀ i, B i → i < W.heap.size) (a3 : Mp W bs l) (a4 : Fine C l) (a5 : ok5 l o) (a6 : C + (txt5 o).length ≤ 1099511627776) => tear_any W B f o T l bs C a1 a2 a3 a4 a5 a6 (by omega))
    clear hk1 ht1
    go_enter Try.func22, Try.ntmps22
    go_wp2_with (go_at_call 32; refine (unhide hf).mono ?_; rintro e w1 ⟨rfl, rfl⟩)
    refine wp_region_still_tail 8 hfu (by kernel_rfl) ?_
    change wpStill _ _ (World.drew _) (fun a' => wpList _ _ _ _ a' (World.drew _)) _ _
    simp only [List.take_succ_cons, List.take_zero, List.drop_succ_cons, List.drop_zero]
    repeat still_step
    refine wpStill_nil ?_
    go_wp2_with (go_at_call 39; refine (unhide hly).mono ?_; rintro e w2 ⟨rfl, l3, l4, l5⟩; have hcr := hide ((unhide hst).turn l3 l5 hbs (unhide H).ltB (unhide H).dis); have k4' : w2.cell? ⟨p, 4, none⟩ = some (.slice a4 d.ops.length c4) := cell_of (unhide hcr).co.row)
    go_loopw [9, 46] (fun _ vi W => ∃ k : Nat, k ≤ K ∧ vi = .int .i64 k ∧ Hid (Cr w1 p bs bk (.slice a4 d.ops.length c4) d M B cs ((d.ops.take k).foldl run5 d.synced) W)) (fun _ vi _ => K - (intOf vi).toNat)
    case atStart => exact ⟨0, Nat.zero_le _, rfl, hcr⟩
    case round =>
      obtain ⟨k, hk, rfl, HO⟩ := hrel
      by_cases hlt : k < K
      · have hkn : k < d.ops.length := by omega
        obtain ⟨g, rfl⟩ := (unhide HG) (by omega)
        obtain ⟨f, hg1, hg2, hclo⟩ := (unhide HO).th.get k hkn
        have x1 : wr.cell? ⟨g, k * 2, none⟩ = some (.string ⟨(txt5 d.ops[k]).toArray⟩) := ((unhide HO).co.lo.cellAt (k * 2) (by omega)).trans hg1
        have x2 : wr.cell? ⟨g, k * 2 + 1, none⟩ = some f := ((unhide HO).co.lo.cellAt (k * 2 + 1) (by omega)).trans hg2
        obtain ⟨W1, hW1⟩ : ∃ W1, W1 = (wr.alloc (.cells #[.string ⟨(txt5 d.ops[k]).toArray⟩, f] 73)).drew := ⟨_, rfl⟩
        have hb1 : Bel wr W1 := by rw [hW1]; exact ((Bel.refl wr).alloc _).drew
        have hcr1 := hide ((unhide HO).bel hb1 (unhide H).ltB)
        obtain ⟨hfi1, hok1, hfi2⟩ := (unhide H).val.mid hkn
        obtain ⟨fn, cap, rfl, hen, hcall⟩ := clo_any W1 B f d.ops[k] (txt5 d.ops[k]) _ bs C (hclo.at (fun i hi => ⟨hi, hb1.block i (Nat.lt_of_lt_of_le ((unhide H).ltB i hi) (unhide HO).ch.size)⟩)) (unhide hcr1).co.ms hfi1 hok1 (by have := (unhide HT) d.ops[k] (List.getElem_mem hkn); omega)
        rw [with_txt] at hcall
        have hnext : Hid ((d.ops.take (k + 1)).foldl run5 d.synced = run5 ((d.ops.take k).foldl run5 d.synced) d.ops[k]) := by
          show _ = _
          rw [List.take_succ_eq_append_getElem hkn, List.foldl_append]
          rfl
        have HC := hide hcall
        have hen' : ∀ (args : Array Value) (W : World), (callFunc fn args).run Try.prog W = .ok (.enter fn args) W := hen
        have HW := hide hW1
        have y2 : ∀ ob, (wr.alloc ob).cell? ⟨p, 2, none⟩ = some (.map (some bs)) := fun ob => cell_of (((Bel.refl _).alloc ob).row (unhide HO).co.row)
        clear hg1 hg2 hclo hcall hen hW1 hfi1 hok1 hfi2
        generalize txt5 d.ops[k] = tx at *
        go_wp2_with fail
        refine wp_region_still_tail 8 hfu (by kernel_rfl) ?_
        change wpStill _ _ (World.drew _) (fun a' => wpList _ _ _ _ a' (World.drew _)) _ _
        simp only [List.take_succ_cons, List.take_zero, List.drop_succ_cons, List.drop_zero]
        repeat still_step
        refine wpStill_nil ?_
        go_wp2_with (first | (rw [← (unhide HW)]; refine (unhide HC).mono ?_; rintro e w3 ⟨rfl, m3, c3⟩))
        go_roundw
        case rel =>
          refine ⟨k + 1, by omega, by go_num, ?_⟩
          rw [unhide hnext]
          exact (unhide hcr1).turn m3 c3 hbs (unhide H).ltB (unhide H).dis
        case measure => simp [intOf]; omega
      · obtain rfl : k = K := by omega
        have hMp : M p := (unhide H3) _ (Or.inl rfl)
        have y4 : wr.cell? ⟨p, 4, none⟩ = some (.slice a4 d.ops.length c4) := cell_of (unhide HO).co.row
        have y2 : wr.cell? ⟨p, 2, none⟩ = some (.map (some bs)) := cell_of (unhide HO).co.row
        by_cases hkn : k < d.ops.length
        · obtain ⟨g, rfl⟩ := (unhide HG) (by omega)
          obtain ⟨f, hg1, hg2, hclo⟩ := (unhide HO).th.get k hkn
          have x1 : wr.cell? ⟨g, k * 2, none⟩ = some (.string ⟨(txt5 d.ops[k]).toArray⟩) := ((unhide HO).co.lo.cellAt (k * 2) (by omega)).trans hg1
          have x2 : wr.cell? ⟨g, k * 2 + 1, none⟩ = some f := ((unhide HO).co.lo.cellAt (k * 2 + 1) (by omega)).trans hg2
          obtain ⟨hfi1, hok1, hfi2⟩ := (unhide H).val.mid hkn
          have hnext : (d.ops.take (k + 1)).foldl run5 d.synced = run5 ((d.ops.take k).foldl run5 d.synced) d.ops[k] := by
            rw [List.take_succ_eq_append_getElem hkn, List.foldl_append]
            rfl
          rw [hnext] at hfi2
          have hb1 : Bel wr wr.drew := (Bel.refl wr).drew
          have hcr1 := hide ((unhide HO).bel hb1 (unhide H).ltB)
          have htr := hide ((unhide hte) wr.drew f d.ops[k] _ (hclo.at (fun i hi => ⟨hi, rfl⟩)) (fun i hi => Nat.lt_of_lt_of_le ((unhide H).ltB i hi) (unhide HO).ch.size) (unhide hcr1).co.ms hfi1 hok1 (by have := (unhide HT) d.ops[k] (List.getElem_mem hkn); omega))
          have hfin := hide (torn_fine hfi1 hok1 hfi2 (min T (txt5 d.ops[k]).length))
          have hlf := hide (left_at (T := T) hkn)
          generalize torn5 ((d.ops.take k).foldl run5 d.synced) d.ops[k] (min T (txt5 d.ops[k]).length) = S at htr hfin hlf
          have hz0 : Hid (d.ops.length = 0 → S = d.synced) := fun e => by omega
          clear hg1 hg2 hclo hfi1 hok1 hfi2 hnext hte
          generalize txt5 d.ops[k] = tx at *
          go_wp2_with fail
          refine wp_region_still_tail 12 hfu (by kernel_rfl) ?_
          change wpStill _ _ (World.drew _) (fun a' => wpList _ _ _ _ a' (World.drew _)) _ _
          simp only [List.take_succ_cons, List.take_zero, List.drop_succ_cons, List.drop_zero]
          repeat still_step
          refine wpStill_nil ?_
          go_wp2_with (go_at_call 41; refine (unhide htr).mono ?_; rintro e w4 ⟨rfl, m4, c4'⟩; have hcr9 := hide ((unhide hcr1).turn m4 c4' hbs (unhide H).ltB (unhide H).dis); have z2 : w4.cell? ⟨p, 2, none⟩ = some (.map (some bs)) := cell_of (unhide hcr9).co.row; have htt := hide (total_any bs S w4 (unhide hcr9).co.ms (unhide hfin).srt (by have := (unhide hfin).tot; omega)))
          go_wp2_with (first
            | (go_at_call 42; refine (unhide htt).mono ?_; rintro e w5 ⟨rfl, hb5⟩; obtain ⟨hco5, q1, q2⟩ := cr_used (unhide hcr9) hb5 hMp; have hsy := hide (sync_co (unhide hco5).1 (unhide hfin).srt (unhide hfin).len (unhide hz0) hol))
            | (go_at_call 20; refine (unhide hsy).mono ?_; rintro e w6 ⟨rfl, v6, co6, hv6, ch6⟩))
          go_ret
          rw [unhide hres, unhide hlf]
          refine ⟨rfl, aft_of (unhide H) (unhide H3) hv6 co6 (unhide hfin) ((unhide hco5).2.trans ch6 (fun i hi => Or.inl ?_))⟩
          rcases hi with rfl | rfl
          · exact hMp
          · exact (unhide H3) _ (Or.inr (Or.inr (Or.inl rfl)))
        · have hkn' : k = d.ops.length := by omega
          have hfin : Hid (Fine C ((d.ops.take k).foldl run5 d.synced)) := by
            have := (unhide H).val.last
            rw [hkn', List.take_length]
            exact this
          have hlf := hide (left_all (T := T) hkn')
          have hz0 : Hid (d.ops.length = 0 → (d.ops.take k).foldl run5 d.synced = d.synced) := fun e => by
            rw [List.length_eq_zero_iff.1 e]
            simp
          generalize (d.ops.take k).foldl run5 d.synced = S at HO hfin hlf hz0
          have hcr9 := HO
          have htt := hide (total_any bs S wr (unhide hcr9).co.ms (unhide hfin).srt (by have := (unhide hfin).tot; omega))
          clear hte hkn'
          go_wp2_with (first
            | (go_at_call 42; refine (unhide htt).mono ?_; rintro e w5 ⟨rfl, hb5⟩; obtain ⟨hco5, q1, q2⟩ := cr_used (unhide hcr9) hb5 hMp; have hsy := hide (sync_co (unhide hco5).1 (unhide hfin).srt (unhide hfin).len (unhide hz0) hol))
            | (go_at_call 20; refine (unhide hsy).mono ?_; rintro e w6 ⟨rfl, v6, co6, hv6, ch6⟩))
          go_ret
          rw [unhide hres, unhide hlf]
          refine ⟨rfl, aft_of (unhide H) (unhide H3) hv6 co6 (unhide hfin) ((unhide hco5).2.trans ch6 (fun i hi => Or.inl ?_))⟩
          rcases hi with rfl | rfl
          · exact hMp
          · exact (unhide H3) _ (Or.inr (Or.inr (Or.inl rfl)))
end Go.Proofs.Ytpngcmlaimcceaa
