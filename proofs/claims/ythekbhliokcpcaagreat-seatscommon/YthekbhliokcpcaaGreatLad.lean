/- A leader commits what a majority has. -/
import Derived.Test.YthekbhliokcpcaaGreatLmo
import Derived.Test.YthekbhliokcpcaaGreatTic
namespace Go.Proofs.YthekbhliokcpcaaGreat
open Go.RowKit Go.Maps Go.Sort
theorem most_mem {l : List Int} (h : l ≠ []) : most l ∈ l := by
  have hl : 0 < l.length := List.length_pos_iff.2 h
  have hj : l.length / 2 < (srtD l).length := by rw [srtD_len]; omega
  unfold most
  rw [List.getD_eq_getElem?_getD, List.getElem?_eq_getElem hj, Option.getD_some]
  exact (srtD_perm l).mem_iff.1 (List.getElem_mem hj)
/-- What a majority has is an index of the log. -/
theorem most_ok {n T G : Nat} {s : PP} (h : Ok n T G s) : 0 ≤ most s.have ∧ most s.have ≤ s.log.length := by
  have hm := most_mem (l := s.have) (by simp [PP.have])
  unfold PP.have at hm ⊢
  rcases List.mem_cons.1 hm with e | hm
  · rw [e]; unfold PP.lastI; omega
  · obtain ⟨f, hf, e⟩ := List.mem_map.1 hm
    rcases h.role with h' | h' | h'
    · rw [h'.2.2] at hf; cases hf
    · rw [h'.2.2.2.2] at hf; cases hf
    · have := h'.2.2.2.2.2.2 f hf
      omega
theorem fol_len {n T G : Nat} {s : PP} (h : Ok n T G s) (hn : n ≤ 64) : s.fol.length ≤ 64 := by
  rcases h.role with h' | h' | h'
  · rw [h'.2.2]; exact Nat.zero_le _
  · rw [h'.2.2.2.2]; exact Nat.zero_le _
  · have e := congrArg List.length h'.2.2.2.2.2.1
    rw [List.length_map] at e
    rw [e]
    exact Nat.le_trans (List.length_filter_le _ _) (by rw [mem_len]; exact hn)
section
variable {ops : Array Oper} {rest : List Oper} {o : Oper} {a : Act} {Q : Exit → Act → World → Prop} {W : World} {n : Nat} {s : PP} {z : Px}
theorem fl_commit (hgd : o.guard = none) (x y : Operand) (ho : o.op = .store 25 x y) (b : Nat) (v : Nat) (hx : a.eval x = .pointer (some ⟨b, 11, none⟩)) (hy : a.eval y = .int .u64 (v : Int)) (hg : W.heap[b]? = some (.cells (pc n s z) 31))
    (hK : ∀ w', w'.heap[b]? = some (.cells (pc n { s with commit := v } z) 31) → Ch (fun k => k = b) W w' → wpList Tryz.prog ops Q rest (a.put o.dst undef) w') : wpList Tryz.prog ops Q (o :: rest) a W :=
  bx_fld hgd 25 x y ho b 11 _ hx hy rfl rfl hg Tryz.one26 (by decide) rfl hK
end
/-- How a member stands in its box b, the answer's box b2 beside it; its lists are what they were. -/
structure Ty (W w : World) (b b2 n : Nat) (s : PP) (x : Px) : Prop where
  row : w.heap[b]? = some (.cells (pc n s x) 31)
  bel : Bel W w
  row2 : ∃ s2 x2 n2, w.heap[b2]? = some (.cells (pc n2 s2 x2) 31)
  ge : W.heap.size ≤ b
  ge2 : W.heap.size ≤ b2
  ne : b2 ≠ b
section
variable {W w w' : World} {b b2 n : Nat} {s s' : PP} {x x' : Px}
theorem Ty.set (h : Ty W w b b2 n s x) (h1 : w'.heap[b]? = some (.cells (pc n s' x') 31)) (hc : Ch (fun i => i = b) w w') : Ty W w' b b2 n s' x' := by
  obtain ⟨s2, x2, n2, h2⟩ := h.row2
  exact ⟨h1, bel_off h.bel hc h.ge, ⟨s2, x2, n2, hc.row h2 h.ne⟩, h.ge, h.ge2, h.ne⟩
theorem Ty.next (h : Ty W w b b2 n s x) (hb : Bel w w') : Ty W w' b b2 n s x := by
  obtain ⟨s2, x2, n2, h2⟩ := h.row2
  exact ⟨hb.row h.row, h.bel.trans hb, ⟨s2, x2, n2, hb.row h2⟩, h.ge, h.ge2, h.ne⟩
theorem Ty.out (h : Ty W w b b2 n s x) (hc : Ch (fun i => i = b2) w w') : Bel W w' := bel_off h.bel hc h.ge2
end
set_option maxRecDepth 100000 in
set_option maxHeartbeats 2000000 in
theorem adv_any {W : World} {n : Nat} {s : PP} {x : Px} (h : Pw W n s x) (hn : n ≤ 64) (hid : s.id ∈ mem n) (hlen : s.log.length ≤ 1000000) (hfl : s.fol.length ≤ 64) (hmo : 0 ≤ most s.have ∧ most s.have ≤ s.log.length) : Calls Tryz.prog 72 #[.agg (pc n s x)] W fun e w' => e = .returned (.agg (pc n s.adv x)) ∧ Bel W w' := by
  obtain ⟨i, hi⟩ : ∃ i : Nat, most s.have = (i : Int) := ⟨(most s.have).toNat, by omega⟩
  have hil : i ≤ s.log.length := by omega
  have H1 : Hid (∀ w1, Bel W w1 → Calls Tryz.prog 130 #[.agg (pc n s x)] w1 fun e w' => e = .returned (.int .u64 (i : Int)) ∧ Bel w1 w') := hide (fun w1 hb => by
    have := most_any (h.m.bel hb) (h.l.bel hb) (h.f.bel hb) hn hid hlen hfl
    rwa [hi] at this)
  have H2 : Hid (∀ w1, Bel W w1 → Calls Tryz.prog 74 #[.agg (pc n s x), .int .u64 (i : Int)] w1 fun e w' => e = .returned (.tuple #[.int .u64 (tAt s.log i), .bool true]) ∧ Bel w1 w') := hide (fun w1 hb => term_in (h.l.bel hb) hil hlen)
  by_cases ht : tAt s.log i = s.term
  · have HE : Hid (s.adv = { s with commit := max s.commit i }) := hide (by unfold PP.adv; rw [hi, Int.toNat_natCast, if_pos ht])
    have htb : (tAt s.log i == s.term) = true := by simp [ht]
    have hmx : max (s.commit : Int) (i : Int) = ((max s.commit i : Nat) : Int) := by omega
    clear h hn hid hlen hfl hmo hi hil
    obtain ⟨mc, hmc⟩ : ∃ mc, mc = max s.commit i := ⟨_, rfl⟩
    rw [← hmc] at hmx
    have HMC := hide hmc
    clear hmc ht
    generalize tAt s.log i = ti at *
    go_enter Tryz.func72, Tryz.ntmps72
    go_wp2_with (first
      | go_skip
      | go_guarded
      | (refine bx_box rfl 31 _ rfl (pc n s x) rfl ?_; intro b w0 hr0 hs0 hb0; have HR0 := hide hr0; have HB0 := hide (And.intro hb0 hs0); clear hr0 hs0 hb0)
      | (refine bx_new rfl 31 rfl _ Tryz.zero32 ?_; intro b2 w1 hr1 hs1 hb1; have HZ : Hid (Ty W w1 b b2 n s x) := hide ⟨hb1.row (unhide HR0), (unhide HB0).1.trans hb1, ⟨_, _, _, hr1⟩, by have := (unhide HB0).2; omega, by have := (unhide HB0).1.size; omega, fun e => by have := lt_of_some (unhide HR0); omega⟩; clear hr1 hs1 hb1 HR0 HB0)
      | (refine bx_ldG rfl 31 _ rfl b rfl _ _ (unhide HZ).row Tryz.underlying31 (Tryz.size32 _ _ _) ?_)
      | (go_at_call 130; refine ((unhide H1) _ (unhide HZ).bel).mono ?_; rintro e w2 ⟨rfl, hb2⟩; replace HZ := hide ((unhide HZ).next hb2); clear hb2)
      | (go_at_call 74; refine ((unhide H2) _ (unhide HZ).bel).mono ?_; rintro e w3 ⟨rfl, hb3⟩; replace HZ := hide ((unhide HZ).next hb3); have y2 := (Bx.of (unhide HZ).row).c2; have y11 := (Bx.of (unhide HZ).row).c11; clear hb3)
      | (refine fl_commit rfl _ _ rfl b mc rfl rfl (unhide HZ).row ?_; intro w5 hr5 hc5; replace HZ := hide ((unhide HZ).set hr5 hc5); clear hr5 hc5)
      | (obtain ⟨s2, x2, n2, h2⟩ := (unhide HZ).row2; refine bx_st rfl 31 _ _ rfl b2 _ _ rfl rfl h2 (Tryz.size32 _ _ _) rfl (pc_one _ _ _) ?_; intro w9 hr9 hc9; have HR9 := hide (And.intro hr9 ((unhide HZ).out hc9)); clear hr9 hc9 h2))
    rw [unhide HE, ← unhide HMC]
    exact bodyPost_ret (res1 (p := 2) rfl Tryz.underlying31 (Tryz.size32 _ _ _) (unhide HR9).1 _ rfl) rfl ⟨rfl, (unhide HR9).2⟩
  · have HE : Hid (s.adv = s) := hide (by unfold PP.adv; rw [hi, Int.toNat_natCast, if_neg ht])
    have htb : (tAt s.log i == s.term) = false := by simp [ht]
    clear h hn hid hlen hfl hmo hi hil ht
    generalize tAt s.log i = ti at *
    go_enter Tryz.func72, Tryz.ntmps72
    go_wp2_with (first
      | go_skip
      | go_guarded
      | (refine bx_box rfl 31 _ rfl (pc n s x) rfl ?_; intro b w0 hr0 hs0 hb0; have HR0 := hide hr0; have HB0 := hide (And.intro hb0 hs0); clear hr0 hs0 hb0)
      | (refine bx_new rfl 31 rfl _ Tryz.zero32 ?_; intro b2 w1 hr1 hs1 hb1; have HZ : Hid (Ty W w1 b b2 n s x) := hide ⟨hb1.row (unhide HR0), (unhide HB0).1.trans hb1, ⟨_, _, _, hr1⟩, by have := (unhide HB0).2; omega, by have := (unhide HB0).1.size; omega, fun e => by have := lt_of_some (unhide HR0); omega⟩; clear hr1 hs1 hb1 HR0 HB0)
      | (refine bx_ldG rfl 31 _ rfl b rfl _ _ (unhide HZ).row Tryz.underlying31 (Tryz.size32 _ _ _) ?_)
      | (go_at_call 130; refine ((unhide H1) _ (unhide HZ).bel).mono ?_; rintro e w2 ⟨rfl, hb2⟩; replace HZ := hide ((unhide HZ).next hb2); clear hb2)
      | (go_at_call 74; refine ((unhide H2) _ (unhide HZ).bel).mono ?_; rintro e w3 ⟨rfl, hb3⟩; replace HZ := hide ((unhide HZ).next hb3); have y2 := (Bx.of (unhide HZ).row).c2; have y11 := (Bx.of (unhide HZ).row).c11; clear hb3)
      | (obtain ⟨s2, x2, n2, h2⟩ := (unhide HZ).row2; refine bx_st rfl 31 _ _ rfl b2 _ _ rfl rfl h2 (Tryz.size32 _ _ _) rfl (pc_one _ _ _) ?_; intro w9 hr9 hc9; have HR9 := hide (And.intro hr9 ((unhide HZ).out hc9)); clear hr9 hc9 h2))
    rw [unhide HE]
    exact bodyPost_ret (res1 (p := 2) rfl Tryz.underlying31 (Tryz.size32 _ _ _) (unhide HR9).1 _ rfl) rfl ⟨rfl, (unhide HR9).2⟩
end Go.Proofs.YthekbhliokcpcaaGreat
