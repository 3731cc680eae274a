/- What a majority has. A leader commits what a majority has. Propose. -/
import Derived.Test.YthipgcojbhcdgaaGreatLtr
import Derived.Test.YthipgcojbhcdgaaGreatTic
import Derived.Test.YthipgcojbhcdgaaGreatNew
namespace Go.Proofs.YthipgcojbhcdgaaGreat
open Go.RowKit Go.Maps Go.Sort
/-- How mostHave stands: the member's box, the row of indices. -/
structure Mh (W wr : World) (b n : Nat) (s : PP) (x : Px) (v : Value) (L : List Int) : Prop where
  row : wr.heap[b]? = some (.cells (pc n s x) 56)
  bel : Bel W wr
  o : E26.O W.heap.size wr v L
section
variable {W wr w' : World} {b n : Nat} {s : PP} {x : Px} {v v' : Value} {L L' : List Int}
theorem Mh.next (h : Mh W wr b n s x v L) (hb : Bel wr w') : Mh W w' b n s x v L := ⟨hb.row h.row, h.bel.trans hb, h.o.bel hb⟩
theorem Mh.app (h : Mh W wr b n s x v L) (ho : E26.O W.heap.size w' v' L') (hg : wr.grownBy w' v.ownBlock) : Mh W w' b n s x v' L' :=
  ⟨row_grown h.row h.o hg (by decide), (((h.bel.ch (fun i => W.heap.size ≤ i)).grown hg (fun k hk => Or.inl (h.o.lt hk).1)).below (Nat.le_refl _) (fun _ hi => hi)), ho⟩
end
theorem E26_cell {base : Nat} {W : World} {g m cap : Nat} {L : List Int} (h : E26.O base W (.slice (some ⟨g, 0, none⟩) m cap) L) (hm : m = L.length) (j : Nat) (hj : j < L.length) : W.cell? ⟨g, j, none⟩ = some (.int .u64 (L.getD j 0)) := by
  subst hm
  have := h.row j hj 0 _ rfl
  rw [show E26.k = 1 from rfl, Nat.mul_one, Nat.add_zero, Nat.zero_add] at this
  rw [this]
  simp [List.getD, List.getElem?_eq_getElem hj]
def MhR (W : World) (b n : Nat) (s : PP) (x : Px) (no : Nat) (vi vu : Value) (wr : World) : Prop := ∃ (k : Nat) (g cap : Nat) (L : List Int), k ≤ no ∧ vi = .int .i64 k ∧ vu = .slice (some ⟨g, 0, none⟩) L.length cap ∧ Hid (L = s.lastI :: (s.fol.take k).map (·.2.2)) ∧ Hid (Mh W wr b n s x (.slice (some ⟨g, 0, none⟩) L.length cap) L)
set_option maxRecDepth 100000 in
set_option maxHeartbeats 2000000 in
theorem most_any {W : World} {n : Nat} {s : PP} {x : Px} (hm : Sl E3 W x.aM (mem n)) (hl : Sl E69 W x.aL s.log) (hf : Sl E65 W x.aF s.fol) (hn : n ≤ 64) (hid : s.id ∈ mem n) (hlen : s.log.length ≤ 1000000) (hfl : s.fol.length ≤ 64) : Calls Tryz.prog 86 #[.agg (pc n s x)] W fun e w' => e = .returned (.int .u64 (most s.have)) ∧ Bel W w' := by
  have HC : Hid (∀ w1, Bel W w1 → Calls Tryz.prog 88 #[.slice x.aM n x.cM, .int .i64 s.id] w1 fun e w' => e = .returned (.bool true) ∧ w' = w1) := hide (fun w1 hb => by
    have := contains_any (hm.bel hb) x.cM s.id (by rw [mem_len]; omega)
    rwa [mem_len, decide_eq_true hid] at this)
  have HL : Hid (∀ w1, Bel W w1 → Calls Tryz.prog 48 #[.agg (pc n s x)] w1 fun e w' => ∃ t, e = .returned (.tuple #[.int .u64 s.lastI, .int .u64 t]) ∧ Bel w1 w') := hide (fun w1 hb => (last_any (hl.bel hb) hlen).mono (fun _ _ ⟨he, hb'⟩ => ⟨_, he, hb'⟩))
  have HF := hide hf
  have HFL := hide hfl
  clear hm hl hf hn hid hlen hfl
  go_enter Tryz.func86, Tryz.ntmps86
  go_wp2_with (first
    | go_skip
    | go_guarded
    | (refine bx_box rfl 56 _ rfl (pc n s x) rfl ?_; intro b w0 hr0 hs0 hb0; have y0 := (Bx.of hr0).c0; have y1 := (Bx.of hr0).c1; have HM : Hid (Mh W w0 b n s x (.slice none 0 0) []) := hide ⟨hr0, hb0, El.O.nil _ _⟩; clear hr0 hs0 hb0)
    | (go_at_call 88; refine ((unhide HC) _ (unhide HM).bel).mono ?_; rintro e w1 ⟨rfl, hw1⟩; rw [hw1]; clear hw1)
    | (refine bx_ldG rfl 56 _ rfl b rfl (pc n s x) _ (unhide HM).row Tryz.underlying56 (Tryz.size32 _ _ _) ?_)
    | (go_at_call 48; refine ((unhide HL) _ (unhide HM).bel).mono ?_; rintro e w2 ⟨t, rfl, hb2⟩; replace HM := hide ((unhide HM).next hb2); have z15 := (Bx.of (unhide HM).row).c15; clear hb2)
    | (at_builtin; refine app1_el (E := E26) s.lastI [s.lastI] rfl ((unhide HM).next ((Bel.refl _).alloc _)).o ((unhide HM).next ((Bel.refl _).alloc _)).bel.size _ _ (at_new _ _) (by simp) rfl _ _ 76 rfl rfl rfl rfl ?_; intro g cap w4 ho4 hg4 hat4; replace HM := hide (((unhide HM).next ((Bel.refl _).alloc _)).app ho4 hg4); have y15 := (Bx.of (unhide HM).row).c15; clear ho4 hg4 hat4))
  clear y0 y1 y15
  generalize hno : s.fol.length = no at *
  have HNO := hide hno
  have hno64 : no ≤ 64 := unhide HFL
  clear hno
  go_loopw [25, 3] (MhR W b n s x no) (fun vi _ _ => no - (intOf vi).toNat)
  case atStart => exact ⟨0, g, cap, [s.lastI], Nat.zero_le _, rfl, rfl, hide rfl, HM⟩
  case round =>
    obtain ⟨k, g2, cap2, L, hk, rfl, rfl, HLk, HMr⟩ := hrel
    by_cases hlt : k < no
    · have hkn : (k : Int) < no := by omega
      have hkl : k < s.fol.length := by rw [unhide HNO]; exact hlt
      obtain ⟨gf, off, hgf, hR⟩ := (unhide HF).bel (unhide HMr).bel
      have ea := hgf (by omega)
      obtain ⟨r0, r1, r2⟩ := E65_cell hR k hkl
      obtain ⟨L', hL'⟩ : ∃ L', L' = L ++ [s.fol[k].2.2] := ⟨_, rfl⟩
      have HL2 : Hid (L' = s.lastI :: (s.fol.take (k + 1)).map (·.2.2)) := hide (by
        rw [hL', unhide HLk, List.take_add_one, List.getElem?_eq_getElem hkl, List.map_append]; rfl)
      have HL' := hide hL'
      have HLL : Hid (L.length ≤ 65) := hide (by rw [unhide HLk]; simp; have := unhide HFL; omega)
      rw [ea]
      generalize s.fol[k].2.2 = mt at *
      generalize s.fol[k].2.1 = nx at *
      generalize s.fol[k].1 = fi at *
      clear hgf hR hL' ea
      go_wp2_with (first
        | go_skip
        | go_guarded
        | (at_builtin; refine app1_el (E := E26) mt L' (unhide HL') ((unhide HMr).next (((Bel.refl _).alloc _).alloc _)).o ((unhide HMr).next (((Bel.refl _).alloc _).alloc _)).bel.size _ _ (at_new2 _ _ _) (by have := unhide HLL; omega) rfl _ _ 76 rfl rfl rfl rfl ?_; intro g4 cap4 w4 ho4 hg4 hat4; have HM4 := hide (((unhide HMr).next (((Bel.refl _).alloc _).alloc _)).app ho4 hg4); clear ho4 hg4 hat4))
      go_roundw
      case rel =>
        have hfin : ∀ v u : Value, v = .int .i64 ((k + 1 : Nat) : Int) → u = .slice (some ⟨g4, 0, none⟩) L'.length cap4 → MhR W b n s x no v u w4 := fun v u hv hu => ⟨k + 1, g4, cap4, L', by omega, hv, hu, HL2, HM4⟩
        first
          | exact hfin _ _ (by go_num) rfl
          | ((repeat apply Exists.intro); exact ⟨hfin _ _ (by go_num) rfl, rfl, rfl⟩)
      case measure => simp [intOf]; omega
    · obtain rfl : k = no := by omega
      have hLL : L = s.have := by rw [unhide HLk, List.take_of_length_le (by rw [unhide HNO]; omega)]; rfl
      have hl0 : L.length ≤ 65 := by rw [hLL]; simp [PP.have]; have := unhide HNO; omega
      have hl1 : 0 < L.length := by rw [hLL]; simp [PP.have]
      have HS : Hid (∀ w1, E26.O W.heap.size w1 (.slice (some ⟨g2, 0, none⟩) L.length cap2) L → Calls Tryz.prog 119 #[.slice (some ⟨g2, 0, none⟩) L.length cap2, .func (.func 120) #[] #[]] w1 fun e w' => e = .returned (.tuple #[]) ∧ E26.O W.heap.size w' (.slice (some ⟨g2, 0, none⟩) L.length cap2) (srtD L) ∧ Ch (fun i => i = g2) w1 w') := hide (fun w1 h1 => sort_U _ g2 cap2 L w1 h1 (by omega))
      have HLS := hide hLL
      have HO := hide (unhide HMr).o
      have HBR := hide (unhide HMr).bel
      obtain ⟨j, hj⟩ : ∃ j, j = L.length / 2 := ⟨_, rfl⟩
      have hdt : Int.tdiv (L.length : Int) 2 = (j : Int) := by rw [Int.tdiv_eq_ediv_of_nonneg (by omega)]; omega
      have HJ : Hid (j < L.length ∧ j = L.length / 2) := hide ⟨by omega, hj⟩
      have hlt2 : (j : Int) < L.length := by omega
      clear hLL hj hl1 HMr
      generalize hm : L.length = m at *
      have HMM := hide hm
      clear hm hlt hk
      go_wp2_with (first
        | go_skip
        | go_guarded
        | (go_at_call 119; refine ((unhide HS) _ (unhide HO)).mono ?_; rintro e w6 ⟨rfl, ho6, hc6⟩; have HB6 := hide (bel_off (unhide HBR) hc6 ((unhide HO).lt (k := g2) rfl).1); have z6 : w6.cell? ⟨g2, j, none⟩ = some (.int .u64 (most s.have)) := (by rw [E26_cell ho6 (by rw [srtD_len]; exact (unhide HMM).symm) j (by rw [srtD_len, unhide HMM]; exact (unhide HJ).1)]; unfold most; rw [← unhide HLS, unhide HMM, ← (unhide HJ).2]); clear ho6 hc6))
      go_ret
      exact ⟨rfl, unhide HB6⟩
end Go.Proofs.YthipgcojbhcdgaaGreat
namespace Go.Proofs.YthipgcojbhcdgaaGreat
open Go.RowKit Go.Maps Go.Sort
theorem most_mem {l : List Int} (h : l ≠ []) : most l ∈ l := by
  have hl : 0 < l.length := List.length_pos_iff.2 h
  have hj : l.length / 2 < (srtD l).length := by rw [srtD_len]; omega
  unfold most
  rw [List.getD_eq_getElem?_getD, List.getElem?_eq_getElem hj, Option.getD_some]
  exact (srtD_perm l).mem_iff.1 (List.getElem_mem hj)
/-- What a majority has is an index of the log. -/
theorem most_ok {n T G : Nat} {s : PP} (h : Ok n T G s) : 0 ≤ most s.have ∧ most s.have ≤ s.log.length := by
  have hm := most_mem (l := s.have) (by simp [PP.have])
  unfold PP.have at hm ⊢
  rcases List.mem_cons.1 hm with e | hm
  · rw [e]; unfold PP.lastI; omega
  · obtain ⟨f, hf, e⟩ := List.mem_map.1 hm
    rcases h.role with h' | h' | h'
    · rw [h'.2.2] at hf; cases hf
    · rw [h'.2.2.2.2] at hf; cases hf
    · have := h'.2.2.2.2.2.2 f hf
      omega
theorem fol_len {n T G : Nat} {s : PP} (h : Ok n T G s) (hn : n ≤ 64) : s.fol.length ≤ 64 := by
  rcases h.role with h' | h' | h'
  · rw [h'.2.2]; exact Nat.zero_le _
  · rw [h'.2.2.2.2]; exact Nat.zero_le _
  · have e := congrArg List.length h'.2.2.2.2.2.1
    rw [List.length_map] at e
    rw [e]
    exact Nat.le_trans (List.length_filter_le _ _) (by rw [mem_len]; exact hn)
section
variable {ops : Array Oper} {rest : List Oper} {o : Oper} {a : Act} {Q : Exit → Act → World → Prop} {W : World} {n : Nat} {s : PP} {z : Px}
theorem fl_commit (hgd : o.guard = none) (x y : Operand) (ho : o.op = .store 23 x y) (b : Nat) (v : Nat) (hx : a.eval x = .pointer (some ⟨b, 11, none⟩)) (hy : a.eval y = .int .u64 (v : Int)) (hg : W.heap[b]? = some (.cells (pc n s z) 56))
    (hK : ∀ w', w'.heap[b]? = some (.cells (pc n { s with commit := v } z) 56) → Ch (fun k => k = b) W w' → wpList Tryz.prog ops Q rest (a.put o.dst undef) w') : wpList Tryz.prog ops Q (o :: rest) a W :=
  bx_fld hgd 23 x y ho b 11 _ hx hy rfl rfl hg Tryz.one26 (by decide) rfl hK
end
/-- How a member stands in its box b, the answer's box b2 beside it; its lists are what they were. -/
structure Ty (W w : World) (b b2 n : Nat) (s : PP) (x : Px) : Prop where
  row : w.heap[b]? = some (.cells (pc n s x) 56)
  bel : Bel W w
  row2 : ∃ s2 x2 n2, w.heap[b2]? = some (.cells (pc n2 s2 x2) 56)
  ge : W.heap.size ≤ b
  ge2 : W.heap.size ≤ b2
  ne : b2 ≠ b
section
variable {W w w' : World} {b b2 n : Nat} {s s' : PP} {x x' : Px}
theorem Ty.set (h : Ty W w b b2 n s x) (h1 : w'.heap[b]? = some (.cells (pc n s' x') 56)) (hc : Ch (fun i => i = b) w w') : Ty W w' b b2 n s' x' := by
  obtain ⟨s2, x2, n2, h2⟩ := h.row2
  exact ⟨h1, bel_off h.bel hc h.ge, ⟨s2, x2, n2, hc.row h2 h.ne⟩, h.ge, h.ge2, h.ne⟩
theorem Ty.next (h : Ty W w b b2 n s x) (hb : Bel w w') : Ty W w' b b2 n s x := by
  obtain ⟨s2, x2, n2, h2⟩ := h.row2
  exact ⟨hb.row h.row, h.bel.trans hb, ⟨s2, x2, n2, hb.row h2⟩, h.ge, h.ge2, h.ne⟩
theorem Ty.out (h : Ty W w b b2 n s x) (hc : Ch (fun i => i = b2) w w') : Bel W w' := bel_off h.bel hc h.ge2
end
set_option maxRecDepth 100000 in
set_option maxHeartbeats 2000000 in
theorem adv_any {W : World} {n : Nat} {s : PP} {x : Px} (h : Pw W n s x) (hn : n ≤ 64) (hid : s.id ∈ mem n) (hlen : s.log.length ≤ 1000000) (hfl : s.fol.length ≤ 64) (hmo : 0 ≤ most s.have ∧ most s.have ≤ s.log.length) : Calls Tryz.prog 49 #[.agg (pc n s x)] W fun e w' => e = .returned (.agg (pc n s.adv x)) ∧ Bel W w' := by
  obtain ⟨i, hi⟩ : ∃ i : Nat, most s.have = (i : Int) := ⟨(most s.have).toNat, by omega⟩
  have hil : i ≤ s.log.length := by omega
  have H1 : Hid (∀ w1, Bel W w1 → Calls Tryz.prog 86 #[.agg (pc n s x)] w1 fun e w' => e = .returned (.int .u64 (i : Int)) ∧ Bel w1 w') := hide (fun w1 hb => by
    have := most_any (h.m.bel hb) (h.l.bel hb) (h.f.bel hb) hn hid hlen hfl
    rwa [hi] at this)
  have H2 : Hid (∀ w1, Bel W w1 → Calls Tryz.prog 87 #[.agg (pc n s x), .int .u64 (i : Int)] w1 fun e w' => e = .returned (.tuple #[.int .u64 (tAt s.log i), .bool true]) ∧ Bel w1 w') := hide (fun w1 hb => term_in (h.l.bel hb) hil hlen)
  by_cases ht : tAt s.log i = s.term
  · have HE : Hid (s.adv = { s with commit := max s.commit i }) := hide (by unfold PP.adv; rw [hi, Int.toNat_natCast, if_pos ht])
    have htb : (tAt s.log i == s.term) = true := by simp [ht]
    have hmx : max (s.commit : Int) (i : Int) = ((max s.commit i : Nat) : Int) := by omega
    clear h hn hid hlen hfl hmo hi hil
    obtain ⟨mc, hmc⟩ : ∃ mc, mc = max s.commit i := ⟨_, rfl⟩
    rw [← hmc] at hmx
    have HMC := hide hmc
    clear hmc ht
    generalize tAt s.log i = ti at *
    go_enter Tryz.func49, Tryz.ntmps49
    go_wp2_with (first
      | go_skip
      | go_guarded
      | (refine bx_box rfl 56 _ rfl (pc n s x) rfl ?_; intro b w0 hr0 hs0 hb0; have HR0 := hide hr0; have HB0 := hide (And.intro hb0 hs0); clear hr0 hs0 hb0)
      | (refine bx_new rfl 56 rfl _ Tryz.zero32 ?_; intro b2 w1 hr1 hs1 hb1; have HZ : Hid (Ty W w1 b b2 n s x) := hide ⟨hb1.row (unhide HR0), (unhide HB0).1.trans hb1, ⟨_, _, _, hr1⟩, by have := (unhide HB0).2; omega, by have := (unhide HB0).1.size; omega, fun e => by have := lt_of_some (unhide HR0); omega⟩; clear hr1 hs1 hb1 HR0 HB0)
      | (refine bx_ldG rfl 56 _ rfl b rfl _ _ (unhide HZ).row Tryz.underlying56 (Tryz.size32 _ _ _) ?_)
      | (go_at_call 86; refine ((unhide H1) _ (unhide HZ).bel).mono ?_; rintro e w2 ⟨rfl, hb2⟩; replace HZ := hide ((unhide HZ).next hb2); clear hb2)
      | (go_at_call 87; refine ((unhide H2) _ (unhide HZ).bel).mono ?_; rintro e w3 ⟨rfl, hb3⟩; replace HZ := hide ((unhide HZ).next hb3); have y2 := (Bx.of (unhide HZ).row).c2; have y11 := (Bx.of (unhide HZ).row).c11; clear hb3)
      | (refine fl_commit rfl _ _ rfl b mc rfl rfl (unhide HZ).row ?_; intro w5 hr5 hc5; replace HZ := hide ((unhide HZ).set hr5 hc5); clear hr5 hc5)
      | (obtain ⟨s2, x2, n2, h2⟩ := (unhide HZ).row2; refine bx_st rfl 56 _ _ rfl b2 _ _ rfl rfl h2 (Tryz.size32 _ _ _) rfl (pc_one _ _ _) ?_; intro w9 hr9 hc9; have HR9 := hide (And.intro hr9 ((unhide HZ).out hc9)); clear hr9 hc9 h2))
    rw [unhide HE, ← unhide HMC]
    exact bodyPost_ret (res1 (p := 2) rfl Tryz.underlying56 (Tryz.size32 _ _ _) (unhide HR9).1 _ rfl) rfl ⟨rfl, (unhide HR9).2⟩
  · have HE : Hid (s.adv = s) := hide (by unfold PP.adv; rw [hi, Int.toNat_natCast, if_neg ht])
    have htb : (tAt s.log i == s.term) = false := by simp [ht]
    clear h hn hid hlen hfl hmo hi hil ht
    generalize tAt s.log i = ti at *
    go_enter Tryz.func49, Tryz.ntmps49
    go_wp2_with (first
      | go_skip
      | go_guarded
      | (refine bx_box rfl 56 _ rfl (pc n s x) rfl ?_; intro b w0 hr0 hs0 hb0; have HR0 := hide hr0; have HB0 := hide (And.intro hb0 hs0); clear hr0 hs0 hb0)
      | (refine bx_new rfl 56 rfl _ Tryz.zero32 ?_; intro b2 w1 hr1 hs1 hb1; have HZ : Hid (Ty W w1 b b2 n s x) := hide ⟨hb1.row (unhide HR0), (unhide HB0).1.trans hb1, ⟨_, _, _, hr1⟩, by have := (unhide HB0).2; omega, by have := (unhide HB0).1.size; omega, fun e => by have := lt_of_some (unhide HR0); omega⟩; clear hr1 hs1 hb1 HR0 HB0)
      | (refine bx_ldG rfl 56 _ rfl b rfl _ _ (unhide HZ).row Tryz.underlying56 (Tryz.size32 _ _ _) ?_)
      | (go_at_call 86; refine ((unhide H1) _ (unhide HZ).bel).mono ?_; rintro e w2 ⟨rfl, hb2⟩; replace HZ := hide ((unhide HZ).next hb2); clear hb2)
      | (go_at_call 87; refine ((unhide H2) _ (unhide HZ).bel).mono ?_; rintro e w3 ⟨rfl, hb3⟩; replace HZ := hide ((unhide HZ).next hb3); have y2 := (Bx.of (unhide HZ).row).c2; have y11 := (Bx.of (unhide HZ).row).c11; clear hb3)
      | (obtain ⟨s2, x2, n2, h2⟩ := (unhide HZ).row2; refine bx_st rfl 56 _ _ rfl b2 _ _ rfl rfl h2 (Tryz.size32 _ _ _) rfl (pc_one _ _ _) ?_; intro w9 hr9 hc9; have HR9 := hide (And.intro hr9 ((unhide HZ).out hc9)); clear hr9 hc9 h2))
    rw [unhide HE]
    exact bodyPost_ret (res1 (p := 2) rfl Tryz.underlying56 (Tryz.size32 _ _ _) (unhide HR9).1 _ rfl) rfl ⟨rfl, (unhide HR9).2⟩
end Go.Proofs.YthipgcojbhcdgaaGreat
namespace Go.Proofs.YthipgcojbhcdgaaGreat
open Go.RowKit Go.Maps Go.Sort
/-- Nobody. -/
def p0 : PP := ⟨0, 0, 0, 0, 0, 0, 0, [], [], [], 0⟩
def x0 : Px := ⟨none, 0, none, 0, none, 0, none, 0, none, 0, none, 0⟩
/-- A member in its box whose log was appended to and not yet written down. -/
structure Ta (W w : World) (b b2 n : Nat) (s : PP) (x : Px) (L' : List PE) (g cap : Nat) : Prop where
  row : w.heap[b]? = some (.cells (pc n s x) 56)
  m : E3.O W.heap.size w (.slice x.aM n x.cM) (mem n)
  mb : E3.O W.heap.size w (.slice x.aB n x.cB) (mem n)
  l : E69.O W.heap.size w (.slice (some ⟨g, 0, none⟩) L'.length cap) L'
  v : E3.O W.heap.size w (.slice x.aV s.votes.length x.cV) s.votes
  f : E65.O W.heap.size w (.slice x.aF s.fol.length x.cF) s.fol
  dv : ∀ k j, (Value.slice x.aV s.votes.length x.cV).ownBlock = some k → (Value.slice x.aM n x.cM).ownBlock = some j ∨ (Value.slice x.aB n x.cB).ownBlock = some j → j < k
  bel : Bel W w
  row2 : ∃ s2 x2 n2, w.heap[b2]? = some (.cells (pc n2 s2 x2) 56)
  ge : W.heap.size ≤ b
  ge2 : W.heap.size ≤ b2
  ne : b2 ≠ b
section
variable {W w w' : World} {b b2 n : Nat} {s : PP} {x : Px} {L' : List PE} {g cap : Nat}
theorem Tz.app (h : Tz W w b b2 n s x) (ho : E69.O W.heap.size w' (.slice (some ⟨g, 0, none⟩) L'.length cap) L') (hg : w.grownBy w' (Value.slice x.aL s.log.length x.cL).ownBlock) : Ta W w' b b2 n s x L' g cap := by
  obtain ⟨s2, x2, n2, h2⟩ := h.row2
  exact ⟨row_grown h.row h.pf.l hg (by decide), h.pf.m.grown h.pf.l hg (by decide), h.pf.b.grown h.pf.l hg (by decide), ho, h.pf.v.grown h.pf.l hg (by decide), h.pf.f.grown h.pf.l hg (by decide), h.pf.dv, (((h.bel.ch (fun i => W.heap.size ≤ i)).grown hg (fun k hk => Or.inl (h.pf.l.lt hk).1)).below (Nat.le_refl _) (fun _ hi => hi)), ⟨s2, x2, n2, row_grown h2 h.pf.l hg (by decide)⟩, h.ge, h.ge2, h.ne⟩
theorem Ta.set (h : Ta W w b b2 n s x L' g cap) (h1 : w'.heap[b]? = some (.cells (pc n { s with log := L' } { x with aL := some ⟨g, 0, none⟩, cL := cap }) 56)) (hc : Ch (fun i => i = b) w w') : Tz W w' b b2 n { s with log := L' } { x with aL := some ⟨g, 0, none⟩, cL := cap } := by
  obtain ⟨s2, x2, n2, h2⟩ := h.row2
  exact ⟨h1, ⟨h.m.box h.row (by decide) hc, h.mb.box h.row (by decide) hc, h.l.box h.row (by decide) hc, h.v.box h.row (by decide) hc, h.f.box h.row (by decide) hc, h.dv⟩, bel_off h.bel hc h.ge, ⟨s2, x2, n2, hc.row h2 h.ne⟩, h.ge, h.ge2, h.ne⟩
end
set_option maxRecDepth 100000 in
set_option maxHeartbeats 2000000 in
/-- One that does not lead. -/
theorem prop_lead {W : World} {n T G : Nat} {s : PP} {x : Px} (h : Pq W n s x) (hok : Ok n T G s) (hn : n ≤ 64) (hT : T ≤ 1000000) (hG : G ≤ 999999) (d : ByteArray) (hr : s.role ≠ 2) : Calls Tryz.prog 16 #[.agg (pc n s x), .string d] W fun e w' => e = .returned (.tuple #[.agg (pc 0 p0 x0), .int .u64 0, .int .i64 140]) ∧ Bel W w' := by
  have H1 : Hid (∀ W', Bel W W' → Calls Tryz.prog 46 #[.agg (pc n s x)] W' fun e w' => e = .returned (.int .i64 0) ∧ Bel W' w') := hide (fun W' hb => may_ok (h.pw.bel hb) hok hn hT hG h.cap)
  have e1 : (s.role != 2) = true := by simp [hr]
  have e2 : (s.role == 2) = false := by simp [hr]
  clear h hok hn hT hG hr
  go_enter Tryz.func16, Tryz.ntmps16
  go_wp2_with (first
    | go_skip
    | go_guarded
    | (refine bx_box rfl 56 _ rfl (pc n s x) rfl ?_; intro b w0 hr0 hs0 hb0; have HR0 := hide hr0; have HB0 := hide (And.intro hb0 hs0); clear hr0 hs0 hb0)
    | (refine bx_new rfl 56 rfl _ Tryz.zero32 ?_; intro b2 w1 hr1 hs1 hb1; have HZ : Hid (Ty W w1 b b2 n s x) := hide ⟨hb1.row (unhide HR0), (unhide HB0).1.trans hb1, ⟨_, _, _, hr1⟩, by have := (unhide HB0).2; omega, by have := (unhide HB0).1.size; omega, fun e => by have := lt_of_some (unhide HR0); omega⟩; clear hr1 hs1 hb1 HR0 HB0)
    | (refine bx_ldG rfl 56 _ rfl b rfl _ _ (unhide HZ).row Tryz.underlying56 (Tryz.size32 _ _ _) ?_)
    | (go_at_call 46; refine ((unhide H1) _ (unhide HZ).bel).mono ?_; rintro e w2 ⟨rfl, hb2⟩; replace HZ := hide ((unhide HZ).next hb2); have y4 := (Bx.of (unhide HZ).row).c4; clear hb2)
    | (obtain ⟨s2, x2, n2, h2⟩ := (unhide HZ).row2; refine bx_st rfl 56 (.tmp 4) _ rfl b2 (pc 0 p0 x0) _ rfl rfl h2 (Tryz.size32 _ _ _) rfl (pc_one _ _ _) ?_; intro w9 hr9 hc9; have HR9 := hide (And.intro hr9 ((unhide HZ).out hc9)); clear hr9 hc9 h2))
  exact bodyPost_ret (res3 (p := 4) (q := 5) (r := 6) rfl Tryz.underlying56 (Tryz.size32 _ _ _) (unhide HR9).1 _ _ _ rfl rfl rfl) rfl ⟨rfl, (unhide HR9).2⟩
set_option maxRecDepth 100000 in
set_option maxHeartbeats 2000000 in
/-- Data that are too long. -/
theorem prop_long {W : World} {n T G : Nat} {s : PP} {x : Px} (h : Pq W n s x) (hok : Ok n T G s) (hn : n ≤ 64) (hT : T ≤ 1000000) (hG : G ≤ 999999) (d : ByteArray) (hr : s.role = 2) (hd : 1048576 < d.size) : Calls Tryz.prog 16 #[.agg (pc n s x), .string d] W fun e w' => e = .returned (.tuple #[.agg (pc 0 p0 x0), .int .u64 0, .int .i64 4]) ∧ Bel W w' := by
  have H1 : Hid (∀ W', Bel W W' → Calls Tryz.prog 46 #[.agg (pc n s x)] W' fun e w' => e = .returned (.int .i64 0) ∧ Bel W' w') := hide (fun W' hb => may_ok (h.pw.bel hb) hok hn hT hG h.cap)
  have e1 : (s.role != 2) = false := by simp [hr]
  have e2 : (s.role == 2) = true := by simp [hr]
  have hd' : (1048576 : Int) < (d.size : Int) := by omega
  clear h hok hn hT hG hr hd
  go_enter Tryz.func16, Tryz.ntmps16
  go_wp2_with (first
    | go_skip
    | go_guarded
    | (refine bx_box rfl 56 _ rfl (pc n s x) rfl ?_; intro b w0 hr0 hs0 hb0; have HR0 := hide hr0; have HB0 := hide (And.intro hb0 hs0); clear hr0 hs0 hb0)
    | (refine bx_new rfl 56 rfl _ Tryz.zero32 ?_; intro b2 w1 hr1 hs1 hb1; have HZ : Hid (Ty W w1 b b2 n s x) := hide ⟨hb1.row (unhide HR0), (unhide HB0).1.trans hb1, ⟨_, _, _, hr1⟩, by have := (unhide HB0).2; omega, by have := (unhide HB0).1.size; omega, fun e => by have := lt_of_some (unhide HR0); omega⟩; clear hr1 hs1 hb1 HR0 HB0)
    | (refine bx_ldG rfl 56 _ rfl b rfl _ _ (unhide HZ).row Tryz.underlying56 (Tryz.size32 _ _ _) ?_)
    | (go_at_call 46; refine ((unhide H1) _ (unhide HZ).bel).mono ?_; rintro e w2 ⟨rfl, hb2⟩; replace HZ := hide ((unhide HZ).next hb2); have y4 := (Bx.of (unhide HZ).row).c4; clear hb2)
    | (obtain ⟨s2, x2, n2, h2⟩ := (unhide HZ).row2; refine bx_st rfl 56 (.tmp 4) _ rfl b2 (pc 0 p0 x0) _ rfl rfl h2 (Tryz.size32 _ _ _) rfl (pc_one _ _ _) ?_; intro w9 hr9 hc9; have HR9 := hide (And.intro hr9 ((unhide HZ).out hc9)); clear hr9 hc9 h2))
  exact bodyPost_ret (res3 (p := 4) (q := 5) (r := 6) rfl Tryz.underlying56 (Tryz.size32 _ _ _) (unhide HR9).1 _ _ _ rfl rfl rfl) rfl ⟨rfl, (unhide HR9).2⟩
/-- A leader with one entry more. -/
theorem more_ok {n T G : Nat} {s : PP} (h : Ok n T G s) (hr : s.role = 2) (d : ByteArray) : Ok n T (G + 1) (s.more d) := by
  rcases h.role with h' | h' | h'
  · omega
  · omega
  · refine ⟨h.id1, h.idn, h.t0, h.tT, h.vote, h.lead, h.wait, h.idle, ?_, ?_, ?_, h.vr, h.vm, Or.inr (Or.inr ⟨hr, h'.2.1, h'.2.2.1, h'.2.2.2.1, h'.2.2.2.2.1, h'.2.2.2.2.2.1, fun f hf => ?_⟩)⟩
    · exact h.log.snoc rfl (Or.inl rfl) h'.2.2.1
    · have := h.glen; simp [PP.more]; omega
    · have := h.com; simp [PP.more]; omega
    · have := h'.2.2.2.2.2.2 f hf; simp [PP.more]; omega
set_option maxRecDepth 100000 in
set_option maxHeartbeats 4000000 in
theorem prop_any {W : World} {n T G : Nat} {s : PP} {x : Px} (h : Pq W n s x) (hok : Ok n T G s) (hn : n ≤ 64) (hT : T ≤ 1000000) (hG : G ≤ 999998) (d : ByteArray) (hr : s.role = 2) (hd : d.size ≤ 1048576) : Calls Tryz.prog 16 #[.agg (pc n s x), .string d] W fun e w' => ∃ x', e = .returned (.tuple #[.agg (pc n (s.prop d) x'), .int .u64 ((s.log.length + 1 : Nat) : Int), .int .i64 0]) ∧ Pf W.heap.size w' n (s.prop d) x' ∧ Bel W w' := by
  have hln := hok.lens hn
  have hgl := hok.glen
  have hok2 := more_ok hok hr d
  have hid : (s.more d).id ∈ mem n := mem_iff.2 ⟨hok.id1, hok.idn⟩
  have H1 : Hid (∀ W', Bel W W' → Calls Tryz.prog 46 #[.agg (pc n s x)] W' fun e w' => e = .returned (.int .i64 0) ∧ Bel W' w') := hide (fun W' hb => may_ok (h.pw.bel hb) hok hn hT (by omega) h.cap)
  have H2 : Hid (∀ W', Bel W W' → Calls Tryz.prog 47 #[.agg (pc n s x)] W' fun e w' => ∃ x', e = .returned (.agg (pc n s x')) ∧ Pf W.heap.size w' n s x' ∧ Bel W' w') := hide (fun W' hb => (clone_any (h.pw.bel hb) hn (by omega) hln.1 hln.2).mono (fun _ _ ⟨x', he, hf, hb'⟩ => ⟨x', he, ⟨hf.m.mono hb.size, hf.b.mono hb.size, hf.l.mono hb.size, hf.v.mono hb.size, hf.f.mono hb.size, hf.dv⟩, hb'⟩))
  have H3 : Hid (∀ W' x', Pw W' n (s.more d) x' → Calls Tryz.prog 48 #[.agg (pc n (s.more d) x')] W' fun e w' => ∃ t, e = .returned (.tuple #[.int .u64 ((s.log.length + 1 : Nat) : Int), .int .u64 t]) ∧ Bel W' w') := hide (fun W' x' hp => (last_any hp.l (by have := hok2.glen; omega)).mono (fun _ _ ⟨he, hb'⟩ => ⟨(s.more d).lastT, he.trans (congrArg (fun v => Ending.returned (.tuple #[.int .u64 v, .int .u64 (s.more d).lastT])) (by simp [PP.lastI, PP.more])), hb'⟩))
  have H4 : Hid (∀ W' x', Pw W' n (s.more d) x' → Calls Tryz.prog 49 #[.agg (pc n (s.more d) x')] W' fun e w' => e = .returned (.agg (pc n (s.prop d) x')) ∧ Bel W' w') := hide (fun W' x' hp => adv_any hp hn hid (by have := hok2.glen; omega) (fol_len hok2 hn) (most_ok hok2))
  have e1 : (s.role != 2) = false := by simp [hr]
  have e2 : (s.role == 2) = true := by simp [hr]
  have hd' : ¬ ((1048576 : Int) < (d.size : Int)) := by omega
  have HG : Hid (s.log.length ≤ 999998) := hide (by omega)
  obtain ⟨L', hL'⟩ : ∃ L', L' = s.log ++ [⟨s.term, 0, d⟩] := ⟨_, rfl⟩
  have HL' := hide hL'
  have HMO : Hid ({ s with log := L' } = s.more d) := hide (by rw [hL']; rfl)
  clear h hok hn hT hG hr hd hln hgl hok2 hid hL'
  go_enter Tryz.func16, Tryz.ntmps16
  go_wp2_with (first
    | go_skip
    | go_guarded
    | (refine bx_box rfl 56 _ rfl (pc n s x) rfl ?_; intro b w0 hr0 hs0 hb0; have HR0 := hide hr0; have HB0 := hide (And.intro hb0 hs0); clear hr0 hs0 hb0)
    | (refine bx_new rfl 56 rfl _ Tryz.zero32 ?_; intro b2 w1 hr1 hs1 hb1; have HY : Hid (Ty W w1 b b2 n s x) := hide ⟨hb1.row (unhide HR0), (unhide HB0).1.trans hb1, ⟨_, _, _, hr1⟩, by have := (unhide HB0).2; omega, by have := (unhide HB0).1.size; omega, fun e => by have := lt_of_some (unhide HR0); omega⟩; clear hr1 hs1 hb1 HR0 HB0)
    | (refine bx_ldG rfl 56 _ rfl b rfl _ _ (unhide HY).row Tryz.underlying56 (Tryz.size32 _ _ _) ?_)
    | (go_at_call 46; refine ((unhide H1) _ (unhide HY).bel).mono ?_; rintro e w2 ⟨rfl, hb2⟩; replace HY := hide ((unhide HY).next hb2); have y4 := (Bx.of (unhide HY).row).c4; clear hb2)
    | (go_at_call 47; refine ((unhide H2) _ (unhide HY).bel).mono ?_; rintro e w3 ⟨x1, rfl, hf3, hb3⟩; have HF3 := hide hf3; replace HY := hide ((unhide HY).next hb3); clear hb3 hf3)
    | (refine bx_st rfl 56 (.tmp 2) _ rfl b (pc n s x1) _ rfl rfl (unhide HY).row (Tryz.size32 _ _ _) rfl (pc_one _ _ _) ?_; intro w4 hr4 hc4; have y2 := (Bx.of hr4).c2; have y10 := (Bx.of hr4).c10; have HZ : Hid (Tz W w4 b b2 n s x1) := hide ⟨hr4, (unhide HF3).box (unhide HY).row hc4, bel_off (unhide HY).bel hc4 (unhide HY).ge, ((unhide HY).set hr4 hc4).row2, (unhide HY).ge, (unhide HY).ge2, (unhide HY).ne⟩; clear hr4 hc4 HY HF3)
    | (at_builtin; refine app1_el (E := E69) ⟨s.term, 0, d⟩ L' (unhide HL') ((unhide HZ).next ((Bel.refl _).alloc _)).pf.l ((unhide HZ).next ((Bel.refl _).alloc _)).bel.size _ _ (at_new _ _) (by have := unhide HG; omega) rfl _ _ 24 rfl rfl rfl rfl ?_; intro g cap w5 ho5 hg5 hat5; have HA := hide (((unhide HZ).next ((Bel.refl _).alloc _)).app ho5 hg5); clear ho5 hg5 hat5 HZ)
    | (refine fl_log rfl _ _ rfl b _ L' _ rfl rfl (unhide HA).row ?_; intro w6 hr6 hc6; have hz6 := (unhide HA).set hr6 hc6; rw [unhide HMO] at hz6; have HZ := hide hz6; clear hr6 hc6 hz6 HA)
    | (refine bx_ldG rfl 56 _ rfl b rfl _ _ (unhide HZ).row Tryz.underlying56 (Tryz.size32 _ _ _) ?_)
    | (go_at_call 48; refine ((unhide H3) _ _ (unhide HZ).pf.pw).mono ?_; rintro e w7 ⟨t7, rfl, hb7⟩; replace HZ := hide ((unhide HZ).next hb7); clear hb7)
    | (go_at_call 49; refine ((unhide H4) _ _ (unhide HZ).pf.pw).mono ?_; rintro e w8 ⟨rfl, hb8⟩; replace HZ := hide ((unhide HZ).next hb8); clear hb8)
    | (obtain ⟨s2, x2, n2, h2⟩ := (unhide HZ).row2; refine bx_st rfl 56 (.tmp 4) _ rfl b2 (pc n (s.prop d) _) _ rfl rfl h2 (Tryz.size32 _ _ _) rfl (pc_one _ _ _) ?_; intro w9 hr9 hc9; have HR9 := hide (And.intro hr9 (And.intro ((unhide HZ).pf.box h2 hc9) (bel_off (unhide HZ).bel hc9 (unhide HZ).ge2))); clear hr9 hc9 h2))
  refine bodyPost_ret (res3 (p := 4) (q := 5) (r := 6) rfl Tryz.underlying56 (Tryz.size32 _ _ _) (unhide HR9).1 _ _ _ rfl rfl rfl) rfl ⟨_, rfl, ?_, (unhide HR9).2.2⟩
  have p := (unhide HR9).2.1
  exact ⟨p.m, p.b, p.l, p.v, p.f, p.dv⟩
end Go.Proofs.YthipgcojbhcdgaaGreat
