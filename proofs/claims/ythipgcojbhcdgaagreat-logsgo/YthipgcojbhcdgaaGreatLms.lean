/- What a leader sends to a member. -/
import Derived.Test.YthipgcojbhcdgaaGreatLen
import Derived.Test.YthipgcojbhcdgaaGreatLtr
namespace Go.Proofs.YthipgcojbhcdgaaGreat
open Go.RowKit Go.Maps Go.Sort
/-- No message. -/
def q0 : QM := ⟨0, 0, 0, 0, 0, 0, 0, false, []⟩
theorem Tryz.zeroq (w : World) : (zeroValue 27).run Tryz.prog w = .ok (.agg (qc q0 none 0)) w := by
  unfold qc q0
  go_simp
theorem Tryz.n23 : (Tryz.prog.info? 23).map (·.size) = some 1 := by kernel_rfl
theorem Tryz.n22 : (Tryz.prog.info? 22).map (·.size) = some 1 := by kernel_rfl
theorem Tryz.n24 : (Tryz.prog.info? 24).map (·.size) = some 1 := by kernel_rfl
section
variable {ops : Array Oper} {rest : List Oper} {o : Oper} {a : Act} {Q : Exit → Act → World → Prop} {W : World} {m : QM} {ad : Option Addr} {c : Nat}
theorem ql_set (hgd : o.guard = none) (t : TypeId) (x y : Operand) (ho : o.op = .store t x y) (b i : Nat) (v : Value) (hx : a.eval x = .pointer (some ⟨b, i, none⟩)) (hy : a.eval y = v) (hv : v.cells = #[v]) (hv1 : v.oneCell' = true) {m' : QM} {ad' : Option Addr} {c' : Nat} (hg : W.heap[b]? = some (.cells (qc m ad c) 27)) (hi : (Tryz.prog.info? t).map (·.size) = some 1) (hlt : i < 12) (e : (qc m ad c).setIfInBounds i v = qc m' ad' c')
    (hK : ∀ w', w'.heap[b]? = some (.cells (qc m' ad' c') 27) → Ch (fun k => k = b) W w' → wpList Tryz.prog ops Q rest (a.put o.dst undef) w') : wpList Tryz.prog ops Q (o :: rest) a W :=
  bx_set hgd t x y ho b i v hx hy hv hv1 (qc m ad c) 27 hg hi hlt (fun w' h1 h2 => hK w' (e ▸ h1) h2)
theorem ql_index (hgd : o.guard = none) (x y : Operand) (ho : o.op = .store 23 x y) (b : Nat) (v : Nat) (hx : a.eval x = .pointer (some ⟨b, 4, none⟩)) (hy : a.eval y = .int .u64 (v : Int)) (hg : W.heap[b]? = some (.cells (qc m ad c) 27))
    (hK : ∀ w', w'.heap[b]? = some (.cells (qc { m with index := v } ad c) 27) → Ch (fun k => k = b) W w' → wpList Tryz.prog ops Q rest (a.put o.dst undef) w') : wpList Tryz.prog ops Q (o :: rest) a W :=
  ql_set hgd 23 x y ho b 4 _ hx hy rfl rfl hg Tryz.n23 (by decide) rfl hK
theorem ql_lterm (hgd : o.guard = none) (x y : Operand) (ho : o.op = .store 23 x y) (b : Nat) (v : Int) (hx : a.eval x = .pointer (some ⟨b, 5, none⟩)) (hy : a.eval y = .int .u64 v) (hg : W.heap[b]? = some (.cells (qc m ad c) 27))
    (hK : ∀ w', w'.heap[b]? = some (.cells (qc { m with lterm := v } ad c) 27) → Ch (fun k => k = b) W w' → wpList Tryz.prog ops Q rest (a.put o.dst undef) w') : wpList Tryz.prog ops Q (o :: rest) a W :=
  ql_set hgd 23 x y ho b 5 _ hx hy rfl rfl hg Tryz.n23 (by decide) rfl hK
theorem ql_ents (hgd : o.guard = none) (x y : Operand) (ho : o.op = .store 24 x y) (b : Nat) (v : Option Addr) (L : List PE) (cp : Nat) (hx : a.eval x = .pointer (some ⟨b, 9, none⟩)) (hy : a.eval y = .slice v L.length cp) (hg : W.heap[b]? = some (.cells (qc m ad c) 27))
    (hK : ∀ w', w'.heap[b]? = some (.cells (qc { m with ents := L } v cp) 27) → Ch (fun k => k = b) W w' → wpList Tryz.prog ops Q rest (a.put o.dst undef) w') : wpList Tryz.prog ops Q (o :: rest) a W :=
  ql_set hgd 24 x y ho b 9 _ hx hy rfl rfl hg Tryz.n24 (by decide) rfl hK
end
/-- How a message that is made stands: its box b, the answer's box b2, the member's box p. -/
structure Tm (W w : World) (p b b2 n : Nat) (s : PP) (x : Px) (m : QM) (a : Option Addr) (c : Nat) : Prop where
  row : w.heap[b]? = some (.cells (qc m a c) 27)
  row2 : ∃ m2 a2 c2, w.heap[b2]? = some (.cells (qc m2 a2 c2) 27)
  rowp : w.heap[p]? = some (.cells (pc n s x) 56)
  bel : Bel W w
  ge : W.heap.size ≤ b
  ge2 : W.heap.size ≤ b2
  ne : b2 ≠ b
section
variable {W w w' : World} {p b b2 n : Nat} {s : PP} {x : Px} {m m' : QM} {a a' : Option Addr} {c c' : Nat}
theorem Tm.next (h : Tm W w p b b2 n s x m a c) (hb : Bel w w') : Tm W w' p b b2 n s x m a c := by
  obtain ⟨m2, a2, c2, h2⟩ := h.row2
  exact ⟨hb.row h.row, ⟨m2, a2, c2, hb.row h2⟩, hb.row h.rowp, h.bel.trans hb, h.ge, h.ge2, h.ne⟩
theorem Tm.pb (h : Tm W w p b b2 n s x m a c) : p ≠ b ∧ p ≠ b2 := by
  obtain ⟨m2, a2, c2, h2⟩ := h.row2
  refine ⟨fun e => ?_, fun e => ?_⟩
  · have := h.rowp; rw [e, h.row] at this; injection (Option.some.inj this) with _ h3; exact absurd h3 (by decide)
  · have := h.rowp; rw [e, h2] at this; injection (Option.some.inj this) with _ h3; exact absurd h3 (by decide)
theorem Tm.set (h : Tm W w p b b2 n s x m a c) (h1 : w'.heap[b]? = some (.cells (qc m' a' c') 27)) (hc : Ch (fun i => i = b) w w') : Tm W w' p b b2 n s x m' a' c' := by
  obtain ⟨m2, a2, c2, h2⟩ := h.row2
  exact ⟨h1, ⟨m2, a2, c2, hc.row h2 h.ne⟩, hc.row h.rowp h.pb.1, bel_off h.bel hc h.ge, h.ge, h.ge2, h.ne⟩
end
/-- What a member f of its follows is sent. -/
theorem PP.msg_eq (s : PP) (f : Int × Int × Int) (k : Nat) (hk : f.2.1 = (k : Int) + 1) (h : k ≤ s.log.length) : s.msg f = ⟨3, s.id, f.1, s.term, k, tAt s.log k, s.commit, false, (s.log.drop k).take (min s.log.length (k + 16) - k)⟩ := by
  unfold PP.msg
  have e : (f.2.1 - 1).toNat = k := by omega
  rw [e]
  congr 1
  rw [List.take_eq_take_iff]
  simp
  omega
set_option maxRecDepth 100000 in
set_option maxHeartbeats 4000000 in
theorem msg_any {W : World} {n : Nat} {s : PP} {x : Px} (h : Sl E69 W x.aL s.log) (hc : s.log.length ≤ x.cL) (hl : s.log.length ≤ 1000000) (f : Int × Int × Int) (hf1 : 1 ≤ f.2.1) (hf2 : f.2.1 ≤ s.log.length + 1) : Calls Tryz.prog 105 #[.agg (pc n s x), .agg (encF f).toArray] W fun e w' => ∃ a' c', e = .returned (.agg (qc (s.msg f) a' c')) ∧ E69.O W.heap.size w' (.slice a' (s.msg f).ents.length c') (s.msg f).ents ∧ Bel W w' := by
  obtain ⟨k, hk⟩ : ∃ k : Nat, f.2.1 = (k : Int) + 1 := ⟨(f.2.1 - 1).toNat, by omega⟩
  have hkl : k ≤ s.log.length := by omega
  rw [PP.msg_eq s f k hk hkl]
  obtain ⟨j, hj⟩ : ∃ j, j = min s.log.length (k + 16) := ⟨_, rfl⟩
  rw [← hj]
  obtain ⟨E, hE⟩ : ∃ E, E = (s.log.drop k).take (j - k) := ⟨_, rfl⟩
  have hEl : E.length = j - k := by rw [hE]; simp; omega
  have HT : Hid (∀ w1, Bel W w1 → Calls Tryz.prog 87 #[.agg (pc n s x), .int .u64 (k : Int)] w1 fun e w' => e = .returned (.tuple #[.int .u64 (tAt s.log k), .bool true]) ∧ Bel w1 w') := hide (fun w1 hb => term_in (h.bel hb) hkl hl)
  have HL : Hid (∀ w1, Bel W w1 → Calls Tryz.prog 48 #[.agg (pc n s x)] w1 fun e w' => ∃ t, e = .returned (.tuple #[.int .u64 (s.log.length : Int), .int .u64 t]) ∧ Bel w1 w') := hide (fun w1 hb => (last_any (h.bel hb) hl).mono (fun _ _ ⟨he, hb'⟩ => ⟨_, he, hb'⟩))
  have HE : Hid (∀ w1, Bel W w1 → Calls Tryz.prog 133 #[.agg (pc n s x), .int .u64 ((k : Int) + 1), .int .u64 (j : Int)] w1 fun e w' => ∃ a' c', e = .returned (.slice a' E.length c') ∧ E69.O w1.heap.size w' (.slice a' E.length c') E ∧ Bel w1 w') := hide (fun w1 hb => by rw [hEl, hE]; exact ents_any (h.bel hb) hc hl k j (by omega) (by omega))
  have hw1 : IntKind.u64.wrap ((k : Int) + 1 - 1) = (k : Int) := by rw [show (k : Int) + 1 - 1 = k by omega]; exact wrapU (by omega) (by omega)
  have hw3 : IntKind.u64.wrap (k : Int) = (k : Int) := wrapU (by omega) (by omega)
  have hw2 : IntKind.u64.wrap ((k : Int) + 16) = (k : Int) + 16 := wrapU (by omega) (by omega)
  have hmn : min (s.log.length : Int) ((k : Int) + 16) = (j : Int) := by omega
  have h0 : ¬ ((k : Int) < 0) := by omega
  rw [← hE]
  unfold encF
  rw [hk]
  clear h hc hl hf1 hf2 hk hkl hj hE hEl
  generalize f.1 = f1 at *
  generalize f.2.2 = f3 at *
  generalize tAt s.log k = tk at *
  go_enter Tryz.func105, Tryz.ntmps105
  go_wp2_with (first
    | go_skip
    | go_guarded
    | (refine bx_box rfl 56 (.tmp 0) rfl (pc n s x) rfl ?_; intro b0 w0 hr0 hs0 hb0; have HR0 := hide hr0; have HB0 := hide hb0; clear hr0 hs0 hb0)
    | (refine bx_box rfl 133 (.tmp 1) rfl #[.int .i64 f1, .int .u64 ((k : Int) + 1), .int .u64 f3] rfl ?_; intro bf w1 hr1 hs1 hb1; have HRF := hide hr1; have HR0 := hide (hb1.row (unhide HR0)); have HB0 := hide ((unhide HB0).trans hb1); clear hr1 hs1 hb1)
    | (refine bx_new rfl 27 rfl _ Tryz.zeroq ?_; intro b2 w2 hr2 hs2 hb2; have HQ := hide (And.intro hr2 (And.intro (show W.heap.size ≤ b2 by have := (unhide HB0).size; omega) (And.intro (hb2.row (unhide HRF)) (And.intro (hb2.row (unhide HR0)) ((unhide HB0).trans hb2))))); have y0 := (Bx.of (unhide HQ).2.2.2.1).c0; have y2 := (Bx.of (unhide HQ).2.2.2.1).c2; have y16 := (Bx.of (unhide HQ).2.2.2.1).c16; have z0 : w2.cell? ⟨bf, 0, none⟩ = some (.int .i64 f1) := cell_of (unhide HQ).2.2.1; clear hr2 hs2 hb2 HR0 HB0 HRF)
    | (refine bx_new rfl 27 rfl _ Tryz.zeroq ?_; intro b w3 hr3 hs3 hb3; have HN := hide (And.intro hr3 (And.intro hs3 hb3)); clear hr3 hs3 hb3)
    | (refine bx_st rfl 27 (.tmp 5) _ rfl b (qc ⟨0, s.id, f1, s.term, 0, 0, 0, false, []⟩ none 0) _ rfl rfl (unhide HN).1 (Tryz.sizeq _ _ _) rfl (qc_one _ _ _) ?_; intro w4 hr4 hc4; have hbb := bel_off (unhide HN).2.2 hc4 (Nat.le_of_eq (unhide HN).2.1); have HZ : Hid (Tm W w4 b0 b b2 n s x ⟨0, s.id, f1, s.term, 0, 0, 0, false, []⟩ none 0) := hide ⟨hr4, ⟨_, _, _, hbb.row (unhide HQ).1⟩, hbb.row (unhide HQ).2.2.2.1, (unhide HQ).2.2.2.2.trans hbb, (by have := (unhide HQ).2.2.2.2.size; have := (unhide HN).2.1; omega), (unhide HQ).2.1, fun e => by have := lt_of_some (unhide HQ).1; have := (unhide HN).2.1; omega⟩; have HRF := hide (hbb.row (unhide HQ).2.2.1); have z1 : w4.cell? ⟨bf, 1, none⟩ = some (.int .u64 ((k : Int) + 1)) := cell_of (unhide HRF); clear hr4 hc4 hbb HQ HN y0 y2 y16 z0)
    | (refine ql_index rfl _ _ rfl b k rfl rfl (unhide HZ).row ?_; intro w5 hr5 hc5; have HRF := hide (hc5.row (unhide HRF) (fun e => by have := (unhide HZ).row; rw [← e, unhide HRF] at this; injection (Option.some.inj this) with _ h3; exact absurd h3 (by decide))); have HZ := hide ((unhide HZ).set hr5 hc5); have y4 := (Bq.of hr5).c4; have y6 := (Bx.of (unhide HZ).rowp).c6; have y11 := (Bx.of (unhide HZ).rowp).c11; have y0 := (Bq.of hr5).c0; have yc := (Bq.of hr5).c6; clear hr5 hc5 z1))
  have f0 : w5.frozen? ⟨b, 0, none⟩ = false := free_row (unhide HZ).row
  have f6 : w5.frozen? ⟨b, 6, none⟩ = false := free_row (unhide HZ).row
  go_region
  have hc6 : Ch (fun i => i = b) w5 ((w5.setCell ⟨b, 0, none⟩ (.int .u8 3)).setCell ⟨b, 6, none⟩ (.int .u64 s.commit)).drew := (Ch.set (ad := ⟨b, 6, none⟩) (Ch.set (ad := ⟨b, 0, none⟩) (Ch.refl (fun i => i = b) w5) (Or.inl rfl) _) (Or.inl rfl) _).drew
  have hr6 : ((w5.setCell ⟨b, 0, none⟩ (.int .u8 3)).setCell ⟨b, 6, none⟩ (.int .u64 s.commit)).drew.heap[b]? = some (.cells (qc ⟨3, s.id, f1, s.term, k, 0, s.commit, false, []⟩ none 0) 27) := row_set (row_set (unhide HZ).row)
  have HZ6 := hide ((unhide HZ).set hr6 hc6)
  have HRF6 := hide (hc6.row (unhide HRF) (fun e => by have := (unhide HZ).row; rw [← e, unhide HRF] at this; injection (Option.some.inj this) with _ h3; exact absurd h3 (by decide)))
  clear hc6 hr6 HZ HRF y4 y6 y11 y0 yc f0 f6
  generalize ((w5.setCell ⟨b, 0, none⟩ (.int .u8 3)).setCell ⟨b, 6, none⟩ (.int .u64 s.commit)).drew = w6 at *
  have y4 := (Bq.of (unhide HZ6).row).c4
  have y4' : w6.cell? ⟨b, 4, none⟩ = some (.int .u64 (k : Int)) := y4
  clear y4
  go_wp2_with (first
    | go_skip
    | go_guarded
    | (refine bx_ldG rfl 56 _ rfl b0 rfl (pc n s x) _ (unhide HZ6).rowp Tryz.underlying56 (Tryz.size32 _ _ _) ?_)
    | (go_at_call 87; refine ((unhide HT) _ (unhide HZ6).bel).mono ?_; rintro e w7 ⟨rfl, hb7⟩; have HZ6 := hide ((unhide HZ6).next hb7); have HRF6 := hide (hb7.row (unhide HRF6)); clear hb7)
    | (refine ql_lterm rfl _ _ rfl b tk rfl rfl (unhide HZ6).row ?_; intro w8 hr8 hc8; have HRF6 := hide (hc8.row (unhide HRF6) (fun e => by have := (unhide HZ6).row; rw [← e, unhide HRF6] at this; injection (Option.some.inj this) with _ h3; exact absurd h3 (by decide))); have HZ6 := hide ((unhide HZ6).set hr8 hc8); clear hr8 hc8)
    | (go_at_call 48; refine ((unhide HL) _ (unhide HZ6).bel).mono ?_; rintro e w9 ⟨t9, rfl, hb9⟩; have HZ6 := hide ((unhide HZ6).next hb9); have HRF6 := hide (hb9.row (unhide HRF6)); have y4 : w9.cell? ⟨b, 4, none⟩ = some (.int .u64 (k : Int)) := (Bq.of (unhide HZ6).row).c4; have z1 : w9.cell? ⟨bf, 1, none⟩ = some (.int .u64 ((k : Int) + 1)) := cell_of (unhide HRF6); clear hb9)
    | (go_at_call 133; refine ((unhide HE) _ (unhide HZ6).bel).mono ?_; rintro e wa ⟨aE, cE, rfl, hoE, hba⟩; have HO := hide (hoE.mono (unhide HZ6).bel.size); have HZ6 := hide ((unhide HZ6).next hba); clear hoE hba)
    | (refine ql_ents rfl _ _ rfl b _ E _ rfl rfl (unhide HZ6).row ?_; intro wb hrb hcb; have HO := hide ((unhide HO).box (unhide HZ6).row (by decide) hcb); have HZ6 := hide ((unhide HZ6).set hrb hcb); clear hrb hcb)
    | (refine bx_ldG rfl 27 _ rfl b rfl (qc _ _ _) _ (unhide HZ6).row Tryz.underlying27 (Tryz.sizeq _ _ _) ?_)
    | (obtain ⟨m2, a2, c2, h2⟩ := (unhide HZ6).row2; refine bx_st rfl 27 (.tmp 4) _ rfl b2 (qc _ _ _) _ rfl rfl h2 (Tryz.sizeq _ _ _) rfl (qc_one _ _ _) ?_; intro wc hrc hcc; have HR9 := hide (And.intro hrc (And.intro ((unhide HO).box h2 (by decide) hcc) (bel_off (unhide HZ6).bel hcc (unhide HZ6).ge2))); clear hrc hcc h2))
  refine bodyPost_ret (res1 (p := 4) rfl Tryz.underlying27 (Tryz.sizeq _ _ _) (unhide HR9).1 _ rfl) rfl ⟨_, _, rfl, (unhide HR9).2.1, (unhide HR9).2.2⟩
end Go.Proofs.YthipgcojbhcdgaaGreat
