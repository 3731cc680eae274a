/- MayMsg of messages of logs, whole. -/
import Derived.Test.YthipgcojbhcdgaaGreatLms
namespace Go.Proofs.YthipgcojbhcdgaaGreat
open Go.RowKit Go.Maps Go.Sort
theorem Tryz.n4 : (Tryz.prog.info? 4).map (·.size) = some 1 := by kernel_rfl
section
variable {ops : Array Oper} {rest : List Oper} {o : Oper} {a : Act} {Q : Exit → Act → World → Prop} {W : World} {m : QM} {ad : Option Addr} {c : Nat}
theorem ql_commit (hgd : o.guard = none) (x y : Operand) (ho : o.op = .store 23 x y) (b : Nat) (v : Nat) (hx : a.eval x = .pointer (some ⟨b, 6, none⟩)) (hy : a.eval y = .int .u64 (v : Int)) (hg : W.heap[b]? = some (.cells (qc m ad c) 27))
    (hK : ∀ w', w'.heap[b]? = some (.cells (qc { m with commit := v } ad c) 27) → Ch (fun k => k = b) W w' → wpList Tryz.prog ops Q rest (a.put o.dst undef) w') : wpList Tryz.prog ops Q (o :: rest) a W :=
  ql_set hgd 23 x y ho b 6 _ hx hy rfl rfl hg Tryz.n23 (by decide) rfl hK
theorem ql_round (hgd : o.guard = none) (x y : Operand) (ho : o.op = .store 23 x y) (b : Nat) (hx : a.eval x = .pointer (some ⟨b, 7, none⟩)) (hy : a.eval y = .int .u64 0) (hg : W.heap[b]? = some (.cells (qc m ad c) 27))
    (hK : ∀ w', w'.heap[b]? = some (.cells (qc m ad c) 27) → Ch (fun k => k = b) W w' → wpList Tryz.prog ops Q rest (a.put o.dst undef) w') : wpList Tryz.prog ops Q (o :: rest) a W :=
  ql_set hgd 23 x y ho b 7 _ hx hy rfl rfl hg Tryz.n23 (by decide) rfl hK
theorem ql_ok (hgd : o.guard = none) (x y : Operand) (ho : o.op = .store 4 x y) (b : Nat) (v : Bool) (hx : a.eval x = .pointer (some ⟨b, 8, none⟩)) (hy : a.eval y = .bool v) (hg : W.heap[b]? = some (.cells (qc m ad c) 27))
    (hK : ∀ w', w'.heap[b]? = some (.cells (qc { m with ok := v } ad c) 27) → Ch (fun k => k = b) W w' → wpList Tryz.prog ops Q rest (a.put o.dst undef) w') : wpList Tryz.prog ops Q (o :: rest) a W :=
  ql_set hgd 4 x y ho b 8 _ hx hy rfl rfl hg Tryz.n4 (by decide) rfl hK
end
/-- A message without what its kind names. -/
def QM.bare (m : QM) : QM := ⟨m.kind, m.frm, m.to, m.term, 0, 0, 0, false, []⟩
section
variable {W : World} {n T G : Nat} {m : QM} {a : Option Addr} {c : Nat}
set_option maxRecDepth 100000 in
set_option maxHeartbeats 1000000 in
theorem qempty_ok : Calls Tryz.prog 57 #[.agg (qc m.bare a c)] W fun e w' => e = .returned (.bool true) ∧ Bel W w' := by
  go_enter Tryz.func57, Tryz.ntmps57
  go_wp2_with (first
    | (refine bx_box rfl 27 _ rfl (qc m.bare a c) rfl ?_; intro b w0 hr0 hs0 hb0; obtain ⟨y0, y1, y2, y3, y4, y5, y6, y7, y8, y9, y10, y11⟩ := Bq.of hr0; have HB0 := hide hb0; clear hr0 hs0 hb0; change w0.cell? ⟨b, 4, none⟩ = some (.int .u64 0) at y4; change w0.cell? ⟨b, 5, none⟩ = some (.int .u64 0) at y5; change w0.cell? ⟨b, 6, none⟩ = some (.int .u64 0) at y6; change w0.cell? ⟨b, 8, none⟩ = some (.bool false) at y8; change w0.cell? ⟨b, 9, none⟩ = some (.slice a 0 c) at y9))
  go_ret
  exact ⟨rfl, unhide HB0⟩
set_option maxRecDepth 100000 in
set_option maxHeartbeats 2000000 in
theorem qunnamed_ok (h : QOk n T G m) : Calls Tryz.prog 58 #[.agg (qc m a c)] W fun e w' => ∃ a' c', e = .returned (.agg (qc m.bare a' c')) ∧ (m.kind = 3 → a' = none ∧ c' = 0) ∧ (m.kind = 4 → a' = a ∧ c' = c) ∧ Bel W w' := by
  rcases h.kind with hk | hk
  · have k1 : (m.kind == 1) = false := by simp [hk]
    have k3 : (m.kind == 3) = true := by simp [hk]
    have k4 : (m.kind == 4) = false := by simp [hk]
    have k2 : (m.kind == 2) = false := by simp [hk]
    have k5 : (m.kind == 5) = false := by simp [hk]
    have HD : Hid (m.bare = { m with index := 0, lterm := 0, commit := 0, ents := [] }) := hide (by unfold QM.bare; rw [(h.lay hk).1])
    have HK := hide hk
    clear h hk
    go_enter Tryz.func58, Tryz.ntmps58
    go_wp2_with (first
      | (refine bx_box rfl 27 _ rfl (qc m a c) rfl ?_; intro b w0 hr0 hs0 hb0; have HR0 := hide hr0; have HB0 := hide (And.intro hb0 (Nat.le_of_eq hs0)); clear hr0 hs0 hb0)
      | (refine bx_new rfl 27 rfl _ Tryz.zeroq ?_; intro b2 w1 hr1 hs1 hb1; have HR1 := hide (And.intro hr1 hs1); have y0 := (Bq.of (hb1.row (unhide HR0))).c0; have HZ : Hid (w1.heap[b]? = some (.cells (qc m a c) 27) ∧ Ch (fun k => k = b) w1 w1) := hide ⟨hb1.row (unhide HR0), Ch.refl _ _⟩; have HB1 := hide (And.intro ((unhide HB0).1.trans hb1) (Nat.le_trans (unhide HB0).1.size (Nat.le_of_eq hs1))); have HNE : Hid (b2 ≠ b) := hide (fun e => by have := lt_of_some (unhide HR0); omega); clear hr1 hs1 hb1)
      | (refine ql_commit rfl _ _ rfl b 0 rfl rfl (unhide HZ).1 ?_; intro w3 hr3 hc3; replace HZ := hide (And.intro hr3 ((unhide HZ).2.trans1 hc3)); clear hr3 hc3)
      | (refine ql_round rfl _ _ rfl b rfl rfl (unhide HZ).1 ?_; intro w3 hr3 hc3; replace HZ := hide (And.intro hr3 ((unhide HZ).2.trans1 hc3)); clear hr3 hc3)
      | (refine ql_ents rfl _ _ rfl b none [] 0 rfl rfl (unhide HZ).1 ?_; intro w3 hr3 hc3; replace HZ := hide (And.intro hr3 ((unhide HZ).2.trans1 hc3)); clear hr3 hc3)
      | (refine ql_index rfl _ _ rfl b 0 rfl rfl (unhide HZ).1 ?_; intro w3 hr3 hc3; replace HZ := hide (And.intro hr3 ((unhide HZ).2.trans1 hc3)); clear hr3 hc3)
      | (refine ql_lterm rfl _ _ rfl b _ rfl rfl (unhide HZ).1 ?_; intro w3 hr3 hc3; replace HZ := hide (And.intro hr3 ((unhide HZ).2.trans1 hc3)); clear hr3 hc3)
      | (refine bx_ldG rfl 27 _ rfl b rfl _ _ (unhide HZ).1 Tryz.underlying27 (Tryz.sizeq _ _ _) ?_)
      | (refine bx_st rfl 27 _ _ rfl b2 _ _ rfl rfl ((unhide HZ).2.row (unhide HR1).1 (unhide HNE)) (Tryz.sizeq _ _ _) rfl (qc_one _ _ _) ?_; intro w9 hr9 hc9; have HR9 := hide (And.intro hr9 hc9); clear hr9 hc9))
    refine bodyPost_ret (res1 (p := 2) rfl Tryz.underlying27 (Tryz.sizeq _ _ _) (unhide HR9).1 _ rfl) rfl ⟨none, 0, ?_, fun _ => ⟨rfl, rfl⟩, fun e => absurd (e.symm.trans (unhide HK)) (by decide), bel_off (bel_off (unhide HB1).1 (unhide HZ).2 (unhide HB0).2) (unhide HR9).2 (unhide HB1).2⟩
    rw [unhide HD]
  · have k1 : (m.kind == 1) = false := by simp [hk]
    have k3 : (m.kind == 3) = false := by simp [hk]
    have k4 : (m.kind == 4) = true := by simp [hk]
    have k2 : (m.kind == 2) = false := by simp [hk]
    have k5 : (m.kind == 5) = false := by simp [hk]
    obtain ⟨g1, g2, g3⟩ := h.hrd hk
    have HD : Hid (m.bare = { m with index := 0, ok := false }) := hide (by unfold QM.bare; cases m; simp at g1 g2 g3; subst g1 g2 g3; rfl)
    have HK := hide hk
    clear h hk g1 g2 g3
    go_enter Tryz.func58, Tryz.ntmps58
    go_wp2_with (first
      | (refine bx_box rfl 27 _ rfl (qc m a c) rfl ?_; intro b w0 hr0 hs0 hb0; have HR0 := hide hr0; have HB0 := hide (And.intro hb0 (Nat.le_of_eq hs0)); clear hr0 hs0 hb0)
      | (refine bx_new rfl 27 rfl _ Tryz.zeroq ?_; intro b2 w1 hr1 hs1 hb1; have HR1 := hide (And.intro hr1 hs1); have y0 := (Bq.of (hb1.row (unhide HR0))).c0; have HZ : Hid (w1.heap[b]? = some (.cells (qc m a c) 27) ∧ Ch (fun k => k = b) w1 w1) := hide ⟨hb1.row (unhide HR0), Ch.refl _ _⟩; have HB1 := hide (And.intro ((unhide HB0).1.trans hb1) (Nat.le_trans (unhide HB0).1.size (Nat.le_of_eq hs1))); have HNE : Hid (b2 ≠ b) := hide (fun e => by have := lt_of_some (unhide HR0); omega); clear hr1 hs1 hb1)
      | (refine ql_index rfl _ _ rfl b 0 rfl rfl (unhide HZ).1 ?_; intro w3 hr3 hc3; replace HZ := hide (And.intro hr3 ((unhide HZ).2.trans1 hc3)); clear hr3 hc3)
      | (refine ql_round rfl _ _ rfl b rfl rfl (unhide HZ).1 ?_; intro w3 hr3 hc3; replace HZ := hide (And.intro hr3 ((unhide HZ).2.trans1 hc3)); clear hr3 hc3)
      | (refine ql_ok rfl _ _ rfl b _ rfl rfl (unhide HZ).1 ?_; intro w3 hr3 hc3; replace HZ := hide (And.intro hr3 ((unhide HZ).2.trans1 hc3)); clear hr3 hc3)
      | (refine bx_ldG rfl 27 _ rfl b rfl _ _ (unhide HZ).1 Tryz.underlying27 (Tryz.sizeq _ _ _) ?_)
      | (refine bx_st rfl 27 _ _ rfl b2 _ _ rfl rfl ((unhide HZ).2.row (unhide HR1).1 (unhide HNE)) (Tryz.sizeq _ _ _) rfl (qc_one _ _ _) ?_; intro w9 hr9 hc9; have HR9 := hide (And.intro hr9 hc9); clear hr9 hc9))
    refine bodyPost_ret (res1 (p := 2) rfl Tryz.underlying27 (Tryz.sizeq _ _ _) (unhide HR9).1 _ rfl) rfl ⟨a, c, ?_, fun e => absurd (e.symm.trans (unhide HK)) (by decide), fun _ => ⟨rfl, rfl⟩, bel_off (bel_off (unhide HB1).1 (unhide HZ).2 (unhide HB0).2) (unhide HR9).2 (unhide HB1).2⟩
    rw [unhide HD]
set_option maxRecDepth 100000 in
set_option maxHeartbeats 1000000 in
theorem qmay_ok (h : QOk n T G m) (hn : n ≤ 64) (hT : T ≤ 1000000) (hG : G ≤ 1000000) (hs : Sl E69 W a m.ents) : Calls Tryz.prog 20 #[.agg (qc m a c)] W fun e w' => e = .returned (.int .i64 0) ∧ Bel W w' := by
  have H1 : Hid (∀ W', Calls Tryz.prog 54 #[.agg (qc m a c)] W' fun e w' => e = .returned (.bool true) ∧ Bel W' w') := hide (fun W' => qhead_ok h hn hT)
  have H2 : Hid (∀ W', Calls Tryz.prog 55 #[.agg (qc m a c)] W' fun e w' => e = .returned (.bool true) ∧ Bel W' w') := hide (fun W' => qplace_ok h hG)
  have H3 : Hid (∀ W', Bel W W' → Calls Tryz.prog 56 #[.agg (qc m a c)] W' fun e w' => e = .returned (.bool true) ∧ Bel W' w') := hide (fun W' hb => qlists_ok h (hs.bel hb))
  have H4 : Hid (∀ W', Calls Tryz.prog 58 #[.agg (qc m a c)] W' fun e w' => ∃ a' c', e = .returned (.agg (qc m.bare a' c')) ∧ Bel W' w') := hide (fun W' => (qunnamed_ok h).mono (fun _ _ ⟨a', c', he, _, _, hb⟩ => ⟨a', c', he, hb⟩))
  have H5 : Hid (∀ W' a' c', Calls Tryz.prog 57 #[.agg (qc m.bare a' c')] W' fun e w' => e = .returned (.bool true) ∧ Bel W' w') := hide (fun W' a' c' => qempty_ok)
  clear h hn hT hG hs
  go_enter Tryz.func20, Tryz.ntmps20
  go_wp2_with (first
    | (refine bx_box rfl 27 _ rfl (qc m a c) rfl ?_; intro b w0 hr0 hs0 hb0; have HR0 := hide hr0; have HB0 := hide hb0; clear hr0 hs0 hb0)
    | (refine bx_ldG rfl 27 _ rfl b rfl (qc m a c) _ (unhide HR0) Tryz.underlying27 (Tryz.sizeq _ _ _) ?_)
    | (go_at_call 54; refine ((unhide H1) _).mono ?_; rintro e w1 ⟨rfl, hb1⟩; replace HR0 := hide (hb1.row (unhide HR0)); replace HB0 := hide ((unhide HB0).trans hb1); clear hb1)
    | (go_at_call 55; refine ((unhide H2) _).mono ?_; rintro e w1 ⟨rfl, hb1⟩; replace HR0 := hide (hb1.row (unhide HR0)); replace HB0 := hide ((unhide HB0).trans hb1); clear hb1)
    | (go_at_call 56; refine ((unhide H3) _ (unhide HB0)).mono ?_; rintro e w1 ⟨rfl, hb1⟩; replace HR0 := hide (hb1.row (unhide HR0)); replace HB0 := hide ((unhide HB0).trans hb1); clear hb1)
    | (go_at_call 58; refine ((unhide H4) _).mono ?_; rintro e w1 ⟨a', c', rfl, hb1⟩; replace HR0 := hide (hb1.row (unhide HR0)); replace HB0 := hide ((unhide HB0).trans hb1); clear hb1)
    | (go_at_call 57; refine ((unhide H5) _ _ _).mono ?_; rintro e w1 ⟨rfl, hb1⟩; replace HR0 := hide (hb1.row (unhide HR0)); replace HB0 := hide ((unhide HB0).trans hb1); clear hb1))
  go_ret
  exact ⟨rfl, unhide HB0⟩
end
end Go.Proofs.YthipgcojbhcdgaaGreat
