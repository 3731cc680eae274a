/- MayMsg of messages that may be. -/
import Derived.Test.YthipgcojbhcdgaaGreatNfld
namespace Go.Proofs.YthipgcojbhcdgaaGreat
open Go.RowKit Go.Maps Go.Sort
/-- A message's cells. -/
def mc (m : PM) : Array Value := (encM m).toArray
theorem mc_size (m : PM) : (mc m).size = 12 := rfl
theorem mc_one (m : PM) : (mc m).all (·.oneCell') = true := by simp [mc, encM, Value.oneCell']
theorem Tryz.size44 (m : PM) : (Tryz.prog.info? 27).map (·.size) = some (mc m).size := by rw [mc_size]; kernel_rfl
/-- Block b holds this message. -/
structure Bm (W : World) (b : Nat) (m : PM) : Prop where
  c0 : W.cell? ⟨b, 0, none⟩ = some (.int .u8 m.kind)
  c1 : W.cell? ⟨b, 1, none⟩ = some (.int .i64 m.frm)
  c2 : W.cell? ⟨b, 2, none⟩ = some (.int .i64 m.to)
  c3 : W.cell? ⟨b, 3, none⟩ = some (.int .u64 m.term)
  c4 : W.cell? ⟨b, 4, none⟩ = some (.int .u64 m.index)
  c5 : W.cell? ⟨b, 5, none⟩ = some (.int .u64 m.lterm)
  c6 : W.cell? ⟨b, 6, none⟩ = some (.int .u64 0)
  c7 : W.cell? ⟨b, 7, none⟩ = some (.int .u64 0)
  c8 : W.cell? ⟨b, 8, none⟩ = some (.bool m.ok)
  c9 : W.cell? ⟨b, 9, none⟩ = some (.slice none 0 0)
  c10 : W.cell? ⟨b, 10, none⟩ = some (.slice none 0 0)
  c11 : W.cell? ⟨b, 11, none⟩ = some (.string ⟨#[]⟩)
theorem Bm.of {W : World} {b : Nat} {m : PM} (h : W.heap[b]? = some (.cells (mc m) 27)) : Bm W b m :=
  ⟨(cell_of h).trans rfl, (cell_of h).trans rfl, (cell_of h).trans rfl, (cell_of h).trans rfl, (cell_of h).trans rfl, (cell_of h).trans rfl, (cell_of h).trans rfl, (cell_of h).trans rfl, (cell_of h).trans rfl, (cell_of h).trans rfl, (cell_of h).trans rfl, (cell_of h).trans rfl⟩
set_option maxRecDepth 100000 in
set_option maxHeartbeats 1000000 in
theorem head_ok {W : World} {n T G : Nat} {m : PM} (h : MOk n T G m) (hn : n ≤ 64) (hT : T ≤ 1000000) : Calls Tryz.prog 54 #[.agg (mc m)] W fun e w' => e = .returned (.bool true) ∧ Bel W w' := by
  have e1 : idB m.frm = true := by have := h.f; simp [idB]; omega
  have e2 : idB m.to = true := by have := h.t; simp [idB]; omega
  have e3 : 0 < m.kind := by rcases h.kind with e | e <;> omega
  have e4 : m.kind ≤ 5 := by rcases h.kind with e | e <;> omega
  have e5 : (m.frm != m.to) = true := by simp [h.ne]
  have e6 : 0 < m.term := by have := h.term; omega
  have e7 : m.term ≤ 4611686018427387904 := by have := h.term; omega
  have H1 : Hid (∀ (y : Int) (W : World), idB y = true → Calls Tryz.prog 95 #[.int .i64 y] W fun e w' => e = .returned (.bool true) ∧ w' = W) := hide (fun y W hy => by have := isId_any y W; rwa [hy] at this)
  clear h hn hT
  go_enter Tryz.func54, Tryz.ntmps54
  go_wp2_with (first
    | (refine bx_box rfl 27 _ rfl (mc m) rfl ?_; intro b w0 hr0 hs0 hb0; obtain ⟨y0, y1, y2, y3, y4, y5, y6, y7, y8, y9, y10, y11⟩ := Bm.of hr0; have HR0 := hide hr0; have HB0 := hide (And.intro hb0 (Nat.le_of_eq hs0)); clear hr0 hs0 hb0)
    | (go_at_call 95; refine ((unhide H1) _ _ (by assumption)).mono ?_; rintro e w9 ⟨rfl, hw9⟩; rw [hw9]; clear hw9))
  go_ret
  exact ⟨rfl, (unhide HB0).1⟩
set_option maxRecDepth 100000 in
set_option maxHeartbeats 1000000 in
theorem place_ok {W : World} {n T G : Nat} {m : PM} (h : MOk n T G m) (hG : G ≤ 1000000) : Calls Tryz.prog 55 #[.agg (mc m)] W fun e w' => e = .returned (.bool true) ∧ Bel W w' := by
  have e1 : ¬ (4611686018427387904 < m.index) := by have := h.index; omega
  have e2 : ¬ (m.term < m.lterm) := by have := h.lterm; omega
  have hz := h.zero
  rcases h.kind with hk | hk
  · have k1 : (m.kind == 1) = true := by simp [hk]
    cases hi : (m.index == 0) with
    | true =>
      have hl : (m.lterm == 0) = true := by simp at hi ⊢; exact hz.1 hi
      clear h hG hz hk
      go_enter Tryz.func55, Tryz.ntmps55
      go_wp2_with (first
        | (refine bx_box rfl 27 _ rfl (mc m) rfl ?_; intro b w0 hr0 hs0 hb0; obtain ⟨y0, y1, y2, y3, y4, y5, y6, y7, y8, y9, y10, y11⟩ := Bm.of hr0; have HR0 := hide hr0; have HB0 := hide (And.intro hb0 (Nat.le_of_eq hs0)); clear hr0 hs0 hb0))
      go_ret
      exact ⟨rfl, (unhide HB0).1⟩
    | false =>
      have hl : (m.lterm == 0) = false := by simp at hi ⊢; exact fun e => hi (hz.2 e)
      clear h hG hz hk
      go_enter Tryz.func55, Tryz.ntmps55
      go_wp2_with (first
        | (refine bx_box rfl 27 _ rfl (mc m) rfl ?_; intro b w0 hr0 hs0 hb0; obtain ⟨y0, y1, y2, y3, y4, y5, y6, y7, y8, y9, y10, y11⟩ := Bm.of hr0; have HR0 := hide hr0; have HB0 := hide (And.intro hb0 (Nat.le_of_eq hs0)); clear hr0 hs0 hb0))
      go_ret
      exact ⟨rfl, (unhide HB0).1⟩
  · have k1 : (m.kind == 1) = false := by simp [hk]
    have k3 : (m.kind == 3) = false := by simp [hk]
    have k5 : (m.kind == 5) = false := by simp [hk]
    clear h hG hz hk
    go_enter Tryz.func55, Tryz.ntmps55
    go_wp2_with (first
      | (refine bx_box rfl 27 _ rfl (mc m) rfl ?_; intro b w0 hr0 hs0 hb0; obtain ⟨y0, y1, y2, y3, y4, y5, y6, y7, y8, y9, y10, y11⟩ := Bm.of hr0; have HR0 := hide hr0; have HB0 := hide (And.intro hb0 (Nat.le_of_eq hs0)); clear hr0 hs0 hb0))
    go_ret
    exact ⟨rfl, (unhide HB0).1⟩
set_option maxRecDepth 100000 in
theorem lists_ok {W : World} {n T G : Nat} {m : PM} (h : MOk n T G m) : Calls Tryz.prog 56 #[.agg (mc m)] W fun e w' => e = .returned (.bool true) ∧ Bel W w' := by
  have k3 : (m.kind == 3) = false := by rcases h.kind with e | e <;> simp [e]
  have k5 : (m.kind == 5) = false := by rcases h.kind with e | e <;> simp [e]
  clear h
  go_enter Tryz.func56, Tryz.ntmps56
  go_wp2_with (first
    | (refine bx_box rfl 27 _ rfl (mc m) rfl ?_; intro b w0 hr0 hs0 hb0; obtain ⟨y0, y1, y2, y3, y4, y5, y6, y7, y8, y9, y10, y11⟩ := Bm.of hr0; have HR0 := hide hr0; have HB0 := hide (And.intro hb0 (Nat.le_of_eq hs0)); clear hr0 hs0 hb0))
  go_ret
  exact ⟨rfl, (unhide HB0).1⟩
set_option maxRecDepth 100000 in
set_option maxHeartbeats 1000000 in
theorem empty_ok {W : World} {m : PM} (h1 : m.index = 0) (h2 : m.lterm = 0) (h3 : m.ok = false) : Calls Tryz.prog 57 #[.agg (mc m)] W fun e w' => e = .returned (.bool true) ∧ Bel W w' := by
  go_enter Tryz.func57, Tryz.ntmps57
  go_wp2_with (first
    | (refine bx_box rfl 27 _ rfl (mc m) rfl ?_; intro b w0 hr0 hs0 hb0; obtain ⟨y0, y1, y2, y3, y4, y5, y6, y7, y8, y9, y10, y11⟩ := Bm.of hr0; rw [h1] at y4; rw [h2] at y5; rw [h3] at y8; have HB0 := hide hb0; clear hr0 hs0 hb0))
  go_ret
  exact ⟨rfl, unhide HB0⟩
theorem Tryz.zero44 (w : World) : (zeroValue 27).run Tryz.prog w = .ok (.agg (mc ⟨0, 0, 0, 0, 0, 0, false⟩)) w := by
  unfold mc encM
  go_simp
theorem Tryz.m26 : (Tryz.prog.info? 23).map (·.size) = some 1 := by kernel_rfl
theorem Tryz.m4 : (Tryz.prog.info? 4).map (·.size) = some 1 := by kernel_rfl
section
variable {ops : Array Oper} {rest : List Oper} {o : Oper} {a : Act} {Q : Exit → Act → World → Prop} {W : World} {m : PM}
theorem ml_index (hgd : o.guard = none) (x y : Operand) (ho : o.op = .store 23 x y) (b : Nat) (v : Int) (hx : a.eval x = .pointer (some ⟨b, 4, none⟩)) (hy : a.eval y = .int .u64 v) (hg : W.heap[b]? = some (.cells (mc m) 27))
    (hK : ∀ w', w'.heap[b]? = some (.cells (mc { m with index := v }) 27) → Ch (fun k => k = b) W w' → wpList Tryz.prog ops Q rest (a.put o.dst undef) w') : wpList Tryz.prog ops Q (o :: rest) a W :=
  bx_set hgd 23 x y ho b 4 _ hx hy rfl rfl (mc m) 27 hg Tryz.m26 (by rw [mc_size]; decide) (fun w' h1 h2 => hK w' (by exact h1) h2)
theorem ml_lterm (hgd : o.guard = none) (x y : Operand) (ho : o.op = .store 23 x y) (b : Nat) (v : Int) (hx : a.eval x = .pointer (some ⟨b, 5, none⟩)) (hy : a.eval y = .int .u64 v) (hg : W.heap[b]? = some (.cells (mc m) 27))
    (hK : ∀ w', w'.heap[b]? = some (.cells (mc { m with lterm := v }) 27) → Ch (fun k => k = b) W w' → wpList Tryz.prog ops Q rest (a.put o.dst undef) w') : wpList Tryz.prog ops Q (o :: rest) a W :=
  bx_set hgd 23 x y ho b 5 _ hx hy rfl rfl (mc m) 27 hg Tryz.m26 (by rw [mc_size]; decide) (fun w' h1 h2 => hK w' (by exact h1) h2)
theorem ml_ok (hgd : o.guard = none) (x y : Operand) (ho : o.op = .store 4 x y) (b : Nat) (v : Bool) (hx : a.eval x = .pointer (some ⟨b, 8, none⟩)) (hy : a.eval y = .bool v) (hg : W.heap[b]? = some (.cells (mc m) 27))
    (hK : ∀ w', w'.heap[b]? = some (.cells (mc { m with ok := v }) 27) → Ch (fun k => k = b) W w' → wpList Tryz.prog ops Q rest (a.put o.dst undef) w') : wpList Tryz.prog ops Q (o :: rest) a W :=
  bx_set hgd 4 x y ho b 8 _ hx hy rfl rfl (mc m) 27 hg Tryz.m4 (by rw [mc_size]; decide) (fun w' h1 h2 => hK w' (by exact h1) h2)
end
/-- A message without what its kind names. -/
def PM.bare (m : PM) : PM := if m.kind = 1 then { m with index := 0, lterm := 0 } else { m with ok := false }
set_option maxRecDepth 100000 in
set_option maxHeartbeats 1000000 in
theorem unnamed_ok {W : World} {n T G : Nat} {m : PM} (h : MOk n T G m) : Calls Tryz.prog 58 #[.agg (mc m)] W fun e w' => e = .returned (.agg (mc m.bare)) ∧ Bel W w' := by
  rcases h.kind with hk | hk
  · have k1 : (m.kind == 1) = true := by simp [hk]
    have k3 : (m.kind == 3) = false := by simp [hk]
    have k5 : (m.kind == 5) = false := by simp [hk]
    have HD : Hid (m.bare = { m with index := 0, lterm := 0 }) := hide (by unfold PM.bare; rw [if_pos hk])
    clear h hk
    go_enter Tryz.func58, Tryz.ntmps58
    go_wp2_with (first
      | (refine bx_box rfl 27 _ rfl (mc m) rfl ?_; intro b w0 hr0 hs0 hb0; obtain ⟨y0, y1, y2, y3, y4, y5, y6, y7, y8, y9, y10, y11⟩ := Bm.of hr0; have HR0 := hide hr0; have HB0 := hide (And.intro hb0 (Nat.le_of_eq hs0)); clear hr0 hs0 hb0)
      | (refine bx_new rfl 27 rfl _ Tryz.zero44 ?_; intro b2 w1 hr1 hs1 hb1; have HR1 := hide (And.intro hr1 hs1); have y0' := (Bm.of (hb1.row (unhide HR0))).c0; have HZ : Hid (w1.heap[b]? = some (.cells (mc m) 27) ∧ Ch (fun k => k = b) w1 w1) := hide ⟨hb1.row (unhide HR0), Ch.refl _ _⟩; have HB1 := hide (And.intro ((unhide HB0).1.trans hb1) (Nat.le_trans (unhide HB0).1.size (Nat.le_of_eq hs1))); have HNE : Hid (b2 ≠ b) := hide (fun e => by have := lt_of_some (unhide HR0); omega); clear hr1 hs1 hb1)
      | (refine ml_index rfl _ _ rfl b _ rfl rfl (unhide HZ).1 ?_; intro w3 hr3 hc3; replace HZ := hide (And.intro hr3 ((unhide HZ).2.trans1 hc3)); clear hr3 hc3)
      | (refine ml_lterm rfl _ _ rfl b _ rfl rfl (unhide HZ).1 ?_; intro w3 hr3 hc3; replace HZ := hide (And.intro hr3 ((unhide HZ).2.trans1 hc3)); clear hr3 hc3)
      | (refine bx_ldG rfl 27 _ rfl b rfl _ _ (unhide HZ).1 Tryz.underlying27 (Tryz.size44 _) ?_)
      | (refine bx_st rfl 27 _ _ rfl b2 _ _ rfl rfl ((unhide HZ).2.row (unhide HR1).1 (unhide HNE)) (Tryz.size44 _) rfl (mc_one _) ?_; intro w9 hr9 hc9; have HR9 := hide (And.intro hr9 hc9); clear hr9 hc9))
    refine bodyPost_ret (res1 (p := 2) rfl Tryz.underlying27 (Tryz.size44 _) (unhide HR9).1 _ rfl) rfl ⟨?_, bel_off (bel_off (unhide HB1).1 (unhide HZ).2 (unhide HB0).2) (unhide HR9).2 (unhide HB1).2⟩
    rw [unhide HD]
  · have k1 : (m.kind == 1) = false := by simp [hk]
    have k2 : (m.kind == 2) = true := by simp [hk]
    have k3 : (m.kind == 3) = false := by simp [hk]
    have k4 : (m.kind == 4) = false := by simp [hk]
    have k5 : (m.kind == 5) = false := by simp [hk]
    have HD : Hid (m.bare = { m with ok := false }) := hide (by unfold PM.bare; rw [if_neg (by omega)])
    clear h hk
    go_enter Tryz.func58, Tryz.ntmps58
    go_wp2_with (first
      | (refine bx_box rfl 27 _ rfl (mc m) rfl ?_; intro b w0 hr0 hs0 hb0; obtain ⟨y0, y1, y2, y3, y4, y5, y6, y7, y8, y9, y10, y11⟩ := Bm.of hr0; have HR0 := hide hr0; have HB0 := hide (And.intro hb0 (Nat.le_of_eq hs0)); clear hr0 hs0 hb0)
      | (refine bx_new rfl 27 rfl _ Tryz.zero44 ?_; intro b2 w1 hr1 hs1 hb1; have HR1 := hide (And.intro hr1 hs1); have y0' := (Bm.of (hb1.row (unhide HR0))).c0; have HZ : Hid (w1.heap[b]? = some (.cells (mc m) 27) ∧ Ch (fun k => k = b) w1 w1) := hide ⟨hb1.row (unhide HR0), Ch.refl _ _⟩; have HB1 := hide (And.intro ((unhide HB0).1.trans hb1) (Nat.le_trans (unhide HB0).1.size (Nat.le_of_eq hs1))); have HNE : Hid (b2 ≠ b) := hide (fun e => by have := lt_of_some (unhide HR0); omega); clear hr1 hs1 hb1)
      | (refine ml_ok rfl _ _ rfl b _ rfl rfl (unhide HZ).1 ?_; intro w3 hr3 hc3; replace HZ := hide (And.intro hr3 ((unhide HZ).2.trans1 hc3)); clear hr3 hc3)
      | (refine bx_ldG rfl 27 _ rfl b rfl _ _ (unhide HZ).1 Tryz.underlying27 (Tryz.size44 _) ?_)
      | (refine bx_st rfl 27 _ _ rfl b2 _ _ rfl rfl ((unhide HZ).2.row (unhide HR1).1 (unhide HNE)) (Tryz.size44 _) rfl (mc_one _) ?_; intro w9 hr9 hc9; have HR9 := hide (And.intro hr9 hc9); clear hr9 hc9))
    refine bodyPost_ret (res1 (p := 2) rfl Tryz.underlying27 (Tryz.size44 _) (unhide HR9).1 _ rfl) rfl ⟨?_, bel_off (bel_off (unhide HB1).1 (unhide HZ).2 (unhide HB0).2) (unhide HR9).2 (unhide HB1).2⟩
    rw [unhide HD]
set_option maxRecDepth 100000 in
set_option maxHeartbeats 1000000 in
theorem maymsg_ok {W : World} {n T G : Nat} {m : PM} (h : MOk n T G m) (hn : n ≤ 64) (hT : T ≤ 1000000) (hG : G ≤ 1000000) : Calls Tryz.prog 20 #[.agg (mc m)] W fun e w' => e = .returned (.int .i64 0) ∧ Bel W w' := by
  have H1 : Hid (∀ W', Calls Tryz.prog 54 #[.agg (mc m)] W' fun e w' => e = .returned (.bool true) ∧ Bel W' w') := hide (fun W' => head_ok h hn hT)
  have H2 : Hid (∀ W', Calls Tryz.prog 55 #[.agg (mc m)] W' fun e w' => e = .returned (.bool true) ∧ Bel W' w') := hide (fun W' => place_ok h hG)
  have H3 : Hid (∀ W', Calls Tryz.prog 56 #[.agg (mc m)] W' fun e w' => e = .returned (.bool true) ∧ Bel W' w') := hide (fun W' => lists_ok h)
  have H4 : Hid (∀ W', Calls Tryz.prog 58 #[.agg (mc m)] W' fun e w' => e = .returned (.agg (mc m.bare)) ∧ Bel W' w') := hide (fun W' => unnamed_ok h)
  have H5 : Hid (∀ W', Calls Tryz.prog 57 #[.agg (mc m.bare)] W' fun e w' => e = .returned (.bool true) ∧ Bel W' w') := hide (fun W' => by
    unfold PM.bare
    split
    · rename_i hk; exact empty_ok rfl rfl (h.ask hk)
    · rename_i hk
      have hk2 := h.kind.resolve_left hk
      exact empty_ok (h.told hk2).1 (h.told hk2).2 rfl)
  clear h hn hT hG
  go_enter Tryz.func20, Tryz.ntmps20
  go_wp2_with (first
    | (refine bx_box rfl 27 _ rfl (mc m) rfl ?_; intro b w0 hr0 hs0 hb0; have HR0 := hide hr0; have HB0 := hide hb0; clear hr0 hs0 hb0)
    | (refine bx_ldG rfl 27 _ rfl b rfl (mc m) _ (unhide HR0) Tryz.underlying27 (Tryz.size44 _) ?_)
    | (go_at_call 54; refine ((unhide H1) _).mono ?_; rintro e w1 ⟨rfl, hb1⟩; replace HR0 := hide (hb1.row (unhide HR0)); replace HB0 := hide ((unhide HB0).trans hb1); clear hb1)
    | (go_at_call 55; refine ((unhide H2) _).mono ?_; rintro e w1 ⟨rfl, hb1⟩; replace HR0 := hide (hb1.row (unhide HR0)); replace HB0 := hide ((unhide HB0).trans hb1); clear hb1)
    | (go_at_call 56; refine ((unhide H3) _).mono ?_; rintro e w1 ⟨rfl, hb1⟩; replace HR0 := hide (hb1.row (unhide HR0)); replace HB0 := hide ((unhide HB0).trans hb1); clear hb1)
    | (go_at_call 58; refine ((unhide H4) _).mono ?_; rintro e w1 ⟨rfl, hb1⟩; replace HR0 := hide (hb1.row (unhide HR0)); replace HB0 := hide ((unhide HB0).trans hb1); clear hb1)
    | (go_at_call 57; refine ((unhide H5) _).mono ?_; rintro e w1 ⟨rfl, hb1⟩; replace HR0 := hide (hb1.row (unhide HR0)); replace HB0 := hide ((unhide HB0).trans hb1); clear hb1))
  go_ret
  exact ⟨rfl, unhide HB0⟩
end Go.Proofs.YthipgcojbhcdgaaGreat
