/- A member's fields in its box. standDown. Down. -/
import Derived.Test.YthipgcojbhcdgaaGreatCln
namespace Go.Proofs.YthipgcojbhcdgaaGreat
open Go.RowKit Go.Maps Go.Sort
theorem Tryz.one26 : (Tryz.prog.info? 23).map (·.size) = some 1 := by kernel_rfl
theorem Tryz.one27 : (Tryz.prog.info? 52).map (·.size) = some 1 := by kernel_rfl
theorem Tryz.one3 : (Tryz.prog.info? 3).map (·.size) = some 1 := by kernel_rfl
theorem Tryz.one24 : (Tryz.prog.info? 25).map (·.size) = some 1 := by kernel_rfl
theorem Tryz.one28 : (Tryz.prog.info? 24).map (·.size) = some 1 := by kernel_rfl
theorem Tryz.one29 : (Tryz.prog.info? 53).map (·.size) = some 1 := by kernel_rfl
theorem Tryz.one30 : (Tryz.prog.info? 54).map (·.size) = some 1 := by kernel_rfl
theorem Ch.trans1 {b : Nat} {w1 w2 w3 : World} (h : Ch (fun k => k = b) w1 w2) (k : Ch (fun k => k = b) w2 w3) : Ch (fun k => k = b) w1 w3 := h.trans k (fun _ hi => Or.inl hi)
section
variable {ops : Array Oper} {rest : List Oper} {o : Oper} {a : Act} {Q : Exit → Act → World → Prop} {W : World} {n : Nat} {s : PP} {z : Px}
/-- A field is set. -/
theorem bx_fld (hgd : o.guard = none) (t : TypeId) (x y : Operand) (ho : o.op = .store t x y) (b i : Nat) (v : Value) (hx : a.eval x = .pointer (some ⟨b, i, none⟩)) (hy : a.eval y = v) (hv : v.cells = #[v]) (hv1 : v.oneCell' = true) {s' : PP} {z' : Px} (hg : W.heap[b]? = some (.cells (pc n s z) 56)) (hi : (Tryz.prog.info? t).map (·.size) = some 1) (hlt : i < 18) (e : (pc n s z).setIfInBounds i v = pc n s' z')
    (hK : ∀ w', w'.heap[b]? = some (.cells (pc n s' z') 56) → Ch (fun k => k = b) W w' → wpList Tryz.prog ops Q rest (a.put o.dst undef) w') : wpList Tryz.prog ops Q (o :: rest) a W :=
  bx_set hgd t x y ho b i v hx hy hv hv1 (pc n s z) 56 hg hi hlt (fun w' h1 h2 => hK w' (e ▸ h1) h2)
theorem fl_term (hgd : o.guard = none) (x y : Operand) (ho : o.op = .store 23 x y) (b : Nat) (v : Int) (hx : a.eval x = .pointer (some ⟨b, 2, none⟩)) (hy : a.eval y = .int .u64 v) (hg : W.heap[b]? = some (.cells (pc n s z) 56))
    (hK : ∀ w', w'.heap[b]? = some (.cells (pc n { s with term := v } z) 56) → Ch (fun k => k = b) W w' → wpList Tryz.prog ops Q rest (a.put o.dst undef) w') : wpList Tryz.prog ops Q (o :: rest) a W :=
  bx_fld hgd 23 x y ho b 2 _ hx hy rfl rfl hg Tryz.one26 (by decide) rfl hK
theorem fl_vote (hgd : o.guard = none) (x y : Operand) (ho : o.op = .store 3 x y) (b : Nat) (v : Int) (hx : a.eval x = .pointer (some ⟨b, 3, none⟩)) (hy : a.eval y = .int .i64 v) (hg : W.heap[b]? = some (.cells (pc n s z) 56))
    (hK : ∀ w', w'.heap[b]? = some (.cells (pc n { s with vote := v } z) 56) → Ch (fun k => k = b) W w' → wpList Tryz.prog ops Q rest (a.put o.dst undef) w') : wpList Tryz.prog ops Q (o :: rest) a W :=
  bx_fld hgd 3 x y ho b 3 _ hx hy rfl rfl hg Tryz.one3 (by decide) rfl hK
theorem fl_role (hgd : o.guard = none) (x y : Operand) (ho : o.op = .store 52 x y) (b : Nat) (v : Int) (hx : a.eval x = .pointer (some ⟨b, 4, none⟩)) (hy : a.eval y = .int .u8 v) (hg : W.heap[b]? = some (.cells (pc n s z) 56))
    (hK : ∀ w', w'.heap[b]? = some (.cells (pc n { s with role := v } z) 56) → Ch (fun k => k = b) W w' → wpList Tryz.prog ops Q rest (a.put o.dst undef) w') : wpList Tryz.prog ops Q (o :: rest) a W :=
  bx_fld hgd 52 x y ho b 4 _ hx hy rfl rfl hg Tryz.one27 (by decide) rfl hK
theorem fl_lead (hgd : o.guard = none) (x y : Operand) (ho : o.op = .store 3 x y) (b : Nat) (v : Int) (hx : a.eval x = .pointer (some ⟨b, 5, none⟩)) (hy : a.eval y = .int .i64 v) (hg : W.heap[b]? = some (.cells (pc n s z) 56))
    (hK : ∀ w', w'.heap[b]? = some (.cells (pc n { s with lead := v } z) 56) → Ch (fun k => k = b) W w' → wpList Tryz.prog ops Q rest (a.put o.dst undef) w') : wpList Tryz.prog ops Q (o :: rest) a W :=
  bx_fld hgd 3 x y ho b 5 _ hx hy rfl rfl hg Tryz.one3 (by decide) rfl hK
theorem fl_idle (hgd : o.guard = none) (x y : Operand) (ho : o.op = .store 3 x y) (b : Nat) (v : Int) (hx : a.eval x = .pointer (some ⟨b, 12, none⟩)) (hy : a.eval y = .int .i64 v) (hg : W.heap[b]? = some (.cells (pc n s z) 56))
    (hK : ∀ w', w'.heap[b]? = some (.cells (pc n { s with idle := v } z) 56) → Ch (fun k => k = b) W w' → wpList Tryz.prog ops Q rest (a.put o.dst undef) w') : wpList Tryz.prog ops Q (o :: rest) a W :=
  bx_fld hgd 3 x y ho b 12 _ hx hy rfl rfl hg Tryz.one3 (by decide) rfl hK
theorem fl_wait (hgd : o.guard = none) (x y : Operand) (ho : o.op = .store 3 x y) (b : Nat) (v : Int) (hx : a.eval x = .pointer (some ⟨b, 13, none⟩)) (hy : a.eval y = .int .i64 v) (hg : W.heap[b]? = some (.cells (pc n s z) 56))
    (hK : ∀ w', w'.heap[b]? = some (.cells (pc n { s with wait := v } z) 56) → Ch (fun k => k = b) W w' → wpList Tryz.prog ops Q rest (a.put o.dst undef) w') : wpList Tryz.prog ops Q (o :: rest) a W :=
  bx_fld hgd 3 x y ho b 13 _ hx hy rfl rfl hg Tryz.one3 (by decide) rfl hK
theorem fl_votes (hgd : o.guard = none) (x y : Operand) (ho : o.op = .store 25 x y) (b : Nat) (v : Option Addr) (L : List Int) (c : Nat) (hx : a.eval x = .pointer (some ⟨b, 14, none⟩)) (hy : a.eval y = .slice v L.length c) (hg : W.heap[b]? = some (.cells (pc n s z) 56))
    (hK : ∀ w', w'.heap[b]? = some (.cells (pc n { s with votes := L } { z with aV := v, cV := c }) 56) → Ch (fun k => k = b) W w' → wpList Tryz.prog ops Q rest (a.put o.dst undef) w') : wpList Tryz.prog ops Q (o :: rest) a W :=
  bx_fld hgd 25 x y ho b 14 _ hx hy rfl rfl hg Tryz.one24 (by decide) rfl hK
theorem fl_fol (hgd : o.guard = none) (x y : Operand) (ho : o.op = .store 53 x y) (b : Nat) (v : Option Addr) (L : List (Int × Int × Int)) (c : Nat) (hx : a.eval x = .pointer (some ⟨b, 15, none⟩)) (hy : a.eval y = .slice v L.length c) (hg : W.heap[b]? = some (.cells (pc n s z) 56))
    (hK : ∀ w', w'.heap[b]? = some (.cells (pc n { s with fol := L } { z with aF := v, cF := c }) 56) → Ch (fun k => k = b) W w' → wpList Tryz.prog ops Q rest (a.put o.dst undef) w') : wpList Tryz.prog ops Q (o :: rest) a W :=
  bx_fld hgd 53 x y ho b 15 _ hx hy rfl rfl hg Tryz.one29 (by decide) rfl hK
theorem fl_log (hgd : o.guard = none) (x y : Operand) (ho : o.op = .store 24 x y) (b : Nat) (v : Option Addr) (L : List PE) (c : Nat) (hx : a.eval x = .pointer (some ⟨b, 10, none⟩)) (hy : a.eval y = .slice v L.length c) (hg : W.heap[b]? = some (.cells (pc n s z) 56))
    (hK : ∀ w', w'.heap[b]? = some (.cells (pc n { s with log := L } { z with aL := v, cL := c }) 56) → Ch (fun k => k = b) W w' → wpList Tryz.prog ops Q rest (a.put o.dst undef) w') : wpList Tryz.prog ops Q (o :: rest) a W :=
  bx_fld hgd 24 x y ho b 10 _ hx hy rfl rfl hg Tryz.one28 (by decide) rfl hK
theorem fl_reads (hgd : o.guard = none) (x y : Operand) (ho : o.op = .store 54 x y) (b : Nat) (v : Option Addr) (c : Nat) (hx : a.eval x = .pointer (some ⟨b, 17, none⟩)) (hy : a.eval y = .slice v 0 c) (hg : W.heap[b]? = some (.cells (pc n s z) 56))
    (hK : ∀ w', w'.heap[b]? = some (.cells (pc n s { z with aR := v, cR := c }) 56) → Ch (fun k => k = b) W w' → wpList Tryz.prog ops Q rest (a.put o.dst undef) w') : wpList Tryz.prog ops Q (o :: rest) a W :=
  bx_fld hgd 54 x y ho b 17 _ hx hy rfl rfl hg Tryz.one30 (by decide) rfl hK
end
end Go.Proofs.YthipgcojbhcdgaaGreat
namespace Go.Proofs.YthipgcojbhcdgaaGreat
open Go.RowKit Go.Maps Go.Sort
/-- What standing down leaves of where lists lie. -/
def dnX (x : Px) : Px := { x with aV := none, cV := 0, aF := none, cF := 0, aR := none, cR := 0 }
set_option maxRecDepth 100000 in
set_option maxHeartbeats 1000000 in
theorem standDown_any {W : World} {n : Nat} {s : PP} {x : Px} (t : Int) : Calls Tryz.prog 73 #[.agg (pc n s x), .int .u64 t] W fun e w' => e = .returned (.agg (pc n (s.down t) (dnX x))) ∧ Bel W w' := by
  by_cases hr : s.role = 2
  · have e1 : (s.role == 2) = true := by simp [hr]
    by_cases ht : s.term < t
    · have ht' := ht
      have HD : Hid (s.down t = { s with role := 0, votes := [], fol := [], lead := 0, term := t, vote := 0 }) := hide (by unfold PP.down; first | (simp [ht]; done) | simp [ht, hr])
      go_enter Tryz.func73, Tryz.ntmps73
      go_wp2_with (first
        | (refine bx_box rfl 56 _ rfl (pc n s x) rfl ?_; intro b w0 hr0 hs0 hb0; have HR0 := hide hr0; have HB0 := hide (And.intro hb0 (Nat.le_of_eq hs0)); clear hr0 hs0 hb0)
        | (refine bx_new rfl 56 rfl _ Tryz.zero32 ?_; intro b2 w1 hr1 hs1 hb1; have HR1 := hide (And.intro hr1 hs1); have y4 := (Bx.of (hb1.row (unhide HR0))).c4; have y2 := (Bx.of (hb1.row (unhide HR0))).c2; have HZ : Hid (w1.heap[b]? = some (.cells (pc n s x) 56) ∧ Ch (fun k => k = b) w1 w1) := hide ⟨hb1.row (unhide HR0), Ch.refl _ _⟩; have HB1 := hide (And.intro ((unhide HB0).1.trans hb1) (Nat.le_trans (unhide HB0).1.size (Nat.le_of_eq hs1))); have HNE : Hid (b2 ≠ b) := hide (fun e => by have := lt_of_some (unhide HR0); omega); clear hr1 hs1 hb1)
        | (refine fl_term rfl _ _ rfl b _ rfl rfl (unhide HZ).1 ?_; intro w3 hr3 hc3; have y2' := (Bx.of hr3).c2; replace HZ := hide (And.intro hr3 ((unhide HZ).2.trans1 hc3)); clear hr3 hc3)
        | (refine fl_vote rfl _ _ rfl b _ rfl rfl (unhide HZ).1 ?_; intro w3 hr3 hc3; have y2' := (Bx.of hr3).c2; replace HZ := hide (And.intro hr3 ((unhide HZ).2.trans1 hc3)); clear hr3 hc3)
        | (refine fl_role rfl _ _ rfl b _ rfl rfl (unhide HZ).1 ?_; intro w3 hr3 hc3; have y2' := (Bx.of hr3).c2; replace HZ := hide (And.intro hr3 ((unhide HZ).2.trans1 hc3)); clear hr3 hc3)
        | (refine fl_lead rfl _ _ rfl b _ rfl rfl (unhide HZ).1 ?_; intro w3 hr3 hc3; have y2' := (Bx.of hr3).c2; replace HZ := hide (And.intro hr3 ((unhide HZ).2.trans1 hc3)); clear hr3 hc3)
        | (refine fl_votes rfl _ _ rfl b none [] 0 rfl rfl (unhide HZ).1 ?_; intro w3 hr3 hc3; have y2' := (Bx.of hr3).c2; replace HZ := hide (And.intro hr3 ((unhide HZ).2.trans1 hc3)); clear hr3 hc3)
        | (refine fl_fol rfl _ _ rfl b none [] 0 rfl rfl (unhide HZ).1 ?_; intro w3 hr3 hc3; have y2' := (Bx.of hr3).c2; replace HZ := hide (And.intro hr3 ((unhide HZ).2.trans1 hc3)); clear hr3 hc3)
        | (refine fl_reads rfl _ _ rfl b none 0 rfl rfl (unhide HZ).1 ?_; intro w3 hr3 hc3; have y2' := (Bx.of hr3).c2; replace HZ := hide (And.intro hr3 ((unhide HZ).2.trans1 hc3)); clear hr3 hc3)
        | (refine bx_ldG rfl 56 _ rfl b rfl _ _ (unhide HZ).1 Tryz.underlying56 (Tryz.size32 _ _ _) ?_)
        | (refine bx_st rfl 56 _ _ rfl b2 _ _ rfl rfl ((unhide HZ).2.row (unhide HR1).1 (unhide HNE)) (Tryz.size32 _ _ _) rfl (pc_one _ _ _) ?_; intro w9 hr9 hc9; have HR9 := hide (And.intro hr9 hc9); clear hr9 hc9))
      refine bodyPost_ret (res1 (p := 4) rfl Tryz.underlying56 (Tryz.size32 _ _ _) (unhide HR9).1 _ rfl) rfl ⟨?_, bel_off (bel_off (unhide HB1).1 (unhide HZ).2 (unhide HB0).2) (unhide HR9).2 (unhide HB1).2⟩
      rw [unhide HD]
      rfl
    · have ht' := ht
      have HD : Hid (s.down t = { s with role := 0, votes := [], fol := [], lead := 0, term := s.term, vote := s.vote }) := hide (by unfold PP.down; first | (simp [ht]; done) | simp [ht, hr])
      go_enter Tryz.func73, Tryz.ntmps73
      go_wp2_with (first
        | (refine bx_box rfl 56 _ rfl (pc n s x) rfl ?_; intro b w0 hr0 hs0 hb0; have HR0 := hide hr0; have HB0 := hide (And.intro hb0 (Nat.le_of_eq hs0)); clear hr0 hs0 hb0)
        | (refine bx_new rfl 56 rfl _ Tryz.zero32 ?_; intro b2 w1 hr1 hs1 hb1; have HR1 := hide (And.intro hr1 hs1); have y4 := (Bx.of (hb1.row (unhide HR0))).c4; have y2 := (Bx.of (hb1.row (unhide HR0))).c2; have HZ : Hid (w1.heap[b]? = some (.cells (pc n s x) 56) ∧ Ch (fun k => k = b) w1 w1) := hide ⟨hb1.row (unhide HR0), Ch.refl _ _⟩; have HB1 := hide (And.intro ((unhide HB0).1.trans hb1) (Nat.le_trans (unhide HB0).1.size (Nat.le_of_eq hs1))); have HNE : Hid (b2 ≠ b) := hide (fun e => by have := lt_of_some (unhide HR0); omega); clear hr1 hs1 hb1)
        | (refine fl_term rfl _ _ rfl b _ rfl rfl (unhide HZ).1 ?_; intro w3 hr3 hc3; have y2' := (Bx.of hr3).c2; replace HZ := hide (And.intro hr3 ((unhide HZ).2.trans1 hc3)); clear hr3 hc3)
        | (refine fl_vote rfl _ _ rfl b _ rfl rfl (unhide HZ).1 ?_; intro w3 hr3 hc3; have y2' := (Bx.of hr3).c2; replace HZ := hide (And.intro hr3 ((unhide HZ).2.trans1 hc3)); clear hr3 hc3)
        | (refine fl_role rfl _ _ rfl b _ rfl rfl (unhide HZ).1 ?_; intro w3 hr3 hc3; have y2' := (Bx.of hr3).c2; replace HZ := hide (And.intro hr3 ((unhide HZ).2.trans1 hc3)); clear hr3 hc3)
        | (refine fl_lead rfl _ _ rfl b _ rfl rfl (unhide HZ).1 ?_; intro w3 hr3 hc3; have y2' := (Bx.of hr3).c2; replace HZ := hide (And.intro hr3 ((unhide HZ).2.trans1 hc3)); clear hr3 hc3)
        | (refine fl_votes rfl _ _ rfl b none [] 0 rfl rfl (unhide HZ).1 ?_; intro w3 hr3 hc3; have y2' := (Bx.of hr3).c2; replace HZ := hide (And.intro hr3 ((unhide HZ).2.trans1 hc3)); clear hr3 hc3)
        | (refine fl_fol rfl _ _ rfl b none [] 0 rfl rfl (unhide HZ).1 ?_; intro w3 hr3 hc3; have y2' := (Bx.of hr3).c2; replace HZ := hide (And.intro hr3 ((unhide HZ).2.trans1 hc3)); clear hr3 hc3)
        | (refine fl_reads rfl _ _ rfl b none 0 rfl rfl (unhide HZ).1 ?_; intro w3 hr3 hc3; have y2' := (Bx.of hr3).c2; replace HZ := hide (And.intro hr3 ((unhide HZ).2.trans1 hc3)); clear hr3 hc3)
        | (refine bx_ldG rfl 56 _ rfl b rfl _ _ (unhide HZ).1 Tryz.underlying56 (Tryz.size32 _ _ _) ?_)
        | (refine bx_st rfl 56 _ _ rfl b2 _ _ rfl rfl ((unhide HZ).2.row (unhide HR1).1 (unhide HNE)) (Tryz.size32 _ _ _) rfl (pc_one _ _ _) ?_; intro w9 hr9 hc9; have HR9 := hide (And.intro hr9 hc9); clear hr9 hc9))
      refine bodyPost_ret (res1 (p := 4) rfl Tryz.underlying56 (Tryz.size32 _ _ _) (unhide HR9).1 _ rfl) rfl ⟨?_, bel_off (bel_off (unhide HB1).1 (unhide HZ).2 (unhide HB0).2) (unhide HR9).2 (unhide HB1).2⟩
      rw [unhide HD]
      rfl
  · have e1 : (s.role == 2) = false := by simp [hr]
    by_cases ht : s.term < t
    · have ht' := ht
      have HD : Hid (s.down t = { s with role := 0, votes := [], fol := [], lead := 0, term := t, vote := 0 }) := hide (by unfold PP.down; first | (simp [ht]; done) | simp [ht, hr])
      go_enter Tryz.func73, Tryz.ntmps73
      go_wp2_with (first
        | (refine bx_box rfl 56 _ rfl (pc n s x) rfl ?_; intro b w0 hr0 hs0 hb0; have HR0 := hide hr0; have HB0 := hide (And.intro hb0 (Nat.le_of_eq hs0)); clear hr0 hs0 hb0)
        | (refine bx_new rfl 56 rfl _ Tryz.zero32 ?_; intro b2 w1 hr1 hs1 hb1; have HR1 := hide (And.intro hr1 hs1); have y4 := (Bx.of (hb1.row (unhide HR0))).c4; have y2 := (Bx.of (hb1.row (unhide HR0))).c2; have HZ : Hid (w1.heap[b]? = some (.cells (pc n s x) 56) ∧ Ch (fun k => k = b) w1 w1) := hide ⟨hb1.row (unhide HR0), Ch.refl _ _⟩; have HB1 := hide (And.intro ((unhide HB0).1.trans hb1) (Nat.le_trans (unhide HB0).1.size (Nat.le_of_eq hs1))); have HNE : Hid (b2 ≠ b) := hide (fun e => by have := lt_of_some (unhide HR0); omega); clear hr1 hs1 hb1)
        | (refine fl_term rfl _ _ rfl b _ rfl rfl (unhide HZ).1 ?_; intro w3 hr3 hc3; have y2' := (Bx.of hr3).c2; replace HZ := hide (And.intro hr3 ((unhide HZ).2.trans1 hc3)); clear hr3 hc3)
        | (refine fl_vote rfl _ _ rfl b _ rfl rfl (unhide HZ).1 ?_; intro w3 hr3 hc3; have y2' := (Bx.of hr3).c2; replace HZ := hide (And.intro hr3 ((unhide HZ).2.trans1 hc3)); clear hr3 hc3)
        | (refine fl_role rfl _ _ rfl b _ rfl rfl (unhide HZ).1 ?_; intro w3 hr3 hc3; have y2' := (Bx.of hr3).c2; replace HZ := hide (And.intro hr3 ((unhide HZ).2.trans1 hc3)); clear hr3 hc3)
        | (refine fl_lead rfl _ _ rfl b _ rfl rfl (unhide HZ).1 ?_; intro w3 hr3 hc3; have y2' := (Bx.of hr3).c2; replace HZ := hide (And.intro hr3 ((unhide HZ).2.trans1 hc3)); clear hr3 hc3)
        | (refine fl_votes rfl _ _ rfl b none [] 0 rfl rfl (unhide HZ).1 ?_; intro w3 hr3 hc3; have y2' := (Bx.of hr3).c2; replace HZ := hide (And.intro hr3 ((unhide HZ).2.trans1 hc3)); clear hr3 hc3)
        | (refine fl_fol rfl _ _ rfl b none [] 0 rfl rfl (unhide HZ).1 ?_; intro w3 hr3 hc3; have y2' := (Bx.of hr3).c2; replace HZ := hide (And.intro hr3 ((unhide HZ).2.trans1 hc3)); clear hr3 hc3)
        | (refine fl_reads rfl _ _ rfl b none 0 rfl rfl (unhide HZ).1 ?_; intro w3 hr3 hc3; have y2' := (Bx.of hr3).c2; replace HZ := hide (And.intro hr3 ((unhide HZ).2.trans1 hc3)); clear hr3 hc3)
        | (refine bx_ldG rfl 56 _ rfl b rfl _ _ (unhide HZ).1 Tryz.underlying56 (Tryz.size32 _ _ _) ?_)
        | (refine bx_st rfl 56 _ _ rfl b2 _ _ rfl rfl ((unhide HZ).2.row (unhide HR1).1 (unhide HNE)) (Tryz.size32 _ _ _) rfl (pc_one _ _ _) ?_; intro w9 hr9 hc9; have HR9 := hide (And.intro hr9 hc9); clear hr9 hc9))
      refine bodyPost_ret (res1 (p := 4) rfl Tryz.underlying56 (Tryz.size32 _ _ _) (unhide HR9).1 _ rfl) rfl ⟨?_, bel_off (bel_off (unhide HB1).1 (unhide HZ).2 (unhide HB0).2) (unhide HR9).2 (unhide HB1).2⟩
      rw [unhide HD]
      rfl
    · have ht' := ht
      have HD : Hid (s.down t = { s with role := 0, votes := [], fol := [], lead := s.lead, term := s.term, vote := s.vote }) := hide (by unfold PP.down; first | (simp [ht]; done) | simp [ht, hr])
      go_enter Tryz.func73, Tryz.ntmps73
      go_wp2_with (first
        | (refine bx_box rfl 56 _ rfl (pc n s x) rfl ?_; intro b w0 hr0 hs0 hb0; have HR0 := hide hr0; have HB0 := hide (And.intro hb0 (Nat.le_of_eq hs0)); clear hr0 hs0 hb0)
        | (refine bx_new rfl 56 rfl _ Tryz.zero32 ?_; intro b2 w1 hr1 hs1 hb1; have HR1 := hide (And.intro hr1 hs1); have y4 := (Bx.of (hb1.row (unhide HR0))).c4; have y2 := (Bx.of (hb1.row (unhide HR0))).c2; have HZ : Hid (w1.heap[b]? = some (.cells (pc n s x) 56) ∧ Ch (fun k => k = b) w1 w1) := hide ⟨hb1.row (unhide HR0), Ch.refl _ _⟩; have HB1 := hide (And.intro ((unhide HB0).1.trans hb1) (Nat.le_trans (unhide HB0).1.size (Nat.le_of_eq hs1))); have HNE : Hid (b2 ≠ b) := hide (fun e => by have := lt_of_some (unhide HR0); omega); clear hr1 hs1 hb1)
        | (refine fl_term rfl _ _ rfl b _ rfl rfl (unhide HZ).1 ?_; intro w3 hr3 hc3; have y2' := (Bx.of hr3).c2; replace HZ := hide (And.intro hr3 ((unhide HZ).2.trans1 hc3)); clear hr3 hc3)
        | (refine fl_vote rfl _ _ rfl b _ rfl rfl (unhide HZ).1 ?_; intro w3 hr3 hc3; have y2' := (Bx.of hr3).c2; replace HZ := hide (And.intro hr3 ((unhide HZ).2.trans1 hc3)); clear hr3 hc3)
        | (refine fl_role rfl _ _ rfl b _ rfl rfl (unhide HZ).1 ?_; intro w3 hr3 hc3; have y2' := (Bx.of hr3).c2; replace HZ := hide (And.intro hr3 ((unhide HZ).2.trans1 hc3)); clear hr3 hc3)
        | (refine fl_lead rfl _ _ rfl b _ rfl rfl (unhide HZ).1 ?_; intro w3 hr3 hc3; have y2' := (Bx.of hr3).c2; replace HZ := hide (And.intro hr3 ((unhide HZ).2.trans1 hc3)); clear hr3 hc3)
        | (refine fl_votes rfl _ _ rfl b none [] 0 rfl rfl (unhide HZ).1 ?_; intro w3 hr3 hc3; have y2' := (Bx.of hr3).c2; replace HZ := hide (And.intro hr3 ((unhide HZ).2.trans1 hc3)); clear hr3 hc3)
        | (refine fl_fol rfl _ _ rfl b none [] 0 rfl rfl (unhide HZ).1 ?_; intro w3 hr3 hc3; have y2' := (Bx.of hr3).c2; replace HZ := hide (And.intro hr3 ((unhide HZ).2.trans1 hc3)); clear hr3 hc3)
        | (refine fl_reads rfl _ _ rfl b none 0 rfl rfl (unhide HZ).1 ?_; intro w3 hr3 hc3; have y2' := (Bx.of hr3).c2; replace HZ := hide (And.intro hr3 ((unhide HZ).2.trans1 hc3)); clear hr3 hc3)
        | (refine bx_ldG rfl 56 _ rfl b rfl _ _ (unhide HZ).1 Tryz.underlying56 (Tryz.size32 _ _ _) ?_)
        | (refine bx_st rfl 56 _ _ rfl b2 _ _ rfl rfl ((unhide HZ).2.row (unhide HR1).1 (unhide HNE)) (Tryz.size32 _ _ _) rfl (pc_one _ _ _) ?_; intro w9 hr9 hc9; have HR9 := hide (And.intro hr9 hc9); clear hr9 hc9))
      refine bodyPost_ret (res1 (p := 4) rfl Tryz.underlying56 (Tryz.size32 _ _ _) (unhide HR9).1 _ rfl) rfl ⟨?_, bel_off (bel_off (unhide HB1).1 (unhide HZ).2 (unhide HB0).2) (unhide HR9).2 (unhide HB1).2⟩
      rw [unhide HD]
      rfl
end Go.Proofs.YthipgcojbhcdgaaGreat
namespace Go.Proofs.YthipgcojbhcdgaaGreat
open Go.RowKit Go.Maps Go.Sort
/-- A member as a value; its log's slice is as long as it may be. -/
structure Pq (W : World) (n : Nat) (s : PP) (x : Px) : Prop where
  pw : Pw W n s x
  cap : s.log.length ≤ x.cL
theorem Pq.bel {W W' : World} {n : Nat} {s : PP} {x : Px} (h : Pq W n s x) (hb : Bel W W') : Pq W' n s x := ⟨h.pw.bel hb, h.cap⟩
theorem Pf.pq {base : Nat} {W : World} {n : Nat} {s : PP} {x : Px} (h : Pf base W n s x) : Pq W n s x := ⟨h.pw, (Sl.of h.l).2.2⟩
theorem Pf.down {base : Nat} {W : World} {n : Nat} {s : PP} {x : Px} (h : Pf base W n s x) (t : Int) : Pf base W n (s.down t) (dnX x) := ⟨h.m, h.b, h.l, El.O.nil _ _, El.O.nil _ _, fun k j hk => by cases hk⟩
theorem Ok.lens {n T G : Nat} {s : PP} (h : Ok n T G s) (hn : n ≤ 64) : s.votes.length ≤ 1000000 ∧ s.fol.length ≤ 1000000 := by
  refine ⟨by have := ris_le n s.votes h.vr.nodup h.vm; omega, ?_⟩
  rcases h.role with ⟨_, _, e⟩ | ⟨_, _, _, _, e⟩ | ⟨_, _, _, _, _, e, _⟩
  · rw [e]; simp
  · rw [e]; simp
  · have h1 : (s.fol.map (·.1)).length = (oth n s.id).length := by rw [e]
    rw [List.length_map] at h1
    have h2 : (oth n s.id).length ≤ (mem n).length := List.length_filter_le _ _
    rw [mem_len] at h2
    omega
set_option maxRecDepth 100000 in
set_option maxHeartbeats 1000000 in
theorem down_any {W : World} {n T G : Nat} {s : PP} {x : Px} (h : Pq W n s x) (hok : Ok n T G s) (hn : n ≤ 64) (hT : T ≤ 1000000) (hG : G ≤ 999999) (t : Int) (ht : t ≤ 1000000) : Calls Tryz.prog 109 #[.agg (pc n s x), .int .u64 t] W fun e w' => ∃ x', e = .returned (.tuple #[.agg (pc n (s.down t) x'), .int .i64 0]) ∧ Pf W.heap.size w' n (s.down t) x' ∧ Bel W w' := by
  have hln := hok.lens hn
  have hgl := hok.glen
  have H1 : Hid (∀ W', Bel W W' → Calls Tryz.prog 46 #[.agg (pc n s x)] W' fun e w' => e = .returned (.int .i64 0) ∧ Bel W' w') := hide (fun W' hb => may_ok (h.pw.bel hb) hok hn hT hG h.cap)
  have H2 : Hid (∀ W', Bel W W' → Calls Tryz.prog 47 #[.agg (pc n s x)] W' fun e w' => ∃ x', e = .returned (.agg (pc n s x')) ∧ Pf W'.heap.size w' n s x' ∧ Bel W' w') := hide (fun W' hb => clone_any (h.pw.bel hb) hn (by omega) hln.1 hln.2)
  have ht' : ¬ (4611686018427387904 < t) := by omega
  clear h hok hn hT hG ht hln hgl
  go_enter Tryz.func109, Tryz.ntmps109
  go_wp2_with (first
    | (refine bx_box rfl 56 _ rfl (pc n s x) rfl ?_; intro b w0 hr0 hs0 hb0; have HR0 := hide hr0; have HB0 := hide hb0; clear hr0 hs0 hb0)
    | (refine bx_new rfl 56 rfl _ Tryz.zero32 ?_; intro b2 w1 hr1 hs1 hb1; have HR1 := hide hr1; have HS1 : Hid (W.heap.size ≤ b2) := hide (Nat.le_trans (unhide HB0).size (Nat.le_of_eq hs1)); replace HR0 := hide (hb1.row (unhide HR0)); replace HB0 := hide ((unhide HB0).trans hb1); clear hr1 hs1 hb1)
    | (refine bx_ldG rfl 56 _ rfl b rfl (pc n s x) _ (unhide HR0) Tryz.underlying56 (Tryz.size32 _ _ _) ?_)
    | (go_at_call 46; refine ((unhide H1) _ (unhide HB0)).mono ?_; rintro e w2 ⟨rfl, hb2⟩; replace HR0 := hide (hb2.row (unhide HR0)); replace HR1 := hide (hb2.row (unhide HR1)); replace HB0 := hide ((unhide HB0).trans hb2); clear hb2)
    | (go_at_call 47; refine ((unhide H2) _ (unhide HB0)).mono ?_; rintro e w3 ⟨x1, rfl, hf3, hb3⟩; have HF3 := hide (And.intro hf3 (unhide HB0).size); replace HR1 := hide (hb3.row (unhide HR1)); replace HB0 := hide ((unhide HB0).trans hb3); clear hb3 hf3)
    | (go_at_call 73; refine (standDown_any _).mono ?_; rintro e w4 ⟨rfl, hb4⟩; have HF4 := hide (And.intro ((unhide HF3).1.bel hb4) (unhide HF3).2); replace HR1 := hide (hb4.row (unhide HR1)); replace HB0 := hide ((unhide HB0).trans hb4); clear hb4)
    | (refine bx_st rfl 56 _ _ rfl b2 _ _ rfl rfl (unhide HR1) (Tryz.size32 _ _ _) rfl (pc_one _ _ _) ?_; intro w9 hr9 hc9; have HR9 := hide (And.intro hr9 hc9); clear hr9 hc9))
  refine bodyPost_ret (res2 (p := 4) (q := 5) rfl Tryz.underlying56 (Tryz.size32 _ _ _) (unhide HR9).1 _ _ rfl rfl) rfl ⟨_, rfl, ?_, bel_off (unhide HB0) (unhide HR9).2 (unhide HS1)⟩
  have h9 := ((unhide HF4).1.down t).box (unhide HR1) (unhide HR9).2
  exact ⟨h9.m.mono (unhide HF4).2, h9.b.mono (unhide HF4).2, h9.l.mono (unhide HF4).2, h9.v.mono (unhide HF4).2, h9.f.mono (unhide HF4).2, h9.dv⟩
end Go.Proofs.YthipgcojbhcdgaaGreat
