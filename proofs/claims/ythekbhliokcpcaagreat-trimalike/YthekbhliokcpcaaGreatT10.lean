/- Down of any member. trim.behind, trim.cutOff of any member. trim.cutOff of any member. -/
import Derived.Test.YthekbhliokcpcaaGreatT05
import Derived.Test.YthekbhliokcpcaaGreatT09
import Derived.Test.YthekbhliokcpcaaGreatT06
import Derived.Test.YthekbhliokcpcaaGreatT04
import Derived.Test.YthekbhliokcpcaaGreatT08
namespace Go.Proofs.YthekbhliokcpcaaGreat
open Go.RowKit Go.Maps Go.Sort
section
variable {ops : Array Oper} {rest : List Oper} {o : Oper} {a : Act} {Q : Exit → Act → World → Prop} {W : World} {s : GP} {z : Px}
theorem gx_fld (hgd : o.guard = none) (t : TypeId) (x y : Operand) (ho : o.op = .store t x y) (b i : Nat) (v : Value) (hx : a.eval x = .pointer (some ⟨b, i, none⟩)) (hy : a.eval y = v) (hv : v.cells = #[v]) (hv1 : v.oneCell' = true) {s' : GP} {z' : Px} (hg : W.heap[b]? = some (.cells (gc s z) 31)) (hi : (Tryz.prog.info? t).map (·.size) = some 1) (hlt : i < 18) (e : (gc s z).setIfInBounds i v = gc s' z')
  (hK : ∀ w', w'.heap[b]? = some (.cells (gc s' z') 31) → Ch (fun k => k = b) W w' → wpList Tryz.prog ops Q rest (a.put o.dst undef) w') : wpList Tryz.prog ops Q (o :: rest) a W :=
 bx_set hgd t x y ho b i v hx hy hv hv1 (gc s z) 31 hg hi hlt (fun w' h1 h2 => hK w' (e ▸ h1) h2)
theorem gl_term (hgd : o.guard = none) (x y : Operand) (ho : o.op = .store 25 x y) (b : Nat) (v : Int) (hx : a.eval x = .pointer (some ⟨b, 2, none⟩)) (hy : a.eval y = .int .u64 v) (hg : W.heap[b]? = some (.cells (gc s z) 31))
  (hK : ∀ w', w'.heap[b]? = some (.cells (gc { s with term := v } z) 31) → Ch (fun k => k = b) W w' → wpList Tryz.prog ops Q rest (a.put o.dst undef) w') : wpList Tryz.prog ops Q (o :: rest) a W :=
 gx_fld hgd 25 x y ho b 2 _ hx hy rfl rfl hg Tryz.one26 (by decide) rfl hK
theorem gl_vote (hgd : o.guard = none) (x y : Operand) (ho : o.op = .store 3 x y) (b : Nat) (v : Int) (hx : a.eval x = .pointer (some ⟨b, 3, none⟩)) (hy : a.eval y = .int .i64 v) (hg : W.heap[b]? = some (.cells (gc s z) 31))
  (hK : ∀ w', w'.heap[b]? = some (.cells (gc { s with vote := v } z) 31) → Ch (fun k => k = b) W w' → wpList Tryz.prog ops Q rest (a.put o.dst undef) w') : wpList Tryz.prog ops Q (o :: rest) a W :=
 gx_fld hgd 3 x y ho b 3 _ hx hy rfl rfl hg Tryz.one3 (by decide) rfl hK
theorem gl_role (hgd : o.guard = none) (x y : Operand) (ho : o.op = .store 26 x y) (b : Nat) (v : Int) (hx : a.eval x = .pointer (some ⟨b, 4, none⟩)) (hy : a.eval y = .int .u8 v) (hg : W.heap[b]? = some (.cells (gc s z) 31))
  (hK : ∀ w', w'.heap[b]? = some (.cells (gc { s with role := v } z) 31) → Ch (fun k => k = b) W w' → wpList Tryz.prog ops Q rest (a.put o.dst undef) w') : wpList Tryz.prog ops Q (o :: rest) a W :=
 gx_fld hgd 26 x y ho b 4 _ hx hy rfl rfl hg Tryz.one27 (by decide) rfl hK
theorem gl_lead (hgd : o.guard = none) (x y : Operand) (ho : o.op = .store 3 x y) (b : Nat) (v : Int) (hx : a.eval x = .pointer (some ⟨b, 5, none⟩)) (hy : a.eval y = .int .i64 v) (hg : W.heap[b]? = some (.cells (gc s z) 31))
  (hK : ∀ w', w'.heap[b]? = some (.cells (gc { s with lead := v } z) 31) → Ch (fun k => k = b) W w' → wpList Tryz.prog ops Q rest (a.put o.dst undef) w') : wpList Tryz.prog ops Q (o :: rest) a W :=
 gx_fld hgd 3 x y ho b 5 _ hx hy rfl rfl hg Tryz.one3 (by decide) rfl hK
theorem gl_idle (hgd : o.guard = none) (x y : Operand) (ho : o.op = .store 3 x y) (b : Nat) (v : Int) (hx : a.eval x = .pointer (some ⟨b, 12, none⟩)) (hy : a.eval y = .int .i64 v) (hg : W.heap[b]? = some (.cells (gc s z) 31))
  (hK : ∀ w', w'.heap[b]? = some (.cells (gc { s with idle := v } z) 31) → Ch (fun k => k = b) W w' → wpList Tryz.prog ops Q rest (a.put o.dst undef) w') : wpList Tryz.prog ops Q (o :: rest) a W :=
 gx_fld hgd 3 x y ho b 12 _ hx hy rfl rfl hg Tryz.one3 (by decide) rfl hK
theorem gl_wait (hgd : o.guard = none) (x y : Operand) (ho : o.op = .store 3 x y) (b : Nat) (v : Int) (hx : a.eval x = .pointer (some ⟨b, 13, none⟩)) (hy : a.eval y = .int .i64 v) (hg : W.heap[b]? = some (.cells (gc s z) 31))
  (hK : ∀ w', w'.heap[b]? = some (.cells (gc { s with wait := v } z) 31) → Ch (fun k => k = b) W w' → wpList Tryz.prog ops Q rest (a.put o.dst undef) w') : wpList Tryz.prog ops Q (o :: rest) a W :=
 gx_fld hgd 3 x y ho b 13 _ hx hy rfl rfl hg Tryz.one3 (by decide) rfl hK
theorem gl_votes (hgd : o.guard = none) (x y : Operand) (ho : o.op = .store 22 x y) (b : Nat) (v : Option Addr) (L : List Int) (c : Nat) (hx : a.eval x = .pointer (some ⟨b, 14, none⟩)) (hy : a.eval y = .slice v L.length c) (hg : W.heap[b]? = some (.cells (gc s z) 31))
  (hK : ∀ w', w'.heap[b]? = some (.cells (gc { s with votes := L } { z with aV := v, cV := c }) 31) → Ch (fun k => k = b) W w' → wpList Tryz.prog ops Q rest (a.put o.dst undef) w') : wpList Tryz.prog ops Q (o :: rest) a W :=
 gx_fld hgd 22 x y ho b 14 _ hx hy rfl rfl hg Tryz.one24 (by decide) rfl hK
theorem gl_fol (hgd : o.guard = none) (x y : Operand) (ho : o.op = .store 28 x y) (b : Nat) (v : Option Addr) (L : List (Int × Int × Int)) (c : Nat) (hx : a.eval x = .pointer (some ⟨b, 15, none⟩)) (hy : a.eval y = .slice v L.length c) (hg : W.heap[b]? = some (.cells (gc s z) 31))
  (hK : ∀ w', w'.heap[b]? = some (.cells (gc { s with fol := L } { z with aF := v, cF := c }) 31) → Ch (fun k => k = b) W w' → wpList Tryz.prog ops Q rest (a.put o.dst undef) w') : wpList Tryz.prog ops Q (o :: rest) a W :=
 gx_fld hgd 28 x y ho b 15 _ hx hy rfl rfl hg Tryz.one29 (by decide) rfl hK
theorem gl_log (hgd : o.guard = none) (x y : Operand) (ho : o.op = .store 27 x y) (b : Nat) (v : Option Addr) (L : List GE) (c : Nat) (hx : a.eval x = .pointer (some ⟨b, 10, none⟩)) (hy : a.eval y = .slice v L.length c) (hg : W.heap[b]? = some (.cells (gc s z) 31))
  (hK : ∀ w', w'.heap[b]? = some (.cells (gc { s with log := L } { z with aL := v, cL := c }) 31) → Ch (fun k => k = b) W w' → wpList Tryz.prog ops Q rest (a.put o.dst undef) w') : wpList Tryz.prog ops Q (o :: rest) a W :=
 gx_fld hgd 27 x y ho b 10 _ hx hy rfl rfl hg Tryz.one28 (by decide) rfl hK
theorem gl_reads (hgd : o.guard = none) (x y : Operand) (ho : o.op = .store 29 x y) (b : Nat) (v : Option Addr) (L : List GR) (c : Nat) (hx : a.eval x = .pointer (some ⟨b, 17, none⟩)) (hy : a.eval y = .slice v L.length c) (hg : W.heap[b]? = some (.cells (gc s z) 31))
  (hK : ∀ w', w'.heap[b]? = some (.cells (gc { s with reads := L } { z with aR := v, cR := c }) 31) → Ch (fun k => k = b) W w' → wpList Tryz.prog ops Q rest (a.put o.dst undef) w') : wpList Tryz.prog ops Q (o :: rest) a W :=
 gx_fld hgd 29 x y ho b 17 _ hx hy rfl rfl hg Tryz.one30 (by decide) rfl hK
end
def GP.down (s : GP) (t : Int) : GP := { s with term := if s.term < t then t else s.term, vote := if s.term < t then 0 else s.vote, role := 0, lead := if s.term < t then 0 else if s.role = 2 then 0 else s.lead, votes := [], fol := [], reads := [] }
def dnX (x : Px) : Px := { x with aV := none, cV := 0, aF := none, cF := 0, aR := none, cR := 0 }
set_option maxRecDepth 100000 in
set_option maxHeartbeats 1000000 in
theorem standDown_g {W : World} {s : GP} {x : Px} (t : Int) : Calls Tryz.prog 145 #[.agg (gc s x), .int .u64 t] W fun e w' => e = .returned (.agg (gc (s.down t) (dnX x))) ∧ Bel W w' := by
 by_cases hr : s.role = 2
 ·have e1 : (s.role == 2) = true := by simp [hr]
  by_cases ht : s.term < t
  ·have ht' := ht
   have HD : Hid (s.down t = { s with role := 0, votes := [], fol := [], reads := [], lead := 0, term := t, vote := 0 }) := jd (by unfold GP.down; first | (simp [ht]; done) | simp [ht, hr])
   go_enter Tryz.func145, Tryz.ntmps145
   go_wp2_with (first
    | (refine bx_box rfl 31 _ rfl (gc s x) rfl ?_; intro b w0 hr0 hs0 hb0; have HR0 := jd hr0; have HB0 := jd (aI hb0 (Nat.le_of_eq hs0)); clear hr0 hs0 hb0)
    | (refine bx_new rfl 31 rfl _ Tryz.zeroP ?_; intro b2 w1 hr1 hs1 hb1; have HR1 := jd (aI hr1 hs1); have y4 := (Bg.of (hb1.row (ju HR0))).c4; have y2 := (Bg.of (hb1.row (ju HR0))).c2; have HZ : Hid (w1.heap[b]? = some (.cells (gc s x) 31) ∧ Ch (fun k => k = b) w1 w1) := jd ⟨hb1.row (ju HR0), Ch.refl _ _⟩; have HB1 := jd (aI ((ju HB0).1.trans hb1) (Nat.le_trans (ju HB0).1.size (Nat.le_of_eq hs1))); have HNE : Hid (b2 ≠ b) := jd (fun e => by have := lt_of_some (ju HR0); omega); clear hr1 hs1 hb1)
    | (refine gl_term rfl _ _ rfl b _ rfl rfl (ju HZ).1 ?_; intro w3 hr3 hc3; have y2' := (Bg.of hr3).c2; replace HZ := jd (aI hr3 ((ju HZ).2.trans1 hc3)); clear hr3 hc3)
    | (refine gl_vote rfl _ _ rfl b _ rfl rfl (ju HZ).1 ?_; intro w3 hr3 hc3; have y2' := (Bg.of hr3).c2; replace HZ := jd (aI hr3 ((ju HZ).2.trans1 hc3)); clear hr3 hc3)
    | (refine gl_role rfl _ _ rfl b _ rfl rfl (ju HZ).1 ?_; intro w3 hr3 hc3; have y2' := (Bg.of hr3).c2; replace HZ := jd (aI hr3 ((ju HZ).2.trans1 hc3)); clear hr3 hc3)
    | (refine gl_lead rfl _ _ rfl b _ rfl rfl (ju HZ).1 ?_; intro w3 hr3 hc3; have y2' := (Bg.of hr3).c2; replace HZ := jd (aI hr3 ((ju HZ).2.trans1 hc3)); clear hr3 hc3)
    | (refine gl_votes rfl _ _ rfl b none [] 0 rfl rfl (ju HZ).1 ?_; intro w3 hr3 hc3; have y2' := (Bg.of hr3).c2; replace HZ := jd (aI hr3 ((ju HZ).2.trans1 hc3)); clear hr3 hc3)
    | (refine gl_fol rfl _ _ rfl b none [] 0 rfl rfl (ju HZ).1 ?_; intro w3 hr3 hc3; have y2' := (Bg.of hr3).c2; replace HZ := jd (aI hr3 ((ju HZ).2.trans1 hc3)); clear hr3 hc3)
    | (refine gl_reads rfl _ _ rfl b none [] 0 rfl rfl (ju HZ).1 ?_; intro w3 hr3 hc3; have y2' := (Bg.of hr3).c2; replace HZ := jd (aI hr3 ((ju HZ).2.trans1 hc3)); clear hr3 hc3)
    | (refine bx_ldG rfl 31 _ rfl b rfl _ _ (ju HZ).1 u31 (zP _ _) ?_)
    | (refine bx_st rfl 31 _ _ rfl b2 _ _ rfl rfl ((ju HZ).2.row (ju HR1).1 (ju HNE)) (zP _ _) rfl (gc_one _ _) ?_; intro w9 hr9 hc9; have HR9 := jd (aI hr9 hc9); clear hr9 hc9))
   refine bodyPost_ret (res1 (p := 4) rfl u31 (zP _ _) (ju HR9).1 _ rfl) rfl ⟨?_, bel_off (bel_off (ju HB1).1 (ju HZ).2 (ju HB0).2) (ju HR9).2 (ju HB1).2⟩
   rw [ju HD]
   rfl
  ·have ht' := ht
   have HD : Hid (s.down t = { s with role := 0, votes := [], fol := [], reads := [], lead := 0, term := s.term, vote := s.vote }) := jd (by unfold GP.down; first | (simp [ht]; done) | simp [ht, hr])
   go_enter Tryz.func145, Tryz.ntmps145
   go_wp2_with (first
    | (refine bx_box rfl 31 _ rfl (gc s x) rfl ?_; intro b w0 hr0 hs0 hb0; have HR0 := jd hr0; have HB0 := jd (aI hb0 (Nat.le_of_eq hs0)); clear hr0 hs0 hb0)
    | (refine bx_new rfl 31 rfl _ Tryz.zeroP ?_; intro b2 w1 hr1 hs1 hb1; have HR1 := jd (aI hr1 hs1); have y4 := (Bg.of (hb1.row (ju HR0))).c4; have y2 := (Bg.of (hb1.row (ju HR0))).c2; have HZ : Hid (w1.heap[b]? = some (.cells (gc s x) 31) ∧ Ch (fun k => k = b) w1 w1) := jd ⟨hb1.row (ju HR0), Ch.refl _ _⟩; have HB1 := jd (aI ((ju HB0).1.trans hb1) (Nat.le_trans (ju HB0).1.size (Nat.le_of_eq hs1))); have HNE : Hid (b2 ≠ b) := jd (fun e => by have := lt_of_some (ju HR0); omega); clear hr1 hs1 hb1)
    | (refine gl_term rfl _ _ rfl b _ rfl rfl (ju HZ).1 ?_; intro w3 hr3 hc3; have y2' := (Bg.of hr3).c2; replace HZ := jd (aI hr3 ((ju HZ).2.trans1 hc3)); clear hr3 hc3)
    | (refine gl_vote rfl _ _ rfl b _ rfl rfl (ju HZ).1 ?_; intro w3 hr3 hc3; have y2' := (Bg.of hr3).c2; replace HZ := jd (aI hr3 ((ju HZ).2.trans1 hc3)); clear hr3 hc3)
    | (refine gl_role rfl _ _ rfl b _ rfl rfl (ju HZ).1 ?_; intro w3 hr3 hc3; have y2' := (Bg.of hr3).c2; replace HZ := jd (aI hr3 ((ju HZ).2.trans1 hc3)); clear hr3 hc3)
    | (refine gl_lead rfl _ _ rfl b _ rfl rfl (ju HZ).1 ?_; intro w3 hr3 hc3; have y2' := (Bg.of hr3).c2; replace HZ := jd (aI hr3 ((ju HZ).2.trans1 hc3)); clear hr3 hc3)
    | (refine gl_votes rfl _ _ rfl b none [] 0 rfl rfl (ju HZ).1 ?_; intro w3 hr3 hc3; have y2' := (Bg.of hr3).c2; replace HZ := jd (aI hr3 ((ju HZ).2.trans1 hc3)); clear hr3 hc3)
    | (refine gl_fol rfl _ _ rfl b none [] 0 rfl rfl (ju HZ).1 ?_; intro w3 hr3 hc3; have y2' := (Bg.of hr3).c2; replace HZ := jd (aI hr3 ((ju HZ).2.trans1 hc3)); clear hr3 hc3)
    | (refine gl_reads rfl _ _ rfl b none [] 0 rfl rfl (ju HZ).1 ?_; intro w3 hr3 hc3; have y2' := (Bg.of hr3).c2; replace HZ := jd (aI hr3 ((ju HZ).2.trans1 hc3)); clear hr3 hc3)
    | (refine bx_ldG rfl 31 _ rfl b rfl _ _ (ju HZ).1 u31 (zP _ _) ?_)
    | (refine bx_st rfl 31 _ _ rfl b2 _ _ rfl rfl ((ju HZ).2.row (ju HR1).1 (ju HNE)) (zP _ _) rfl (gc_one _ _) ?_; intro w9 hr9 hc9; have HR9 := jd (aI hr9 hc9); clear hr9 hc9))
   refine bodyPost_ret (res1 (p := 4) rfl u31 (zP _ _) (ju HR9).1 _ rfl) rfl ⟨?_, bel_off (bel_off (ju HB1).1 (ju HZ).2 (ju HB0).2) (ju HR9).2 (ju HB1).2⟩
   rw [ju HD]
   rfl
 ·have e1 : (s.role == 2) = false := by simp [hr]
  by_cases ht : s.term < t
  ·have ht' := ht
   have HD : Hid (s.down t = { s with role := 0, votes := [], fol := [], reads := [], lead := 0, term := t, vote := 0 }) := jd (by unfold GP.down; first | (simp [ht]; done) | simp [ht, hr])
   go_enter Tryz.func145, Tryz.ntmps145
   go_wp2_with (first
    | (refine bx_box rfl 31 _ rfl (gc s x) rfl ?_; intro b w0 hr0 hs0 hb0; have HR0 := jd hr0; have HB0 := jd (aI hb0 (Nat.le_of_eq hs0)); clear hr0 hs0 hb0)
    | (refine bx_new rfl 31 rfl _ Tryz.zeroP ?_; intro b2 w1 hr1 hs1 hb1; have HR1 := jd (aI hr1 hs1); have y4 := (Bg.of (hb1.row (ju HR0))).c4; have y2 := (Bg.of (hb1.row (ju HR0))).c2; have HZ : Hid (w1.heap[b]? = some (.cells (gc s x) 31) ∧ Ch (fun k => k = b) w1 w1) := jd ⟨hb1.row (ju HR0), Ch.refl _ _⟩; have HB1 := jd (aI ((ju HB0).1.trans hb1) (Nat.le_trans (ju HB0).1.size (Nat.le_of_eq hs1))); have HNE : Hid (b2 ≠ b) := jd (fun e => by have := lt_of_some (ju HR0); omega); clear hr1 hs1 hb1)
    | (refine gl_term rfl _ _ rfl b _ rfl rfl (ju HZ).1 ?_; intro w3 hr3 hc3; have y2' := (Bg.of hr3).c2; replace HZ := jd (aI hr3 ((ju HZ).2.trans1 hc3)); clear hr3 hc3)
    | (refine gl_vote rfl _ _ rfl b _ rfl rfl (ju HZ).1 ?_; intro w3 hr3 hc3; have y2' := (Bg.of hr3).c2; replace HZ := jd (aI hr3 ((ju HZ).2.trans1 hc3)); clear hr3 hc3)
    | (refine gl_role rfl _ _ rfl b _ rfl rfl (ju HZ).1 ?_; intro w3 hr3 hc3; have y2' := (Bg.of hr3).c2; replace HZ := jd (aI hr3 ((ju HZ).2.trans1 hc3)); clear hr3 hc3)
    | (refine gl_lead rfl _ _ rfl b _ rfl rfl (ju HZ).1 ?_; intro w3 hr3 hc3; have y2' := (Bg.of hr3).c2; replace HZ := jd (aI hr3 ((ju HZ).2.trans1 hc3)); clear hr3 hc3)
    | (refine gl_votes rfl _ _ rfl b none [] 0 rfl rfl (ju HZ).1 ?_; intro w3 hr3 hc3; have y2' := (Bg.of hr3).c2; replace HZ := jd (aI hr3 ((ju HZ).2.trans1 hc3)); clear hr3 hc3)
    | (refine gl_fol rfl _ _ rfl b none [] 0 rfl rfl (ju HZ).1 ?_; intro w3 hr3 hc3; have y2' := (Bg.of hr3).c2; replace HZ := jd (aI hr3 ((ju HZ).2.trans1 hc3)); clear hr3 hc3)
    | (refine gl_reads rfl _ _ rfl b none [] 0 rfl rfl (ju HZ).1 ?_; intro w3 hr3 hc3; have y2' := (Bg.of hr3).c2; replace HZ := jd (aI hr3 ((ju HZ).2.trans1 hc3)); clear hr3 hc3)
    | (refine bx_ldG rfl 31 _ rfl b rfl _ _ (ju HZ).1 u31 (zP _ _) ?_)
    | (refine bx_st rfl 31 _ _ rfl b2 _ _ rfl rfl ((ju HZ).2.row (ju HR1).1 (ju HNE)) (zP _ _) rfl (gc_one _ _) ?_; intro w9 hr9 hc9; have HR9 := jd (aI hr9 hc9); clear hr9 hc9))
   refine bodyPost_ret (res1 (p := 4) rfl u31 (zP _ _) (ju HR9).1 _ rfl) rfl ⟨?_, bel_off (bel_off (ju HB1).1 (ju HZ).2 (ju HB0).2) (ju HR9).2 (ju HB1).2⟩
   rw [ju HD]
   rfl
  ·have ht' := ht
   have HD : Hid (s.down t = { s with role := 0, votes := [], fol := [], reads := [], lead := s.lead, term := s.term, vote := s.vote }) := jd (by unfold GP.down; first | (simp [ht]; done) | simp [ht, hr])
   go_enter Tryz.func145, Tryz.ntmps145
   go_wp2_with (first
    | (refine bx_box rfl 31 _ rfl (gc s x) rfl ?_; intro b w0 hr0 hs0 hb0; have HR0 := jd hr0; have HB0 := jd (aI hb0 (Nat.le_of_eq hs0)); clear hr0 hs0 hb0)
    | (refine bx_new rfl 31 rfl _ Tryz.zeroP ?_; intro b2 w1 hr1 hs1 hb1; have HR1 := jd (aI hr1 hs1); have y4 := (Bg.of (hb1.row (ju HR0))).c4; have y2 := (Bg.of (hb1.row (ju HR0))).c2; have HZ : Hid (w1.heap[b]? = some (.cells (gc s x) 31) ∧ Ch (fun k => k = b) w1 w1) := jd ⟨hb1.row (ju HR0), Ch.refl _ _⟩; have HB1 := jd (aI ((ju HB0).1.trans hb1) (Nat.le_trans (ju HB0).1.size (Nat.le_of_eq hs1))); have HNE : Hid (b2 ≠ b) := jd (fun e => by have := lt_of_some (ju HR0); omega); clear hr1 hs1 hb1)
    | (refine gl_term rfl _ _ rfl b _ rfl rfl (ju HZ).1 ?_; intro w3 hr3 hc3; have y2' := (Bg.of hr3).c2; replace HZ := jd (aI hr3 ((ju HZ).2.trans1 hc3)); clear hr3 hc3)
    | (refine gl_vote rfl _ _ rfl b _ rfl rfl (ju HZ).1 ?_; intro w3 hr3 hc3; have y2' := (Bg.of hr3).c2; replace HZ := jd (aI hr3 ((ju HZ).2.trans1 hc3)); clear hr3 hc3)
    | (refine gl_role rfl _ _ rfl b _ rfl rfl (ju HZ).1 ?_; intro w3 hr3 hc3; have y2' := (Bg.of hr3).c2; replace HZ := jd (aI hr3 ((ju HZ).2.trans1 hc3)); clear hr3 hc3)
    | (refine gl_lead rfl _ _ rfl b _ rfl rfl (ju HZ).1 ?_; intro w3 hr3 hc3; have y2' := (Bg.of hr3).c2; replace HZ := jd (aI hr3 ((ju HZ).2.trans1 hc3)); clear hr3 hc3)
    | (refine gl_votes rfl _ _ rfl b none [] 0 rfl rfl (ju HZ).1 ?_; intro w3 hr3 hc3; have y2' := (Bg.of hr3).c2; replace HZ := jd (aI hr3 ((ju HZ).2.trans1 hc3)); clear hr3 hc3)
    | (refine gl_fol rfl _ _ rfl b none [] 0 rfl rfl (ju HZ).1 ?_; intro w3 hr3 hc3; have y2' := (Bg.of hr3).c2; replace HZ := jd (aI hr3 ((ju HZ).2.trans1 hc3)); clear hr3 hc3)
    | (refine gl_reads rfl _ _ rfl b none [] 0 rfl rfl (ju HZ).1 ?_; intro w3 hr3 hc3; have y2' := (Bg.of hr3).c2; replace HZ := jd (aI hr3 ((ju HZ).2.trans1 hc3)); clear hr3 hc3)
    | (refine bx_ldG rfl 31 _ rfl b rfl _ _ (ju HZ).1 u31 (zP _ _) ?_)
    | (refine bx_st rfl 31 _ _ rfl b2 _ _ rfl rfl ((ju HZ).2.row (ju HR1).1 (ju HNE)) (zP _ _) rfl (gc_one _ _) ?_; intro w9 hr9 hc9; have HR9 := jd (aI hr9 hc9); clear hr9 hc9))
   refine bodyPost_ret (res1 (p := 4) rfl u31 (zP _ _) (ju HR9).1 _ rfl) rfl ⟨?_, bel_off (bel_off (ju HB1).1 (ju HZ).2 (ju HB0).2) (ju HR9).2 (ju HB1).2⟩
   rw [ju HD]
   rfl
theorem Pg.down {base : Nat} {W : World} {s : GP} {x : Px} (h : Pg base W s x) (t : Int) : Pg base W (s.down t) (dnX x) := ⟨h.m, h.b, h.l, El.O.nil _ _, El.O.nil _ _, ⟨[], rfl, El.O.nil _ _, fun y hy => by cases hy⟩, fun k j hk => by cases hk⟩
theorem Pg.mono {base base' : Nat} {W : World} {s : GP} {x : Px} (h : Pg base W s x) (hb : base' ≤ base) : Pg base' W s x := ⟨h.m.mono hb, h.b.mono hb, by obtain ⟨L, hl⟩ := h.l; exact ⟨L, hl.map, hl.row.mono hb, fun y hy => (hl.own y hy).mono hb⟩, h.v.mono hb, h.f.mono hb, by obtain ⟨L, h1, h2, h3⟩ := h.r; exact ⟨L, h1, h2.mono hb, fun y hy => (h3 y hy).mono hb⟩, h.dv⟩
set_option maxRecDepth 100000 in
set_option maxHeartbeats 1000000 in
theorem down_g {W : World} {s : GP} {x : Px} (h : Gp W s x) (hz : Gz s x) (hm : mayG s = true) (t : Int) (ht : t ≤ 4611686018427387904) : Calls Tryz.prog 93 #[.agg (gc s x), .int .u64 t] W fun e w' => ∃ x', e = .returned (.tuple #[.agg (gc (s.down t) x'), .int .i64 0]) ∧ Pg W.heap.size w' (s.down t) x' ∧ Bel W w' := by
 have H1 : Hid (∀ W', Bel W W' → Calls Tryz.prog 42 #[.agg (gc s x)] W' fun e w' => e = .returned (.int .i64 0) ∧ Bel W' w') := jd (fun W' hb => by have := may_g (h.bel hb) hz; rwa [hm, if_pos rfl] at this)
 have H2 : Hid (∀ W', Bel W W' → Calls Tryz.prog 41 #[.agg (gc s x)] W' fun e w' => ∃ x', e = .returned (.agg (gc s x')) ∧ Pg W'.heap.size w' s x' ∧ Bel W' w') := jd (fun W' hb => clone_g (h.bel hb) hz.m hz.b (by have := hz.l; omega) hz.lm hz.v (by have := hz.f; omega) (by have := hz.r; omega) hz.ra)
 have ht' : ¬ (4611686018427387904 < t) := by omega
 clear h hz hm ht
 go_enter Tryz.func93, Tryz.ntmps93
 go_wp2_with (first
  | (refine bx_box rfl 31 _ rfl (gc s x) rfl ?_; intro b w0 hr0 hs0 hb0; have HR0 := jd hr0; have HB0 := jd hb0; clear hr0 hs0 hb0)
  | (refine bx_new rfl 31 rfl _ Tryz.zeroP ?_; intro b2 w1 hr1 hs1 hb1; have HR1 := jd hr1; have HS1 : Hid (W.heap.size ≤ b2) := jd (Nat.le_trans (ju HB0).size (Nat.le_of_eq hs1)); replace HR0 := jd (hb1.row (ju HR0)); replace HB0 := jd ((ju HB0).trans hb1); clear hr1 hs1 hb1)
  | (refine bx_ldG rfl 31 _ rfl b rfl (gc s x) _ (ju HR0) u31 (zP _ _) ?_)
  | (go_at_call 42; refine ((ju H1) _ (ju HB0)).mono ?_; rintro e w2 ⟨rfl, hb2⟩; replace HR0 := jd (hb2.row (ju HR0)); replace HR1 := jd (hb2.row (ju HR1)); replace HB0 := jd ((ju HB0).trans hb2); clear hb2)
  | (go_at_call 41; refine ((ju H2) _ (ju HB0)).mono ?_; rintro e w3 ⟨x1, rfl, hf3, hb3⟩; have HF3 := jd (aI hf3 (ju HB0).size); replace HR1 := jd (hb3.row (ju HR1)); replace HB0 := jd ((ju HB0).trans hb3); clear hb3 hf3)
  | (go_at_call 145; refine (standDown_g _).mono ?_; rintro e w4 ⟨rfl, hb4⟩; have HF4 := jd (aI ((ju HF3).1.bel hb4) (ju HF3).2); replace HR1 := jd (hb4.row (ju HR1)); replace HB0 := jd ((ju HB0).trans hb4); clear hb4)
  | (refine bx_st rfl 31 _ _ rfl b2 _ _ rfl rfl (ju HR1) (zP _ _) rfl (gc_one _ _) ?_; intro w9 hr9 hc9; have HR9 := jd (aI hr9 hc9); clear hr9 hc9))
 refine bodyPost_ret (res2 (p := 4) (q := 5) rfl u31 (zP _ _) (ju HR9).1 _ _ rfl rfl) rfl ⟨_, rfl, ?_, bel_off (ju HB0) (ju HR9).2 (ju HS1)⟩
 have h9 := ((ju HF4).1.down t).box (ju HR1) (ju HR9).2
 exact h9.mono (ju HF4).2
def Nw (base : Nat) (a : Option Addr) (n : Nat) : Prop := n ≠ 0 → ∀ ad, a = some ad → base ≤ ad.block
theorem Nw.mono {base base' : Nat} {a : Option Addr} {n : Nat} (h : Nw base a n) (hb : base' ≤ base) : Nw base' a n := fun h0 ad e => Nat.le_trans hb (h h0 ad e)
theorem Nw.zero (base : Nat) (a : Option Addr) : Nw base a 0 := fun h => absurd rfl h
theorem El.O.nw {α : Type} {E : El α} {base base' : Nat} {W : World} {a : Option Addr} {n c : Nat} {L : List α} (h : E.O base W (.slice a n c) L) (hb : base' ≤ base) : Nw base' a n := fun h0 ad e => by
 obtain ⟨h1, h2⟩ := h
 rcases h2 with h2 | ⟨g, cap, cs, h2, h3, _⟩
 ·first | (obtain ⟨h2, _⟩ := h2; injection h2 with _ h4; exact absurd h4 h0) | (injection h2 with _ h4; exact absurd h4 h0)
 ·injection h2 with h4 _
  rw [e] at h4
  injection h4 with h4
  rw [h4]
  exact Nat.le_trans hb h3
def Lc (base : Nat) (x : Px) (n : Nat) : Prop := n ≤ x.cL ∧ Nw base x.aL n
theorem Lc.mono {base base' : Nat} {x : Px} {n : Nat} (h : Lc base x n) (hb : base' ≤ base) : Lc base' x n := ⟨h.1, h.2.mono hb⟩
set_option maxRecDepth 100000 in
set_option maxHeartbeats 4000000 in
theorem tail_g {W : World} {s : GP} {x : Px} (h : SlG W x.aL s.log) (i : Int) (k : Nat) (hk : k ≤ s.log.length) (hi : i - s.base = k) (hl : s.log.length ≤ 1000000) (hcap : s.log.length ≤ x.cL) (hm : ∀ e ∈ s.log, e.m.length ≤ 17592186044416) : Calls Tryz.prog 77 #[.agg (gc s x), .int .u64 i] W fun e w' => ∃ a', e = .returned (.slice a' (s.log.drop k).length (s.log.drop k).length) ∧ SlGT w' a' (s.log.drop k) ∧ Nw W.heap.size a' (s.log.drop k).length ∧ Bel W w' := by
 obtain ⟨aL, hxr⟩ : ∃ a, a = x.aL := ⟨_, rfl⟩
 rw [← hxr] at h
 have HXR := jd hxr
 clear hxr
 obtain ⟨L, hL, ⟨g, off, hg, hR⟩, hG⟩ := h
 have hLn : L.length = s.log.length := by rw [← hL, List.length_map]
 have hdl : (s.log.drop k).length = s.log.length - k := List.length_drop
 have HE : Hid (∀ (a : Option Addr) (c : Nat) (W' : World), Bel W W' → (k < s.log.length → a = some ⟨g, off + k * 4, none⟩) → Calls Tryz.prog 101 #[.slice a (s.log.length - k) c] W' fun e w' => ∃ a' c', e = .returned (.slice a' (s.log.length - k) c') ∧ SlGT w' a' (s.log.drop k) ∧ s.log.length - k ≤ c' ∧ Nw W.heap.size a' (s.log.length - k) ∧ Bel W' w') := jd (fun a c W' hb ha => by
  refine (entries_g (L := L.drop k) (by rw [List.length_drop, hLn]) ⟨g, off + k * 4, fun h0 => ha (by rw [List.length_drop] at h0; omega), ?_⟩ (fun y hy => (hG.bel hb) y (List.mem_of_mem_drop hy)) (by omega) (fun y hy => hm _ (by rw [← hL]; exact List.mem_map_of_mem (List.mem_of_mem_drop hy)))).mono ?_
  ·exact (hR.bel hb).drop k
  ·rintro e w' ⟨a', c', L', he, hmm, ho, hoo, hb'⟩
   have hl' := (Sl.of ho).2
   exact ⟨a', c', he, ⟨L', by rw [hmm, List.map_drop, hL], SlT.of ho, fun y hy => SlT.of (hoo y hy)⟩, by omega, ho.nw hb.size, hb'⟩)
 have hw : IntKind.u64.wrap (i - s.base) = (k : Int) := by rw [hi, IntKind.wrap_u64]; omega
 have hkn : (k : Int) ≤ s.log.length := by omega
 have hknc : (k : Int) ≤ x.cL := by omega
 have hnc : (s.log.length : Int) ≤ x.cL := by omega
 have hk0 : (0 : Int) ≤ k := by omega
 rw [hdl]
 have HG := jd hg
 have HD := jd hdl
 have HLN := jd hLn
 clear hL hR hG hLn hg hm hdl hi
 generalize hsm : s.log.length = m at *
 by_cases hck : x.cL = k
 ·go_enter Tryz.func77, Tryz.ntmps77
  go_wp2_with (first
   | (refine bx_box rfl 31 _ rfl (gc s x) rfl ?_; intro b w0 hr0 hs0 hb0; have y10 := (Bg.of hr0).c10; rw [hsm, ← ju HXR] at y10; have y6 := (Bg.of hr0).c6; have HB0 := jd hb0; clear hr0 hs0 hb0)
   | (go_at_call 101; refine ((ju HE) _ _ _ (ju HB0) (by intro hkm; omega)).mono ?_; rintro e w2 ⟨a2, c2, rfl, hs2, hc2, hn2, hb2⟩; have HS2 := jd (aI hs2 (aI hc2 (aI hn2 ((ju HB0).trans hb2)))); clear hs2 hc2 hn2 hb2)
   | (go_at_call 134; refine (clip_g _ _ _ _ (ju HS2).2.1).mono ?_; rintro e w9 ⟨rfl, hw9⟩; rw [hw9]; clear hw9))
  go_ret
  exact ⟨_, rfl, (ju HS2).1, (ju HS2).2.2.1, (ju HS2).2.2.2⟩
 ·go_enter Tryz.func77, Tryz.ntmps77
  go_wp2_with (first
   | (refine bx_box rfl 31 _ rfl (gc s x) rfl ?_; intro b w0 hr0 hs0 hb0; have y10 := (Bg.of hr0).c10; rw [hsm, ← ju HXR] at y10; have y6 := (Bg.of hr0).c6; have HB0 := jd hb0; clear hr0 hs0 hb0)
   | (go_at_call 101; refine ((ju HE) _ _ _ (ju HB0) (by intro hkm; have ea := (ju HG) (by have := ju HLN; omega); rw [ea]; exact congrArg some (Addr.add_lit _ _ _))).mono ?_; rintro e w2 ⟨a2, c2, rfl, hs2, hc2, hn2, hb2⟩; have HS2 := jd (aI hs2 (aI hc2 (aI hn2 ((ju HB0).trans hb2)))); clear hs2 hc2 hn2 hb2)
   | (go_at_call 134; refine (clip_g _ _ _ _ (ju HS2).2.1).mono ?_; rintro e w9 ⟨rfl, hw9⟩; rw [hw9]; clear hw9))
  go_ret
  exact ⟨_, rfl, (ju HS2).1, (ju HS2).2.2.1, (ju HS2).2.2.2⟩
theorem any_skp {ops : Array Oper} {Q : Exit → Act → World → Prop} {md : Region.Mode} {S : World → Prop} {i : Nat} {o : Oper} {fuel : Nat} {listed : Array Bool} {a : Act} {w w' : World} (hr : Region.ready md ops listed = [i]) (hi : ops[i]? = some o) (hw : Region.wanted o (yielded ops a.tmps) = true) (hrun : (execOp a.eval o).run Tryz.prog w = .ok .skip w')
  (hK : S w' ∧ wpAnyH Tryz.prog md ops Q S fuel (listed.setIfInBounds i true) (a.put o.dst undef) w') : wpAnyH Tryz.prog md ops Q S (fuel + 1) listed a w := by
 refine wpAnyH_all hr (by simp) (fun j hj => ?_)
 rw [List.mem_singleton.1 hj]
 unfold wpOp
 simp only [hi, hw, if_true, Oper.wp, hrun, Oper.upon_skip]
 exact .inl hK
theorem any_stc {ops : Array Oper} {Q : Exit → Act → World → Prop} {md : Region.Mode} {S : World → Prop} {i : Nat} {o : Oper} {fuel : Nat} {listed : Array Bool} {a : Act} {w : World} {t ty : TypeId} {x y : Operand} {b p : Nat} {v : Value} {cs : Array Value} (hr : Region.ready md ops listed = [i]) (hi : ops[i]? = some o) (hw : Region.wanted o (yielded ops a.tmps) = true) (ho : o.op = .store t x y) (hx : a.eval x = .pointer (some ⟨b, p, none⟩)) (hy : a.eval y = v) (hv : v.cells = #[v]) (hv1 : v.oneCell' = true) (hg : w.heap[b]? = some (.cells cs ty)) (hs : (Tryz.prog.info? t).map (·.size) = some 1) (hlt : p < cs.size)
  (hK : ∀ w', w'.heap[b]? = some (.cells (cs.setIfInBounds p v) ty) → Ch (fun k => k = b) w w' → S w' ∧ wpAnyH Tryz.prog md ops Q S fuel (listed.setIfInBounds i true) (a.put o.dst undef) w') : wpAnyH Tryz.prog md ops Q S (fuel + 1) listed a w := by
 have hrun := run_storeCells_at (P := Tryz.prog) b p ty [v] 0 cs w hg (by simp; omega) (fun u hu => by simp at hu; rw [hu]; exact hv1)
 have e : (cs.toList.take (p + 0) ++ [v] ++ cs.toList.drop (p + 0 + [v].length)).toArray = cs.setIfInBounds p v := by
  apply Array.ext'
  simp only [Array.toList_setIfInBounds, Nat.add_zero, List.length_cons, List.length_nil, Nat.zero_add]
  rw [List.set_eq_take_append_cons_drop, if_pos (by simpa using hlt)]
  simp
 rw [e] at hrun
 refine any_skp (w' := w.setRow b (cs.setIfInBounds p v)) hr hi hw ?_ (hK _ (ch_row hg).1 (ch_row hg).2)
 unfold execOp
 cases hq : Tryz.prog.info? t with
 | none => rw [hq] at hs; simp at hs
 | some j =>
  have hs1 : j.size = 1 := by rw [hq] at hs; simpa using hs
  have hrun2 : (storeVar t ⟨b, p, none⟩ v).run Tryz.prog w = .ok () (w.setRow b (cs.setIfInBounds p v)) := by
   simp [storeVar, sizeOf, typeInfo, hq, hv, hs1, hrun]
  simp only [ho, hx, hy, Instr.storeAt, Instr.sureAddr, Sem.run_bind, Sem.run_pure, Result.andThen_ok, hrun2]
def GP.cut (s : GP) (i t : Int) (B : List Int) (d : ByteArray) (l : List GE) : GP := { s with base := i, baseT := t, B := B, snap := d, log := l, M := memOf B l }
def snc (i t : Int) (B : List Int) (aB : Option Addr) (cB : Nat) (d : ByteArray) : Array Value := #[.int .u64 i, .int .u64 t, .slice aB B.length cB, .string d]
theorem Tryz.sizeS (i t : Int) (B : List Int) (aB : Option Addr) (cB : Nat) (d : ByteArray) : (Tryz.prog.info? 135).map (·.size) = some (snc i t B aB cB d).size := by kernel_rfl
set_option maxRecDepth 100000 in
set_option maxHeartbeats 8000000 in
theorem cut_g {W : World} {s : GP} {x : Px} {i t : Int} {aB : Option Addr} {cB : Nat} {B : List Int} {d : ByteArray} {aL : Option Addr} {cL : Nat} {l : List GE} (hB : Sl E3 W aB B) (hl : SlG W aL l) (hi : 0 ≤ i ∧ i ≤ 4611686018427387904) (hn : l.length ≤ 1000000) (hc : l.length ≤ cL) (hB2 : B.length ≤ 17592186044416) (hm : ∀ e ∈ l, e.m.length ≤ 17592186044416) : Calls Tryz.prog 76 #[.agg (gc s x), .agg (snc i t B aB cB d), .slice aL l.length cL] W fun e w' => ∃ aM cM, e = .returned (.agg (gc (s.cut i t B d l) { x with aB := aB, cB := cB, aL := aL, cL := cL, aM := aM, cM := cM })) ∧ E3.O W.heap.size w' (.slice aM (memOf B l).length cM) (memOf B l) ∧ Bel W w' := by
 obtain ⟨s1, hs1⟩ : ∃ s1 : GP, s1 = { s with base := i, baseT := t, B := B, snap := d } := ⟨_, rfl⟩
 obtain ⟨x1, hx1⟩ : ∃ x1 : Px, x1 = { x with aB := aB, cB := cB } := ⟨_, rfl⟩
 obtain ⟨s2, hs2⟩ : ∃ s2 : GP, s2 = { s1 with log := l } := ⟨_, rfl⟩
 obtain ⟨x2, hx2⟩ : ∃ x2 : Px, x2 = { x1 with aL := aL, cL := cL } := ⟨_, rfl⟩
 have e1 : ((((gc s x).setIfInBounds 6 (.int .u64 i)).setIfInBounds 7 (.int .u64 t)).setIfInBounds 8 (.slice aB B.length cB)).setIfInBounds 9 (.string d) = gc s1 x1 := by rw [hs1, hx1]; rfl
 have e2 : (gc s1 x1).setIfInBounds 10 (.slice aL l.length cL) = gc s2 x2 := by rw [hs2, hx2]; rfl
 have e3 : ∀ aM cM, (gc s2 x2).setIfInBounds 1 (.slice aM (memOf B l).length cM) = gc (s.cut i t B d l) { x with aB := aB, cB := cB, aL := aL, cL := cL, aM := aM, cM := cM } := fun aM cM => by rw [hs2, hx2, hs1, hx1]; rfl
 have HA : Hid (∀ W', Bel W W' → Calls Tryz.prog 79 #[.agg (gc s2 x2)] W' fun e w' => e = .returned (.tuple #[.int .u64 (i + l.length), .int .u64 s2.lastT]) ∧ Bel W' w') := jd (fun W' hb => by
  have := last_g (s := s2) (x := x2) (W := W') (by rw [hs2, hx2]; exact hl.bel hb) (by rw [hs2, hs1]; exact hi.1) (by rw [hs2, hs1]; exact hi.2) (by rw [hs2]; exact hn)
  rwa [show s2.lastI = i + l.length by rw [hs2, hs1]; rfl] at this)
 have HM : Hid (∀ W', Bel W W' → Calls Tryz.prog 75 #[.agg (gc s2 x2), .int .u64 (i + l.length)] W' fun e w' => ∃ a' c', e = .returned (.slice a' (memOf B l).length c') ∧ E3.O W.heap.size w' (.slice a' (memOf B l).length c') (memOf B l) ∧ Bel W' w') := jd (fun W' hb => by
  have := membs_g (s := s2) (x := x2) (W := W') (by rw [hs2, hx2]; exact hl.bel hb) (by rw [hs2, hs1, hx2, hx1]; exact hB.bel hb) (i + l.length) (by rw [hs2, hs1]; exact hi.1) (by omega) (by rw [hs2]; exact hn) (by rw [hs2, hx2]; exact hc) (by rw [hs2, hs1]; exact hB2) (by rw [hs2]; exact hm)
  have em : s2.mAt (i + l.length) = memOf B l := by
   have eu : s2.upTo (i + l.length) = some l.length := by
    unfold GP.upTo
    rw [show s2.base = i by rw [hs2, hs1], show s2.log = l by rw [hs2], if_neg (by omega), show (i + (l.length : Int) - i).toNat = l.length by omega]
   unfold GP.mAt
   rw [eu]
   show memOf s2.B (s2.log.take l.length) = _
   rw [show s2.log = l by rw [hs2], List.take_length, show s2.B = B by rw [hs2, hs1]]
  rw [em] at this
  exact this.mono (fun e w' ⟨a', c', he, ho, hb'⟩ => ⟨a', c', he, ho.mono hb.size, hb'⟩))
 clear hB hl hi hn hc hB2 hm hs1 hs2 hx1 hx2
 generalize i + (l.length : Int) = li at *
 generalize s2.lastT = lt at *
 generalize memOf B l = MB at *
 generalize s.cut i t B d l = sc at *
 generalize l.length = nl at *
 go_enter Tryz.func76, Tryz.ntmps76
 go_wp2_with (first
  | (refine bx_box rfl 31 _ rfl (gc s x) rfl ?_; intro b w0 hr0 hs0 hb0; have HR0 := jd hr0; have HB0 := jd (aI hb0 (Nat.le_of_eq hs0)); clear hr0 hs0 hb0)
  | (refine bx_box rfl 135 _ rfl (snc i t B aB cB d) rfl ?_; intro b4 w1 hr1 hs1 hb1; have HR4 := jd hr1; have HN4 : Hid (b4 ≠ b) := jd (fun e => by have := lt_of_some (ju HR0); omega); replace HR0 := jd (hb1.row (ju HR0)); replace HB0 := jd (aI ((ju HB0).1.trans hb1) (ju HB0).2); clear hr1 hs1 hb1)
  | (refine bx_new rfl 31 rfl _ Tryz.zeroP ?_; intro b6 w2 hr2 hs2 hb2; have HR6 := jd hr2; have HN6 : Hid (b6 ≠ b ∧ W.heap.size ≤ b6) := jd ⟨fun e => by have := lt_of_some (ju HR0); omega, by have := (ju HB0).1.size; omega⟩; replace HR4 := jd (hb2.row (ju HR4)); replace HR0 := jd (hb2.row (ju HR0)); replace HB0 := jd (aI ((ju HB0).1.trans hb2) (ju HB0).2); clear hr2 hs2 hb2))
 refine wp_region_held_drew (S := fun W => W.heap[b4]? = some (.cells (snc i t B aB cB d) 135)) Tryz.follows (ju HR4) (fun hS => ?_)
 refine any_take (i := 0) (v := .pointer (some ⟨b4, 0, none⟩)) rfl (by kernel_rfl) (fun _ _ _ h => h) rfl hS (fun w _ => by go_simp) ?_
 refine any_take (i := 1) (v := .int .u64 i) rfl (by kernel_rfl) (fun _ _ _ h => h) rfl hS (fun w hw => by have hq : w.cell? ⟨b4, 0, none⟩ = some (.int .u64 i) := cell_of hw; go_simp) ?_
 refine any_take (i := 2) (v := .pointer (some ⟨b4, 1, none⟩)) rfl (by kernel_rfl) (fun _ _ _ h => h) rfl hS (fun w _ => by go_simp) ?_
 refine any_take (i := 3) (v := .int .u64 t) rfl (by kernel_rfl) (fun _ _ _ h => h) rfl hS (fun w hw => by have hq : w.cell? ⟨b4, 1, none⟩ = some (.int .u64 t) := cell_of hw; go_simp) ?_
 refine any_take (i := 4) (v := .pointer (some ⟨b4, 2, none⟩)) rfl (by kernel_rfl) (fun _ _ _ h => h) rfl hS (fun w _ => by go_simp) ?_
 refine any_take (i := 5) (v := .slice aB B.length cB) rfl (by kernel_rfl) (fun _ _ _ h => h) rfl hS (fun w hw => by have hq : w.cell? ⟨b4, 2, none⟩ = some (.slice aB B.length cB) := cell_of hw; go_simp) ?_
 refine any_take (i := 6) (v := .pointer (some ⟨b4, 3, none⟩)) rfl (by kernel_rfl) (fun _ _ _ h => h) rfl hS (fun w _ => by go_simp) ?_
 refine any_take (i := 7) (v := .string d) rfl (by kernel_rfl) (fun _ _ _ h => h) rfl hS (fun w hw => by have hq : w.cell? ⟨b4, 3, none⟩ = some (.string d) := cell_of hw; go_simp) ?_
 refine any_take (i := 8) (v := .pointer (some ⟨b, 6, none⟩)) rfl (by kernel_rfl) (fun _ _ _ h => h) rfl hS (fun w _ => by go_simp) ?_
 refine any_stc (i := 9) (b := b) (p := 6) (v := .int .u64 i) (by kernel_rfl) rfl rfl rfl (by go_simp) (by go_simp) rfl rfl (ju HR0) (by kernel_rfl) (by simp [gc]) ?_
 intro w3 hr3 hc3
 have hS := hc3.row hS (ju HN4)
 refine ⟨hS, ?_⟩
 refine any_take (i := 10) (v := .pointer (some ⟨b, 7, none⟩)) rfl (by kernel_rfl) (fun _ _ _ h => h) rfl hS (fun w _ => by go_simp) ?_
 refine any_stc (i := 11) (b := b) (p := 7) (v := .int .u64 t) (by kernel_rfl) rfl rfl rfl (by go_simp) (by go_simp) rfl rfl hr3 (by kernel_rfl) (by simp [gc]) ?_
 intro w4 hr4 hc4
 have hS := hc4.row hS (ju HN4)
 refine ⟨hS, ?_⟩
 refine any_take (i := 12) (v := .pointer (some ⟨b, 8, none⟩)) rfl (by kernel_rfl) (fun _ _ _ h => h) rfl hS (fun w _ => by go_simp) ?_
 refine any_stc (i := 13) (b := b) (p := 8) (v := .slice aB B.length cB) (by kernel_rfl) rfl rfl rfl (by go_simp) (by go_simp) rfl rfl hr4 (by kernel_rfl) (by simp [gc]) ?_
 intro w5 hr5 hc5
 have hS := hc5.row hS (ju HN4)
 refine ⟨hS, ?_⟩
 refine any_take (i := 14) (v := .pointer (some ⟨b, 9, none⟩)) rfl (by kernel_rfl) (fun _ _ _ h => h) rfl hS (fun w _ => by go_simp) ?_
 refine any_stc (i := 15) (b := b) (p := 9) (v := .string d) (by kernel_rfl) rfl rfl rfl (by go_simp) (by go_simp) rfl rfl hr5 (by kernel_rfl) (by simp [gc]) ?_
 intro w6 hr6 hc6
 have hS := hc6.row hS (ju HN4)
 refine ⟨hS, ?_⟩
 refine wpAnyH_done (by kernel_rfl) ?_ _
 rw [e1] at hr6
 have hcc : Ch (fun k => k = b) w2.drew w6 := ((hc3.trans hc4 (fun _ h => Or.inl h)).trans hc5 (fun _ h => Or.inl h)).trans hc6 (fun _ h => Or.inl h)
 have HR0 := jd hr6
 have HR6 := jd (hcc.row (ju HR6) (ju HN6).1)
 have HB0 := jd (aI (bel_off (ju HB0).1.drew hcc (ju HB0).2) (ju HB0).2)
 clear hr3 hr4 hr5 hr6 hc3 hc4 hc5 hc6 hcc hS
 simp [Act.put]
 go_wp2_with (first
  | go_skip
  | go_guarded
  | (refine bx_set rfl 27 (.tmp 22) (.tmp 21) rfl b 10 (.slice aL nl cL) rfl rfl rfl rfl (gc s1 x1) _ (ju HR0) (by kernel_rfl) (by simp [gc]) ?_; intro w7 hr7 hc7; rw [e2] at hr7; have HR1 := jd hr7; replace HR6 := jd (hc7.row (ju HR6) (ju HN6).1); replace HB0 := jd (aI (bel_off (ju HB0).1 hc7 (ju HB0).2) (ju HB0).2); clear hr7 hc7)
  | (refine bx_ld rfl 31 _ rfl b rfl (gc s2 x2) _ (ju HR1) u31 (zP s2 x2) ?_)
  | (go_at_call 79; refine ((ju HA) _ (ju HB0).1).mono ?_; rintro e w8 ⟨rfl, hb8⟩; replace HR1 := jd (hb8.row (ju HR1)); replace HR6 := jd (hb8.row (ju HR6)); replace HB0 := jd (aI ((ju HB0).1.trans hb8) (ju HB0).2); clear hb8)
  | (go_at_call 75; refine ((ju HM) _ (ju HB0).1).mono ?_; rintro e w9 ⟨aM, cM, rfl, ho9, hb9⟩; replace HR1 := jd (hb9.row (ju HR1)); replace HR6 := jd (hb9.row (ju HR6)); replace HB0 := jd (aI ((ju HB0).1.trans hb9) (ju HB0).2); have HO := jd ho9; clear hb9 ho9)
  | (refine bx_set rfl 22 (.tmp 31) (.tmp 30) rfl b 1 (.slice aM MB.length cM) rfl rfl rfl rfl (gc s2 x2) _ (ju HR1) (by kernel_rfl) (by simp [gc]) ?_; intro wa hra hca; rw [e3] at hra; have HR2 := jd hra; replace HO := jd ((ju HO).box (ju HR1) (by decide) hca); replace HR6 := jd (hca.row (ju HR6) (ju HN6).1); replace HB0 := jd (aI (bel_off (ju HB0).1 hca (ju HB0).2) (ju HB0).2); clear hra hca)
  | (refine bx_ld rfl 31 _ rfl b rfl (gc sc { x with aB := aB, cB := cB, aL := aL, cL := cL, aM := aM, cM := cM }) _ (ju HR2) u31 (zP _ _) ?_)
  | (refine bx_st rfl 31 _ _ rfl b6 (gc sc { x with aB := aB, cB := cB, aL := aL, cL := cL, aM := aM, cM := cM }) _ rfl rfl (ju HR6) (zP _ _) rfl (gc_one _ _) ?_; intro wb hrb hcb; have HRB := jd (aI hrb (aI ((ju HO).box (ju HR6) (by decide) hcb) (bel_off (ju HB0).1 hcb (ju HN6).2))); clear hrb hcb))
 refine bodyPost_ret (res1 (p := 6) rfl u31 (zP _ _) (ju HRB).1 _ rfl) rfl ⟨_, _, rfl, (ju HRB).2.1, (ju HRB).2.2⟩
end Go.Proofs.YthekbhliokcpcaaGreat
