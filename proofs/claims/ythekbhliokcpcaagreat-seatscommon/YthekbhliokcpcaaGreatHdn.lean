/- Down of any member. -/
import Derived.Test.YthekbhliokcpcaaGreatHcl
import Derived.Test.YthekbhliokcpcaaGreatHma
import Derived.Test.YthekbhliokcpcaaGreatHld
import Derived.Test.YthekbhliokcpcaaGreatNfld
namespace Go.Proofs.YthekbhliokcpcaaGreat
open Go.RowKit Go.Maps Go.Sort
section
variable {ops : Array Oper} {rest : List Oper} {o : Oper} {a : Act} {Q : Exit → Act → World → Prop} {W : World} {s : GP} {z : Px}
/-- A field is set. -/
theorem gx_fld (hgd : o.guard = none) (t : TypeId) (x y : Operand) (ho : o.op = .store t x y) (b i : Nat) (v : Value) (hx : a.eval x = .pointer (some ⟨b, i, none⟩)) (hy : a.eval y = v) (hv : v.cells = #[v]) (hv1 : v.oneCell' = true) {s' : GP} {z' : Px} (hg : W.heap[b]? = some (.cells (gc s z) 31)) (hi : (Tryz.prog.info? t).map (·.size) = some 1) (hlt : i < 18) (e : (gc s z).setIfInBounds i v = gc s' z')
    (hK : ∀ w', w'.heap[b]? = some (.cells (gc s' z') 31) → Ch (fun k => k = b) W w' → wpList Tryz.prog ops Q rest (a.put o.dst undef) w') : wpList Tryz.prog ops Q (o :: rest) a W :=
  bx_set hgd t x y ho b i v hx hy hv hv1 (gc s z) 31 hg hi hlt (fun w' h1 h2 => hK w' (e ▸ h1) h2)
theorem gl_term (hgd : o.guard = none) (x y : Operand) (ho : o.op = .store 25 x y) (b : Nat) (v : Int) (hx : a.eval x = .pointer (some ⟨b, 2, none⟩)) (hy : a.eval y = .int .u64 v) (hg : W.heap[b]? = some (.cells (gc s z) 31))
    (hK : ∀ w', w'.heap[b]? = some (.cells (gc { s with term := v } z) 31) → Ch (fun k => k = b) W w' → wpList Tryz.prog ops Q rest (a.put o.dst undef) w') : wpList Tryz.prog ops Q (o :: rest) a W :=
  gx_fld hgd 25 x y ho b 2 _ hx hy rfl rfl hg Tryz.one26 (by decide) rfl hK
theorem gl_vote (hgd : o.guard = none) (x y : Operand) (ho : o.op = .store 3 x y) (b : Nat) (v : Int) (hx : a.eval x = .pointer (some ⟨b, 3, none⟩)) (hy : a.eval y = .int .i64 v) (hg : W.heap[b]? = some (.cells (gc s z) 31))
    (hK : ∀ w', w'.heap[b]? = some (.cells (gc { s with vote := v } z) 31) → Ch (fun k => k = b) W w' → wpList Tryz.prog ops Q rest (a.put o.dst undef) w') : wpList Tryz.prog ops Q (o :: rest) a W :=
  gx_fld hgd 3 x y ho b 3 _ hx hy rfl rfl hg Tryz.one3 (by decide) rfl hK
theorem gl_role (hgd : o.guard = none) (x y : Operand) (ho : o.op = .store 26 x y) (b : Nat) (v : Int) (hx : a.eval x = .pointer (some ⟨b, 4, none⟩)) (hy : a.eval y = .int .u8 v) (hg : W.heap[b]? = some (.cells (gc s z) 31))
    (hK : ∀ w', w'.heap[b]? = some (.cells (gc { s with role := v } z) 31) → Ch (fun k => k = b) W w' → wpList Tryz.prog ops Q rest (a.put o.dst undef) w') : wpList Tryz.prog ops Q (o :: rest) a W :=
  gx_fld hgd 26 x y ho b 4 _ hx hy rfl rfl hg Tryz.one27 (by decide) rfl hK
theorem gl_lead (hgd : o.guard = none) (x y : Operand) (ho : o.op = .store 3 x y) (b : Nat) (v : Int) (hx : a.eval x = .pointer (some ⟨b, 5, none⟩)) (hy : a.eval y = .int .i64 v) (hg : W.heap[b]? = some (.cells (gc s z) 31))
    (hK : ∀ w', w'.heap[b]? = some (.cells (gc { s with lead := v } z) 31) → Ch (fun k => k = b) W w' → wpList Tryz.prog ops Q rest (a.put o.dst undef) w') : wpList Tryz.prog ops Q (o :: rest) a W :=
  gx_fld hgd 3 x y ho b 5 _ hx hy rfl rfl hg Tryz.one3 (by decide) rfl hK
theorem gl_idle (hgd : o.guard = none) (x y : Operand) (ho : o.op = .store 3 x y) (b : Nat) (v : Int) (hx : a.eval x = .pointer (some ⟨b, 12, none⟩)) (hy : a.eval y = .int .i64 v) (hg : W.heap[b]? = some (.cells (gc s z) 31))
    (hK : ∀ w', w'.heap[b]? = some (.cells (gc { s with idle := v } z) 31) → Ch (fun k => k = b) W w' → wpList Tryz.prog ops Q rest (a.put o.dst undef) w') : wpList Tryz.prog ops Q (o :: rest) a W :=
  gx_fld hgd 3 x y ho b 12 _ hx hy rfl rfl hg Tryz.one3 (by decide) rfl hK
theorem gl_wait (hgd : o.guard = none) (x y : Operand) (ho : o.op = .store 3 x y) (b : Nat) (v : Int) (hx : a.eval x = .pointer (some ⟨b, 13, none⟩)) (hy : a.eval y = .int .i64 v) (hg : W.heap[b]? = some (.cells (gc s z) 31))
    (hK : ∀ w', w'.heap[b]? = some (.cells (gc { s with wait := v } z) 31) → Ch (fun k => k = b) W w' → wpList Tryz.prog ops Q rest (a.put o.dst undef) w') : wpList Tryz.prog ops Q (o :: rest) a W :=
  gx_fld hgd 3 x y ho b 13 _ hx hy rfl rfl hg Tryz.one3 (by decide) rfl hK
theorem gl_votes (hgd : o.guard = none) (x y : Operand) (ho : o.op = .store 22 x y) (b : Nat) (v : Option Addr) (L : List Int) (c : Nat) (hx : a.eval x = .pointer (some ⟨b, 14, none⟩)) (hy : a.eval y = .slice v L.length c) (hg : W.heap[b]? = some (.cells (gc s z) 31))
    (hK : ∀ w', w'.heap[b]? = some (.cells (gc { s with votes := L } { z with aV := v, cV := c }) 31) → Ch (fun k => k = b) W w' → wpList Tryz.prog ops Q rest (a.put o.dst undef) w') : wpList Tryz.prog ops Q (o :: rest) a W :=
  gx_fld hgd 22 x y ho b 14 _ hx hy rfl rfl hg Tryz.one24 (by decide) rfl hK
theorem gl_fol (hgd : o.guard = none) (x y : Operand) (ho : o.op = .store 28 x y) (b : Nat) (v : Option Addr) (L : List (Int × Int × Int)) (c : Nat) (hx : a.eval x = .pointer (some ⟨b, 15, none⟩)) (hy : a.eval y = .slice v L.length c) (hg : W.heap[b]? = some (.cells (gc s z) 31))
    (hK : ∀ w', w'.heap[b]? = some (.cells (gc { s with fol := L } { z with aF := v, cF := c }) 31) → Ch (fun k => k = b) W w' → wpList Tryz.prog ops Q rest (a.put o.dst undef) w') : wpList Tryz.prog ops Q (o :: rest) a W :=
  gx_fld hgd 28 x y ho b 15 _ hx hy rfl rfl hg Tryz.one29 (by decide) rfl hK
theorem gl_log (hgd : o.guard = none) (x y : Operand) (ho : o.op = .store 27 x y) (b : Nat) (v : Option Addr) (L : List GE) (c : Nat) (hx : a.eval x = .pointer (some ⟨b, 10, none⟩)) (hy : a.eval y = .slice v L.length c) (hg : W.heap[b]? = some (.cells (gc s z) 31))
    (hK : ∀ w', w'.heap[b]? = some (.cells (gc { s with log := L } { z with aL := v, cL := c }) 31) → Ch (fun k => k = b) W w' → wpList Tryz.prog ops Q rest (a.put o.dst undef) w') : wpList Tryz.prog ops Q (o :: rest) a W :=
  gx_fld hgd 27 x y ho b 10 _ hx hy rfl rfl hg Tryz.one28 (by decide) rfl hK
theorem gl_reads (hgd : o.guard = none) (x y : Operand) (ho : o.op = .store 29 x y) (b : Nat) (v : Option Addr) (L : List GR) (c : Nat) (hx : a.eval x = .pointer (some ⟨b, 17, none⟩)) (hy : a.eval y = .slice v L.length c) (hg : W.heap[b]? = some (.cells (gc s z) 31))
    (hK : ∀ w', w'.heap[b]? = some (.cells (gc { s with reads := L } { z with aR := v, cR := c }) 31) → Ch (fun k => k = b) W w' → wpList Tryz.prog ops Q rest (a.put o.dst undef) w') : wpList Tryz.prog ops Q (o :: rest) a W :=
  gx_fld hgd 29 x y ho b 17 _ hx hy rfl rfl hg Tryz.one30 (by decide) rfl hK
end
/-- Standing down. -/
def GP.down (s : GP) (t : Int) : GP := { s with term := if s.term < t then t else s.term, vote := if s.term < t then 0 else s.vote, role := 0, lead := if s.term < t then 0 else if s.role = 2 then 0 else s.lead, votes := [], fol := [], reads := [] }
/-- What standing down leaves of where lists lie. -/
def dnX (x : Px) : Px := { x with aV := none, cV := 0, aF := none, cF := 0, aR := none, cR := 0 }
set_option maxRecDepth 100000 in
set_option maxHeartbeats 1000000 in
theorem standDown_g {W : World} {s : GP} {x : Px} (t : Int) : Calls Tryz.prog 145 #[.agg (gc s x), .int .u64 t] W fun e w' => e = .returned (.agg (gc (s.down t) (dnX x))) ∧ Bel W w' := by
  by_cases hr : s.role = 2
  · have e1 : (s.role == 2) = true := by simp [hr]
    by_cases ht : s.term < t
    · have ht' := ht
      have HD : Hid (s.down t = { s with role := 0, votes := [], fol := [], reads := [], lead := 0, term := t, vote := 0 }) := hide (by unfold GP.down; first | (simp [ht]; done) | simp [ht, hr])
      go_enter Tryz.func145, Tryz.ntmps145
      go_wp2_with (first
        | (refine bx_box rfl 31 _ rfl (gc s x) rfl ?_; intro b w0 hr0 hs0 hb0; have HR0 := hide hr0; have HB0 := hide (And.intro hb0 (Nat.le_of_eq hs0)); clear hr0 hs0 hb0)
        | (refine bx_new rfl 31 rfl _ Tryz.zeroP ?_; intro b2 w1 hr1 hs1 hb1; have HR1 := hide (And.intro hr1 hs1); have y4 := (Bg.of (hb1.row (unhide HR0))).c4; have y2 := (Bg.of (hb1.row (unhide HR0))).c2; have HZ : Hid (w1.heap[b]? = some (.cells (gc s x) 31) ∧ Ch (fun k => k = b) w1 w1) := hide ⟨hb1.row (unhide HR0), Ch.refl _ _⟩; have HB1 := hide (And.intro ((unhide HB0).1.trans hb1) (Nat.le_trans (unhide HB0).1.size (Nat.le_of_eq hs1))); have HNE : Hid (b2 ≠ b) := hide (fun e => by have := lt_of_some (unhide HR0); omega); clear hr1 hs1 hb1)
        | (refine gl_term rfl _ _ rfl b _ rfl rfl (unhide HZ).1 ?_; intro w3 hr3 hc3; have y2' := (Bg.of hr3).c2; replace HZ := hide (And.intro hr3 ((unhide HZ).2.trans1 hc3)); clear hr3 hc3)
        | (refine gl_vote rfl _ _ rfl b _ rfl rfl (unhide HZ).1 ?_; intro w3 hr3 hc3; have y2' := (Bg.of hr3).c2; replace HZ := hide (And.intro hr3 ((unhide HZ).2.trans1 hc3)); clear hr3 hc3)
        | (refine gl_role rfl _ _ rfl b _ rfl rfl (unhide HZ).1 ?_; intro w3 hr3 hc3; have y2' := (Bg.of hr3).c2; replace HZ := hide (And.intro hr3 ((unhide HZ).2.trans1 hc3)); clear hr3 hc3)
        | (refine gl_lead rfl _ _ rfl b _ rfl rfl (unhide HZ).1 ?_; intro w3 hr3 hc3; have y2' := (Bg.of hr3).c2; replace HZ := hide (And.intro hr3 ((unhide HZ).2.trans1 hc3)); clear hr3 hc3)
        | (refine gl_votes rfl _ _ rfl b none [] 0 rfl rfl (unhide HZ).1 ?_; intro w3 hr3 hc3; have y2' := (Bg.of hr3).c2; replace HZ := hide (And.intro hr3 ((unhide HZ).2.trans1 hc3)); clear hr3 hc3)
        | (refine gl_fol rfl _ _ rfl b none [] 0 rfl rfl (unhide HZ).1 ?_; intro w3 hr3 hc3; have y2' := (Bg.of hr3).c2; replace HZ := hide (And.intro hr3 ((unhide HZ).2.trans1 hc3)); clear hr3 hc3)
        | (refine gl_reads rfl _ _ rfl b none [] 0 rfl rfl (unhide HZ).1 ?_; intro w3 hr3 hc3; have y2' := (Bg.of hr3).c2; replace HZ := hide (And.intro hr3 ((unhide HZ).2.trans1 hc3)); clear hr3 hc3)
        | (refine bx_ldG rfl 31 _ rfl b rfl _ _ (unhide HZ).1 Tryz.underlying31 (Tryz.sizeP _ _) ?_)
        | (refine bx_st rfl 31 _ _ rfl b2 _ _ rfl rfl ((unhide HZ).2.row (unhide HR1).1 (unhide HNE)) (Tryz.sizeP _ _) rfl (gc_one _ _) ?_; intro w9 hr9 hc9; have HR9 := hide (And.intro hr9 hc9); clear hr9 hc9))
      refine bodyPost_ret (res1 (p := 4) rfl Tryz.underlying31 (Tryz.sizeP _ _) (unhide HR9).1 _ rfl) rfl ⟨?_, bel_off (bel_off (unhide HB1).1 (unhide HZ).2 (unhide HB0).2) (unhide HR9).2 (unhide HB1).2⟩
      rw [unhide HD]
      rfl
    · have ht' := ht
      have HD : Hid (s.down t = { s with role := 0, votes := [], fol := [], reads := [], lead := 0, term := s.term, vote := s.vote }) := hide (by unfold GP.down; first | (simp [ht]; done) | simp [ht, hr])
      go_enter Tryz.func145, Tryz.ntmps145
      go_wp2_with (first
        | (refine bx_box rfl 31 _ rfl (gc s x) rfl ?_; intro b w0 hr0 hs0 hb0; have HR0 := hide hr0; have HB0 := hide (And.intro hb0 (Nat.le_of_eq hs0)); clear hr0 hs0 hb0)
        | (refine bx_new rfl 31 rfl _ Tryz.zeroP ?_; intro b2 w1 hr1 hs1 hb1; have HR1 := hide (And.intro hr1 hs1); have y4 := (Bg.of (hb1.row (unhide HR0))).c4; have y2 := (Bg.of (hb1.row (unhide HR0))).c2; have HZ : Hid (w1.heap[b]? = some (.cells (gc s x) 31) ∧ Ch (fun k => k = b) w1 w1) := hide ⟨hb1.row (unhide HR0), Ch.refl _ _⟩; have HB1 := hide (And.intro ((unhide HB0).1.trans hb1) (Nat.le_trans (unhide HB0).1.size (Nat.le_of_eq hs1))); have HNE : Hid (b2 ≠ b) := hide (fun e => by have := lt_of_some (unhide HR0); omega); clear hr1 hs1 hb1)
        | (refine gl_term rfl _ _ rfl b _ rfl rfl (unhide HZ).1 ?_; intro w3 hr3 hc3; have y2' := (Bg.of hr3).c2; replace HZ := hide (And.intro hr3 ((unhide HZ).2.trans1 hc3)); clear hr3 hc3)
        | (refine gl_vote rfl _ _ rfl b _ rfl rfl (unhide HZ).1 ?_; intro w3 hr3 hc3; have y2' := (Bg.of hr3).c2; replace HZ := hide (And.intro hr3 ((unhide HZ).2.trans1 hc3)); clear hr3 hc3)
        | (refine gl_role rfl _ _ rfl b _ rfl rfl (unhide HZ).1 ?_; intro w3 hr3 hc3; have y2' := (Bg.of hr3).c2; replace HZ := hide (And.intro hr3 ((unhide HZ).2.trans1 hc3)); clear hr3 hc3)
        | (refine gl_lead rfl _ _ rfl b _ rfl rfl (unhide HZ).1 ?_; intro w3 hr3 hc3; have y2' := (Bg.of hr3).c2; replace HZ := hide (And.intro hr3 ((unhide HZ).2.trans1 hc3)); clear hr3 hc3)
        | (refine gl_votes rfl _ _ rfl b none [] 0 rfl rfl (unhide HZ).1 ?_; intro w3 hr3 hc3; have y2' := (Bg.of hr3).c2; replace HZ := hide (And.intro hr3 ((unhide HZ).2.trans1 hc3)); clear hr3 hc3)
        | (refine gl_fol rfl _ _ rfl b none [] 0 rfl rfl (unhide HZ).1 ?_; intro w3 hr3 hc3; have y2' := (Bg.of hr3).c2; replace HZ := hide (And.intro hr3 ((unhide HZ).2.trans1 hc3)); clear hr3 hc3)
        | (refine gl_reads rfl _ _ rfl b none [] 0 rfl rfl (unhide HZ).1 ?_; intro w3 hr3 hc3; have y2' := (Bg.of hr3).c2; replace HZ := hide (And.intro hr3 ((unhide HZ).2.trans1 hc3)); clear hr3 hc3)
        | (refine bx_ldG rfl 31 _ rfl b rfl _ _ (unhide HZ).1 Tryz.underlying31 (Tryz.sizeP _ _) ?_)
        | (refine bx_st rfl 31 _ _ rfl b2 _ _ rfl rfl ((unhide HZ).2.row (unhide HR1).1 (unhide HNE)) (Tryz.sizeP _ _) rfl (gc_one _ _) ?_; intro w9 hr9 hc9; have HR9 := hide (And.intro hr9 hc9); clear hr9 hc9))
      refine bodyPost_ret (res1 (p := 4) rfl Tryz.underlying31 (Tryz.sizeP _ _) (unhide HR9).1 _ rfl) rfl ⟨?_, bel_off (bel_off (unhide HB1).1 (unhide HZ).2 (unhide HB0).2) (unhide HR9).2 (unhide HB1).2⟩
      rw [unhide HD]
      rfl
  · have e1 : (s.role == 2) = false := by simp [hr]
    by_cases ht : s.term < t
    · have ht' := ht
      have HD : Hid (s.down t = { s with role := 0, votes := [], fol := [], reads := [], lead := 0, term := t, vote := 0 }) := hide (by unfold GP.down; first | (simp [ht]; done) | simp [ht, hr])
      go_enter Tryz.func145, Tryz.ntmps145
      go_wp2_with (first
        | (refine bx_box rfl 31 _ rfl (gc s x) rfl ?_; intro b w0 hr0 hs0 hb0; have HR0 := hide hr0; have HB0 := hide (And.intro hb0 (Nat.le_of_eq hs0)); clear hr0 hs0 hb0)
        | (refine bx_new rfl 31 rfl _ Tryz.zeroP ?_; intro b2 w1 hr1 hs1 hb1; have HR1 := hide (And.intro hr1 hs1); have y4 := (Bg.of (hb1.row (unhide HR0))).c4; have y2 := (Bg.of (hb1.row (unhide HR0))).c2; have HZ : Hid (w1.heap[b]? = some (.cells (gc s x) 31) ∧ Ch (fun k => k = b) w1 w1) := hide ⟨hb1.row (unhide HR0), Ch.refl _ _⟩; have HB1 := hide (And.intro ((unhide HB0).1.trans hb1) (Nat.le_trans (unhide HB0).1.size (Nat.le_of_eq hs1))); have HNE : Hid (b2 ≠ b) := hide (fun e => by have := lt_of_some (unhide HR0); omega); clear hr1 hs1 hb1)
        | (refine gl_term rfl _ _ rfl b _ rfl rfl (unhide HZ).1 ?_; intro w3 hr3 hc3; have y2' := (Bg.of hr3).c2; replace HZ := hide (And.intro hr3 ((unhide HZ).2.trans1 hc3)); clear hr3 hc3)
        | (refine gl_vote rfl _ _ rfl b _ rfl rfl (unhide HZ).1 ?_; intro w3 hr3 hc3; have y2' := (Bg.of hr3).c2; replace HZ := hide (And.intro hr3 ((unhide HZ).2.trans1 hc3)); clear hr3 hc3)
        | (refine gl_role rfl _ _ rfl b _ rfl rfl (unhide HZ).1 ?_; intro w3 hr3 hc3; have y2' := (Bg.of hr3).c2; replace HZ := hide (And.intro hr3 ((unhide HZ).2.trans1 hc3)); clear hr3 hc3)
        | (refine gl_lead rfl _ _ rfl b _ rfl rfl (unhide HZ).1 ?_; intro w3 hr3 hc3; have y2' := (Bg.of hr3).c2; replace HZ := hide (And.intro hr3 ((unhide HZ).2.trans1 hc3)); clear hr3 hc3)
        | (refine gl_votes rfl _ _ rfl b none [] 0 rfl rfl (unhide HZ).1 ?_; intro w3 hr3 hc3; have y2' := (Bg.of hr3).c2; replace HZ := hide (And.intro hr3 ((unhide HZ).2.trans1 hc3)); clear hr3 hc3)
        | (refine gl_fol rfl _ _ rfl b none [] 0 rfl rfl (unhide HZ).1 ?_; intro w3 hr3 hc3; have y2' := (Bg.of hr3).c2; replace HZ := hide (And.intro hr3 ((unhide HZ).2.trans1 hc3)); clear hr3 hc3)
        | (refine gl_reads rfl _ _ rfl b none [] 0 rfl rfl (unhide HZ).1 ?_; intro w3 hr3 hc3; have y2' := (Bg.of hr3).c2; replace HZ := hide (And.intro hr3 ((unhide HZ).2.trans1 hc3)); clear hr3 hc3)
        | (refine bx_ldG rfl 31 _ rfl b rfl _ _ (unhide HZ).1 Tryz.underlying31 (Tryz.sizeP _ _) ?_)
        | (refine bx_st rfl 31 _ _ rfl b2 _ _ rfl rfl ((unhide HZ).2.row (unhide HR1).1 (unhide HNE)) (Tryz.sizeP _ _) rfl (gc_one _ _) ?_; intro w9 hr9 hc9; have HR9 := hide (And.intro hr9 hc9); clear hr9 hc9))
      refine bodyPost_ret (res1 (p := 4) rfl Tryz.underlying31 (Tryz.sizeP _ _) (unhide HR9).1 _ rfl) rfl ⟨?_, bel_off (bel_off (unhide HB1).1 (unhide HZ).2 (unhide HB0).2) (unhide HR9).2 (unhide HB1).2⟩
      rw [unhide HD]
      rfl
    · have ht' := ht
      have HD : Hid (s.down t = { s with role := 0, votes := [], fol := [], reads := [], lead := s.lead, term := s.term, vote := s.vote }) := hide (by unfold GP.down; first | (simp [ht]; done) | simp [ht, hr])
      go_enter Tryz.func145, Tryz.ntmps145
      go_wp2_with (first
        | (refine bx_box rfl 31 _ rfl (gc s x) rfl ?_; intro b w0 hr0 hs0 hb0; have HR0 := hide hr0; have HB0 := hide (And.intro hb0 (Nat.le_of_eq hs0)); clear hr0 hs0 hb0)
        | (refine bx_new rfl 31 rfl _ Tryz.zeroP ?_; intro b2 w1 hr1 hs1 hb1; have HR1 := hide (And.intro hr1 hs1); have y4 := (Bg.of (hb1.row (unhide HR0))).c4; have y2 := (Bg.of (hb1.row (unhide HR0))).c2; have HZ : Hid (w1.heap[b]? = some (.cells (gc s x) 31) ∧ Ch (fun k => k = b) w1 w1) := hide ⟨hb1.row (unhide HR0), Ch.refl _ _⟩; have HB1 := hide (And.intro ((unhide HB0).1.trans hb1) (Nat.le_trans (unhide HB0).1.size (Nat.le_of_eq hs1))); have HNE : Hid (b2 ≠ b) := hide (fun e => by have := lt_of_some (unhide HR0); omega); clear hr1 hs1 hb1)
        | (refine gl_term rfl _ _ rfl b _ rfl rfl (unhide HZ).1 ?_; intro w3 hr3 hc3; have y2' := (Bg.of hr3).c2; replace HZ := hide (And.intro hr3 ((unhide HZ).2.trans1 hc3)); clear hr3 hc3)
        | (refine gl_vote rfl _ _ rfl b _ rfl rfl (unhide HZ).1 ?_; intro w3 hr3 hc3; have y2' := (Bg.of hr3).c2; replace HZ := hide (And.intro hr3 ((unhide HZ).2.trans1 hc3)); clear hr3 hc3)
        | (refine gl_role rfl _ _ rfl b _ rfl rfl (unhide HZ).1 ?_; intro w3 hr3 hc3; have y2' := (Bg.of hr3).c2; replace HZ := hide (And.intro hr3 ((unhide HZ).2.trans1 hc3)); clear hr3 hc3)
        | (refine gl_lead rfl _ _ rfl b _ rfl rfl (unhide HZ).1 ?_; intro w3 hr3 hc3; have y2' := (Bg.of hr3).c2; replace HZ := hide (And.intro hr3 ((unhide HZ).2.trans1 hc3)); clear hr3 hc3)
        | (refine gl_votes rfl _ _ rfl b none [] 0 rfl rfl (unhide HZ).1 ?_; intro w3 hr3 hc3; have y2' := (Bg.of hr3).c2; replace HZ := hide (And.intro hr3 ((unhide HZ).2.trans1 hc3)); clear hr3 hc3)
        | (refine gl_fol rfl _ _ rfl b none [] 0 rfl rfl (unhide HZ).1 ?_; intro w3 hr3 hc3; have y2' := (Bg.of hr3).c2; replace HZ := hide (And.intro hr3 ((unhide HZ).2.trans1 hc3)); clear hr3 hc3)
        | (refine gl_reads rfl _ _ rfl b none [] 0 rfl rfl (unhide HZ).1 ?_; intro w3 hr3 hc3; have y2' := (Bg.of hr3).c2; replace HZ := hide (And.intro hr3 ((unhide HZ).2.trans1 hc3)); clear hr3 hc3)
        | (refine bx_ldG rfl 31 _ rfl b rfl _ _ (unhide HZ).1 Tryz.underlying31 (Tryz.sizeP _ _) ?_)
        | (refine bx_st rfl 31 _ _ rfl b2 _ _ rfl rfl ((unhide HZ).2.row (unhide HR1).1 (unhide HNE)) (Tryz.sizeP _ _) rfl (gc_one _ _) ?_; intro w9 hr9 hc9; have HR9 := hide (And.intro hr9 hc9); clear hr9 hc9))
      refine bodyPost_ret (res1 (p := 4) rfl Tryz.underlying31 (Tryz.sizeP _ _) (unhide HR9).1 _ rfl) rfl ⟨?_, bel_off (bel_off (unhide HB1).1 (unhide HZ).2 (unhide HB0).2) (unhide HR9).2 (unhide HB1).2⟩
      rw [unhide HD]
      rfl
theorem Pg.down {base : Nat} {W : World} {s : GP} {x : Px} (h : Pg base W s x) (t : Int) : Pg base W (s.down t) (dnX x) := ⟨h.m, h.b, h.l, El.O.nil _ _, El.O.nil _ _, ⟨[], rfl, El.O.nil _ _, fun y hy => by cases hy⟩, fun k j hk => by cases hk⟩
theorem Pg.mono {base base' : Nat} {W : World} {s : GP} {x : Px} (h : Pg base W s x) (hb : base' ≤ base) : Pg base' W s x := ⟨h.m.mono hb, h.b.mono hb, by obtain ⟨L, hl⟩ := h.l; exact ⟨L, hl.map, hl.row.mono hb, fun y hy => (hl.own y hy).mono hb⟩, h.v.mono hb, h.f.mono hb, by obtain ⟨L, h1, h2, h3⟩ := h.r; exact ⟨L, h1, h2.mono hb, fun y hy => (h3 y hy).mono hb⟩, h.dv⟩
set_option maxRecDepth 100000 in
set_option maxHeartbeats 1000000 in
theorem down_g {W : World} {s : GP} {x : Px} (h : Gp W s x) (hz : Gz s x) (hm : mayG s = true) (t : Int) (ht : t ≤ 4611686018427387904) : Calls Tryz.prog 93 #[.agg (gc s x), .int .u64 t] W fun e w' => ∃ x', e = .returned (.tuple #[.agg (gc (s.down t) x'), .int .i64 0]) ∧ Pg W.heap.size w' (s.down t) x' ∧ Bel W w' := by
  have H1 : Hid (∀ W', Bel W W' → Calls Tryz.prog 42 #[.agg (gc s x)] W' fun e w' => e = .returned (.int .i64 0) ∧ Bel W' w') := hide (fun W' hb => by have := may_g (h.bel hb) hz; rwa [hm, if_pos rfl] at this)
  have H2 : Hid (∀ W', Bel W W' → Calls Tryz.prog 41 #[.agg (gc s x)] W' fun e w' => ∃ x', e = .returned (.agg (gc s x')) ∧ Pg W'.heap.size w' s x' ∧ Bel W' w') := hide (fun W' hb => clone_g (h.bel hb) hz.m hz.b (by have := hz.l; omega) hz.lm hz.v (by have := hz.f; omega) (by have := hz.r; omega) hz.ra)
  have ht' : ¬ (4611686018427387904 < t) := by omega
  clear h hz hm ht
  go_enter Tryz.func93, Tryz.ntmps93
  go_wp2_with (first
    | (refine bx_box rfl 31 _ rfl (gc s x) rfl ?_; intro b w0 hr0 hs0 hb0; have HR0 := hide hr0; have HB0 := hide hb0; clear hr0 hs0 hb0)
    | (refine bx_new rfl 31 rfl _ Tryz.zeroP ?_; intro b2 w1 hr1 hs1 hb1; have HR1 := hide hr1; have HS1 : Hid (W.heap.size ≤ b2) := hide (Nat.le_trans (unhide HB0).size (Nat.le_of_eq hs1)); replace HR0 := hide (hb1.row (unhide HR0)); replace HB0 := hide ((unhide HB0).trans hb1); clear hr1 hs1 hb1)
    | (refine bx_ldG rfl 31 _ rfl b rfl (gc s x) _ (unhide HR0) Tryz.underlying31 (Tryz.sizeP _ _) ?_)
    | (go_at_call 42; refine ((unhide H1) _ (unhide HB0)).mono ?_; rintro e w2 ⟨rfl, hb2⟩; replace HR0 := hide (hb2.row (unhide HR0)); replace HR1 := hide (hb2.row (unhide HR1)); replace HB0 := hide ((unhide HB0).trans hb2); clear hb2)
    | (go_at_call 41; refine ((unhide H2) _ (unhide HB0)).mono ?_; rintro e w3 ⟨x1, rfl, hf3, hb3⟩; have HF3 := hide (And.intro hf3 (unhide HB0).size); replace HR1 := hide (hb3.row (unhide HR1)); replace HB0 := hide ((unhide HB0).trans hb3); clear hb3 hf3)
    | (go_at_call 145; refine (standDown_g _).mono ?_; rintro e w4 ⟨rfl, hb4⟩; have HF4 := hide (And.intro ((unhide HF3).1.bel hb4) (unhide HF3).2); replace HR1 := hide (hb4.row (unhide HR1)); replace HB0 := hide ((unhide HB0).trans hb4); clear hb4)
    | (refine bx_st rfl 31 _ _ rfl b2 _ _ rfl rfl (unhide HR1) (Tryz.sizeP _ _) rfl (gc_one _ _) ?_; intro w9 hr9 hc9; have HR9 := hide (And.intro hr9 hc9); clear hr9 hc9))
  refine bodyPost_ret (res2 (p := 4) (q := 5) rfl Tryz.underlying31 (Tryz.sizeP _ _) (unhide HR9).1 _ _ rfl rfl) rfl ⟨_, rfl, ?_, bel_off (unhide HB0) (unhide HR9).2 (unhide HS1)⟩
  have h9 := ((unhide HF4).1.down t).box (unhide HR1) (unhide HR9).2
  exact h9.mono (unhide HF4).2
end Go.Proofs.YthekbhliokcpcaaGreat
