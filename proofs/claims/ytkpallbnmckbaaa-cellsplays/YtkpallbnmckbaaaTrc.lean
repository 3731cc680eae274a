/- Trim's function that visits cells. -/
import Derived.Test.YtkpallbnmckbaaaApp
import Derived.Test.YtkpallbnmckbaaaTrp
namespace Go.Proofs.Ytkpallbnmckbaaa
open Go.RowKit
/-- How Trim stands in memory: what was there, the time, the bound, what is left. -/
structure TrJ (w : World) (bl B Lb : Nat) (below : Int) (s : C × List C) (W : World) : Prop where
  bel : Bel w W
  hbl : W.heap[bl]? = some (.cells #[.int .u64 below] 27)
  hB : W.heap[B]? = some (.cells #[.string s.1.k, .int .u64 s.1.t, .bool s.1.d, .string s.1.v] 38)
  row : ∃ v, Boxed W Lb 25 v ∧ OR w.heap.size W v s.2 ∧ v.ownBlock ≠ some B
  lo : w.heap.size ≤ B ∧ w.heap.size ≤ Lb
theorem TrJ.next {w : World} {bl B Lb : Nat} {below : Int} {s : C × List C} {W W' : World} (h : TrJ w bl B Lb below s W) (hb : Bel W W') : TrJ w bl B Lb below s W' := by
  obtain ⟨v, h1, h2, h3⟩ := h.row
  exact ⟨h.bel.trans hb, hb.row h.hbl, hb.row h.hB, ⟨v, hb.row h1, h2.bel hb, h3⟩, h.lo⟩
theorem ne_type {W : World} {a b : Nat} {c c' : Array Value} {t t' : TypeId} (h : W.heap[a]? = some (.cells c t)) (h' : W.heap[b]? = some (.cells c' t')) (hne : t ≠ t') : a ≠ b := by
  rintro rfl
  rw [h] at h'
  injection h' with h'
  injection h' with _ e
  exact hne e
theorem OR.ne {base : Nat} {W : World} {v : Value} {L : List C} (h : OR base W v L) {b : Nat} {c : Array Value} {t : TypeId} (hb : W.heap[b]? = some (.cells c t)) (hne : t ≠ 38) : v.ownBlock ≠ some b := by
  rcases h.2 with ⟨rfl, _⟩ | ⟨g, cap, cur, rfl, h1, h2, h3⟩
  · simp [Value.ownBlock]
  · intro e
    have e' : g = b := by simpa [Value.ownBlock] using e
    subst e'
    rw [hb] at h2
    injection h2 with h2
    injection h2 with _ e2
    exact hne e2
theorem set4_other {W : World} {B k : Nat} (v0 v1 v2 v3 : Value) (h : k ≠ B) : ((((W.setCell ⟨B, 0, none⟩ v0).setCell ⟨B, 1, none⟩ v1).setCell ⟨B, 2, none⟩ v2).setCell ⟨B, 3, none⟩ v3).heap[k]? = W.heap[k]? := by
  rw [Below.heap_setCell _ _ _ _ h, Below.heap_setCell _ _ _ _ h, Below.heap_setCell _ _ _ _ h, Below.heap_setCell _ _ _ _ h]
theorem TrJ.bound {w : World} {bl B Lb : Nat} {below : Int} {s : C × List C} {W : World} (h : TrJ w bl B Lb below s W) (y : C) : TrJ w bl B Lb below (y, s.2) ((((W.setCell ⟨B, 0, none⟩ (.string y.k)).setCell ⟨B, 1, none⟩ (.int .u64 y.t)).setCell ⟨B, 2, none⟩ (.bool y.d)).setCell ⟨B, 3, none⟩ (.string y.v)) := by
  obtain ⟨v, h1, h2, h3⟩ := h.row
  have hL : Lb ≠ B := ne_type (show W.heap[Lb]? = some (.cells #[v] 25) from h1) h.hB (by decide)
  have hl : bl ≠ B := ne_type h.hbl h.hB (by decide)
  refine ⟨bel4 _ _ _ _ h.bel h.lo.1, (set4_other _ _ _ _ hl).trans h.hbl, set4 _ _ _ _ h.hB, ⟨v, (set4_other _ _ _ _ hL).trans h1, h2.at (fun k hk => set4_other _ _ _ _ (fun e => by subst e; exact h3 hk)), h3⟩, h.lo⟩
/-- Behind an append to what is left, and its store. -/
theorem TrJ.push {w : World} {bl B Lb : Nat} {below : Int} {s : C × List C} {W W1 : World} {v v' : Value} {x : C} {g cap : Nat} (h : TrJ w bl B Lb below s W) (hv : Boxed W Lb 25 v) (hr : OR w.heap.size W v s.2)
    (hB : v.ownBlock ≠ some B) (hg : W.grownBy W1 v.ownBlock) (ho : OR w.heap.size W1 v' (s.2 ++ [x])) (he : v' = .slice (some ⟨g, 0, none⟩) (s.2.length + 1) cap) (hat : v.ownBlock = some g ∨ g = W.heap.size) :
    TrJ w bl B Lb below (s.1, s.2 ++ [x]) (W1.setCell ⟨Lb, 0, none⟩ v') ∧ W1.cell? ⟨Lb, 0, none⟩ = some v ∧ W1.frozen? ⟨Lb, 0, none⟩ = false := by
  have hL : v.ownBlock ≠ some Lb := hr.ne (show W.heap[Lb]? = some (.cells #[v] 25) from hv) (by decide)
  have hl : v.ownBlock ≠ some bl := hr.ne h.hbl (by decide)
  have hv1 : Boxed W1 Lb 25 v := (hg.block Lb hv.lt (fun e => hL e.symm)).trans hv
  have hbl1 := (hg.block bl (lt_of_some h.hbl) (fun e => hl e.symm)).trans h.hbl
  have hB1 := (hg.block B (lt_of_some h.hB) (fun e => hB e.symm)).trans h.hB
  have hBW1 : Bel w W1 := Below.trans h.bel (grown_bel hg h.bel.size (fun k hk => (hr.lt hk).1))
  have e1 : bl ≠ Lb := ne_type h.hbl (show W.heap[Lb]? = some (.cells #[v] 25) from hv) (by decide)
  have e2 : B ≠ Lb := ne_type h.hB (show W.heap[Lb]? = some (.cells #[v] 25) from hv) (by decide)
  have e3 : v'.ownBlock ≠ some Lb := ho.ne (show W1.heap[Lb]? = some (.cells #[v] 25) from hv1) (by decide)
  refine ⟨⟨Below.setCell hBW1 (p := ⟨Lb, 0, none⟩) h.lo.2 _, ?_, ?_, ⟨v', hv1.set v', ho.at (fun k hk => ?_), ?_⟩, h.lo⟩, hv1.cell, hv1.frozen⟩
  · rw [Below.heap_setCell _ _ _ _ e1]; exact hbl1
  · rw [Below.heap_setCell _ _ _ _ e2]; exact hB1
  · exact Below.heap_setCell _ _ _ _ (fun e => by subst e; exact e3 hk)
  · rw [he]
    intro e
    have eg : g = B := by simpa [Value.ownBlock] using e
    subst eg
    rcases hat with hat | hat
    · exact hB hat
    · have := lt_of_some h.hB; omega
/-- append of one cell that was just laid. -/
theorem app_one {ops : Array Oper} {rest : List Oper} {o : Oper} {a : Act} {Q : Exit → Act → World → Prop} {W : World} {base : Nat} {v : Value} {L : List C} (x : C) (h : OR base W v L) (hbase : base ≤ W.heap.size) (hb : L.length + 1 ≤ 1000000)
    (hgd : o.guard = none) (s y : Operand) (ho : o.op = .call { callee := .builtin .append, args := #[s, y], argTypes := #[25, 25] }) (hs : a.eval s = v) (X : Nat) (hX : X = W.heap.size) (hx : a.eval y = .slice (some ⟨X, 0, none⟩) 1 1)
    (hK : ∀ g cap w', OR base w' (.slice (some ⟨g, 0, none⟩) (L.length + 1) cap) (L ++ [x]) → (W.alloc (.cells #[.string x.k, .int .u64 x.t, .bool x.d, .string x.v] 38)).grownBy w' v.ownBlock → (v.ownBlock = some g ∨ g = (W.alloc (.cells #[.string x.k, .int .u64 x.t, .bool x.d, .string x.v] 38)).heap.size) → wpList Try.prog ops Q rest (a.put o.dst (.slice (some ⟨g, 0, none⟩) (L.length + 1) cap)) w') : wpList Try.prog ops Q (o :: rest) a (W.alloc (.cells #[.string x.k, .int .u64 x.t, .bool x.d, .string x.v] 38)) := by
  subst hX
  exact app_row (M := [x]) (ad := ⟨W.heap.size, 0, none⟩) (cap := 1) (h.bel ((Bel.refl _).alloc _)) (Nat.le_trans hbase (by simp)) (Row.one (at_new W _)) rfl (by simp) (by simpa using hb) hgd s y ho hs hx _ rfl hK
/-- A cell is stored into a box of its own. -/
theorem store_cell {ops : Array Oper} {rest : List Oper} {o : Oper} {a : Act} {W : World} {Q : Exit → Act → World → Prop} (hgd : o.guard = none) (x y : Operand) (ho : o.op = .store 38 x y) {B : Nat} {a0 a1 a2 a3 : Value} (hB : W.heap[B]? = some (.cells #[a0, a1, a2, a3] 38))
    (k : ByteArray) (t : Int) (d : Bool) (v : ByteArray) (hx : a.eval x = .pointer (some ⟨B, 0, none⟩)) (hy : a.eval y = .agg #[.string k, .int .u64 t, .bool d, .string v])
    (h : ∀ W', W'.heap[B]? = some (.cells #[.string k, .int .u64 t, .bool d, .string v] 38) → Ch (fun i => i = B) W W' → wpList Try.prog ops Q rest (a.put o.dst undef) W') : wpList Try.prog ops Q (o :: rest) a W := by
  have hi : (Try.prog.info? 38).map (·.size) = some 4 := by kernel_rfl
  refine wpList_store_mid (P := Try.prog) hgd 38 x y ho B 0 #[.string k, .int .u64 t, .bool d, .string v] hx hy (fun j hj => ?_) hi (all_oneCell_toArray (cs := [.string k, .int .u64 t, .bool d, .string v]) (by simp [Value.oneCell'])) ?_
  · rw [Nat.zero_add]
    refine ⟨?_, free_row hB⟩
    rw [cell_of hB]
    have hj' : j < 4 := hj
    simp [hj']
  · have h1 := set4 (.string k) (.int .u64 t) (.bool d) (.string v) hB
    refine h _ h1 ?_
    exact ((((Ch.refl (fun i => i = B) W).set (ad := ⟨B, 0, none⟩) (Or.inl rfl) _).set (ad := ⟨B, 1, none⟩) (Or.inl rfl) _).set (ad := ⟨B, 2, none⟩) (Or.inl rfl) _).set (ad := ⟨B, 3, none⟩) (Or.inl rfl) _
theorem Ch.cell {M : Nat → Prop} {w w' : World} (h : Ch M w w') {k i : Nat} {v : Value} (hc : w.cell? ⟨k, i, none⟩ = some v) (hn : ¬ M k) : w'.cell? ⟨k, i, none⟩ = some v := (World.cell?_of_block (h.block k (lt_cell hc) hn)).trans hc
theorem N4.ch {M : Nat → Prop} {w w' : World} {b : Nat} {x : C} (hn : N4 w b x) (h : Ch M w w') (hb : ¬ M b) : N4 w' b x := ⟨h.cell hn.1 hb, h.cell hn.2.1 hb, h.cell hn.2.2.1 hb, h.cell hn.2.2.2 hb⟩
theorem TrJ.moved {w : World} {bl B Lb : Nat} {below : Int} {s : C × List C} {W W' : World} (h : TrJ w bl B Lb below s W) (y : C) (hB : W'.heap[B]? = some (.cells #[.string y.k, .int .u64 y.t, .bool y.d, .string y.v] 38)) (hc : Ch (fun i => i = B) W W') : TrJ w bl B Lb below (y, s.2) W' := by
  obtain ⟨v, h1, h2, h3⟩ := h.row
  have hL : Lb ≠ B := ne_type (show W.heap[Lb]? = some (.cells #[v] 25) from h1) h.hB (by decide)
  have hl : bl ≠ B := ne_type h.hbl h.hB (by decide)
  refine ⟨hc.after h.bel h.lo.1, hc.row h.hbl hl, hB, ⟨v, hc.row h1 hL, h2.at (fun k hk => hc.block k (h2.lt hk).2 (fun e => by subst e; exact h3 hk)), h3⟩, h.lo⟩
set_option maxRecDepth 100000 in
set_option maxHeartbeats 2000000 in
theorem trc_any {w : World} {bl B Lb : Nat} {below : Int} {s : C × List C} (k : ByteArray) (t : Int) (d : Bool) (v : ByteArray) (W : World) (h : TrJ w bl B Lb below s W) (hl : s.2.length < 900000) :
    Calls Try.prog 31 #[.agg #[.string k, .int .u64 t, .bool d, .string v], .pointer (some ⟨bl, 0, none⟩), .pointer (some ⟨B, 0, none⟩), .pointer (some ⟨Lb, 0, none⟩)] W fun e w' => e = .returned (.bool (trS below s (k, t, d, v)).2) ∧ TrJ w bl B Lb below (trS below s (k, t, d, v)).1 w' := by
  obtain ⟨W0, hW0⟩ : ∃ W0, W0 = W.alloc (.cells #[.string k, .int .u64 t, .bool d, .string v] 38) := ⟨_, rfl⟩
  have hb0 : Bel W W0 := by rw [hW0]; exact (Bel.refl _).alloc _
  have h0 := h.next hb0
  have b0 : ∀ o, (W.alloc o).cell? ⟨bl, 0, none⟩ = some (.int .u64 below) := fun o => cell_of (((Bel.refl _).alloc o).row h.hbl)
  have hXB : W.heap.size ≠ B := by have := lt_of_some h.hB; omega
  have HN : Hid (N4 W0 W.heap.size (k, t, d, v)) := by rw [hW0]; exact N4.of (at_new W _)
  have H0 := hide h0
  have HW0 := hide hW0
  have C32 := hide (fun W => behind_any k W)
  unfold vC at C32
  simp only [C.k, C.t, C.d, C.v] at C32
  clear h h0 hb0 hW0
  by_cases ht : t ≤ below
  · cases d with
    | true =>
      have HS : Hid (trS below s (k, t, true, v) = ((beh k, s.2), true)) := hide (by simp [trS, ht])
      rw [HS.out]
      go_enter Try.func31, Try.ntmps31
      go_wp2_with (first | (go_at_call 32; refine (C32.out _).mono ?_; rintro e w1 ⟨rfl, hb1⟩; have hb1' : Bel W0 w1 := (by rw [unhide HW0]; exact hb1); have HJ1 := hide ((unhide H0).next hb1'); have HN1 := hide ((unhide HN).bel hb1'); clear hb1 hb1') | (refine store_cell rfl _ _ rfl (unhide HJ1).hB k 0 false ⟨#[]⟩ rfl rfl ?_; intro W2 hB2 hc2; have HJ2 := hide ((unhide HJ1).moved (beh k) hB2 hc2); obtain ⟨z0, z1, z2, z3⟩ := (unhide HN1).ch hc2 hXB; have zb : W2.cell? ⟨bl, 0, none⟩ = some (.int .u64 below) := cell_of (unhide HJ2).hbl; simp only [C.k, C.t, C.d, C.v] at z0 z1 z2 z3; clear hB2 hc2))
      go_ret
      exact ⟨rfl, unhide HJ2⟩
    | false =>
      have HS : Hid (trS below s (k, t, false, v) = ((beh k, s.2 ++ [(k, t, false, v)]), true)) := hide (by simp [trS, ht])
      rw [HS.out]
      go_enter Try.func31, Try.ntmps31
      go_wp2_with (first | (go_at_call 32; refine (C32.out _).mono ?_; rintro e w1 ⟨rfl, hb1⟩; have hb1' : Bel W0 w1 := (by rw [unhide HW0]; exact hb1); have HJ1 := hide ((unhide H0).next hb1'); have HN1 := hide ((unhide HN).bel hb1'); clear hb1 hb1') | (refine store_cell rfl _ _ rfl (unhide HJ1).hB k 0 false ⟨#[]⟩ rfl rfl ?_; intro W2 hB2 hc2; have HJ2 := hide ((unhide HJ1).moved (beh k) hB2 hc2); obtain ⟨z0, z1, z2, z3⟩ := (unhide HN1).ch hc2 hXB; have zb : W2.cell? ⟨bl, 0, none⟩ = some (.int .u64 below) := cell_of (unhide HJ2).hbl; simp only [C.k, C.t, C.d, C.v] at z0 z1 z2 z3; clear hB2 hc2; obtain ⟨vl, hv, hr, hvB⟩ := (unhide HJ2).row; obtain ⟨al, cl, gl, rfl, _, _⟩ := hr.shape; have zl := hv.cell; have HR := hide (And.intro hv (And.intro hr hvB)); clear hv hr hvB) | (at_builtin; refine app_one (k, t, false, v) (unhide HR).2.1 (unhide HJ2).bel.size (by first | omega | (simp only; omega)) rfl _ _ rfl rfl _ (by simp) rfl ?_; intro g3 cap3 w3 ho3 hg3 hat3; obtain ⟨hJ3, y1, y2⟩ := ((unhide HJ2).next ((Bel.refl _).alloc _)).push (x := (k, t, false, v)) (((Bel.refl _).alloc _).row (unhide HR).1) ((unhide HR).2.1.bel ((Bel.refl _).alloc _)) (unhide HR).2.2 hg3 ho3 rfl hat3; have HJ3 := hide hJ3; clear hJ3 ho3 hg3 hat3))
      go_ret
      exact ⟨rfl, unhide HJ3⟩
  · have HS : Hid (trS below s (k, t, d, v) = ((s.1, s.2 ++ [(k, t, d, v)]), true)) := hide (by
      have h' : below < t := by omega
      simp [trS, ht, h'])
    rw [HS.out]
    have HJ2 := H0
    obtain ⟨vl, hv, hr, hvB⟩ := (unhide HJ2).row
    obtain ⟨al, cl, gl, rfl, _, _⟩ := hr.shape
    have HR := hide (And.intro hv (And.intro hr hvB))
    rw [HW0.out] at HJ2 HR hv
    have zl := hv.cell
    clear hv hr hvB
    go_enter Try.func31, Try.ntmps31
    go_wp2_with (at_builtin; refine app_one (k, t, d, v) (unhide HR).2.1 (unhide HJ2).bel.size (by first | omega | (simp only; omega)) rfl _ _ rfl rfl _ (by simp) rfl ?_; intro g3 cap3 w3 ho3 hg3 hat3; obtain ⟨hJ3, y1, y2⟩ := ((unhide HJ2).next ((Bel.refl _).alloc _)).push (x := (k, t, d, v)) (((Bel.refl _).alloc _).row (unhide HR).1) ((unhide HR).2.1.bel ((Bel.refl _).alloc _)) (unhide HR).2.2 hg3 ho3 rfl hat3; have HJ3 := hide hJ3; clear hJ3 ho3 hg3 hat3)
    go_ret
    exact ⟨rfl, unhide HJ3⟩
end Go.Proofs.Ytkpallbnmckbaaa
