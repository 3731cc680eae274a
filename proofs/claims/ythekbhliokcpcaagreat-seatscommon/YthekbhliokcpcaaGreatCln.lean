/- clone. -/
import Derived.Test.YthekbhliokcpcaaGreatMay
namespace Go.Proofs.YthekbhliokcpcaaGreat
open Go.RowKit Go.Maps Go.Sort
/-- A member whose lists were made behind base. -/
structure Pf (base : Nat) (W : World) (n : Nat) (s : PP) (x : Px) : Prop where
  m : E3.O base W (.slice x.aM n x.cM) (mem n)
  b : E3.O base W (.slice x.aB n x.cB) (mem n)
  l : E69.O base W (.slice x.aL s.log.length x.cL) s.log
  v : E3.O base W (.slice x.aV s.votes.length x.cV) s.votes
  f : E65.O base W (.slice x.aF s.fol.length x.cF) s.fol
  dv : ∀ k j, (Value.slice x.aV s.votes.length x.cV).ownBlock = some k → (Value.slice x.aM n x.cM).ownBlock = some j ∨ (Value.slice x.aB n x.cB).ownBlock = some j → j < k
theorem Pf.pw {base : Nat} {W : World} {n : Nat} {s : PP} {x : Px} (h : Pf base W n s x) : Pw W n s x := ⟨(Sl.of h.m).1, (Sl.of h.b).1, (Sl.of h.l).1, (Sl.of h.v).1, (Sl.of h.f).1⟩
theorem Pf.bel {base : Nat} {W W' : World} {n : Nat} {s : PP} {x : Px} (h : Pf base W n s x) (hb : Bel W W') : Pf base W' n s x := ⟨h.m.bel hb, h.b.bel hb, h.l.bel hb, h.v.bel hb, h.f.bel hb, h.dv⟩
/-- The same, whoever the members are. -/
structure PfM (base : Nat) (W : World) (n : Nat) (M : List Int) (s : PP) (x : Px) : Prop where
  m : E3.O base W (.slice x.aM n x.cM) M
  b : E3.O base W (.slice x.aB n x.cB) M
  l : E69.O base W (.slice x.aL s.log.length x.cL) s.log
  v : E3.O base W (.slice x.aV s.votes.length x.cV) s.votes
  f : E65.O base W (.slice x.aF s.fol.length x.cF) s.fol
  dv : ∀ k j, (Value.slice x.aV s.votes.length x.cV).ownBlock = some k → (Value.slice x.aM n x.cM).ownBlock = some j ∨ (Value.slice x.aB n x.cB).ownBlock = some j → j < k
theorem PfM.bel {base : Nat} {W W' : World} {n : Nat} {M : List Int} {s : PP} {x : Px} (h : PfM base W n M s x) (hb : Bel W W') : PfM base W' n M s x := ⟨h.m.bel hb, h.b.bel hb, h.l.bel hb, h.v.bel hb, h.f.bel hb, h.dv⟩
/-- A row is none of a box's cells. -/
theorem El.O.box {α : Type} {E : El α} {base : Nat} {W W' : World} {v : Value} {L : List α} {b : Nat} {c : Array Value} {t : Nat} (h : E.O base W v L) (hr : W.heap[b]? = some (.cells c t)) (ht : E.e ≠ t) (hc : Ch (fun k => k = b) W W') : E.O base W' v L :=
  h.at (fun k hk => hc.block k (h.lt hk).2 (fun e => by
    obtain ⟨c2, hc2⟩ := h.block hk
    rw [e, hr] at hc2
    injection (Option.some.inj hc2) with _ h2
    exact ht h2.symm))
theorem Pf.box {base : Nat} {W W' : World} {n : Nat} {s : PP} {x : Px} {b : Nat} {c : Array Value} (h : Pf base W n s x) (hr : W.heap[b]? = some (.cells c 31)) (hc : Ch (fun k => k = b) W W') : Pf base W' n s x := ⟨h.m.box hr (by decide) hc, h.b.box hr (by decide) hc, h.l.box hr (by decide) hc, h.v.box hr (by decide) hc, h.f.box hr (by decide) hc, h.dv⟩
theorem PfM.box {base : Nat} {W W' : World} {n : Nat} {M : List Int} {s : PP} {x : Px} {b : Nat} {c : Array Value} (h : PfM base W n M s x) (hr : W.heap[b]? = some (.cells c 31)) (hc : Ch (fun k => k = b) W W') : PfM base W' n M s x := ⟨h.m.box hr (by decide) hc, h.b.box hr (by decide) hc, h.l.box hr (by decide) hc, h.v.box hr (by decide) hc, h.f.box hr (by decide) hc, h.dv⟩
theorem set2_row {W : World} {b i j n : Nat} {s : PP} {x x' : Px} {v u : Value} (h : W.heap[b]? = some (.cells (pc n s x) 31)) (e : ((pc n s x).setIfInBounds i v).setIfInBounds j u = pc n s x') : ((W.setCell ⟨b, i, none⟩ v).setCell ⟨b, j, none⟩ u).heap[b]? = some (.cells (pc n s x') 31) ∧ Ch (fun k => k = b) W ((W.setCell ⟨b, i, none⟩ v).setCell ⟨b, j, none⟩ u) := by
  refine ⟨by rw [← e]; exact row_set (row_set h), ?_⟩
  exact Ch.set (ad := ⟨b, j, none⟩) (Ch.set (ad := ⟨b, i, none⟩) (Ch.refl (fun k => k = b) W) (Or.inl rfl) v) (Or.inl rfl) u
theorem setCell_same {W : World} {g i : Nat} {v : Value} {cur : Array Value} {t : TypeId} (hg : W.heap[g]? = some (.cells cur t)) (h : cur[i]? = some v) : W.setCell ⟨g, i, none⟩ v = W := by
  rw [setCell_eq_setRow W g i cur t (0, 0) v hg]
  have e : cur.setIfInBounds i v = cur := by
    apply Array.ext_getElem?
    intro j
    by_cases hj : i = j
    · subst hj
      rw [Array.getElem?_setIfInBounds_self_of_lt (Array.getElem?_eq_some_iff.1 h).1, h]
    · rw [Array.getElem?_setIfInBounds_ne hj]
  rw [e]
  exact setRow_self W g cur t (0, 0) hg
set_option maxRecDepth 100000 in
theorem clone_nil (W : World) : Calls Tryz.prog 99 #[.slice none 0 0] W fun e w' => e = .returned (.slice none 0 0) ∧ w' = W := by
  have hq := eql24 none 0 0
  go_enter Tryz.func99, Tryz.ntmps99
  go_wp2_with fail
  go_ret
  exact ⟨rfl, rfl⟩
set_option maxRecDepth 100000 in
set_option maxHeartbeats 2000000 in
/-- Entries in a list of its own. -/
theorem entries_cl {W : World} {a : Option Addr} {n cap : Nat} {l : List PE} (hn : l.length = n) (hR : Sl E69 W a l) (hl : n ≤ 1000000) : Calls Tryz.prog 101 #[.slice a n cap] W fun e w' => ∃ a' c', e = .returned (.slice a' n c') ∧ E69.O W.heap.size w' (.slice a' n c') l ∧ Bel W w' := by
  have HL : Hid (Calls Tryz.prog 148 #[.slice a n cap] W fun e w' => ∃ a' c', e = .returned (.slice a' n c') ∧ E69.O W.heap.size w' (.slice a' n c') l ∧ Bel W w') := hide (clone69 hn hR (by omega))
  have HN := hide hn
  clear hR hn
  go_enter Tryz.func101, Tryz.ntmps101
  go_wp2_with (first
    | (go_at_call 148; refine (unhide HL).mono ?_; rintro e w1 ⟨a1, c1, rfl, ho1, hb1⟩; have HJ := hide (And.intro ho1 hb1); clear ho1 hb1))
  go_loopw [8] (fun vk wr => ∃ k : Nat, k ≤ n ∧ vk = .int .i64 k ∧ Hid (E69.O W.heap.size wr (.slice a1 n c1) l ∧ Bel W wr)) (fun vk _ => n - (intOf vk).toNat)
  case atStart => exact ⟨0, Nat.zero_le _, rfl, HJ⟩
  case round =>
    obtain ⟨k, hk, rfl, HJr⟩ := hrel
    by_cases hlt : k < n
    · have hkn : (k : Int) < n := by omega
      have hkl : k < l.length := by rw [unhide HN]; exact hlt
      have ho := (unhide HJr).1
      obtain ⟨g, rfl⟩ : ∃ g, a1 = some ⟨g, 0, none⟩ := by
        obtain ⟨a', c', g', e, h1, _⟩ := ho.shape
        injection e with e1
        exact ⟨g', e1.trans (h1 (by omega))⟩
      have hR : E69.R wr g 0 l := by
        obtain ⟨a', c', g', e, h1, h2, _⟩ := ho.shape
        injection e with e1
        have e2 := e1.trans (h1 (by omega))
        injection e2 with e2
        injection e2 with e2
        rw [e2]; exact h2
      obtain ⟨cur, hcur⟩ := ho.block (k := g) rfl
      obtain ⟨_, _, _, r3⟩ := E69_cell hR k hkl
      have r3' : wr.cell? ⟨g, 0 + k * 4 + 3, none⟩ = some (.slice none 0 0) := r3
      have hfr : wr.frozen? ⟨g, 0 + k * 4 + 3, none⟩ = false := free_row (W := wr) hcur
      have hset : wr.setCell ⟨g, 0 + k * 4 + 3, none⟩ (.slice none 0 0) = wr := setCell_same (W := wr) hcur (by rw [← cell_of hcur]; exact r3)
      rw [Nat.zero_add] at r3' hfr hset
      have HCN := hide clone_nil
      clear hR hcur r3 ho
      go_wp2_with (first
        | (go_at_call 99; refine ((unhide HCN) _).mono ?_; rintro e w9 ⟨rfl, hw9⟩; rw [hw9]; clear hw9))
      go_roundw
      case rel => exact ⟨k + 1, by omega, by go_num, hide ⟨(unhide HJr).1, (unhide HJr).2⟩⟩
      case measure => simp [intOf]; omega
    · obtain rfl : k = n := by omega
      go_wp2_with fail
      go_ret
      exact ⟨_, _, rfl, (unhide HJr).1, (unhide HJr).2⟩
theorem Tryz.zero32 (w : World) : (zeroValue 31).run Tryz.prog w = .ok (.agg (pc 0 ⟨0, 0, 0, 0, 0, 0, 0, [], [], [], 0⟩ ⟨none, 0, none, 0, none, 0, none, 0, none, 0, none, 0⟩)) w := by
  unfold pc
  go_simp
set_option maxRecDepth 100000 in
set_option maxHeartbeats 8000000 in
theorem clone_gen {W : World} {n : Nat} {M : List Int} {s : PP} {x : Px} (hM : M.length = n) (h1 : Sl E3 W x.aM M) (h2 : Sl E3 W x.aB M) (h3 : Sl E69 W x.aL s.log) (h4 : Sl E3 W x.aV s.votes) (h5 : Sl E65 W x.aF s.fol) (hn : n ≤ 64) (hl : s.log.length ≤ 1000000) (hv : s.votes.length ≤ 1000000) (hf : s.fol.length ≤ 1000000) : Calls Tryz.prog 41 #[.agg (pc n s x)] W fun e w' => ∃ x', e = .returned (.agg (pc n s x')) ∧ PfM W.heap.size w' n M s x' ∧ Bel W w' := by
  have HM : Hid (∀ W', Bel W W' → Calls Tryz.prog 99 #[.slice x.aM n x.cM] W' fun e w' => ∃ a' c', e = .returned (.slice a' n c') ∧ E3.O W.heap.size w' (.slice a' n c') M ∧ Bel W' w') := hide (fun W' hb => (clone3 hM (h1.bel hb) (by omega)).mono (fun e w' ⟨a', c', he, ho, hb'⟩ => ⟨a', c', he, ho.mono hb.size, hb'⟩))
  have HBm : Hid (∀ W', Bel W W' → Calls Tryz.prog 99 #[.slice x.aB n x.cB] W' fun e w' => ∃ a' c', e = .returned (.slice a' n c') ∧ E3.O W.heap.size w' (.slice a' n c') M ∧ Bel W' w') := hide (fun W' hb => (clone3 hM (h2.bel hb) (by omega)).mono (fun e w' ⟨a', c', he, ho, hb'⟩ => ⟨a', c', he, ho.mono hb.size, hb'⟩))
  have HV : Hid (∀ W', Bel W W' → Calls Tryz.prog 99 #[.slice x.aV s.votes.length x.cV] W' fun e w' => ∃ a' c', e = .returned (.slice a' s.votes.length c') ∧ (E3.O W.heap.size w' (.slice a' s.votes.length c') s.votes ∧ ∀ k, (Value.slice a' s.votes.length c').ownBlock = some k → W'.heap.size ≤ k) ∧ Bel W' w') := hide (fun W' hb => (clone3 rfl (h4.bel hb) (by omega)).mono (fun e w' ⟨a', c', he, ho, hb'⟩ => ⟨a', c', he, ⟨ho.mono hb.size, fun k hk => (ho.lt hk).1⟩, hb'⟩))
  have HF : Hid (∀ W', Bel W W' → Calls Tryz.prog 100 #[.slice x.aF s.fol.length x.cF] W' fun e w' => ∃ a' c', e = .returned (.slice a' s.fol.length c') ∧ E65.O W.heap.size w' (.slice a' s.fol.length c') s.fol ∧ Bel W' w') := hide (fun W' hb => (clone65 rfl (h5.bel hb) (by omega)).mono (fun e w' ⟨a', c', he, ho, hb'⟩ => ⟨a', c', he, ho.mono hb.size, hb'⟩))
  have HL : Hid (∀ W', Bel W W' → Calls Tryz.prog 101 #[.slice x.aL s.log.length x.cL] W' fun e w' => ∃ a' c', e = .returned (.slice a' s.log.length c') ∧ E69.O W.heap.size w' (.slice a' s.log.length c') s.log ∧ Bel W' w') := hide (fun W' hb => (entries_cl rfl (h3.bel hb) (by omega)).mono (fun e w' ⟨a', c', he, ho, hb'⟩ => ⟨a', c', he, ho.mono hb.size, hb'⟩))
  have HR : Hid (∀ W', Calls Tryz.prog 102 #[.slice x.aR 0 x.cR] W' fun e w' => ∃ a' c', e = .returned (.slice a' 0 c') ∧ Bel W' w') := hide (fun W' => (clone72 (l := []) rfl (Sl.nil _ _ _) (Nat.zero_le _)).mono (fun e w' ⟨a', c', he, _, hb'⟩ => ⟨a', c', he, hb'⟩))
  clear hM h1 h2 h3 h4 h5 hn hv hf
  go_enter Tryz.func41, Tryz.ntmps41
  go_wp2_with (first
    | (refine bx_box rfl 31 _ rfl (pc n s x) rfl ?_; intro b w0 hr0 hs0 hb0; have HR0 := hide hr0; have HRz := hide hr0; have HB0 := hide (And.intro hb0 (Nat.le_of_eq hs0)); clear hr0 hs0 hb0)
    | (refine bx_new rfl 31 rfl _ Tryz.zero32 ?_; intro b2 w1 hr1 hs1 hb1; have HR1 := hide hr1; have HS1 := hide hs1; replace HR0 := hide (hb1.row (unhide HR0)); replace HB0 := hide (And.intro ((unhide HB0).1.trans hb1) (And.intro (unhide HB0).2 (Nat.le_trans (unhide HB0).1.size (Nat.le_of_eq hs1)))); clear hr1 hs1 hb1))
  go_frame
  rename_i Q1 K1 hK1
  have HRb := hide (unhide HR1)
  have HNE : Hid (b2 ≠ b) := hide (fun e => by have := lt_of_some (unhide HRz); have := unhide HS1; omega)
  have key1 : ∀ (a7 a10 : Option Addr) (c7 c10 : Nat) (w' : World), w'.heap[b]? = some (.cells (pc n s { x with aM := a7, cM := c7, aB := a10, cB := c10 }) 31) → w'.heap[b2]? = w1.heap[b2]? → E3.O W.heap.size w' (.slice a7 n c7) M → E3.O W.heap.size w' (.slice a10 n c10) M → Bel W w' → K1 { tmps := #[.agg (pc n s x), .pointer (some ⟨b, 0, none⟩), .pointer (some ⟨b2, 0, none⟩), undef, .pointer (some ⟨b, 1, none⟩), .slice x.aM n x.cM, .slice a7 n c7, .pointer (some ⟨b, 8, none⟩), .slice x.aB n x.cB, .slice a10 n c10, .pointer (some ⟨b, 1, none⟩), .pointer (some ⟨b, 8, none⟩), undef, undef, undef, undef, undef, undef, undef, undef, undef, undef, undef, undef, undef, undef, undef, undef, undef, undef, undef, undef, undef, undef, undef, undef, undef, undef, undef, undef, undef, undef, undef, undef, undef, undef, undef, undef], defers := [] } w' := by
    intro a7 a10 c7 c10 w2 hr2 hb2 o7 o10 bl2
    have HR2 := hide hr2
    have HX2 := hide (And.intro hb2 (And.intro o7 (And.intro o10 bl2)))
    have hsz : b2 < w2.heap.size := lt_of_some (hb2.trans (unhide HRb))
    clear hr2 hb2 o7 o10 bl2
    refine hK1 _ _ ?_
    go_wp2_with fail
    rename_i K2 hK2
    have key2 : ∀ (a15 a18 : Option Addr) (c15 c18 : Nat) (w' : World), w'.heap[b]? = some (.cells (pc n s { x with aM := a7, cM := c7, aB := a10, cB := c10, aV := a15, cV := c15, aF := a18, cF := c18 }) 31) → w'.heap[b2]? = w1.heap[b2]? → E3.O W.heap.size w' (.slice a7 n c7) M → E3.O W.heap.size w' (.slice a10 n c10) M → E3.O W.heap.size w' (.slice a15 s.votes.length c15) (s.votes) → E65.O W.heap.size w' (.slice a18 s.fol.length c18) (s.fol) → (∀ k j, (Value.slice a15 s.votes.length c15).ownBlock = some k → (Value.slice a7 n c7).ownBlock = some j ∨ (Value.slice a10 n c10).ownBlock = some j → j < k) → Bel W w' → K2 { tmps := #[.agg (pc n s x), .pointer (some ⟨b, 0, none⟩), .pointer (some ⟨b2, 0, none⟩), undef, .pointer (some ⟨b, 1, none⟩), .slice x.aM n x.cM, .slice a7 n c7, .pointer (some ⟨b, 8, none⟩), .slice x.aB n x.cB, .slice a10 n c10, .pointer (some ⟨b, 1, none⟩), .pointer (some ⟨b, 8, none⟩), .pointer (some ⟨b, 14, none⟩), .slice x.aV s.votes.length x.cV, .slice a15 s.votes.length c15, .pointer (some ⟨b, 15, none⟩), .slice x.aF s.fol.length x.cF, .slice a18 s.fol.length c18, .pointer (some ⟨b, 14, none⟩), .pointer (some ⟨b, 15, none⟩), undef, undef, undef, undef, undef, undef, undef, undef, undef, undef, undef, undef, undef, undef, undef, undef, undef, undef, undef, undef, undef, undef, undef, undef, undef, undef, undef, undef], defers := [] } w' := by
      intro a15 a18 c15 c18 w5 hr5 hb5 o7 o10 o15 o18 hdv bl5
      have HR5 := hide hr5
      have HX5 := hide (And.intro hb5 (And.intro o7 (And.intro o10 (And.intro o15 (And.intro o18 bl5)))))
      have hsz5 : b2 < w5.heap.size := lt_of_some (hb5.trans (unhide HRb))
      have HDV := hide hdv
      clear hr5 hb5 o7 o10 o15 o18 bl5 hdv
      refine hK2 _ _ ?_
      go_wp2_with fail
      rename_i K3 hK3
      have key3 : ∀ (a23 a26 : Option Addr) (c23 c26 : Nat) (w' : World), w'.heap[b]? = some (.cells (pc n s { x with aM := a7, cM := c7, aB := a10, cB := c10, aV := a15, cV := c15, aF := a18, cF := c18, aL := a23, cL := c23, aR := a26, cR := c26 }) 31) → w'.heap[b2]? = w1.heap[b2]? → E3.O W.heap.size w' (.slice a7 n c7) M → E3.O W.heap.size w' (.slice a10 n c10) M → E3.O W.heap.size w' (.slice a15 s.votes.length c15) (s.votes) → E65.O W.heap.size w' (.slice a18 s.fol.length c18) (s.fol) → (∀ k j, (Value.slice a15 s.votes.length c15).ownBlock = some k → (Value.slice a7 n c7).ownBlock = some j ∨ (Value.slice a10 n c10).ownBlock = some j → j < k) → E69.O W.heap.size w' (.slice a23 s.log.length c23) (s.log) → Bel W w' → K3 { tmps := #[.agg (pc n s x), .pointer (some ⟨b, 0, none⟩), .pointer (some ⟨b2, 0, none⟩), undef, .pointer (some ⟨b, 1, none⟩), .slice x.aM n x.cM, .slice a7 n c7, .pointer (some ⟨b, 8, none⟩), .slice x.aB n x.cB, .slice a10 n c10, .pointer (some ⟨b, 1, none⟩), .pointer (some ⟨b, 8, none⟩), .pointer (some ⟨b, 14, none⟩), .slice x.aV s.votes.length x.cV, .slice a15 s.votes.length c15, .pointer (some ⟨b, 15, none⟩), .slice x.aF s.fol.length x.cF, .slice a18 s.fol.length c18, .pointer (some ⟨b, 14, none⟩), .pointer (some ⟨b, 15, none⟩), .pointer (some ⟨b, 10, none⟩), .slice x.aL s.log.length x.cL, .slice a23 s.log.length c23, .pointer (some ⟨b, 17, none⟩), .slice x.aR 0 x.cR, .slice a26 0 c26, .pointer (some ⟨b, 10, none⟩), .pointer (some ⟨b, 17, none⟩), undef, undef, undef, undef, undef, undef, undef, undef, undef, undef, undef, undef, undef, undef, undef, undef, undef, undef, undef, undef], defers := [] } w' := by
        intro a23 a26 c23 c26 w8 hr8 hb8 o7 o10 o15 o18 hdv o23 bl8
        have y10 : w8.cell? ⟨b, 10, none⟩ = some (.slice a23 s.log.length c23) := (Bx.of hr8).c10
        have HJ : Hid (w8.heap[b]? = some (.cells (pc n s { x with aM := a7, cM := c7, aB := a10, cB := c10, aV := a15, cV := c15, aF := a18, cF := c18, aL := a23, cL := c23, aR := a26, cR := c26 }) 31) ∧ w8.heap[b2]? = w1.heap[b2]? ∧ PfM W.heap.size w8 n M s { x with aM := a7, cM := c7, aB := a10, cB := c10, aV := a15, cV := c15, aF := a18, cF := c18, aL := a23, cL := c23, aR := a26, cR := c26 } ∧ Bel W w8) := hide ⟨hr8, hb8, ⟨o7, o10, o23, o15, o18, hdv⟩, bl8⟩
        clear hdv hr8 hb8 o7 o10 o15 o18 o23 bl8
        refine hK3 _ _ ?_
        have z17 : w8.cell? ⟨b, 17, none⟩ = some (.slice a26 0 c26) := (Bx.of (unhide HJ).1).c17
        have HRb2 := hide ((unhide HJ).2.1.trans (unhide HRb))
        clear y10
        go_wp2_with fail
        go_loopw [31] (fun vk w9 => vk = .int .i64 0 ∧ w9 = w8) (fun _ _ => 0)
        case atStart => exact ⟨rfl, rfl⟩
        case round =>
          obtain ⟨rfl, rfl⟩ := hrel
          go_wp2_with (first
            | (refine bx_ldG rfl 31 _ rfl b rfl (pc n s { x with aM := a7, cM := c7, aB := a10, cB := c10, aV := a15, cV := c15, aF := a18, cF := c18, aL := a23, cL := c23, aR := a26, cR := c26 }) _ (unhide HJ).1 Tryz.underlying31 (Tryz.size32 _ _ _) ?_)
            | (refine bx_st rfl 31 _ _ rfl b2 (pc n s { x with aM := a7, cM := c7, aB := a10, cB := c10, aV := a15, cV := c15, aF := a18, cF := c18, aL := a23, cL := c23, aR := a26, cR := c26 }) _ rfl rfl (unhide HRb2) (Tryz.size32 _ _ _) rfl (pc_one _ _ _) ?_; intro w9 hr9 hc9; have HR9 := hide (And.intro hr9 hc9); clear hr9 hc9))
          refine bodyPost_ret (res1 (p := 2) rfl Tryz.underlying31 (Tryz.size32 _ _ _) (unhide HR9).1 _ rfl) rfl ⟨_, rfl, (unhide HJ).2.2.1.box (unhide HRb2) (unhide HR9).2, bel_off (unhide HJ).2.2.2 (unhide HR9).2 (unhide HB0).2.2⟩
      have y10 : w5.cell? ⟨b, 10, none⟩ = some (.slice x.aL s.log.length x.cL) := (Bx.of (unhide HR5)).c10
      have y17 : w5.cell? ⟨b, 17, none⟩ = some (.slice x.aR 0 x.cR) := (Bx.of (unhide HR5)).c17
      have HK3 := hide key3
      clear key3
      go_region_with (first
        | (go_at_call 101; refine ((unhide HL) _ (Bel.drew (unhide HX5).2.2.2.2.2)).mono ?_; rintro e w33 ⟨a23, c23, rfl, ho3, hb3⟩; have z17 : w33.cell? ⟨b, 17, none⟩ = some (.slice x.aR 0 x.cR) := (Bx.of (hb3.row (unhide HR5))).c17; have HO3 := hide (And.intro ho3 hb3); clear ho3 hb3)
        | (go_at_call 102; refine ((unhide HR) _ ).mono ?_; rintro e w34 ⟨a26, c26, rfl, hb3'⟩; have hr3 := hb3'.row ((unhide HO3).2.row (unhide HR5)); have f10 := free_row (p := 10) hr3; have f17 := free_row (p := 17) hr3; have u10 : w34.cell? ⟨b, 10, none⟩ = some (.slice x.aL s.log.length x.cL) := (Bx.of hr3).c10; have u17 : w34.cell? ⟨b, 17, none⟩ = some (.slice x.aR 0 x.cR) := (Bx.of hr3).c17; have HR3x := hide hr3; have HP3 := hide (And.intro trivial hb3'); clear hr3 hb3'))
      all_goals
        obtain ⟨q1, q2⟩ := set2_row (x' := { x with aM := a7, cM := c7, aB := a10, cB := c10, aV := a15, cV := c15, aF := a18, cF := c18, aL := a23, cL := c23, aR := a26, cR := c26 }) (i := 10) (j := 17) (v := .slice a23 s.log.length c23) (u := .slice a26 0 c26) (unhide HR3x) rfl
        have hbb := (((Bel.refl w5).drew.trans (unhide HO3).2).trans (unhide HP3).2)
        exact (unhide HK3) _ _ _ _ _ q1 ((q2.block b2 (Nat.lt_of_lt_of_le hsz5 hbb.size) (unhide HNE)).trans ((hbb.block b2 hsz5).trans (unhide HX5).1)) ((((unhide HX5).2.1).bel hbb).box (unhide HR3x) (by decide) q2) ((((unhide HX5).2.2.1).bel hbb).box (unhide HR3x) (by decide) q2) ((((unhide HX5).2.2.2.1).bel hbb).box (unhide HR3x) (by decide) q2) ((((unhide HX5).2.2.2.2.1).bel hbb).box (unhide HR3x) (by decide) q2) (unhide HDV) (((unhide HO3).1.bel (unhide HP3).2).box (unhide HR3x) (by decide) q2) (bel_off ((unhide HX5).2.2.2.2.2.trans hbb) q2 (unhide HB0).2.1)
    have y14 : w2.cell? ⟨b, 14, none⟩ = some (.slice x.aV s.votes.length x.cV) := (Bx.of (unhide HR2)).c14
    have y15 : w2.cell? ⟨b, 15, none⟩ = some (.slice x.aF s.fol.length x.cF) := (Bx.of (unhide HR2)).c15
    have HK2 := hide key2
    clear key2
    go_region_with (first
      | (go_at_call 99; refine ((unhide HV) _ (Bel.drew (unhide HX2).2.2.2)).mono ?_; rintro e w23 ⟨a15, c15, rfl, ho2, hb2⟩; have z15 : w23.cell? ⟨b, 15, none⟩ = some (.slice x.aF s.fol.length x.cF) := (Bx.of (hb2.row (unhide HR2))).c15; have HO2 := hide (And.intro ho2 hb2); clear ho2 hb2)
      | (go_at_call 100; refine ((unhide HF) _ ((Bel.drew (unhide HX2).2.2.2).trans (unhide HO2).2)).mono ?_; rintro e w24 ⟨a18, c18, rfl, ho2', hb2'⟩; have hr2 := hb2'.row ((unhide HO2).2.row (unhide HR2)); have f14 := free_row (p := 14) hr2; have f15 := free_row (p := 15) hr2; have u14 : w24.cell? ⟨b, 14, none⟩ = some (.slice x.aV s.votes.length x.cV) := (Bx.of hr2).c14; have u15 : w24.cell? ⟨b, 15, none⟩ = some (.slice x.aF s.fol.length x.cF) := (Bx.of hr2).c15; have HR2x := hide hr2; have HP2 := hide (And.intro ho2' hb2'); clear hr2 hb2' ho2'))
    all_goals
      obtain ⟨q1, q2⟩ := set2_row (x' := { x with aM := a7, cM := c7, aB := a10, cB := c10, aV := a15, cV := c15, aF := a18, cF := c18 }) (i := 14) (j := 15) (v := .slice a15 s.votes.length c15) (u := .slice a18 s.fol.length c18) (unhide HR2x) rfl
      have hbb := (((Bel.refl w2).drew.trans (unhide HO2).2).trans (unhide HP2).2)
      exact (unhide HK2) _ _ _ _ _ q1 ((q2.block b2 (Nat.lt_of_lt_of_le hsz hbb.size) (unhide HNE)).trans ((hbb.block b2 hsz).trans (unhide HX2).1)) ((((unhide HX2).2.1).bel hbb).box (unhide HR2x) (by decide) q2) ((((unhide HX2).2.2.1).bel hbb).box (unhide HR2x) (by decide) q2) (((unhide HO2).1.1.bel (unhide HP2).2).box (unhide HR2x) (by decide) q2) ((unhide HP2).1.box (unhide HR2x) (by decide) q2) (fun k j hk hj => Nat.lt_of_lt_of_le (hj.elim (fun e => ((unhide HX2).2.1.lt e).2) (fun e => ((unhide HX2).2.2.1.lt e).2)) ((unhide HO2).1.2 k hk)) (bel_off ((unhide HX2).2.2.2.trans hbb) q2 (unhide HB0).2.1)
  have y1 : w1.cell? ⟨b, 1, none⟩ = some (.slice x.aM n x.cM) := (Bx.of (unhide HR0)).c1
  have y8 : w1.cell? ⟨b, 8, none⟩ = some (.slice x.aB n x.cB) := (Bx.of (unhide HR0)).c8
  have HK1 := hide key1
  clear key1
  go_region_with (first
    | (go_at_call 99; refine ((unhide HM) _ (Bel.drew (unhide HB0).1)).mono ?_; rintro e w13 ⟨a7, c7, rfl, ho1, hb1⟩; have z8 : w13.cell? ⟨b, 8, none⟩ = some (.slice x.aB n x.cB) := (Bx.of (hb1.row (unhide HR0))).c8; have HO1 := hide (And.intro ho1 hb1); clear ho1 hb1)
    | (go_at_call 99; refine ((unhide HBm) _ ((Bel.drew (unhide HB0).1).trans (unhide HO1).2)).mono ?_; rintro e w14 ⟨a10, c10, rfl, ho1', hb1'⟩; have hr1 := hb1'.row ((unhide HO1).2.row (unhide HR0)); have f1 := free_row (p := 1) hr1; have f8 := free_row (p := 8) hr1; have u1 : w14.cell? ⟨b, 1, none⟩ = some (.slice x.aM n x.cM) := (Bx.of hr1).c1; have u8 : w14.cell? ⟨b, 8, none⟩ = some (.slice x.aB n x.cB) := (Bx.of hr1).c8; have HR1x := hide hr1; have HP1 := hide (And.intro ho1' hb1'); clear hr1 hb1' ho1'))
  all_goals
    obtain ⟨q1, q2⟩ := set2_row (x' := { x with aM := a7, cM := c7, aB := a10, cB := c10 }) (i := 1) (j := 8) (v := .slice a7 n c7) (u := .slice a10 n c10) (unhide HR1x) rfl
    have hbb := (((Bel.refl w1).drew.trans (unhide HO1).2).trans (unhide HP1).2)
    exact (unhide HK1) _ _ _ _ _ q1 ((q2.block b2 (Nat.lt_of_lt_of_le (lt_of_some (unhide HRb)) hbb.size) (unhide HNE)).trans ((hbb.block b2 (lt_of_some (unhide HRb))).trans rfl)) (((unhide HO1).1.bel (unhide HP1).2).box (unhide HR1x) (by decide) q2) ((unhide HP1).1.box (unhide HR1x) (by decide) q2) (bel_off ((unhide HB0).1.trans hbb) q2 (unhide HB0).2.1)
theorem clone_any {W : World} {n : Nat} {s : PP} {x : Px} (h : Pw W n s x) (hn : n ≤ 64) (hl : s.log.length ≤ 1000000) (hv : s.votes.length ≤ 1000000) (hf : s.fol.length ≤ 1000000) : Calls Tryz.prog 41 #[.agg (pc n s x)] W fun e w' => ∃ x', e = .returned (.agg (pc n s x')) ∧ Pf W.heap.size w' n s x' ∧ Bel W w' :=
  (clone_gen (mem_len n) h.m h.b h.l h.v h.f hn hl hv hf).mono (fun _ _ ⟨x', he, hf, hb⟩ => ⟨x', he, ⟨hf.m, hf.b, hf.l, hf.v, hf.f, hf.dv⟩, hb⟩)
end Go.Proofs.YthekbhliokcpcaaGreat
