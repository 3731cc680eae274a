/- Entries with members, and readings, in lists of their own. -/
import Derived.Test.YthekbhliokcpcaaGreatHpe
import Derived.Test.YthekbhliokcpcaaGreatEle
import Derived.Test.YthekbhliokcpcaaGreatCln
namespace Go.Proofs.YthekbhliokcpcaaGreat
open Go.RowKit Go.Maps
/-- One cell of an element is written. -/
theorem El.fl_cell {α : Type} {E : El α} (L : List α) (i : Nat) (hi : i < L.length) (c : Nat) (hc : c < E.k) (v : Value) (x' : α) (he : E.enc x' = (E.enc L[i]).set c v) : (E.fl L).set (i * E.k + c) v = E.fl (L.set i x') := by
  have hk := E.hk
  apply List.ext_getElem?
  intro t
  by_cases ht : t < L.length * E.k
  · have hj : t / E.k < L.length := (Nat.div_lt_iff_lt_mul hk).2 ht
    have hr : t % E.k < E.k := Nat.mod_lt _ hk
    have e : t = t / E.k * E.k + t % E.k := by rw [Nat.mul_comm]; exact (Nat.div_add_mod t E.k).symm
    rw [e, El.fl_at E (L.set i x') _ _ (by rw [List.length_set]; exact hj) hr]
    by_cases h1 : t / E.k = i
    · have hset : (L.set i x')[t / E.k]'(by rw [List.length_set]; exact hj) = x' := by
        rw [List.getElem_set, if_pos h1.symm]
      rw [hset, he, h1]
      by_cases h2 : t % E.k = c
      · rw [h2, List.getElem?_set, if_pos rfl, List.getElem?_set, if_pos rfl, E.fl_len, E.len]
        rw [if_pos (by rw [← h2, ← h1]; rw [← e]; exact ht), if_pos hc]
      · rw [List.getElem?_set, if_neg (by omega), List.getElem?_set, if_neg (by omega), El.fl_at E L i _ hi hr]
    · have hset : (L.set i x')[t / E.k]'(by rw [List.length_set]; exact hj) = L[t / E.k] := by
        rw [List.getElem_set, if_neg (fun e => h1 e.symm)]
      rw [hset, List.getElem?_set, if_neg, El.fl_at E L _ _ hj hr]
      intro h3
      apply h1
      have : (i * E.k + c) / E.k = (t / E.k * E.k + t % E.k) / E.k := by rw [h3]
      rw [Nat.mul_comm i, Nat.mul_add_div hk, Nat.div_eq_of_lt hc, Nat.mul_comm (t / E.k), Nat.mul_add_div hk, Nat.div_eq_of_lt hr] at this
      omega
  · rw [List.getElem?_eq_none (by rw [List.length_set, E.fl_len]; omega), List.getElem?_eq_none (by rw [E.fl_len, List.length_set]; omega)]
theorem El.O.cell {α : Type} {E : El α} {base : Nat} {W : World} {g cap m : Nat} {L : List α} (h : E.O base W (.slice (some ⟨g, 0, none⟩) m cap) L) (i : Nat) (hi : i < L.length) (c : Nat) (hc : c < E.k) (v : Value) (x' : α) (he : E.enc x' = (E.enc L[i]).set c v) : E.O base (W.setCell ⟨g, i * E.k + c, none⟩ v) (.slice (some ⟨g, 0, none⟩) m cap) (L.set i x') := by
  have hm : m = L.length := by
    obtain ⟨a', c', g', e, _⟩ := h.shape
    injection e with _ e2
  subst hm
  have := (World.ownsRow.stored h (i * E.k + c) v).1
  rw [El.fl_cell L i hi c hc v x' he] at this
  unfold El.O
  rw [List.length_set]
  exact this
theorem eqlG (ad : Option Addr) (n cap : Nat) (W : World) : (binOp BinOp.eql 27 (.slice ad n cap) (.slice none 0 0)).run Tryz.prog W = .ok (.bool ad.isNone) W := by
  simp only [binOp]
  simp [Op.equal, Op.maxDepth, Lib.run_equalIn_slice_nil W 9999 27 _ ad n cap 0 0 Tryz.underlying27]
set_option maxRecDepth 100000 in
set_option maxHeartbeats 1000000 in
theorem cloneG {W : World} {a : Option Addr} {n cap : Nat} {l : List (GE × GA)} (hn : l.length = n) (hR : Sl EG W a l) (hl : n ≤ 10000000000) : Calls Tryz.prog 148 #[.slice a n cap] W fun e w' => ∃ a' c', e = .returned (.slice a' n c') ∧ EG.O W.heap.size w' (.slice a' n c') l ∧ Bel W w' := by
  have HR := hide hR
  have HN := hide hn
  have HL := hide hl
  have hq := eqlG a n cap
  cases a with
  | none =>
    have h0 : l = [] := by
      obtain ⟨g, off, h1, _⟩ := hR
      cases l with
      | nil => rfl
      | cons x l => exact absurd (h1 (by simp)) (by simp)
    subst h0
    obtain rfl : n = 0 := by simpa using hn.symm
    clear hR hn hl
    go_enter Tryz.func148, Tryz.ntmps148
    go_wp2_with fail
    go_ret
    exact ⟨_, _, rfl, El.O.nil _ _, Bel.refl _⟩
  | some ad =>
    clear hR hn hl
    go_enter Tryz.func148, Tryz.ntmps148
    go_wp2_with (first
      | (at_builtin; refine app_el (E := EG) (L := []) l (El.O.made W) (by simp) (some ad) n cap (unhide HN) ((unhide HR).bel ((Bel.refl W).alloc _)) (by have := unhide HL; have := unhide HN; simp; omega) rfl _ _ 27 rfl rfl rfl rfl ?_; intro v' w' ho hg; rw [List.nil_append] at ho; obtain ⟨a', c', g', hv', _, _, _⟩ := ho.shape; rw [unhide HN] at hv'; subst hv'; have HF := hide (And.intro ho (bel_grown ((Bel.refl W).alloc _) hg (fun z hz => by cases hz; exact Nat.le_refl _))); clear ho hg))
    go_ret
    exact ⟨_, _, rfl, (unhide HF).1, (unhide HF).2⟩
theorem eqlR (ad : Option Addr) (n cap : Nat) (W : World) : (binOp BinOp.eql 29 (.slice ad n cap) (.slice none 0 0)).run Tryz.prog W = .ok (.bool ad.isNone) W := by
  simp only [binOp]
  simp [Op.equal, Op.maxDepth, Lib.run_equalIn_slice_nil W 9999 29 _ ad n cap 0 0 Tryz.underlying29]
set_option maxRecDepth 100000 in
set_option maxHeartbeats 1000000 in
theorem cloneR {W : World} {a : Option Addr} {n cap : Nat} {l : List (GR × GA)} (hn : l.length = n) (hR : Sl ER W a l) (hl : n ≤ 10000000000) : Calls Tryz.prog 102 #[.slice a n cap] W fun e w' => ∃ a' c', e = .returned (.slice a' n c') ∧ ER.O W.heap.size w' (.slice a' n c') l ∧ Bel W w' := by
  have HR := hide hR
  have HN := hide hn
  have HL := hide hl
  have hq := eqlR a n cap
  cases a with
  | none =>
    have h0 : l = [] := by
      obtain ⟨g, off, h1, _⟩ := hR
      cases l with
      | nil => rfl
      | cons x l => exact absurd (h1 (by simp)) (by simp)
    subst h0
    obtain rfl : n = 0 := by simpa using hn.symm
    clear hR hn hl
    go_enter Tryz.func102, Tryz.ntmps102
    go_wp2_with fail
    go_ret
    exact ⟨_, _, rfl, El.O.nil _ _, Bel.refl _⟩
  | some ad =>
    clear hR hn hl
    go_enter Tryz.func102, Tryz.ntmps102
    go_wp2_with (first
      | (at_builtin; refine app_el (E := ER) (L := []) l (El.O.made W) (by simp) (some ad) n cap (unhide HN) ((unhide HR).bel ((Bel.refl W).alloc _)) (by have := unhide HL; have := unhide HN; simp; omega) rfl _ _ 29 rfl rfl rfl rfl ?_; intro v' w' ho hg; rw [List.nil_append] at ho; obtain ⟨a', c', g', hv', _, _, _⟩ := ho.shape; rw [unhide HN] at hv'; subst hv'; have HF := hide (And.intro ho (bel_grown ((Bel.refl W).alloc _) hg (fun z hz => by cases hz; exact Nat.le_refl _))); clear ho hg))
    go_ret
    exact ⟨_, _, rfl, (unhide HF).1, (unhide HF).2⟩
/-- Entries while their members are put into lists of their own, up to the k-th. -/
structure Gq (W wr : World) (a : Option Addr) (n c : Nat) (L L' : List (GE × GA)) (k : Nat) : Prop where
  len : L'.length = n
  map : L'.map (·.1) = L.map (·.1)
  row : EG.O W.heap.size wr (.slice a n c) L'
  own : ∀ (i : Nat) (x : GE × GA), i < k → L'[i]? = some x → E3.O W.heap.size wr (.slice x.2.a x.1.m.length x.2.c) x.1.m
  rest : ∀ i, k ≤ i → L'[i]? = L[i]?
  bel : Bel W wr
theorem addr_i (g i : Nat) : (⟨g, i, none⟩ : Addr).block = g := rfl
theorem Gq.next {W wr w9 : World} {g n c : Nat} {L L' : List (GE × GA)} {k : Nat} (h : Gq W wr (some ⟨g, 0, none⟩) n c L L' k) (hk : k < n) {a9 : Option Addr} {c9 : Nat} {m : List Int} (hm : ∀ x, L'[k]? = some x → x.1.m = m) (hb : Bel wr w9) (ho : E3.O W.heap.size w9 (.slice a9 m.length c9) m) : ∃ L'', Gq W (w9.setCell ⟨g, k * 4 + 3, none⟩ (.slice a9 m.length c9)) (some ⟨g, 0, none⟩) n c L L'' (k + 1) := by
  have hkl : k < L'.length := by rw [h.len]; exact hk
  have hmk : L'[k].1.m = m := hm _ (List.getElem?_eq_getElem hkl)
  have hrow := h.row.bel hb
  have hcell := hrow.cell k hkl 3 (by decide) (.slice a9 m.length c9) (L'[k].1, ⟨a9, c9⟩) (by
    show encG _ = (encG _).set 3 _
    unfold encG
    simp [hmk])
  obtain ⟨cur, hcur⟩ := hrow.block (k := g) rfl
  have hch : Ch (fun i => i = g) w9 (w9.setCell ⟨g, k * 4 + 3, none⟩ (.slice a9 m.length c9)) := Ch.set (ad := ⟨g, k * 4 + 3, none⟩) (Ch.refl (fun i => i = g) w9) (Or.inl rfl) _
  have hlt := hrow.lt (k := g) rfl
  refine ⟨_, by rw [List.length_set]; exact h.len, ?_, hcell, ?_, ?_, bel_off (h.bel.trans hb) hch hlt.1⟩
  · rw [List.map_set, ← h.map]
    apply List.ext_getElem?
    intro t
    rw [List.getElem?_set]
    split
    · next e => subst e; rw [List.length_map, if_pos hkl, List.getElem?_map, List.getElem?_eq_getElem hkl]; rfl
    · rfl
  · intro i x hi hx
    rw [List.getElem?_set] at hx
    split at hx
    · next e =>
      first
        | rw [if_pos hkl] at hx
        | skip
      obtain rfl := Option.some.inj hx
      simp only
      rw [hmk]
      exact ho.box hcur (by decide) hch
    · next e => exact ((h.own i x (by omega) hx).bel hb).box hcur (by decide) hch
  · intro i hi
    rw [List.getElem?_set, if_neg (by omega)]
    exact h.rest i (by omega)
set_option maxRecDepth 100000 in
set_option maxHeartbeats 2000000 in
/-- Entries in a list of its own. -/
theorem entries_g {W : World} {a : Option Addr} {n cap : Nat} {L : List (GE × GA)} (hn : L.length = n) (hR : Sl EG W a L) (hG : Gm W L) (hl : n ≤ 1000000) (hm : ∀ x ∈ L, x.1.m.length ≤ 17592186044416) : Calls Tryz.prog 101 #[.slice a n cap] W fun e w' => ∃ a' c' L', e = .returned (.slice a' n c') ∧ L'.map (·.1) = L.map (·.1) ∧ EG.O W.heap.size w' (.slice a' n c') L' ∧ (∀ x ∈ L', E3.O W.heap.size w' (.slice x.2.a x.1.m.length x.2.c) x.1.m) ∧ Bel W w' := by
  have HL : Hid (Calls Tryz.prog 148 #[.slice a n cap] W fun e w' => ∃ a' c', e = .returned (.slice a' n c') ∧ EG.O W.heap.size w' (.slice a' n c') L ∧ Bel W w') := hide (cloneG hn hR (by omega))
  have HC : Hid (∀ (x : GE × GA) (w' : World), x ∈ L → Bel W w' → Calls Tryz.prog 99 #[.slice x.2.a x.1.m.length x.2.c] w' fun e w'' => ∃ a' c', e = .returned (.slice a' x.1.m.length c') ∧ E3.O W.heap.size w'' (.slice a' x.1.m.length c') x.1.m ∧ Bel w' w'') := hide (fun x w' hx hb => (clone3w rfl ((hG x hx).bel hb) (by have := hm x hx; omega)).mono (fun e w'' ⟨a', c', he, ho, hb'⟩ => ⟨a', c', he, ho.mono hb.size, hb'⟩))
  have HN := hide hn
  clear hR hn hG hm
  go_enter Tryz.func101, Tryz.ntmps101
  go_wp2_with (first
    | (go_at_call 148; refine (unhide HL).mono ?_; rintro e w1 ⟨a1, c1, rfl, ho1, hb1⟩; have HJ : Hid (∃ L', Gq W w1 a1 n c1 L L' 0) := hide ⟨L, unhide HN, rfl, ho1, (fun i x h => absurd h (Nat.not_lt_zero _)), fun i _ => rfl, hb1⟩; clear ho1 hb1))
  go_loopw [8] (fun vk wr => ∃ k : Nat, k ≤ n ∧ vk = .int .i64 k ∧ Hid (∃ L', Gq W wr a1 n c1 L L' k)) (fun vk _ => n - (intOf vk).toNat)
  case atStart => exact ⟨0, Nat.zero_le _, rfl, HJ⟩
  case round =>
    obtain ⟨k, hk, rfl, HJr⟩ := hrel
    by_cases hlt : k < n
    · have hkn : (k : Int) < n := by omega
      obtain ⟨L', hJ⟩ := HJr.out
      have hkl : k < L'.length := by rw [hJ.len]; exact hlt
      have ho := hJ.row
      obtain ⟨g, rfl⟩ : ∃ g, a1 = some ⟨g, 0, none⟩ := by
        obtain ⟨a', c', g', e, h1, _⟩ := ho.shape
        injection e with e1
        exact ⟨g', e1.trans (h1 (by omega))⟩
      have hR : EG.R wr g 0 L' := by
        obtain ⟨a', c', g', e, h1, h2, _⟩ := ho.shape
        injection e with e1
        have e2 := e1.trans (h1 (by omega))
        injection e2 with e2
        injection e2 with e2
        rw [e2]; exact h2
      obtain ⟨cur, hcur⟩ := ho.block (k := g) rfl
      obtain ⟨_, _, _, r3⟩ := EG_cell hR k hkl
      have hfr : wr.frozen? ⟨g, k * 4 + 3, none⟩ = false := free_row (W := wr) hcur
      rw [Nat.zero_add] at r3
      have hxL : L'[k] ∈ L := by
        have := hJ.rest k (Nat.le_refl _)
        rw [List.getElem?_eq_getElem hkl] at this
        exact List.mem_of_getElem? this.symm
      have HC2 := hide ((unhide HC) L'[k] wr hxL hJ.bel)
      have HM : Hid (∀ x, L'[k]? = some x → x.1.m = L'[k].1.m) := hide (fun x hx => by rw [List.getElem?_eq_getElem hkl] at hx; obtain rfl := Option.some.inj hx; rfl)
      have HJ2 := hide hJ
      have HCU := hide hcur
      clear hR hcur ho hJ hxL
      generalize hmm : L'[k].1.m = mm at *
      generalize L'[k].2 = ax at *
      clear hmm
      go_wp2_with (first
        | (go_at_call 99; refine (unhide HC2).mono ?_; rintro e w9 ⟨a9, c9, rfl, ho9, hb9⟩; have z3 := hb9.cell r3; have zf : w9.frozen? ⟨g, k * 4 + 3, none⟩ = false := free_row (W := w9) (hb9.row (unhide HCU)); have HO9 := hide (And.intro ho9 hb9); clear ho9 hb9))
      go_roundw
      case rel => exact ⟨k + 1, by omega, by go_num, hide ((unhide HJ2).next hlt (unhide HM) (unhide HO9).2 (unhide HO9).1)⟩
      case measure => simp [intOf]; omega
    · obtain rfl : k = n := by omega
      obtain ⟨L', hJ⟩ := HJr.out
      have HJ2 := hide hJ
      clear hJ
      go_wp2_with fail
      go_ret
      exact ⟨_, _, L', rfl, (unhide HJ2).map, (unhide HJ2).row, fun x hx => by
        obtain ⟨i, hi, e⟩ := List.getElem_of_mem hx
        exact (unhide HJ2).own i x (by rw [← (unhide HJ2).len]; exact hi) (by rw [List.getElem?_eq_getElem hi, e]), (unhide HJ2).bel⟩
end Go.Proofs.YthekbhliokcpcaaGreat
