/- The library's Clone, at numbers, entries, follows and reads; Equal at numbers. -/
import Derived.Test.YtgofdkheffoilaaGreatMri
namespace Go.Proofs.YtgofdkheffoilaaGreat
open Go.RowKit Go.Maps
/-- Rows of reads: there are none. -/
def E72 : El Unit := { enc := fun _ => [.int .u64 0, .int .u64 0, .slice none 0 0], k := 3, e := 126, t := 43, bytes := 40, z := .agg #[.int .u64 0, .int .u64 0, .slice none 0 0], hk := by decide, len := fun _ => rfl, one := fun x u hu => by simp at hu; rcases hu with rfl | rfl <;> rfl, ht := Tryz.underlying43, hi := by kernel_rfl, hz := rfl, hb := by decide }
theorem bel_grown {w A B : World} {row : Option Nat} (h : Bel w A) (hg : A.grownBy B row) (hr : ∀ k, row = some k → w.heap.size ≤ k) : Bel w B := Below.trans h ((Below.refl _ A).grown hg h.size hr)
/-- append of a row to another one. -/
theorem app_el {α : Type} {E : El α} {ops : Array Oper} {rest : List Oper} {o : Oper} {a : Act} {Q : Exit → Act → World → Prop} {W : World} {base : Nat} {v : Value} {L : List α} (N : List α) (h : E.O base W v L) (hbase : base ≤ W.heap.size) (ad : Option Addr) (n cap : Nat) (hn : N.length = n) (hN : Sl E W ad N) (hb : L.length + N.length ≤ 100000000000)
    (hgd : o.guard = none) (s y : Operand) (t : TypeId) (ht : t = E.t) (ho : o.op = .call { callee := .builtin .append, args := #[s, y], argTypes := #[t, t] }) (hs : a.eval s = v) (hy : a.eval y = .slice ad n cap)
    (hK : ∀ v' w', E.O base w' v' (L ++ N) → W.grownBy w' v.ownBlock → wpList Tryz.prog ops Q rest (a.put o.dst v') w') : wpList Tryz.prog ops Q (o :: rest) a W := by
  subst hn ht
  obtain ⟨g, off, ha, hR⟩ := hN
  refine wpList_plain hgd fun K hK' => ?_
  obtain ⟨v', w', hrun, r1, r2, r3⟩ := El.run_app (E := E) W base v L N h hbase ad g off cap ha hR hb o.type
  unfold Oper.wp execOp
  simp only [ho, resolve, invoke, builtin, Sem.run_bind, Sem.run_pure, Result.andThen_ok, List.map_toArray, List.map_cons, List.map_nil, hs, hy, hrun]
  exact hK' _ _ (hK v' w' r1 r2)
/-- A row of nothing that was just made. -/
theorem El.O.made {α : Type} {E : El α} (W : World) : E.O W.heap.size (W.alloc (.cells #[] E.e)) (.slice (some ⟨W.heap.size, 0, none⟩) 0 0) [] := ⟨by simp [El.fl], Or.inr ⟨W.heap.size, 0, #[], rfl, Nat.le_refl _, at_new W _, Nat.le_refl _, Nat.zero_le _, by simp, by simp [El.fl]⟩⟩
theorem eql24 (ad : Option Addr) (n cap : Nat) (W : World) : (binOp BinOp.eql 25 (.slice ad n cap) (.slice none 0 0)).run Tryz.prog W = .ok (.bool ad.isNone) W := by
  simp only [binOp]
  simp [Op.equal, Op.maxDepth, Lib.run_equalIn_slice_nil W 9999 25 _ ad n cap 0 0 Tryz.underlying25]
set_option maxRecDepth 100000 in
set_option maxHeartbeats 1000000 in
theorem clone3 {W : World} {a : Option Addr} {n cap : Nat} {l : List Int} (hn : l.length = n) (hR : Sl E3 W a l) (hl : n ≤ 10000000000) : Calls Tryz.prog 90 #[.slice a n cap] W fun e w' => ∃ a' c', e = .returned (.slice a' n c') ∧ E3.O W.heap.size w' (.slice a' n c') l ∧ Bel W w' := by
  have HR := hide hR
  have HN := hide hn
  have HL := hide hl
  have hq := eql24 a n cap
  cases a with
  | none =>
    have h0 : l = [] := by
      obtain ⟨g, off, h1, _⟩ := hR
      cases l with
      | nil => rfl
      | cons x l => exact absurd (h1 (by simp)) (by simp)
    subst h0
    obtain rfl : n = 0 := by simpa using hn.symm
    clear hR hn hl
    go_enter Tryz.func90, Tryz.ntmps90
    go_wp2_with fail
    go_ret
    exact ⟨_, _, rfl, El.O.nil _ _, Bel.refl _⟩
  | some ad =>
    clear hR hn hl
    go_enter Tryz.func90, Tryz.ntmps90
    go_wp2_with (first
      | (at_builtin; refine app_el (E := E3) (L := []) l (El.O.made W) (by simp) (some ad) n cap (unhide HN) ((unhide HR).bel ((Bel.refl W).alloc _)) (by have := unhide HL; have := unhide HN; simp; omega) rfl _ _ 25 rfl rfl rfl rfl ?_; intro v' w' ho hg; rw [List.nil_append] at ho; obtain ⟨a', c', g', hv', _, _, _⟩ := ho.shape; rw [unhide HN] at hv'; subst hv'; have HF := hide (And.intro ho (bel_grown ((Bel.refl W).alloc _) hg (fun z hz => by cases hz; exact Nat.le_refl _))); clear ho hg))
    go_ret
    exact ⟨_, _, rfl, (unhide HF).1, (unhide HF).2⟩
theorem eql29 (ad : Option Addr) (n cap : Nat) (W : World) : (binOp BinOp.eql 42 (.slice ad n cap) (.slice none 0 0)).run Tryz.prog W = .ok (.bool ad.isNone) W := by
  simp only [binOp]
  simp [Op.equal, Op.maxDepth, Lib.run_equalIn_slice_nil W 9999 42 _ ad n cap 0 0 Tryz.underlying42]
set_option maxRecDepth 100000 in
set_option maxHeartbeats 1000000 in
theorem clone65 {W : World} {a : Option Addr} {n cap : Nat} {l : List (Int × Int × Int)} (hn : l.length = n) (hR : Sl E65 W a l) (hl : n ≤ 10000000000) : Calls Tryz.prog 91 #[.slice a n cap] W fun e w' => ∃ a' c', e = .returned (.slice a' n c') ∧ E65.O W.heap.size w' (.slice a' n c') l ∧ Bel W w' := by
  have HR := hide hR
  have HN := hide hn
  have HL := hide hl
  have hq := eql29 a n cap
  cases a with
  | none =>
    have h0 : l = [] := by
      obtain ⟨g, off, h1, _⟩ := hR
      cases l with
      | nil => rfl
      | cons x l => exact absurd (h1 (by simp)) (by simp)
    subst h0
    obtain rfl : n = 0 := by simpa using hn.symm
    clear hR hn hl
    go_enter Tryz.func91, Tryz.ntmps91
    go_wp2_with fail
    go_ret
    exact ⟨_, _, rfl, El.O.nil _ _, Bel.refl _⟩
  | some ad =>
    clear hR hn hl
    go_enter Tryz.func91, Tryz.ntmps91
    go_wp2_with (first
      | (at_builtin; refine app_el (E := E65) (L := []) l (El.O.made W) (by simp) (some ad) n cap (unhide HN) ((unhide HR).bel ((Bel.refl W).alloc _)) (by have := unhide HL; have := unhide HN; simp; omega) rfl _ _ 42 rfl rfl rfl rfl ?_; intro v' w' ho hg; rw [List.nil_append] at ho; obtain ⟨a', c', g', hv', _, _, _⟩ := ho.shape; rw [unhide HN] at hv'; subst hv'; have HF := hide (And.intro ho (bel_grown ((Bel.refl W).alloc _) hg (fun z hz => by cases hz; exact Nat.le_refl _))); clear ho hg))
    go_ret
    exact ⟨_, _, rfl, (unhide HF).1, (unhide HF).2⟩
theorem eql28 (ad : Option Addr) (n cap : Nat) (W : World) : (binOp BinOp.eql 24 (.slice ad n cap) (.slice none 0 0)).run Tryz.prog W = .ok (.bool ad.isNone) W := by
  simp only [binOp]
  simp [Op.equal, Op.maxDepth, Lib.run_equalIn_slice_nil W 9999 24 _ ad n cap 0 0 Tryz.underlying24]
set_option maxRecDepth 100000 in
set_option maxHeartbeats 1000000 in
theorem clone69 {W : World} {a : Option Addr} {n cap : Nat} {l : List PE} (hn : l.length = n) (hR : Sl E69 W a l) (hl : n ≤ 10000000000) : Calls Tryz.prog 126 #[.slice a n cap] W fun e w' => ∃ a' c', e = .returned (.slice a' n c') ∧ E69.O W.heap.size w' (.slice a' n c') l ∧ Bel W w' := by
  have HR := hide hR
  have HN := hide hn
  have HL := hide hl
  have hq := eql28 a n cap
  cases a with
  | none =>
    have h0 : l = [] := by
      obtain ⟨g, off, h1, _⟩ := hR
      cases l with
      | nil => rfl
      | cons x l => exact absurd (h1 (by simp)) (by simp)
    subst h0
    obtain rfl : n = 0 := by simpa using hn.symm
    clear hR hn hl
    go_enter Tryz.func126, Tryz.ntmps126
    go_wp2_with fail
    go_ret
    exact ⟨_, _, rfl, El.O.nil _ _, Bel.refl _⟩
  | some ad =>
    clear hR hn hl
    go_enter Tryz.func126, Tryz.ntmps126
    go_wp2_with (first
      | (at_builtin; refine app_el (E := E69) (L := []) l (El.O.made W) (by simp) (some ad) n cap (unhide HN) ((unhide HR).bel ((Bel.refl W).alloc _)) (by have := unhide HL; have := unhide HN; simp; omega) rfl _ _ 24 rfl rfl rfl rfl ?_; intro v' w' ho hg; rw [List.nil_append] at ho; obtain ⟨a', c', g', hv', _, _, _⟩ := ho.shape; rw [unhide HN] at hv'; subst hv'; have HF := hide (And.intro ho (bel_grown ((Bel.refl W).alloc _) hg (fun z hz => by cases hz; exact Nat.le_refl _))); clear ho hg))
    go_ret
    exact ⟨_, _, rfl, (unhide HF).1, (unhide HF).2⟩
theorem eql30 (ad : Option Addr) (n cap : Nat) (W : World) : (binOp BinOp.eql 43 (.slice ad n cap) (.slice none 0 0)).run Tryz.prog W = .ok (.bool ad.isNone) W := by
  simp only [binOp]
  simp [Op.equal, Op.maxDepth, Lib.run_equalIn_slice_nil W 9999 43 _ ad n cap 0 0 Tryz.underlying43]
set_option maxRecDepth 100000 in
set_option maxHeartbeats 1000000 in
theorem clone72 {W : World} {a : Option Addr} {n cap : Nat} {l : List Unit} (hn : l.length = n) (hR : Sl E72 W a l) (hl : n ≤ 10000000000) : Calls Tryz.prog 93 #[.slice a n cap] W fun e w' => ∃ a' c', e = .returned (.slice a' n c') ∧ E72.O W.heap.size w' (.slice a' n c') l ∧ Bel W w' := by
  have HR := hide hR
  have HN := hide hn
  have HL := hide hl
  have hq := eql30 a n cap
  cases a with
  | none =>
    have h0 : l = [] := by
      obtain ⟨g, off, h1, _⟩ := hR
      cases l with
      | nil => rfl
      | cons x l => exact absurd (h1 (by simp)) (by simp)
    subst h0
    obtain rfl : n = 0 := by simpa using hn.symm
    clear hR hn hl
    go_enter Tryz.func93, Tryz.ntmps93
    go_wp2_with fail
    go_ret
    exact ⟨_, _, rfl, El.O.nil _ _, Bel.refl _⟩
  | some ad =>
    clear hR hn hl
    go_enter Tryz.func93, Tryz.ntmps93
    go_wp2_with (first
      | (at_builtin; refine app_el (E := E72) (L := []) l (El.O.made W) (by simp) (some ad) n cap (unhide HN) ((unhide HR).bel ((Bel.refl W).alloc _)) (by have := unhide HL; have := unhide HN; simp; omega) rfl _ _ 43 rfl rfl rfl rfl ?_; intro v' w' ho hg; rw [List.nil_append] at ho; obtain ⟨a', c', g', hv', _, _, _⟩ := ho.shape; rw [unhide HN] at hv'; subst hv'; have HF := hide (And.intro ho (bel_grown ((Bel.refl W).alloc _) hg (fun z hz => by cases hz; exact Nat.le_refl _))); clear ho hg))
    go_ret
    exact ⟨_, _, rfl, (unhide HF).1, (unhide HF).2⟩
set_option maxRecDepth 100000 in
set_option maxHeartbeats 1000000 in
theorem equal_any {W : World} {a b : Option Addr} {l k : List Int} (h : Sl E3 W a l) (h2 : Sl E3 W b k) (cap cap2 : Nat) (hl : l.length ≤ 9000000000000000000) : Calls Tryz.prog 117 #[.slice a l.length cap, .slice b k.length cap2] W fun e w' => e = .returned (.bool (decide (l = k))) ∧ Bel W w' := by
  by_cases hnm : l.length = k.length
  case neg =>
    have e : decide (l = k) = false := decide_eq_false (fun e => hnm (by rw [e]))
    rw [e]
    have hne : ((l.length : Int) == k.length) = false := by simp; omega
    clear h h2 hl hnm e
    generalize l.length = n at *
    generalize k.length = m at *
    go_enter Tryz.func117, Tryz.ntmps117
    go_wp2_with fail
    go_ret
    exact ⟨rfl, Bel.refl _⟩
  case pos =>
  rw [← hnm]
  obtain ⟨g, off, hg, hR⟩ := h
  obtain ⟨g2, off2, hg2, hR2⟩ := h2
  have hm : k.length = l.length := hnm.symm
  clear hnm
  generalize hn : l.length = n at *
  have HN := hide hn
  have HM := hide hm
  have HG := hide hg
  have HR := hide hR
  have HG2 := hide hg2
  have HR2 := hide hR2
  clear hn hg hR hm hg2 hR2
  go_enter Tryz.func117, Tryz.ntmps117
  go_wp2_with fail
  go_loopw [13] (fun vk wr => ∃ (i : Nat), i ≤ n ∧ vk = .int .i64 i ∧ Bel W wr ∧ Hid (l.take i = k.take i)) (fun vk _ => n - (intOf vk).toNat)
  case atStart => exact ⟨0, Nat.zero_le _, rfl, Bel.refl _, hide (by simp)⟩
  case round =>
    obtain ⟨i, hk, rfl, hb, HE⟩ := hrel
    by_cases hlt : i < n
    · have hil : i < l.length := by rw [unhide HN]; exact hlt
      have hik : i < k.length := by rw [unhide HM]; exact hlt
      obtain rfl := (unhide HG) (by omega)
      obtain rfl := (unhide HG2) (by rw [unhide HM]; omega)
      have hkn : (i : Int) < n := by omega
      have r0 := hb.cell (E3_cell (unhide HR) i hil)
      have r1 := hb.cell (E3_cell (unhide HR2) i hik)
      have HB := hide hb
      have HD : Hid (l[i] = k[i] → l.take (i + 1) = k.take (i + 1)) := hide (fun e => by rw [List.take_add_one, List.take_add_one, unhide HE, List.getElem?_eq_getElem hil, List.getElem?_eq_getElem hik, e])
      have HD2 : Hid (l[i] ≠ k[i] → l ≠ k) := hide (fun e h => e (by simp [h]))
      generalize l[i] = x at *
      generalize k[i] = y at *
      clear hb
      cases h1 : (x == y) with
      | true =>
        go_wp2_with fail
        go_quiet (fail)
        go_wp2_with fail
        go_roundw
        case rel => exact ⟨i + 1, by omega, by go_num, (unhide HB).drewN _, hide ((unhide HD) (by simpa using h1))⟩
        case measure => simp [intOf]; omega
      | false =>
        have HF : Hid (decide (l = k) = false) := hide (decide_eq_false ((unhide HD2) (by simpa using h1)))
        go_wp2_with fail
        go_quiet (fail)
        go_wp2_with fail
        go_ret
        exact ⟨by rw [unhide HF]; rfl, (unhide HB).drewN _⟩
    · obtain rfl : i = n := by omega
      have HF : Hid (decide (l = k) = true) := hide (decide_eq_true (by
        have := unhide HE
        rwa [List.take_of_length_le (by rw [unhide HN]; omega), List.take_of_length_le (by rw [unhide HM]; omega)] at this))
      have HB := hide hb
      clear hb
      go_wp2_with fail
      go_ret
      exact ⟨by rw [unhide HF]; rfl, unhide HB⟩
end Go.Proofs.YtgofdkheffoilaaGreat
