/- Entries are joined to a log: what the parts do. -/
import Derived.Test.YthipgcojbhcdgaaGreatLra
namespace Go.Proofs.YthipgcojbhcdgaaGreat
open Go.RowKit Go.Maps Go.Sort
/-! ### plain -/
/-- One entry more that is there already, or not. -/
theorem mt_next (log : List PE) : ∀ (l : List PE) (b k : Nat) (hk : k < l.length), k ≤ mt log b l → ((∃ x, log[b + k]? = some x ∧ x.t = l[k].t) → k + 1 ≤ mt log b l) ∧ ((¬ ∃ x, log[b + k]? = some x ∧ x.t = l[k].t) → mt log b l = k)
  | [], b, k, hk, _ => by simp at hk
  | e :: l, b, 0, hk, _ => by
    constructor
    · rintro ⟨x, hx, ht⟩
      rw [Nat.add_zero] at hx
      have hm : mt log b (e :: l) = mt log (b + 1) l + 1 := by
        show (match log[b]? with | some x => (if x.t = e.t then mt log (b + 1) l + 1 else 0) | none => 0) = _
        rw [hx]
        have ht' : x.t = e.t := ht
        simp only [ht', if_true]
      omega
    · intro hn
      show (match log[b]? with | some x => (if x.t = e.t then mt log (b + 1) l + 1 else 0) | none => 0) = 0
      cases hq : log[b]? with
      | none => rfl
      | some x =>
        have : ¬ x.t = e.t := fun ht => hn ⟨x, by rw [Nat.add_zero]; exact hq, ht⟩
        simp only [this, if_false]
  | e :: l, b, k + 1, hk, hm => by
    have hmt : mt log b (e :: l) = mt log (b + 1) l + 1 := by
      have h0 : mt log b (e :: l) = (match log[b]? with | some x => (if x.t = e.t then mt log (b + 1) l + 1 else 0) | none => 0) := rfl
      rw [h0] at hm ⊢
      cases hq : log[b]? with
      | none => rw [hq] at hm; simp at hm
      | some x =>
        rw [hq] at hm
        by_cases ht : x.t = e.t
        · simp only [ht, if_true]
        · simp only [ht, if_false] at hm; omega
    have ih := mt_next log l (b + 1) k (by simpa using hk) (by omega)
    rw [show b + 1 + k = b + (k + 1) by omega] at ih
    rw [hmt]
    constructor
    · intro hx
      have := ih.1 (by simpa using hx)
      omega
    · intro hn
      have := ih.2 (by simpa using hn)
      omega
theorem mt_le (log : List PE) : ∀ (l : List PE) (b : Nat), mt log b l ≤ l.length
  | [], b => Nat.le_refl _
  | e :: l, b => by
    have ih := mt_le log l (b + 1)
    show (match log[b]? with | some x => (if x.t = e.t then mt log (b + 1) l + 1 else 0) | none => 0) ≤ _
    cases log[b]? with
    | none => simp
    | some x =>
      by_cases ht : x.t = e.t
      · simp only [ht, if_true, List.length_cons]; omega
      · simp only [ht, if_false]; simp
theorem mt_len (log : List PE) : ∀ (l : List PE) (b : Nat), b ≤ log.length → b + mt log b l ≤ log.length
  | [], b, h => h
  | e :: l, b, h => by
    show b + (match log[b]? with | some x => (if x.t = e.t then mt log (b + 1) l + 1 else 0) | none => 0) ≤ _
    cases hq : log[b]? with
    | none => exact h
    | some x =>
      have hb := (List.getElem?_eq_some_iff.1 hq).1
      have ih := mt_len log l (b + 1) hb
      by_cases ht : x.t = e.t
      · simp only [ht, if_true]; omega
      · simp only [ht, if_false]; omega
/-! ### in memory -/
/-- append to a slice that has no room: a new row. -/
theorem app_cut {W : World} {ad : Option Addr} {L1 N : List PE} {B c2 : Nat} {a2 : Option Addr} (h1 : Sl E69 W ad L1) (hN : E69.O B W (.slice a2 N.length c2) N) (hn0 : 0 < N.length) (hb : L1.length + N.length ≤ 2000000) (ty : TypeId) :
    ∃ v' w', (Builtin.append_ #[24, 24] ty #[.slice ad L1.length L1.length, .slice a2 N.length c2]).run Tryz.prog W = .ok v' w' ∧ E69.O W.heap.size w' v' (L1 ++ N) ∧ Bel W w' := by
  obtain ⟨i0, hi, hz0, hz1, hz2⟩ := E69.info
  obtain ⟨aN, cN, gN, eN, hgN, hRN, _⟩ := hN.shape
  injection eN with e1 e2 e3
  subst e1 e3
  have haN := hgN (by omega)
  subst haN
  have hbb := E69.hb
  cases ad with
  | none =>
    have hL0 : L1 = [] := by
      obtain ⟨g, off, hg, _⟩ := h1
      cases L1 with
      | nil => rfl
      | cons x l => have := hg (by simp); cases this
    subst hL0
    obtain ⟨v', w', hrun, r1, r2, r3⟩ := El.run_app (E := E69) W W.heap.size (.slice none 0 0) [] N (El.O.nil _ _) (Nat.le_refl _) (some ⟨gN, 0, none⟩) gN 0 c2 (fun _ => rfl) hRN (by simp at hb ⊢; omega) ty
    exact ⟨v', w', hrun, r1, ((Bel.refl W).ch (fun _ => False)).grown r2 (fun k hk => by cases hk) |>.below (Nat.le_refl _) (fun _ h => h.elim)⟩
  | some b =>
    obtain ⟨g, off, hg, hR⟩ := h1
    have holds : ∀ j u, (E69.fl L1)[j]? = some u → W.cell? (b.add j) = some u := fun j u hj => by
      have hlen : L1.length ≠ 0 := fun e => by rw [List.eq_nil_of_length_eq_zero e] at hj; simp [El.fl] at hj
      have e := Option.some.inj (hg hlen)
      subst e
      rw [Addr.add_lit]
      exact hR.flat j u hj
    obtain ⟨v', w', hr, q1, q2⟩ := run_append_arg_grows (P := Tryz.prog) W 24 ty E69.e i0 E69.z E69.k E69.bytes E69.ht hi hz0 hz1 hz2 E69.hz E69.hk b L1.length L1.length (E69.fl L1) (E69.fl_len L1) holds ⟨gN, 0, none⟩ N.length c2 (E69.fl N) (E69.fl_len N) (fun j u hj => by rw [Addr.add_lit]; exact hRN.flat j u hj) (by omega) (by unfold maxLen; omega) (by
      have h1 : (L1.length + N.length) * E69.bytes ≤ 2000000 * 1000 := Nat.mul_le_mul hb hbb
      omega)
    refine ⟨v', w', hr, ?_, ((Bel.refl W).ch (fun _ => False)).grown q2 (fun k hk => by cases hk) |>.below (Nat.le_refl _) (fun _ h => h.elim)⟩
    unfold El.O
    rw [E69.fl_app, List.length_append]
    exact q1
section
variable {W : World} {n : Nat} {s : PP} {x : Px}
set_option maxRecDepth 100000 in
set_option maxHeartbeats 1000000 in
/-- The members as of the last entry. -/
theorem memb_any (hb : Sl E3 W x.aB (mem n)) (hl : Sl E69 W x.aL s.log) (hk2 : ∀ e ∈ s.log, e.k ≠ 2) (hlen : s.log.length ≤ 1000000) (hcap : s.log.length ≤ x.cL) (hn : n ≤ 64) : Calls Tryz.prog 156 #[.agg (pc n s x), .int .u64 (s.log.length : Int)] W fun e w' => ∃ a' c', e = .returned (.slice a' n c') ∧ E3.O W.heap.size w' (.slice a' n c') (mem n) ∧ Bel W w' := by
  have H1 : Hid (∀ w1, Bel W w1 → Calls Tryz.prog 122 #[.agg (pc n s x), .int .u64 (s.log.length : Int)] w1 fun e w' => e = .returned (.tuple #[.int .i64 (s.log.length : Int), .bool true]) ∧ Bel w1 w') := hide (fun w1 _ => behind_in (Nat.le_refl _) hlen)
  have H2 : Hid (∀ w1, Bel W w1 → Calls Tryz.prog 115 #[.agg (pc n s x), .int .i64 (s.log.length : Int)] w1 fun e w' => e = .returned (.slice x.aB n x.cB) ∧ Bel w1 w') := hide (fun w1 hbb => members_any (hl.bel hbb) hk2 hlen hcap)
  have H3 : Hid (∀ w1, Bel W w1 → Calls Tryz.prog 82 #[.slice x.aB n x.cB] w1 fun e w' => ∃ a' c', e = .returned (.slice a' n c') ∧ E3.O w1.heap.size w' (.slice a' n c') (mem n) ∧ Bel w1 w') := hide (fun w1 hbb => clone3 (mem_len n) (hb.bel hbb) (by omega))
  clear hb hl hk2 hlen hcap hn
  generalize s.log.length = m at *
  go_enter Tryz.func156, Tryz.ntmps156
  go_wp2_with (first
    | go_skip
    | go_guarded
    | (refine bx_box rfl 56 _ rfl (pc n s x) rfl ?_; intro b w0 hr0 hs0 hb0; have HR0 := hide hr0; have HB0 := hide hb0; clear hr0 hs0 hb0)
    | (refine bx_ldG rfl 56 _ rfl b rfl (pc n s x) _ (unhide HR0) Tryz.underlying56 (Tryz.size32 _ _ _) ?_)
    | (go_at_call 122; refine ((unhide H1) _ (unhide HB0)).mono ?_; rintro e w1 ⟨rfl, hb1⟩; have HR0 := hide (hb1.row (unhide HR0)); have HB0 := hide ((unhide HB0).trans hb1); clear hb1)
    | (go_at_call 115; refine ((unhide H2) _ (unhide HB0)).mono ?_; rintro e w1 ⟨rfl, hb1⟩; have HR0 := hide (hb1.row (unhide HR0)); have HB0 := hide ((unhide HB0).trans hb1); clear hb1)
    | (go_at_call 82; refine ((unhide H3) _ (unhide HB0)).mono ?_; rintro e w2 ⟨a', c', rfl, ho, hb2⟩; have HF := hide (And.intro (ho.mono (unhide HB0).size) ((unhide HB0).trans hb2)); clear ho hb2))
  go_ret
  exact ⟨_, _, rfl, (unhide HF).1, (unhide HF).2⟩
end
end Go.Proofs.YthipgcojbhcdgaaGreat
