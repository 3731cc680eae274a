/- MayMsg of messages of logs. -/
import Derived.Test.YthipgcojbhcdgaaGreatMsg
import Derived.Test.YthipgcojbhcdgaaGreatNmen
import Derived.Test.YthipgcojbhcdgaaGreatLpn
namespace Go.Proofs.YthipgcojbhcdgaaGreat
open Go.RowKit Go.Maps Go.Sort
/-- A message's cells; where its entries lie. -/
def qc (m : QM) (a : Option Addr) (c : Nat) : Array Value := #[.int .u8 m.kind, .int .i64 m.frm, .int .i64 m.to, .int .u64 m.term, .int .u64 m.index, .int .u64 m.lterm, .int .u64 m.commit, .int .u64 0, .bool m.ok, .slice a m.ents.length c, .slice none 0 0, .string ⟨#[]⟩]
theorem qc_size (m : QM) (a : Option Addr) (c : Nat) : (qc m a c).size = 12 := rfl
theorem qc_one (m : QM) (a : Option Addr) (c : Nat) : (qc m a c).all (·.oneCell') = true := by simp [qc, Value.oneCell']
theorem Tryz.sizeq (m : QM) (a : Option Addr) (c : Nat) : (Tryz.prog.info? 27).map (·.size) = some (qc m a c).size := by rw [qc_size]; kernel_rfl
/-- A message of votes, as any. -/
theorem mc_q (m : PM) (h : 0 ≤ m.index) : mc m = qc m.q none 0 := by
  unfold mc encM qc PM.q
  simp
  omega
/-- Rows of messages. -/
def E27q : El (QM × Option Addr × Nat) := { enc := fun q => (qc q.1 q.2.1 q.2.2).toList, k := 12, e := 27, t := 49, bytes := 136, z := .agg #[.int .u8 0, .int .i64 0, .int .i64 0, .int .u64 0, .int .u64 0, .int .u64 0, .int .u64 0, .int .u64 0, .bool false, .slice none 0 0, .slice none 0 0, .string ⟨#[]⟩], hk := by decide, len := fun _ => rfl, one := fun x u hu => by simp [qc] at hu; rcases hu with rfl | rfl | rfl | rfl | rfl | rfl | rfl | rfl | rfl | rfl | rfl | rfl <;> rfl, ht := Tryz.underlying49, hi := by kernel_rfl, hz := rfl, hb := by decide }
/-- Block b holds this message. -/
structure Bq (W : World) (b : Nat) (m : QM) (a : Option Addr) (c : Nat) : Prop where
  c0 : W.cell? ⟨b, 0, none⟩ = some (.int .u8 m.kind)
  c1 : W.cell? ⟨b, 1, none⟩ = some (.int .i64 m.frm)
  c2 : W.cell? ⟨b, 2, none⟩ = some (.int .i64 m.to)
  c3 : W.cell? ⟨b, 3, none⟩ = some (.int .u64 m.term)
  c4 : W.cell? ⟨b, 4, none⟩ = some (.int .u64 m.index)
  c5 : W.cell? ⟨b, 5, none⟩ = some (.int .u64 m.lterm)
  c6 : W.cell? ⟨b, 6, none⟩ = some (.int .u64 m.commit)
  c7 : W.cell? ⟨b, 7, none⟩ = some (.int .u64 0)
  c8 : W.cell? ⟨b, 8, none⟩ = some (.bool m.ok)
  c9 : W.cell? ⟨b, 9, none⟩ = some (.slice a m.ents.length c)
  c10 : W.cell? ⟨b, 10, none⟩ = some (.slice none 0 0)
  c11 : W.cell? ⟨b, 11, none⟩ = some (.string ⟨#[]⟩)
theorem Bq.of {W : World} {b : Nat} {m : QM} {a : Option Addr} {c : Nat} (h : W.heap[b]? = some (.cells (qc m a c) 27)) : Bq W b m a c :=
  ⟨(cell_of h).trans rfl, (cell_of h).trans rfl, (cell_of h).trans rfl, (cell_of h).trans rfl, (cell_of h).trans rfl, (cell_of h).trans rfl, (cell_of h).trans rfl, (cell_of h).trans rfl, (cell_of h).trans rfl, (cell_of h).trans rfl, (cell_of h).trans rfl, (cell_of h).trans rfl⟩
/-- A message of entries, or an answer to one, that may be. -/
structure QOk (n T G : Nat) (m : QM) : Prop where
  kind : m.kind = 3 ∨ m.kind = 4
  f : 1 ≤ m.frm ∧ m.frm ≤ n
  t : 1 ≤ m.to ∧ m.to ≤ n
  ne : m.frm ≠ m.to
  term : 1 ≤ m.term ∧ m.term ≤ T
  index : m.index ≤ G
  lterm : 0 ≤ m.lterm ∧ m.lterm ≤ m.term
  com : m.commit ≤ G
  lay : m.kind = 3 → m.ok = false ∧ (m.index = 0 ↔ m.lterm = 0) ∧ m.ents.length ≤ 16 ∧ Lg m.term m.ents ∧ ∀ x ∈ m.ents, m.lterm ≤ x.t
  hrd : m.kind = 4 → m.lterm = 0 ∧ m.commit = 0 ∧ m.ents = []
theorem QOk.mono {n T G T' G' : Nat} {m : QM} (h : QOk n T G m) (hT : T ≤ T') (hG : G ≤ G') : QOk n T' G' m := { h with term := by have := h.term; omega, index := by have := h.index; omega, com := by have := h.com; omega }
section
variable {W : World} {n T G : Nat} {m : QM} {a : Option Addr} {c : Nat}
set_option maxRecDepth 100000 in
set_option maxHeartbeats 1000000 in
theorem qhead_ok (h : QOk n T G m) (hn : n ≤ 64) (hT : T ≤ 1000000) : Calls Tryz.prog 54 #[.agg (qc m a c)] W fun e w' => e = .returned (.bool true) ∧ Bel W w' := by
  have e1 : idB m.frm = true := by have := h.f; simp [idB]; omega
  have e2 : idB m.to = true := by have := h.t; simp [idB]; omega
  have e3 : 0 < m.kind := by rcases h.kind with e | e <;> omega
  have e4 : m.kind ≤ 5 := by rcases h.kind with e | e <;> omega
  have e5 : (m.frm != m.to) = true := by simp [h.ne]
  have e6 : 0 < m.term := by have := h.term; omega
  have e7 : m.term ≤ 4611686018427387904 := by have := h.term; omega
  have H1 : Hid (∀ (y : Int) (W : World), idB y = true → Calls Tryz.prog 95 #[.int .i64 y] W fun e w' => e = .returned (.bool true) ∧ w' = W) := hide (fun y W hy => by have := isId_any y W; rwa [hy] at this)
  clear h hn hT
  go_enter Tryz.func54, Tryz.ntmps54
  go_wp2_with (first
    | (refine bx_box rfl 27 _ rfl (qc m a c) rfl ?_; intro b w0 hr0 hs0 hb0; obtain ⟨y0, y1, y2, y3, y4, y5, y6, y7, y8, y9, y10, y11⟩ := Bq.of hr0; have HB0 := hide hb0; clear hr0 hs0 hb0)
    | (go_at_call 95; refine ((unhide H1) _ _ (by assumption)).mono ?_; rintro e w9 ⟨rfl, hw9⟩; rw [hw9]; clear hw9))
  go_ret
  exact ⟨rfl, unhide HB0⟩
set_option maxRecDepth 100000 in
set_option maxHeartbeats 1000000 in
theorem qplace_ok (h : QOk n T G m) (hG : G ≤ 1000000) : Calls Tryz.prog 55 #[.agg (qc m a c)] W fun e w' => e = .returned (.bool true) ∧ Bel W w' := by
  have e1 : ¬ ((4611686018427387904 : Int) < (m.index : Int)) := by have := h.index; omega
  have e2 : ¬ (m.term < m.lterm) := by have := h.lterm; omega
  obtain ⟨ix, hix⟩ : ∃ ix : Int, (m.index : Int) = ix := ⟨_, rfl⟩
  have HIX := hide hix
  rw [hix] at e1
  rcases h.kind with hk | hk
  · have k1 : (m.kind == 1) = false := by simp [hk]
    have k3 : (m.kind == 3) = true := by simp [hk]
    have hz := (h.lay hk).2.1
    have hz2 : ix = 0 ↔ m.lterm = 0 := by omega
    cases hi : (ix == 0) with
    | true =>
      have hl : (m.lterm == 0) = true := by simp at hi ⊢; exact hz2.1 hi
      clear h hG hz hz2 hk hix
      go_enter Tryz.func55, Tryz.ntmps55
      go_wp2_with (first
        | (refine bx_box rfl 27 _ rfl (qc m a c) rfl ?_; intro b w0 hr0 hs0 hb0; obtain ⟨y0, y1, y2, y3, y4, y5, y6, y7, y8, y9, y10, y11⟩ := Bq.of hr0; rw [unhide HIX] at y4; have HB0 := hide hb0; clear hr0 hs0 hb0))
      go_ret
      exact ⟨rfl, unhide HB0⟩
    | false =>
      have hl : (m.lterm == 0) = false := by simp at hi ⊢; exact fun e => hi (hz2.2 e)
      clear h hG hz hz2 hk hix
      go_enter Tryz.func55, Tryz.ntmps55
      go_wp2_with (first
        | (refine bx_box rfl 27 _ rfl (qc m a c) rfl ?_; intro b w0 hr0 hs0 hb0; obtain ⟨y0, y1, y2, y3, y4, y5, y6, y7, y8, y9, y10, y11⟩ := Bq.of hr0; rw [unhide HIX] at y4; have HB0 := hide hb0; clear hr0 hs0 hb0))
      go_ret
      exact ⟨rfl, unhide HB0⟩
  · have k1 : (m.kind == 1) = false := by simp [hk]
    have k3 : (m.kind == 3) = false := by simp [hk]
    have k5 : (m.kind == 5) = false := by simp [hk]
    clear h hG hk hix
    go_enter Tryz.func55, Tryz.ntmps55
    go_wp2_with (first
      | (refine bx_box rfl 27 _ rfl (qc m a c) rfl ?_; intro b w0 hr0 hs0 hb0; obtain ⟨y0, y1, y2, y3, y4, y5, y6, y7, y8, y9, y10, y11⟩ := Bq.of hr0; rw [unhide HIX] at y4; have HB0 := hide hb0; clear hr0 hs0 hb0))
    go_ret
    exact ⟨rfl, unhide HB0⟩
set_option maxRecDepth 100000 in
set_option maxHeartbeats 1000000 in
theorem qlists_ok (h : QOk n T G m) (hs : Sl E69 W a m.ents) : Calls Tryz.prog 56 #[.agg (qc m a c)] W fun e w' => e = .returned (.bool true) ∧ Bel W w' := by
  rcases h.kind with hk | hk
  · have k3 : (m.kind == 3) = true := by simp [hk]
    obtain ⟨_, _, l1, l2, l3⟩ := h.lay hk
    have HE : Hid (∀ w1, Bel W w1 → Calls Tryz.prog 96 #[.slice a m.ents.length c, .int .u64 m.lterm, .int .u64 m.term] w1 fun e w' => e = .returned (.bool true) ∧ Bel w1 w') := hide (fun w1 hb => entries_ok (hs.bel hb) c l2 l3 (by omega))
    have l1' : (m.ents.length : Int) ≤ 16 := by omega
    clear h hk hs l1 l2 l3
    obtain ⟨ne, hne⟩ : ∃ ne, m.ents.length = ne := ⟨_, rfl⟩
    rw [hne] at HE l1'
    have HNE := hide hne
    clear hne
    go_enter Tryz.func56, Tryz.ntmps56
    go_wp2_with (first
      | go_skip
      | go_guarded
      | (refine bx_box rfl 27 _ rfl (qc m a c) rfl ?_; intro b w0 hr0 hs0 hb0; obtain ⟨y0, y1, y2, y3, y4, y5, y6, y7, y8, y9, y10, y11⟩ := Bq.of hr0; rw [unhide HNE] at y9; have HB0 := hide hb0; clear hr0 hs0 hb0)
      | (go_at_call 96; refine ((unhide HE) _ (unhide HB0)).mono ?_; rintro e w1 ⟨rfl, hb1⟩; have HB1 := hide ((unhide HB0).trans hb1); clear hb1))
    go_ret
    exact ⟨rfl, unhide HB1⟩
  · have k3 : (m.kind == 3) = false := by simp [hk]
    have k5 : (m.kind == 5) = false := by simp [hk]
    clear h hk hs
    go_enter Tryz.func56, Tryz.ntmps56
    go_wp2_with (first
      | (refine bx_box rfl 27 _ rfl (qc m a c) rfl ?_; intro b w0 hr0 hs0 hb0; obtain ⟨y0, y1, y2, y3, y4, y5, y6, y7, y8, y9, y10, y11⟩ := Bq.of hr0; have HB0 := hide hb0; clear hr0 hs0 hb0))
    go_ret
    exact ⟨rfl, unhide HB0⟩
end
end Go.Proofs.YthipgcojbhcdgaaGreat
