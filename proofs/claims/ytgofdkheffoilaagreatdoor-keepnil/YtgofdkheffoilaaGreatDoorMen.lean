/- mayEntries, mayNumbers, mayLog of members that may be. -/
import Derived.Test.YtgofdkheffoilaaGreatDoorLas
import Derived.Test.YtgofdkheffoilaaGreatDoorBox
namespace Go.Proofs.YtgofdkheffoilaaGreatDoor
open Go.RowKit Go.Maps
set_option maxRecDepth 100000 in
set_option maxHeartbeats 1000000 in
theorem entries_ok {W : World} {a : Option Addr} {l : List PE} (h : Sl E69 W a l) (cap : Nat) {t lo : Int} (hl : Lg t l) (hlo : ∀ x ∈ l, lo ≤ x.t) (hn : l.length ≤ 1000000) : Calls Tryz.prog 70 #[.slice a l.length cap, .int .u64 lo, .int .u64 t] W fun e w' => e = .returned (.bool true) ∧ Bel W w' := by
  obtain ⟨g, off, hg, hR⟩ := h
  generalize hn2 : l.length = n at *
  have HN := hide hn2
  have HG := hide hg
  have HR := hide hR
  have HL := hide hl
  have HO := hide hlo
  clear hn2 hg hR hl hlo
  go_enter Tryz.func70, Tryz.ntmps70
  go_wp2_with fail
  go_loopw [1, 11] (fun vb vk wr => ∃ (k : Nat) (b : Int), k ≤ n ∧ vk = .int .i64 k ∧ vb = .int .u64 b ∧ Bel W wr ∧ Hid (∀ x ∈ l.drop k, b ≤ x.t)) (fun _ vk _ => n - (intOf vk).toNat)
  case atStart => exact ⟨0, lo, Nat.zero_le _, rfl, rfl, Bel.refl _, hide (fun x hx => (unhide HO) x (List.mem_of_mem_drop hx))⟩
  case round =>
    obtain ⟨k, b, hk, rfl, rfl, hb, HE⟩ := hrel
    by_cases hlt : k < n
    · have hkl : k < l.length := by rw [unhide HN]; exact hlt
      obtain rfl := (unhide HG) (by omega)
      have hkn : (k : Int) < n := by omega
      obtain ⟨r0, r1, r2, r3⟩ := E69_cell (unhide HR) k hkl
      have r0 := hb.cell r0
      have r1 := hb.cell r1
      have r2 := hb.cell r2
      have r3 := hb.cell r3
      have hx := ((unhide HL).2 _ (List.getElem_mem hkl)).1
      have HC := hide (entry_any l[k] ((unhide HL).2 _ (List.getElem_mem hkl)).2)
      have hbx : b ≤ l[k].t := (unhide HE) _ (by rw [List.drop_eq_getElem_cons hkl]; exact List.mem_cons_self)
      have HF : Hid (∀ x ∈ l.drop (k + 1), l[k].t ≤ x.t) := hide (fun x hx => by
        have h1 := (unhide HL).1
        rw [← List.take_append_drop k l, List.pairwise_append] at h1
        have h2 := h1.2.1
        rw [List.drop_eq_getElem_cons hkl, List.pairwise_cons] at h2
        exact h2.1 x hx)
      generalize l[k] = x at *
      have h1 : (x.t == 0) = false := beq_eq_false_iff_ne.2 (by omega)
      have h2 : ¬ (x.t < b) := by omega
      have h3 : ¬ (t < x.t) := by omega
      unfold encE at HC
      have HB := hide hb
      clear hb hx hbx
      go_wp2_with (first
        | (go_at_call 103; refine ((unhide HC) _).mono ?_; rintro e w9 ⟨rfl, hb9⟩; have HB9 := hide hb9; have c0 : w9.cell? ⟨wr.heap.size, 0, none⟩ = some (.int .u64 x.t) := cell_of (hb9.row (at_new wr _)); clear hb9))
      go_roundw
      case rel => exact ⟨k + 1, x.t, by omega, by go_num, rfl, ((unhide HB).alloc _).trans (unhide HB9), HF⟩
      case measure => simp [intOf]; omega
    · obtain rfl : k = n := by omega
      have HB := hide hb
      clear hb
      go_wp2_with fail
      go_ret
      exact ⟨rfl, unhide HB⟩
set_option maxRecDepth 100000 in
set_option maxHeartbeats 1000000 in
theorem numbers_ok {W : World} {n T G : Nat} {s : PP} (x : Px) (h : Ok n T G s) (hn : n ≤ 64) (hT : T ≤ 1000000) : Calls Tryz.prog 39 #[.agg (pc n s x)] W fun e w' => e = .returned (.bool true) ∧ Bel W w' := by
  have e1 : idB s.id = true := by have := h.id1; have := h.idn; simp [idB]; omega
  have e2 : noneB s.vote = true := by have := h.vote; simp [noneB, idB]; omega
  have e3 : noneB s.lead = true := by have := h.lead; simp [noneB, idB]; omega
  have e4 : s.role ≤ 2 := by rcases h.role with ⟨e, _⟩ | ⟨e, _⟩ | ⟨e, _⟩ <;> omega
  have e5 : s.term ≤ 4611686018427387904 := by have := h.tT; omega
  have e6 : 0 < s.wait := by have := h.wait; omega
  have e7 : s.wait ≤ 1073741824 := by have := h.wait; omega
  have e8 : 0 ≤ s.idle := h.idle.1
  have e9 : s.idle ≤ 1073741824 := by have := h.idle; omega
  have H1 := hide (isId_any s.id)
  rw [e1] at H1
  have H2 : Hid (∀ (y : Int) (W : World), noneB y = true → Calls Tryz.prog 68 #[.int .i64 y] W fun e w' => e = .returned (.bool true) ∧ w' = W) := hide (fun y W hy => by have := none_any y W; rwa [hy] at this)
  clear h hn hT e1
  unfold pc
  go_enter Tryz.func39, Tryz.ntmps39
  go_wp2_with (first
    | (go_at_call 67; refine ((unhide H1) _).mono ?_; rintro e w9 ⟨rfl, hw9⟩; rw [hw9]; clear hw9)
    | (go_at_call 68; refine ((unhide H2) _ _ (by assumption)).mono ?_; rintro e w9 ⟨rfl, hw9⟩; rw [hw9]; clear hw9))
  go_ret
  exact ⟨rfl, (Bel.refl W).alloc _⟩
set_option maxRecDepth 100000 in
set_option maxHeartbeats 1000000 in
theorem log_ok {W : World} {n T G : Nat} {s : PP} {x : Px} (hx : Sl E69 W x.aL s.log) (h : Ok n T G s) (hG : G ≤ 1000000) : Calls Tryz.prog 40 #[.agg (pc n s x)] W fun e w' => e = .returned (.bool true) ∧ Bel W w' := by
  have hgl := h.glen
  have H1 : Hid (∀ W', Bel W W' → Calls Tryz.prog 69 #[.agg (pc n s x)] W' fun e w' => e = .returned (.tuple #[.int .u64 s.lastI, .int .u64 s.lastT]) ∧ Bel W' w') := hide (fun W' hb => last_any (hx.bel hb) (by omega))
  have H2 : Hid (∀ W', Bel W W' → Calls Tryz.prog 70 #[.slice x.aL s.log.length x.cL, .int .u64 0, .int .u64 s.term] W' fun e w' => e = .returned (.bool true) ∧ Bel W' w') := hide (fun W' hb => entries_ok (hx.bel hb) _ h.log (fun y hy => by have := (h.log.2 y hy).1; omega) (by omega))
  have h0 := h.t0
  have hI : 0 ≤ s.lastI := by unfold PP.lastI; omega
  have hcm : (s.commit : Int) ≤ s.lastI := by have := h.com; unfold PP.lastI; omega
  have hcm0 : (0 : Int) ≤ s.commit := by omega
  clear h hx hgl
  generalize s.lastI = i at *
  generalize s.lastT = t at *
  go_enter Tryz.func40, Tryz.ntmps40
  go_wp2_with (first
    | (refine bx_box rfl 29 _ rfl (pc n s x) rfl ?_; intro b w0 hr0 hs0 hb0; have HR0 := hide hr0; have HB0 := hide hb0; clear hr0 hs0 hb0)
    | (refine bx_ld rfl 29 _ rfl b rfl (pc n s x) _ (unhide HR0) Tryz.underlying29 (Tryz.size32 n s x) ?_)
    | (go_at_call 69; refine ((unhide H1) _ (unhide HB0)).mono ?_; rintro e w1 ⟨rfl, hb1⟩; obtain ⟨y0, y1, y2, y3, y4, y5, y6, y7, y8, y9, y10, y11, y12, y13, y14, y15, y16, y17⟩ := Bx.of (hb1.row (unhide HR0)); have HB1 := hide ((unhide HB0).trans hb1); clear hb1)
    | (go_at_call 70; refine ((unhide H2) _ (unhide HB1)).mono ?_; rintro e w2 ⟨rfl, hb2⟩; have y26 := hb2.cell y6; have y211 := hb2.cell y11; have HB2 := hide ((unhide HB1).trans hb2); clear hb2))
  go_ret
  exact ⟨rfl, unhide HB2⟩
end Go.Proofs.YtgofdkheffoilaaGreatDoor
