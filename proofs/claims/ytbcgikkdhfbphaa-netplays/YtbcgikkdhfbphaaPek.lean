/- Len, Peek. -/
import Derived.Test.YtbcgikkdhfbphaaNew
namespace Go.Proofs.Ytbcgikkdhfbphaa
open Go.RowKit Go.Maps
theorem zero87 (W : World) : (zeroValue 87).run Try.prog W = .ok (.slice none 0 0) W := by go_simp
theorem PN.may.wf {s : PN} {a : Int} (h : s.may a) (hf : s.ms.length ≤ 64) : (Lit.int .i64 a).wf = true := wfI (by have := h.1; omega) (by have := h.2; omega)
theorem Nt.key {C : Nat} {w : World} {p : Nat} {s : PN} {M : Nat → Prop} (h : Nt C w p s M) {a b : Int} (ha : s.may a) (hb : s.may b) : KeyOK 86 (lk (a, b)) := key86 _ (ha.wf h.few) (hb.wf h.few)
/-- A link's list. -/
theorem Cn.list {w : World} {p bm cm bl n : Nat} {f : Int × Int → Option Value} {s : PN} {M : Nat → Prop} (h : Cn w p bm cm bl n f s M) (x : Int × Int) : ∃ ad cap g off, (f x).getD (.slice none 0 0) = .slice ad (qs s.L x.1 x.2).length cap ∧ ((qs s.L x.1 x.2).length ≠ 0 → ad = some ⟨g, off, none⟩ ∧ SR w g off cap (qs s.L x.1 x.2)) := by
  cases hf : f x with
  | none => exact ⟨none, 0, 0, 0, by rw [h.no x hf]; rfl, fun h0 => by rw [h.no x hf] at h0; exact absurd rfl h0⟩
  | some v =>
    obtain ⟨g, off, cap, rfl, h1, _, _⟩ := h.yes x v hf
    exact ⟨_, cap, g, off, rfl, fun _ => ⟨rfl, h1⟩⟩
theorem Nt.look {C : Nat} {w : World} {p : Nat} {s : PN} {M : Nat → Prop} (h : Nt C w p s M) {a b : Int} (ha : s.may a) (hb : s.may b) : ∃ bl ad cap g off, w.cell? ⟨p, 1, none⟩ = some (.map (some bl)) ∧ (Instr.lookup 68 (.map (some bl)) (.agg #[.int .i64 a, .int .i64 b]) false).run Try.prog w = .ok (.slice ad (qs s.L a b).length cap) w ∧ ((qs s.L a b).length ≠ 0 → ad = some ⟨g, off, none⟩ ∧ SR w g off cap (qs s.L a b)) := by
  obtain ⟨bm, cm, bl, n, f, h1, h2⟩ := h.co
  obtain ⟨ad, cap, g, off, e1, e2⟩ := h1.list (a, b)
  refine ⟨bl, ad, cap, g, off, cell_of h1.row, ?_, e2⟩
  have := h1.mg.look (Keyed.of_law K86) Try.underlying68 (zero87 w) (h.key ha hb)
  rw [e1] at this
  exact this
/-- How many messages a link has; 0 of no machines. -/
def PN.lenL (s : PN) (a b : Int) : Int := if s.mayB a && s.mayB b then ((qs s.L a b).length : Int) else 0
theorem mayBB {s : PN} {a b : Int} : (s.mayB a && s.mayB b) = true ↔ s.may a ∧ s.may b := by rw [Bool.and_eq_true, mayB_iff, mayB_iff]
set_option maxRecDepth 100000 in
theorem lenL_any {C : Nat} {w : World} {p : Nat} {s : PN} {M : Nat → Prop} (h : Nt C w p s M) (a b : Int) : Calls Try.prog 25 #[.pointer (some ⟨p, 0, none⟩), .int .i64 a, .int .i64 b] w fun e w' => e = .returned (.int .i64 (s.lenL a b)) ∧ Bel w w' := by
  have HF := hide (fault2 h a b)
  have hbel := (Bel.refl w).alloc (.cells #[.int .i64 a, .int .i64 b] 3)
  have HB := hide hbel
  unfold PN.lenL
  by_cases hm : s.may a ∧ s.may b
  · rw [flt2_ok hm.1 hm.2] at HF
    rw [if_pos (mayBB.2 hm)]
    obtain ⟨bl, ad, cap, g, off, c1, hlk, _⟩ := (h.bel hbel).look hm.1 hm.2
    generalize (qs s.L a b).length = q at *
    clear h hm hbel
    go_enter Try.func25, Try.ntmps25
    go_wp2_with (first
      | (go_at_call 37; refine (unhide HF).mono ?_; rintro e w9 ⟨rfl, hw9⟩; rw [hw9]; clear hw9))
    go_ret
    exact ⟨rfl, unhide HB⟩
  · rw [flt2_no hm] at HF
    rw [if_neg (fun h => hm (mayBB.1 h))]
    clear h hm hbel
    go_enter Try.func25, Try.ntmps25
    go_wp2_with (first
      | (go_at_call 37; refine (unhide HF).mono ?_; rintro e w9 ⟨rfl, hw9⟩; rw [hw9]; clear hw9))
    go_ret
    exact ⟨rfl, unhide HB⟩
/-- What Peek answers. -/
def PN.peek (s : PN) (a b i : Int) : ByteArray × Int := if s.mayB a && s.mayB b then (if 0 ≤ i ∧ i < ((qs s.L a b).length : Int) then ((qs s.L a b)[i.toNat]?.getD ⟨#[]⟩, 0) else (⟨#[]⟩, 5)) else (⟨#[]⟩, 2)
theorem peek_arg {s : PN} {a b : Int} (i : Int) (h : ¬ (s.may a ∧ s.may b)) : s.peek a b i = (⟨#[]⟩, 2) := if_neg (fun h' => h (mayBB.1 h'))
theorem peek_none {s : PN} {a b i : Int} (h : s.may a ∧ s.may b) (hi : ¬ (0 ≤ i ∧ i < ((qs s.L a b).length : Int))) : s.peek a b i = (⟨#[]⟩, 5) := by unfold PN.peek; rw [if_pos (mayBB.2 h), if_neg hi]
theorem peek_yes {s : PN} {a b : Int} (h : s.may a ∧ s.may b) {k : Nat} (hk : k < (qs s.L a b).length) : s.peek a b k = ((qs s.L a b)[k], 0) := by
  unfold PN.peek
  rw [if_pos (mayBB.2 h), if_pos ⟨by omega, by omega⟩, Int.toNat_natCast, List.getElem?_eq_getElem hk]
  rfl
set_option maxRecDepth 100000 in
theorem peek_any {C : Nat} {w : World} {p : Nat} {s : PN} {M : Nat → Prop} (h : Nt C w p s M) (a b i : Int) : Calls Try.prog 18 #[.pointer (some ⟨p, 0, none⟩), .int .i64 a, .int .i64 b, .int .i64 i] w fun e w' => e = .returned (.tuple #[.string (s.peek a b i).1, .int .i64 (s.peek a b i).2]) ∧ Bel w w' := by
  have HF := hide (fault2 h a b)
  have hbel := (Bel.refl w).alloc (.cells #[.int .i64 a, .int .i64 b] 3)
  have HB := hide hbel
  by_cases hm : s.may a ∧ s.may b
  · rw [flt2_ok hm.1 hm.2] at HF
    obtain ⟨bl, ad, cap, g, off, c1, hlk, hsr⟩ := (h.bel hbel).look hm.1 hm.2
    by_cases h0 : i < 0
    · rw [peek_none hm (by omega)]
      generalize (qs s.L a b).length = q at *
      clear h hm hbel hsr
      go_enter Try.func18, Try.ntmps18
      go_wp2_with (first
        | (go_at_call 37; refine (unhide HF).mono ?_; rintro e w9 ⟨rfl, hw9⟩; rw [hw9]; clear hw9))
      go_ret2
      exact ⟨rfl, unhide HB⟩
    · by_cases h1 : ((qs s.L a b).length : Int) ≤ i
      · rw [peek_none hm (by omega)]
        generalize (qs s.L a b).length = q at *
        clear h hm hbel hsr
        go_enter Try.func18, Try.ntmps18
        go_wp2_with (first
          | (go_at_call 37; refine (unhide HF).mono ?_; rintro e w9 ⟨rfl, hw9⟩; rw [hw9]; clear hw9))
        go_ret2
        exact ⟨rfl, unhide HB⟩
      · obtain ⟨k, rfl⟩ : ∃ k : Nat, i = (k : Int) := ⟨i.toNat, by omega⟩
        have hk : k < (qs s.L a b).length := by omega
        obtain ⟨rfl, hs⟩ := hsr (by omega)
        have hc := hs.cell hk
        rw [peek_yes hm hk]
        generalize (qs s.L a b)[k] = t at *
        generalize (qs s.L a b).length = q at *
        have h1' : (k : Int) < q := by omega
        clear h hm hbel hsr hs h1
        go_enter Try.func18, Try.ntmps18
        go_wp2_with (first
          | (go_at_call 37; refine (unhide HF).mono ?_; rintro e w9 ⟨rfl, hw9⟩; rw [hw9]; clear hw9))
        go_ret2
        exact ⟨rfl, unhide HB⟩
  · rw [flt2_no hm] at HF
    rw [peek_arg i hm]
    clear h hm hbel
    go_enter Try.func18, Try.ntmps18
    go_wp2_with (first
      | (go_at_call 37; refine (unhide HF).mono ?_; rintro e w9 ⟨rfl, hw9⟩; rw [hw9]; clear hw9))
    go_ret2
    exact ⟨rfl, unhide HB⟩
end Go.Proofs.Ytbcgikkdhfbphaa
