/- What is asked of a wal: gone, First, Next, At, file, start. -/
import Derived.Test.YtgimciacapfbfaaGreatDoorWal
namespace Go.Proofs.YtgimciacapfbfaaGreatDoor
open Go.RowKit Go.Maps Go.WideMaps
theorem Bel.drewN {a b : World} (h : Bel a b) (n : Nat) : Bel a (b.drewN n) := ⟨h.os, h.tape, h.output, h.size, h.block⟩
/-- A wal that is there. -/
structure Is (x : PW) : Prop where
  nm : x.nm ≠ []
  fi : x.first ≤ 100000
  le : x.rs.length ≤ 100000
theorem gone_nil (w : World) : Calls Tryz.prog 24 #[.pointer none] w fun e w' => e = .returned (.bool true) ∧ w' = w := by
  go_enter Tryz.func24, Tryz.ntmps24
  go_wp2_with fail
  go_ret
  exact ⟨rfl, rfl⟩
theorem gone_any {W : World} {q p : Nat} {x : PW} {v : Value} (hr : W.heap[q]? = some (.cells #[.pointer (some ⟨p, 0, none⟩), vS x.nm, .int .i64 x.first, .int .i64 x.last, v] 55)) (hne : x.nm ≠ []) : Calls Tryz.prog 24 #[.pointer (some ⟨q, 0, none⟩)] W fun e w' => e = .returned (.bool false) ∧ w' = W := by
  have h1 : W.cell? ⟨q, 1, none⟩ = some (.string ⟨x.nm.toArray⟩) := cell_of hr
  have he : x.nm.isEmpty = false := by cases hx : x.nm with | nil => exact absurd hx hne | cons _ _ => rfl
  clear hr
  go_enter Tryz.func24, Tryz.ntmps24
  go_wp2_with fail
  go_ret
  exact ⟨rfl, rfl⟩
theorem first_nil (w : World) : Calls Tryz.prog 12 #[.pointer none] w fun e w' => e = .returned (.int .i64 0) ∧ w' = w := by
  go_enter Tryz.func12, Tryz.ntmps12
  go_wp2_with (go_at_call 24; refine (gone_nil _).mono ?_; rintro e w1 ⟨rfl, rfl⟩)
  go_ret
  exact ⟨rfl, rfl⟩
theorem next_nil (w : World) : Calls Tryz.prog 13 #[.pointer none] w fun e w' => e = .returned (.int .i64 0) ∧ w' = w := by
  go_enter Tryz.func13, Tryz.ntmps13
  go_wp2_with (go_at_call 24; refine (gone_nil _).mono ?_; rintro e w1 ⟨rfl, rfl⟩)
  go_ret
  exact ⟨rfl, rfl⟩
theorem at_nil (n : Int) (w : World) : Calls Tryz.prog 14 #[.pointer none, .int .i64 n] w fun e w' => e = .returned (.tuple #[.string ⟨#[]⟩, .int .i64 1]) ∧ w' = w := by
  go_enter Tryz.func14, Tryz.ntmps14
  go_wp2_with (go_at_call 24; refine (gone_nil _).mono ?_; rintro e w1 ⟨rfl, rfl⟩)
  go_ret2
  exact ⟨rfl, rfl⟩
theorem first_any {w0 W : World} {C : Nat} {G : Nat → Prop} {q p : Nat} {x : PW} {d : PD} (h : Wa w0 C G W q p x d) (hi : Is x) : Calls Tryz.prog 12 #[.pointer (some ⟨q, 0, none⟩)] W fun e w' => e = .returned (.int .i64 (x.first : Nat)) ∧ w' = W := by
  obtain ⟨a, c, hr, hc, hg⟩ := h.see
  have h24 := hide (gone_any hr hi.nm)
  have h2 : W.cell? ⟨q, 2, none⟩ = some (.int .i64 (x.first : Nat)) := cell_of hr
  clear hr h hg
  go_enter Tryz.func12, Tryz.ntmps12
  go_wp2_with (go_at_call 24; refine (unhide h24).mono ?_; rintro e w1 ⟨rfl, rfl⟩)
  go_ret
  exact ⟨rfl, rfl⟩
theorem next_any {w0 W : World} {C : Nat} {G : Nat → Prop} {q p : Nat} {x : PW} {d : PD} (h : Wa w0 C G W q p x d) (hi : Is x) : Calls Tryz.prog 13 #[.pointer (some ⟨q, 0, none⟩)] W fun e w' => e = .returned (.int .i64 ((x.first + x.rs.length : Nat) : Int)) ∧ Bel W w' := by
  obtain ⟨a, c, hr, hc, hg⟩ := h.see
  have h24 := hide (gone_any hr hi.nm)
  have h2 : W.cell? ⟨q, 2, none⟩ = some (.int .i64 (x.first : Nat)) := cell_of hr
  have h4 : W.cell? ⟨q, 4, none⟩ = some (.slice a x.rs.length c) := cell_of hr
  have hf := hi.fi
  have hl := hi.le
  have hw : wrap64 ((x.first : Int) + (x.rs.length : Int)) = ((x.first + x.rs.length : Nat) : Int) := by unfold wrap64; omega
  clear hr h hg hi
  go_enter Tryz.func13, Tryz.ntmps13
  go_wp2_with (go_at_call 24; refine (unhide h24).mono ?_; rintro e w1 ⟨rfl, rfl⟩)
  go_quiet (fail)
  go_wp2_with fail
  go_ret
  exact ⟨rfl, (Bel.refl _).drewN _⟩
theorem file_any {w0 W : World} {C : Nat} {G : Nat → Prop} {q p : Nat} {x : PW} {d : PD} (h : Wa w0 C G W q p x d) (hi : Is x) (i : Nat) (h1 : x.first ≤ i) (h2 : i ≤ 1000000) : Calls Tryz.prog 50 #[.pointer (some ⟨q, 0, none⟩), .int .i64 i] W fun e w' => e = .returned (.int .i64 ((i - (i - x.first) % 32 : Nat) : Int)) ∧ w' = W := by
  obtain ⟨a, c, hr, hc, hg⟩ := h.see
  have h2' : W.cell? ⟨q, 2, none⟩ = some (.int .i64 (x.first : Nat)) := cell_of hr
  have hf := hi.fi
  rw [show ((i - (i - x.first) % 32 : Nat) : Int) = (i : Int) - ((i : Int) - (x.first : Int)) % 32 by omega]
  clear hr h hg hi
  go_enter Tryz.func50, Tryz.ntmps50
  go_wp2_with fail
  go_ret
  exact ⟨rfl, rfl⟩
/-- The file that has a record. -/
def PW.file (x : PW) (i : Nat) : Nat := i - (i - x.first) % 32
/-- The bytes ahead of a record in its file. -/
def PW.start (x : PW) (i : Nat) : Nat := if i = x.file i then 0 else (x.rs[i - 1 - x.first]?.getD ([], 0)).2
theorem start_any {w0 W : World} {C : Nat} {G : Nat → Prop} {q p : Nat} {x : PW} {d : PD} (h : Wa w0 C G W q p x d) (hi : Is x) (i : Nat) (h1 : x.first ≤ i) (h2 : i ≤ x.first + x.rs.length) : Calls Tryz.prog 41 #[.pointer (some ⟨q, 0, none⟩), .int .i64 i] W fun e w' => e = .returned (.int .i64 (x.start i : Nat)) ∧ Bel W w' := by
  have h50 := hide (file_any h hi i h1 (by have := hi.fi; have := hi.le; omega))
  obtain ⟨a, c, hr, hc, hg⟩ := h.see
  have h2' : W.cell? ⟨q, 2, none⟩ = some (.int .i64 (x.first : Nat)) := cell_of hr
  have h4 : W.cell? ⟨q, 4, none⟩ = some (.slice a x.rs.length c) := cell_of hr
  have hf := hi.fi
  have hl := hi.le
  by_cases he : i = x.file i
  · rw [show x.start i = 0 from if_pos he]
    unfold PW.file at he
    rw [← he] at h50
    clear hr h hg hi h2' h4 he
    go_enter Tryz.func41, Tryz.ntmps41
    go_wp2_with (go_at_call 50; refine (unhide h50).mono ?_; rintro e w1 ⟨rfl, rfl⟩)
    go_ret
    exact ⟨rfl, Bel.refl _⟩
  · have hj : i - 1 - x.first < x.rs.length := by unfold PW.file at he; omega
    have hk : x.first + 1 ≤ i := by unfold PW.file at he; omega
    obtain ⟨g, rfl, g1, g2⟩ := hg _ hj
    rw [show x.start i = x.rs[i - 1 - x.first].2 by unfold PW.start; rw [if_neg he]; simp [hj]]
    have hne : ((i : Int) == ((i - (i - x.first) % 32 : Nat) : Int)) = false := by rw [beq_eq_false_iff_ne]; unfold PW.file at he; omega
    have hlt : i - (i - x.first) % 32 < i := by unfold PW.file at he; omega
    generalize x.rs[i - 1 - x.first] = r at g1 g2 ⊢
    have e1 : IntKind.i64.wrap ((i : Int) - 1) = ((i - 1 : Nat) : Int) := by rw [wrapI (by omega) (by omega)]; omega
    have e2 : IntKind.i64.wrap (((i - 1 : Nat) : Int) - (x.first : Int)) = ((i - 1 - x.first : Nat) : Int) := by rw [wrapI (by omega) (by omega)]; omega
    generalize i - 1 - x.first = j at g1 g2 e2 hj
    generalize i - 1 = i1 at e1 e2
    generalize i - (i - x.first) % 32 = fi at h50 hne hlt
    clear hr h hg hi he g1
    go_enter Tryz.func41, Tryz.ntmps41
    go_wp2_with (go_at_call 50; refine (unhide h50).mono ?_; rintro e w1 ⟨rfl, rfl⟩)
    go_quiet (fail)
    go_wp2_with fail
    go_ret
    exact ⟨rfl, (Bel.refl _).drewN _⟩
theorem at_any {w0 W : World} {C : Nat} {G : Nat → Prop} {q p : Nat} {x : PW} {d : PD} (h : Wa w0 C G W q p x d) (hi : Is x) (i : Nat) (h1 : x.first ≤ i) (h2 : i < x.first + x.rs.length) : Calls Tryz.prog 14 #[.pointer (some ⟨q, 0, none⟩), .int .i64 i] W fun e w' => e = .returned (.tuple #[vS (x.rs[i - x.first]'(by omega)).1, .int .i64 0]) ∧ Bel W w' := by
  have h13 := hide (next_any h hi)
  have H := hide h
  obtain ⟨a, c, hr, hc, hg⟩ := h.see
  have h24 := hide (gone_any hr hi.nm)
  have HR := hide hr
  have h2' : W.cell? ⟨q, 2, none⟩ = some (.int .i64 (x.first : Nat)) := cell_of hr
  have hf := hi.fi
  have hl := hi.le
  have hj : i - x.first < x.rs.length := by omega
  obtain ⟨g, rfl, g1, g2⟩ := hg _ hj
  have hgl : g < W.heap.size := by
    unfold World.cell? at g1
    rcases Nat.lt_or_ge g W.heap.size with h' | h'
    · exact h'
    · rw [show W.heap[g]? = none from Array.getElem?_eq_none h'] at g1; cases g1
  have e2 : IntKind.i64.wrap ((i : Int) - (x.first : Int)) = ((i - x.first : Nat) : Int) := by rw [wrapI (by omega) (by omega)]; omega
  have hge : ¬ ((x.first + x.rs.length : Nat) : Int) ≤ (i : Int) := by omega
  have hge0 : ¬ ((i : Int) < (x.first : Nat)) := by omega
  unfold vS at g1 ⊢
  generalize x.rs[i - x.first] = r at g1 g2 ⊢
  generalize i - x.first = j at g1 g2 e2 hj
  have G1 := hide g1
  generalize x.first + x.rs.length = nx at h13 hge h2
  clear hr h hg hi g2 g1 h1 h2
  go_enter Tryz.func14, Tryz.ntmps14
  go_wp2_with (first
    | (go_at_call 24; refine (unhide h24).mono ?_; rintro e w1 ⟨rfl, rfl⟩)
    | (go_at_call 13; refine (unhide h13).mono ?_; rintro e w1 ⟨rfl, hb1⟩))
  have h2 : w1.cell? ⟨q, 2, none⟩ = some (.int .i64 (x.first : Nat)) := cell_of (hb1.row (unhide HR))
  have h4 : w1.cell? ⟨q, 4, none⟩ = some (.slice (some ⟨g, 0, none⟩) x.rs.length c) := cell_of (hb1.row (unhide HR))
  have g1 := (hb1.cell (p := ⟨g, j * 2, none⟩) hgl).trans (unhide G1)
  go_quiet (fail)
  go_wp2_with fail
  go_ret2
  exact ⟨rfl, hb1.drewN _⟩
theorem at_none {w0 W : World} {C : Nat} {G : Nat → Prop} {q p : Nat} {x : PW} {d : PD} (h : Wa w0 C G W q p x d) (hi : Is x) (i : Nat) (h1 : x.first ≤ i) (h2 : x.first + x.rs.length ≤ i) : Calls Tryz.prog 14 #[.pointer (some ⟨q, 0, none⟩), .int .i64 i] W fun e w' => e = .returned (.tuple #[vS [], .int .i64 5]) ∧ Bel W w' := by
  have h13 := hide (next_any h hi)
  obtain ⟨a, c, hr, hc, hg⟩ := h.see
  have h24 := hide (gone_any hr hi.nm)
  have h2' : W.cell? ⟨q, 2, none⟩ = some (.int .i64 (x.first : Nat)) := cell_of hr
  have hge : ((x.first + x.rs.length : Nat) : Int) ≤ (i : Int) := by omega
  have hge0 : ¬ ((i : Int) < (x.first : Nat)) := by omega
  generalize x.first + x.rs.length = nx at h13 hge h2
  clear hr h hg hi h1 h2
  go_enter Tryz.func14, Tryz.ntmps14
  go_wp2_with (first
    | (go_at_call 24; refine (unhide h24).mono ?_; rintro e w1 ⟨rfl, rfl⟩)
    | (go_at_call 13; refine (unhide h13).mono ?_; rintro e w1 ⟨rfl, hb1⟩))
  go_ret2
  exact ⟨rfl, hb1⟩
end Go.Proofs.YtgimciacapfbfaaGreatDoor
