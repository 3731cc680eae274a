/- The program's reader: NewReader, fail, Num, numUpTo, Id, Ended. -/
import Derived.Test.YtgofdkheffoilaaGreatCdc
import Derived.Test.YtgofdkheffoilaaGreatBox
namespace Go.Proofs.YtgofdkheffoilaaGreat
open Go.RowKit Go.Maps
/-- A reader in memory: what is left, and whether something was not there. -/
def Rst (W : World) (b : Nat) (s : ByteArray) (f : Bool) : Prop := W.heap[b]? = some (.cells #[.string s, .bool f] 114)
theorem Rst.bel {W W' : World} {b : Nat} {s : ByteArray} {f : Bool} (h : Rst W b s f) (hb : Bel W W') : Rst W' b s f := Bel.row hb h
theorem Rst.c0 {W : World} {b : Nat} {s : ByteArray} {f : Bool} (h : Rst W b s f) : W.cell? ⟨b, 0, none⟩ = some (.string s) := cell_of h
theorem Rst.c1 {W : World} {b : Nat} {s : ByteArray} {f : Bool} (h : Rst W b s f) : W.cell? ⟨b, 1, none⟩ = some (.bool f) := cell_of h
theorem Rst.free {W : World} {b : Nat} {s : ByteArray} {f : Bool} (h : Rst W b s f) (p : Nat) : W.frozen? ⟨b, p, none⟩ = false := free_row h
theorem Rst.set0 {W : World} {b : Nat} {s : ByteArray} {f : Bool} (h : Rst W b s f) (t : ByteArray) : Rst (W.setCell ⟨b, 0, none⟩ (.string t)) b t f ∧ Ch (fun i => i = b) W (W.setCell ⟨b, 0, none⟩ (.string t)) :=
  ⟨row_set h, Ch.set (ad := ⟨b, 0, none⟩) (Ch.refl (fun i => i = b) W) (Or.inl rfl) _⟩
theorem Rst.set1 {W : World} {b : Nat} {s : ByteArray} {f : Bool} (h : Rst W b s f) (g : Bool) : Rst (W.setCell ⟨b, 1, none⟩ (.bool g)) b s g ∧ Ch (fun i => i = b) W (W.setCell ⟨b, 1, none⟩ (.bool g)) :=
  ⟨row_set h, Ch.set (ad := ⟨b, 1, none⟩) (Ch.refl (fun i => i = b) W) (Or.inl rfl) _⟩
theorem Ch.one {b : Nat} {w1 w2 w3 : World} (h : Ch (fun k => k = b) w1 w2) (k : Ch (fun k => k = b) w2 w3) : Ch (fun k => k = b) w1 w3 := h.trans k (fun _ hi => Or.inl hi)
set_option maxRecDepth 100000 in
theorem newReader_any (s : ByteArray) (W : World) : Calls Tryz.prog 27 #[.string s] W fun e w' => ∃ b, e = .returned (.pointer (some ⟨b, 0, none⟩)) ∧ W.heap.size = b ∧ Rst w' b s false ∧ Bel W w' := by
  go_enter Tryz.func27, Tryz.ntmps27
  go_wp2_with fail
  go_ret
  exact ⟨_, rfl, rfl, at_new W _, (Bel.refl W).alloc _⟩
set_option maxRecDepth 100000 in
theorem fail_any {W : World} {b : Nat} {s : ByteArray} {f : Bool} (h : Rst W b s f) : Calls Tryz.prog 110 #[.pointer (some ⟨b, 0, none⟩)] W fun e w' => e = .returned (.tuple #[]) ∧ Rst w' b ⟨#[]⟩ true ∧ Ch (fun i => i = b) W w' := by
  have c0 := h.c0
  have c1 := h.c1
  have f0 := h.free 0
  have f1 := h.free 1
  have HR := hide h
  clear h
  go_enter Tryz.func110, Tryz.ntmps110
  go_wp2_with fail
  go_end0
  exact ⟨rfl, ((unhide HR).set1 true).1.set0 _ |>.1, ((unhide HR).set1 true).2.one (((unhide HR).set1 true).1.set0 _).2⟩
/-- A number is read. -/
def pnum (s : ByteArray) (f : Bool) : Nat × ByteArray × Bool := if (rNum s).2.2 = 0 then ((rNum s).1, (rNum s).2.1, f) else (0, ⟨#[]⟩, true)
theorem pnum_facts (s : ByteArray) (f : Bool) : (pnum s f).1 < 18446744073709551616 ∧ (pnum s f).2.1.size ≤ s.size := by
  have := rNum_facts s
  unfold pnum
  split
  · exact this
  · exact ⟨by omega, Nat.zero_le _⟩
set_option maxRecDepth 100000 in
theorem rnum_any {W : World} {b : Nat} {s : ByteArray} {f : Bool} (h : Rst W b s f) (hs : s.size ≤ 150000000000000) : Calls Tryz.prog 66 #[.pointer (some ⟨b, 0, none⟩)] W fun e w' => e = .returned (.int .u64 ((pnum s f).1 : Int)) ∧ Rst w' b (pnum s f).2.1 (pnum s f).2.2 ∧ Ch (fun i => i = b) W w' := by
  have HC := hide (fun W' => readNum_any s hs W')
  have HR := hide h
  have c0 := h.c0
  unfold pnum
  generalize rNum s = r at *
  obtain ⟨n, body, x⟩ := r
  simp only at HC ⊢
  clear h hs
  by_cases hx : x = 0
  · subst hx
    rw [if_pos rfl]
    go_enter Tryz.func66, Tryz.ntmps66
    go_wp2_with (first
      | (go_at_call 112; refine ((unhide HC) _).mono ?_; rintro e w1 ⟨rfl, hb1⟩; have HR1 := hide (And.intro ((unhide HR).bel hb1) hb1); have d0 := (unhide HR1).1.c0; have f0 := (unhide HR1).1.free 0; clear hb1))
    go_ret
    exact ⟨rfl, ((unhide HR1).1.set0 body).1, Ch.one ((unhide HR1).2.ch _) ((unhide HR1).1.set0 body).2⟩
  · rw [if_neg hx]
    have hxx : (x != 0) = true := by rw [bne_iff_ne]; exact hx
    clear hx
    go_enter Tryz.func66, Tryz.ntmps66
    go_wp2_with (first
      | (go_at_call 112; refine ((unhide HC) _).mono ?_; rintro e w1 ⟨rfl, hb1⟩; have HR1 := hide (And.intro ((unhide HR).bel hb1) hb1); clear hb1)
      | (go_at_call 110; refine (fail_any (unhide HR1).1).mono ?_; rintro e w2 ⟨rfl, hr2, hc2⟩; have HR2 := hide (And.intro hr2 hc2); clear hr2 hc2))
    go_ret
    exact ⟨rfl, (unhide HR2).1, Ch.one ((unhide HR1).2.ch _) (unhide HR2).2⟩
/-- A number of at most that. -/
def pupto (m : Nat) (s : ByteArray) (f : Bool) : Nat × ByteArray × Bool := if (pnum s f).1 ≤ m then pnum s f else (0, ⟨#[]⟩, true)
set_option maxRecDepth 100000 in
theorem upto_any {W : World} {b : Nat} {s : ByteArray} {f : Bool} (h : Rst W b s f) (hs : s.size ≤ 150000000000000) (m : Nat) (hm : m < 9223372036854775808) : Calls Tryz.prog 111 #[.pointer (some ⟨b, 0, none⟩), .int .i64 (m : Int)] W fun e w' => e = .returned (.int .i64 ((pupto m s f).1 : Int)) ∧ Rst w' b (pupto m s f).2.1 (pupto m s f).2.2 ∧ Ch (fun i => i = b) W w' := by
  have HC := hide (rnum_any h hs)
  unfold pupto
  generalize pnum s f = r at *
  obtain ⟨n, body, g⟩ := r
  simp only at HC ⊢
  clear h hs
  have hmw : IntKind.u64.wrap (m : Int) = (m : Int) := by rw [IntKind.wrap_u64]; omega
  by_cases hx : n ≤ m
  · rw [if_pos hx]
    have hnw : IntKind.i64.wrap (n : Int) = (n : Int) := wrapI (by omega) (by omega)
    have hle : ¬ ((m : Int) < (n : Int)) := by omega
    clear hx hm
    go_enter Tryz.func111, Tryz.ntmps111
    go_wp2_with (first
      | (go_at_call 66; refine (unhide HC).mono ?_; rintro e w1 ⟨rfl, hr1, hc1⟩; have HR1 := hide (And.intro hr1 hc1); clear hr1 hc1))
    go_ret
    exact ⟨rfl, (unhide HR1).1, (unhide HR1).2⟩
  · rw [if_neg hx]
    have hlt : (m : Int) < (n : Int) := by omega
    clear hx hm
    go_enter Tryz.func111, Tryz.ntmps111
    go_wp2_with (first
      | (go_at_call 66; refine (unhide HC).mono ?_; rintro e w1 ⟨rfl, hr1, hc1⟩; have HR1 := hide (And.intro hr1 hc1); clear hr1 hc1)
      | (go_at_call 110; refine (fail_any (unhide HR1).1).mono ?_; rintro e w2 ⟨rfl, hr2, hc2⟩; have HR2 := hide (And.intro hr2 hc2); clear hr2 hc2))
    go_ret
    exact ⟨rfl, (unhide HR2).1, Ch.one (unhide HR1).2 (unhide HR2).2⟩
set_option maxRecDepth 100000 in
theorem id_any {W : World} {b : Nat} {s : ByteArray} {f : Bool} (h : Rst W b s f) (hs : s.size ≤ 150000000000000) : Calls Tryz.prog 65 #[.pointer (some ⟨b, 0, none⟩)] W fun e w' => e = .returned (.int .i64 ((pupto 64 s f).1 : Int)) ∧ Rst w' b (pupto 64 s f).2.1 (pupto 64 s f).2.2 ∧ Ch (fun i => i = b) W w' := by
  have HC := hide (upto_any h hs 64 (by omega))
  generalize pupto 64 s f = r at *
  obtain ⟨n, body, g⟩ := r
  simp only at HC ⊢
  clear h hs
  go_enter Tryz.func65, Tryz.ntmps65
  go_wp2_with (first
    | (go_at_call 111; refine (unhide HC).mono ?_; rintro e w1 ⟨rfl, hr1, hc1⟩; have HR1 := hide (And.intro hr1 hc1); clear hr1 hc1))
  go_ret
  exact ⟨rfl, (unhide HR1).1, (unhide HR1).2⟩
theorem ba_none (s : ByteArray) : decide (s = ByteArray.empty) = decide (s.size = 0) := decide_eq_decide.2 ⟨fun h => by rw [h]; rfl, fun h => ba_ext (by
  have h2 : s.data.toList.length = 0 := by rw [ba_len]; exact h
  rw [List.eq_nil_of_length_eq_zero h2]; rfl)⟩
set_option maxRecDepth 100000 in
theorem ended_any {W : World} {b : Nat} {s : ByteArray} {f : Bool} (h : Rst W b s f) : Calls Tryz.prog 29 #[.pointer (some ⟨b, 0, none⟩)] W fun e w' => e = .returned (.bool (!f && decide (s.size = 0))) ∧ Bel W w' := by
  have c0 := h.c0
  have c1 := h.c1
  have he := beq_empty s
  clear h
  cases f with
  | true =>
    go_enter Tryz.func29, Tryz.ntmps29
    go_wp2_with fail
    go_ret
    exact ⟨rfl, Bel.refl _⟩
  | false =>
    go_enter Tryz.func29, Tryz.ntmps29
    go_wp2_with fail
    go_ret
    exact ⟨congrArg (fun v => Ending.returned (Value.bool v)) (by rw [Bool.not_false, Bool.true_and]; exact ba_none s), Bel.refl _⟩
end Go.Proofs.YtgofdkheffoilaaGreat
