/- What the program's Read returns: for every bytes. -/
import Derived.Test.YtgghcfmpfneehaaGreatDoorRdB
namespace Go.Proofs.YtgghcfmpfneehaaGreatDoor
open Go.RowKit
/-- A write, as its parts. -/
def wz : (Bool × Nat × ByteArray × (Int × Bool × Int × ByteArray × Int)) := (false, 0, ⟨#[]⟩, (0, false, 0, ⟨#[]⟩, 0))
def badA (e : Int) : ((Bool × Nat × ByteArray × (Int × Bool × Int × ByteArray × Int)) × ByteArray × Int) := (wz, ⟨#[]⟩, e)
def f5 (d : Bool) (u : Nat) (p : ByteArray) (x : Int × Bool × Int × ByteArray × Int) (r : ByteArray) : ((Bool × Nat × ByteArray × (Int × Bool × Int × ByteArray × Int)) × ByteArray × Int) :=
  if eT (u : Int) p x.1 x.2.1 x.2.2.1 x.2.2.2.1 x.2.2.2.2 = 0 then ((d, u, p, x), r, 0) else badA (eT (u : Int) p x.1 x.2.1 x.2.2.1 x.2.2.2.1 x.2.2.2.2)
def f4 (d : Bool) (u : Nat) (p r : ByteArray) : ((Bool × Nat × ByteArray × (Int × Bool × Int × ByteArray × Int)) × ByteArray × Int) := if (rVal r).2.2 = 0 then f5 d u p (rVal r).1 (rVal r).2.1 else badA (rVal r).2.2
def f3 (d : Bool) (u : Nat) (r : ByteArray) : ((Bool × Nat × ByteArray × (Int × Bool × Int × ByteArray × Int)) × ByteArray × Int) := if (rText r).2.2 = 0 then f4 d u (rText r).1 (rText r).2.1 else badA (rText r).2.2
def f2 (d : Bool) (r : ByteArray) : ((Bool × Nat × ByteArray × (Int × Bool × Int × ByteArray × Int)) × ByteArray × Int) := if (rNum r).2.2 = 0 then f3 d (rNum r).1 (rNum r).2.1 else badA (rNum r).2.2
/-- The write at the front. -/
def rWr (s : ByteArray) : ((Bool × Nat × ByteArray × (Int × Bool × Int × ByteArray × Int)) × ByteArray × Int) := if (rMk s).2.2 = 0 then f2 (rMk s).1 (rMk s).2.1 else badA (rMk s).2.2
/-- A write as the program holds it. -/
def wv (x : (Bool × Nat × ByteArray × (Int × Bool × Int × ByteArray × Int))) : Value := wr x.1 (x.2.1 : Int) x.2.2.1 x.2.2.2.1 x.2.2.2.2.1 x.2.2.2.2.2.1 x.2.2.2.2.2.2.1 x.2.2.2.2.2.2.2
def av (x : ((Bool × Nat × ByteArray × (Int × Bool × Int × ByteArray × Int)) × ByteArray × Int)) : Value := .tuple #[wv x.1, .string x.2.1, .int .i64 x.2.2]
theorem rMk_len (s : ByteArray) : (rMk s).2.1.size ≤ s.size := by
  unfold rMk
  split
  · exact Nat.zero_le _
  · split
    · exact Nat.zero_le _
    · simp
theorem rText_rest (s : ByteArray) : (rText s).2.1.size ≤ s.size := by
  have := (rNum_facts s).2
  unfold rText
  split
  · exact Nat.zero_le _
  · split
    · exact Nat.zero_le _
    · simp; omega
theorem bel_of {B : Nat} {w W : World} (hB : B = w.heap.size) (h : Below B w W) : Bel w W := by subst hB; exact h
/-- Where Read stands ahead of its closure k. -/
def inv (s : ByteArray) (B : Nat) (w W : World) : Nat → Prop
  | 0 => RW B w W false 0 ⟨#[]⟩ 0 false 0 ⟨#[]⟩ 0 s
  | 1 => ∃ d r, RW B w W d 0 ⟨#[]⟩ 0 false 0 ⟨#[]⟩ 0 r ∧ rWr s = f2 d r ∧ r.size ≤ 150000000000000
  | 2 => ∃ d u r, RW B w W d ((u : Nat) : Int) ⟨#[]⟩ 0 false 0 ⟨#[]⟩ 0 r ∧ rWr s = f3 d u r ∧ r.size ≤ 150000000000000
  | 3 => ∃ d u p r, RW B w W d ((u : Nat) : Int) p 0 false 0 ⟨#[]⟩ 0 r ∧ rWr s = f4 d u p r ∧ r.size ≤ 150000000000000
  | 4 => ∃ d u p x r, RW B w W d ((u : Nat) : Int) p x.1 x.2.1 x.2.2.1 x.2.2.2.1 x.2.2.2.2 r ∧ rWr s = f5 d u p x r
  | _ => ∃ d u p x r, RW B w W d ((u : Nat) : Int) p x.1 x.2.1 x.2.2.1 x.2.2.2.1 x.2.2.2.2 r ∧ rWr s = ((d, u, p, x), r, 0)
/-- One closure: it goes on, or Read ends with its fault. -/
def stepR (s : ByteArray) (B : Nat) (w W' : World) (k : Nat) (e : Int) : Prop :=
  (e = 0 ∧ inv s B w W' (k + 1)) ∨ (e ≠ 0 ∧ rWr s = badA e ∧ ∃ d u p k b n s2 v r, RW B w W' d u p k b n s2 v r)
theorem call_step (s : ByteArray) (hm : s.size ≤ 150000000000000) (B : Nat) (w W : World) (k : Nat) (hk : k < 5) (h : inv s B w W k) :
    ∃ f cs, (stp B)[k]? = some (.func (.func f) #[] cs) ∧ Calls Tryz.prog f cs W fun e W' => ∃ x, e = .returned (.int .i64 x) ∧ stepR s B w W' k x := by
  match k, hk, h with
  | 0, _, h =>
    refine ⟨_, _, rfl, (clo1 B w W _ _ _ _ _ _ _ _ s hm h).mono ?_⟩
    rintro e W' ⟨rfl, h'⟩
    refine ⟨_, rfl, ?_⟩
    by_cases hx : (rMk s).2.2 = 0
    · exact Or.inl ⟨hx, _, _, h', by unfold rWr; rw [if_pos hx], Nat.le_trans (rMk_len s) hm⟩
    · exact Or.inr ⟨hx, by unfold rWr; rw [if_neg hx], _, _, _, _, _, _, _, _, _, h'⟩
  | 1, _, ⟨d, r, h, he, hr⟩ =>
    refine ⟨_, _, rfl, (clo2 B w W _ _ _ _ _ _ _ _ r hr h).mono ?_⟩
    rintro e W' ⟨rfl, h'⟩
    refine ⟨_, rfl, ?_⟩
    by_cases hx : (rNum r).2.2 = 0
    · exact Or.inl ⟨hx, _, _, _, h', by rw [he]; unfold f2; rw [if_pos hx], Nat.le_trans (rNum_facts r).2 hr⟩
    · exact Or.inr ⟨hx, by rw [he]; unfold f2; rw [if_neg hx], _, _, _, _, _, _, _, _, _, h'⟩
  | 2, _, ⟨d, u, r, h, he, hr⟩ =>
    refine ⟨_, _, rfl, (clo3 B w W _ _ _ _ _ _ _ _ r hr h).mono ?_⟩
    rintro e W' ⟨rfl, h'⟩
    refine ⟨_, rfl, ?_⟩
    by_cases hx : (rText r).2.2 = 0
    · exact Or.inl ⟨hx, _, _, _, _, h', by rw [he]; unfold f3; rw [if_pos hx], Nat.le_trans (rText_rest r) hr⟩
    · exact Or.inr ⟨hx, by rw [he]; unfold f3; rw [if_neg hx], _, _, _, _, _, _, _, _, _, h'⟩
  | 3, _, ⟨d, u, p, r, h, he, hr⟩ =>
    refine ⟨_, _, rfl, (clo4 B w W _ _ _ _ _ _ _ _ r hr h).mono ?_⟩
    rintro e W' ⟨rfl, h'⟩
    refine ⟨_, rfl, ?_⟩
    by_cases hx : (rVal r).2.2 = 0
    · exact Or.inl ⟨hx, _, _, _, _, _, h', by rw [he]; unfold f4; rw [if_pos hx]⟩
    · exact Or.inr ⟨hx, by rw [he]; unfold f4; rw [if_neg hx], _, _, _, _, _, _, _, _, _, h'⟩
  | 4, _, ⟨d, u, p, x, r, h, he⟩ =>
    refine ⟨_, _, rfl, (clo5 B w W _ _ _ _ _ _ _ _ r (by omega) h).mono ?_⟩
    rintro e W' ⟨rfl, h'⟩
    refine ⟨_, rfl, ?_⟩
    by_cases hx : eT (u : Int) p x.1 x.2.1 x.2.2.1 x.2.2.2.1 x.2.2.2.2 = 0
    · exact Or.inl ⟨hx, _, _, _, _, _, h', by rw [he]; unfold f5; rw [if_pos hx]⟩
    · exact Or.inr ⟨hx, by rw [he]; unfold f5; rw [if_neg hx], _, _, _, _, _, _, _, _, _, h'⟩
theorem res_w {fn : Func} (hr : fn.results = #[.cell 2 29, .cell 3 9, .tmp 4]) {W : World} {B : Nat} {cs : Array Value} {r : Value} (hg : W.heap[B]? = some (.cells cs 29)) (hg2 : W.heap[B + 1]? = some (.cells #[r] 9)) (hs : (Tryz.prog.info? 29).map (·.size) = some cs.size) (tmps : Array Value) (y : Value) (hp : tmps.getD 2 undef = .pointer (some ⟨B, 0, none⟩)) (hx : tmps.getD 3 undef = .pointer (some ⟨B + 1, 0, none⟩)) (hy : tmps.getD 4 undef = y) :
    (results fn tmps).run Tryz.prog W = .ok (.tuple #[.agg cs, r, y]) W := by
  have hp' : tmps[2]?.getD undef = .pointer (some ⟨B, 0, none⟩) := by simpa using hp
  have hx' : tmps[3]?.getD undef = .pointer (some ⟨B + 1, 0, none⟩) := by simpa using hx
  have hy' : tmps[4]?.getD undef = y := by simpa using hy
  have c1 : W.cell? ⟨B + 1, 0, none⟩ = some r := cell_of hg2
  have l1 : (loadVar 9 ⟨B + 1, 0, none⟩).run Tryz.prog W = .ok r W := by
    simp [loadVar, isAgg, go_sem, c1]
  simp [results, hr, hp', hx', hy', asAddr, run_loadVar_row W B 29 29 cs (0, 0) _ hg Tryz.underlying29 rfl hs, l1]
end Go.Proofs.YtgghcfmpfneehaaGreatDoor
