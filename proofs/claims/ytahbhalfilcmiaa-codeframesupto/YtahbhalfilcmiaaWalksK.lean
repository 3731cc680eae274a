/- What the program's and the document's Frames return; for every text of at most 1048576 bytes. -/
import Derived.Test.YtahbhalfilcmiaaBack
namespace Go.Proofs.Ytahbhalfilcmiaa
open Go.RowKit
theorem Try.i9 : ∃ i, Try.prog.info? 9 = some i ∧ i.zero = some (.string ⟨#[]⟩) ∧ i.size = 1 ∧ i.bytes = 16 := by
  have h : (Try.prog.info? 9).map (fun i => (i.zero, i.size, i.bytes)) = some (some (.string ⟨#[]⟩), 1, 16) := by kernel_rfl
  obtain ⟨i, hi, hzz⟩ := Option.map_eq_some_iff.1 h
  simp only [Prod.mk.injEq] at hzz
  exact ⟨i, hi, hzz.1, hzz.2.1, hzz.2.2⟩
def OS (w W : World) (v : Value) (l : List ByteArray) : Prop := W.ownsRow w.heap.size 9 1 v l.length (l.map Value.string) ∧ Below w.heap.size w W
theorem OS.own {w W : World} {v : Value} {l : List ByteArray} (h : OS w W v l) : W.ownsRow w.heap.size 9 1 v l.length (l.map Value.string) := h.1
theorem OS.bel {w W : World} {v : Value} {l : List ByteArray} (h : OS w W v l) : Below w.heap.size w W := h.2
theorem OS.nil (w : World) : OS w w (.slice none 0 0) [] := ⟨World.ownsRow_nil _ _ _ _, Below.refl _ _⟩
theorem grown_of {W W' : World} (h : Bel W W') : W.grownBy W' none := ⟨h.os, h.tape, h.output, h.size, fun k hk _ => h.block k hk⟩
theorem OS.next {w W W' : World} {v : Value} {l : List ByteArray} (h : OS w W v l) (hb : Bel W W') : OS w W' v l :=
  ⟨h.own.kept (grown_of hb) (by
    cases hv : v.ownBlock with
    | none => exact Or.inl rfl
    | some k => right; simp), Below.trans h.bel (Below.mono hb h.bel.size)⟩
theorem append_text {ops : Array Oper} {rest : List Oper} {o : Oper} {a : Act} {Q : Exit → Act → World → Prop} {w W : World} {v : Value} {l : List ByteArray} (ob : OS w W v l) (c : ByteArray) (hb : l.length + 1 ≤ 1048577)
    (hgd : o.guard = none) (s x : Operand) (ho : o.op = .call { callee := .builtin .append, args := #[s, x], argTypes := #[46, 46] }) (hs : a.eval s = v) (hx : a.eval x = .slice (some ⟨W.heap.size, 0, none⟩) 1 1)
    (h : ∀ v' w', OS w w' v' (l ++ [c]) → wpList Try.prog ops Q rest (a.put o.dst v') w') : wpList Try.prog ops Q (o :: rest) a (W.alloc (.cells #[.string c] 9)) := by
  obtain ⟨i0, hi, hz0, hz1, hz2⟩ := Try.i9
  refine wpList_append_own_wide (P := Try.prog) _ hgd s x 46 ho w.heap.size 9 i0 (.string ⟨#[]⟩) 1 16 Try.underlying46 hi hz0 hz1 hz2 rfl (by decide) v l.length (l.map Value.string) hs (ob.own.alloc _) ⟨W.heap.size, 0, none⟩ 1 1 [Value.string c] hx (by simp) (cells_new W _ 9) (fun u hu => ?_) (by unfold maxLen; omega) (by omega) (Nat.le_trans ob.bel.size (by simp)) ?_
  · rw [List.mem_singleton.1 hu]; rfl
  · intro v' w' h1 h2 _
    refine h v' w' ⟨?_, ?_⟩
    · rw [List.length_append, List.map_append]; exact h1
    · exact (ob.bel.alloc ob.bel.size _).grown h2 (Nat.le_trans ob.bel.size (by simp)) (fun k hk => (ob.own.lt k hk).1)
def fRun : Nat → ByteArray → Nat → List ByteArray → List ByteArray × Nat × Int
  | 0, _, u, l => (l, u, 0)
  | k + 1, s, u, l => if u < s.size then (if (rFrame (s.extract u s.size)).2.2 ≠ 0 then (l, u, (rFrame (s.extract u s.size)).2.2) else fRun k s (u + 8 + (rFrame (s.extract u s.size)).1.size) (l ++ [(rFrame (s.extract u s.size)).1])) else (l, u, 0)
def rFrames (s : ByteArray) : List ByteArray × Nat × Int := fRun s.size s 0 []
theorem rFrame_ok (s : ByteArray) (h : (rFrame s).2.2 = 0) : 8 + (rFrame s).1.size + (rFrame s).2.1.size = s.size := by
  unfold rFrame at h ⊢
  split at h
  · simp at h
  · rename_i h8
    rw [if_neg h8]
    split at h
    · simp at h
    · rename_i hl
      rw [if_neg hl]
      split at h
      · simp at h
      · rename_i hs
        rw [if_neg hs]
        split at h
        · simp at h
        · rename_i hb
          rw [if_neg hb]
          simp
          omega
theorem fRun_stop {f : Nat} {s : ByteArray} {u : Nat} {l : List ByteArray} (h : ¬ u < s.size) : fRun f s u l = (l, u, 0) := by
  cases f with
  | zero => rfl
  | succ k => rw [fRun, if_neg h]
theorem fRun_bad {f : Nat} {s : ByteArray} {u : Nat} {l : List ByteArray} (hu : u < s.size) (hf : s.size - u ≤ f) (h : (rFrame (s.extract u s.size)).2.2 ≠ 0) : fRun f s u l = (l, u, (rFrame (s.extract u s.size)).2.2) := by
  cases f with
  | zero => omega
  | succ k => rw [fRun, if_pos hu, if_pos h]
theorem fRun_ok {f : Nat} {s : ByteArray} {u : Nat} {l : List ByteArray} (hu : u < s.size) (hf : s.size - u ≤ f) (h : (rFrame (s.extract u s.size)).2.2 = 0) :
    ∃ f', fRun f s u l = fRun f' s (u + 8 + (rFrame (s.extract u s.size)).1.size) (l ++ [(rFrame (s.extract u s.size)).1]) ∧ s.size - (u + 8 + (rFrame (s.extract u s.size)).1.size) ≤ f' := by
  cases f with
  | zero => omega
  | succ k => exact ⟨k, by rw [fRun, if_pos hu, if_neg (by simpa using h)], by omega⟩
set_option maxHeartbeats 1000000 in
theorem frames_any (s : ByteArray) (hm : s.size ≤ 1048576) (w : World) :
    Calls Try.prog 30 #[.string s] w fun e w' => ∃ v, e = .returned (.tuple #[v, .int .i64 ((rFrames s).2.1 : Int), .int .i64 (rFrames s).2.2]) ∧ OS w w' v (rFrames s).1 := by
  go_enter Try.func30, Try.ntmps30
  go_wp2_with fail
  go_loopw [2, 3] (fun v u W => ∃ k f : Nat, ∃ l : List ByteArray, k ≤ s.size ∧ l.length ≤ k ∧ s.size - k ≤ f ∧ u = .int .i64 k ∧ OS w W v l ∧ fRun f s k l = rFrames s) (fun _ u _ => s.size - (intOf u).toNat)
  case atStart => exact ⟨0, s.size, [], Nat.zero_le _, Nat.le_refl _, Nat.le_refl _, rfl, OS.nil w, rfl⟩
  case round =>
    obtain ⟨k, f, l, hk, hlk, hf, rfl, ho, hr⟩ := hrel
    have Ho := hide ho
    have Hr := hide hr
    have Hlk := hide hlk
    have Hf := hide hf
    clear ho hr hlk hf
    by_cases hlt : k < s.size
    · have c28 := hide (fun W => readFrame_any (s.extract k s.size) (by simp; omega) W)
      by_cases he : (rFrame (s.extract k s.size)).2.2 = 0
      · have hok := rFrame_ok _ he
        obtain ⟨f', hf1, hf2⟩ := fRun_ok (l := l) hlt Hf.out he
        rw [size_from] at hok
        rw [Hr.out] at hf1
        generalize rFrame (s.extract k s.size) = r at *
        obtain ⟨t, rest, x⟩ := r
        simp only at he hok hf1 hf2 c28
        subst he
        have f1 : (k : Int) ≤ (s.size : Int) := by omega
        have f0 : (0 : Int) ≤ (k : Int) := by omega
        have f2 : (s.size : Int) - (rest.size : Int) = ((k + 8 + t.size : Nat) : Int) := by omega
        have Hok := hide hok
        have Hf1 := hide hf1
        have Hf2 := hide hf2
        clear hok hf1 hf2
        go_wp2_with (first
          | (go_at_call 28; refine (c28.out _).mono ?_; rintro e w1 ⟨rfl, hb1⟩; have ho1 := Ho.out.next hb1)
          | (at_builtin; refine append_text ho1 t (by have := Hlk.out; omega) rfl _ _ rfl rfl rfl ?_; intro v2 w2 ho2))
        go_roundw
        case rel => exact ⟨k + 8 + t.size, f', l ++ [t], by have := Hok.out; omega, by have := Hlk.out; simp; omega, Hf2.out, by go_num, ho2, Hf1.out.symm⟩
        case measure => have := Hok.out; simp [intOf]; omega
      · have hbad := fRun_bad (l := l) hlt Hf.out he
        rw [Hr.out] at hbad
        generalize rFrame (s.extract k s.size) = r at *
        obtain ⟨t, rest, x⟩ := r
        simp only at he hbad c28
        have f1 : (k : Int) ≤ (s.size : Int) := by omega
        have f0 : (0 : Int) ≤ (k : Int) := by omega
        have hxx : (x != 0) = true := by rw [bne_iff_ne]; exact he
        have Hbad := hide hbad
        clear hbad he
        go_wp2_with (go_at_call 28; refine (c28.out _).mono ?_; rintro e w1 ⟨rfl, hb1⟩; have ho1 := Ho.out.next hb1)
        go_ret3
        rw [Hbad.out]
        exact ⟨_, rfl, ho1⟩
    · have hst := fRun_stop (f := f) (l := l) hlt
      rw [Hr.out] at hst
      have Hst := hide hst
      clear hst
      go_wp2_with fail
      go_ret3
      rw [Hst.out]
      exact ⟨_, rfl, Ho.out⟩
set_option maxHeartbeats 1000000 in
theorem refFrames_any (s : ByteArray) (hm : s.size ≤ 1048576) (w : World) :
    Calls Try.prog 31 #[.string s] w fun e w' => ∃ v, e = .returned (.tuple #[v, .int .i64 ((rFrames s).2.1 : Int), .int .i64 (rFrames s).2.2]) ∧ OS w w' v (rFrames s).1 := by
  go_enter Try.func31, Try.ntmps31
  go_wp2_with fail
  go_loopw [5, 6] (fun v u W => ∃ k f : Nat, ∃ l : List ByteArray, k ≤ s.size ∧ l.length ≤ k ∧ s.size - k ≤ f ∧ u = .int .i64 k ∧ OS w W v l ∧ fRun f s k l = rFrames s) (fun _ u _ => s.size - (intOf u).toNat)
  case atStart => exact ⟨0, s.size, [], Nat.zero_le _, Nat.le_refl _, Nat.le_refl _, rfl, OS.nil w, rfl⟩
  case round =>
    obtain ⟨k, f, l, hk, hlk, hf, rfl, ho, hr⟩ := hrel
    have Ho := hide ho
    have Hr := hide hr
    have Hlk := hide hlk
    have Hf := hide hf
    clear ho hr hlk hf
    by_cases hlt : k < s.size
    · have c28 := hide (fun W => refReadFrame_any (s.extract k s.size) (by simp; omega) W)
      by_cases he : (rFrame (s.extract k s.size)).2.2 = 0
      · have hok := rFrame_ok _ he
        obtain ⟨f', hf1, hf2⟩ := fRun_ok (l := l) hlt Hf.out he
        rw [size_from] at hok
        rw [Hr.out] at hf1
        generalize rFrame (s.extract k s.size) = r at *
        obtain ⟨t, rest, x⟩ := r
        simp only at he hok hf1 hf2 c28
        subst he
        have f1 : (k : Int) ≤ (s.size : Int) := by omega
        have f0 : (0 : Int) ≤ (k : Int) := by omega
        have f2 : (k : Int) + 8 + (t.size : Int) ≤ (s.size : Int) := by omega
        have Hok := hide hok
        have Hf1 := hide hf1
        have Hf2 := hide hf2
        clear hok hf1 hf2
        go_wp2_with (first
          | (go_at_call 29; refine (c28.out _).mono ?_; rintro e w1 ⟨rfl, hb1⟩; have ho1 := Ho.out.next hb1)
          | (at_builtin; refine append_text ho1 t (by have := Hlk.out; omega) rfl _ _ rfl rfl rfl ?_; intro v2 w2 ho2))
        go_roundw
        case rel => exact ⟨k + 8 + t.size, f', l ++ [t], by have := Hok.out; omega, by have := Hlk.out; simp; omega, Hf2.out, by go_num, ho2, Hf1.out.symm⟩
        case measure => have := Hok.out; simp [intOf]; omega
      · have hbad := fRun_bad (l := l) hlt Hf.out he
        rw [Hr.out] at hbad
        generalize rFrame (s.extract k s.size) = r at *
        obtain ⟨t, rest, x⟩ := r
        simp only at he hbad c28
        have f1 : (k : Int) ≤ (s.size : Int) := by omega
        have f0 : (0 : Int) ≤ (k : Int) := by omega
        have hxx : (x != 0) = true := by rw [bne_iff_ne]; exact he
        have Hbad := hide hbad
        clear hbad he
        go_wp2_with (go_at_call 29; refine (c28.out _).mono ?_; rintro e w1 ⟨rfl, hb1⟩; have ho1 := Ho.out.next hb1)
        go_ret3
        rw [Hbad.out]
        exact ⟨_, rfl, ho1⟩
    · have hst := fRun_stop (f := f) (l := l) hlt
      rw [Hr.out] at hst
      have Hst := hide hst
      clear hst
      go_wp2_with fail
      go_ret3
      rw [Hst.out]
      exact ⟨_, rfl, Ho.out⟩
end Go.Proofs.Ytahbhalfilcmiaa
