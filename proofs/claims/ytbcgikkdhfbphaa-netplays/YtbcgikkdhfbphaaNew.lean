/- A new net. -/
import Derived.Test.YtbcgikkdhfbphaaTck
namespace Go.Proofs.Ytbcgikkdhfbphaa
open Go.RowKit Go.Maps
theorem Try.i67 : ∃ i, Try.prog.info? 67 = some i ∧ i.zero = some (.agg #[.int .i64 0, .int .u64 0, .bool false]) ∧ i.size = 3 ∧ i.bytes = 24 := by
  have h : (Try.prog.info? 67).map (fun i => (i.zero, i.size, i.bytes)) = some (some (.agg #[.int .i64 0, .int .u64 0, .bool false]), 3, 24) := by kernel_rfl
  obtain ⟨i, hi, hzz⟩ := Option.map_eq_some_iff.1 h
  simp only [Prod.mk.injEq] at hzz
  exact ⟨i, hi, hzz.1, hzz.2.1, hzz.2.2⟩
/-- The machines of a new net, k of them with their states. -/
def nm (seed : Int) (N k : Nat) : List Mc := (List.range N).map fun j => (0, if j < k then fst9 seed ((j : Int) + 1) else 0, false)
theorem nm_len (seed : Int) (N k : Nat) : (nm seed N k).length = N := by simp [nm]
theorem nm_at (seed : Int) (N k j : Nat) (h : j < (nm seed N k).length) : (nm seed N k)[j] = (0, if j < k then fst9 seed ((j : Int) + 1) else 0, false) := by simp [nm]
theorem nm_next (seed : Int) (N k : Nat) (hk : k < N) : (nm seed N k).set k (((nm seed N k)[k]'(by rw [nm_len]; exact hk)).1, fst9 seed ((k : Int) + 1), ((nm seed N k)[k]'(by rw [nm_len]; exact hk)).2.2) = nm seed N (k + 1) := by
  apply List.ext_getElem
  · simp [nm_len]
  · intro i h1 h2
    rw [List.getElem_set]
    by_cases e : k = i
    · subst e
      rw [if_pos rfl]
      simp [nm_at]
    · rw [if_neg e, nm_at, nm_at]
      have : (i < k) = (i < k + 1) := by simp; omega
      simp [this]
theorem mr_new (seed : Int) (N : Nat) (w : World) : MR (w.alloc (.cells (madeCells #[.int .i64 0, .int .u64 0, .bool false] (N * 3)) 67)) w.heap.size (nm seed N 0) := by
  refine ⟨_, at_new w _, by simp [nm_len, madeCells], fun j hj => ?_⟩
  rw [nm_at]
  rw [nm_len] at hj
  have e : ∀ k, k < N * 3 → (madeCells #[.int .i64 0, .int .u64 0, .bool false] (N * 3))[k]? = some (#[Value.int .i64 0, .int .u64 0, .bool false][k % 3]!) := by
    intro k hk
    simp [madeCells, hk]
  rw [e _ (by omega), e _ (by omega), e _ (by omega), show j * 3 % 3 = 0 by omega, show (j * 3 + 1) % 3 = 1 by omega, show (j * 3 + 2) % 3 = 2 by omega]
  simp
/-- A new net. -/
def pnew (seed : Int) (N : Nat) : PN := ⟨nm seed N N, []⟩
/-- What New answers. -/
def newR (seed : Int) (N : Nat) (w : World) (e : Ending) (w' : World) : Prop := ∃ p M, e = .returned (.tuple #[.pointer (some ⟨p, 0, none⟩), .int .i64 0]) ∧ Nt 0 w' p (pnew seed N) M ∧ (∀ i, M i → w.heap.size ≤ i) ∧ Bel w w'
set_option maxRecDepth 100000 in
theorem new_no (seed n : Int) (h : n < 1 ∨ 64 < n) (w : World) : Calls Try.prog 8 #[.int .i64 n, .int .u64 seed] w fun e w' => e = .returned (.tuple #[.pointer none, .int .i64 2]) ∧ w' = w := by
  go_enter Try.func8, Try.ntmps8
  rcases h with h | h
  · go_wp2_with fail
    go_ret2
    exact ⟨rfl, rfl⟩
  · have h1 : ¬ n < 1 := by omega
    go_wp2_with fail
    go_ret2
    exact ⟨rfl, rfl⟩
set_option maxRecDepth 100000 in
theorem new_yes (seed : Int) (N : Nat) (h1 : 1 ≤ N) (h2 : N ≤ 64) (w : World) : Calls Try.prog 8 #[.int .i64 N, .int .u64 seed] w fun e w' => newR seed N w e w' := by
  obtain ⟨i0, hi, hz0, hz1, hz2⟩ := Try.i67
  have hmk : ∀ W : World, (Instr.makeSlice 64 (.int .i64 N) (.int .i64 N)).run Try.prog W = .ok (.slice (some ⟨W.heap.size, 0, none⟩) N N) (W.alloc (.cells (madeCells #[.int .i64 0, .int .u64 0, .bool false] (N * 3)) 67)) := fun W => by
    have := run_make (P := Try.prog) W 64 67 i0 _ Try.underlying64 hi hz0 .i64 .i64 N N (by omega) (by omega) (by rw [hz2]; omega) (by omega)
    simp only [Int.toNat_natCast, hz1] at this
    exact this
  have HM0 := hide (mr_new seed N w)
  have HB0 := hide ((Bel.refl w).alloc (.cells (madeCells #[.int .i64 0, .int .u64 0, .bool false] (N * 3)) 67))
  have HF := hide (fun k W => first_any seed k W)
  have hmm := @run_makeMap Try.prog
  have hN1 : ¬ ((N : Int) < 1) := by omega
  have hN2 : ¬ (64 < (N : Int)) := by omega
  go_enter Try.func8, Try.ntmps8
  go_wp2_with fail
  go_loopw [7, 18] (fun _ vi wr => ∃ k : Nat, k ≤ N ∧ vi = .int .i64 k ∧ Hid (MR wr w.heap.size (nm seed N k) ∧ Bel w wr)) (fun _ vi _ => N - (intOf vi).toNat)
  case atStart => exact ⟨0, Nat.zero_le _, rfl, hide ⟨unhide HM0, unhide HB0⟩⟩
  case round =>
    obtain ⟨k, hk, rfl, HO⟩ := hrel
    by_cases hlt : k < N
    · have hkl : k < (nm seed N k).length := by rw [nm_len]; exact hlt
      have hset := (unhide HO).1.set1 hkl (fst9 seed ((k : Int) + 1))
      rw [nm_next seed N k hlt] at hset
      have hcell := ((unhide HO).1.cells hkl).2.1
      have hfr := (unhide HO).1.free (k * 3 + 1)
      have HS := hide (And.intro hset (show Bel w (wr.setCell ⟨w.heap.size, k * 3 + 1, none⟩ (.int .u64 (fst9 seed ((k : Int) + 1)))) from (((unhide HO).2.ch (fun i => w.heap.size ≤ i)).set (ad := ⟨w.heap.size, k * 3 + 1, none⟩) (Or.inl (Nat.le_refl _)) _).below (Nat.le_refl _) (fun i hi => hi)))
      have hkw : IntKind.i64.wrap ((k : Int) + 1) = (k : Int) + 1 := wrapI (by omega) (by omega)
      generalize (nm seed N k)[k].2.1 = old at hcell
      clear hset
      go_wp2_with (first
        | (go_at_call 28; refine ((unhide HF) _ _).mono ?_; rintro e w9 ⟨rfl, hw9⟩; rw [hw9]; clear hw9))
      go_roundw
      case rel => exact ⟨k + 1, by omega, by go_num, HS⟩
      case measure => simp [intOf]; omega
    · obtain rfl : k = N := by omega
      have hg := (unhide HO).1.lt
      go_wp2_with fail

      go_ret2
      have hb2 : Bel w ((wr.alloc (.map #[] 0)).alloc (.cells #[.slice (some ⟨w.heap.size, 0, none⟩) k k, .map (some wr.heap.size), .int .i64 0] 70)) := ((unhide HO).2.alloc _).alloc _
      refine ⟨wr.heap.size + 1, fun i => i = w.heap.size ∨ i = wr.heap.size ∨ i = wr.heap.size + 1, by simp, ?_, fun i hi => ?_, hb2⟩
      · have hbel : Bel wr ((wr.alloc (.map #[] 0)).alloc (.cells #[.slice (some ⟨w.heap.size, 0, none⟩) k k, .map (some wr.heap.size), .int .i64 0] 70)) := ((Bel.refl wr).alloc _).alloc _
        refine ⟨⟨w.heap.size, k, wr.heap.size, 0, fun _ => none, ⟨?_, ?_, ?_, ?_, fun x _ => rfl, fun x v hx => (by cases hx), fun x y v u g hx => (by cases hx), Or.inr (Or.inr rfl), Or.inl rfl, Or.inr (Or.inl rfl)⟩, Nat.le_refl _⟩, fun i hi => ?_, ?_, ?_, fun x hx => by simp [pnew] at hx, by simp [pnew]⟩
        · have := at_new (wr.alloc (.map #[] 0)) (.cells #[.slice (some ⟨w.heap.size, 0, none⟩) k k, .map (some wr.heap.size), .int .i64 0] 70)
          rw [show (wr.alloc (.map #[] 0)).heap.size = wr.heap.size + 1 by simp] at this
          simpa [pnew, nm_len] using this
        · simp [pnew, nm_len]
        · exact (unhide HO).1.at (hbel.block _ hg)
        · exact (Mg.new 86 lk wr).bel ((Bel.refl _).alloc _)
        · have hs : ((wr.alloc (.map #[] 0)).alloc (.cells #[.slice (some ⟨w.heap.size, 0, none⟩) k k, .map (some wr.heap.size), .int .i64 0] 70)).heap.size = wr.heap.size + 2 := by simp
          rw [hs]
          rcases hi with rfl | rfl | rfl <;> omega
        · simpa [pnew, nm_len] using h1
        · simpa [pnew, nm_len] using h2
      · have := (unhide HO).2.size
        rcases hi with rfl | rfl | rfl <;> omega
end Go.Proofs.Ytbcgikkdhfbphaa
