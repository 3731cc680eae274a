/- The names of all files, rising: the program's Names. -/
import Derived.Test.YtpngcmlaimcceaaShe
import Derived.Test.YtpngcmlaimcceaaCop
import Derived.Sort.KeysCollected
import Derived.Sort.OwnSorted
namespace Go.Proofs.Ytpngcmlaimcceaa
open Go.RowKit Go.Maps Go.WideMaps Go.Sort
theorem strict_of {ss : List (List UInt8)} (h : ss.Nodup) : (ss.mergeSort leB).Pairwise (fun x y => x < y) := by
  have tr : ∀ a b c : List UInt8, leB a b = true → leB b c = true → leB a c = true := fun a b c h1 h2 => by simp only [leB, decide_eq_true_eq] at *; exact List.le_trans h1 h2
  have to : ∀ a b : List UInt8, (leB a b || leB b a) = true := fun a b => by simp only [leB, Bool.or_eq_true, decide_eq_true_eq]; exact List.le_total a b
  have h1 := List.pairwise_mergeSort tr to ss
  have h2 : (ss.mergeSort leB).Nodup := (List.mergeSort_perm ss leB).nodup_iff.2 h
  refine pw_of (fun x y h34 => ?_) (h1.and h2)
  obtain ⟨h3, h4⟩ := h34
  simp only [leB, decide_eq_true_eq] at h3
  rcases List.le_iff_lt_or_eq.1 h3 with h5 | h5
  · exact h5
  · exact absurd h5 h4
theorem ris_ext : ∀ (a b : List (List UInt8)), a.Pairwise (· < ·) → b.Pairwise (· < ·) → (∀ x, x ∈ a ↔ x ∈ b) → a = b
  | [], [], _, _, _ => rfl
  | [], y :: b, _, _, h => by have := (h y).2 (by simp); simp at this
  | x :: a, [], _, _, h => by have := (h x).1 (by simp); simp at this
  | x :: a, y :: b, ha, hb, h => by
    obtain ⟨ha1, ha2⟩ := List.pairwise_cons.1 ha
    obtain ⟨hb1, hb2⟩ := List.pairwise_cons.1 hb
    have hxy : x = y := by
      rcases List.mem_cons.1 ((h x).1 (by simp)) with h1 | h1
      · exact h1
      · rcases List.mem_cons.1 ((h y).2 (by simp)) with h2 | h2
        · exact h2.symm
        · exact absurd (List.lt_trans (hb1 x h1) (ha1 y h2)) (List.lt_irrefl y)
    subst hxy
    rw [ris_ext a b ha2 hb2 (fun z => ⟨fun hz => ?_, fun hz => ?_⟩)]
    · rcases List.mem_cons.1 ((h z).1 (List.mem_cons_of_mem _ hz)) with h1 | h1
      · rw [h1] at hz; exact absurd (ha1 x hz) (List.lt_irrefl x)
      · exact h1
    · rcases List.mem_cons.1 ((h z).2 (List.mem_cons_of_mem _ hz)) with h1 | h1
      · rw [h1] at hz; exact absurd (hb1 x hz) (List.lt_irrefl x)
      · exact h1
theorem bb_lt {x y : List UInt8} (h : bytesBefore x y = true) : x < y := by
  have e : ∀ x y : List UInt8, bytesBefore x y = Op.bytesLess x y := by
    intro x
    induction x with
    | nil => intro y; cases y <;> rfl
    | cons a r ih =>
      intro y
      cases y with
      | nil => rfl
      | cons b s => rw [bytesBefore, Op.bytesLess, ih s]
  rw [e, bytesLess_eq] at h
  exact of_decide_eq_true h
/-- The names of the files. -/
def nms (l : Fs) : List (List UInt8) := l.map (·.1)
theorem nms_ris {l : Fs} (h : srt l) : (nms l).Pairwise (· < ·) := by
  unfold nms
  rw [List.pairwise_map]
  exact pw_of (fun _ _ hb => bb_lt hb) h
set_option maxRecDepth 100000 in
set_option maxHeartbeats 1000000 in
theorem names_any {C : Nat} {w : World} {p : Nat} {d : PD} {M B : Nat → Prop} (h : Dk C w p d M B) :
    Calls Try.prog 27 #[.pointer (some ⟨p, 0, none⟩)] w fun e w' => (∃ g cap, e = .returned (.slice (some ⟨g, 0, none⟩) (nms d.seen).length cap) ∧ w'.ownsRow w.heap.size 9 1 (.slice (some ⟨g, 0, none⟩) (nms d.seen).length cap) (nms d.seen).length ((nms d.seen).map encStr)) ∧ Bel w w' := by
  obtain ⟨i0, hi, hz0, hz1, hz2⟩ := Try.i9
  have hfl := hide (fault_d h)
  have hF := h.fine
  have hmax : Maps.size (fD d.seen) ≤ 4096 := by rw [fD_size]; exact hF.len
  obtain ⟨bs, bk, v, cs, h1, h2, h3⟩ := h.co
  have hown : w.ownsMap Try.prog 9 fileE bs d.seen.length (fD d.seen) := h1.ms
  have hbl := hown.lt
  have c2 : w.cell? ⟨p, 2, none⟩ = some (.map (some bs)) := cell_of h1.row
  have HP := hide (lt_of_some h1.row)
  have HROW := hide h1.row
  have HN := hide (nms_ris hF.srt)
  have hlen : (nms d.seen).length = d.seen.length := by unfold nms; simp
  have hmem : ∀ x, x ∈ nms d.seen ↔ Maps.has (fD d.seen) (.string x) = true := fun x => by
    rw [fD_has]
    unfold nms hasF
    rw [List.any_eq_true]
    constructor
    · intro hx
      obtain ⟨q, hq, rfl⟩ := List.mem_map.1 hx
      exact ⟨q, hq, by simp⟩
    · rintro ⟨q, hq, he⟩
      exact List.mem_map.2 ⟨q, hq, by simpa using he⟩
  have HM := hide hmem
  clear hmem h1 h2 h3 hF h
  generalize d.seen = l at *
  generalize fD l = D0 at *
  go_enter Try.func27, Try.ntmps27
  go_wp2_with (first
    | (go_at_call 32; refine (unhide hfl).mono ?_; rintro e w9 ⟨rfl, hw9⟩; rw [hw9]; clear hw9)
    | (at_len; refine wpList_len_own _ rfl _ 54 rfl 9 69 Try.underlying54 _ bs l.length _ rfl hown ?_)
    | (at_make; refine wpList_make_own _ rfl _ _ 52 rfl w.heap.size 9 i0 (.string ⟨#[]⟩) 1 Try.underlying52 hi hz0 hz1 _ _ _ (Maps.size D0) rfl rfl rfl (by rw [hz2]; omega) (by unfold maxLen; omega) (Nat.le_refl _) ?_; intro w1 hrow1 hg1; have c21 : w1.cell? ⟨p, 2, none⟩ = some (.map (some bs)) := (hg1.cell_far ⟨p, 2, none⟩ (unhide HP) (by simp)).trans c2)
    | (at_range; refine wpList_range_own _ rfl _ 54 rfl 9 69 law9 Try.underlying54 _ bs l.length _ rfl (hown.kept hg1 (by simp)) ?_; intro w0 hrg0 hg0 hs0)
    | go_in)
  go_frame
  go_loopw [3, 4] (fun v _ wr => ∃ (left : Lit → Bool) (cnt : Nat) (ss : List (List UInt8)), wr.ranges Try.prog 9 fileE bs w1.heap.size l.length D0 left cnt ∧ ss.length + cnt ≤ Maps.size D0 ∧
      wr.ownsRow w.heap.size 9 1 v ss.length (ss.map encStr) ∧ v ≠ .slice none 0 0 ∧ Collected D0 left ss ∧ Below w.heap.size w wr)
    (fun _ _ wr => wr.rangeLeft bs w1.heap.size)
  case atStart =>
    exact ⟨_, _, [], hrg0, by simp, hrow1.kept hg0 (Or.inr (by simp [Value.ownBlock])), by simp, Collected.start D0,
      ((Below.refl _ _).grown hg1 (Nat.le_refl _) (fun j hj => by cases hj)).grown hg0 hg1.size (fun j hj => by cases hj)⟩
  case round =>
    obtain ⟨left, cnt, ss, hrg, hcs, hrow, hnn, hC, hnx⟩ := hrel
    go_wp2_with (first
      | (at_next; refine wpList_next_ranges _ rfl _ rfl 9 law9 fileE encStr (fun x : List UInt8 => Value.agg #[.string ⟨x.toArray⟩]) (fun key kl hk => by obtain ⟨x, hx, _⟩ := Maps.keyOf_str Try.underlying9 hk; exact ⟨x, hx⟩) inv_file bs w1.heap.size l.length _ _ _ rfl hrg ?_ ?_)
      | go_in)
    · intro hc0 hl0
      rcases hrow.2 with ⟨hnil, _⟩ | ⟨g, cap, cur, rfl, hbase, hb, h1, h2, h3, h4⟩
      · exact absurd hnil hnn
      have hH : Holds encStr wr g 0 ss.toArray := holds_of_block hb (by simpa using h4)
      have hgl : g < wr.heap.size := (Array.getElem?_eq_some_iff.1 hb).1
      have hc := hide (Try.slices_Sort_string g 0 cap ss wr hH hgl (by omega))
      have hfin : Hid (ss.mergeSort (fun x y => decide (x ≤ y)) = nms l) := by
        refine ris_ext _ _ (strict_of hC.1) (unhide HN) (fun x => ?_)
        rw [List.mem_mergeSort, hC.2 x, hl0, (unhide HM) x]
        simp
      go_wp2_with (go_at_call 48; refine hc.out.mono ?_; rintro e w' ⟨rfl, nn, os, rfl⟩)
      go_ret
      have hle : ss.length = (nms l).length := by rw [← unhide hfin, List.length_mergeSort]
      refine ⟨⟨g, cap, by rw [← hle]; rfl, ?_⟩, hnx.grown (grownBy_sorted _) hnx.size (fun j hj => by cases hj; exact hbase)⟩
      rw [← hle, ← unhide hfin]
      exact ownsRow_sorted (by simp) hbase hb h1 h2 h3
    · intro x c kl yd yp w2 cnt2 hkey hlk hv hat hrg2 hlt hg2 hs2 hen
      obtain ⟨x', ex, rfl, _⟩ := Maps.keyOf_str Try.underlying9 hkey
      obtain rfl : x = x' := encStr_inj ex
      have hrow2 := hrow.kept hg2 (Or.inr (row_ne_iter hrow hrg).symm)
      clear hs2
      go_wp2_with (first
        | (at_builtin; refine wpList_append_own _ rfl _ _ 52 rfl w.heap.size 9 i0 (.string ⟨#[]⟩) 1 16 Try.underlying52 hi hz0 hz1 hz2 rfl (by decide) _ _ _ rfl (hrow2.alloc _) ⟨w2.heap.size, 0, none⟩ 1 1 [encStr x] rfl rfl (cell_one_new _ _ _) (by simp [Value.oneCell', encStr]) (by unfold maxLen at *; omega) (by omega) (by have := hnx.size; have := hg2.size; simp; omega) ?_; intro v' w3 hown' hg3 hnil3; go_frame)
        | go_in)
      have hrg3 := (hrg2.alloc _).kept hg3 (row_ne_low hrow2 hbl) (row_ne_iter hrow2 hrg2)
      go_roundw
      case rel =>
        refine ⟨_, cnt2, ss ++ [x], hrg3, by simp; omega, by simpa using hown', fun hv' => by have := (hnil3.1 hv').2; omega, hC.step hlk hat, ?_⟩
        exact ((hnx.grown hg2 hnx.size (fun j hj => by cases hj; exact hg1.size)).alloc (by have := hnx.size; have := hg2.size; omega) _).grown hg3 (by have := hnx.size; have := hg2.size; simp; omega) (fun j hj => (hrow2.lt j hj).1)
      case measure => rw [hrg3.left_eq, hrg.left_eq]; exact hlt
end Go.Proofs.Ytpngcmlaimcceaa
