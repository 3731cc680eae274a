/- How a wal's records lie in its files, plain; what a crash leaves. -/
import Derived.Test.YtgimciacapfbfaaGreatDoorLoa
import Derived.Test.YtgimciacapfbfaaGreatDoorInv
import Derived.Test.YtgimciacapfbfaaGreatDoorCrb
namespace Go.Proofs.YtgimciacapfbfaaGreatDoor
open Go.RowKit
/-- Records in frames. -/
def frs (l : List (List UInt8)) : List UInt8 := l.flatMap frm
theorem frs_app (a b : List (List UInt8)) : frs (a ++ b) = frs a ++ frs b := List.flatMap_append
/-- The name of the wal. -/
abbrev wn : List UInt8 := [119]
/-- The files have these records, and these bytes behind them; ex: the file of the next record is there. -/
structure Lay (rs : List (List UInt8)) (t : List UInt8) (ex : Bool) (l : Fs) : Prop where
  srt : srt l
  has : ∀ x, hasF l x = true ↔ ∃ j, (32 * j < rs.length ∨ (j = rs.length / 32 ∧ ex = true)) ∧ x = pth wn (1 + 32 * j)
  get : ∀ j, j ≤ 1000 → get l (pth wn (1 + 32 * j)) = frs ((rs.drop (32 * j)).take 32) ++ (if j = rs.length / 32 then t else [])
theorem lay_nil : Lay [] [] false [] := ⟨List.Pairwise.nil, fun x => ⟨fun h => by simp [hasF] at h, fun ⟨j, h, _⟩ => by simp at h⟩, fun j _ => by simp [get, frs]⟩
theorem lay_app {rs : List (List UInt8)} {ex : Bool} {l : Fs} (h : Lay rs [] ex l) (hn : rs.length ≤ 1000) (t : List UInt8) : Lay rs t true (run5 l (.app (pth wn (1 + 32 * (rs.length / 32))) t)) := by
  refine ⟨put_srt h.srt _ _, fun x => ?_, fun j hj => ?_⟩
  · constructor
    · intro hx
      by_cases e : x = pth wn (1 + 32 * (rs.length / 32))
      · exact ⟨_, Or.inr ⟨rfl, rfl⟩, e⟩
      · obtain ⟨p, hp, rfl⟩ := has_iff.1 hx
        rcases mem_fins.1 hp with rfl | hp
        · exact absurd rfl e
        · obtain ⟨j, hj, hx'⟩ := (h.has p.1).1 (has_iff.2 ⟨p, (mem_del.1 hp).1, rfl⟩)
          exact ⟨j, hj.elim Or.inl (fun h => Or.inr ⟨h.1, rfl⟩), hx'⟩
    · rintro ⟨j, hj, rfl⟩
      rcases hj with hj | ⟨rfl, _⟩
      · exact has_put ((h.has _).2 ⟨j, Or.inl hj, rfl⟩)
      · exact has_put_same _ _ _
  · show get (put l _ _) _ = _
    by_cases e : j = rs.length / 32
    · rw [e, get_put_same, h.get _ (by omega), if_pos rfl, if_pos rfl, List.append_nil]
    · rw [get_put_ne (fun e' => e (by have := pth_inj (by omega) (by omega) e'; omega)), h.get j hj, if_neg e, if_neg e]
theorem lay_full {rs : List (List UInt8)} {b : List UInt8} {l : Fs} (h : Lay rs (frm b) true l) : Lay (rs ++ [b]) [] false l := by
  have hl : (rs ++ [b]).length = rs.length + 1 := by simp
  refine ⟨h.srt, fun x => ?_, fun j hj => ?_⟩
  · rw [h.has x]
    constructor
    · rintro ⟨j, hj, rfl⟩
      exact ⟨j, Or.inl (by rw [hl]; omega), rfl⟩
    · rintro ⟨j, hj, rfl⟩
      rcases hj with hj | ⟨_, hf⟩
      · rw [hl] at hj
        refine ⟨j, ?_, rfl⟩
        by_cases e : 32 * j < rs.length
        · exact Or.inl e
        · exact Or.inr ⟨by omega, rfl⟩
      · cases hf
  · rw [h.get j hj]
    have e0 : (if j = (rs ++ [b]).length / 32 then ([] : List UInt8) else []) = [] := by split <;> rfl
    rw [e0, List.append_nil]
    by_cases e : j = rs.length / 32
    · rw [if_pos e, List.drop_append_of_le_length (by omega), List.take_of_length_le (by rw [List.length_drop]; omega), List.take_of_length_le (by simp; omega), frs_app]
      congr 1
      simp [frs]
    · rw [if_neg e, List.append_nil]
      rcases Nat.lt_or_ge j (rs.length / 32) with h' | h'
      · rw [List.drop_append_of_le_length (by omega), List.take_append_of_le_length (by rw [List.length_drop]; omega)]
      · rw [List.drop_of_length_le (by omega), List.drop_of_length_le (by omega)]
theorem lay_cut {rs : List (List UInt8)} {t : List UInt8} {l : Fs} (h : Lay rs t true l) (hn : rs.length ≤ 1000) : Lay rs [] true (run5 l (.tr (pth wn (1 + 32 * (rs.length / 32))) (frs ((rs.drop (32 * (rs.length / 32))).take 32)).length)) := by
  refine ⟨put_srt h.srt _ _, fun x => ?_, fun j hj => ?_⟩
  · constructor
    · intro hx
      by_cases e : x = pth wn (1 + 32 * (rs.length / 32))
      · exact ⟨_, Or.inr ⟨rfl, rfl⟩, e⟩
      · obtain ⟨p, hp, rfl⟩ := has_iff.1 hx
        rcases mem_fins.1 hp with rfl | hp
        · exact absurd rfl e
        · exact (h.has p.1).1 (has_iff.2 ⟨p, (mem_del.1 hp).1, rfl⟩)
    · intro hx
      exact has_put ((h.has x).2 hx)
  · show get (put l _ _) _ = _
    by_cases e : j = rs.length / 32
    · rw [e, get_put_same, h.get _ (by omega), if_pos rfl, if_pos rfl, List.take_left, List.append_nil]
    · rw [get_put_ne (fun e' => e (by have := pth_inj (by omega) (by omega) e'; omega)), h.get j hj, if_neg e, if_neg e]
/-- What a disk has seen of the records: s of them are synced. -/
structure His (s : Nat) (rs : List (List UInt8)) (d : PD) : Prop where
  le : s ≤ rs.length
  syn : ∃ ex, Lay (rs.take s) [] ex d.synced
  len : d.ops.length = rs.length - s
  ops : ∀ j (h : j < d.ops.length), d.ops[j] = .app (pth wn (1 + 32 * ((s + j) / 32))) (frm (rs[s + j]?.getD []))
theorem his_fold {s : Nat} {rs : List (List UInt8)} {d : PD} (h : His s rs d) (hn : rs.length ≤ 1000) : ∀ k, k ≤ rs.length - s → ∃ ex, Lay (rs.take (s + k)) [] ex ((d.ops.take k).foldl run5 d.synced)
  | 0, _ => by simpa using h.syn
  | k + 1, hk => by
    obtain ⟨ex, ih⟩ := his_fold h hn k (by omega)
    have hlen := h.len
    have hsl : (rs.take (s + k)).length = s + k := by rw [List.length_take]; omega
    have hkl : k < d.ops.length := by omega
    have hrk : s + k < rs.length := by omega
    rw [take_one d.ops k hkl, List.foldl_append]
    show ∃ ex, Lay _ _ ex (run5 _ d.ops[k])
    rw [h.ops k hkl]
    have h1 := lay_app ih (by omega) (frm (rs[s + k]?.getD []))
    rw [hsl] at h1
    have h2 := lay_full h1
    refine ⟨false, ?_⟩
    rw [show s + (k + 1) = (s + k) + 1 by omega, take_one rs (s + k) hrk]
    rw [List.getElem?_eq_getElem hrk] at h2 ⊢
    exact h2
theorem his_seen {s : Nat} {rs : List (List UInt8)} {d : PD} (h : His s rs d) (hn : rs.length ≤ 1000) (hs : d.seen = d.ops.foldl run5 d.synced) : ∃ ex, Lay rs [] ex d.seen := by
  have hle := h.le
  obtain ⟨ex, h1⟩ := his_fold h hn (rs.length - s) (Nat.le_refl _)
  rw [← h.len, List.take_length, ← hs, List.take_of_length_le (by rw [h.len]; omega)] at h1
  exact ⟨ex, h1⟩
theorem his_sync {s : Nat} {rs : List (List UInt8)} {d : PD} (h : His s rs d) (hn : rs.length ≤ 1000) (hs : d.seen = d.ops.foldl run5 d.synced) : His rs.length rs d.sync := by
  obtain ⟨ex, h1⟩ := his_seen h hn hs
  exact ⟨Nat.le_refl _, ⟨ex, by rw [List.take_length]; exact h1⟩, by show 0 = _; omega, fun j hj => absurd hj (by show ¬ j < 0; omega)⟩
theorem his_push {s : Nat} {rs : List (List UInt8)} {d : PD} (h : His s rs d) (b : List UInt8) : His s (rs ++ [b]) ⟨d.room, run5 d.seen (.app (pth wn (1 + 32 * (rs.length / 32))) (frm b)), d.synced, d.ops ++ [.app (pth wn (1 + 32 * (rs.length / 32))) (frm b)]⟩ := by
  have hle := h.le
  have hlen := h.len
  obtain ⟨ex, hsy⟩ := h.syn
  refine ⟨by simp; omega, ⟨ex, by rw [List.take_append_of_le_length hle]; exact hsy⟩, by simp; omega, fun j hj => ?_⟩
  have hj' : j < d.ops.length + 1 := by simpa using hj
  show (d.ops ++ [_])[j] = _
  rcases Nat.lt_or_ge j d.ops.length with h' | h'
  · rw [List.getElem_append_left h', h.ops j h', List.getElem?_append_left (by omega)]
  · obtain rfl : j = d.ops.length := by omega
    rw [List.getElem_append_right (Nat.le_refl _)]
    have e : s + d.ops.length = rs.length := by omega
    simp [e]
/-- What a crash leaves. -/
theorem his_crash {s : Nat} {rs : List (List UInt8)} {d : PD} (h : His s rs d) (hn : rs.length ≤ 1000) (K T : Nat) (hK : K ≤ d.ops.length) : ∃ r t ex, s ≤ r ∧ r ≤ rs.length ∧ Lay (rs.take r) t ex (d.left K T) ∧ (t = [] ∨ (ex = true ∧ ∃ b m, b ∈ rs ∧ 0 < m ∧ m < (frm b).length ∧ t = (frm b).take m)) := by
  have hle := h.le
  have hlen := h.len
  obtain ⟨ex, h1⟩ := his_fold h hn K (by omega)
  have hsl : (rs.take (s + K)).length = s + K := by rw [List.length_take]; omega
  rcases Nat.lt_or_ge K d.ops.length with hk | hk
  · rw [left_at hk, h.ops K hk]
    have hrk : s + K < rs.length := by omega
    rw [List.getElem?_eq_getElem hrk]
    show ∃ r t ex, _ ∧ _ ∧ Lay _ _ _ (torn5 _ (.app _ (frm rs[s + K])) (min T (frm rs[s + K]).length)) ∧ _
    unfold torn5
    by_cases hm : min T (frm rs[s + K]).length = 0
    · rw [if_pos hm]
      exact ⟨s + K, [], ex, by omega, by omega, h1, Or.inl rfl⟩
    · rw [if_neg hm]
      show ∃ r t ex, _ ∧ _ ∧ Lay _ _ _ (run5 _ (.app _ ((frm rs[s + K]).take (min T (frm rs[s + K]).length)))) ∧ _
      have h2 := lay_app h1 (by omega) ((frm rs[s + K]).take (min T (frm rs[s + K]).length))
      rw [hsl] at h2
      by_cases hf : (frm rs[s + K]).length ≤ T
      · rw [Nat.min_eq_right hf, List.take_length] at h2 ⊢
        have h3 := lay_full h2
        rw [← take_one rs (s + K) hrk] at h3
        exact ⟨s + K + 1, [], false, by omega, by omega, h3, Or.inl rfl⟩
      · exact ⟨s + K, _, true, by omega, by omega, h2, Or.inr ⟨rfl, rs[s + K], min T (frm rs[s + K]).length, List.getElem_mem hrk, by omega, by omega, rfl⟩⟩
  · rw [left_all (by omega)]
    exact ⟨s + K, [], ex, by omega, by omega, h1, Or.inl rfl⟩
end Go.Proofs.YtgimciacapfbfaaGreatDoor
