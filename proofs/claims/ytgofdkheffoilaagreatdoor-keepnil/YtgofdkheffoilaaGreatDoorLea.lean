/- Numbers of members: isId, noneOrId, areIds, areMembers; Index, Contains. -/
import Derived.Test.YtgofdkheffoilaaGreatDoorPee
namespace Go.Proofs.YtgofdkheffoilaaGreatDoor
open Go.RowKit Go.Maps
def idB (x : Int) : Bool := decide (1 ≤ x) && decide (x ≤ 64)
set_option maxRecDepth 100000 in
theorem isId_any (x : Int) (W : World) : Calls Tryz.prog 67 #[.int .i64 x] W fun e w' => e = .returned (.bool (idB x)) ∧ w' = W := by
  by_cases h1 : 1 ≤ x
  · by_cases h2 : x ≤ 64
    · rw [show idB x = true by simp [idB, h1, h2]]
      go_enter Tryz.func67, Tryz.ntmps67
      go_wp2_with fail
      go_ret
      exact ⟨rfl, rfl⟩
    · rw [show idB x = false by simp [idB, h2]]
      go_enter Tryz.func67, Tryz.ntmps67
      go_wp2_with fail
      go_ret
      exact ⟨rfl, rfl⟩
  · rw [show idB x = false by simp [idB, h1]]
    go_enter Tryz.func67, Tryz.ntmps67
    go_wp2_with fail
    go_ret
    exact ⟨rfl, rfl⟩
def noneB (x : Int) : Bool := (x == 0) || idB x
set_option maxRecDepth 100000 in
theorem none_any (x : Int) (W : World) : Calls Tryz.prog 68 #[.int .i64 x] W fun e w' => e = .returned (.bool (noneB x)) ∧ w' = W := by
  unfold noneB
  cases h : (x == 0) with
  | true =>
    go_enter Tryz.func68, Tryz.ntmps68
    go_wp2_with fail
    go_ret
    exact ⟨rfl, rfl⟩
  | false =>
    have HI := hide (isId_any x)
    go_enter Tryz.func68, Tryz.ntmps68
    go_wp2_with (first
      | (go_at_call 67; refine ((unhide HI) _).mono ?_; rintro e w9 ⟨rfl, hw9⟩; rw [hw9]; clear hw9))
    go_ret
    exact ⟨by simp, rfl⟩
/-- Rising from b on, each a member's number. -/
def aids : Int → List Int → Bool
  | _, [] => true
  | b, x :: l => (!decide (x ≤ b) && idB x) && aids x l
theorem E3_cell {W : World} {g off : Nat} {l : List Int} (h : E3.R W g off l) (j : Nat) (hj : j < l.length) : W.cell? ⟨g, off + j, none⟩ = some (.int .i64 l[j]) := by
  have := h j hj 0 _ rfl
  simpa [E3] using this
set_option maxRecDepth 100000 in
set_option maxHeartbeats 1000000 in
theorem areIds_any {W : World} {a : Option Addr} {l : List Int} (h : Sl E3 W a l) (cap : Nat) (hl : l.length ≤ 9000000000000000000) : Calls Tryz.prog 104 #[.slice a l.length cap] W fun e w' => e = .returned (.bool (aids 0 l)) ∧ w' = W := by
  obtain ⟨g, off, hg, hR⟩ := h
  generalize hn : l.length = n at *
  have HN := hide hn
  have HG := hide hg
  have HR := hide hR
  clear hn hg hR
  go_enter Tryz.func104, Tryz.ntmps104
  go_wp2_with fail
  go_loopw [3, 8] (fun vb vk wr => ∃ (k : Nat) (b : Int), k ≤ n ∧ vk = .int .i64 k ∧ vb = .int .i64 b ∧ wr = W ∧ Hid (aids 0 l = aids b (l.drop k))) (fun _ vk _ => n - (intOf vk).toNat)
  case atStart => exact ⟨0, 0, Nat.zero_le _, rfl, rfl, rfl, hide rfl⟩
  case round =>
    obtain ⟨k, b, hk, rfl, rfl, rfl, HE⟩ := hrel
    by_cases hlt : k < n
    · have hkl : k < l.length := by rw [unhide HN]; exact hlt
      obtain rfl := (unhide HG) (by omega)
      have hkn : (k : Int) < n := by omega
      have r0 := E3_cell (unhide HR) k hkl
      have HD : Hid (aids b (l.drop k) = ((!decide (l[k] ≤ b) && idB l[k]) && aids l[k] (l.drop (k + 1)))) := hide (by rw [List.drop_eq_getElem_cons hkl]; rfl)
      generalize l[k] = x at *
      have HI := hide (isId_any x)
      by_cases h1 : x ≤ b
      · have HF : Hid (aids 0 l = false) := hide (by rw [unhide HE, unhide HD]; simp [h1])
        go_wp2_with fail
        go_ret
        exact ⟨by rw [unhide HF]; rfl, rfl⟩
      · cases h2 : idB x with
        | true =>
          rw [h2] at HI
          have HF : Hid (aids 0 l = aids x (l.drop (k + 1))) := hide (by rw [unhide HE, unhide HD, h2]; simp [h1])
          go_wp2_with (first
            | (go_at_call 67; refine ((unhide HI) _).mono ?_; rintro e w9 ⟨rfl, hw9⟩; rw [hw9]; clear hw9))
          go_roundw
          case rel => exact ⟨k + 1, x, by omega, by go_num, rfl, by trivial, HF⟩
          case measure => simp [intOf]; omega
        | false =>
          rw [h2] at HI
          have HF : Hid (aids 0 l = false) := hide (by rw [unhide HE, unhide HD, h2]; simp)
          go_wp2_with (first
            | (go_at_call 67; refine ((unhide HI) _).mono ?_; rintro e w9 ⟨rfl, hw9⟩; rw [hw9]; clear hw9))
          go_ret
          exact ⟨by rw [unhide HF]; rfl, rfl⟩
    · obtain rfl : k = n := by omega
      have HF : Hid (aids 0 l = true) := hide (by rw [unhide HE, List.drop_of_length_le (by rw [unhide HN]; omega)]; rfl)
      go_wp2_with fail
      go_ret
      exact ⟨by rw [unhide HF]; rfl, rfl⟩
set_option maxRecDepth 100000 in
theorem areMem_any {W : World} {a : Option Addr} {l : List Int} (h : Sl E3 W a l) (cap : Nat) (hl : l.length ≤ 9000000000000000000) : Calls Tryz.prog 71 #[.slice a l.length cap] W fun e w' => e = .returned (.bool (decide (0 < l.length) && aids 0 l)) ∧ w' = W := by
  have HA := hide (areIds_any h cap hl)
  generalize l.length = n at *
  by_cases h0 : 0 < n
  · have h0' : 0 < (n : Int) := by omega
    go_enter Tryz.func71, Tryz.ntmps71
    go_wp2_with (first
      | (go_at_call 104; refine (unhide HA).mono ?_; rintro e w9 ⟨rfl, hw9⟩; rw [hw9]; clear hw9))
    go_ret
    exact ⟨by simp [h0], rfl⟩
  · have h0' : ¬ (0 < (n : Int)) := by omega
    go_enter Tryz.func71, Tryz.ntmps71
    go_wp2_with fail
    go_ret
    exact ⟨by simp, rfl⟩
/-- Where a number stands; -1: nowhere. -/
def idx (x : Int) : List Int → Int
  | [] => -1
  | y :: l => if x = y then 0 else if idx x l < 0 then -1 else idx x l + 1
theorem idx_mem (x : Int) : ∀ l : List Int, (0 ≤ idx x l ↔ x ∈ l) ∧ -1 ≤ idx x l
  | [] => by simp [idx]
  | y :: l => by
    have := idx_mem x l
    unfold idx
    by_cases h : x = y
    · simp [h]
    · rw [if_neg h]
      by_cases h2 : idx x l < 0
      · rw [if_pos h2]
        have : ¬ x ∈ l := fun hm => by have := this.1.2 hm; omega
        simp [h, this]
      · rw [if_neg h2]
        have h3 : x ∈ l := this.1.1 (by omega)
        simp [h3]
        omega
set_option maxRecDepth 100000 in
set_option maxHeartbeats 1000000 in
theorem index_any {W : World} {a : Option Addr} {l : List Int} (h : Sl E3 W a l) (cap : Nat) (x : Int) (hl : l.length ≤ 9000000000000000000) : Calls Tryz.prog 135 #[.slice a l.length cap, .int .i64 x] W fun e w' => ∃ i, e = .returned (.int .i64 i) ∧ (0 ≤ i ↔ x ∈ l) ∧ w' = W := by
  obtain ⟨g, off, hg, hR⟩ := h
  generalize hn : l.length = n at *
  have HN := hide hn
  have HG := hide hg
  have HR := hide hR
  clear hn hg hR
  go_enter Tryz.func135, Tryz.ntmps135
  go_wp2_with fail
  go_loopw [8] (fun vk wr => ∃ (k : Nat), k ≤ n ∧ vk = .int .i64 k ∧ wr = W ∧ Hid (x ∈ l ↔ x ∈ l.drop k)) (fun vk _ => n - (intOf vk).toNat)
  case atStart => exact ⟨0, Nat.zero_le _, rfl, rfl, hide (by simp)⟩
  case round =>
    obtain ⟨k, hk, rfl, rfl, HE⟩ := hrel
    by_cases hlt : k < n
    · have hkl : k < l.length := by rw [unhide HN]; exact hlt
      obtain rfl := (unhide HG) (by omega)
      have hkn : (k : Int) < n := by omega
      have r0 := E3_cell (unhide HR) k hkl
      have HD : Hid (x ∈ l.drop k ↔ x = l[k] ∨ x ∈ l.drop (k + 1)) := hide (by rw [List.drop_eq_getElem_cons hkl, List.mem_cons])
      generalize l[k] = y at *
      cases h1 : (x == y) with
      | true =>
        have HF : Hid (x ∈ l) := hide (by rw [unhide HE, unhide HD]; exact Or.inl (by simpa using h1))
        go_wp2_with fail
        go_ret
        exact ⟨_, rfl, ⟨fun _ => unhide HF, fun _ => by omega⟩, rfl⟩
      | false =>
        have HF : Hid (x ∈ l ↔ x ∈ l.drop (k + 1)) := hide (by rw [unhide HE, unhide HD]; simp at h1; simp [h1])
        go_wp2_with fail
        go_roundw
        case rel => exact ⟨k + 1, by omega, by go_num, by trivial, HF⟩
        case measure => simp [intOf]; omega
    · obtain rfl : k = n := by omega
      have HF : Hid (¬ x ∈ l) := hide (by rw [unhide HE, List.drop_of_length_le (by rw [unhide HN]; omega)]; simp)
      go_wp2_with fail
      go_ret
      exact ⟨_, rfl, ⟨fun h => absurd h (by decide), fun h => absurd h (unhide HF)⟩, rfl⟩
set_option maxRecDepth 100000 in
theorem contains_any {W : World} {a : Option Addr} {l : List Int} (h : Sl E3 W a l) (cap : Nat) (x : Int) (hl : l.length ≤ 9000000000000000000) : Calls Tryz.prog 109 #[.slice a l.length cap, .int .i64 x] W fun e w' => e = .returned (.bool (decide (x ∈ l))) ∧ w' = W := by
  have HA := hide (index_any h cap x hl)
  generalize l.length = n at *
  go_enter Tryz.func109, Tryz.ntmps109
  go_wp2_with (first
    | (go_at_call 135; refine (unhide HA).mono ?_; rintro e w9 ⟨i, rfl, hi, hw9⟩; rw [hw9]; clear hw9; have HI := hide hi; clear hi))
  all_goals
    go_ret
    refine ⟨?_, rfl⟩
    have := unhide HI
    congr 1
    congr 1
    first
      | (rw [decide_eq_decide]; exact this)
      | simp_all
end Go.Proofs.YtgofdkheffoilaaGreatDoor
