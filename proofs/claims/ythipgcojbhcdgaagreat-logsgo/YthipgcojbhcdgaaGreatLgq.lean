/- A group whose messages all come: plain. -/
import Derived.Test.YthipgcojbhcdgaaGreatNlk
namespace Go.Proofs.YthipgcojbhcdgaaGreat
/-- All messages come. -/
def drain (n : Nat) : Nat → PG → PG
  | 0, g => g
  | f + 1, g => match g.2.1 with | [] => g | _ :: _ => drain n f (pstep n g 1 0 0 false)
def tickI (n : Nat) (g : PG) (i : Nat) : PG := drain n 400 (pstep n g 0 i (2 * i) false)
def tkF (n : Nat) : Nat → Nat → PG → PG
  | 0, _, g => g
  | j + 1, i, g => tkF n j (i + 1) (tickI n g i)
/-- Who leads is handed data. -/
def prF (d : ByteArray) : Nat → Nat → PG × Bool → PG × Bool
  | 0, _, x => x
  | j + 1, i, (g, said) => match said with
    | true => (g, true)
    | false => match g.1[i]? with
      | none => (g, false)
      | some s => if s.role = 2 then ((g.1.set i (s.prop d), g.2.1, g.2.2), true) else prF d j (i + 1) (g, false)
def roundT (n : Nat) (d : ByteArray) (t : Nat) (x : PG × Bool) : PG × Bool := if 60 < t then prF d n 0 (tkF n n 0 x.1, x.2) else (tkF n n 0 x.1, x.2)
def runT (n : Nat) (d : ByteArray) : Nat → Nat → PG × Bool → PG × Bool
  | 0, _, x => x
  | c + 1, t, x => runT n d c (t + 1) (roundT n d t x)
/-- What follows the ticks of a round. -/
def rT2 (n : Nat) (d : ByteArray) (t : Nat) (x : PG × Bool) : PG × Bool := if 60 < t then prF d n 0 x else x
theorem runT_succ (n : Nat) (d : ByteArray) (c t : Nat) (g : PG) (sd : Bool) : runT n d (c + 1) t (g, sd) = runT n d c (t + 1) (rT2 n d t (tkF n n 0 g, sd)) := rfl
theorem tkF_succ (n j i : Nat) (g : PG) : tkF n (j + 1) i g = tkF n j (i + 1) (tickI n g i) := rfl
theorem drain_nil (n f : Nat) (g : PG) (h : g.2.1 = []) : drain n f g = g := by
  cases f with
  | zero => rfl
  | succ f => unfold drain; rw [h]
theorem drain_cons (n f : Nat) (g : PG) (h : g.2.1 ≠ []) : drain n (f + 1) g = drain n f (pstep n g 1 0 0 false) := by
  cases hw : g.2.1 with
  | nil => exact absurd hw h
  | cons m l =>
    show (match g.2.1 with | [] => g | _ :: _ => drain n f (pstep n g 1 0 0 false)) = _
    rw [hw]
theorem prF_said (d : ByteArray) (j i : Nat) (g : PG) : prF d j i (g, true) = (g, true) := by cases j <;> rfl
theorem prF_lead (d : ByteArray) (j i : Nat) (g : PG) {s : PP} (h : g.1[i]? = some s) (hr : s.role = 2) : prF d (j + 1) i (g, false) = ((g.1.set i (s.prop d), g.2.1, g.2.2), true) := by
  show (match g.1[i]? with | none => (g, false) | some s => if s.role = 2 then ((g.1.set i (s.prop d), g.2.1, g.2.2), true) else prF d j (i + 1) (g, false)) = _
  rw [h]
  exact if_pos hr
theorem prF_not (d : ByteArray) (j i : Nat) (g : PG) {s : PP} (h : g.1[i]? = some s) (hr : s.role ≠ 2) : prF d (j + 1) i (g, false) = prF d j (i + 1) (g, false) := by
  show (match g.1[i]? with | none => (g, false) | some s => if s.role = 2 then ((g.1.set i (s.prop d), g.2.1, g.2.2), true) else prF d j (i + 1) (g, false)) = _
  rw [h]
  exact if_neg hr
/-- The end of it all. -/
def fin (n : Nat) (d : ByteArray) : PG × Bool := runT n d 200 0 ((news n, [], []), false)
def seen (s : PP) : Nat × Nat × Option ByteArray := (s.commit, s.log.length, s.log.getLast?.map (·.d))
theorem fin_said {n : Nat} (h1 : 1 ≤ n) (h5 : n ≤ 5) (d : ByteArray) : (fin n d).2 = true := by
  obtain rfl | rfl | rfl | rfl | rfl : n = 1 ∨ n = 2 ∨ n = 3 ∨ n = 4 ∨ n = 5 := by omega
  · kernel_rfl
  · kernel_rfl
  · kernel_rfl
  · kernel_rfl
  · kernel_rfl
set_option maxRecDepth 100000 in
theorem fin_seen {n : Nat} (h1 : 1 ≤ n) (h5 : n ≤ 5) (d : ByteArray) : ∃ c, 1 ≤ c ∧ (fin n d).1.1.map seen = List.replicate n (c, c, some d) := by
  obtain rfl | rfl | rfl | rfl | rfl : n = 1 ∨ n = 2 ∨ n = 3 ∨ n = 4 ∨ n = 5 := by omega
  · exact ⟨2, by decide, by kernel_rfl⟩
  · exact ⟨3, by decide, by kernel_rfl⟩
  · exact ⟨3, by decide, by kernel_rfl⟩
  · exact ⟨3, by decide, by kernel_rfl⟩
  · exact ⟨3, by decide, by kernel_rfl⟩
theorem fin_at {n : Nat} (h1 : 1 ≤ n) (h5 : n ≤ 5) (d : ByteArray) {s : PP} (h : s ∈ (fin n d).1.1) : 1 ≤ s.commit ∧ s.commit = s.log.length ∧ s.log.getLast?.map (·.d) = some d := by
  obtain ⟨c, hc, he⟩ := fin_seen h1 h5 d
  have : seen s ∈ List.replicate n (c, c, some d) := by rw [← he]; exact List.mem_map.2 ⟨s, h, rfl⟩
  have e := List.eq_of_mem_replicate this
  unfold seen at e
  injection e with e1 e2
  injection e2 with e2 e3
  exact ⟨by omega, by omega, e3⟩
end Go.Proofs.YthipgcojbhcdgaaGreat
