/- Files as a list, rising by name, plain; how a map of files reads as such a list. -/
import Derived.Test.YtpngcmlaimcceaaRows
import Derived.WalkKit
import Derived.Maps.OwnSet
import Derived.Maps.RangeWalk
namespace Go.Proofs.Ytpngcmlaimcceaa
open Go.RowKit Go.Maps Go.WideMaps
theorem hide {p : Prop} (h : p) : Hid p := h
/-- Files: names and bytes. -/
abbrev Fs := List (List UInt8 × List UInt8)
def fins (x : List UInt8 × List UInt8) : Fs → Fs
  | [] => [x]
  | y :: r => if bytesBefore x.1 y.1 then x :: y :: r else y :: fins x r
def del (l : Fs) (n : List UInt8) : Fs := l.filter (fun p => !(p.1 == n))
def put (l : Fs) (n b : List UInt8) : Fs := fins (n, b) (del l n)
def get (l : Fs) (n : List UInt8) : List UInt8 := match l.find? (fun p => p.1 == n) with | some p => p.2 | none => []
def hasF (l : Fs) (n : List UInt8) : Bool := l.any (fun p => p.1 == n)
def tot : Fs → Nat
  | [] => 0
  | p :: r => p.2.length + tot r
def ent (p : List UInt8 × List UInt8) : Lit × DataW Unit := (.string p.1, .lit (.string p.2))
/-- What a map of files reads as. -/
def fD (l : Fs) : DataW Unit := .map (l.map ent)
/-- Rising by name. -/
def srt (l : Fs) : Prop := l.Pairwise (fun p q => bytesBefore p.1 q.1 = true)
theorem ent_ins (x : List UInt8 × List UInt8) : ∀ l : Fs, (fins x l).map ent = DataW.insert (ent x) (l.map ent)
  | [] => rfl
  | y :: r => by
    unfold fins
    rw [List.map_cons, DataW.insert]
    show List.map ent (if bytesBefore x.1 y.1 then x :: y :: r else y :: fins x r) = if bytesBefore x.1 y.1 then ent x :: ent y :: r.map ent else ent y :: DataW.insert (ent x) (r.map ent)
    split
    · rfl
    · rw [List.map_cons, ent_ins x r]
theorem ent_del (l : Fs) (n : List UInt8) : (del l n).map ent = (l.map ent).filter (fun p => !p.1.sameKey (.string n)) := by
  unfold del
  induction l with
  | nil => rfl
  | cons y r ih =>
    rw [List.map_cons, List.filter_cons, List.filter_cons]
    have e : (ent y).1.sameKey (.string n) = (y.1 == n) := rfl
    rw [e]
    cases (y.1 == n) <;> simp [ih]
theorem fD_put (l : Fs) (n b : List UInt8) : (fD l).put (.string n) (.lit (.string b)) = fD (put l n b) := by
  unfold put
  show DataW.map (DataW.insert (ent (n, b)) ((l.map ent).filter (fun p => !p.1.sameKey (.string n)))) = .map ((fins (n, b) (del l n)).map ent)
  rw [ent_ins, ent_del]
theorem fD_del (l : Fs) (n : List UInt8) : (fD l).del (.string n) = fD (del l n) := by
  show DataW.map ((l.map ent).filter (fun p => !p.1.sameKey (.string n))) = .map ((del l n).map ent)
  rw [ent_del]
theorem get_cons (y : List UInt8 × List UInt8) (r : Fs) (n : List UInt8) : get (y :: r) n = if (y.1 == n) = true then y.2 else get r n := by
  unfold get
  rw [List.find?_cons]
  cases (y.1 == n) <;> rfl
theorem fD_at (l : Fs) (n : List UInt8) : (fD l).atKey (.string n) (.lit (.string [])) = .lit (.string (get l n)) := by
  unfold fD
  induction l with
  | nil => rfl
  | cons y r ih =>
    rw [get_cons]
    unfold DataW.atKey at ih ⊢
    simp only [List.map_cons, List.find?_cons] at ih ⊢
    have e : (ent y).1.sameKey (.string n) = (y.1 == n) := rfl
    rw [e]
    cases (y.1 == n)
    · exact ih
    · rfl
theorem fD_has (l : Fs) (n : List UInt8) : Maps.has (fD l) (.string n) = hasF l n := by
  show (l.map ent).any (fun p => p.1.sameKey (.string n)) = _
  unfold hasF
  rw [List.any_map]
  rfl
theorem fD_size (l : Fs) : Maps.size (fD l) = l.length := by
  show (l.map ent).length = _
  simp
theorem fD_nil : fD [] = .map [] := rfl
/-! ### what holds of the lists -/
theorem pw_of {α : Type} {R S : α → α → Prop} (H : ∀ a b, R a b → S a b) : ∀ {l : List α}, l.Pairwise R → l.Pairwise S
  | [], _ => List.Pairwise.nil
  | _ :: _, h => by
    cases h with
    | cons h1 h2 => exact List.Pairwise.cons (fun b hb => H _ _ (h1 b hb)) (pw_of H h2)
theorem srt_ne {l : Fs} (h : srt l) : l.Pairwise (fun p q => p.1 ≠ q.1) := pw_of (fun a b hb e => by rw [e, WideAt.bytes_irrefl] at hb; cases hb) h
theorem mem_fins {x y : List UInt8 × List UInt8} : ∀ {l : Fs}, y ∈ fins x l ↔ y = x ∨ y ∈ l
  | [] => by simp [fins]
  | z :: r => by
    unfold fins
    split
    · simp
    · rw [List.mem_cons, mem_fins, List.mem_cons]
      constructor
      · rintro (h | h | h)
        · exact Or.inr (Or.inl h)
        · exact Or.inl h
        · exact Or.inr (Or.inr h)
      · rintro (h | h | h)
        · exact Or.inr (Or.inl h)
        · exact Or.inl h
        · exact Or.inr (Or.inr h)
theorem mem_del {l : Fs} {n : List UInt8} {y : List UInt8 × List UInt8} : y ∈ del l n ↔ y ∈ l ∧ y.1 ≠ n := by
  unfold del
  rw [List.mem_filter]
  simp
theorem del_srt {l : Fs} (h : srt l) (n : List UInt8) : srt (del l n) := h.filter _
theorem fins_srt {x : List UInt8 × List UInt8} : ∀ {l : Fs}, srt l → (∀ p ∈ l, p.1 ≠ x.1) → srt (fins x l)
  | [], _, _ => by simp [fins, srt]
  | y :: r, h, hn => by
    obtain ⟨h1, h2⟩ := List.pairwise_cons.1 h
    unfold fins
    split
    · rename_i hb
      refine List.pairwise_cons.2 ⟨fun p hp => ?_, h⟩
      rcases List.mem_cons.1 hp with rfl | hp
      · exact hb
      · exact WideShapes.bytes_trans _ _ _ hb (h1 p hp)
    · rename_i hb
      refine List.pairwise_cons.2 ⟨fun p hp => ?_, fins_srt h2 (fun p hp => hn p (List.mem_cons_of_mem _ hp))⟩
      rcases mem_fins.1 hp with rfl | hp
      · rcases WideAt.bytes_total y.1 p.1 (hn y (by simp)) with h3 | h3
        · exact h3
        · exact absurd h3 hb
      · exact h1 p hp
theorem put_srt {l : Fs} (h : srt l) (n b : List UInt8) : srt (put l n b) := fins_srt (del_srt h n) (fun _ hp => (mem_del.1 hp).2)
theorem tot_fins (x : List UInt8 × List UInt8) : ∀ l : Fs, tot (fins x l) = x.2.length + tot l
  | [] => rfl
  | y :: r => by
    unfold fins
    split
    · rfl
    · rw [tot, tot_fins x r, tot]; omega
theorem del_none {l : Fs} {n : List UInt8} (h : ∀ p ∈ l, p.1 ≠ n) : del l n = l := by
  unfold del
  exact List.filter_eq_self.2 (fun p hp => by simpa using h p hp)
theorem tot_del {n : List UInt8} : ∀ {l : Fs}, l.Pairwise (fun p q => p.1 ≠ q.1) → tot (del l n) + (get l n).length = tot l
  | [], _ => rfl
  | y :: r, h => by
    obtain ⟨h1, h2⟩ := List.pairwise_cons.1 h
    have ih := tot_del (n := n) h2
    by_cases hy : y.1 = n
    · have e1 : del (y :: r) n = r := by
        have : del (y :: r) n = del r n := by unfold del; rw [List.filter_cons]; simp [hy]
        rw [this]
        exact del_none (fun p hp e => h1 p hp (hy.trans e.symm))
      have e2 : get (y :: r) n = y.2 := by rw [get_cons]; simp [hy]
      rw [e1, e2, tot]; omega
    · have e1 : del (y :: r) n = y :: del r n := by unfold del; rw [List.filter_cons]; simp [hy]
      have e2 : get (y :: r) n = get r n := by rw [get_cons]; simp [hy]
      rw [e1, e2, tot, tot]; omega
theorem tot_put {l : Fs} (h : srt l) (n b : List UInt8) : tot (put l n b) + (get l n).length = tot l + b.length := by
  unfold put
  have := tot_del (n := n) (srt_ne h)
  rw [tot_fins]
  show b.length + _ + _ = _
  omega
theorem get_le (l : Fs) (n : List UInt8) : (get l n).length ≤ tot l := by
  induction l with
  | nil => simp [get]
  | cons y r ih =>
    by_cases hy : y.1 = n
    · have e2 : get (y :: r) n = y.2 := by rw [get_cons]; simp [hy]
      rw [e2, tot]; omega
    · have e2 : get (y :: r) n = get r n := by rw [get_cons]; simp [hy]
      rw [e2, tot]; omega
theorem len_fins (x : List UInt8 × List UInt8) : ∀ l : Fs, (fins x l).length = l.length + 1
  | [] => rfl
  | y :: r => by
    unfold fins
    split
    · rfl
    · rw [List.length_cons, len_fins x r, List.length_cons]
theorem len_del (l : Fs) (n : List UInt8) : (del l n).length ≤ l.length := List.length_filter_le _ _
theorem len_del_has {l : Fs} {n : List UInt8} (h : hasF l n = true) : (del l n).length + 1 ≤ l.length := by
  unfold hasF at h
  unfold del
  induction l with
  | nil => simp at h
  | cons y r ih =>
    rw [List.filter_cons]
    by_cases hy : y.1 = n
    · have := List.length_filter_le (fun p : List UInt8 × List UInt8 => !(p.1 == n)) r
      simp [hy]; omega
    · have := ih (by simpa [hy] using h)
      simp [hy]; omega
theorem len_put (l : Fs) (n b : List UInt8) : (put l n b).length ≤ l.length + 1 := by
  unfold put
  rw [len_fins]
  have := len_del l n
  omega
theorem len_put_has {l : Fs} {n : List UInt8} (h : hasF l n = true) (b : List UInt8) : (put l n b).length ≤ l.length := by
  unfold put
  rw [len_fins]
  exact len_del_has h
theorem get_none {l : Fs} {n : List UInt8} (h : hasF l n = false) : get l n = [] := by
  unfold get
  have : l.find? (fun p => p.1 == n) = none := by
    rw [List.find?_eq_none]
    intro p hp hq
    unfold hasF at h
    rw [List.any_eq_false] at h
    exact h p hp hq
  rw [this]
/-! ### what is done -/
/-- A thing that is done: bytes behind a file's, a file's bytes, a cut, another name, a removal. -/
abbrev Op5 : Type := (List UInt8 × List UInt8) ⊕ ((List UInt8 × List UInt8) ⊕ ((List UInt8 × Nat) ⊕ ((List UInt8 × List UInt8) ⊕ List UInt8)))
abbrev Op5.app (n t : List UInt8) : Op5 := .inl (n, t)
abbrev Op5.wr (n t : List UInt8) : Op5 := .inr (.inl (n, t))
abbrev Op5.tr (n : List UInt8) (k : Nat) : Op5 := .inr (.inr (.inl (n, k)))
abbrev Op5.ren (a b : List UInt8) : Op5 := .inr (.inr (.inr (.inl (a, b))))
abbrev Op5.rm (n : List UInt8) : Op5 := .inr (.inr (.inr (.inr n)))
theorem Op5.on {motive : Op5 → Prop} (app : ∀ n t, motive (Op5.app n t)) (wr : ∀ n t, motive (Op5.wr n t)) (tr : ∀ n k, motive (Op5.tr n k)) (ren : ∀ a b, motive (Op5.ren a b)) (rm : ∀ n, motive (Op5.rm n)) (o : Op5) : motive o := by
  rcases o with ⟨n, t⟩ | ⟨n, t⟩ | ⟨n, k⟩ | ⟨a, b⟩ | n
  · exact app n t
  · exact wr n t
  · exact tr n k
  · exact ren a b
  · exact rm n
def run5 (l : Fs) : Op5 → Fs
  | .inl (n, t) => put l n (get l n ++ t)
  | .inr (.inl (n, t)) => put l n t
  | .inr (.inr (.inl (n, k))) => put l n ((get l n).take k)
  | .inr (.inr (.inr (.inl (a, b)))) => put (del l a) b (get l a)
  | .inr (.inr (.inr (.inr n))) => del l n
/-- The bytes that a crash may tear. -/
def txt5 : Op5 → List UInt8
  | .inl (_, t) => t
  | .inr (.inl (_, t)) => t
  | _ => []
/-- The same thing with other bytes. -/
def with5 : Op5 → List UInt8 → Op5
  | .inl (n, _), t => .app n t
  | .inr (.inl (n, _)), t => .wr n t
  | o, _ => o
theorem with_txt (o : Op5) : with5 o (txt5 o) = o := by cases o using Op5.on <;> rfl
def okN (n : List UInt8) : Prop := n ≠ [] ∧ n.length ≤ 128
/-- It may be done. -/
def ok5 (l : Fs) : Op5 → Prop
  | .inl (n, _) => okN n
  | .inr (.inl (n, _)) => okN n
  | .inr (.inr (.inl (n, k))) => okN n ∧ hasF l n = true ∧ k ≤ (get l n).length
  | .inr (.inr (.inr (.inl (a, b)))) => okN a ∧ okN b ∧ hasF l a = true
  | .inr (.inr (.inr (.inr n))) => okN n
/-- Files that may be: rising, no more bytes than C, no more than 4096. -/
structure Fine (C : Nat) (l : Fs) : Prop where
  srt : srt l
  tot : tot l ≤ C
  len : l.length ≤ 4096
  names : ∀ p ∈ l, okN p.1
def Val (C : Nat) : Fs → List Op5 → Prop
  | l, [] => Fine C l
  | l, o :: r => Fine C l ∧ ok5 l o ∧ Val C (run5 l o) r
theorem Val.head {C : Nat} {l : Fs} {r : List Op5} (h : Val C l r) : Fine C l := by
  cases r with
  | nil => exact h
  | cons o r => exact h.1
theorem Val.snoc {C : Nat} {o : Op5} : ∀ {r : List Op5} {l : Fs}, Val C l r → ok5 (r.foldl run5 l) o → Fine C (run5 (r.foldl run5 l) o) → Val C l (r ++ [o])
  | [], _, h, h1, h2 => ⟨h, h1, h2⟩
  | _ :: _, _, h, h1, h2 => ⟨h.1, h.2.1, Val.snoc h.2.2 h1 h2⟩
theorem Val.last {C : Nat} : ∀ {r : List Op5} {l : Fs}, Val C l r → Fine C (r.foldl run5 l)
  | [], _, h => h
  | _ :: r, _, h => Val.last (r := r) h.2.2
theorem Val.mid {C : Nat} : ∀ {k : Nat} {r : List Op5} {l : Fs}, Val C l r → (h : k < r.length) → Fine C ((r.take k).foldl run5 l) ∧ ok5 ((r.take k).foldl run5 l) r[k] ∧ Fine C ((r.take (k + 1)).foldl run5 l)
  | 0, _ :: _, _, h, _ => ⟨h.1, h.2.1, Val.head h.2.2⟩
  | k + 1, _ :: r, _, h, hk => Val.mid (k := k) (r := r) h.2.2 (by simpa using hk)
theorem Val.mono {C C' : Nat} (hc : C ≤ C') : ∀ {r : List Op5} {l : Fs}, Val C l r → Val C' l r
  | [], _, h => ⟨h.srt, Nat.le_trans h.tot hc, h.len, h.names⟩
  | _ :: _, _, h => ⟨⟨h.1.srt, Nat.le_trans h.1.tot hc, h.1.len, h.1.names⟩, h.2.1, Val.mono hc h.2.2⟩
/-- A disk, plain. -/
structure PD where
  room : Nat
  seen : Fs
  synced : Fs
  ops : List Op5
def PD.done (d : PD) (o : Op5) : Nat × PD := (0, ⟨d.room, run5 d.seen o, d.synced, d.ops ++ [o]⟩)
def PD.grow (d : PD) (n : List UInt8) (more : Int) (o : Op5) : Nat × PD :=
  if more > (d.room : Int) - (tot d.seen : Int) ∨ (hasF d.seen n = false ∧ d.seen.length = 4096) then (6, d) else d.done o
def badN (n : List UInt8) : Bool := decide (n = [] ∨ 128 < n.length)
theorem okN_of {n : List UInt8} (h : badN n = false) : okN n := by
  have := of_decide_eq_false h
  exact ⟨fun e => this (Or.inl e), by have := fun e => this (Or.inr e); omega⟩
def PD.app (d : PD) (n t : List UInt8) : Nat × PD := if badN n then (2, d) else d.grow n t.length (.app n t)
def PD.wr (d : PD) (n t : List UInt8) : Nat × PD := if badN n then (2, d) else d.grow n ((t.length : Int) - (get d.seen n).length) (.wr n t)
def PD.tr (d : PD) (n : List UInt8) (k : Int) : Nat × PD := if badN n then (2, d) else if hasF d.seen n then (if k < 0 ∨ ((get d.seen n).length : Int) < k then (2, d) else d.done (.tr n k.toNat)) else (5, d)
def PD.ren (d : PD) (a b : List UInt8) : Nat × PD := if badN a || badN b then (2, d) else if hasF d.seen a then d.done (.ren a b) else (5, d)
def PD.rm (d : PD) (n : List UInt8) : Nat × PD := if badN n then (2, d) else if hasF d.seen n then d.done (.rm n) else (5, d)
def PD.sync (d : PD) : PD := ⟨d.room, d.seen, d.seen, []⟩
def PD.rd (d : PD) (n : List UInt8) : List UInt8 × Nat := if badN n then ([], 2) else if hasF d.seen n then (get d.seen n, 0) else ([], 5)
/-- The files behind a crash. -/
def PD.left (d : PD) (keep torn : Nat) : Fs :=
  match d.ops[keep]? with
  | some o => if min torn (txt5 o).length = 0 then (d.ops.take keep).foldl run5 d.synced else run5 ((d.ops.take keep).foldl run5 d.synced) (with5 o ((txt5 o).take (min torn (txt5 o).length)))
  | none => (d.ops.take keep).foldl run5 d.synced
def PD.crash (d : PD) (keep torn : Int) : Nat × PD :=
  if keep < 0 ∨ (d.ops.length : Int) < keep ∨ torn < 0 then (2, d) else (0, ⟨d.room, d.left keep.toNat torn.toNat, d.left keep.toNat torn.toNat, []⟩)
end Go.Proofs.Ytpngcmlaimcceaa
