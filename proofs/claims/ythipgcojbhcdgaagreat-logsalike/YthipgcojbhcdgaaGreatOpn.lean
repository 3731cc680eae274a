/- Rows of acts as arguments, opened. -/
import Derived.Test.YthipgcojbhcdgaaGreatNlk
import Derived.Test.YthipgcojbhcdgaaGreatRows
import Derived.ProofKit
import Derived.OpenShut
import Derived.ShutString
import Derived.SizedLaws
import Derived.SevenTiedAt
namespace Go.Proofs.YthipgcojbhcdgaaGreat
open Go.ChangeShapes Go.WideShapes Go.ChangeAt Go.RowKit
open Go.ChangeMaps (open_string shut_string)
theorem own : ownKnob Tryz.prog.godebug = none := by kernel_rfl
theorem laidOut : laidOutB Tryz.prog = true := by kernel_rfl
theorem list_of {α : Type} {Q : Nat → α → Prop} : ∀ m, (∀ i, i < m → ∃ x, Q i x) → ∃ l : List α, l.length = m ∧ ∀ i (h : i < l.length), Q i l[i]
  | 0, _ => ⟨[], rfl, fun i h => absurd h (Nat.not_lt_zero _)⟩
  | m + 1, hq => by
    obtain ⟨l, hl, hi⟩ := list_of m (fun i h => hq i (by omega))
    obtain ⟨x, hx⟩ := hq m (by omega)
    refine ⟨l ++ [x], by simp [hl], fun i h => ?_⟩
    by_cases e : i < l.length
    · rw [List.getElem_append_left e]; exact hi i e
    · have : i = l.length := by simp at h; omega
      subst this
      rw [List.getElem_append_right (Nat.le_refl _)]
      simp [hl, hx]
section
variable {H : Type} {enc : TypeId × Value → H} {w : World} {base : Nat} {sp : Nat → Bool} {held : Bool}
theorem cells_get {a : Addr} {n : Nat} {cs : List Value} (h : w.cells? base a n = some cs) (j : Nat) (hj : j < n) : w.cell? (a.add j) = cs[j]? := by
  unfold World.cells? at h
  split at h
  · exact mapM_some_get h j j (by simp [hj])
  · cases h
theorem spot_none {a : Addr} {k : Nat} {cs : List Value} (h : w.cells? base (a.add 0) k = some cs) (hk : 0 < k) (hc : cs.length = k) : a.spot = none := by
  have h1 := cells_get h 0 hk
  cases hsp : a.spot with
  | none => rfl
  | some z =>
    have e : w.cell? ((a.add 0).add 0) = none := by
      unfold World.cell?
      split
      · rw [if_pos (by simp [Addr.add, hsp])]
      · rfl
    rw [e, List.getElem?_eq_getElem (by omega)] at h1
    cases h1
theorem wall_mem {P : Program} {e : TypeId} {d : DataW H} : ∀ {l : List (DataW H)}, d ∈ l → ∀ n ∈ d.weights P e, n ∈ DataW.weightsAll P e l
  | x :: l, hd, n, hn => by
    rw [DataW.weightsAll]
    rcases List.mem_cons.1 hd with rfl | hd
    · exact List.mem_append_left _ hn
    · exact List.mem_append_right _ (wall_mem hd n hn)
/-- What is read is within the form's reach. -/
def Rch (t : TypeId) (d : DataW H) : Prop := ∀ n ∈ d.weights Tryz.prog t, n ≤ reachBytes
set_option maxRecDepth 100000 in
/-- A row of things of k cells each, as it is read out of one cell. -/
theorem open_in {α : Type} {k t e : Nat} {f : α → List Value} {ok : α → Prop} (hk : 0 < k) (hf : ∀ x, (f x).length = k) (hu : Tryz.prog.underlying t = some (.slice e)) (hce : Tryz.prog.cellsOf e = k)
    (hop : ∀ (fuel : Nat) (cs : List Value) (y : DataW H × List MemPlace), cs.length = k → Rch e y.1 → DataW.trod enc Tryz.prog w base sp held fuel e cs = some y → ∃ x, cs = f x ∧ ok x)
    {cl : List Value} {fuel : Nat} {y : DataW H × List MemPlace} (hw : Rch t y.1) (hf0 : DataW.trod enc Tryz.prog w base sp held fuel t cl = some y) :
    ∃ (L : List α) (a : Option Addr) (cap g off : Nat), cl = [.slice a L.length cap] ∧ (∀ x ∈ L, ok x) ∧ (L.length ≠ 0 → a = some ⟨g, off, none⟩) ∧ (L.length ≠ 0 → g < w.heap.size) ∧ L.length * Tryz.prog.bytesOf e ≤ reachBytes ∧ L.length ≤ cap ∧ ∀ j (h : j < L.length) c u, (f L[j])[c]? = some u → w.cell? ⟨g, off + j * k + c, none⟩ = some u := by
  rcases DataW.trod_slice hu hf0 with ⟨hcs, _⟩ | ⟨a, len0, cap0, elems, rest, n, _, hcs, hy, _, hl, _, hlen, hel, _⟩
  · exact ⟨[], none, 0, 0, 0, hcs, by simp, fun h => absurd rfl h, fun h => absurd rfl h, by simp, by simp, fun j h => by simp at h⟩
  · have hww : ∀ n ∈ DataW.weights Tryz.prog t (.slice (elems.map (·.1)) (rest.map (·.1)) : DataW H), n ≤ reachBytes := by
      have := hw
      rw [hy] at this
      exact this
    rw [DataW.weights, hu] at hww
    simp only at hww
    obtain ⟨l, hll, hx⟩ := list_of (Q := fun i x => w.cells? base (a.add (i * k)) k = some (f x) ∧ ok x) len0 (fun i hi => by
      have h := hel i hi
      rw [hce] at h
      rw [List.getElem?_eq_getElem (by omega), Option.bind_eq_some_iff] at h
      obtain ⟨cs, h1, h2⟩ := h
      have hcl : cs.length = k := by
        have := h1
        unfold World.cells? at this
        split at this
        · have := mapM_some_length this
          simpa using this
        · cases this
      obtain ⟨x, rfl, hok⟩ := hop _ _ _ hcl (fun m hm => hww m (List.mem_cons_of_mem _ (List.mem_append_left _ (wall_mem (List.mem_map.2 ⟨_, List.getElem_mem _, rfl⟩) m hm)))) h2
      exact ⟨x, h1, hok⟩)
    have hbytes : l.length * Tryz.prog.bytesOf e ≤ reachBytes := by
      have h := hww _ (List.mem_cons_self)
      rw [List.length_map, List.length_map, hlen] at h
      rw [hll]
      exact Nat.le_trans (Nat.mul_le_mul_right _ (Nat.le_add_right _ _)) h
    by_cases h0 : l.length = 0
    · refine ⟨l, some a, cap0, 0, 0, by rw [hll]; exact hcs, fun x hm => ?_, fun h => absurd h0 h, fun h => absurd h0 h, hbytes, by omega, fun j h => by omega⟩
      obtain ⟨i, hi, _⟩ := List.mem_iff_getElem.1 hm
      omega
    · have hb := World.cells?_block (hx 0 (by omega)).1 hk
      have h00 := (hx 0 (by omega)).1
      rw [Nat.zero_mul] at h00
      have hs : a.spot = none := spot_none h00 hk (hf _)
      have ea : ∀ z, a.add z = ⟨a.block, a.off + z, none⟩ := by
        intro z
        cases a
        simp only at hs
        subst hs
        rw [Addr.add_lit]
      refine ⟨l, some a, cap0, a.block, a.off, by rw [hll]; exact hcs, fun x hm => ?_, fun _ => ?_, fun _ => ?_, hbytes, by omega, fun j hj c u hu => ?_⟩
      · obtain ⟨i, hi, e⟩ := List.mem_iff_getElem.1 hm
        rw [← e]
        exact (hx i hi).2
      · cases a; simp_all
      · simpa [Addr.add] using hb
      · have hc : c < k := by have := (List.getElem?_eq_some_iff.1 hu).1; rw [hf] at this; exact this
        have h := cells_get (hx j hj).1 c hc
        rw [ea, Addr.add_lit] at h
        rw [h]
        exact hu
end
/-- An act's cells. -/
def encA (s : Act4) : List Value := [.int .i64 s.op, .int .i64 s.a, .int .i64 s.n, .bool s.keep]
section
variable {H : Type} {enc : TypeId × Value → H} {w : World} {base : Nat} {sp : Nat → Bool} {held : Bool}
set_option maxRecDepth 100000 in
theorem t_act {fuel : Nat} {cl : List Value} {y : DataW H × List MemPlace} (hsz : cl.length = 4) (hf : DataW.trod enc Tryz.prog w base sp held fuel 46 cl = some y) :
    ∃ s : Act4, cl = encA s ∧ True := by
  obtain ⟨xs, n0, _, hx, hl, hlen, hq⟩ := DataW.trod_struct Tryz.underlying46 hf
  have c3 : Tryz.prog.cellsOf 3 = 1 := by kernel_rfl
  have c4 : Tryz.prog.cellsOf 4 = 1 := by kernel_rfl
  match cl, hsz with
  | [a0, a1, a2, a3], _ =>
    match xs, hlen with
    | [y0, y1, y2, y3], _ =>
      have h0 : DataW.trod enc Tryz.prog w base sp held n0 3 (([a0, a1, a2, a3].drop 0).take (Tryz.prog.cellsOf 3)) = some y0 := hq 0 _ rfl
      have h1 : DataW.trod enc Tryz.prog w base sp held n0 3 (([a0, a1, a2, a3].drop 1).take (Tryz.prog.cellsOf 3)) = some y1 := hq 1 _ rfl
      have h2 : DataW.trod enc Tryz.prog w base sp held n0 3 (([a0, a1, a2, a3].drop 2).take (Tryz.prog.cellsOf 3)) = some y2 := hq 2 _ rfl
      have h3 : DataW.trod enc Tryz.prog w base sp held n0 4 (([a0, a1, a2, a3].drop 3).take (Tryz.prog.cellsOf 4)) = some y3 := hq 3 _ rfl
      rw [c3] at h0 h1 h2
      rw [c4] at h3
      obtain ⟨op, e0, _, w0⟩ := DataW.trod_int Tryz.underlying3 h0
      obtain ⟨a, e1, _, w1⟩ := DataW.trod_int Tryz.underlying3 h1
      obtain ⟨n, e2, _, w2⟩ := DataW.trod_int Tryz.underlying3 h2
      obtain ⟨kp, e3, _⟩ := DataW.trod_bool Tryz.underlying4 h3
      simp at e0 e1 e2 e3
      subst e0 e1 e2 e3
      exact ⟨⟨op, a, n, kp⟩, rfl, trivial⟩
set_option maxRecDepth 100000 in
theorem open_acts {v : Value} {d : DataW H} {ps : List MemPlace} {r : Reach} {b0 : Nat} (hw : Rch 40 d) (hval : Value.okWide Tryz.prog w r b0 40 v) (hd : DataW.Trod enc Tryz.prog w base sp held 40 v d ps) :
    ∃ (S : List Act4) (a : Option Addr) (cap g off : Nat), v = .slice a S.length cap ∧ (S.length ≠ 0 → a = some ⟨g, off, none⟩) ∧ RowA w g off S := by
  obtain ⟨a0, len0, cap0, rfl⟩ := okWide_slice Tryz.underlying40 hval
  obtain ⟨fuel, hf0⟩ := hd
  obtain ⟨S, a, cap, g, off, h1, _, h2, _, _, _, h3⟩ := open_in (k := 4) (ok := fun _ => True) (f := encA) (by decide) (fun _ => rfl) Tryz.underlying40 (by kernel_rfl) (fun fuel cs y hl _ h => t_act hl h) (y := (d, ps)) hw hf0
  simp [Value.cells] at h1
  exact ⟨S, a, cap, g, off, by rw [h1.1, h1.2.1, h1.2.2], h2, fun j hj => ⟨h3 j hj 0 _ rfl, h3 j hj 1 _ rfl, h3 j hj 2 _ rfl, h3 j hj 3 _ rfl⟩⟩
end
end Go.Proofs.YthipgcojbhcdgaaGreat
