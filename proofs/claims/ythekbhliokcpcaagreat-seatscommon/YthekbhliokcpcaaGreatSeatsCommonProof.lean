/- Proved: any majority of members and any majority of those that one change makes of them have a member in common; for every input, no condition ('Rows.SeatsCommonSaid'). -/
import Derived.Test.YthekbhliokcpcaaGreatNlw
import Derived.Test.YthekbhliokcpcaaGreatRows
import Derived.WalkKit
import Derived.ProofKit
import Derived.OpenShut
import Derived.ShutString
import Derived.SizedLaws
namespace Go.Proofs.YthekbhliokcpcaaGreat
open Go.ChangeShapes Go.WideShapes Go.ChangeAt Go.RowKit
theorem own : ownKnob Tryz.prog.godebug = none := by kernel_rfl
theorem laidOut : laidOutB Tryz.prog = true := by kernel_rfl
theorem list_of {α : Type} {Q : Nat → α → Prop} : ∀ m, (∀ i, i < m → ∃ x, Q i x) → ∃ l : List α, l.length = m ∧ ∀ i (h : i < l.length), Q i l[i]
  | 0, _ => ⟨[], rfl, fun i h => absurd h (Nat.not_lt_zero _)⟩
  | m + 1, hq => by
    obtain ⟨l, hl, hi⟩ := list_of m (fun i h => hq i (by omega))
    obtain ⟨x, hx⟩ := hq m (by omega)
    refine ⟨l ++ [x], by simp [hl], fun i h => ?_⟩
    by_cases e : i < l.length
    · rw [List.getElem_append_left e]; exact hi i e
    · have : i = l.length := by simp at h; omega
      subst this
      rw [List.getElem_append_right (Nat.le_refl _)]
      simp [hl, hx]
section
variable {H : Type} {enc : TypeId × Value → H} {w : World} {base : Nat} {sp : Nat → Bool} {held : Bool}
theorem cells_get {a : Addr} {n : Nat} {cs : List Value} (h : w.cells? base a n = some cs) (j : Nat) (hj : j < n) : w.cell? (a.add j) = cs[j]? := by
  unfold World.cells? at h
  split at h
  · exact mapM_some_get h j j (by simp [hj])
  · cases h
theorem spot_none {a : Addr} {k : Nat} {cs : List Value} (h : w.cells? base (a.add 0) k = some cs) (hk : 0 < k) (hc : cs.length = k) : a.spot = none := by
  have h1 := cells_get h 0 hk
  cases hsp : a.spot with
  | none => rfl
  | some z =>
    have e : w.cell? ((a.add 0).add 0) = none := by
      unfold World.cell?
      split
      · rw [if_pos (by simp [Addr.add, hsp])]
      · rfl
    rw [e, List.getElem?_eq_getElem (by omega)] at h1
    cases h1
set_option maxRecDepth 100000 in
/-- A row of things of k cells each, as an argument. -/
theorem open_row {α : Type} {k t e : Nat} {f : α → List Value} {ok : α → Prop} (hk : 0 < k) (hf : ∀ x, (f x).length = k) (hu : Tryz.prog.underlying t = some (.slice e)) (hce : Tryz.prog.cellsOf e = k)
    (hop : ∀ (fuel : Nat) (cs : List Value) (y : DataW H × List MemPlace), cs.length = k → DataW.trod enc Tryz.prog w base sp held fuel e cs = some y → ∃ x, cs = f x ∧ ok x)
    {v : Value} {d : DataW H} {ps : List MemPlace} {r : Reach} {b0 : Nat} (hval : Value.okWide Tryz.prog w r b0 t v) (hd : DataW.Trod enc Tryz.prog w base sp held t v d ps) :
    ∃ (L : List α) (a : Option Addr) (cap g off : Nat), v = .slice a L.length cap ∧ (∀ x ∈ L, ok x) ∧ (L.length ≠ 0 → a = some ⟨g, off, none⟩) ∧ (L.length ≠ 0 → g < w.heap.size) ∧ ∀ j (h : j < L.length) c u, (f L[j])[c]? = some u → w.cell? ⟨g, off + j * k + c, none⟩ = some u := by
  obtain ⟨a0, len0, cap0, rfl⟩ := okWide_slice hu hval
  obtain ⟨fuel, hf0⟩ := hd
  rcases DataW.trod_slice hu hf0 with ⟨hcs, _⟩ | ⟨a, len, cap, elems, rest, n, _, hcs, _, _, hl, _, hlen, hel, _⟩
  · simp [Value.cells] at hcs
    obtain ⟨rfl, rfl, rfl⟩ := hcs
    exact ⟨[], none, 0, 0, 0, rfl, by simp, fun h => absurd rfl h, fun h => absurd rfl h, fun j h => by simp at h⟩
  · simp [Value.cells] at hcs
    obtain ⟨rfl, rfl, rfl⟩ := hcs
    obtain ⟨l, hll, hx⟩ := list_of (Q := fun i x => w.cells? base (a.add (i * k)) k = some (f x) ∧ ok x) len0 (fun i hi => by
      have h := hel i hi
      rw [hce] at h
      rw [List.getElem?_eq_getElem (by omega), Option.bind_eq_some_iff] at h
      obtain ⟨cs, h1, h2⟩ := h
      have hcl : cs.length = k := by
        have := h1
        unfold World.cells? at this
        split at this
        · have := mapM_some_length this
          simpa using this
        · cases this
      obtain ⟨x, rfl, hok⟩ := hop _ _ _ hcl h2
      exact ⟨x, h1, hok⟩)
    by_cases h0 : l.length = 0
    · refine ⟨l, some a, cap0, 0, 0, by rw [hll], fun x hm => ?_, fun h => absurd h0 h, fun h => absurd h0 h, fun j h => by omega⟩
      obtain ⟨i, hi, _⟩ := List.mem_iff_getElem.1 hm
      omega
    · have hb := World.cells?_block (hx 0 (by omega)).1 hk
      have h00 := (hx 0 (by omega)).1
      rw [Nat.zero_mul] at h00
      have hs : a.spot = none := spot_none h00 hk (hf _)
      have ea : ∀ z, a.add z = ⟨a.block, a.off + z, none⟩ := by
        intro z
        cases a
        simp only at hs
        subst hs
        rw [Addr.add_lit]
      refine ⟨l, some a, cap0, a.block, a.off, by rw [hll], fun x hm => ?_, fun _ => ?_, fun _ => ?_, fun j hj c u hu => ?_⟩
      · obtain ⟨i, hi, e⟩ := List.mem_iff_getElem.1 hm
        rw [← e]
        exact (hx i hi).2
      · cases a; simp_all
      · simpa [Addr.add] using hb
      · have hc : c < k := by have := (List.getElem?_eq_some_iff.1 hu).1; rw [hf] at this; exact this
        have h := cells_get (hx j hj).1 c hc
        rw [ea, Addr.add_lit] at h
        rw [h]
        exact hu
set_option maxRecDepth 100000 in
/-- A list of numbers. -/
theorem open_nums {v : Value} {d : DataW H} {ps : List MemPlace} {r : Reach} {b0 : Nat} (hval : Value.okWide Tryz.prog w r b0 22 v) (hd : DataW.Trod enc Tryz.prog w base sp held 22 v d ps) : ∃ (L : List Int) (a : Option Addr) (cap : Nat), v = .slice a L.length cap ∧ Sl E3 w a L := by
  obtain ⟨L, a, cap, g, off, h1, _, h2, _, h4⟩ := open_row (k := 1) (ok := fun _ => True) (f := fun (x : Int) => [Value.int .i64 x]) (by decide) (fun _ => rfl) Tryz.underlying22 (by kernel_rfl) (fun fuel cs y hl h => by
    obtain ⟨n, e, _, _⟩ := DataW.trod_int Tryz.underlying3 h
    exact ⟨n, e, trivial⟩) hval hd
  exact ⟨L, a, cap, h1, ⟨g, off, h2, h4⟩⟩
end
end Go.Proofs.YthekbhliokcpcaaGreat
namespace Go.Proofs.YthekbhliokcpcaaGreat.seatsCommon
open Go.ChangeShapes Go.WideShapes Go.ChangeAt Go.RowKit
set_option linter.unusedVariables false

set_option maxRecDepth 100000 in
theorem lifted (os : Os) (started : os.Started) (H : Type) (enc : TypeId × Value → H) :
    ReturnsInHanded {} Tryz.checked os 6 .any (Rows.seatsCommonSpec.pre6 enc Tryz.prog Tryz.f6 Rows.seatsCommonRow.domain false) (Rows.seatsCommonSpec.post enc Tryz.prog Tryz.f6 false true false false) := by
  refine returnsInHanded_of_change_sized (C := Tryz.checked) own started (by kernel_rfl) Tryz.func6
    (ChangeSpec.witness6 (enc := enc) (C := Tryz.checked) false ⟨#[], #[.slice none 0 0, .int .i64 0, .slice none 0 0, .slice none 0 0], []⟩ 8 (by kernel_rfl) (by kernel_rfl) (by kernel_rfl) (by kernel_rfl)) ?_
  intro W base args ds gs before hval0 hW hcnd hsz0 _
  have hval : ∀ (j : Nat) t v, Tryz.f6.params[j]? = some t → args[j]? = some v → Value.okWide Tryz.prog W .any base t v := hval0
  have hW' := hW
  obtain ⟨p, q, hA0, hV, rfl, hfz, hnd⟩ := hW
  have hA : DataW.TrodAll enc Tryz.prog W 0 (fun _ => true) true Tryz.f6.params.toList args.toList ds p := hA0
  rw [Tryz.params6] at hA hval
  obtain ⟨v0, vs0, d0, ds0, p0, q0, hargs, rfl, rfl, h0, r0⟩ := trodAll_cons hA
  obtain ⟨v1, vs1, d1, ds1, p1, q1, rfl, rfl, rfl, h1, r1⟩ := trodAll_cons r0
  obtain ⟨v2, vs2, d2, ds2, p2, q2, rfl, rfl, rfl, h2, r2⟩ := trodAll_cons r1
  obtain ⟨v3, vs3, d3, ds3, p3, q3, rfl, rfl, rfl, h3, r3⟩ := trodAll_cons r2
  obtain ⟨rfl, rfl, rfl⟩ := trodAll_nil r3
  obtain rfl : args = #[v0, v1, v2, v3] := by cases args; simp_all
  obtain ⟨rfl, rfl⟩ := trodVars_none hV
  obtain ⟨a1, rfl, rfl, rfl, w1⟩ := open_int Tryz.underlying3 (hval 1 3 v1 rfl rfl) h1
  clear hA0 hval0
  simp only [List.append_nil] at hW'
  obtain ⟨l, b0, c0, e0, s0⟩ := open_nums (hval 0 22 v0 rfl rfl) h0
  obtain ⟨A, b2, c2, e2, s2⟩ := open_nums (hval 2 22 v2 rfl rfl) h2
  obtain ⟨B, b3, c3, e3, s3⟩ := open_nums (hval 3 22 v3 rfl rfl) h3
  have hlt0 : ∀ x ∈ p0, x.block < W.heap.size := fun x hx => hW'.lt x (by simp [hx])
  have hlt2 : ∀ x ∈ p2, x.block < W.heap.size := fun x hx => hW'.lt x (by simp [hx])
  have hlt3 : ∀ x ∈ p3, x.block < W.heap.size := fun x hx => hW'.lt x (by simp [hx])
  have hcall : Calls Tryz.prog 6 #[v0, .int .i64 a1, v2, v3] W fun e w' => e = .returned (.bool true) ∧ Bel W w' := by
    rw [e0, e2, e3]
    exact common_law s0 s2 s3
  refine hcall.mono fun e W' ⟨he, hg⟩ => ?_
  subst he
  exact ⟨_, rfl, _, _, _, [], _, [], hW', trodAll_mk1 (shut_bool Tryz.underlying4 _), (trodAll_cons_mk (Below.trod laidOut (by kernel_rfl) (of_decide_eq_true (by kernel_rfl)) h0 hg hlt0) (trodAll_cons_mk (shut_int Tryz.underlying3 w1) (trodAll_cons_mk (Below.trod laidOut (by kernel_rfl) (of_decide_eq_true (by kernel_rfl)) h2 hg hlt2) (trodAll_cons_mk (Below.trod laidOut (by kernel_rfl) (of_decide_eq_true (by kernel_rfl)) h3 hg hlt3) trodAll_mk0)))), rfl, World.keptBut_mono (fun _ f => f.elim) hg.kept, fun h => by cases h⟩

theorem over : Rows.seatsCommonRow.holds Tryz.pinned (OpenSpec.ofChange Rows.seatsCommonSpec) :=
  OpenClaim.holds_of_wide 6 Tryz.f6 rfl rfl rfl rfl rfl rfl rfl ⟨rfl, rfl, rfl, rfl, rfl⟩ rfl rfl rfl rfl rfl (by kernel_rfl) Tryz.func6 (by kernel_rfl)
    (of_decide_eq_true (by kernel_rfl)) (by unfold Func.isWrapper; first | (rw [if_pos (by decide +kernel)]; kernel_rfl) | (rw [if_neg (by decide +kernel)]; exact ⟨rfl, rfl⟩))
    (fun os started H enc _ => lifted os started H enc)

theorem proved : Rows.SeatsCommonSaid := over
end Go.Proofs.YthekbhliokcpcaaGreat.seatsCommon

namespace Go.Proofs.YthekbhliokcpcaaGreat
theorem seatsCommon_holds : Rows.SeatsCommonSaid := seatsCommon.proved
end Go.Proofs.YthekbhliokcpcaaGreat
