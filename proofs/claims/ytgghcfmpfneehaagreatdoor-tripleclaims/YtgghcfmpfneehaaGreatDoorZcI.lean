/- Rows of schemas, of writes and of texts as arguments, opened; the law TripleClaims, whatever its rows are. -/
import Derived.Test.YtgghcfmpfneehaaGreatDoorOpenT
import Derived.Test.YtgghcfmpfneehaaGreatDoorZcH
namespace Go.Proofs.YtgghcfmpfneehaaGreatDoor
open Go.ChangeShapes Go.WideShapes Go.ChangeAt Go.RowKit Go.Sort
theorem list_of {α : Type} {Q : Nat → α → Prop} : ∀ m, (∀ i, i < m → ∃ x, Q i x) → ∃ l : List α, l.length = m ∧ ∀ i (h : i < l.length), Q i l[i]
  | 0, _ => ⟨[], rfl, fun i h => absurd h (Nat.not_lt_zero _)⟩
  | m + 1, hq => by
    obtain ⟨l, hl, hi⟩ := list_of m (fun i h => hq i (by omega))
    obtain ⟨x, hx⟩ := hq m (by omega)
    refine ⟨l ++ [x], by simp [hl], fun i h => ?_⟩
    by_cases e : i < l.length
    · rw [List.getElem_append_left e]; exact hi i e
    · have : i = l.length := by simp at h; omega
      subst this
      rw [List.getElem_append_right (Nat.le_refl _)]
      simp [hl, hx]
section
variable {H : Type} {enc : TypeId × Value → H} {w : World} {base : Nat} {sp : Nat → Bool} {held : Bool}
theorem cells_get {a : Addr} {n : Nat} {cs : List Value} (h : w.cells? base a n = some cs) (j : Nat) (hj : j < n) : w.cell? (a.add j) = cs[j]? := by
  unfold World.cells? at h
  split at h
  · exact mapM_some_get h j j (by simp [hj])
  · cases h
theorem spot_none {a : Addr} {k : Nat} {cs : List Value} (h : w.cells? base (a.add 0) k = some cs) (hk : 0 < k) (hc : cs.length = k) : a.spot = none := by
  have h1 := cells_get h 0 hk
  cases hsp : a.spot with
  | none => rfl
  | some z =>
    have e : w.cell? ((a.add 0).add 0) = none := by
      unfold World.cell?
      split
      · rw [if_pos (by simp [Addr.add, hsp])]
      · rfl
    rw [e, List.getElem?_eq_getElem (by omega)] at h1
    cases h1
set_option maxRecDepth 100000 in
/-- A row of things of k cells each, as an argument. -/
theorem open_row {α : Type} {k t e : Nat} {f : α → List Value} {ok : α → Prop} (hk : 0 < k) (hf : ∀ x, (f x).length = k) (hu : Tryz.prog.underlying t = some (.slice e)) (hce : Tryz.prog.cellsOf e = k)
    (hop : ∀ (fuel : Nat) (cs : List Value) (y : DataW H × List MemPlace), cs.length = k → DataW.trod enc Tryz.prog w base sp held fuel e cs = some y → ∃ x, cs = f x ∧ ok x)
    {v : Value} {d : DataW H} {ps : List MemPlace} {r : Reach} {b0 : Nat} (hval : Value.okWide Tryz.prog w r b0 t v) (hd : DataW.Trod enc Tryz.prog w base sp held t v d ps) :
    ∃ (L : List α) (a : Option Addr) (cap g off : Nat), v = .slice a L.length cap ∧ (∀ x ∈ L, ok x) ∧ (L.length ≠ 0 → a = some ⟨g, off, none⟩) ∧ (L.length ≠ 0 → g < w.heap.size) ∧ ∀ j (h : j < L.length) c u, (f L[j])[c]? = some u → w.cell? ⟨g, off + j * k + c, none⟩ = some u := by
  obtain ⟨a0, len0, cap0, rfl⟩ := okWide_slice hu hval
  obtain ⟨fuel, hf0⟩ := hd
  rcases DataW.trod_slice hu hf0 with ⟨hcs, _⟩ | ⟨a, len, cap, elems, rest, n, _, hcs, _, _, hl, _, hlen, hel, _⟩
  · simp [Value.cells] at hcs
    obtain ⟨rfl, rfl, rfl⟩ := hcs
    exact ⟨[], none, 0, 0, 0, rfl, by simp, fun h => absurd rfl h, fun h => absurd rfl h, fun j h => by simp at h⟩
  · simp [Value.cells] at hcs
    obtain ⟨rfl, rfl, rfl⟩ := hcs
    obtain ⟨l, hll, hx⟩ := list_of (Q := fun i x => w.cells? base (a.add (i * k)) k = some (f x) ∧ ok x) len0 (fun i hi => by
      have h := hel i hi
      rw [hce] at h
      rw [List.getElem?_eq_getElem (by omega), Option.bind_eq_some_iff] at h
      obtain ⟨cs, h1, h2⟩ := h
      have hcl : cs.length = k := by
        have := h1
        unfold World.cells? at this
        split at this
        · have := mapM_some_length this
          simpa using this
        · cases this
      obtain ⟨x, rfl, hok⟩ := hop _ _ _ hcl h2
      exact ⟨x, h1, hok⟩)
    by_cases h0 : l.length = 0
    · refine ⟨l, some a, cap0, 0, 0, by rw [hll], fun x hm => ?_, fun h => absurd h0 h, fun h => absurd h0 h, fun j h => by omega⟩
      obtain ⟨i, hi, _⟩ := List.mem_iff_getElem.1 hm
      omega
    · have hb := World.cells?_block (hx 0 (by omega)).1 hk
      have h00 := (hx 0 (by omega)).1
      rw [Nat.zero_mul] at h00
      have hs : a.spot = none := spot_none h00 hk (hf _)
      have ea : ∀ z, a.add z = ⟨a.block, a.off + z, none⟩ := by
        intro z
        cases a
        simp only at hs
        subst hs
        rw [Addr.add_lit]
      refine ⟨l, some a, cap0, a.block, a.off, by rw [hll], fun x hm => ?_, fun _ => ?_, fun _ => ?_, fun j hj c u hu => ?_⟩
      · obtain ⟨i, hi, e⟩ := List.mem_iff_getElem.1 hm
        rw [← e]
        exact (hx i hi).2
      · cases a; simp_all
      · simpa [Addr.add] using hb
      · have hc : c < k := by have := (List.getElem?_eq_some_iff.1 hu).1; rw [hf] at this; exact this
        have h := cells_get (hx j hj).1 c hc
        rw [ea, Addr.add_lit] at h
        rw [h]
        exact hu
set_option maxRecDepth 100000 in
theorem open_schs {v : Value} {d : DataW H} {ps : List MemPlace} {r : Reach} {b0 : Nat} (hval : Value.okWide Tryz.prog w r b0 41 v) (hd : DataW.Trod enc Tryz.prog w base sp held 41 v d ps) :
    ∃ (L : List Sm) (a : Option Addr) (cap g off : Nat), v = .slice a L.length cap ∧ (L.length ≠ 0 → a = some ⟨g, off, none⟩) ∧ Row8 w g off L := by
  obtain ⟨L, a, cap, g, off, h1, _, h2, _, h3⟩ := open_row (ok := fun _ => True) (f := cl8) (by decide) cl8_len Tryz.underlying41 (by kernel_rfl) (fun fuel cs y hl h => by
    obtain ⟨q, t, l, x, tm, od, rv, ct, h1, _⟩ := t_sch hl h
    exact ⟨(q, t, l, x, tm, od, rv, ct), h1, trivial⟩) hval hd
  exact ⟨L, a, cap, g, off, h1, h2, h3⟩
set_option maxRecDepth 100000 in
theorem open_wris {v : Value} {d : DataW H} {ps : List MemPlace} {r : Reach} {b0 : Nat} (hval : Value.okWide Tryz.prog w r b0 42 v) (hd : DataW.Trod enc Tryz.prog w base sp held 42 v d ps) :
    ∃ (X : List Wm) (a : Option Addr) (cap g off : Nat), v = .slice a X.length cap ∧ (∀ x ∈ X, inW x ∧ x.2.2.1.size ≤ maxLen) ∧ (X.length ≠ 0 → a = some ⟨g, off, none⟩) ∧ RowW w g off X := by
  obtain ⟨L, a, cap, g, off, h1, h4, h2, _, h3⟩ := open_row (ok := fun x => inW x ∧ x.2.2.1.size ≤ maxLen) (f := cw8) (by decide) cw8_len Tryz.underlying42 (by kernel_rfl) (fun fuel cs y hl h => by
    obtain ⟨d, u, p, k, b, n, s, v, h1, _, wu, wp, _, wn, _, wv⟩ := t_wri hl h
    have bu := bounds_u64 wu
    have bn := bounds_i64 wn
    have bv := bounds_u64 wv
    obtain ⟨m, rfl⟩ := Int.eq_ofNat_of_zero_le bu.1
    exact ⟨(d, m, p, k, b, n, s, v), h1, ⟨by show m < 2 ^ 64; omega, bn.1, by show n < 9223372036854775808; omega, bv.1, by show v < 18446744073709551616; omega⟩, wp⟩) hval hd
  exact ⟨L, a, cap, g, off, h1, h4, h2, h3⟩
def cT (x : List UInt8) : List Value := [.string ⟨x.toArray⟩]
set_option maxRecDepth 100000 in
theorem open_strs {v : Value} {d : DataW H} {ps : List MemPlace} {r : Reach} {b0 : Nat} (hval : Value.okWide Tryz.prog w r b0 43 v) (hd : DataW.Trod enc Tryz.prog w base sp held 43 v d ps) :
    ∃ (A : List (List UInt8)) (a : Option Addr) (cap g off : Nat), v = .slice a A.length cap ∧ (∀ x ∈ A, x.length ≤ maxLen) ∧ (A.length ≠ 0 → a = some ⟨g, off, none⟩) ∧ (A.length ≠ 0 → g < w.heap.size) ∧ RowT w g off A := by
  obtain ⟨L, a, cap, g, off, h1, h4, h2, h5, h3⟩ := open_row (ok := fun x => x.length ≤ maxLen) (f := cT) (by decide) (fun _ => rfl) Tryz.underlying43 (by kernel_rfl) (fun fuel cs y hl h => by
    obtain ⟨s, e, _, ws⟩ := DataW.trod_string Tryz.underlying9 h
    refine ⟨s.data.toList, ?_, by simpa using ws⟩
    unfold cT
    rw [ba_back]
    exact e) hval hd
  refine ⟨L, a, cap, g, off, h1, h4, h2, h5, fun j hj => ?_⟩
  have := h3 j hj 0 (.string ⟨L[j].toArray⟩) rfl
  rw [Nat.mul_one, Nat.add_zero] at this
  exact this
end
/-- What the row of TripleClaims lists. -/
def laid3 : List (String × DataW Unit) := Rows.tripleClaimsRow.laid
theorem door_met3 (os : Os) (args : Array Value) : laidMetH Tryz.prog laid3 ((World.laidAll Tryz.prog os laid3).forCall (fun _ _ => 0) ⟨#[], args, []⟩).memory := by
  rw [MakeChecks.laidMetH_plain _ _ _ (by kernel_rfl)]
  exact laidMet_laidAll _ (by kernel_rfl) (by kernel_rfl)
theorem gl2_of_laid {W : World} (h : laidMetH Tryz.prog laid3 W) : Gl2 W := by
  rw [MakeChecks.laidMetH_plain _ _ _ (by kernel_rfl)] at h
  have h1 : laidMet Tryz.prog (("math/bits.deBruijn64tab", Lib.tabData .u8 tab64) :: laid3.tail.tail) W := h.tail
  have h2 : laidMet Tryz.prog (("internal/strconv.uint64pow10", Lib.tabData .u64 Lib.pow10Tab) :: laid3.tail.tail.tail) W := h.tail.tail
  have t64 := Lib.tabIs_of_head (g := 7) (t := 210) (e := 5) (n := 64) (by kernel_rfl) (by kernel_rfl) Tryz.underlying210 Tryz.underlying5 (by kernel_rfl) (by kernel_rfl) h1
  exact ⟨Lib.tabIs_of_head (g := 1) (t := 191) (e := 22) (n := 20) (by kernel_rfl) (by kernel_rfl) Tryz.underlying191 Tryz.underlying22 (by kernel_rfl) (by kernel_rfl) h2, t64.cell (by kernel_rfl) 15 (by decide)⟩
theorem claims_law (a1 a2 a3 a4 : Option Addr) (g1 o1 c1 g2 o2 c2 g3 o3 c3 g4 o4 c4 : Nat) (L : List Sm) (X : List Wm) (A B : List (List UInt8))
    (ha1 : L.length ≠ 0 → a1 = some ⟨g1, o1, none⟩) (ha2 : X.length ≠ 0 → a2 = some ⟨g2, o2, none⟩) (ha3 : A.length ≠ 0 → a3 = some ⟨g3, o3, none⟩) (ha4 : B.length ≠ 0 → a4 = some ⟨g4, o4, none⟩) (w : World)
    (hr1 : Row8 w g1 o1 L) (hr2 : RowW w g2 o2 X) (hr3 : RowT w g3 o3 A) (hr4 : RowT w g4 o4 B) (hg3 : A.length ≠ 0 → g3 < w.heap.size) (hg4 : B.length ≠ 0 → g4 < w.heap.size)
    (hX : ∀ x ∈ X, inW x ∧ x.2.2.1.size ≤ maxLen) (hm3 : ∀ x ∈ A, x.length ≤ maxLen) (hm4 : ∀ x ∈ B, x.length ≤ maxLen) (hG : Gl2 w) :
    Calls Tryz.prog 4 #[.slice a1 L.length c1, .slice a2 X.length c2, .slice a3 A.length c3, .slice a4 B.length c4] w fun e w' => e = .returned (.bool true) ∧ Bel w w' := by
  by_cases h : 300 < L.length ∨ 300 < X.length ∨ 300 < A.length ∨ 300 < B.length
  · exact claims_long a1 a2 a3 a4 _ _ _ _ c1 c2 c3 c4 h w hG
  · exact claims_short a1 a2 a3 a4 g1 o1 c1 g2 o2 c2 g3 o3 c3 g4 o4 c4 L X A B ha1 ha2 ha3 ha4 (by omega) (by omega) (by omega) (by omega) w hr1 hr2 hr3 hr4 hg3 hg4 (fun x hx => (hX x hx).1) (fun x hx => (hX x hx).2) hm3 hm4 hG
end Go.Proofs.YtgghcfmpfneehaaGreatDoor
