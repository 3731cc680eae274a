/- Steps as an argument, opened. -/
import Derived.Test.YtkpallbnmckbaaaOpn
import Derived.Test.YtkpallbnmckbaaaPlb
namespace Go.Proofs.Ytkpallbnmckbaaa
open Go.ChangeShapes Go.WideShapes Go.ChangeAt Go.RowKit
section
variable {H : Type} {enc : TypeId × Value → H} {w : World} {base : Nat} {sp : Nat → Bool} {held : Bool}
set_option maxRecDepth 100000 in
/-- A row of things of k cells each, as it is read out of one cell. -/
theorem open_in {α : Type} {k t e : Nat} {f : α → List Value} {ok : α → Prop} (hk : 0 < k) (hf : ∀ x, (f x).length = k) (hu : Try.prog.underlying t = some (.slice e)) (hce : Try.prog.cellsOf e = k)
    (hop : ∀ (fuel : Nat) (cs : List Value) (y : DataW H × List MemPlace), cs.length = k → DataW.trod enc Try.prog w base sp held fuel e cs = some y → ∃ x, cs = f x ∧ ok x)
    {cl : List Value} {fuel : Nat} {y : DataW H × List MemPlace} (hf0 : DataW.trod enc Try.prog w base sp held fuel t cl = some y) :
    ∃ (L : List α) (a : Option Addr) (cap g off : Nat), cl = [.slice a L.length cap] ∧ (∀ x ∈ L, ok x) ∧ (L.length ≠ 0 → a = some ⟨g, off, none⟩) ∧ (L.length ≠ 0 → g < w.heap.size) ∧ ∀ j (h : j < L.length) c u, (f L[j])[c]? = some u → w.cell? ⟨g, off + j * k + c, none⟩ = some u := by
  rcases DataW.trod_slice hu hf0 with ⟨hcs, _⟩ | ⟨a, len0, cap0, elems, rest, n, _, hcs, _, _, hl, _, hlen, hel, _⟩
  · exact ⟨[], none, 0, 0, 0, hcs, by simp, fun h => absurd rfl h, fun h => absurd rfl h, fun j h => by simp at h⟩
  · obtain ⟨l, hll, hx⟩ := list_of (Q := fun i x => w.cells? base (a.add (i * k)) k = some (f x) ∧ ok x) len0 (fun i hi => by
      have h := hel i hi
      rw [hce] at h
      rw [List.getElem?_eq_getElem (by omega), Option.bind_eq_some_iff] at h
      obtain ⟨cs, h1, h2⟩ := h
      have hcl : cs.length = k := by
        have := h1
        unfold World.cells? at this
        split at this
        · have := mapM_some_length this
          simpa using this
        · cases this
      obtain ⟨x, rfl, hok⟩ := hop _ _ _ hcl h2
      exact ⟨x, h1, hok⟩)
    by_cases h0 : l.length = 0
    · refine ⟨l, some a, cap0, 0, 0, by rw [hll]; exact hcs, fun x hm => ?_, fun h => absurd h0 h, fun h => absurd h0 h, fun j h => by omega⟩
      obtain ⟨i, hi, _⟩ := List.mem_iff_getElem.1 hm
      omega
    · have hb := World.cells?_block (hx 0 (by omega)).1 hk
      have h00 := (hx 0 (by omega)).1
      rw [Nat.zero_mul] at h00
      have hs : a.spot = none := spot_none h00 hk (hf _)
      have ea : ∀ z, a.add z = ⟨a.block, a.off + z, none⟩ := by
        intro z
        cases a
        simp only at hs
        subst hs
        rw [Addr.add_lit]
      refine ⟨l, some a, cap0, a.block, a.off, by rw [hll]; exact hcs, fun x hm => ?_, fun _ => ?_, fun _ => ?_, fun j hj c u hu => ?_⟩
      · obtain ⟨i, hi, e⟩ := List.mem_iff_getElem.1 hm
        rw [← e]
        exact (hx i hi).2
      · cases a; simp_all
      · simpa [Addr.add] using hb
      · have hc : c < k := by have := (List.getElem?_eq_some_iff.1 hu).1; rw [hf] at this; exact this
        have h := cells_get (hx j hj).1 c hc
        rw [ea, Addr.add_lit] at h
        rw [h]
        exact hu
/-- A step's cells. -/
def enc5 (s : Stp) : List Value := [.int .i64 s.op, .slice s.a s.n s.cap, .string s.fr, .string s.to, .int .u64 s.t]
set_option maxRecDepth 100000 in
theorem t_step {fuel : Nat} {cl : List Value} {y : DataW H × List MemPlace} (hsz : cl.length = 5) (hf : DataW.trod enc Try.prog w base sp held fuel 29 cl = some y) :
    ∃ s : Stp, cl = enc5 s ∧ s.ok w := by
  obtain ⟨xs, n0, _, hx, hl, hlen, hq⟩ := DataW.trod_struct Try.underlying29 hf
  have c3 : Try.prog.cellsOf 3 = 1 := by kernel_rfl
  have c25 : Try.prog.cellsOf 25 = 1 := by kernel_rfl
  have c27 : Try.prog.cellsOf 27 = 1 := by kernel_rfl
  have c9 : Try.prog.cellsOf 9 = 1 := by kernel_rfl
  match cl, hsz with
  | [a0, a1, a2, a3, a4], _ =>
    match xs, hlen with
    | [y0, y1, y2, y3, y4], _ =>
      have h0 : DataW.trod enc Try.prog w base sp held n0 3 (([a0, a1, a2, a3, a4].drop 0).take (Try.prog.cellsOf 3)) = some y0 := hq 0 _ rfl
      rw [c3] at h0
      have h1 : DataW.trod enc Try.prog w base sp held n0 25 (([a0, a1, a2, a3, a4].drop 1).take (Try.prog.cellsOf 25)) = some y1 := hq 1 _ rfl
      rw [c25] at h1
      have h2 : DataW.trod enc Try.prog w base sp held n0 9 (([a0, a1, a2, a3, a4].drop 2).take (Try.prog.cellsOf 9)) = some y2 := hq 2 _ rfl
      rw [c9] at h2
      have h3 : DataW.trod enc Try.prog w base sp held n0 9 (([a0, a1, a2, a3, a4].drop 3).take (Try.prog.cellsOf 9)) = some y3 := hq 3 _ rfl
      rw [c9] at h3
      have h4 : DataW.trod enc Try.prog w base sp held n0 27 (([a0, a1, a2, a3, a4].drop 4).take (Try.prog.cellsOf 27)) = some y4 := hq 4 _ rfl
      rw [c27] at h4
      obtain ⟨op, e0, rfl, w0⟩ := DataW.trod_int Try.underlying3 h0
      obtain ⟨L, a, cap, g, off, e1, hok, ha, _, hc⟩ := open_in (k := 4) (ok := okC) (f := enc4) (by decide) (fun _ => rfl) Try.underlying25 (by kernel_rfl) (fun fuel cs y hl h => by obtain ⟨x, e, _, ok⟩ := t_cell hl h; exact ⟨x, e, ok⟩) h1
      obtain ⟨fr, e2, rfl, w2⟩ := DataW.trod_string Try.underlying9 h2
      obtain ⟨to, e3, rfl, w3⟩ := DataW.trod_string Try.underlying9 h3
      obtain ⟨t, e4, rfl, w4⟩ := DataW.trod_int Try.underlying27 h4
      simp at e0 e1 e2 e3 e4
      subst e0 e1 e2 e3 e4
      exact ⟨⟨op, a, L.length, cap, fr, to, t⟩, rfl, L, g, off, rfl, ha, fun j hj => ⟨hc j hj 0 _ rfl, hc j hj 1 _ rfl, hc j hj 2 _ rfl, hc j hj 3 _ rfl⟩, fun x hx => (bounds_u64 (hok x hx).2.1).1⟩
set_option maxRecDepth 100000 in
theorem open_steps {v : Value} {d : DataW H} {ps : List MemPlace} {r : Reach} {b0 : Nat} (hval : Value.okWide Try.prog w r b0 22 v) (hd : DataW.Trod enc Try.prog w base sp held 22 v d ps) :
    ∃ (S : List Stp) (a : Option Addr) (cap g off : Nat), v = .slice a S.length cap ∧ (∀ s ∈ S, s.ok w) ∧ (S.length ≠ 0 → a = some ⟨g, off, none⟩) ∧ RowS w g off S := by
  obtain ⟨S, a, cap, g, off, h1, h4, h2, h5, h3⟩ := open_row (k := 5) (ok := Stp.ok w) (f := enc5) (by decide) (fun _ => rfl) Try.underlying22 (by kernel_rfl) (fun fuel cs y hl h => t_step hl h) hval hd
  exact ⟨S, a, cap, g, off, h1, h4, h2, fun j hj => ⟨h3 j hj 0 _ rfl, h3 j hj 1 _ rfl, h3 j hj 2 _ rfl, h3 j hj 3 _ rfl, h3 j hj 4 _ rfl⟩⟩
end
end Go.Proofs.Ytkpallbnmckbaaa
