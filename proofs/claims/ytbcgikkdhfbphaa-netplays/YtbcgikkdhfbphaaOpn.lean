/- Rows of steps as arguments, opened. -/
import Derived.Test.YtbcgikkdhfbphaaNtw
import Derived.Test.YtbcgikkdhfbphaaRows
import Derived.ProofKit
import Derived.OpenShut
import Derived.ShutString
import Derived.SizedLaws
import Derived.SevenTiedAt
namespace Go.Proofs.Ytbcgikkdhfbphaa
open Go.ChangeShapes Go.WideShapes Go.ChangeAt Go.RowKit
open Go.ChangeMaps (open_string shut_string)
theorem own : ownKnob Try.prog.godebug = none := by kernel_rfl
theorem laidOut : laidOutB Try.prog = true := by kernel_rfl
theorem list_of {α : Type} {Q : Nat → α → Prop} : ∀ m, (∀ i, i < m → ∃ x, Q i x) → ∃ l : List α, l.length = m ∧ ∀ i (h : i < l.length), Q i l[i]
  | 0, _ => ⟨[], rfl, fun i h => absurd h (Nat.not_lt_zero _)⟩
  | m + 1, hq => by
    obtain ⟨l, hl, hi⟩ := list_of m (fun i h => hq i (by omega))
    obtain ⟨x, hx⟩ := hq m (by omega)
    refine ⟨l ++ [x], by simp [hl], fun i h => ?_⟩
    by_cases e : i < l.length
    · rw [List.getElem_append_left e]; exact hi i e
    · have : i = l.length := by simp at h; omega
      subst this
      rw [List.getElem_append_right (Nat.le_refl _)]
      simp [hl, hx]
section
variable {H : Type} {enc : TypeId × Value → H} {w : World} {base : Nat} {sp : Nat → Bool} {held : Bool}
theorem cells_get {a : Addr} {n : Nat} {cs : List Value} (h : w.cells? base a n = some cs) (j : Nat) (hj : j < n) : w.cell? (a.add j) = cs[j]? := by
  unfold World.cells? at h
  split at h
  · exact mapM_some_get h j j (by simp [hj])
  · cases h
theorem spot_none {a : Addr} {k : Nat} {cs : List Value} (h : w.cells? base (a.add 0) k = some cs) (hk : 0 < k) (hc : cs.length = k) : a.spot = none := by
  have h1 := cells_get h 0 hk
  cases hsp : a.spot with
  | none => rfl
  | some z =>
    have e : w.cell? ((a.add 0).add 0) = none := by
      unfold World.cell?
      split
      · rw [if_pos (by simp [Addr.add, hsp])]
      · rfl
    rw [e, List.getElem?_eq_getElem (by omega)] at h1
    cases h1
theorem wall_mem {P : Program} {e : TypeId} {d : DataW H} : ∀ {l : List (DataW H)}, d ∈ l → ∀ n ∈ d.weights P e, n ∈ DataW.weightsAll P e l
  | x :: l, hd, n, hn => by
    rw [DataW.weightsAll]
    rcases List.mem_cons.1 hd with rfl | hd
    · exact List.mem_append_left _ hn
    · exact List.mem_append_right _ (wall_mem hd n hn)
/-- What is read is within the form's reach. -/
def Rch (t : TypeId) (d : DataW H) : Prop := ∀ n ∈ d.weights Try.prog t, n ≤ reachBytes
set_option maxRecDepth 100000 in
/-- A row of things of k cells each, as it is read out of one cell. -/
theorem open_in {α : Type} {k t e : Nat} {f : α → List Value} {ok : α → Prop} (hk : 0 < k) (hf : ∀ x, (f x).length = k) (hu : Try.prog.underlying t = some (.slice e)) (hce : Try.prog.cellsOf e = k)
    (hop : ∀ (fuel : Nat) (cs : List Value) (y : DataW H × List MemPlace), cs.length = k → Rch e y.1 → DataW.trod enc Try.prog w base sp held fuel e cs = some y → ∃ x, cs = f x ∧ ok x)
    {cl : List Value} {fuel : Nat} {y : DataW H × List MemPlace} (hw : Rch t y.1) (hf0 : DataW.trod enc Try.prog w base sp held fuel t cl = some y) :
    ∃ (L : List α) (a : Option Addr) (cap g off : Nat), cl = [.slice a L.length cap] ∧ (∀ x ∈ L, ok x) ∧ (L.length ≠ 0 → a = some ⟨g, off, none⟩) ∧ (L.length ≠ 0 → g < w.heap.size) ∧ L.length * Try.prog.bytesOf e ≤ reachBytes ∧ L.length ≤ cap ∧ ∀ j (h : j < L.length) c u, (f L[j])[c]? = some u → w.cell? ⟨g, off + j * k + c, none⟩ = some u := by
  rcases DataW.trod_slice hu hf0 with ⟨hcs, _⟩ | ⟨a, len0, cap0, elems, rest, n, _, hcs, hy, _, hl, _, hlen, hel, _⟩
  · exact ⟨[], none, 0, 0, 0, hcs, by simp, fun h => absurd rfl h, fun h => absurd rfl h, by simp, by simp, fun j h => by simp at h⟩
  · have hww : ∀ n ∈ DataW.weights Try.prog t (.slice (elems.map (·.1)) (rest.map (·.1)) : DataW H), n ≤ reachBytes := by
      have := hw
      rw [hy] at this
      exact this
    rw [DataW.weights, hu] at hww
    simp only at hww
    obtain ⟨l, hll, hx⟩ := list_of (Q := fun i x => w.cells? base (a.add (i * k)) k = some (f x) ∧ ok x) len0 (fun i hi => by
      have h := hel i hi
      rw [hce] at h
      rw [List.getElem?_eq_getElem (by omega), Option.bind_eq_some_iff] at h
      obtain ⟨cs, h1, h2⟩ := h
      have hcl : cs.length = k := by
        have := h1
        unfold World.cells? at this
        split at this
        · have := mapM_some_length this
          simpa using this
        · cases this
      obtain ⟨x, rfl, hok⟩ := hop _ _ _ hcl (fun m hm => hww m (List.mem_cons_of_mem _ (List.mem_append_left _ (wall_mem (List.mem_map.2 ⟨_, List.getElem_mem _, rfl⟩) m hm)))) h2
      exact ⟨x, h1, hok⟩)
    have hbytes : l.length * Try.prog.bytesOf e ≤ reachBytes := by
      have h := hww _ (List.mem_cons_self)
      rw [List.length_map, List.length_map, hlen] at h
      rw [hll]
      exact Nat.le_trans (Nat.mul_le_mul_right _ (Nat.le_add_right _ _)) h
    by_cases h0 : l.length = 0
    · refine ⟨l, some a, cap0, 0, 0, by rw [hll]; exact hcs, fun x hm => ?_, fun h => absurd h0 h, fun h => absurd h0 h, hbytes, by omega, fun j h => by omega⟩
      obtain ⟨i, hi, _⟩ := List.mem_iff_getElem.1 hm
      omega
    · have hb := World.cells?_block (hx 0 (by omega)).1 hk
      have h00 := (hx 0 (by omega)).1
      rw [Nat.zero_mul] at h00
      have hs : a.spot = none := spot_none h00 hk (hf _)
      have ea : ∀ z, a.add z = ⟨a.block, a.off + z, none⟩ := by
        intro z
        cases a
        simp only at hs
        subst hs
        rw [Addr.add_lit]
      refine ⟨l, some a, cap0, a.block, a.off, by rw [hll]; exact hcs, fun x hm => ?_, fun _ => ?_, fun _ => ?_, hbytes, by omega, fun j hj c u hu => ?_⟩
      · obtain ⟨i, hi, e⟩ := List.mem_iff_getElem.1 hm
        rw [← e]
        exact (hx i hi).2
      · cases a; simp_all
      · simpa [Addr.add] using hb
      · have hc : c < k := by have := (List.getElem?_eq_some_iff.1 hu).1; rw [hf] at this; exact this
        have h := cells_get (hx j hj).1 c hc
        rw [ea, Addr.add_lit] at h
        rw [h]
        exact hu
end
/-- A step. -/
structure Stp where
  op : Int
  a : Int
  b : Int
  n : Int
  tx : ByteArray
  sa : Option Addr
  side : List Int
  cap : Nat
def Stp.sv (s : Stp) : Value := .slice s.sa s.side.length s.cap
/-- A step's cells. -/
def enc6 (s : Stp) : List Value := [.int .i64 s.op, .int .i64 s.a, .int .i64 s.b, .int .i64 s.n, .string s.tx, s.sv]
/-- What is known of a step that is handed in. -/
structure Stp.ok (w : World) (s : Stp) : Prop where
  wa : (Lit.int .i64 s.a).wf = true
  wb : (Lit.int .i64 s.b).wf = true
  wn : (Lit.int .i64 s.n).wf = true
  tx : s.tx.size ≤ 140737488351232
  ri : RI w s.sv s.side
  sl : s.side.length ≤ 17592186044416
  lt : ∀ k, s.sv.ownBlock = some k → s.side.length ≠ 0 → k < w.heap.size
  cp : s.side.length ≤ s.cap
  wi : ∀ x ∈ s.side, (Lit.int .i64 x).wf = true
section
variable {H : Type} {enc : TypeId × Value → H} {w : World} {base : Nat} {sp : Nat → Bool} {held : Bool}
set_option maxRecDepth 100000 in
theorem t_step {fuel : Nat} {cl : List Value} {y : DataW H × List MemPlace} (hsz : cl.length = 6) (hw : Rch 34 y.1) (hf : DataW.trod enc Try.prog w base sp held fuel 34 cl = some y) :
    ∃ s : Stp, cl = enc6 s ∧ s.ok w := by
  obtain ⟨xs, n0, _, hx, hl, hlen, hq⟩ := DataW.trod_struct Try.underlying34 hf
  have c3 : Try.prog.cellsOf 3 = 1 := by kernel_rfl
  have c9 : Try.prog.cellsOf 9 = 1 := by kernel_rfl
  have c32 : Try.prog.cellsOf 32 = 1 := by kernel_rfl
  have b3 : Try.prog.bytesOf 3 = 8 := by kernel_rfl
  match cl, hsz with
  | [a0, a1, a2, a3, a4, a5], _ =>
    match xs, hlen with
    | [y0, y1, y2, y3, y4, y5], _ =>
      have hww : ∀ n ∈ DataW.weights Try.prog 34 (.agg [y0.1, y1.1, y2.1, y3.1, y4.1, y5.1] : DataW H), n ≤ reachBytes := by
        have := hw
        rw [hx] at this
        exact this
      rw [DataW.weights, Try.underlying34] at hww
      simp only at hww
      have hw4 : Rch 9 y4.1 := fun n hn => hww n (DataW.weights_mem_each (j := 4) (t := 9) rfl rfl n hn)
      have hw5 : Rch 32 y5.1 := fun n hn => hww n (DataW.weights_mem_each (j := 5) (t := 32) rfl rfl n hn)
      have h0 : DataW.trod enc Try.prog w base sp held n0 3 (([a0, a1, a2, a3, a4, a5].drop 0).take (Try.prog.cellsOf 3)) = some y0 := hq 0 _ rfl
      have h1 : DataW.trod enc Try.prog w base sp held n0 3 (([a0, a1, a2, a3, a4, a5].drop 1).take (Try.prog.cellsOf 3)) = some y1 := hq 1 _ rfl
      have h2 : DataW.trod enc Try.prog w base sp held n0 3 (([a0, a1, a2, a3, a4, a5].drop 2).take (Try.prog.cellsOf 3)) = some y2 := hq 2 _ rfl
      have h3 : DataW.trod enc Try.prog w base sp held n0 3 (([a0, a1, a2, a3, a4, a5].drop 3).take (Try.prog.cellsOf 3)) = some y3 := hq 3 _ rfl
      rw [c3] at h0 h1 h2 h3
      have h4 : DataW.trod enc Try.prog w base sp held n0 9 (([a0, a1, a2, a3, a4, a5].drop 4).take (Try.prog.cellsOf 9)) = some y4 := hq 4 _ rfl
      rw [c9] at h4
      have h5 : DataW.trod enc Try.prog w base sp held n0 32 (([a0, a1, a2, a3, a4, a5].drop 5).take (Try.prog.cellsOf 32)) = some y5 := hq 5 _ rfl
      rw [c32] at h5
      obtain ⟨op, e0, _, w0⟩ := DataW.trod_int Try.underlying3 h0
      obtain ⟨a, e1, _, w1⟩ := DataW.trod_int Try.underlying3 h1
      obtain ⟨b, e2, _, w2⟩ := DataW.trod_int Try.underlying3 h2
      obtain ⟨n, e3, _, w3⟩ := DataW.trod_int Try.underlying3 h3
      obtain ⟨tx, e4, q4, w4⟩ := DataW.trod_string Try.underlying9 h4
      have hts : tx.size ≤ 140737488351232 := by
        have := hw4 tx.data.toList.length (by rw [q4]; simp [DataW.weights])
        simpa [reachBytes] using this
      obtain ⟨L, sa, cap, g, off, e5, hok, ha, hlt, hby, hcp, hc⟩ := open_in (k := 1) (ok := fun x : Int => (Lit.int .i64 x).wf = true) (f := fun x : Int => [Value.int .i64 x]) (by decide) (fun _ => rfl) Try.underlying32 (by kernel_rfl) (fun fuel cs y hl _ h => by obtain ⟨x, e, _, hw⟩ := DataW.trod_int Try.underlying3 h; exact ⟨x, e, hw⟩) hw5 h5
      simp at e0 e1 e2 e3 e4 e5
      subst e0 e1 e2 e3 e4 e5
      refine ⟨⟨op, a, b, n, tx, sa, L, cap⟩, rfl, w1, w2, w3, hts, ⟨sa, cap, g, off, rfl, ha, fun j hj => ?_⟩, ?_, fun k hk h0 => ?_, hcp, hok⟩
      · have := hc j hj 0 _ rfl
        simpa using this
      · rw [b3] at hby
        simp [reachBytes] at hby
        show L.length ≤ _
        omega
      · have h0' : L.length ≠ 0 := h0
        simp only [Stp.sv] at hk
        rw [ha h0'] at hk
        cases hk
        exact hlt h0'
/-- The cells of a row of steps. -/
def RowS (w : World) (g off : Nat) (S : List Stp) : Prop := ∀ j (h : j < S.length), w.cell? ⟨g, off + j * 6, none⟩ = some (.int .i64 S[j].op) ∧ w.cell? ⟨g, off + j * 6 + 1, none⟩ = some (.int .i64 S[j].a) ∧ w.cell? ⟨g, off + j * 6 + 2, none⟩ = some (.int .i64 S[j].b) ∧ w.cell? ⟨g, off + j * 6 + 3, none⟩ = some (.int .i64 S[j].n) ∧ w.cell? ⟨g, off + j * 6 + 4, none⟩ = some (.string S[j].tx) ∧ w.cell? ⟨g, off + j * 6 + 5, none⟩ = some S[j].sv
set_option maxRecDepth 100000 in
theorem open_steps {v : Value} {d : DataW H} {ps : List MemPlace} {r : Reach} {b0 : Nat} (hw : Rch 23 d) (hval : Value.okWide Try.prog w r b0 23 v) (hd : DataW.Trod enc Try.prog w base sp held 23 v d ps) :
    ∃ (S : List Stp) (a : Option Addr) (cap g off : Nat), v = .slice a S.length cap ∧ (∀ s ∈ S, s.ok w) ∧ (S.length ≠ 0 → a = some ⟨g, off, none⟩) ∧ S.length ≤ 140737488355328 ∧ RowS w g off S := by
  obtain ⟨a0, len0, cap0, rfl⟩ := okWide_slice Try.underlying23 hval
  obtain ⟨fuel, hf0⟩ := hd
  have b34 : Try.prog.bytesOf 34 = 72 := by kernel_rfl
  obtain ⟨S, a, cap, g, off, h1, h4, h2, _, hby, _, h3⟩ := open_in (k := 6) (ok := Stp.ok w) (f := enc6) (by decide) (fun _ => rfl) Try.underlying23 (by kernel_rfl) (fun fuel cs y hl hw h => t_step hl hw h) (y := (d, ps)) hw hf0
  simp [Value.cells] at h1
  refine ⟨S, a, cap, g, off, by rw [h1.1, h1.2.1, h1.2.2], h4, h2, ?_, fun j hj => ⟨h3 j hj 0 _ rfl, h3 j hj 1 _ rfl, h3 j hj 2 _ rfl, h3 j hj 3 _ rfl, h3 j hj 4 _ rfl, h3 j hj 5 _ rfl⟩⟩
  rw [b34] at hby
  simp [reachBytes] at hby
  omega
end
end Go.Proofs.Ytbcgikkdhfbphaa
