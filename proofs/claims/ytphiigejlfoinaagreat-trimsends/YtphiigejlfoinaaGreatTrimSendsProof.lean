/- A member as an argument, opened. Proved: a leader that has cut off its log sends what one that has not sends, or a snapshot; for every input, no condition ('Rows.TrimSendsSaid'). -/
import Derived.Test.YtphiigejlfoinaaGreatHsl
import Derived.Test.YtphiigejlfoinaaGreatRows
import Derived.ProofKit
import Derived.OpenShut
import Derived.ShutString
import Derived.SizedLaws
import Derived.SevenTiedAt
import Derived.WalkKit
namespace Go.Proofs.YtphiigejlfoinaaGreat
open Go.ChangeShapes Go.WideShapes Go.ChangeAt Go.RowKit
open Go.ChangeMaps (open_string shut_string)
theorem own : ownKnob Tryz.prog.godebug = none := by kernel_rfl
theorem laidOut : laidOutB Tryz.prog = true := by kernel_rfl
theorem list_of {α : Type} {Q : Nat → α → Prop} : ∀ m, (∀ i, i < m → ∃ x, Q i x) → ∃ l : List α, l.length = m ∧ ∀ i (h : i < l.length), Q i l[i]
  | 0, _ => ⟨[], rfl, fun i h => absurd h (Nat.not_lt_zero _)⟩
  | m + 1, hq => by
    obtain ⟨l, hl, hi⟩ := list_of m (fun i h => hq i (by omega))
    obtain ⟨x, hx⟩ := hq m (by omega)
    refine ⟨l ++ [x], by simp [hl], fun i h => ?_⟩
    by_cases e : i < l.length
    · rw [List.getElem_append_left e]; exact hi i e
    · have : i = l.length := by simp at h; omega
      subst this
      rw [List.getElem_append_right (Nat.le_refl _)]
      simp [hl, hx]
section
variable {H : Type} {enc : TypeId × Value → H} {w : World} {base : Nat} {sp : Nat → Bool} {held : Bool}
theorem cells_get {a : Addr} {n : Nat} {cs : List Value} (h : w.cells? base a n = some cs) (j : Nat) (hj : j < n) : w.cell? (a.add j) = cs[j]? := by
  unfold World.cells? at h
  split at h
  · exact mapM_some_get h j j (by simp [hj])
  · cases h
theorem spot_none {a : Addr} {k : Nat} {cs : List Value} (h : w.cells? base (a.add 0) k = some cs) (hk : 0 < k) (hc : cs.length = k) : a.spot = none := by
  have h1 := cells_get h 0 hk
  cases hsp : a.spot with
  | none => rfl
  | some z =>
    have e : w.cell? ((a.add 0).add 0) = none := by
      unfold World.cell?
      split
      · rw [if_pos (by simp [Addr.add, hsp])]
      · rfl
    rw [e, List.getElem?_eq_getElem (by omega)] at h1
    cases h1
theorem wf_u64 {n : Int} (h : (Lit.int .u64 n).wf = true) : 0 ≤ n ∧ n < 18446744073709551616 := by
  have h1 := of_decide_eq_true (Bool.and_eq_true_iff.1 h).1
  have h2 := of_decide_eq_true (Bool.and_eq_true_iff.1 h).2
  have e1 : IntKind.min .u64 = 0 := by decide
  have e2 : IntKind.max .u64 = 18446744073709551615 := by decide
  omega
theorem wf_u8 {n : Int} (h : (Lit.int .u8 n).wf = true) : 0 ≤ n ∧ n < 256 := by
  have h1 := of_decide_eq_true (Bool.and_eq_true_iff.1 h).1
  have h2 := of_decide_eq_true (Bool.and_eq_true_iff.1 h).2
  have e1 : IntKind.min .u8 = 0 := by decide
  have e2 : IntKind.max .u8 = 255 := by decide
  omega
end
/-- Each list and text within is of no more bytes than a machine reaches. -/
def Wk {H : Type} (P : Program) (t : TypeId) (d : DataW H) : Prop := ∀ n ∈ d.weights P t, n ≤ reachBytes
section
variable {H : Type} {P : Program}
theorem wa_mem {e : TypeId} : ∀ {l : List (DataW H)} {d : DataW H}, d ∈ l → ∀ n ∈ d.weights P e, n ∈ DataW.weightsAll P e l
  | x :: l, d, hd, n, hn => by
    rw [DataW.weightsAll]
    rcases List.mem_cons.1 hd with rfl | hd
    · exact List.mem_append.2 (Or.inl hn)
    · exact List.mem_append.2 (Or.inr (wa_mem hd n hn))
theorem wk_agg {t ft : TypeId} {fs : Array Field} {parts : List (DataW H)} {j : Nat} {d : DataW H} (h : Wk P t (.agg parts)) (hu : P.underlying t = some (.struct fs)) (hj : (fs.toList.map (·.type))[j]? = some ft) (hd : parts[j]? = some d) : Wk P ft d := fun n hn => h n (by simp only [DataW.weights, hu]; exact DataW.weights_mem_each hj hd n hn)
theorem wk_slice {t e : TypeId} {elems spare : List (DataW H)} (h : Wk P t (.slice elems spare)) (hu : P.underlying t = some (.slice e)) : (elems.length + spare.length) * P.bytesOf e ≤ reachBytes ∧ ∀ d ∈ elems, Wk P e d := ⟨h _ (by simp only [DataW.weights, hu]; exact List.mem_cons_self), fun d hd n hn => h n (by simp only [DataW.weights, hu]; exact List.mem_cons_of_mem _ (List.mem_append.2 (Or.inl (wa_mem hd n hn))))⟩
end
section
variable {H : Type} {enc : TypeId × Value → H} {w : World} {base : Nat} {sp : Nat → Bool} {held : Bool}
set_option maxRecDepth 100000 in
/-- A row of things of k cells each, as it is read out of one cell. -/
theorem open_in {α : Type} {k t e : Nat} {f : α → List Value} {ok : α → Prop} (hk : 0 < k) (hf : ∀ x, (f x).length = k) (hu : Tryz.prog.underlying t = some (.slice e)) (hce : Tryz.prog.cellsOf e = k)
    (hop : ∀ (fuel : Nat) (cs : List Value) (y : DataW H × List MemPlace), cs.length = k → Wk Tryz.prog e y.1 → DataW.trod enc Tryz.prog w base sp held fuel e cs = some y → ∃ x, cs = f x ∧ ok x)
    {cl : List Value} {fuel : Nat} {y : DataW H × List MemPlace} (hw : Wk Tryz.prog t y.1) (hf0 : DataW.trod enc Tryz.prog w base sp held fuel t cl = some y) :
    ∃ (L : List α) (a : Option Addr) (cap g off : Nat), cl = [.slice a L.length cap] ∧ (∀ x ∈ L, ok x) ∧ (L.length ≠ 0 → a = some ⟨g, off, none⟩) ∧ (L.length * Tryz.prog.bytesOf e ≤ reachBytes ∧ L.length ≤ cap) ∧ ∀ j (h : j < L.length) c u, (f L[j])[c]? = some u → w.cell? ⟨g, off + j * k + c, none⟩ = some u := by
  rcases DataW.trod_slice hu hf0 with ⟨hcs, _⟩ | ⟨a, len0, cap0, elems, rest, n, _, hcs, hy, _, hl, _, hlen, hel, _⟩
  · exact ⟨[], none, 0, 0, 0, hcs, by simp, fun h => absurd rfl h, by simp, fun j h => by simp at h⟩
  · rw [hy] at hw
    obtain ⟨hww, hwe⟩ := wk_slice hw hu
    have hln : (elems.map (·.1)).length * Tryz.prog.bytesOf e ≤ reachBytes := Nat.le_trans (Nat.mul_le_mul_right _ (Nat.le_add_right _ _)) hww
    rw [List.length_map, hlen] at hln
    obtain ⟨l, hll, hx⟩ := list_of (Q := fun i x => w.cells? base (a.add (i * k)) k = some (f x) ∧ ok x) len0 (fun i hi => by
      have h := hel i hi
      rw [hce] at h
      rw [List.getElem?_eq_getElem (by omega), Option.bind_eq_some_iff] at h
      obtain ⟨cs, h1, h2⟩ := h
      have hcl : cs.length = k := by
        have := h1
        unfold World.cells? at this
        split at this
        · have := mapM_some_length this
          simpa using this
        · cases this
      obtain ⟨x, rfl, hok⟩ := hop _ _ _ hcl (hwe _ (List.mem_map.2 ⟨_, List.getElem_mem (l := elems) (n := i) (by omega), rfl⟩ : (elems[i]'(by omega)).1 ∈ elems.map (·.1))) h2
      exact ⟨x, h1, hok⟩)
    by_cases h0 : l.length = 0
    · refine ⟨l, some a, cap0, 0, 0, by rw [hll]; exact hcs, fun x hm => ?_, fun h => absurd h0 h, ⟨by rw [hll]; exact hln, by omega⟩, fun j h => by omega⟩
      obtain ⟨i, hi, _⟩ := List.mem_iff_getElem.1 hm
      omega
    · have hb := World.cells?_block (hx 0 (by omega)).1 hk
      have h00 := (hx 0 (by omega)).1
      rw [Nat.zero_mul] at h00
      have hs : a.spot = none := spot_none h00 hk (hf _)
      have ea : ∀ z, a.add z = ⟨a.block, a.off + z, none⟩ := by
        intro z
        cases a
        simp only at hs
        subst hs
        rw [Addr.add_lit]
      refine ⟨l, some a, cap0, a.block, a.off, by rw [hll]; exact hcs, fun x hm => ?_, fun _ => ?_, ⟨by rw [hll]; exact hln, by omega⟩, fun j hj c u hu => ?_⟩
      · obtain ⟨i, hi, e⟩ := List.mem_iff_getElem.1 hm
        rw [← e]
        exact (hx i hi).2
      · cases a; simp_all
      · have hc : c < k := by have := (List.getElem?_eq_some_iff.1 hu).1; rw [hf] at this; exact this
        have h := cells_get (hx j hj).1 c hc
        rw [ea, Addr.add_lit] at h
        rw [h]
        exact hu
set_option maxRecDepth 100000 in
/-- A list of numbers. -/
theorem open_ints {cl : List Value} {fuel : Nat} {y : DataW H × List MemPlace} (hw : Wk Tryz.prog 22 y.1) (hf : DataW.trod enc Tryz.prog w base sp held fuel 22 cl = some y) : ∃ (L : List Int) (a : Option Addr) (cap : Nat), cl = [.slice a L.length cap] ∧ Sl E3 w a L ∧ L.length ≤ 17592186044416 := by
  obtain ⟨L, a, cap, g, off, h1, _, h2, h3, h4⟩ := open_in (k := 1) (ok := fun _ => True) (f := fun (x : Int) => [Value.int .i64 x]) (by decide) (fun _ => rfl) Tryz.underlying22 (by kernel_rfl) (fun fuel cs y hl _ h => by
    obtain ⟨n, e, _, _⟩ := DataW.trod_int Tryz.underlying3 h
    exact ⟨n, e, trivial⟩) hw hf
  have hb : Tryz.prog.bytesOf 3 = 8 := by kernel_rfl
  rw [hb] at h3
  have hr : reachBytes = 140737488351232 := by decide
  rw [hr] at h3
  exact ⟨L, a, cap, h1, ⟨g, off, h2, h4⟩, by omega⟩
/-- What is known of an entry of an argument. -/
def okE (w : World) (x : GE × GA) : Prop := Sl E3 w x.2.a x.1.m ∧ x.1.m.length ≤ 17592186044416 ∧ (0 ≤ x.1.t ∧ x.1.t ≤ 18446744073709551615)
set_option maxRecDepth 100000 in
theorem t_ent {fuel : Nat} {cl : List Value} {y : DataW H × List MemPlace} (hsz : cl.length = 4) (hw : Wk Tryz.prog 60 y.1) (hf : DataW.trod enc Tryz.prog w base sp held fuel 60 cl = some y) : ∃ x : GE × GA, cl = encG x ∧ okE w x := by
  obtain ⟨xs, n0, _, hx, hl, hlen, hq⟩ := DataW.trod_struct Tryz.underlying60 hf
  have c23 : Tryz.prog.cellsOf 25 = 1 := by kernel_rfl
  have c70 : Tryz.prog.cellsOf 58 = 1 := by kernel_rfl
  have c9 : Tryz.prog.cellsOf 9 = 1 := by kernel_rfl
  have c25 : Tryz.prog.cellsOf 22 = 1 := by kernel_rfl
  match cl, hsz with
  | [a0, a1, a2, a3], _ =>
    match xs, hlen with
    | [y0, y1, y2, y3], _ =>
      have h0 : DataW.trod enc Tryz.prog w base sp held n0 25 (([a0, a1, a2, a3].drop 0).take (Tryz.prog.cellsOf 25)) = some y0 := hq 0 _ rfl
      have h1 : DataW.trod enc Tryz.prog w base sp held n0 58 (([a0, a1, a2, a3].drop 1).take (Tryz.prog.cellsOf 58)) = some y1 := hq 1 _ rfl
      have h2 : DataW.trod enc Tryz.prog w base sp held n0 9 (([a0, a1, a2, a3].drop 2).take (Tryz.prog.cellsOf 9)) = some y2 := hq 2 _ rfl
      have h3 : DataW.trod enc Tryz.prog w base sp held n0 22 (([a0, a1, a2, a3].drop 3).take (Tryz.prog.cellsOf 22)) = some y3 := hq 3 _ rfl
      rw [c23] at h0
      rw [c70] at h1
      rw [c9] at h2
      rw [c25] at h3
      rw [hx] at hw
      simp only [List.map_cons, List.map_nil] at hw
      obtain ⟨t, e0, r0, w0⟩ := DataW.trod_int Tryz.underlying25 h0
      obtain ⟨k, e1, r1, w1⟩ := DataW.trod_int Tryz.underlying58 h1
      obtain ⟨d, e2, r2, w2⟩ := DataW.trod_string Tryz.underlying9 h2
      obtain ⟨m, a, cap, e3, hs, hm⟩ := open_ints (wk_agg hw Tryz.underlying60 (j := 3) rfl rfl) h3
      simp at e0 e1 e2 e3
      subst e0 e1 e2 e3
      have g0 := wf_u64 w0
      have g1 := wf_u8 w1
      exact ⟨(⟨t, k, d, m⟩, ⟨a, cap⟩), rfl, hs, hm, g0.1, by have := g0.2; show t ≤ 18446744073709551615; omega⟩
set_option maxRecDepth 100000 in
set_option maxHeartbeats 4000000 in
theorem t_fol {fuel : Nat} {cl : List Value} {y : DataW H × List MemPlace} (hsz : cl.length = 3) (_hw : Wk Tryz.prog 72 y.1) (hf : DataW.trod enc Tryz.prog w base sp held fuel 72 cl = some y) : ∃ x : Int × Int × Int, cl = encF x ∧ ((0 ≤ x.2.1 ∧ x.2.1 ≤ 18446744073709551615) ∧ 0 ≤ x.2.2 ∧ x.2.2 ≤ 18446744073709551615) := by
  obtain ⟨xs, n0, _, hx, hl, hlen, hq⟩ := DataW.trod_struct Tryz.underlying72 hf
  have c0 : Tryz.prog.cellsOf 3 = 1 := by kernel_rfl
  have c1 : Tryz.prog.cellsOf 25 = 1 := by kernel_rfl
  match cl, hsz with
  | [a0, a1, a2], _ =>
    match xs, hlen with
    | [y0, y1, y2], _ =>
      have h0 : DataW.trod enc Tryz.prog w base sp held n0 3 (([a0, a1, a2].drop 0).take (Tryz.prog.cellsOf 3)) = some y0 := hq 0 _ rfl
      rw [c0] at h0
      have h1 : DataW.trod enc Tryz.prog w base sp held n0 25 (([a0, a1, a2].drop 1).take (Tryz.prog.cellsOf 25)) = some y1 := hq 1 _ rfl
      rw [c1] at h1
      have h2 : DataW.trod enc Tryz.prog w base sp held n0 25 (([a0, a1, a2].drop 2).take (Tryz.prog.cellsOf 25)) = some y2 := hq 2 _ rfl
      rw [c1] at h2
      obtain ⟨n, e0, r0, w0⟩ := DataW.trod_int Tryz.underlying3 h0
      obtain ⟨p, e1, r1, w1⟩ := DataW.trod_int Tryz.underlying25 h1
      obtain ⟨q, e2, r2, w2⟩ := DataW.trod_int Tryz.underlying25 h2
      simp at e0 e1 e2
      subst e0 e1 e2
      have g1 := wf_u64 w1
      have g2 := wf_u64 w2
      exact ⟨(n, p, q), rfl, ⟨g1.1, by have := g1.2; show p ≤ 18446744073709551615; omega⟩, g2.1, by have := g2.2; show q ≤ 18446744073709551615; omega⟩
set_option maxRecDepth 100000 in
set_option maxHeartbeats 4000000 in
theorem t_read {fuel : Nat} {cl : List Value} {y : DataW H × List MemPlace} (hsz : cl.length = 3) (hw : Wk Tryz.prog 101 y.1) (hf : DataW.trod enc Tryz.prog w base sp held fuel 101 cl = some y) : ∃ x : GR × GA, cl = encR x ∧ (Sl E3 w x.2.a x.1.a ∧ x.1.a.length ≤ 17592186044416) := by
  obtain ⟨xs, n0, _, hx, hl, hlen, hq⟩ := DataW.trod_struct Tryz.underlying101 hf
  have c0 : Tryz.prog.cellsOf 25 = 1 := by kernel_rfl
  have c1 : Tryz.prog.cellsOf 22 = 1 := by kernel_rfl
  match cl, hsz with
  | [a0, a1, a2], _ =>
    match xs, hlen with
    | [y0, y1, y2], _ =>
      have h0 : DataW.trod enc Tryz.prog w base sp held n0 25 (([a0, a1, a2].drop 0).take (Tryz.prog.cellsOf 25)) = some y0 := hq 0 _ rfl
      rw [c0] at h0
      have h1 : DataW.trod enc Tryz.prog w base sp held n0 25 (([a0, a1, a2].drop 1).take (Tryz.prog.cellsOf 25)) = some y1 := hq 1 _ rfl
      rw [c0] at h1
      have h2 : DataW.trod enc Tryz.prog w base sp held n0 22 (([a0, a1, a2].drop 2).take (Tryz.prog.cellsOf 22)) = some y2 := hq 2 _ rfl
      rw [c1] at h2
      rw [hx] at hw
      simp only [List.map_cons, List.map_nil] at hw
      obtain ⟨p, e0, r0, w0⟩ := DataW.trod_int Tryz.underlying25 h0
      obtain ⟨q, e1, r1, w1⟩ := DataW.trod_int Tryz.underlying25 h1
      obtain ⟨m, a, cap, e2, hs, hm⟩ := open_ints (wk_agg hw Tryz.underlying101 (j := 2) rfl rfl) h2
      simp at e0 e1 e2
      subst e0 e1 e2
      exact ⟨(⟨p, q, m⟩, ⟨a, cap⟩), rfl, hs, hm⟩
set_option maxRecDepth 100000 in
set_option maxHeartbeats 4000000 in
theorem t_peer {fuel : Nat} {cl : List Value} {y : DataW H × List MemPlace} (hsz : cl.length = 18) (hw : Wk Tryz.prog 31 y.1) (hf : DataW.trod enc Tryz.prog w base sp held fuel 31 cl = some y) : ∃ (s : GP) (x : Px), cl.toArray = gc s x ∧ Gp w s x ∧ (smallB s = true → Gz s x) := by
  obtain ⟨xs, n0, _, hx, hl, hlen, hq⟩ := DataW.trod_struct Tryz.underlying31 hf
  have c0 : Tryz.prog.cellsOf 3 = 1 := by kernel_rfl
  have c1 : Tryz.prog.cellsOf 22 = 1 := by kernel_rfl
  have c2 : Tryz.prog.cellsOf 25 = 1 := by kernel_rfl
  have c3 : Tryz.prog.cellsOf 26 = 1 := by kernel_rfl
  have c4 : Tryz.prog.cellsOf 9 = 1 := by kernel_rfl
  have c5 : Tryz.prog.cellsOf 27 = 1 := by kernel_rfl
  have c6 : Tryz.prog.cellsOf 28 = 1 := by kernel_rfl
  have c7 : Tryz.prog.cellsOf 29 = 1 := by kernel_rfl
  match cl, hsz with
  | [a0, a1, a2, a3, a4, a5, a6, a7, a8, a9, a10, a11, a12, a13, a14, a15, a16, a17], _ =>
    match xs, hlen with
    | [y0, y1, y2, y3, y4, y5, y6, y7, y8, y9, y10, y11, y12, y13, y14, y15, y16, y17], _ =>
      have h0 : DataW.trod enc Tryz.prog w base sp held n0 3 (([a0, a1, a2, a3, a4, a5, a6, a7, a8, a9, a10, a11, a12, a13, a14, a15, a16, a17].drop 0).take (Tryz.prog.cellsOf 3)) = some y0 := hq 0 _ rfl
      rw [c0] at h0
      have h1 : DataW.trod enc Tryz.prog w base sp held n0 22 (([a0, a1, a2, a3, a4, a5, a6, a7, a8, a9, a10, a11, a12, a13, a14, a15, a16, a17].drop 1).take (Tryz.prog.cellsOf 22)) = some y1 := hq 1 _ rfl
      rw [c1] at h1
      have h2 : DataW.trod enc Tryz.prog w base sp held n0 25 (([a0, a1, a2, a3, a4, a5, a6, a7, a8, a9, a10, a11, a12, a13, a14, a15, a16, a17].drop 2).take (Tryz.prog.cellsOf 25)) = some y2 := hq 2 _ rfl
      rw [c2] at h2
      have h3 : DataW.trod enc Tryz.prog w base sp held n0 3 (([a0, a1, a2, a3, a4, a5, a6, a7, a8, a9, a10, a11, a12, a13, a14, a15, a16, a17].drop 3).take (Tryz.prog.cellsOf 3)) = some y3 := hq 3 _ rfl
      rw [c0] at h3
      have h4 : DataW.trod enc Tryz.prog w base sp held n0 26 (([a0, a1, a2, a3, a4, a5, a6, a7, a8, a9, a10, a11, a12, a13, a14, a15, a16, a17].drop 4).take (Tryz.prog.cellsOf 26)) = some y4 := hq 4 _ rfl
      rw [c3] at h4
      have h5 : DataW.trod enc Tryz.prog w base sp held n0 3 (([a0, a1, a2, a3, a4, a5, a6, a7, a8, a9, a10, a11, a12, a13, a14, a15, a16, a17].drop 5).take (Tryz.prog.cellsOf 3)) = some y5 := hq 5 _ rfl
      rw [c0] at h5
      have h6 : DataW.trod enc Tryz.prog w base sp held n0 25 (([a0, a1, a2, a3, a4, a5, a6, a7, a8, a9, a10, a11, a12, a13, a14, a15, a16, a17].drop 6).take (Tryz.prog.cellsOf 25)) = some y6 := hq 6 _ rfl
      rw [c2] at h6
      have h7 : DataW.trod enc Tryz.prog w base sp held n0 25 (([a0, a1, a2, a3, a4, a5, a6, a7, a8, a9, a10, a11, a12, a13, a14, a15, a16, a17].drop 7).take (Tryz.prog.cellsOf 25)) = some y7 := hq 7 _ rfl
      rw [c2] at h7
      have h8 : DataW.trod enc Tryz.prog w base sp held n0 22 (([a0, a1, a2, a3, a4, a5, a6, a7, a8, a9, a10, a11, a12, a13, a14, a15, a16, a17].drop 8).take (Tryz.prog.cellsOf 22)) = some y8 := hq 8 _ rfl
      rw [c1] at h8
      have h9 : DataW.trod enc Tryz.prog w base sp held n0 9 (([a0, a1, a2, a3, a4, a5, a6, a7, a8, a9, a10, a11, a12, a13, a14, a15, a16, a17].drop 9).take (Tryz.prog.cellsOf 9)) = some y9 := hq 9 _ rfl
      rw [c4] at h9
      have h10 : DataW.trod enc Tryz.prog w base sp held n0 27 (([a0, a1, a2, a3, a4, a5, a6, a7, a8, a9, a10, a11, a12, a13, a14, a15, a16, a17].drop 10).take (Tryz.prog.cellsOf 27)) = some y10 := hq 10 _ rfl
      rw [c5] at h10
      have h11 : DataW.trod enc Tryz.prog w base sp held n0 25 (([a0, a1, a2, a3, a4, a5, a6, a7, a8, a9, a10, a11, a12, a13, a14, a15, a16, a17].drop 11).take (Tryz.prog.cellsOf 25)) = some y11 := hq 11 _ rfl
      rw [c2] at h11
      have h12 : DataW.trod enc Tryz.prog w base sp held n0 3 (([a0, a1, a2, a3, a4, a5, a6, a7, a8, a9, a10, a11, a12, a13, a14, a15, a16, a17].drop 12).take (Tryz.prog.cellsOf 3)) = some y12 := hq 12 _ rfl
      rw [c0] at h12
      have h13 : DataW.trod enc Tryz.prog w base sp held n0 3 (([a0, a1, a2, a3, a4, a5, a6, a7, a8, a9, a10, a11, a12, a13, a14, a15, a16, a17].drop 13).take (Tryz.prog.cellsOf 3)) = some y13 := hq 13 _ rfl
      rw [c0] at h13
      have h14 : DataW.trod enc Tryz.prog w base sp held n0 22 (([a0, a1, a2, a3, a4, a5, a6, a7, a8, a9, a10, a11, a12, a13, a14, a15, a16, a17].drop 14).take (Tryz.prog.cellsOf 22)) = some y14 := hq 14 _ rfl
      rw [c1] at h14
      have h15 : DataW.trod enc Tryz.prog w base sp held n0 28 (([a0, a1, a2, a3, a4, a5, a6, a7, a8, a9, a10, a11, a12, a13, a14, a15, a16, a17].drop 15).take (Tryz.prog.cellsOf 28)) = some y15 := hq 15 _ rfl
      rw [c6] at h15
      have h16 : DataW.trod enc Tryz.prog w base sp held n0 25 (([a0, a1, a2, a3, a4, a5, a6, a7, a8, a9, a10, a11, a12, a13, a14, a15, a16, a17].drop 16).take (Tryz.prog.cellsOf 25)) = some y16 := hq 16 _ rfl
      rw [c2] at h16
      have h17 : DataW.trod enc Tryz.prog w base sp held n0 29 (([a0, a1, a2, a3, a4, a5, a6, a7, a8, a9, a10, a11, a12, a13, a14, a15, a16, a17].drop 17).take (Tryz.prog.cellsOf 29)) = some y17 := hq 17 _ rfl
      rw [c7] at h17
      rw [hx] at hw
      simp only [List.map_cons, List.map_nil] at hw
      obtain ⟨nid, e0, r0, w0⟩ := DataW.trod_int Tryz.underlying3 h0
      obtain ⟨nM, aM, kM, e1, sM, bM⟩ := open_ints (wk_agg hw Tryz.underlying31 (j := 1) rfl rfl) h1
      obtain ⟨nterm, e2, r2, w2⟩ := DataW.trod_int Tryz.underlying25 h2
      obtain ⟨nvote, e3, r3, w3⟩ := DataW.trod_int Tryz.underlying3 h3
      obtain ⟨nrole, e4, r4, w4⟩ := DataW.trod_int Tryz.underlying26 h4
      obtain ⟨nlead, e5, r5, w5⟩ := DataW.trod_int Tryz.underlying3 h5
      obtain ⟨nbase, e6, r6, w6⟩ := DataW.trod_int Tryz.underlying25 h6
      obtain ⟨nbaseT, e7, r7, w7⟩ := DataW.trod_int Tryz.underlying25 h7
      obtain ⟨nB, aB, kB, e8, sB, bB⟩ := open_ints (wk_agg hw Tryz.underlying31 (j := 8) rfl rfl) h8
      obtain ⟨nsnap, e9, r9, w9⟩ := DataW.trod_string Tryz.underlying9 h9
      obtain ⟨nlog, alog, klog, glog, olog, e10, ulog, plog, blog, qlog⟩ := open_in (k := 4) (ok := okE w) (f := encG) (by decide) (fun _ => rfl) Tryz.underlying27 (by kernel_rfl) (fun fuel cs y hl hb h => t_ent hl hb h) (wk_agg hw Tryz.underlying31 (j := 10) rfl rfl) h10
      obtain ⟨ncommit, e11, r11, w11⟩ := DataW.trod_int Tryz.underlying25 h11
      obtain ⟨nidle, e12, r12, w12⟩ := DataW.trod_int Tryz.underlying3 h12
      obtain ⟨nwait, e13, r13, w13⟩ := DataW.trod_int Tryz.underlying3 h13
      obtain ⟨nvotes, avotes, kvotes, e14, svotes, bvotes⟩ := open_ints (wk_agg hw Tryz.underlying31 (j := 14) rfl rfl) h14
      obtain ⟨nfol, afol, kfol, gfol, ofol, e15, ufol, pfol, bfol, qfol⟩ := open_in (k := 3) (ok := fun z => (0 ≤ z.2.1 ∧ z.2.1 ≤ 18446744073709551615) ∧ 0 ≤ z.2.2 ∧ z.2.2 ≤ 18446744073709551615) (f := encF) (by decide) (fun _ => rfl) Tryz.underlying28 (by kernel_rfl) (fun fuel cs y hl hb h => t_fol hl hb h) (wk_agg hw Tryz.underlying31 (j := 15) rfl rfl) h15
      obtain ⟨nround, e16, r16, w16⟩ := DataW.trod_int Tryz.underlying25 h16
      obtain ⟨nreads, areads, kreads, greads, oreads, e17, ureads, preads, breads, qreads⟩ := open_in (k := 3) (ok := fun z => Sl E3 w z.2.a z.1.a ∧ z.1.a.length ≤ 17592186044416) (f := encR) (by decide) (fun _ => rfl) Tryz.underlying29 (by kernel_rfl) (fun fuel cs y hl hb h => t_read hl hb h) (wk_agg hw Tryz.underlying31 (j := 17) rfl rfl) h17
      clear h0 h1 h2 h3 h4 h5 h6 h7 h8 h9 h10 h11 h12 h13 h14 h15 h16 h17
      simp at e0 e1 e2 e3 e4 e5 e6 e7 e8 e9 e10 e11 e12 e13 e14 e15 e16 e17
      subst e0 e1 e2 e3 e4 e5 e6 e7 e8 e9 e10 e11 e12 e13 e14 e15 e16 e17
      have hll : (nlog.map (·.1)).length = nlog.length := List.length_map ..
      have hlr : (nreads.map (·.1)).length = nreads.length := List.length_map ..
      refine ⟨⟨nid, nM, nterm, nvote, nrole, nlead, nbase, nbaseT, nB, nsnap, nlog.map (·.1), ncommit, nidle, nwait, nvotes, nfol, nround, nreads.map (·.1)⟩, ⟨aM, kM, aB, kB, alog, klog, avotes, kvotes, afol, kfol, areads, kreads⟩, ?_, ?_, ?_⟩
      · unfold gc; simp
      · exact ⟨sM, sB, ⟨nlog, rfl, ⟨glog, olog, plog, qlog⟩, fun z hz => (ulog z hz).1⟩, svotes, ⟨gfol, ofol, pfol, qfol⟩, ⟨nreads, rfl, ⟨greads, oreads, preads, qreads⟩, fun z hz => (ureads z hz).1⟩⟩
      · have g2 := wf_u64 w2
        have g6 := wf_u64 w6
        have g7 := wf_u64 w7
        have g11 := wf_u64 w11
        have g16 := wf_u64 w16
        intro hsm
        unfold smallB at hsm
        simp only [Bool.and_eq_true, decide_eq_true_eq, hll, hlr] at hsm
        have vM : nM.length ≤ 17592186044416 := bM
        have vB : nB.length ≤ 17592186044416 := bB
        have vv : nvotes.length ≤ 17592186044416 := bvotes
        refine ⟨⟨g2.1, by show nterm ≤ (18446744073709551615 : Int); omega⟩, ⟨g6.1, by show nbase ≤ (18446744073709551615 : Int); omega⟩, ⟨g7.1, by show nbaseT ≤ (18446744073709551615 : Int); omega⟩, ⟨g11.1, by show ncommit ≤ (18446744073709551615 : Int); omega⟩, ⟨g16.1, by show nround ≤ (18446744073709551615 : Int); omega⟩, by show nM.length ≤ _; omega, by show nB.length ≤ _; omega, by show nvotes.length ≤ _; omega, by show (nlog.map (·.1)).length ≤ _; omega, ?_, ?_, by show nfol.length ≤ _; omega, ufol, by show (nreads.map (·.1)).length ≤ _; omega, ?_, by show (nlog.map (·.1)).length ≤ klog; have := blog.2; omega⟩
        · intro e he
          obtain ⟨z, hz, rfl⟩ := List.mem_map.1 he
          have := (ulog z hz).2.1
          omega
        · intro e he
          obtain ⟨z, hz, rfl⟩ := List.mem_map.1 he
          exact (ulog z hz).2.2
        · intro e he
          obtain ⟨z, hz, rfl⟩ := List.mem_map.1 he
          have := (ureads z hz).2
          omega
set_option maxRecDepth 100000 in
theorem open_peer {v : Value} {d : DataW H} {ps : List MemPlace} {r : Reach} {b0 : Nat} (hw : Wk Tryz.prog 31 d) (hval : Value.okWide Tryz.prog w r b0 31 v) (hd : DataW.Trod enc Tryz.prog w base sp held 31 v d ps) : ∃ (s : GP) (x : Px), v = .agg (gc s x) ∧ Gp w s x ∧ (smallB s = true → Gz s x) := by
  obtain ⟨cs, rfl, hsz⟩ := okWide_struct Tryz.underlying31 hval
  obtain ⟨fuel, hf⟩ := hd
  have cc : Tryz.prog.cellsOf 31 = 18 := by kernel_rfl
  rw [cc] at hsz
  obtain ⟨cl⟩ := cs
  obtain ⟨s, x, e, h⟩ := t_peer (y := (d, ps)) hsz hw hf
  exact ⟨s, x, by rw [← e], h⟩
end
end Go.Proofs.YtphiigejlfoinaaGreat
namespace Go.Proofs.YtphiigejlfoinaaGreat.trimSends
open Go.ChangeShapes Go.WideShapes Go.ChangeAt Go.RowKit
set_option linter.unusedVariables false

set_option maxRecDepth 100000 in
theorem lifted (os : Os) (started : os.Started) (H : Type) (enc : TypeId × Value → H) :
    ReturnsInHanded {} Tryz.checked os 6 .any (Rows.trimSendsSpec.pre6 enc Tryz.prog Tryz.f6 Rows.trimSendsRow.domain false) (Rows.trimSendsSpec.post enc Tryz.prog Tryz.f6 false true false false) := by
  refine returnsInHanded_of_change_sized (C := Tryz.checked) own started (by kernel_rfl) Tryz.func6
    (ChangeSpec.witness6 (enc := enc) (C := Tryz.checked) false ⟨#[], #[.agg #[.int .i64 0, .slice none 0 0, .int .u64 0, .int .i64 0, .int .u8 0, .int .i64 0, .int .u64 0, .int .u64 0, .slice none 0 0, .string ByteArray.empty, .slice none 0 0, .int .u64 0, .int .i64 0, .int .i64 0, .slice none 0 0, .slice none 0 0, .int .u64 0, .slice none 0 0], .int .u64 0], []⟩ 8 (by kernel_rfl) (by kernel_rfl) (by kernel_rfl) (by kernel_rfl)) ?_
  intro W base args ds gs before hval0 hW hcnd hsz0 _
  have hsz : (DataW.weightsEach Tryz.prog (Tryz.f6.params.toList ++ Rows.trimSendsSpec.plain.varTypes Tryz.prog) (ds ++ gs)).all (· ≤ reachBytes) = true := hsz0
  have hval : ∀ (j : Nat) t v, Tryz.f6.params[j]? = some t → args[j]? = some v → Value.okWide Tryz.prog W .any base t v := hval0
  have hW' := hW
  obtain ⟨p, q, hA0, hV, rfl, hfz, hnd⟩ := hW
  have hA : DataW.TrodAll enc Tryz.prog W 0 (fun _ => true) true Tryz.f6.params.toList args.toList ds p := hA0
  rw [Tryz.params6] at hA hval hsz
  obtain ⟨v0, vs0, d0, ds0, p0, q0, hargs, rfl, rfl, h0, r0⟩ := trodAll_cons hA
  obtain ⟨v1, vs1, d1, ds1, p1, q1, rfl, rfl, rfl, h1, r1⟩ := trodAll_cons r0
  obtain ⟨rfl, rfl, rfl⟩ := trodAll_nil r1
  obtain rfl : args = #[v0, v1] := by cases args; simp_all
  obtain ⟨rfl, rfl⟩ := trodVars_none hV
  obtain ⟨a1, rfl, rfl, rfl, w1⟩ := open_int Tryz.underlying25 (hval 1 25 v1 rfl rfl) h1
  clear hA0 hval0
  simp only [List.append_nil] at hW'
  obtain ⟨s, x, e0, hm, hz⟩ := open_peer (fun n hn => of_decide_eq_true (List.all_eq_true.1 hsz n (DataW.weights_mem_each (j := 0) rfl rfl n hn))) (hval 0 31 v0 rfl rfl) h0
  have hto := wf_u64 w1
  have hlt0 : ∀ x ∈ p0, x.block < W.heap.size := fun x hx => hW'.lt x (by simp [hx])
  have hcall : Calls Tryz.prog 6 #[.agg (gc s x), .int .u64 a1] W fun e w' => e = .returned (.bool true) ∧ Bel W w' := by
    cases hs : smallB s with
    | false => exact sends_big a1 hs
    | true => cases hc : cmpB s a1 with
      | false => exact sends_no hm (hz hs) a1 hs hc
      | true => exact sends_yes hm (hz hs) a1 ⟨hto.1, by omega⟩ hs hc
  rw [← e0] at hcall
  refine hcall.mono fun e W' ⟨he, hg⟩ => ?_
  subst he
  exact ⟨_, rfl, _, _, _, [], _, [], hW', trodAll_mk1 (shut_bool Tryz.underlying4 _), (trodAll_cons_mk (Below.trod laidOut (by kernel_rfl) (of_decide_eq_true (by kernel_rfl)) h0 hg hlt0) (trodAll_cons_mk (shut_int Tryz.underlying25 w1) trodAll_mk0)), rfl, World.keptBut_mono (fun _ f => f.elim) hg.kept, fun h => by cases h⟩

theorem over : Rows.trimSendsRow.holds Tryz.pinned (OpenSpec.ofChange Rows.trimSendsSpec) :=
  OpenClaim.holds_of_wide 6 Tryz.f6 rfl rfl rfl rfl rfl rfl rfl ⟨rfl, rfl, rfl, rfl, rfl⟩ rfl rfl rfl rfl rfl (by kernel_rfl) Tryz.func6 (by kernel_rfl)
    (of_decide_eq_true (by kernel_rfl)) (by unfold Func.isWrapper; first | (rw [if_pos (by decide +kernel)]; kernel_rfl) | (rw [if_neg (by decide +kernel)]; exact ⟨rfl, rfl⟩))
    (fun os started H enc _ => lifted os started H enc)

theorem proved : Rows.TrimSendsSaid := over
end Go.Proofs.YtphiigejlfoinaaGreat.trimSends

namespace Go.Proofs.YtphiigejlfoinaaGreat
theorem trimSends_holds : Rows.TrimSendsSaid := trimSends.proved
end Go.Proofs.YtphiigejlfoinaaGreat
