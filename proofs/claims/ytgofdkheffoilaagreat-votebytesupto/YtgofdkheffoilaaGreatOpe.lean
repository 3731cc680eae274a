/- A message as an argument, opened. -/
import Derived.Test.YtgofdkheffoilaaGreatPle
import Derived.Test.YtgofdkheffoilaaGreatRows
import Derived.ProofKit
import Derived.OpenShut
import Derived.ShutString
import Derived.SizedLaws
import Derived.SevenTiedAt
namespace Go.Proofs.YtgofdkheffoilaaGreat
open Go.ChangeShapes Go.WideShapes Go.ChangeAt Go.RowKit
open Go.ChangeMaps (open_string shut_string)
theorem own : ownKnob Tryz.prog.godebug = none := by kernel_rfl
theorem laidOut : laidOutB Tryz.prog = true := by kernel_rfl
theorem list_of {α : Type} {Q : Nat → α → Prop} : ∀ m, (∀ i, i < m → ∃ x, Q i x) → ∃ l : List α, l.length = m ∧ ∀ i (h : i < l.length), Q i l[i]
  | 0, _ => ⟨[], rfl, fun i h => absurd h (Nat.not_lt_zero _)⟩
  | m + 1, hq => by
    obtain ⟨l, hl, hi⟩ := list_of m (fun i h => hq i (by omega))
    obtain ⟨x, hx⟩ := hq m (by omega)
    refine ⟨l ++ [x], by simp [hl], fun i h => ?_⟩
    by_cases e : i < l.length
    · rw [List.getElem_append_left e]; exact hi i e
    · have : i = l.length := by simp at h; omega
      subst this
      rw [List.getElem_append_right (Nat.le_refl _)]
      simp [hl, hx]
section
variable {H : Type} {enc : TypeId × Value → H} {w : World} {base : Nat} {sp : Nat → Bool} {held : Bool}
theorem cells_get {a : Addr} {n : Nat} {cs : List Value} (h : w.cells? base a n = some cs) (j : Nat) (hj : j < n) : w.cell? (a.add j) = cs[j]? := by
  unfold World.cells? at h
  split at h
  · exact mapM_some_get h j j (by simp [hj])
  · cases h
theorem spot_none {a : Addr} {k : Nat} {cs : List Value} (h : w.cells? base (a.add 0) k = some cs) (hk : 0 < k) (hc : cs.length = k) : a.spot = none := by
  have h1 := cells_get h 0 hk
  cases hsp : a.spot with
  | none => rfl
  | some z =>
    have e : w.cell? ((a.add 0).add 0) = none := by
      unfold World.cell?
      split
      · rw [if_pos (by simp [Addr.add, hsp])]
      · rfl
    rw [e, List.getElem?_eq_getElem (by omega)] at h1
    cases h1
theorem wf_u64 {n : Int} (h : (Lit.int .u64 n).wf = true) : 0 ≤ n ∧ n < 18446744073709551616 := by
  have h1 := of_decide_eq_true (Bool.and_eq_true_iff.1 h).1
  have h2 := of_decide_eq_true (Bool.and_eq_true_iff.1 h).2
  have e1 : IntKind.min .u64 = 0 := by decide
  have e2 : IntKind.max .u64 = 18446744073709551615 := by decide
  omega
theorem wf_u8 {n : Int} (h : (Lit.int .u8 n).wf = true) : 0 ≤ n ∧ n < 256 := by
  have h1 := of_decide_eq_true (Bool.and_eq_true_iff.1 h).1
  have h2 := of_decide_eq_true (Bool.and_eq_true_iff.1 h).2
  have e1 : IntKind.min .u8 = 0 := by decide
  have e2 : IntKind.max .u8 = 255 := by decide
  omega
theorem bk_mem : ∀ {l : List (DataW H)} {d : DataW H}, d ∈ l → Rows.uptoBulk d ≤ Rows.uptoBulkAll l
  | x :: l, d, hd => by
    rw [Rows.uptoBulkAll]
    rcases List.mem_cons.1 hd with rfl | hd
    · omega
    · have := bk_mem hd; omega
theorem bk_pos (d : DataW H) : 1 ≤ Rows.uptoBulk d := by
  cases d with
  | lit l => cases l <;> simp [Rows.uptoBulk]
  | nil => simp [Rows.uptoBulk]
  | ptr d => simp [Rows.uptoBulk]
  | slice a b => simp [Rows.uptoBulk]
  | agg a => simp [Rows.uptoBulk]
  | iface a b => simp [Rows.uptoBulk]
  | map a => simp [Rows.uptoBulk]
  | held a => simp [Rows.uptoBulk]
theorem bk_len : ∀ l : List (DataW H), l.length ≤ Rows.uptoBulkAll l
  | [] => Nat.zero_le _
  | x :: l => by
    rw [Rows.uptoBulkAll, List.length_cons]
    have := bk_pos x
    have := bk_len l
    omega
/-- What is read is not too much. -/
def Bk (d : DataW H) : Prop := Rows.uptoBulk d ≤ 1048576
set_option maxRecDepth 100000 in
/-- A row of things of k cells each, as it is read out of one cell. -/
theorem open_in {α : Type} {k t e : Nat} {f : α → List Value} {ok : α → Prop} (hk : 0 < k) (hf : ∀ x, (f x).length = k) (hu : Tryz.prog.underlying t = some (.slice e)) (hce : Tryz.prog.cellsOf e = k)
    (hop : ∀ (fuel : Nat) (cs : List Value) (y : DataW H × List MemPlace), cs.length = k → Bk y.1 → DataW.trod enc Tryz.prog w base sp held fuel e cs = some y → ∃ x, cs = f x ∧ ok x)
    {cl : List Value} {fuel : Nat} {y : DataW H × List MemPlace} (hw : Bk y.1) (hf0 : DataW.trod enc Tryz.prog w base sp held fuel t cl = some y) :
    ∃ (L : List α) (a : Option Addr) (cap g off : Nat), cl = [.slice a L.length cap] ∧ (∀ x ∈ L, ok x) ∧ (L.length ≠ 0 → a = some ⟨g, off, none⟩) ∧ L.length ≤ 1048576 ∧ ∀ j (h : j < L.length) c u, (f L[j])[c]? = some u → w.cell? ⟨g, off + j * k + c, none⟩ = some u := by
  rcases DataW.trod_slice hu hf0 with ⟨hcs, _⟩ | ⟨a, len0, cap0, elems, rest, n, _, hcs, hy, _, hl, _, hlen, hel, _⟩
  · exact ⟨[], none, 0, 0, 0, hcs, by simp, fun h => absurd rfl h, by simp, fun j h => by simp at h⟩
  · have hww : Rows.uptoBulk (.slice (elems.map (·.1)) (rest.map (·.1)) : DataW H) ≤ 1048576 := by
      have := hw
      unfold Bk at this
      rw [hy] at this
      exact this
    rw [Rows.uptoBulk] at hww
    have hln := bk_len (elems.map (·.1))
    rw [List.length_map] at hln
    obtain ⟨l, hll, hx⟩ := list_of (Q := fun i x => w.cells? base (a.add (i * k)) k = some (f x) ∧ ok x) len0 (fun i hi => by
      have h := hel i hi
      rw [hce] at h
      rw [List.getElem?_eq_getElem (by omega), Option.bind_eq_some_iff] at h
      obtain ⟨cs, h1, h2⟩ := h
      have hcl : cs.length = k := by
        have := h1
        unfold World.cells? at this
        split at this
        · have := mapM_some_length this
          simpa using this
        · cases this
      obtain ⟨x, rfl, hok⟩ := hop _ _ _ hcl (by have z := bk_mem (List.mem_map.2 ⟨_, List.getElem_mem (l := elems) (n := i) (by omega), rfl⟩ : (elems[i]'(by omega)).1 ∈ elems.map (·.1)); unfold Bk; omega) h2
      exact ⟨x, h1, hok⟩)
    by_cases h0 : l.length = 0
    · refine ⟨l, some a, cap0, 0, 0, by rw [hll]; exact hcs, fun x hm => ?_, fun h => absurd h0 h, by omega, fun j h => by omega⟩
      obtain ⟨i, hi, _⟩ := List.mem_iff_getElem.1 hm
      omega
    · have hb := World.cells?_block (hx 0 (by omega)).1 hk
      have h00 := (hx 0 (by omega)).1
      rw [Nat.zero_mul] at h00
      have hs : a.spot = none := spot_none h00 hk (hf _)
      have ea : ∀ z, a.add z = ⟨a.block, a.off + z, none⟩ := by
        intro z
        cases a
        simp only at hs
        subst hs
        rw [Addr.add_lit]
      refine ⟨l, some a, cap0, a.block, a.off, by rw [hll]; exact hcs, fun x hm => ?_, fun _ => ?_, by omega, fun j hj c u hu => ?_⟩
      · obtain ⟨i, hi, e⟩ := List.mem_iff_getElem.1 hm
        rw [← e]
        exact (hx i hi).2
      · cases a; simp_all
      · have hc : c < k := by have := (List.getElem?_eq_some_iff.1 hu).1; rw [hf] at this; exact this
        have h := cells_get (hx j hj).1 c hc
        rw [ea, Addr.add_lit] at h
        rw [h]
        exact hu
set_option maxRecDepth 100000 in
/-- A list of numbers. -/
theorem open_ints {cl : List Value} {fuel : Nat} {y : DataW H × List MemPlace} (hw : Bk y.1) (hf : DataW.trod enc Tryz.prog w base sp held fuel 25 cl = some y) : ∃ (L : List Int) (a : Option Addr) (cap : Nat), cl = [.slice a L.length cap] ∧ Sl E3 w a L ∧ L.length ≤ 1048576 := by
  obtain ⟨L, a, cap, g, off, h1, _, h2, h3, h4⟩ := open_in (k := 1) (ok := fun _ => True) (f := fun (x : Int) => [Value.int .i64 x]) (by decide) (fun _ => rfl) Tryz.underlying25 (by kernel_rfl) (fun fuel cs y hl _ h => by
    obtain ⟨n, e, _, _⟩ := DataW.trod_int Tryz.underlying3 h
    exact ⟨n, e, trivial⟩) hw hf
  exact ⟨L, a, cap, h1, ⟨g, off, h2, h4⟩, h3⟩
/-- What is known of an entry of an argument. -/
def okE (w : World) (x : GE × GA) : Prop := Sl E3 w x.2.a x.1.m ∧ x.1.m.length ≤ 1048576 ∧ (0 ≤ x.1.t ∧ 0 ≤ x.1.k ∧ x.1.d.size ≤ 1048576)
set_option maxRecDepth 100000 in
theorem t_ent {fuel : Nat} {cl : List Value} {y : DataW H × List MemPlace} (hsz : cl.length = 4) (hw : Bk y.1) (hf : DataW.trod enc Tryz.prog w base sp held fuel 72 cl = some y) : ∃ x : GE × GA, cl = encG x ∧ okE w x := by
  obtain ⟨xs, n0, _, hx, hl, hlen, hq⟩ := DataW.trod_struct Tryz.underlying72 hf
  have c23 : Tryz.prog.cellsOf 23 = 1 := by kernel_rfl
  have c70 : Tryz.prog.cellsOf 70 = 1 := by kernel_rfl
  have c9 : Tryz.prog.cellsOf 9 = 1 := by kernel_rfl
  have c25 : Tryz.prog.cellsOf 25 = 1 := by kernel_rfl
  match cl, hsz with
  | [a0, a1, a2, a3], _ =>
    match xs, hlen with
    | [y0, y1, y2, y3], _ =>
      have h0 : DataW.trod enc Tryz.prog w base sp held n0 23 (([a0, a1, a2, a3].drop 0).take (Tryz.prog.cellsOf 23)) = some y0 := hq 0 _ rfl
      have h1 : DataW.trod enc Tryz.prog w base sp held n0 70 (([a0, a1, a2, a3].drop 1).take (Tryz.prog.cellsOf 70)) = some y1 := hq 1 _ rfl
      have h2 : DataW.trod enc Tryz.prog w base sp held n0 9 (([a0, a1, a2, a3].drop 2).take (Tryz.prog.cellsOf 9)) = some y2 := hq 2 _ rfl
      have h3 : DataW.trod enc Tryz.prog w base sp held n0 25 (([a0, a1, a2, a3].drop 3).take (Tryz.prog.cellsOf 25)) = some y3 := hq 3 _ rfl
      rw [c23] at h0
      rw [c70] at h1
      rw [c9] at h2
      rw [c25] at h3
      unfold Bk at hw
      rw [hx] at hw
      simp only [List.map_cons, List.map_nil, Rows.uptoBulk, Rows.uptoBulkAll] at hw
      obtain ⟨t, e0, r0, w0⟩ := DataW.trod_int Tryz.underlying23 h0
      obtain ⟨k, e1, r1, w1⟩ := DataW.trod_int Tryz.underlying70 h1
      obtain ⟨d, e2, r2, w2⟩ := DataW.trod_string Tryz.underlying9 h2
      obtain ⟨m, a, cap, e3, hs, hm⟩ := open_ints (by unfold Bk; omega) h3
      rw [r2] at hw
      simp only [Rows.uptoBulk] at hw
      have hd : d.data.toList.length = d.size := rfl
      simp at e0 e1 e2 e3
      subst e0 e1 e2 e3
      have g0 := wf_u64 w0
      have g1 := wf_u8 w1
      exact ⟨(⟨t, k, d, m⟩, ⟨a, cap⟩), rfl, hs, hm, g0.1, g1.1, by show d.size ≤ 1048576; omega⟩
set_option maxRecDepth 100000 in
theorem t_msg {fuel : Nat} {cl : List Value} {y : DataW H × List MemPlace} (hsz : cl.length = 12) (hw : Bk y.1) (hf : DataW.trod enc Tryz.prog w base sp held fuel 27 cl = some y) : ∃ (m : GM) (x : GX), cl.toArray = mg m x ∧ Am w m x := by
  obtain ⟨xs, n0, _, hx, hl, hlen, hq⟩ := DataW.trod_struct Tryz.underlying27 hf
  have c22 : Tryz.prog.cellsOf 22 = 1 := by kernel_rfl
  have c3 : Tryz.prog.cellsOf 3 = 1 := by kernel_rfl
  have c4 : Tryz.prog.cellsOf 4 = 1 := by kernel_rfl
  have c23 : Tryz.prog.cellsOf 23 = 1 := by kernel_rfl
  have c24 : Tryz.prog.cellsOf 24 = 1 := by kernel_rfl
  have c9 : Tryz.prog.cellsOf 9 = 1 := by kernel_rfl
  have c25 : Tryz.prog.cellsOf 25 = 1 := by kernel_rfl
  match cl, hsz with
  | [a0, a1, a2, a3, a4, a5, a6, a7, a8, a9, a10, a11], _ =>
    match xs, hlen with
    | [y0, y1, y2, y3, y4, y5, y6, y7, y8, y9, y10, y11], _ =>
      have h0 : DataW.trod enc Tryz.prog w base sp held n0 22 (([a0, a1, a2, a3, a4, a5, a6, a7, a8, a9, a10, a11].drop 0).take (Tryz.prog.cellsOf 22)) = some y0 := hq 0 _ rfl
      rw [c22] at h0
      have h1 : DataW.trod enc Tryz.prog w base sp held n0 3 (([a0, a1, a2, a3, a4, a5, a6, a7, a8, a9, a10, a11].drop 1).take (Tryz.prog.cellsOf 3)) = some y1 := hq 1 _ rfl
      rw [c3] at h1
      have h2 : DataW.trod enc Tryz.prog w base sp held n0 3 (([a0, a1, a2, a3, a4, a5, a6, a7, a8, a9, a10, a11].drop 2).take (Tryz.prog.cellsOf 3)) = some y2 := hq 2 _ rfl
      rw [c3] at h2
      have h3 : DataW.trod enc Tryz.prog w base sp held n0 23 (([a0, a1, a2, a3, a4, a5, a6, a7, a8, a9, a10, a11].drop 3).take (Tryz.prog.cellsOf 23)) = some y3 := hq 3 _ rfl
      rw [c23] at h3
      have h4 : DataW.trod enc Tryz.prog w base sp held n0 23 (([a0, a1, a2, a3, a4, a5, a6, a7, a8, a9, a10, a11].drop 4).take (Tryz.prog.cellsOf 23)) = some y4 := hq 4 _ rfl
      rw [c23] at h4
      have h5 : DataW.trod enc Tryz.prog w base sp held n0 23 (([a0, a1, a2, a3, a4, a5, a6, a7, a8, a9, a10, a11].drop 5).take (Tryz.prog.cellsOf 23)) = some y5 := hq 5 _ rfl
      rw [c23] at h5
      have h6 : DataW.trod enc Tryz.prog w base sp held n0 23 (([a0, a1, a2, a3, a4, a5, a6, a7, a8, a9, a10, a11].drop 6).take (Tryz.prog.cellsOf 23)) = some y6 := hq 6 _ rfl
      rw [c23] at h6
      have h7 : DataW.trod enc Tryz.prog w base sp held n0 23 (([a0, a1, a2, a3, a4, a5, a6, a7, a8, a9, a10, a11].drop 7).take (Tryz.prog.cellsOf 23)) = some y7 := hq 7 _ rfl
      rw [c23] at h7
      have h8 : DataW.trod enc Tryz.prog w base sp held n0 4 (([a0, a1, a2, a3, a4, a5, a6, a7, a8, a9, a10, a11].drop 8).take (Tryz.prog.cellsOf 4)) = some y8 := hq 8 _ rfl
      rw [c4] at h8
      have h9 : DataW.trod enc Tryz.prog w base sp held n0 24 (([a0, a1, a2, a3, a4, a5, a6, a7, a8, a9, a10, a11].drop 9).take (Tryz.prog.cellsOf 24)) = some y9 := hq 9 _ rfl
      rw [c24] at h9
      have h10 : DataW.trod enc Tryz.prog w base sp held n0 25 (([a0, a1, a2, a3, a4, a5, a6, a7, a8, a9, a10, a11].drop 10).take (Tryz.prog.cellsOf 25)) = some y10 := hq 10 _ rfl
      rw [c25] at h10
      have h11 : DataW.trod enc Tryz.prog w base sp held n0 9 (([a0, a1, a2, a3, a4, a5, a6, a7, a8, a9, a10, a11].drop 11).take (Tryz.prog.cellsOf 9)) = some y11 := hq 11 _ rfl
      rw [c9] at h11
      unfold Bk at hw
      rw [hx] at hw
      simp only [List.map_cons, List.map_nil, Rows.uptoBulk, Rows.uptoBulkAll] at hw
      obtain ⟨n0k, e0, r0, w0⟩ := DataW.trod_int Tryz.underlying22 h0
      obtain ⟨n1, e1, r1, w1⟩ := DataW.trod_int Tryz.underlying3 h1
      obtain ⟨n2, e2, r2, w2⟩ := DataW.trod_int Tryz.underlying3 h2
      obtain ⟨n3, e3, r3, w3⟩ := DataW.trod_int Tryz.underlying23 h3
      obtain ⟨n4, e4, r4, w4⟩ := DataW.trod_int Tryz.underlying23 h4
      obtain ⟨n5, e5, r5, w5⟩ := DataW.trod_int Tryz.underlying23 h5
      obtain ⟨n6, e6, r6, w6⟩ := DataW.trod_int Tryz.underlying23 h6
      obtain ⟨n7, e7, r7, w7⟩ := DataW.trod_int Tryz.underlying23 h7
      obtain ⟨ok, e8, r8⟩ := DataW.trod_bool Tryz.underlying4 h8
      obtain ⟨L, a, cap, g, off, e9, hoks, ha, hL, hcel⟩ := open_in (k := 4) (ok := okE w) (f := encG) (by decide) (fun _ => rfl) Tryz.underlying24 (by kernel_rfl) (fun fuel cs y hl hb h => t_ent hl hb h) (by unfold Bk; omega) h9
      obtain ⟨mem, ma, mc, e10, hsm, hml⟩ := open_ints (by unfold Bk; omega) h10
      obtain ⟨sn, e11, r11, w11⟩ := DataW.trod_string Tryz.underlying9 h11
      rw [r11] at hw
      simp only [Rows.uptoBulk] at hw
      have hd : sn.data.toList.length = sn.size := rfl
      simp at e0 e1 e2 e3 e4 e5 e6 e7 e8 e9 e10 e11
      subst e0 e1 e2 e3 e4 e5 e6 e7 e8 e9 e10 e11
      have hlen2 : (L.map (·.1)).length = L.length := List.length_map ..
      refine ⟨⟨n0k, n1, n2, n3, n4, n5, n6, n7, ok, L.map (·.1), mem, sn⟩, ⟨a, cap, L, ma, mc⟩, ?_, ?_⟩
      · unfold mg; simp
      · have g0 := wf_u8 w0
        have g3 := wf_u64 w3
        have g4 := wf_u64 w4
        have g5 := wf_u64 w5
        have g6 := wf_u64 w6
        have g7 := wf_u64 w7
        refine ⟨⟨rfl, ⟨g, off, ha, hcel⟩, fun y hy => (hoks y hy).1, hsm⟩, ⟨g0.1, g3.1, g4.1, g5.1, g6, g7.1, fun e he => ?_, by show sn.size ≤ 1048576; omega⟩, by show (L.map (·.1)).length ≤ 1048576; omega, hml, fun y hy => (hoks y hy).2.1, g3.2, g4.2, g5.2, g7.2⟩
        obtain ⟨y, hy, rfl⟩ := List.mem_map.1 he
        exact (hoks y hy).2.2
set_option maxRecDepth 100000 in
theorem open_msg {v : Value} {d : DataW H} {ps : List MemPlace} {r : Reach} {b0 : Nat} (hw : Bk d) (hval : Value.okWide Tryz.prog w r b0 27 v) (hd : DataW.Trod enc Tryz.prog w base sp held 27 v d ps) : ∃ (m : GM) (x : GX), v = .agg (mg m x) ∧ Am w m x := by
  obtain ⟨cs, rfl, hsz⟩ := okWide_struct Tryz.underlying27 hval
  obtain ⟨fuel, hf⟩ := hd
  have cc : Tryz.prog.cellsOf 27 = 12 := by kernel_rfl
  rw [cc] at hsz
  obtain ⟨cl⟩ := cs
  obtain ⟨m, x, e, h⟩ := t_msg (y := (d, ps)) hsz hw hf
  exact ⟨m, x, by rw [← e], h⟩
end
end Go.Proofs.YtgofdkheffoilaaGreat
