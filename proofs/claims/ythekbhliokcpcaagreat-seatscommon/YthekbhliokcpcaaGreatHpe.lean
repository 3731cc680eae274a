/- Members in general, with a Base and readings: their cells, boxes; Last, behindBase, Term. -/
import Derived.Test.YthekbhliokcpcaaGreatEnt
import Derived.Test.YthekbhliokcpcaaGreatWcl
namespace Go.Proofs.YthekbhliokcpcaaGreat
open Go.RowKit Go.Maps
/-- A reading. -/
structure GR where
  r : Int
  i : Int
  a : List Int
def encR (x : GR × GA) : List Value := [.int .u64 x.1.r, .int .u64 x.1.i, .slice x.2.a x.1.a.length x.2.c]
/-- Rows of readings. -/
def ER : El (GR × GA) := { enc := encR, k := 3, e := 104, t := 29, bytes := 40, z := .agg #[.int .u64 0, .int .u64 0, .slice none 0 0], hk := by decide, len := fun _ => rfl, one := fun x u hu => by simp [encR] at hu; rcases hu with rfl | rfl | rfl <;> rfl, ht := Tryz.underlying29, hi := by kernel_rfl, hz := rfl, hb := by decide }
theorem ER_cell {W : World} {g off : Nat} {l : List (GR × GA)} (h : ER.R W g off l) (j : Nat) (hj : j < l.length) : W.cell? ⟨g, off + j * 3, none⟩ = some (.int .u64 l[j].1.r) ∧ W.cell? ⟨g, off + j * 3 + 1, none⟩ = some (.int .u64 l[j].1.i) ∧ W.cell? ⟨g, off + j * 3 + 2, none⟩ = some (.slice l[j].2.a l[j].1.a.length l[j].2.c) := by
  have h0 := h j hj 0 _ rfl
  have h1 := h j hj 1 _ rfl
  have h2 := h j hj 2 _ rfl
  exact ⟨by simpa [ER] using h0, by simpa [ER] using h1, by simpa [ER] using h2⟩
/-- The readings' Acks are read as they are. -/
def Ga (W : World) (L : List (GR × GA)) : Prop := ∀ x ∈ L, Sl E3 W x.2.a x.1.a
theorem Ga.bel {W W' : World} {L : List (GR × GA)} (h : Ga W L) (hb : Bel W W') : Ga W' L := fun x hx => (h x hx).bel hb
/-- A slice of entries that reads as these. -/
def SlG (W : World) (a : Option Addr) (l : List GE) : Prop := ∃ L : List (GE × GA), L.map (·.1) = l ∧ Sl EG W a L ∧ Gm W L
theorem SlG.bel {W W' : World} {a : Option Addr} {l : List GE} (h : SlG W a l) (hb : Bel W W') : SlG W' a l := by
  obtain ⟨L, h1, h2, h3⟩ := h
  exact ⟨L, h1, h2.bel hb, h3.bel hb⟩
/-- A slice of readings that reads as these. -/
def SlR (W : World) (a : Option Addr) (l : List GR) : Prop := ∃ L : List (GR × GA), L.map (·.1) = l ∧ Sl ER W a L ∧ Ga W L
theorem SlR.bel {W W' : World} {a : Option Addr} {l : List GR} (h : SlR W a l) (hb : Bel W W') : SlR W' a l := by
  obtain ⟨L, h1, h2, h3⟩ := h
  exact ⟨L, h1, h2.bel hb, h3.bel hb⟩
/-- A member. -/
structure GP where
  id : Int
  M : List Int
  term : Int
  vote : Int
  role : Int
  lead : Int
  base : Int
  baseT : Int
  B : List Int
  snap : ByteArray
  log : List GE
  commit : Int
  idle : Int
  wait : Int
  votes : List Int
  fol : List (Int × Int × Int)
  round : Int
  reads : List GR
/-- A member's cells. -/
def gc (s : GP) (x : Px) : Array Value := #[.int .i64 s.id, .slice x.aM s.M.length x.cM, .int .u64 s.term, .int .i64 s.vote, .int .u8 s.role, .int .i64 s.lead, .int .u64 s.base, .int .u64 s.baseT, .slice x.aB s.B.length x.cB, .string s.snap, .slice x.aL s.log.length x.cL, .int .u64 s.commit, .int .i64 s.idle, .int .i64 s.wait, .slice x.aV s.votes.length x.cV, .slice x.aF s.fol.length x.cF, .int .u64 s.round, .slice x.aR s.reads.length x.cR]
/-- A member as a value: its lists read as they are. -/
structure Gp (W : World) (s : GP) (x : Px) : Prop where
  m : Sl E3 W x.aM s.M
  b : Sl E3 W x.aB s.B
  l : SlG W x.aL s.log
  v : Sl E3 W x.aV s.votes
  f : Sl E65 W x.aF s.fol
  r : SlR W x.aR s.reads
theorem Gp.bel {W W' : World} {s : GP} {x : Px} (h : Gp W s x) (hb : Bel W W') : Gp W' s x := ⟨h.m.bel hb, h.b.bel hb, h.l.bel hb, h.v.bel hb, h.f.bel hb, h.r.bel hb⟩
/-- What is known of any member: its numbers are of their kinds, its lists no longer than a machine's. -/
structure Gz (s : GP) (x : Px) : Prop where
  term : 0 ≤ s.term ∧ s.term ≤ 18446744073709551615
  base : 0 ≤ s.base ∧ s.base ≤ 18446744073709551615
  baseT : 0 ≤ s.baseT ∧ s.baseT ≤ 18446744073709551615
  commit : 0 ≤ s.commit ∧ s.commit ≤ 18446744073709551615
  round : 0 ≤ s.round ∧ s.round ≤ 18446744073709551615
  m : s.M.length ≤ 17592186044416
  b : s.B.length ≤ 17592186044416
  v : s.votes.length ≤ 17592186044416
  l : s.log.length ≤ 100000
  lm : ∀ e ∈ s.log, e.m.length ≤ 17592186044416
  lt : ∀ e ∈ s.log, 0 ≤ e.t ∧ e.t ≤ 18446744073709551615
  f : s.fol.length ≤ 100000
  ft : ∀ f ∈ s.fol, (0 ≤ f.2.1 ∧ f.2.1 ≤ 18446744073709551615) ∧ 0 ≤ f.2.2 ∧ f.2.2 ≤ 18446744073709551615
  r : s.reads.length ≤ 100000
  ra : ∀ r ∈ s.reads, r.a.length ≤ 17592186044416
  cap : s.log.length ≤ x.cL
def GP.lastI (s : GP) : Int := s.base + s.log.length
def GP.lastT (s : GP) : Int := match s.log.getLast? with | some e => e.t | none => s.baseT
theorem gc_size (s : GP) (x : Px) : (gc s x).size = 18 := rfl
theorem gc_one (s : GP) (x : Px) : (gc s x).all (·.oneCell') = true := by simp [gc, Value.oneCell']
theorem Tryz.sizeP (s : GP) (x : Px) : (Tryz.prog.info? 31).map (·.size) = some (gc s x).size := by rw [gc_size]; kernel_rfl
/-- Block b holds this member. -/
structure Bg (W : World) (b : Nat) (s : GP) (x : Px) : Prop where
  c0 : W.cell? ⟨b, 0, none⟩ = some (.int .i64 s.id)
  c1 : W.cell? ⟨b, 1, none⟩ = some (.slice x.aM s.M.length x.cM)
  c2 : W.cell? ⟨b, 2, none⟩ = some (.int .u64 s.term)
  c3 : W.cell? ⟨b, 3, none⟩ = some (.int .i64 s.vote)
  c4 : W.cell? ⟨b, 4, none⟩ = some (.int .u8 s.role)
  c5 : W.cell? ⟨b, 5, none⟩ = some (.int .i64 s.lead)
  c6 : W.cell? ⟨b, 6, none⟩ = some (.int .u64 s.base)
  c7 : W.cell? ⟨b, 7, none⟩ = some (.int .u64 s.baseT)
  c8 : W.cell? ⟨b, 8, none⟩ = some (.slice x.aB s.B.length x.cB)
  c9 : W.cell? ⟨b, 9, none⟩ = some (.string s.snap)
  c10 : W.cell? ⟨b, 10, none⟩ = some (.slice x.aL s.log.length x.cL)
  c11 : W.cell? ⟨b, 11, none⟩ = some (.int .u64 s.commit)
  c12 : W.cell? ⟨b, 12, none⟩ = some (.int .i64 s.idle)
  c13 : W.cell? ⟨b, 13, none⟩ = some (.int .i64 s.wait)
  c14 : W.cell? ⟨b, 14, none⟩ = some (.slice x.aV s.votes.length x.cV)
  c15 : W.cell? ⟨b, 15, none⟩ = some (.slice x.aF s.fol.length x.cF)
  c16 : W.cell? ⟨b, 16, none⟩ = some (.int .u64 s.round)
  c17 : W.cell? ⟨b, 17, none⟩ = some (.slice x.aR s.reads.length x.cR)
theorem Bg.of {W : World} {b : Nat} {s : GP} {x : Px} (h : W.heap[b]? = some (.cells (gc s x) 31)) : Bg W b s x :=
  ⟨(cell_of h).trans rfl, (cell_of h).trans rfl, (cell_of h).trans rfl, (cell_of h).trans rfl, (cell_of h).trans rfl, (cell_of h).trans rfl, (cell_of h).trans rfl, (cell_of h).trans rfl, (cell_of h).trans rfl, (cell_of h).trans rfl, (cell_of h).trans rfl, (cell_of h).trans rfl, (cell_of h).trans rfl, (cell_of h).trans rfl, (cell_of h).trans rfl, (cell_of h).trans rfl, (cell_of h).trans rfl, (cell_of h).trans rfl⟩
set_option maxRecDepth 100000 in
set_option maxHeartbeats 1000000 in
theorem last_g {W : World} {s : GP} {x : Px} (h : SlG W x.aL s.log) (h0 : 0 ≤ s.base) (h1 : s.base ≤ 4611686018427387904) (hl : s.log.length ≤ 1000000) : Calls Tryz.prog 79 #[.agg (gc s x)] W fun e w' => e = .returned (.tuple #[.int .u64 s.lastI, .int .u64 s.lastT]) ∧ Bel W w' := by
  obtain ⟨L, hL, ⟨g, off, hg, hR⟩, _⟩ := h
  have hLl : L.length = s.log.length := by rw [← hL, List.length_map]
  unfold gc
  by_cases hz : s.log.length = 0
  · have e1 : s.lastI = s.base := by unfold GP.lastI; omega
    have e2 : s.lastT = s.baseT := by unfold GP.lastT; rw [List.eq_nil_of_length_eq_zero hz]; rfl
    rw [hz, e1, e2]
    clear hg hR hl hz e1 e2 hLl hL
    go_enter Tryz.func79, Tryz.ntmps79
    go_wp2_with fail
    go_quiet (fail)
    go_wp2_with fail
    go_ret2
    exact ⟨rfl, ((Bel.refl W).alloc _).drewN _⟩
  · obtain ⟨k, hk⟩ : ∃ k, s.log.length = k + 1 := ⟨s.log.length - 1, by omega⟩
    have hkl : k < s.log.length := by omega
    have hkL : k < L.length := by omega
    have e2 : s.lastT = L[k].1.t := by
      unfold GP.lastT
      rw [List.getLast?_eq_getElem?, hk, Nat.add_sub_cancel, ← hL, List.getElem?_map, List.getElem?_eq_getElem hkL]
      rfl
    have r0 := (EG_cell hR k hkL).1
    have ea := hg (by omega)
    rw [show s.lastI = s.base + (s.log.length : Int) from rfl, e2, ea]
    generalize L[k].1.t = t at *
    have hw : IntKind.i64.wrap ((s.log.length : Int) - 1) = k := by rw [wrapI (by omega) (by omega)]; omega
    have hw2 : IntKind.u64.wrap (s.log.length : Int) = (s.log.length : Int) := by rw [IntKind.wrap_u64]; omega
    have hw3 : IntKind.u64.wrap (s.base + (s.log.length : Int)) = s.base + (s.log.length : Int) := by rw [IntKind.wrap_u64]; omega
    have hz : ((s.log.length : Int) == 0) = false := beq_eq_false_iff_ne.2 (by omega)
    have hlt : (k : Int) < s.log.length := by omega
    generalize s.log.length = m at *
    have r0 := ((Bel.refl W).alloc (.cells #[.int .i64 s.id, .slice x.aM s.M.length x.cM, .int .u64 s.term, .int .i64 s.vote, .int .u8 s.role, .int .i64 s.lead, .int .u64 s.base, .int .u64 s.baseT, .slice x.aB s.B.length x.cB, .string s.snap, .slice (some ⟨g, off, none⟩) m x.cL, .int .u64 s.commit, .int .i64 s.idle, .int .i64 s.wait, .slice x.aV s.votes.length x.cV, .slice x.aF s.fol.length x.cF, .int .u64 s.round, .slice x.aR s.reads.length x.cR] 31)).cell r0
    clear hg hR e2 ea hk hkl hl hkL hLl hL h1 h0
    go_enter Tryz.func79, Tryz.ntmps79
    go_wp2_with fail
    go_quiet (fail)
    go_wp2_with fail
    go_ret2
    exact ⟨rfl, ((Bel.refl W).alloc _).drewN _⟩
/-- How many entries of the log there are up to an index. -/
def GP.upTo (s : GP) (i : Int) : Option Nat := if i < s.base ∨ (s.log.length : Int) < i - s.base then none else some (i - s.base).toNat
set_option maxRecDepth 100000 in
set_option maxHeartbeats 1000000 in
theorem behind_g {W : World} {s : GP} {x : Px} (i : Int) (h0 : 0 ≤ s.base) (hi : 0 ≤ i ∧ i ≤ 18446744073709551615) (hl : s.log.length ≤ 1000000) : Calls Tryz.prog 132 #[.agg (gc s x), .int .u64 i] W fun e w' => e = .returned (.tuple #[.int .i64 ((s.upTo i).getD 0 : Nat), .bool (s.upTo i).isSome]) ∧ Bel W w' := by
  have hw2 : IntKind.u64.wrap (s.log.length : Int) = (s.log.length : Int) := by rw [IntKind.wrap_u64]; omega
  unfold gc
  by_cases h1 : i < s.base
  · have e : s.upTo i = none := by unfold GP.upTo; rw [if_pos (Or.inl h1)]
    rw [e]
    generalize s.log.length = m at *
    clear e hw2 hl
    go_enter Tryz.func132, Tryz.ntmps132
    go_wp2_with fail
    go_ret2
    exact ⟨rfl, (Bel.refl W).alloc _⟩
  · have hw3 : IntKind.u64.wrap (i - s.base) = i - s.base := by rw [IntKind.wrap_u64]; omega
    by_cases h2 : (s.log.length : Int) < i - s.base
    · have e : s.upTo i = none := by unfold GP.upTo; rw [if_pos (Or.inr h2)]
      rw [e]
      generalize s.log.length = m at *
      clear e hl
      go_enter Tryz.func132, Tryz.ntmps132
      go_wp2_with fail
      go_ret2
      exact ⟨rfl, (Bel.refl W).alloc _⟩
    · have e : s.upTo i = some (i - s.base).toNat := by unfold GP.upTo; rw [if_neg (by omega)]
      have hw4 : IntKind.i64.wrap (i - s.base) = i - s.base := wrapI (by omega) (by omega)
      have e2 : ((i - s.base).toNat : Int) = i - s.base := by omega
      rw [e]
      simp only [Option.getD_some, Option.isSome_some]
      rw [e2]
      generalize s.log.length = m at *
      clear e hl e2
      go_enter Tryz.func132, Tryz.ntmps132
      go_wp2_with fail
      go_ret2
      exact ⟨rfl, (Bel.refl W).alloc _⟩
end Go.Proofs.YthekbhliokcpcaaGreat
