/- Clone of numbers, however long the list. Members in general, with a Base and readings: their cells, boxes; Last, behindBase, Term. Elements of rows of structs: read and written whole. mayEntries, mayNumbers, mayLog of members that may be. slices.Backward at entries; membersOf. Library contracts of s -/
import Derived.Test.YthekbhliokcpcaaGreatT02
import Derived.Deep.MidRow
import Derived.Great.BuildSlice
import Derived.RangeFuncNested
import Derived.RangeFuncBound
import Derived.RangeFuncCalls
import Derived.RangeFuncLeaves
import Derived.RangeFuncFrom
import Derived.Shelf.Abstract
import Derived.Shelf.RegionOpen
import Derived.OwnWalkIn
import Derived.TacticsInMore
import Derived.LoopNIn
import Derived.LoopIn
import Derived.Shelf.Sort.Plain
import Derived.Shelf.Slices.CompactI
import Derived.Shelf.Slices.SearchI
import Derived.Shelf.Slices.In.SortNone
import Derived.Shelf.Slices.Empties
import Derived.Shelf.SlicesE.IndexFunc
import Derived.Shelf.SlicesE.DeleteFunc
import Derived.Ground.Names2Prog
import Derived.Ground.SlgfProg
import Derived.Test.YthekbhliokcpcaaGreatProg
namespace Go.Proofs.YthekbhliokcpcaaGreat
open Go.RowKit Go.Maps
theorem El.run_appw {α : Type} {E : El α} (W : World) (base : Nat) (v : Value) (L M : List α) (h : E.O base W v L) (hbase : base ≤ W.heap.size) (a : Option Addr) (g off cap : Nat) (ha : M.length ≠ 0 → a = some ⟨g, off, none⟩) (hM : E.R W g off M) (hb : L.length + M.length ≤ 17592186044416) (hb8 : E.bytes ≤ 8) (ty : TypeId) :
  ∃ v' w', (Builtin.append_ #[E.t, E.t] ty #[v, .slice a M.length cap]).run Tryz.prog W = .ok v' w' ∧ E.O base w' v' (L ++ M) ∧ W.grownBy w' v.ownBlock ∧ (∀ k, v'.ownBlock = some k → v.ownBlock = some k ∨ k = W.heap.size) := by
 obtain ⟨i0, hi, hz0, hz1, hz2⟩ := E.info
 by_cases h0 : M.length = 0
 ·have hM0 : M = [] := List.eq_nil_of_length_eq_zero h0
  subst hM0
  obtain ⟨sb, sc, sl, rfl, hsl⟩ : ∃ sb sc sl, v = .slice sb sl sc ∧ sl ≤ sc := by
   rcases h.2 with ⟨rfl, h0⟩ | ⟨g, cap, cur, rfl, h1, h2, hn, h3⟩
   ·exact ⟨none, 0, 0, rfl, Nat.le_refl _⟩
   ·exact ⟨_, cap, _, rfl, hn⟩
  refine ⟨_, W, ?_, by simpa using h, ⟨rfl, rfl, rfl, Nat.le_refl _, fun _ _ _ => rfl⟩, fun k hk => Or.inl hk⟩
  refine run_append_nothing W E.t E.t ty E.e i0 E.ht hi sb sl sc hsl _ ⟨Or.inl ⟨E.e, E.ht⟩, fun w' => ?_, ?_, ?_, by simp, by simp⟩
  ·cases a <;> simp [Builtin.lenOf]
  ·cases a <;> simp [Builtin.firstCells, loadCells, loadCellsFrom]
  ·cases a <;> simp [Builtin.firstCells, loadCells, loadCellsFrom]
 ·obtain rfl := ha h0
  have hbb := E.hb
  obtain ⟨g', cap', w', hr, q1, q2, q3, _⟩ := run_append_lies (P := Tryz.prog) W E.t ty base E.e i0 E.z E.k E.bytes E.ht hi hz0 hz1 hz2 E.hz E.hk v L.length (E.fl L) h ⟨g, off, none⟩ M.length cap (E.fl M) (E.fl_len M) (fun t u ht => by rw [Addr.add_lit]; exact hM.flat t u ht) (E.fl_cells M) (by omega) (by unfold maxLen; omega) (by
   have h1 : (L.length + M.length) * E.bytes ≤ 17592186044416 * 8 := Nat.mul_le_mul hb hb8
   omega) hbase _ rfl
  refine ⟨_, w', hr, ?_, q2, fun k hk => ?_⟩
  ·unfold El.O
   rw [E.fl_app, List.length_append]
   exact q1
  ·cases hk
   exact q3
theorem app_elw {α : Type} {E : El α} {ops : Array Oper} {rest : List Oper} {o : Oper} {a : Act} {Q : Exit → Act → World → Prop} {W : World} {base : Nat} {v : Value} {L : List α} (N : List α) (h : E.O base W v L) (hbase : base ≤ W.heap.size) (ad : Option Addr) (n cap : Nat) (hn : N.length = n) (hN : Sl E W ad N) (hb : L.length + N.length ≤ 17592186044416) (hb8 : E.bytes ≤ 8)
  (hgd : o.guard = none) (s y : Operand) (t : TypeId) (ht : t = E.t) (ho : o.op = .call { callee := .builtin .append, args := #[s, y], argTypes := #[t, t] }) (hs : a.eval s = v) (hy : a.eval y = .slice ad n cap)
  (hK : ∀ v' w', E.O base w' v' (L ++ N) → W.grownBy w' v.ownBlock → wpList Tryz.prog ops Q rest (a.put o.dst v') w') : wpList Tryz.prog ops Q (o :: rest) a W := by
 subst hn ht
 obtain ⟨g, off, ha, hR⟩ := hN
 refine wpList_plain hgd fun K hK' => ?_
 obtain ⟨v', w', hrun, r1, r2, r3⟩ := El.run_appw (E := E) W base v L N h hbase ad g off cap ha hR hb hb8 o.type
 unfold Oper.wp execOp
 simp only [ho, resolve, invoke, builtin, Sem.run_bind, Sem.run_pure, Result.andThen_ok, List.map_toArray, List.map_cons, List.map_nil, hs, hy, hrun]
 exact hK' _ _ (hK v' w' r1 r2)
set_option maxRecDepth 100000 in
set_option maxHeartbeats 1000000 in
theorem clone3w {W : World} {a : Option Addr} {n cap : Nat} {l : List Int} (hn : l.length = n) (hR : Sl E3 W a l) (hl : n ≤ 17592186044416) : Calls Tryz.prog 99 #[.slice a n cap] W fun e w' => ∃ a' c', e = .returned (.slice a' n c') ∧ E3.O W.heap.size w' (.slice a' n c') l ∧ Bel W w' := by
 have HR := jd hR
 have HN := jd hn
 have HL := jd hl
 have hq := eql24 a n cap
 cases a with
 | none =>
  have h0 : l = [] := by
   obtain ⟨g, off, h1, _⟩ := hR
   cases l with
   | nil => rfl
   | cons x l => exact absurd (h1 (by simp)) (by simp)
  subst h0
  obtain rfl : n = 0 := by simpa using hn.symm
  clear hR hn hl
  go_enter Tryz.func99, Tryz.ntmps99
  go_wp2_with fail
  go_ret
  exact ⟨_, _, rfl, El.O.nil _ _, Bel.refl _⟩
 | some ad =>
  clear hR hn hl
  go_enter Tryz.func99, Tryz.ntmps99
  go_wp2_with (first
   | (at_builtin; refine app_elw (E := E3) (L := []) l (El.O.made W) (by simp) (some ad) n cap (ju HN) ((ju HR).bel ((Bel.refl W).alloc _)) (by have := ju HL; have := ju HN; simp; omega) (by decide) rfl _ _ 22 rfl rfl rfl rfl ?_; intro v' w' ho hg; rw [List.nil_append] at ho; obtain ⟨a', c', g', hv', _, _, _⟩ := ho.shape; rw [ju HN] at hv'; subst hv'; have HF := jd (aI ho (bel_grown ((Bel.refl W).alloc _) hg (fun z hz => by cases hz; exact Nat.le_refl _))); clear ho hg))
  go_ret
  exact ⟨_, _, rfl, (ju HF).1, (ju HF).2⟩
structure GR where
 r : Int
 i : Int
 a : List Int
def encR (x : GR × GA) : List Value := [.int .u64 x.1.r, .int .u64 x.1.i, .slice x.2.a x.1.a.length x.2.c]
def ER : El (GR × GA) := { enc := encR, k := 3, e := 104, t := 29, bytes := 40, z := .agg #[.int .u64 0, .int .u64 0, .slice none 0 0], hk := by decide, len := fun _ => rfl, one := fun x u hu => by simp [encR] at hu; rcases hu with rfl | rfl | rfl <;> rfl, ht := Tryz.underlying29, hi := by kernel_rfl, hz := rfl, hb := by decide }
theorem ER_cell {W : World} {g off : Nat} {l : List (GR × GA)} (h : ER.R W g off l) (j : Nat) (hj : j < l.length) : W.cell? ⟨g, off + j * 3, none⟩ = some (.int .u64 l[j].1.r) ∧ W.cell? ⟨g, off + j * 3 + 1, none⟩ = some (.int .u64 l[j].1.i) ∧ W.cell? ⟨g, off + j * 3 + 2, none⟩ = some (.slice l[j].2.a l[j].1.a.length l[j].2.c) := by
 have h0 := h j hj 0 _ rfl
 have h1 := h j hj 1 _ rfl
 have h2 := h j hj 2 _ rfl
 exact ⟨by simpa [ER] using h0, by simpa [ER] using h1, by simpa [ER] using h2⟩
def Ga (W : World) (L : List (GR × GA)) : Prop := ∀ x ∈ L, Sl E3 W x.2.a x.1.a
theorem Ga.bel {W W' : World} {L : List (GR × GA)} (h : Ga W L) (hb : Bel W W') : Ga W' L := fun x hx => (h x hx).bel hb
def SlG (W : World) (a : Option Addr) (l : List GE) : Prop := ∃ L : List (GE × GA), L.map (·.1) = l ∧ Sl EG W a L ∧ Gm W L
theorem SlG.bel {W W' : World} {a : Option Addr} {l : List GE} (h : SlG W a l) (hb : Bel W W') : SlG W' a l := by
 obtain ⟨L, h1, h2, h3⟩ := h
 exact ⟨L, h1, h2.bel hb, h3.bel hb⟩
def SlR (W : World) (a : Option Addr) (l : List GR) : Prop := ∃ L : List (GR × GA), L.map (·.1) = l ∧ Sl ER W a L ∧ Ga W L
theorem SlR.bel {W W' : World} {a : Option Addr} {l : List GR} (h : SlR W a l) (hb : Bel W W') : SlR W' a l := by
 obtain ⟨L, h1, h2, h3⟩ := h
 exact ⟨L, h1, h2.bel hb, h3.bel hb⟩
structure GP where
 id : Int
 M : List Int
 term : Int
 vote : Int
 role : Int
 lead : Int
 base : Int
 baseT : Int
 B : List Int
 snap : ByteArray
 log : List GE
 commit : Int
 idle : Int
 wait : Int
 votes : List Int
 fol : List (Int × Int × Int)
 round : Int
 reads : List GR
def gc (s : GP) (x : Px) : Array Value := #[.int .i64 s.id, .slice x.aM s.M.length x.cM, .int .u64 s.term, .int .i64 s.vote, .int .u8 s.role, .int .i64 s.lead, .int .u64 s.base, .int .u64 s.baseT, .slice x.aB s.B.length x.cB, .string s.snap, .slice x.aL s.log.length x.cL, .int .u64 s.commit, .int .i64 s.idle, .int .i64 s.wait, .slice x.aV s.votes.length x.cV, .slice x.aF s.fol.length x.cF, .int .u64 s.round, .slice x.aR s.reads.length x.cR]
structure Gp (W : World) (s : GP) (x : Px) : Prop where
 m : Sl E3 W x.aM s.M
 b : Sl E3 W x.aB s.B
 l : SlG W x.aL s.log
 v : Sl E3 W x.aV s.votes
 f : Sl E65 W x.aF s.fol
 r : SlR W x.aR s.reads
theorem Gp.bel {W W' : World} {s : GP} {x : Px} (h : Gp W s x) (hb : Bel W W') : Gp W' s x := ⟨h.m.bel hb, h.b.bel hb, h.l.bel hb, h.v.bel hb, h.f.bel hb, h.r.bel hb⟩
structure Gz (s : GP) (x : Px) : Prop where
 term : 0 ≤ s.term ∧ s.term ≤ 18446744073709551615
 base : 0 ≤ s.base ∧ s.base ≤ 18446744073709551615
 baseT : 0 ≤ s.baseT ∧ s.baseT ≤ 18446744073709551615
 commit : 0 ≤ s.commit ∧ s.commit ≤ 18446744073709551615
 round : 0 ≤ s.round ∧ s.round ≤ 18446744073709551615
 m : s.M.length ≤ 17592186044416
 b : s.B.length ≤ 17592186044416
 v : s.votes.length ≤ 17592186044416
 l : s.log.length ≤ 100000
 lm : ∀ e ∈ s.log, e.m.length ≤ 17592186044416
 lt : ∀ e ∈ s.log, 0 ≤ e.t ∧ e.t ≤ 18446744073709551615
 f : s.fol.length ≤ 100000
 ft : ∀ f ∈ s.fol, (0 ≤ f.2.1 ∧ f.2.1 ≤ 18446744073709551615) ∧ 0 ≤ f.2.2 ∧ f.2.2 ≤ 18446744073709551615
 r : s.reads.length ≤ 100000
 ra : ∀ r ∈ s.reads, r.a.length ≤ 17592186044416
 cap : s.log.length ≤ x.cL
def GP.lastI (s : GP) : Int := s.base + s.log.length
def GP.lastT (s : GP) : Int := match s.log.getLast? with | some e => e.t | none => s.baseT
theorem gc_size (s : GP) (x : Px) : (gc s x).size = 18 := rfl
theorem gc_one (s : GP) (x : Px) : (gc s x).all (·.oneCell') = true := by simp [gc, Value.oneCell']
theorem zP (s : GP) (x : Px) : (Tryz.prog.info? 31).map (·.size) = some (gc s x).size := by rw [gc_size]; kernel_rfl
structure Bg (W : World) (b : Nat) (s : GP) (x : Px) : Prop where
 c0 : W.cell? ⟨b, 0, none⟩ = some (.int .i64 s.id)
 c1 : W.cell? ⟨b, 1, none⟩ = some (.slice x.aM s.M.length x.cM)
 c2 : W.cell? ⟨b, 2, none⟩ = some (.int .u64 s.term)
 c3 : W.cell? ⟨b, 3, none⟩ = some (.int .i64 s.vote)
 c4 : W.cell? ⟨b, 4, none⟩ = some (.int .u8 s.role)
 c5 : W.cell? ⟨b, 5, none⟩ = some (.int .i64 s.lead)
 c6 : W.cell? ⟨b, 6, none⟩ = some (.int .u64 s.base)
 c7 : W.cell? ⟨b, 7, none⟩ = some (.int .u64 s.baseT)
 c8 : W.cell? ⟨b, 8, none⟩ = some (.slice x.aB s.B.length x.cB)
 c9 : W.cell? ⟨b, 9, none⟩ = some (.string s.snap)
 c10 : W.cell? ⟨b, 10, none⟩ = some (.slice x.aL s.log.length x.cL)
 c11 : W.cell? ⟨b, 11, none⟩ = some (.int .u64 s.commit)
 c12 : W.cell? ⟨b, 12, none⟩ = some (.int .i64 s.idle)
 c13 : W.cell? ⟨b, 13, none⟩ = some (.int .i64 s.wait)
 c14 : W.cell? ⟨b, 14, none⟩ = some (.slice x.aV s.votes.length x.cV)
 c15 : W.cell? ⟨b, 15, none⟩ = some (.slice x.aF s.fol.length x.cF)
 c16 : W.cell? ⟨b, 16, none⟩ = some (.int .u64 s.round)
 c17 : W.cell? ⟨b, 17, none⟩ = some (.slice x.aR s.reads.length x.cR)
theorem Bg.of {W : World} {b : Nat} {s : GP} {x : Px} (h : W.heap[b]? = some (.cells (gc s x) 31)) : Bg W b s x :=
 ⟨(cell_of h).trans rfl, (cell_of h).trans rfl, (cell_of h).trans rfl, (cell_of h).trans rfl, (cell_of h).trans rfl, (cell_of h).trans rfl, (cell_of h).trans rfl, (cell_of h).trans rfl, (cell_of h).trans rfl, (cell_of h).trans rfl, (cell_of h).trans rfl, (cell_of h).trans rfl, (cell_of h).trans rfl, (cell_of h).trans rfl, (cell_of h).trans rfl, (cell_of h).trans rfl, (cell_of h).trans rfl, (cell_of h).trans rfl⟩
set_option maxRecDepth 100000 in
set_option maxHeartbeats 1000000 in
theorem last_g {W : World} {s : GP} {x : Px} (h : SlG W x.aL s.log) (h0 : 0 ≤ s.base) (h1 : s.base ≤ 4611686018427387904) (hl : s.log.length ≤ 1000000) : Calls Tryz.prog 79 #[.agg (gc s x)] W fun e w' => e = .returned (.tuple #[.int .u64 s.lastI, .int .u64 s.lastT]) ∧ Bel W w' := by
 obtain ⟨L, hL, ⟨g, off, hg, hR⟩, _⟩ := h
 have hLl : L.length = s.log.length := by rw [← hL, List.length_map]
 unfold gc
 by_cases hz : s.log.length = 0
 ·have e1 : s.lastI = s.base := by unfold GP.lastI; omega
  have e2 : s.lastT = s.baseT := by unfold GP.lastT; rw [List.eq_nil_of_length_eq_zero hz]; rfl
  rw [hz, e1, e2]
  clear hg hR hl hz e1 e2 hLl hL
  go_enter Tryz.func79, Tryz.ntmps79
  go_wp2_with fail
  go_quiet (fail)
  go_wp2_with fail
  go_ret2
  exact ⟨rfl, ((Bel.refl W).alloc _).drewN _⟩
 ·obtain ⟨k, hk⟩ : ∃ k, s.log.length = k + 1 := ⟨s.log.length - 1, by omega⟩
  have hkl : k < s.log.length := by omega
  have hkL : k < L.length := by omega
  have e2 : s.lastT = L[k].1.t := by
   unfold GP.lastT
   rw [List.getLast?_eq_getElem?, hk, Nat.add_sub_cancel, ← hL, List.getElem?_map, List.getElem?_eq_getElem hkL]
   rfl
  have r0 := (EG_cell hR k hkL).1
  have ea := hg (by omega)
  rw [show s.lastI = s.base + (s.log.length : Int) from rfl, e2, ea]
  generalize L[k].1.t = t at *
  have hw : IntKind.i64.wrap ((s.log.length : Int) - 1) = k := by rw [wrapI (by omega) (by omega)]; omega
  have hw2 : IntKind.u64.wrap (s.log.length : Int) = (s.log.length : Int) := by rw [IntKind.wrap_u64]; omega
  have hw3 : IntKind.u64.wrap (s.base + (s.log.length : Int)) = s.base + (s.log.length : Int) := by rw [IntKind.wrap_u64]; omega
  have hz : ((s.log.length : Int) == 0) = false := beq_eq_false_iff_ne.2 (by omega)
  have hlt : (k : Int) < s.log.length := by omega
  generalize s.log.length = m at *
  have r0 := ((Bel.refl W).alloc (.cells #[.int .i64 s.id, .slice x.aM s.M.length x.cM, .int .u64 s.term, .int .i64 s.vote, .int .u8 s.role, .int .i64 s.lead, .int .u64 s.base, .int .u64 s.baseT, .slice x.aB s.B.length x.cB, .string s.snap, .slice (some ⟨g, off, none⟩) m x.cL, .int .u64 s.commit, .int .i64 s.idle, .int .i64 s.wait, .slice x.aV s.votes.length x.cV, .slice x.aF s.fol.length x.cF, .int .u64 s.round, .slice x.aR s.reads.length x.cR] 31)).cell r0
  clear hg hR e2 ea hk hkl hl hkL hLl hL h1 h0
  go_enter Tryz.func79, Tryz.ntmps79
  go_wp2_with fail
  go_quiet (fail)
  go_wp2_with fail
  go_ret2
  exact ⟨rfl, ((Bel.refl W).alloc _).drewN _⟩
def GP.upTo (s : GP) (i : Int) : Option Nat := if i < s.base ∨ (s.log.length : Int) < i - s.base then none else some (i - s.base).toNat
set_option maxRecDepth 100000 in
set_option maxHeartbeats 1000000 in
theorem behind_g {W : World} {s : GP} {x : Px} (i : Int) (h0 : 0 ≤ s.base) (hi : 0 ≤ i ∧ i ≤ 18446744073709551615) (hl : s.log.length ≤ 1000000) : Calls Tryz.prog 132 #[.agg (gc s x), .int .u64 i] W fun e w' => e = .returned (.tuple #[.int .i64 ((s.upTo i).getD 0 : Nat), .bool (s.upTo i).isSome]) ∧ Bel W w' := by
 have hw2 : IntKind.u64.wrap (s.log.length : Int) = (s.log.length : Int) := by rw [IntKind.wrap_u64]; omega
 unfold gc
 by_cases h1 : i < s.base
 ·have e : s.upTo i = none := by unfold GP.upTo; rw [if_pos (Or.inl h1)]
  rw [e]
  generalize s.log.length = m at *
  clear e hw2 hl
  go_enter Tryz.func132, Tryz.ntmps132
  go_wp2_with fail
  go_ret2
  exact ⟨rfl, (Bel.refl W).alloc _⟩
 ·have hw3 : IntKind.u64.wrap (i - s.base) = i - s.base := by rw [IntKind.wrap_u64]; omega
  by_cases h2 : (s.log.length : Int) < i - s.base
  ·have e : s.upTo i = none := by unfold GP.upTo; rw [if_pos (Or.inr h2)]
   rw [e]
   generalize s.log.length = m at *
   clear e hl
   go_enter Tryz.func132, Tryz.ntmps132
   go_wp2_with fail
   go_ret2
   exact ⟨rfl, (Bel.refl W).alloc _⟩
  ·have e : s.upTo i = some (i - s.base).toNat := by unfold GP.upTo; rw [if_neg (by omega)]
   have hw4 : IntKind.i64.wrap (i - s.base) = i - s.base := wrapI (by omega) (by omega)
   have e2 : ((i - s.base).toNat : Int) = i - s.base := by omega
   rw [e]
   simp only [Option.getD_some, Option.isSome_some]
   rw [e2]
   generalize s.log.length = m at *
   clear e hl e2
   go_enter Tryz.func132, Tryz.ntmps132
   go_wp2_with fail
   go_ret2
   exact ⟨rfl, (Bel.refl W).alloc _⟩
def setL (F : List Value) (s : Nat) : List Value → List Value
 | [] => F
 | v :: r => setL (F.set s v) (s + 1) r
theorem setL_eq : ∀ (vs F : List Value) (s : Nat), s + vs.length ≤ F.length → setL F s vs = F.take s ++ vs ++ F.drop (s + vs.length)
 | [], F, s, h => by simp [setL]
 | v :: r, F, s, h => by
  simp only [List.length_cons] at h
  rw [setL, setL_eq r (F.set s v) (s + 1) (by simp; omega)]
  have e1 : (F.set s v).take (s + 1) = F.take s ++ [v] := by
   rw [List.take_set, List.set_eq_take_append_cons_drop, if_pos (by simp; omega)]
   simp [List.take_take, Nat.min_eq_left (Nat.le_succ s)]
  have e2 : (F.set s v).drop (s + 1 + r.length) = F.drop (s + (v :: r).length) := by
   rw [List.drop_set_of_lt (by omega)]
   simp only [List.length_cons]
   congr 1
   omega
  rw [e1, e2]
  simp
theorem own_setCells {k B g n cap : Nat} {e : TypeId} : ∀ (vs : List Value) (s : Nat) (F : List Value) (W : World), W.ownsRow B e k (.slice (some ⟨g, 0, none⟩) n cap) n F → (W.setCells g s vs).ownsRow B e k (.slice (some ⟨g, 0, none⟩) n cap) n (setL F s vs)
 | [], _, _, _, h => h
 | v :: r, s, F, W, h => by
  have h1 := (h.stored s v).1
  rw [World.setCells, setL]
  exact own_setCells r (s + 1) _ _ h1
theorem ch_setCells (g : Nat) : ∀ (vs : List Value) (s : Nat) (W : World), Ch (fun k => k = g) W (W.setCells g s vs)
 | [], _, W => Ch.refl _ W
 | v :: r, s, W => by
  rw [World.setCells]
  exact (Ch.set (ad := ⟨g, s, none⟩) (Ch.refl (fun k => k = g) W) (Or.inl rfl) v).trans (ch_setCells g r (s + 1) _) (fun i hi => Or.inl hi)
section
variable {α : Type} {E : El α}
theorem El.fl_set (L : List α) (i : Nat) (hi : i < L.length) (x : α) : setL (E.fl L) (i * E.k) (E.enc x) = E.fl (L.set i x) := by
 have hle : i * E.k + E.k ≤ L.length * E.k := by
  have := Nat.mul_le_mul_right E.k hi
  rw [Nat.succ_mul] at this
  exact this
 have e0 : L = L.take i ++ L[i] :: L.drop (i + 1) := by rw [← List.drop_eq_getElem_cons hi, List.take_append_drop]
 have hF : E.fl L = E.fl (L.take i) ++ (E.enc L[i] ++ E.fl (L.drop (i + 1))) := by
  have := congrArg E.fl e0
  rw [El.fl_app, show L[i] :: L.drop (i + 1) = [L[i]] ++ L.drop (i + 1) from rfl, El.fl_app, El.fl_one] at this
  exact this
 have hl : (E.fl (L.take i)).length = i * E.k := by rw [E.fl_len, List.length_take, Nat.min_eq_left (Nat.le_of_lt hi)]
 rw [setL_eq _ _ _ (by rw [E.fl_len, E.len]; exact hle)]
 have hS : E.fl (L.set i x) = E.fl (L.take i) ++ (E.enc x ++ E.fl (L.drop (i + 1))) := by
  rw [List.set_eq_take_append_cons_drop, if_pos hi, El.fl_app, show x :: L.drop (i + 1) = [x] ++ L.drop (i + 1) from rfl, El.fl_app, El.fl_one]
 rw [hS, hF, List.take_left' hl, E.len, ← hl, ← E.len L[i], ← List.length_append, ← List.append_assoc (E.fl (L.take i)) (E.enc L[i]), List.drop_left]
 simp
theorem El.O.put {base : Nat} {W : World} {g cap : Nat} {L : List α} {m : Nat} (h : E.O base W (.slice (some ⟨g, 0, none⟩) m cap) L) (i : Nat) (hi : i < L.length) (x : α) : E.O base (W.setCells g (i * E.k) (E.enc x)) (.slice (some ⟨g, 0, none⟩) m cap) (L.set i x) := by
 have hm : m = L.length := by
  obtain ⟨a', c', g', e, _⟩ := h.shape
  injection e with _ e2
 subst hm
 have := own_setCells (E.enc x) (i * E.k) _ W h
 rw [El.fl_set L i hi x] at this
 unfold El.O
 rw [List.length_set]
 exact this
theorem El.O.range {base : Nat} {W : World} {g cap m : Nat} {L : List α} (h : E.O base W (.slice (some ⟨g, 0, none⟩) m cap) L) (i : Nat) (hi : i < L.length) : W.rangeAt g (i * E.k) (E.enc L[i]) := by
 have hm : m = L.length := by
  obtain ⟨a', c', g', e, _⟩ := h.shape
  injection e with _ e2
 subst hm
 intro j v hv
 have := h.row i hi j v hv
 rwa [Nat.zero_add] at this
theorem El.O.there {base : Nat} {W : World} {g cap m : Nat} {L : List α} (h : E.O base W (.slice (some ⟨g, 0, none⟩) m cap) L) (i : Nat) (hi : i < L.length) : W.there g (i * E.k) E.k := by
 have hm : m = L.length := by
  obtain ⟨a', c', g', e, _⟩ := h.shape
  injection e with _ e2
 subst hm
 intro j hj
 refine ⟨?_, World.ownsRow.frozenAt h _⟩
 have hj' : j < (E.enc L[i]).length := by rw [E.len]; exact hj
 rw [h.range i hi j _ (List.getElem?_eq_getElem hj')]
 rfl
variable {ops : Array Oper} {rest : List Oper} {o : Oper} {a : Act} {Q : Exit → Act → World → Prop} {W : World}
theorem el_ld (hgd : o.guard = none) (x : Operand) (ho : o.op = .load E.e x) (g i : Nat) (hx : a.eval x = .pointer (some ⟨g, i * E.k, none⟩)) {base cap m : Nat} {L : List α} (h : E.O base W (.slice (some ⟨g, 0, none⟩) m cap) L) (hi : i < L.length) {fs : Array Field} (hu : Tryz.prog.underlying E.e = some (.struct fs)) (cs : Array Value) (hcs : E.enc L[i] = cs.toList)
  (hK : wpList Tryz.prog ops Q rest (a.put o.dst (.agg cs)) W) : wpList Tryz.prog ops Q (o :: rest) a W := by
 obtain ⟨i0, hi0, _, hz1, _⟩ := E.info
 refine wpList_load_mid hgd E.e x ho g (i * E.k) hx cs.toList _ (by rw [← hcs]; exact h.range i hi) hu rfl ?_ ?_
 ·rw [hi0, ← hcs, E.len]; simp [hz1]
 ·simpa using hK
theorem el_ld_run (x : Operand) (ho : o.op = .load E.e x) (g i : Nat) (hx : a.eval x = .pointer (some ⟨g, i * E.k, none⟩)) {base cap m : Nat} {L : List α} (h : E.O base W (.slice (some ⟨g, 0, none⟩) m cap) L) (hi : i < L.length) {fs : Array Field} (hu : Tryz.prog.underlying E.e = some (.struct fs)) (cs : Array Value) (hcs : E.enc L[i] = cs.toList) : (execOp a.eval o).run Tryz.prog W = .ok (.value (.agg cs)) W := by
 obtain ⟨i0, hi0, _, hz1, _⟩ := E.info
 unfold execOp
 have := run_loadVar_mid (P := Tryz.prog) W g (i * E.k) E.e cs.toList _ (by rw [← hcs]; exact h.range i hi) hu rfl (by rw [hi0, ← hcs, E.len]; simp [hz1])
 simp only [ho, hx, Instr.loadAt, Instr.sureAddr, Sem.run_bind, Sem.run_pure, Result.andThen_ok, this]
theorem el_st_run (x y : Operand) (ho : o.op = .store E.e x y) (g i : Nat) (hx : a.eval x = .pointer (some ⟨g, i * E.k, none⟩)) (cs : Array Value) (hy : a.eval y = .agg cs) (u : α) (hcs : E.enc u = cs.toList) {base cap m : Nat} {L : List α} (h : E.O base W (.slice (some ⟨g, 0, none⟩) m cap) L) (hi : i < L.length) : (execOp a.eval o).run Tryz.prog W = .ok .skip (W.setCells g (i * E.k) (E.enc u)) := by
 obtain ⟨i0, hi0, _, hz1, _⟩ := E.info
 have hsz : cs.size = E.k := by rw [← E.len u, hcs]; simp
 have h1 : cs.all (·.oneCell') = true := by
  rw [Array.all_eq_true_iff_forall_mem]
  intro v hv
  exact E.one u v (by rw [hcs]; simpa using hv)
 have := run_storeVar_mid (P := Tryz.prog) W g (i * E.k) E.e cs (by rw [hsz]; exact h.there i hi) (by rw [hi0, hsz]; simp [hz1]) h1
 unfold execOp
 simp only [ho, hx, hy, Instr.storeAt, Instr.sureAddr, Sem.run_bind, Sem.run_pure, Result.andThen_ok, this]
 rw [hcs]
end
theorem fold_set : ∀ (l : List Value) (s : Nat) (A : Array Value), (l.zipIdx s).foldl (fun cs p => cs.setIfInBounds (0 + p.2) p.1) A = (setL A.toList s l).toArray
 | [], s, A => by simp [setL]
 | v :: l, s, A => by
  rw [List.zipIdx_cons, List.foldl_cons, fold_set l (s + 1), setL]
  simp
theorem fill_one (cs : Array Value) (k : Nat) (zc : Array Value) (hcs : cs.size = k) : Instr.fill (fun i => some (i * k, k)) ((Array.range (1 * k)).map (zc[· % zc.size]!)) [(0, .agg cs)] = some cs := by
 generalize hA : (Array.range (1 * k)).map (zc[· % zc.size]!) = A
 have hs : A.size = k := by rw [← hA]; simp
 clear hA
 have e1 : (Value.agg cs).cells = cs := rfl
 simp only [Instr.fill, e1, Nat.zero_mul]
 rw [if_neg (by simp; omega)]
 have e2 : cs.zipIdx.foldl (fun cs x => cs.setIfInBounds (0 + x.2) x.1) A = cs := by
  rw [← Array.foldl_toList, Array.toList_zipIdx, fold_set, setL_eq _ _ _ (by simp; omega)]
  apply Array.ext'
  simp
  omega
 exact congrArg some e2
theorem run_one {α : Type} (E : El α) (W : World) (cs : Array Value) (hcs : cs.size = E.k) (hsm : ¬ 1 * E.k > 2 ^ 24) : (Instr.buildSlice E.t 1 #[(0, .agg cs)]).run Tryz.prog W = .ok (.slice (some ⟨W.heap.size, 0, none⟩) 1 1) (W.alloc (.cells cs E.e)) := by
 obtain ⟨i0, hi, hz0, hz1, _⟩ := E.info
 have hk := E.hk
 refine run_buildSlice W E.t E.e 1 _ cs i0 E.z E.ht hi hz0 ?_ ?_ ?_
 ·rw [hz1]; exact hsm
 ·rw [hz1, Nat.one_mul]; exact Nat.ne_of_gt hk
 ·rw [hz1]
  exact fill_one cs E.k E.z.cells hcs
section
variable {α : Type} {E : El α} {ops : Array Oper} {rest : List Oper} {o : Oper} {a : Act} {Q : Exit → Act → World → Prop} {W : World}
theorem el_one (E : El α) (cs : Array Value) (hcs : cs.size = E.k) (hsm : ¬ 1 * E.k > 2 ^ 24) (x : Operand) (hgd : o.guard = none) (ho : o.op = .buildSlice E.t 1 #[(0, x)]) (hx : a.eval x = .agg cs)
  (hK : wpList Tryz.prog ops Q rest (a.put o.dst (.slice (some ⟨W.heap.size, 0, none⟩) 1 1)) (W.alloc (.cells cs E.e))) : wpList Tryz.prog ops Q (o :: rest) a W := by
 refine wpList_plain hgd fun K hK' => ?_
 unfold Oper.wp execOp
 simp only [ho, List.map_toArray, List.map_cons, List.map_nil, hx, Sem.run_bind, run_one E W cs hcs hsm, Result.andThen_ok]
 exact hK' _ _ hK
end
end Go.Proofs.YthekbhliokcpcaaGreat
namespace Go.Proofs.YthekbhliokcpcaaGreat
open Go.RowKit Go.Shelf
attribute [local go_sem] Oper.semAt_some
def En (gf : Nat) : Prop := ∀ (args : Array Value) (w : World), (callFunc gf args).run Tryz.prog w = .ok (.enter gf args) w
theorem ch_put (A : World) (r : Nat) (o : Obj) : Ch (fun i => i = r) A (A.putObj r o) :=
 ⟨rfl, rfl, rfl, by simp, fun k _ hk => World.putObj_heap_other (fun e => hk e)⟩
theorem at_new2 (w : World) (a b : Obj) : ((w.alloc a).alloc b).heap[w.heap.size + 1]? = some b := by
 have := at_new (w.alloc a) b
 rwa [show (w.alloc a).heap.size = w.heap.size + 1 by simp] at this
theorem En65 : En 210 := fun _ _ => by kernel_rfl
set_option maxRecDepth 100000 in
theorem backward_any (a : Option Addr) (m cap : Nat) (W : World) : Calls Tryz.prog 175 #[.slice a m cap] W fun e w' => ∃ b, e = .returned (.func (.func 210) #[] #[.pointer (some ⟨b, 0, none⟩)]) ∧ w'.heap[b]? = some (.cells #[.slice a m cap] 27) ∧ Bel W w' := by
 go_enter Tryz.func175, Tryz.ntmps175
 go_wp2_with fail
 go_ret
 exact ⟨_, rfl, at_new W _, (Bel.refl W).alloc _⟩
end Go.Proofs.YthekbhliokcpcaaGreat
namespace Go.Proofs
open Go.Shelf
def Tryz.lays189_ren : Go.Shelf.Ren := ⟨fun | 189 => 107 | 125 => 156 | 257 => 155 | 128 => 201 | 129 => 158 | 294 => 193 | 295 => 194 | 296 => 195 | 297 => 196 | 298 => 197 | 299 => 198 | 216 => 109 | 300 => 199 | 301 => 200 | 328 => 223 | 329 => 224 | 330 => 225 | 331 => 226 | 332 => 227 | 215 => 157 | 343 => 240 | n => n, fun | 28 => 22 | 3 => 3 | 46 => 157 | 0 => 0 | 51 => 221 | 53 => 25 | 4 => 4 | 183 => 215 | 182 => 214 | 131 => 107 | 5 => 5 | 9 => 9 | 218 => 243 | 222 => 246 | 228 => 255 | 229 => 256 | n => n, fun | n => n⟩
theorem Tryz.lays189 : Go.Proofs.Lays.n189 Tryz.prog Tryz.lays189_ren := {
 mixed := by kernel_rfl
 f125 := Tryz.func156.trans (congrArg some (by kernel_rfl))
 f128 := Tryz.func201.trans (congrArg some (by kernel_rfl))
 f129 := Tryz.func158.trans (congrArg some (by kernel_rfl))
 f189 := Tryz.func107.trans (congrArg some (by kernel_rfl))
 f215 := Tryz.func157.trans (congrArg some (by kernel_rfl))
 f216 := Tryz.func109.trans (congrArg some (by kernel_rfl))
 f257 := Tryz.func155.trans (congrArg some (by kernel_rfl))
 f294 := Tryz.func193.trans (congrArg some (by kernel_rfl))
 f295 := Tryz.func194.trans (congrArg some (by kernel_rfl))
 f296 := Tryz.func195.trans (congrArg some (by kernel_rfl))
 f297 := Tryz.func196.trans (congrArg some (by kernel_rfl))
 f298 := Tryz.func197.trans (congrArg some (by kernel_rfl))
 f299 := Tryz.func198.trans (congrArg some (by kernel_rfl))
 f300 := Tryz.func199.trans (congrArg some (by kernel_rfl))
 f301 := Tryz.func200.trans (congrArg some (by kernel_rfl))
 f328 := Tryz.func223.trans (congrArg some (by kernel_rfl))
 f329 := Tryz.func224.trans (congrArg some (by kernel_rfl))
 f330 := Tryz.func225.trans (congrArg some (by kernel_rfl))
 f331 := Tryz.func226.trans (congrArg some (by kernel_rfl))
 f332 := Tryz.func227.trans (congrArg some (by kernel_rfl))
 f343 := Tryz.func240.trans (congrArg some (by kernel_rfl))
 t0 := Tryz.underlying0
 a0 := Tryz.isAgg0
 z0 := Tryz.sizeOf0
 v0 := Tryz.zeroValue0
 t3 := Tryz.underlying3
 a3 := Tryz.isAgg3
 z3 := Tryz.sizeOf3
 v3 := Tryz.zeroValue3
 t4 := Tryz.underlying4
 a4 := Tryz.isAgg4
 z4 := Tryz.sizeOf4
 v4 := Tryz.zeroValue4
 t5 := Tryz.underlying5
 a5 := Tryz.isAgg5
 z5 := Tryz.sizeOf5
 v5 := Tryz.zeroValue5
 t9 := Tryz.underlying9
 a9 := Tryz.isAgg9
 z9 := Tryz.sizeOf9
 v9 := Tryz.zeroValue9
 t28 := Tryz.underlying22
 a28 := Tryz.isAgg22
 z28 := Tryz.sizeOf22
 v28 := Tryz.zeroValue22
 t46 := Tryz.underlying157
 a46 := Tryz.isAgg157
 z46 := Tryz.sizeOf157
 v46 := Tryz.zeroValue157
 t51 := Tryz.underlying221
 a51 := Tryz.isAgg221
 z51 := Tryz.sizeOf221
 v51 := Tryz.zeroValue221
 t53 := Tryz.underlying25
 a53 := Tryz.isAgg25
 z53 := Tryz.sizeOf25
 v53 := Tryz.zeroValue25
 t131 := Tryz.underlying107
 a131 := Tryz.isAgg107
 z131 := Tryz.sizeOf107
 v131 := Tryz.zeroValue107
 t182 := Tryz.underlying214
 a182 := Tryz.isAgg214
 z182 := Tryz.sizeOf214
 v182 := Tryz.zeroValue214
 t183 := Tryz.underlying215
 a183 := Tryz.isAgg215
 z183 := Tryz.sizeOf215
 v183 := Tryz.zeroValue215
 t218 := Tryz.underlying243
 a218 := Tryz.isAgg243
 z218 := Tryz.sizeOf243
 v218 := Tryz.zeroValue243
 t222 := Tryz.underlying246
 a222 := Tryz.isAgg246
 z222 := Tryz.sizeOf246
 v222 := Tryz.zeroValue246
 t228 := Tryz.underlying255
 a228 := Tryz.isAgg255
 z228 := Tryz.sizeOf255
 v228 := Tryz.zeroValue255
 t229 := Tryz.underlying256
 a229 := Tryz.isAgg256
 z229 := Tryz.sizeOf256
 v229 := Tryz.zeroValue256 }
open Go.Sort Go.RowKit in
theorem Tryz.slices_Sort_int (blk off cap : Nat) (zs : List Int) (w : World) (hH : Holds (Value.int .i64) w blk off zs.toArray) (hblk : blk < w.heap.size) (hsz : zs.length < 4611686018427387904) :
  Calls Tryz.prog 107 #[.slice (some ⟨blk, off, none⟩) zs.length cap] w fun e w' =>
   e = .returned (.tuple #[]) ∧ ∃ n os, w' = grow (putRow (Value.int .i64) (Sort.ahead w n) blk off (zs.mergeSort fun x y => decide (x ≤ y)).toArray) os := Any.slices_Sort_int Tryz.lays189 blk off cap zs w hH hblk hsz
def Tryz.laysNm220_ren : Go.Shelf.Ren := ⟨fun | 20 => 108 | n => n, fun | 22 => 22 | 3 => 3 | 4 => 4 | 0 => 0 | n => n, fun | n => n⟩
theorem Tryz.laysNm220 : Go.Proofs.Lays2.n20 Tryz.prog Tryz.laysNm220_ren := {
 mixed := by kernel_rfl
 f20 := Tryz.func108.trans (congrArg some (by kernel_rfl))
 t0 := Tryz.underlying0
 a0 := Tryz.isAgg0
 z0 := Tryz.sizeOf0
 v0 := Tryz.zeroValue0
 t3 := Tryz.underlying3
 a3 := Tryz.isAgg3
 z3 := Tryz.sizeOf3
 v3 := Tryz.zeroValue3
 t4 := Tryz.underlying4
 a4 := Tryz.isAgg4
 z4 := Tryz.sizeOf4
 v4 := Tryz.zeroValue4
 t22 := Tryz.underlying22
 a22 := Tryz.isAgg22
 z22 := Tryz.sizeOf22
 v22 := Tryz.zeroValue22
 i3 := by kernel_rfl }
open Go.RowKit Go.Lib Go.Sort in
theorem Tryz.slices_Compact_int (blk off cap : Nat) (zs : List Int) (w : World) (hH : Holds (Value.int .i64) w blk off zs.toArray) (hsz : zs.length ≤ 9223372036854775807) (hcap : zs.length ≤ cap) :
  Calls Tryz.prog 108 #[.slice (some ⟨blk, off, none⟩) zs.length cap] w fun e w' => e = .returned (.slice (some ⟨blk, off, none⟩) (Lib.compact zs).length cap) ∧ ∃ q, w' = putRow (Value.int .i64) (Sort.ahead w q) blk off (Lib.compact zs ++ List.replicate (zs.length - (Lib.compact zs).length) 0).toArray := Any.slices_Compact_int Tryz.laysNm220 blk off cap zs w hH hsz hcap
open Go.RowKit Go.Lib Go.Sort in
theorem Tryz.slices_Compact_int_empty (a : Option Addr) (cap : Nat) (w : World) :
  Calls Tryz.prog 108 #[.slice a 0 cap] w fun e w' => e = .returned (.slice a 0 cap) ∧ w' = w := Any.slices_Compact_int_empty Tryz.laysNm220 a cap w
def Tryz.laysNm225_ren : Go.Shelf.Ren := ⟨fun | 25 => 44 | 31 => 109 | 32 => 110 | 37 => 157 | n => n, fun | 22 => 22 | 3 => 3 | 4 => 4 | 40 => 157 | 0 => 0 | n => n, fun | n => n⟩
theorem Tryz.laysNm225 : Go.Proofs.Lays2.n25 Tryz.prog Tryz.laysNm225_ren := {
 mixed := by kernel_rfl
 f25 := Tryz.func44.trans (congrArg some (by kernel_rfl))
 f31 := Tryz.func109.trans (congrArg some (by kernel_rfl))
 f32 := Tryz.func110.trans (congrArg some (by kernel_rfl))
 f37 := Tryz.func157.trans (congrArg some (by kernel_rfl))
 t0 := Tryz.underlying0
 a0 := Tryz.isAgg0
 z0 := Tryz.sizeOf0
 v0 := Tryz.zeroValue0
 t3 := Tryz.underlying3
 a3 := Tryz.isAgg3
 z3 := Tryz.sizeOf3
 v3 := Tryz.zeroValue3
 t4 := Tryz.underlying4
 a4 := Tryz.isAgg4
 z4 := Tryz.sizeOf4
 v4 := Tryz.zeroValue4
 t22 := Tryz.underlying22
 a22 := Tryz.isAgg22
 z22 := Tryz.sizeOf22
 v22 := Tryz.zeroValue22
 t40 := Tryz.underlying157
 a40 := Tryz.isAgg157
 z40 := Tryz.sizeOf157
 v40 := Tryz.zeroValue157 }
open Go.RowKit Go.Lib in
theorem Tryz.slices_BinarySearch_int (b off n c : Nat) (zs : List Int) (x : Int) (w : World) (hz : n ≤ zs.length) (hbig : n < 4611686018427387904) (hc : ∀ j, j < zs.length → w.cell? ⟨b, off + j, none⟩ = some (.int .i64 (zs.getD j 0))) (hs : (zs.take n).Pairwise (· ≤ ·)) :
  Calls Tryz.prog 44 #[.slice (some ⟨b, off, none⟩) n c, .int .i64 x] w fun e w' => e = .returned (.tuple #[.int .i64 ((zs.take n).countP (· < x) : Nat), .bool ((zs.take n).contains x)]) ∧ ∃ q, w' = w.drewN q := Any.slices_BinarySearch_int Tryz.laysNm225 b off n c zs x w hz hbig hc hs
open Go.RowKit Go.Sort in
theorem Tryz.slices_Sort_int_none (p : Option Addr) (cap : Nat) (w : World) :
  Calls Tryz.prog 107 #[.slice p 0 cap] w fun e w' => e = .returned (.tuple #[]) ∧ w' = w := Any.slices_Sort_int_none Tryz.lays189 p cap w
open Go.RowKit Go.Lib in
theorem Tryz.slices_BinarySearch_int_empty (a : Option Addr) (c : Nat) (x : Int) (w : World) :
  Calls Tryz.prog 44 #[.slice a 0 c, .int .i64 x] w fun e w' => e = .returned (.tuple #[.int .i64 0, .bool false]) ∧ w' = w := Any.slices_BinarySearch_int_empty Tryz.laysNm225 a c x w
def Tryz.laysSlH10_f51_ren : Go.Shelf.Ren := ⟨fun | 10 => 88 | 6 => 143 | n => n, fun | 22 => 22 | 23 => 3 | 25 => 91 | 3 => 3 | 4 => 4 | 0 => 0 | n => n, fun | n => n⟩
theorem Tryz.laysSlH10_f51 : Go.Proofs.SlLaysH.n10 Tryz.prog Tryz.laysSlH10_f51_ren := {
 mixed := by kernel_rfl
 f6 := ⟨Tryz.f143.name, by decide, Tryz.func143.trans (congrArg some (by kernel_rfl))⟩
 f10 := ⟨Tryz.f88.name, by decide, Tryz.func88.trans (congrArg some (by kernel_rfl))⟩
 t0 := Tryz.underlying0
 a0 := Tryz.isAgg0
 z0 := Tryz.sizeOf0
 v0 := Tryz.zeroValue0
 t3 := Tryz.underlying3
 a3 := Tryz.isAgg3
 z3 := Tryz.sizeOf3
 v3 := Tryz.zeroValue3
 t4 := Tryz.underlying4
 a4 := Tryz.isAgg4
 z4 := Tryz.sizeOf4
 v4 := Tryz.zeroValue4
 t22 := Tryz.underlying22
 a22 := Tryz.isAgg22
 z22 := Tryz.sizeOf22
 v22 := Tryz.zeroValue22
 a23 := Tryz.isAgg3
 z23 := Tryz.sizeOf3
 t25 := Tryz.underlying91
 a25 := Tryz.isAgg91
 z25 := Tryz.sizeOf91
 v25 := Tryz.zeroValue91 }
open Go.RowKit Go.Lib Go.Sort in
theorem Tryz.slices_DeleteFunc {α : Type} [Inhabited α] (enc : α → Value) (hO : OneCell enc) (p : α → Bool) (g : Nat) (lb : Array Value) (eg : ∀ args w, (callFunc g args).run Tryz.prog w = .ok (.enter g args) w) (zr : α) (v23 : ∀ w, (zeroValue 3).run Tryz.prog w = .ok (enc zr) w) (blk off cap : Nat) (d : Array α) (w : World) (hp : PredAt Tryz.prog g lb enc p w) (hpo : PredOver Tryz.prog g lb enc p blk off d.size w) (hH : Holds enc w blk off d) (hsz : d.size ≤ 9223372036854775807) (hcap : d.size ≤ cap) :
  Calls Tryz.prog 88 #[.slice (some ⟨blk, off, none⟩) d.size cap, .func (.func g) #[] lb] w fun e w' => e = .returned (.slice (some ⟨blk, off, none⟩) (d.toList.filter fun x => !p x).length cap) ∧ ∃ q, w' = putRow enc (Sort.ahead w q) blk off ((d.toList.filter fun x => !p x) ++ List.replicate (d.size - (d.toList.filter fun x => !p x).length) zr).toArray := AnyE.slices_DeleteFunc Tryz.laysSlH10_f51 enc hO p g lb eg zr v23 blk off cap d w hp hpo hH hsz hcap
end Go.Proofs
