/- Messages in general; mayHead, mayPlace. -/
import Derived.Test.YtgofdkheffoilaaGreatRfr
namespace Go.Proofs.YtgofdkheffoilaaGreat
open Go.RowKit Go.Maps
/-- A message. -/
structure GM where
  kind : Int
  frm : Int
  to : Int
  term : Int
  index : Int
  lterm : Int
  commit : Int
  round : Int
  ok : Bool
  ents : List GE
  mem : List Int
  snap : ByteArray
/-- Where its lists lie. -/
structure GX where
  ea : Option Addr
  ec : Nat
  ls : List (GE × GA)
  ma : Option Addr
  mc : Nat
/-- Its cells. -/
def mg (m : GM) (x : GX) : Array Value := #[.int .u8 m.kind, .int .i64 m.frm, .int .i64 m.to, .int .u64 m.term, .int .u64 m.index, .int .u64 m.lterm, .int .u64 m.commit, .int .u64 m.round, .bool m.ok, .slice x.ea m.ents.length x.ec, .slice x.ma m.mem.length x.mc, .string m.snap]
/-- Its lists are read as they are. -/
structure Gw (W : World) (m : GM) (x : GX) : Prop where
  e : x.ls.map (·.1) = m.ents
  l : Sl EG W x.ea x.ls
  g : Gm W x.ls
  m : Sl E3 W x.ma m.mem
theorem Gw.bel {W W' : World} {m : GM} {x : GX} (h : Gw W m x) (hb : Bel W W') : Gw W' m x := ⟨h.e, h.l.bel hb, h.g.bel hb, h.m.bel hb⟩
theorem mg_one (m : GM) (x : GX) : (mg m x).all (·.oneCell') = true := by simp [mg, Value.oneCell']
theorem szM (m : GM) (x : GX) : (Tryz.prog.info? 27).map (·.size) = some (mg m x).size := by
  rw [show (mg m x).size = 12 from rfl]; kernel_rfl
def gz : GM := ⟨0, 0, 0, 0, 0, 0, 0, 0, false, [], [], ⟨#[]⟩⟩
def gzx : GX := ⟨none, 0, [], none, 0⟩
theorem zeroM (w : World) : (zeroValue 27).run Tryz.prog w = .ok (.agg (mg gz gzx)) w := by
  unfold mg gz gzx
  go_simp
/-- Block b holds this message. -/
structure Mb2 (W : World) (b : Nat) (m : GM) (x : GX) : Prop where
  c0 : W.cell? ⟨b, 0, none⟩ = some (.int .u8 m.kind)
  c1 : W.cell? ⟨b, 1, none⟩ = some (.int .i64 m.frm)
  c2 : W.cell? ⟨b, 2, none⟩ = some (.int .i64 m.to)
  c3 : W.cell? ⟨b, 3, none⟩ = some (.int .u64 m.term)
  c4 : W.cell? ⟨b, 4, none⟩ = some (.int .u64 m.index)
  c5 : W.cell? ⟨b, 5, none⟩ = some (.int .u64 m.lterm)
  c6 : W.cell? ⟨b, 6, none⟩ = some (.int .u64 m.commit)
  c7 : W.cell? ⟨b, 7, none⟩ = some (.int .u64 m.round)
  c8 : W.cell? ⟨b, 8, none⟩ = some (.bool m.ok)
  c9 : W.cell? ⟨b, 9, none⟩ = some (.slice x.ea m.ents.length x.ec)
  c10 : W.cell? ⟨b, 10, none⟩ = some (.slice x.ma m.mem.length x.mc)
  c11 : W.cell? ⟨b, 11, none⟩ = some (.string m.snap)
theorem Mb2.of {W : World} {b : Nat} {m : GM} {x : GX} (h : W.heap[b]? = some (.cells (mg m x) 27)) : Mb2 W b m x := ⟨cell_of h, cell_of h, cell_of h, cell_of h, cell_of h, cell_of h, cell_of h, cell_of h, cell_of h, cell_of h, cell_of h, cell_of h⟩
/-- What every kind has. -/
def headB (m : GM) : Bool := decide (0 < m.kind) && decide (m.kind ≤ 5) && idB m.frm && idB m.to && (m.frm != m.to) && decide (0 < m.term) && decide (m.term ≤ 4611686018427387904)
set_option maxRecDepth 100000 in
set_option maxHeartbeats 1000000 in
theorem head_any {W : World} {m : GM} {x : GX} : Calls Tryz.prog 56 #[.agg (mg m x)] W fun e w' => e = .returned (.bool (headB m)) ∧ Bel W w' := by
  have HI := hide isId_any
  unfold headB
  generalize hf : idB m.frm = f at *
  generalize ht : idB m.to = t at *
  have HF := hide hf
  have HT := hide ht
  clear hf ht
  go_enter Tryz.func56, Tryz.ntmps56
  go_wp2_with (first
    | (refine bx_box rfl 27 _ rfl (mg m x) rfl ?_; intro b w0 hr0 hs0 hb0; obtain ⟨c0, c1, c2, c3, c4, c5, c6, c7, c8, c9, c10, c11⟩ := Mb2.of hr0; have HB := hide hb0; clear hr0 hs0 hb0)
    | (go_at_call 106; refine ((unhide HI) _ _).mono ?_; rintro e w9 ⟨rfl, hw9⟩; rw [hw9]; clear hw9; first | rw [unhide HF] | rw [unhide HT]))
  all_goals
    go_ret
    refine ⟨?_, unhide HB⟩
    simp_all <;> (try (intros; omega))
/-- The place in a log of which it speaks. -/
def placeB (m : GM) : Bool := if decide (4611686018427387904 < m.index) || decide (4611686018427387904 < m.round) || decide (m.term < m.lterm) then false else if m.kind == 1 || m.kind == 3 then ((m.index == 0) == (m.lterm == 0)) else if m.kind == 5 then decide (0 < m.index) && decide (0 < m.lterm) else true
set_option maxRecDepth 100000 in
set_option maxHeartbeats 1000000 in
theorem place_any {W : World} {m : GM} {x : GX} : Calls Tryz.prog 57 #[.agg (mg m x)] W fun e w' => e = .returned (.bool (placeB m)) ∧ Bel W w' := by
  unfold placeB
  go_enter Tryz.func57, Tryz.ntmps57
  go_wp2_with (first
    | (refine bx_box rfl 27 _ rfl (mg m x) rfl ?_; intro b w0 hr0 hs0 hb0; obtain ⟨c0, c1, c2, c3, c4, c5, c6, c7, c8, c9, c10, c11⟩ := Mb2.of hr0; have HB := hide hb0; clear hr0 hs0 hb0))
  all_goals
    go_ret
    refine ⟨?_, unhide HB⟩
    simp_all <;> (try (intros; omega))
/-- Its lists. -/
def listsB (m : GM) : Bool := if m.kind == 3 then decide (m.ents.length ≤ 16) && mayEs m.lterm m.term m.ents else if m.kind == 5 then decide (0 < m.mem.length) && aids 0 m.mem else true
set_option maxRecDepth 100000 in
set_option maxHeartbeats 1000000 in
theorem lists_any {W : World} {m : GM} {x : GX} (h : Gw W m x) (hl : m.ents.length ≤ 1048576) (hm : m.mem.length ≤ 1048576) (hq : ∀ y ∈ x.ls, y.1.m.length ≤ 1048576) : Calls Tryz.prog 58 #[.agg (mg m x)] W fun e w' => e = .returned (.bool (listsB m)) ∧ Bel W w' := by
  have hle : x.ls.length = m.ents.length := by rw [← h.e, List.length_map]
  have HE : Hid (∀ W', Bel W W' → Calls Tryz.prog 107 #[.slice x.ea m.ents.length x.ec, .int .u64 m.lterm, .int .u64 m.term] W' fun e w' => e = .returned (.bool (mayEs m.lterm m.term m.ents)) ∧ Bel W' w') := hide (fun W' hb => by
    have := mayEntries_any (h.l.bel hb) (h.g.bel hb) x.ec m.lterm m.term (by omega) (fun y hy => by have := hq y hy; omega)
    rwa [hle, h.e] at this)
  have HM : Hid (∀ W', Bel W W' → Calls Tryz.prog 108 #[.slice x.ma m.mem.length x.mc] W' fun e w' => e = .returned (.bool (decide (0 < m.mem.length) && aids 0 m.mem)) ∧ w' = W') := hide (fun W' hb => areMem_any (h.m.bel hb) x.mc (by omega))
  unfold listsB
  generalize mayEs m.lterm m.term m.ents = me at *
  generalize (decide (0 < m.mem.length) && aids 0 m.mem) = mm at *
  clear h hl hm hq hle
  go_enter Tryz.func58, Tryz.ntmps58
  go_wp2_with (first
    | (refine bx_box rfl 27 _ rfl (mg m x) rfl ?_; intro b w0 hr0 hs0 hb0; obtain ⟨c0, c1, c2, c3, c4, c5, c6, c7, c8, c9, c10, c11⟩ := Mb2.of hr0; have HB := hide hb0; clear hr0 hs0 hb0)
    | (go_at_call 107; refine ((unhide HE) _ (unhide HB)).mono ?_; rintro e w9 ⟨rfl, hb9⟩; replace HB := hide ((unhide HB).trans hb9); clear hb9)
    | (go_at_call 108; refine ((unhide HM) _ (unhide HB)).mono ?_; rintro e w9 ⟨rfl, hw9⟩; rw [hw9]; clear hw9))
  all_goals
    go_ret
    refine ⟨?_, unhide HB⟩
    simp_all <;> (try (intros; omega))
/-- Without what its kind names. -/
def unm (m : GM) : GM :=
  if m.kind = 5 then { m with index := 0, lterm := 0, round := 0, mem := [], snap := ⟨#[]⟩ }
  else if m.kind = 3 then { m with commit := 0, round := 0, ents := [], index := 0, lterm := 0 }
  else if m.kind = 1 then { m with index := 0, lterm := 0 }
  else if m.kind = 4 then { m with index := 0, round := 0, ok := false }
  else if m.kind = 2 then { m with ok := false }
  else m
def emptyB (m : GM) : Bool := (m.index == 0) && (m.lterm == 0) && (m.commit == 0) && (m.round == 0) && !m.ok && decide (m.ents.length = 0) && decide (m.mem.length = 0) && m.snap.toList.isEmpty
set_option maxRecDepth 100000 in
set_option maxHeartbeats 1000000 in
theorem empty_any {W : World} {m : GM} {x : GX} : Calls Tryz.prog 59 #[.agg (mg m x)] W fun e w' => e = .returned (.bool (emptyB m)) ∧ Bel W w' := by
  unfold emptyB
  go_enter Tryz.func59, Tryz.ntmps59
  go_wp2_with (first
    | (refine bx_box rfl 27 _ rfl (mg m x) rfl ?_; intro b w0 hr0 hs0 hb0; obtain ⟨c0, c1, c2, c3, c4, c5, c6, c7, c8, c9, c10, c11⟩ := Mb2.of hr0; have HB := hide hb0; clear hr0 hs0 hb0))
  all_goals
    go_ret
    refine ⟨?_, unhide HB⟩
    simp_all <;> (try (intros; omega))
def unx (m : GM) (x : GX) : GX := if m.kind = 5 then { x with ma := none, mc := 0 } else if m.kind = 3 then { x with ea := none, ec := 0 } else x
theorem szMs {cs : Array Value} (h : cs.size = 12) : (Tryz.prog.info? 27).map (·.size) = some cs.size := by rw [h]; kernel_rfl
/-- A message in its box, and the answer's box. -/
structure Mo (W w : World) (b b2 : Nat) (cs : Array Value) : Prop where
  row : w.heap[b]? = some (.cells cs 27)
  row2 : w.heap[b2]? = some (.cells (mg gz gzx) 27)
  bel : Bel W w
  ge : W.heap.size ≤ b
  ge2 : W.heap.size ≤ b2
  ne : b2 ≠ b
  sz : cs.size = 12
  one : cs.all (·.oneCell') = true
theorem Mo.set {W w w' : World} {b b2 i : Nat} {cs : Array Value} {v : Value} (h : Mo W w b b2 cs) (hv : v.oneCell' = true) (hr : w'.heap[b]? = some (.cells (cs.setIfInBounds i v) 27)) (hc : Ch (fun k => k = b) w w') : Mo W w' b b2 (cs.setIfInBounds i v) := by
  refine ⟨hr, hc.row h.row2 h.ne, bel_off h.bel hc h.ge, h.ge, h.ge2, h.ne, by rw [Array.size_setIfInBounds]; exact h.sz, ?_⟩
  have h1 := h.one
  rw [Array.all_eq_true] at h1 ⊢
  intro j hj
  rw [Array.getElem_setIfInBounds]
  split
  · exact hv
  · exact h1 j (by simpa using hj)
theorem sz22 : (Tryz.prog.info? 22).map (·.size) = some 1 := by kernel_rfl
theorem sz3 : (Tryz.prog.info? 3).map (·.size) = some 1 := by kernel_rfl
theorem sz4 : (Tryz.prog.info? 4).map (·.size) = some 1 := by kernel_rfl
theorem sz24 : (Tryz.prog.info? 24).map (·.size) = some 1 := by kernel_rfl
set_option maxRecDepth 100000 in
set_option maxHeartbeats 4000000 in
theorem unn5 {W : World} {m : GM} {x : GX} (hk : m.kind = 5) : Calls Tryz.prog 60 #[.agg (mg m x)] W fun e w' => e = .returned (.agg (mg (unm m) (unx m x))) ∧ Bel W w' := by
  have HE : Hid (mg (unm m) (unx m x) = mg (unm m) (unx m x)) := hide rfl
  have HU : Hid (unm m = unm m) := hide rfl
  have e5 : (m.kind == 5) = true := by rw [hk]; rfl
  have HK := hide hk
  clear hk HE HU
  go_enter Tryz.func60, Tryz.ntmps60
  go_wp2_with (first
    | go_skip
    | (refine bx_box rfl 27 _ rfl (mg m x) rfl ?_; intro b w0 hr0 hs0 hb0; have HR0 := hide hr0; have HB0 := hide (And.intro hb0 (Nat.le_of_eq hs0)); clear hr0 hs0 hb0)
    | (refine bx_new rfl 27 rfl _ zeroM ?_; intro b2 w1 hr1 hs1 hb1; have HO : Hid (Mo W w1 b b2 (mg m x)) := hide ⟨hb1.row (unhide HR0), hr1, (unhide HB0).1.trans hb1, (unhide HB0).2, (show W.heap.size ≤ b2 by have := (unhide HB0).1.size; omega), (show b2 ≠ b from fun e => by have := lt_of_some (unhide HR0); omega), rfl, mg_one m x⟩; have c0 := (Mb2.of (unhide HO).row).c0; clear hr1 hs1 hb1)
    | (refine bx_set rfl 23 (.tmp 15) (.const (.int .u64 0)) rfl b 4 _ rfl rfl rfl rfl _ 27 (unhide HO).row sz23 (by rw [(unhide HO).sz]; decide) ?_; intro w2 hr2 hc2; replace HO := hide ((unhide HO).set rfl hr2 hc2); clear hr2 hc2)
    | (refine bx_set rfl 23 (.tmp 16) (.const (.int .u64 0)) rfl b 5 _ rfl rfl rfl rfl _ 27 (unhide HO).row sz23 (by rw [(unhide HO).sz]; decide) ?_; intro w2 hr2 hc2; replace HO := hide ((unhide HO).set rfl hr2 hc2); clear hr2 hc2)
    | (refine bx_set rfl 23 (.tmp 17) (.const (.int .u64 0)) rfl b 7 _ rfl rfl rfl rfl _ 27 (unhide HO).row sz23 (by rw [(unhide HO).sz]; decide) ?_; intro w2 hr2 hc2; replace HO := hide ((unhide HO).set rfl hr2 hc2); clear hr2 hc2)
    | (refine bx_set rfl 25 (.tmp 18) (.const (.slice none 0 0)) rfl b 10 _ rfl rfl rfl rfl _ 27 (unhide HO).row sz25 (by rw [(unhide HO).sz]; decide) ?_; intro w2 hr2 hc2; replace HO := hide ((unhide HO).set rfl hr2 hc2); clear hr2 hc2)
    | (refine bx_set rfl 9 (.tmp 19) (.const (.string ⟨#[]⟩)) rfl b 11 _ rfl rfl rfl rfl _ 27 (unhide HO).row sz9 (by rw [(unhide HO).sz]; decide) ?_; intro w2 hr2 hc2; replace HO := hide ((unhide HO).set rfl hr2 hc2); clear hr2 hc2)
    | (refine bx_ld rfl 27 (.tmp 1) rfl b rfl _ _ (unhide HO).row Tryz.underlying27 (szMs (unhide HO).sz) ?_)
    | (refine bx_st rfl 27 (.tmp 2) (.tmp 28) rfl b2 _ _ rfl rfl (unhide HO).row2 (szMs (unhide HO).sz) (unhide HO).sz.symm (unhide HO).one ?_; intro w9 hr9 hc9; have HZ := hide (And.intro hr9 (bel_off (unhide HO).bel hc9 (unhide HO).ge2)); clear hr9 hc9)
    | go_guarded)
  refine bodyPost_ret (res1 (p := 2) rfl Tryz.underlying27 (szMs (by first | rfl | exact (unhide HO).sz)) (unhide HZ).1 _ rfl) rfl ⟨?_, (unhide HZ).2⟩
  refine congrArg (fun c => Ending.returned (Value.agg c)) ?_
  have hk := unhide HK
  simp only [unm, unx, if_pos hk]
  all_goals rfl
set_option maxRecDepth 100000 in
set_option maxHeartbeats 4000000 in
theorem unn3 {W : World} {m : GM} {x : GX} (hk : m.kind = 3) : Calls Tryz.prog 60 #[.agg (mg m x)] W fun e w' => e = .returned (.agg (mg (unm m) (unx m x))) ∧ Bel W w' := by
  have HE : Hid (mg (unm m) (unx m x) = mg (unm m) (unx m x)) := hide rfl
  have HU : Hid (unm m = unm m) := hide rfl
  have e5 : (m.kind == 5) = false := by rw [hk]; rfl
  have e3 : (m.kind == 3) = true := by rw [hk]; rfl
  have HK := hide hk
  clear hk HE HU
  go_enter Tryz.func60, Tryz.ntmps60
  go_wp2_with (first
    | go_skip
    | (refine bx_box rfl 27 _ rfl (mg m x) rfl ?_; intro b w0 hr0 hs0 hb0; have HR0 := hide hr0; have HB0 := hide (And.intro hb0 (Nat.le_of_eq hs0)); clear hr0 hs0 hb0)
    | (refine bx_new rfl 27 rfl _ zeroM ?_; intro b2 w1 hr1 hs1 hb1; have HO : Hid (Mo W w1 b b2 (mg m x)) := hide ⟨hb1.row (unhide HR0), hr1, (unhide HB0).1.trans hb1, (unhide HB0).2, (show W.heap.size ≤ b2 by have := (unhide HB0).1.size; omega), (show b2 ≠ b from fun e => by have := lt_of_some (unhide HR0); omega), rfl, mg_one m x⟩; have c0 := (Mb2.of (unhide HO).row).c0; clear hr1 hs1 hb1)
    | (refine bx_set rfl 23 (.tmp 20) (.const (.int .u64 0)) rfl b 6 _ rfl rfl rfl rfl _ 27 (unhide HO).row sz23 (by rw [(unhide HO).sz]; decide) ?_; intro w2 hr2 hc2; replace HO := hide ((unhide HO).set rfl hr2 hc2); clear hr2 hc2)
    | (refine bx_set rfl 23 (.tmp 21) (.const (.int .u64 0)) rfl b 7 _ rfl rfl rfl rfl _ 27 (unhide HO).row sz23 (by rw [(unhide HO).sz]; decide) ?_; intro w2 hr2 hc2; replace HO := hide ((unhide HO).set rfl hr2 hc2); clear hr2 hc2)
    | (refine bx_set rfl 24 (.tmp 22) (.const (.slice none 0 0)) rfl b 9 _ rfl rfl rfl rfl _ 27 (unhide HO).row sz24 (by rw [(unhide HO).sz]; decide) ?_; intro w2 hr2 hc2; replace HO := hide ((unhide HO).set rfl hr2 hc2); clear hr2 hc2)
    | (refine bx_set rfl 23 (.tmp 23) (.const (.int .u64 0)) rfl b 4 _ rfl rfl rfl rfl _ 27 (unhide HO).row sz23 (by rw [(unhide HO).sz]; decide) ?_; intro w2 hr2 hc2; replace HO := hide ((unhide HO).set rfl hr2 hc2); clear hr2 hc2)
    | (refine bx_set rfl 23 (.tmp 24) (.const (.int .u64 0)) rfl b 5 _ rfl rfl rfl rfl _ 27 (unhide HO).row sz23 (by rw [(unhide HO).sz]; decide) ?_; intro w2 hr2 hc2; replace HO := hide ((unhide HO).set rfl hr2 hc2); clear hr2 hc2)
    | (refine bx_ld rfl 27 (.tmp 1) rfl b rfl _ _ (unhide HO).row Tryz.underlying27 (szMs (unhide HO).sz) ?_)
    | (refine bx_st rfl 27 (.tmp 2) (.tmp 28) rfl b2 _ _ rfl rfl (unhide HO).row2 (szMs (unhide HO).sz) (unhide HO).sz.symm (unhide HO).one ?_; intro w9 hr9 hc9; have HZ := hide (And.intro hr9 (bel_off (unhide HO).bel hc9 (unhide HO).ge2)); clear hr9 hc9)
    | go_guarded)
  refine bodyPost_ret (res1 (p := 2) rfl Tryz.underlying27 (szMs (by first | rfl | exact (unhide HO).sz)) (unhide HZ).1 _ rfl) rfl ⟨?_, (unhide HZ).2⟩
  refine congrArg (fun c => Ending.returned (Value.agg c)) ?_
  have n5 : ¬ m.kind = 5 := by rw [unhide HK]; decide
  have hk := unhide HK
  simp only [unm, unx, if_neg n5, if_pos hk]
  all_goals rfl
set_option maxRecDepth 100000 in
set_option maxHeartbeats 4000000 in
theorem unn1 {W : World} {m : GM} {x : GX} (hk : m.kind = 1) : Calls Tryz.prog 60 #[.agg (mg m x)] W fun e w' => e = .returned (.agg (mg (unm m) (unx m x))) ∧ Bel W w' := by
  have HE : Hid (mg (unm m) (unx m x) = mg (unm m) (unx m x)) := hide rfl
  have HU : Hid (unm m = unm m) := hide rfl
  have e5 : (m.kind == 5) = false := by rw [hk]; rfl
  have e3 : (m.kind == 3) = false := by rw [hk]; rfl
  have e1 : (m.kind == 1) = true := by rw [hk]; rfl
  have HK := hide hk
  clear hk HE HU
  go_enter Tryz.func60, Tryz.ntmps60
  go_wp2_with (first
    | go_skip
    | (refine bx_box rfl 27 _ rfl (mg m x) rfl ?_; intro b w0 hr0 hs0 hb0; have HR0 := hide hr0; have HB0 := hide (And.intro hb0 (Nat.le_of_eq hs0)); clear hr0 hs0 hb0)
    | (refine bx_new rfl 27 rfl _ zeroM ?_; intro b2 w1 hr1 hs1 hb1; have HO : Hid (Mo W w1 b b2 (mg m x)) := hide ⟨hb1.row (unhide HR0), hr1, (unhide HB0).1.trans hb1, (unhide HB0).2, (show W.heap.size ≤ b2 by have := (unhide HB0).1.size; omega), (show b2 ≠ b from fun e => by have := lt_of_some (unhide HR0); omega), rfl, mg_one m x⟩; have c0 := (Mb2.of (unhide HO).row).c0; clear hr1 hs1 hb1)
    | (refine bx_set rfl 23 (.tmp 23) (.const (.int .u64 0)) rfl b 4 _ rfl rfl rfl rfl _ 27 (unhide HO).row sz23 (by rw [(unhide HO).sz]; decide) ?_; intro w2 hr2 hc2; replace HO := hide ((unhide HO).set rfl hr2 hc2); clear hr2 hc2)
    | (refine bx_set rfl 23 (.tmp 24) (.const (.int .u64 0)) rfl b 5 _ rfl rfl rfl rfl _ 27 (unhide HO).row sz23 (by rw [(unhide HO).sz]; decide) ?_; intro w2 hr2 hc2; replace HO := hide ((unhide HO).set rfl hr2 hc2); clear hr2 hc2)
    | (refine bx_ld rfl 27 (.tmp 1) rfl b rfl _ _ (unhide HO).row Tryz.underlying27 (szMs (unhide HO).sz) ?_)
    | (refine bx_st rfl 27 (.tmp 2) (.tmp 28) rfl b2 _ _ rfl rfl (unhide HO).row2 (szMs (unhide HO).sz) (unhide HO).sz.symm (unhide HO).one ?_; intro w9 hr9 hc9; have HZ := hide (And.intro hr9 (bel_off (unhide HO).bel hc9 (unhide HO).ge2)); clear hr9 hc9)
    | go_guarded)
  refine bodyPost_ret (res1 (p := 2) rfl Tryz.underlying27 (szMs (by first | rfl | exact (unhide HO).sz)) (unhide HZ).1 _ rfl) rfl ⟨?_, (unhide HZ).2⟩
  refine congrArg (fun c => Ending.returned (Value.agg c)) ?_
  have n5 : ¬ m.kind = 5 := by rw [unhide HK]; decide
  have n3 : ¬ m.kind = 3 := by rw [unhide HK]; decide
  have hk := unhide HK
  simp only [unm, unx, if_neg n5, if_neg n3, if_pos hk]
  all_goals rfl
set_option maxRecDepth 100000 in
set_option maxHeartbeats 4000000 in
theorem unn4 {W : World} {m : GM} {x : GX} (hk : m.kind = 4) : Calls Tryz.prog 60 #[.agg (mg m x)] W fun e w' => e = .returned (.agg (mg (unm m) (unx m x))) ∧ Bel W w' := by
  have HE : Hid (mg (unm m) (unx m x) = mg (unm m) (unx m x)) := hide rfl
  have HU : Hid (unm m = unm m) := hide rfl
  have e5 : (m.kind == 5) = false := by rw [hk]; rfl
  have e3 : (m.kind == 3) = false := by rw [hk]; rfl
  have e1 : (m.kind == 1) = false := by rw [hk]; rfl
  have e4 : (m.kind == 4) = true := by rw [hk]; rfl
  have HK := hide hk
  clear hk HE HU
  go_enter Tryz.func60, Tryz.ntmps60
  go_wp2_with (first
    | go_skip
    | (refine bx_box rfl 27 _ rfl (mg m x) rfl ?_; intro b w0 hr0 hs0 hb0; have HR0 := hide hr0; have HB0 := hide (And.intro hb0 (Nat.le_of_eq hs0)); clear hr0 hs0 hb0)
    | (refine bx_new rfl 27 rfl _ zeroM ?_; intro b2 w1 hr1 hs1 hb1; have HO : Hid (Mo W w1 b b2 (mg m x)) := hide ⟨hb1.row (unhide HR0), hr1, (unhide HB0).1.trans hb1, (unhide HB0).2, (show W.heap.size ≤ b2 by have := (unhide HB0).1.size; omega), (show b2 ≠ b from fun e => by have := lt_of_some (unhide HR0); omega), rfl, mg_one m x⟩; have c0 := (Mb2.of (unhide HO).row).c0; clear hr1 hs1 hb1)
    | (refine bx_set rfl 23 (.tmp 25) (.const (.int .u64 0)) rfl b 4 _ rfl rfl rfl rfl _ 27 (unhide HO).row sz23 (by rw [(unhide HO).sz]; decide) ?_; intro w2 hr2 hc2; replace HO := hide ((unhide HO).set rfl hr2 hc2); clear hr2 hc2)
    | (refine bx_set rfl 23 (.tmp 26) (.const (.int .u64 0)) rfl b 7 _ rfl rfl rfl rfl _ 27 (unhide HO).row sz23 (by rw [(unhide HO).sz]; decide) ?_; intro w2 hr2 hc2; replace HO := hide ((unhide HO).set rfl hr2 hc2); clear hr2 hc2)
    | (refine bx_set rfl 4 (.tmp 27) (.const (.bool false)) rfl b 8 _ rfl rfl rfl rfl _ 27 (unhide HO).row sz4 (by rw [(unhide HO).sz]; decide) ?_; intro w2 hr2 hc2; replace HO := hide ((unhide HO).set rfl hr2 hc2); clear hr2 hc2)
    | (refine bx_ld rfl 27 (.tmp 1) rfl b rfl _ _ (unhide HO).row Tryz.underlying27 (szMs (unhide HO).sz) ?_)
    | (refine bx_st rfl 27 (.tmp 2) (.tmp 28) rfl b2 _ _ rfl rfl (unhide HO).row2 (szMs (unhide HO).sz) (unhide HO).sz.symm (unhide HO).one ?_; intro w9 hr9 hc9; have HZ := hide (And.intro hr9 (bel_off (unhide HO).bel hc9 (unhide HO).ge2)); clear hr9 hc9)
    | go_guarded)
  refine bodyPost_ret (res1 (p := 2) rfl Tryz.underlying27 (szMs (by first | rfl | exact (unhide HO).sz)) (unhide HZ).1 _ rfl) rfl ⟨?_, (unhide HZ).2⟩
  refine congrArg (fun c => Ending.returned (Value.agg c)) ?_
  have n5 : ¬ m.kind = 5 := by rw [unhide HK]; decide
  have n3 : ¬ m.kind = 3 := by rw [unhide HK]; decide
  have n1 : ¬ m.kind = 1 := by rw [unhide HK]; decide
  have hk := unhide HK
  simp only [unm, unx, if_neg n5, if_neg n3, if_neg n1, if_pos hk]
  all_goals rfl
set_option maxRecDepth 100000 in
set_option maxHeartbeats 4000000 in
theorem unn2 {W : World} {m : GM} {x : GX} (hk : m.kind = 2) : Calls Tryz.prog 60 #[.agg (mg m x)] W fun e w' => e = .returned (.agg (mg (unm m) (unx m x))) ∧ Bel W w' := by
  have HE : Hid (mg (unm m) (unx m x) = mg (unm m) (unx m x)) := hide rfl
  have HU : Hid (unm m = unm m) := hide rfl
  have e5 : (m.kind == 5) = false := by rw [hk]; rfl
  have e3 : (m.kind == 3) = false := by rw [hk]; rfl
  have e1 : (m.kind == 1) = false := by rw [hk]; rfl
  have e4 : (m.kind == 4) = false := by rw [hk]; rfl
  have e2 : (m.kind == 2) = true := by rw [hk]; rfl
  have HK := hide hk
  clear hk HE HU
  go_enter Tryz.func60, Tryz.ntmps60
  go_wp2_with (first
    | go_skip
    | (refine bx_box rfl 27 _ rfl (mg m x) rfl ?_; intro b w0 hr0 hs0 hb0; have HR0 := hide hr0; have HB0 := hide (And.intro hb0 (Nat.le_of_eq hs0)); clear hr0 hs0 hb0)
    | (refine bx_new rfl 27 rfl _ zeroM ?_; intro b2 w1 hr1 hs1 hb1; have HO : Hid (Mo W w1 b b2 (mg m x)) := hide ⟨hb1.row (unhide HR0), hr1, (unhide HB0).1.trans hb1, (unhide HB0).2, (show W.heap.size ≤ b2 by have := (unhide HB0).1.size; omega), (show b2 ≠ b from fun e => by have := lt_of_some (unhide HR0); omega), rfl, mg_one m x⟩; have c0 := (Mb2.of (unhide HO).row).c0; clear hr1 hs1 hb1)
    | (refine bx_set rfl 4 (.tmp 27) (.const (.bool false)) rfl b 8 _ rfl rfl rfl rfl _ 27 (unhide HO).row sz4 (by rw [(unhide HO).sz]; decide) ?_; intro w2 hr2 hc2; replace HO := hide ((unhide HO).set rfl hr2 hc2); clear hr2 hc2)
    | (refine bx_ld rfl 27 (.tmp 1) rfl b rfl _ _ (unhide HO).row Tryz.underlying27 (szMs (unhide HO).sz) ?_)
    | (refine bx_st rfl 27 (.tmp 2) (.tmp 28) rfl b2 _ _ rfl rfl (unhide HO).row2 (szMs (unhide HO).sz) (unhide HO).sz.symm (unhide HO).one ?_; intro w9 hr9 hc9; have HZ := hide (And.intro hr9 (bel_off (unhide HO).bel hc9 (unhide HO).ge2)); clear hr9 hc9)
    | go_guarded)
  refine bodyPost_ret (res1 (p := 2) rfl Tryz.underlying27 (szMs (by first | rfl | exact (unhide HO).sz)) (unhide HZ).1 _ rfl) rfl ⟨?_, (unhide HZ).2⟩
  refine congrArg (fun c => Ending.returned (Value.agg c)) ?_
  have n5 : ¬ m.kind = 5 := by rw [unhide HK]; decide
  have n3 : ¬ m.kind = 3 := by rw [unhide HK]; decide
  have n1 : ¬ m.kind = 1 := by rw [unhide HK]; decide
  have n4 : ¬ m.kind = 4 := by rw [unhide HK]; decide
  have hk := unhide HK
  simp only [unm, unx, if_neg n5, if_neg n3, if_neg n1, if_neg n4, if_pos hk]
  all_goals rfl
set_option maxRecDepth 100000 in
set_option maxHeartbeats 4000000 in
theorem unn0 {W : World} {m : GM} {x : GX} (h5 : ¬ m.kind = 5) (h3 : ¬ m.kind = 3) (h1 : ¬ m.kind = 1) (h4 : ¬ m.kind = 4) (h2 : ¬ m.kind = 2) : Calls Tryz.prog 60 #[.agg (mg m x)] W fun e w' => e = .returned (.agg (mg (unm m) (unx m x))) ∧ Bel W w' := by
  have e5 : (m.kind == 5) = false := beq_eq_false_iff_ne.2 h5
  have e3 : (m.kind == 3) = false := beq_eq_false_iff_ne.2 h3
  have e1 : (m.kind == 1) = false := beq_eq_false_iff_ne.2 h1
  have e4 : (m.kind == 4) = false := beq_eq_false_iff_ne.2 h4
  have e2 : (m.kind == 2) = false := beq_eq_false_iff_ne.2 h2
  have HK := hide (And.intro h5 (And.intro h3 (And.intro h1 (And.intro h4 h2))))
  clear h5 h3 h1 h4 h2
  go_enter Tryz.func60, Tryz.ntmps60
  go_wp2_with (first
    | go_skip
    | (refine bx_box rfl 27 _ rfl (mg m x) rfl ?_; intro b w0 hr0 hs0 hb0; have HR0 := hide hr0; have HB0 := hide (And.intro hb0 (Nat.le_of_eq hs0)); clear hr0 hs0 hb0)
    | (refine bx_new rfl 27 rfl _ zeroM ?_; intro b2 w1 hr1 hs1 hb1; have HO : Hid (Mo W w1 b b2 (mg m x)) := hide ⟨hb1.row (unhide HR0), hr1, (unhide HB0).1.trans hb1, (unhide HB0).2, (show W.heap.size ≤ b2 by have := (unhide HB0).1.size; omega), (show b2 ≠ b from fun e => by have := lt_of_some (unhide HR0); omega), rfl, mg_one m x⟩; have c0 := (Mb2.of (unhide HO).row).c0; clear hr1 hs1 hb1)
    | (refine bx_ld rfl 27 (.tmp 1) rfl b rfl _ _ (unhide HO).row Tryz.underlying27 (szMs (unhide HO).sz) ?_)
    | (refine bx_st rfl 27 (.tmp 2) (.tmp 28) rfl b2 _ _ rfl rfl (unhide HO).row2 (szMs (unhide HO).sz) (unhide HO).sz.symm (unhide HO).one ?_; intro w9 hr9 hc9; have HZ := hide (And.intro hr9 (bel_off (unhide HO).bel hc9 (unhide HO).ge2)); clear hr9 hc9)
    | go_guarded)
  refine bodyPost_ret (res1 (p := 2) rfl Tryz.underlying27 (szMs (by first | rfl | exact (unhide HO).sz)) (unhide HZ).1 _ rfl) rfl ⟨?_, (unhide HZ).2⟩
  refine congrArg (fun c => Ending.returned (Value.agg c)) ?_
  have n5 : ¬ m.kind = 5 := (unhide HK).1
  have n3 : ¬ m.kind = 3 := (unhide HK).2.1
  have n1 : ¬ m.kind = 1 := (unhide HK).2.2.1
  have n4 : ¬ m.kind = 4 := (unhide HK).2.2.2.1
  have n2 : ¬ m.kind = 2 := (unhide HK).2.2.2.2
  simp only [unm, unx, if_neg n5, if_neg n3, if_neg n1, if_neg n4, if_neg n2]
  all_goals rfl
theorem unnamed_any {W : World} {m : GM} {x : GX} : Calls Tryz.prog 60 #[.agg (mg m x)] W fun e w' => e = .returned (.agg (mg (unm m) (unx m x))) ∧ Bel W w' := by
  by_cases h5 : m.kind = 5
  · exact unn5 h5
  by_cases h3 : m.kind = 3
  · exact unn3 h3
  by_cases h1 : m.kind = 1
  · exact unn1 h1
  by_cases h4 : m.kind = 4
  · exact unn4 h4
  by_cases h2 : m.kind = 2
  · exact unn2 h2
  exact unn0 h5 h3 h1 h4 h2
end Go.Proofs.YtgofdkheffoilaaGreat
