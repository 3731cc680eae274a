/- Clone of any member: its members' row is apart from all others. seats.follow of any member. seats.change as Add calls it, where members change. seats.Add, seats.Remove of any member. -/
import Derived.Test.YthekbhliokcpcaaGreatHcl
import Derived.Test.YthekbhliokcpcaaGreatNiv
import Derived.Test.YthekbhliokcpcaaGreatHsn
import Derived.Test.YthekbhliokcpcaaGreatNch
import Derived.Test.YthekbhliokcpcaaGreatHcu
namespace Go.Proofs.YthekbhliokcpcaaGreat
open Go.RowKit Go.Maps Go.Sort
/-- A member's lists but its members, made behind mid. -/
structure Pn (mid : Nat) (W : World) (s : GP) (x : Px) : Prop where
  b : E3.O mid W (.slice x.aB s.B.length x.cB) s.B
  l : ∃ L, Ll mid W x.aL x.cL s.log L
  v : E3.O mid W (.slice x.aV s.votes.length x.cV) s.votes
  f : E65.O mid W (.slice x.aF s.fol.length x.cF) s.fol
  r : ∃ L : List (GR × GA), L.map (·.1) = s.reads ∧ ER.O mid W (.slice x.aR s.reads.length x.cR) L ∧ ∀ y ∈ L, E3.O mid W (.slice y.2.a y.1.a.length y.2.c) y.1.a
/-- A member whose lists were made behind base, its members ahead of all others. -/
structure Pm (base : Nat) (W : World) (s : GP) (x : Px) : Prop where
  m : E3.O base W (.slice x.aM s.M.length x.cM) s.M
  sep : ∃ mid, base ≤ mid ∧ (∀ k, (Value.slice x.aM s.M.length x.cM).ownBlock = some k → k < mid) ∧ Pn mid W s x
  dv : ∀ k j, (Value.slice x.aV s.votes.length x.cV).ownBlock = some k → (Value.slice x.aM s.M.length x.cM).ownBlock = some j ∨ (Value.slice x.aB s.B.length x.cB).ownBlock = some j → j < k
theorem Pn.bel {mid : Nat} {W W' : World} {s : GP} {x : Px} (h : Pn mid W s x) (hb : Bel W W') : Pn mid W' s x := ⟨h.b.bel hb, by obtain ⟨L, hl⟩ := h.l; exact ⟨L, hl.bel hb⟩, h.v.bel hb, h.f.bel hb, by obtain ⟨L, h1, h2, h3⟩ := h.r; exact ⟨L, h1, h2.bel hb, fun y hy => (h3 y hy).bel hb⟩⟩
theorem Pn.box {mid : Nat} {W W' : World} {s : GP} {x : Px} {b : Nat} {c : Array Value} (h : Pn mid W s x) (hr : W.heap[b]? = some (.cells c 31)) (hc : Ch (fun k => k = b) W W') : Pn mid W' s x := ⟨h.b.box hr (by decide) hc, by obtain ⟨L, hl⟩ := h.l; exact ⟨L, hl.box hr hc⟩, h.v.box hr (by decide) hc, h.f.box hr (by decide) hc, by obtain ⟨L, h1, h2, h3⟩ := h.r; exact ⟨L, h1, h2.box hr (by decide) hc, fun y hy => (h3 y hy).box hr (by decide) hc⟩⟩
theorem Ll.mono {base base' : Nat} {W : World} {a : Option Addr} {c : Nat} {l : List GE} {L : List (GE × GA)} (h : Ll base W a c l L) (hb : base' ≤ base) : Ll base' W a c l L := ⟨h.map, h.row.mono hb, fun y hy => (h.own y hy).mono hb⟩
theorem Pn.mono {mid mid' : Nat} {W : World} {s : GP} {x : Px} (h : Pn mid W s x) (hb : mid' ≤ mid) : Pn mid' W s x := ⟨h.b.mono hb, by obtain ⟨L, hl⟩ := h.l; exact ⟨L, hl.mono hb⟩, h.v.mono hb, h.f.mono hb, by obtain ⟨L, h1, h2, h3⟩ := h.r; exact ⟨L, h1, h2.mono hb, fun y hy => (h3 y hy).mono hb⟩⟩
theorem Pm.box {base : Nat} {W W' : World} {s : GP} {x : Px} {b : Nat} {c : Array Value} (h : Pm base W s x) (hr : W.heap[b]? = some (.cells c 31)) (hc : Ch (fun k => k = b) W W') : Pm base W' s x := ⟨h.m.box hr (by decide) hc, by obtain ⟨mid, h1, h2, h3⟩ := h.sep; exact ⟨mid, h1, h2, h3.box hr hc⟩, h.dv⟩
theorem Pm.bel {base : Nat} {W W' : World} {s : GP} {x : Px} (h : Pm base W s x) (hb : Bel W W') : Pm base W' s x := ⟨h.m.bel hb, by obtain ⟨mid, h1, h2, h3⟩ := h.sep; exact ⟨mid, h1, h2, h3.bel hb⟩, h.dv⟩
theorem Pm.pg {base : Nat} {W : World} {s : GP} {x : Px} (h : Pm base W s x) : Pg base W s x := by
  obtain ⟨mid, h1, h2, h3⟩ := h.sep
  have h4 := h3.mono h1
  exact ⟨h.m, h4.b, h4.l, h4.v, h4.f, h4.r, h.dv⟩
/-- The members' row is written: all others stay. -/
theorem Pn.grown {mid : Nat} {W W' : World} {s : GP} {x : Px} {r : Option Nat} (h : Pn mid W s x) (hg : W.grownBy W' r) (hr : ∀ k, r = some k → k < mid) : Pn mid W' s x := by
  have key : ∀ (v : Value), (∀ k, v.ownBlock = some k → mid ≤ k ∧ k < W.heap.size) → ∀ k, v.ownBlock = some k → W'.heap[k]? = W.heap[k]? := fun v hv k hk => hg.block k (hv k hk).2 (fun e => by have := hr k e.symm; have := (hv k hk).1; omega)
  exact ⟨h.b.at (key _ (fun k hk => h.b.lt hk)), by obtain ⟨L, hl⟩ := h.l; exact ⟨L, hl.map, hl.row.at (key _ (fun k hk => hl.row.lt hk)), fun y hy => (hl.own y hy).at (key _ (fun k hk => (hl.own y hy).lt hk))⟩, h.v.at (key _ (fun k hk => h.v.lt hk)), h.f.at (key _ (fun k hk => h.f.lt hk)), by obtain ⟨L, h1, h2, h3⟩ := h.r; exact ⟨L, h1, h2.at (key _ (fun k hk => h2.lt hk)), fun y hy => (h3 y hy).at (key _ (fun k hk => (h3 y hy).lt hk))⟩⟩
/-- While the readings' Acks are put into lists of their own, up to the k-th. -/
structure Ci (W wr : World) (mid b b2 : Nat) (o2 : Option Obj) (s : GP) (x : Px) (LR L' : List (GR × GA)) (k : Nat) : Prop where
  row : wr.heap[b]? = some (.cells (gc s x) 31)
  row2 : wr.heap[b2]? = o2
  m : E3.O W.heap.size wr (.slice x.aM s.M.length x.cM) s.M
  mlt : ∀ k, (Value.slice x.aM s.M.length x.cM).ownBlock = some k → k < mid
  b : E3.O mid wr (.slice x.aB s.B.length x.cB) s.B
  l : ∃ L, Ll mid wr x.aL x.cL s.log L
  v : E3.O mid wr (.slice x.aV s.votes.length x.cV) s.votes
  f : E65.O mid wr (.slice x.aF s.fol.length x.cF) s.fol
  dv : ∀ k j, (Value.slice x.aV s.votes.length x.cV).ownBlock = some k → (Value.slice x.aM s.M.length x.cM).ownBlock = some j ∨ (Value.slice x.aB s.B.length x.cB).ownBlock = some j → j < k
  len : L'.length = s.reads.length
  map : L'.map (·.1) = LR.map (·.1)
  r : ER.O mid wr (.slice x.aR s.reads.length x.cR) L'
  own : ∀ (i : Nat) (y : GR × GA), i < k → L'[i]? = some y → E3.O mid wr (.slice y.2.a y.1.a.length y.2.c) y.1.a
  rest : ∀ i, k ≤ i → L'[i]? = LR[i]?
  bel : Bel W wr
  mw : W.heap.size ≤ mid ∧ mid ≤ wr.heap.size
theorem Ci.inL {W wr : World} {mid b b2 : Nat} {o2 : Option Obj} {s : GP} {x : Px} {LR L' : List (GR × GA)} {k : Nat} (h : Ci W wr mid b b2 o2 s x LR L' k) {y : GR × GA} (hy : L'[k]? = some y) : y ∈ LR := List.mem_of_getElem? ((h.rest k (Nat.le_refl _)).symm.trans hy)
theorem Ci.look {W wr : World} {mid b b2 : Nat} {o2 : Option Obj} {s : GP} {x : Px} {LR L' : List (GR × GA)} {k : Nat} (h : Ci W wr mid b b2 o2 s x LR L' k) (hk : k < s.reads.length) : ∃ g, wr.cell? ⟨b, 17, none⟩ = some (.slice x.aR s.reads.length x.cR) ∧ x.aR = some ⟨g, 0, none⟩ ∧ (∃ cur, wr.heap[g]? = some (.cells cur 104)) ∧ (∀ y, L'[k]? = some y → wr.cell? ⟨g, k * 3 + 2, none⟩ = some (.slice y.2.a y.1.a.length y.2.c)) ∧ wr.frozen? ⟨g, k * 3 + 2, none⟩ = false ∧ (∀ w9, Bel wr w9 → w9.frozen? ⟨g, k * 3 + 2, none⟩ = false) := by
  have ho := h.r
  have hkl : k < L'.length := by rw [h.len]; exact hk
  obtain ⟨a', c', g, e, h1, h2, _⟩ := ho.shape
  injection e with e1
  have hg : x.aR = some ⟨g, 0, none⟩ := e1.trans (h1 (by omega))
  rw [hg] at ho
  obtain ⟨cur, hcur⟩ := ho.block (k := g) rfl
  refine ⟨g, (Bg.of h.row).c17, hg, ⟨cur, hcur⟩, fun y hy => ?_, free_row (W := wr) hcur, fun w9 hb => free_row (W := w9) (hb.row hcur)⟩
  have := (ER_cell h2 k hkl).2.2
  rw [Nat.zero_add] at this
  rw [List.getElem?_eq_getElem hkl] at hy
  obtain rfl := Option.some.inj hy
  exact this
theorem Ci.next {W wr w9 : World} {mid b b2 g : Nat} {o2 : Option Obj} {s : GP} {x : Px} {LR L' : List (GR × GA)} {k : Nat} (h : Ci W wr mid b b2 o2 s x LR L' k) (hk : k < s.reads.length) (hg : x.aR = some ⟨g, 0, none⟩) {y : GR × GA} (hy : L'[k]? = some y) {a9 : Option Addr} {c9 : Nat} {m : List Int} (hm : y.1.a = m) (hb : Bel wr w9) (ho : E3.O mid w9 (.slice a9 m.length c9) m) (hb2 : ∃ c, o2 = some (.cells c 31)) : ∃ L'', Ci W (w9.setCell ⟨g, k * 3 + 2, none⟩ (.slice a9 m.length c9)) mid b b2 o2 s x LR L'' (k + 1) := by
  have hkl : k < L'.length := by rw [h.len]; exact hk
  have hyk : L'[k] = y := by rw [List.getElem?_eq_getElem hkl] at hy; exact Option.some.inj hy
  have hrow0 := h.r
  rw [hg] at hrow0
  have hrow := hrow0.bel hb
  have hcell := hrow.cell k hkl 2 (by decide) (.slice a9 m.length c9) (y.1, ⟨a9, c9⟩) (by
    show encR _ = (encR _).set 2 _
    rw [hyk]
    unfold encR
    simp [hm])
  obtain ⟨cur, hcur⟩ := hrow.block (k := g) rfl
  have hch : Ch (fun i => i = g) w9 (w9.setCell ⟨g, k * 3 + 2, none⟩ (.slice a9 m.length c9)) := Ch.set (ad := ⟨g, k * 3 + 2, none⟩) (Ch.refl (fun i => i = g) w9) (Or.inl rfl) _
  have hlt := hrow.lt (k := g) rfl
  have hne : ∀ (q : Nat) (c : Array Value), w9.heap[q]? = some (.cells c 31) → ¬ q = g := fun q c hq e => by
    rw [e, hcur] at hq
    injection (Option.some.inj hq) with _ h2
    exact absurd h2 (by decide)
  obtain ⟨c2, hc2⟩ := hb2
  have h2 : w9.heap[b2]? = some (.cells c2 31) := hb.row (h.row2.trans hc2)
  refine ⟨L'.set k (y.1, ⟨a9, c9⟩), hch.row (hb.row h.row) (hne _ _ (hb.row h.row)), ?_, (h.m.bel hb).box hcur (by decide) hch, h.mlt, (h.b.bel hb).box hcur (by decide) hch, ?_, (h.v.bel hb).box hcur (by decide) hch, (h.f.bel hb).box hcur (by decide) hch, h.dv, by rw [List.length_set]; exact h.len, ?_, ?_, ?_, ?_, bel_off (h.bel.trans hb) hch (Nat.le_trans h.mw.1 hlt.1), ⟨h.mw.1, Nat.le_trans h.mw.2 (Nat.le_trans hb.size hch.size)⟩⟩
  · rw [hc2]; exact hch.row h2 (hne _ _ h2)
  · obtain ⟨L, hl⟩ := h.l
    have hl2 := hl.bel hb
    exact ⟨L, hl2.map, hl2.row.box hcur (by decide) hch, fun y hy => (hl2.own y hy).box hcur (by decide) hch⟩
  · rw [List.map_set, ← h.map]
    apply List.ext_getElem?
    intro t
    rw [List.getElem?_set]
    split
    · next e => subst e; rw [List.length_map, if_pos hkl, List.getElem?_map, hy]; rfl
    · rfl
  · rw [hg]; exact hcell
  · intro i z hi hz
    rw [List.getElem?_set] at hz
    split at hz
    · next e =>
      first
        | rw [if_pos hkl] at hz
        | skip
      obtain rfl := Option.some.inj hz
      simp only
      rw [hm]
      exact ho.box hcur (by decide) hch
    · next e => exact ((h.own i z (by omega) hz).bel hb).box hcur (by decide) hch
  · intro i hi
    rw [List.getElem?_set, if_neg (by omega)]
    exact h.rest i (by omega)
theorem Ci.pm {W wr : World} {mid b b2 : Nat} {o2 : Option Obj} {s : GP} {x : Px} {LR L' : List (GR × GA)} {k : Nat} (h : Ci W wr mid b b2 o2 s x LR L' k) (hk : s.reads.length = k) (hLR : LR.map (·.1) = s.reads) : Pm W.heap.size wr s x := ⟨h.m, ⟨mid, h.mw.1, h.mlt, ⟨h.b, h.l, h.v, h.f, ⟨L', h.map.trans hLR, h.r, fun y hy => by
  obtain ⟨i, hi, e⟩ := List.getElem_of_mem hy
  exact h.own i y (by have := h.len; omega) (by rw [List.getElem?_eq_getElem hi, e])⟩⟩⟩, h.dv⟩
set_option maxRecDepth 100000 in
set_option maxHeartbeats 8000000 in
theorem clone_m {W : World} {s : GP} {x : Px} (h : Gp W s x) (hM : s.M.length ≤ 17592186044416) (hB : s.B.length ≤ 17592186044416) (hl : s.log.length ≤ 1000000) (hlm : ∀ e ∈ s.log, e.m.length ≤ 17592186044416) (hv : s.votes.length ≤ 17592186044416) (hf : s.fol.length ≤ 1000000) (hr : s.reads.length ≤ 1000000) (hra : ∀ r ∈ s.reads, r.a.length ≤ 17592186044416) : Calls Tryz.prog 41 #[.agg (gc s x)] W fun e w' => ∃ x', e = .returned (.agg (gc s x')) ∧ Pm W.heap.size w' s x' ∧ Bel W w' := by
  obtain ⟨LG, hLG, hSG, hGm⟩ := h.l
  obtain ⟨LR, hLR, hSR, hGa⟩ := h.r
  have hLGn : LG.length = s.log.length := by rw [← hLG, List.length_map]
  have hLRn : LR.length = s.reads.length := by rw [← hLR, List.length_map]
  have HM : Hid (∀ W', Bel W W' → Calls Tryz.prog 99 #[.slice x.aM s.M.length x.cM] W' fun e w' => ∃ a' c', e = .returned (.slice a' s.M.length c') ∧ E3.O W.heap.size w' (.slice a' s.M.length c') s.M ∧ Bel W' w') := hide (fun W' hb => (clone3w rfl (h.m.bel hb) (by omega)).mono (fun e w' ⟨a', c', he, ho, hb'⟩ => ⟨a', c', he, ho.mono hb.size, hb'⟩))
  have HBm : Hid (∀ (B0 : Nat) (W' : World), Bel W W' → B0 ≤ W'.heap.size → Calls Tryz.prog 99 #[.slice x.aB s.B.length x.cB] W' fun e w' => ∃ a' c', e = .returned (.slice a' s.B.length c') ∧ E3.O B0 w' (.slice a' s.B.length c') s.B ∧ Bel W' w') := hide (fun B0 W' hb hB => (clone3w rfl (h.b.bel hb) (by omega)).mono (fun e w' ⟨a', c', he, ho, hb'⟩ => ⟨a', c', he, ho.mono hB, hb'⟩))
  have HV : Hid (∀ (B0 : Nat) (W' : World), Bel W W' → B0 ≤ W'.heap.size → Calls Tryz.prog 99 #[.slice x.aV s.votes.length x.cV] W' fun e w' => ∃ a' c', e = .returned (.slice a' s.votes.length c') ∧ (E3.O B0 w' (.slice a' s.votes.length c') s.votes ∧ ∀ k, (Value.slice a' s.votes.length c').ownBlock = some k → W'.heap.size ≤ k) ∧ Bel W' w') := hide (fun B0 W' hb hB => (clone3w rfl (h.v.bel hb) (by omega)).mono (fun e w' ⟨a', c', he, ho, hb'⟩ => ⟨a', c', he, ⟨ho.mono hB, fun k hk => (ho.lt hk).1⟩, hb'⟩))
  have HF : Hid (∀ (B0 : Nat) (W' : World), Bel W W' → B0 ≤ W'.heap.size → Calls Tryz.prog 100 #[.slice x.aF s.fol.length x.cF] W' fun e w' => ∃ a' c', e = .returned (.slice a' s.fol.length c') ∧ E65.O B0 w' (.slice a' s.fol.length c') s.fol ∧ Bel W' w') := hide (fun B0 W' hb hB => (clone65 rfl (h.f.bel hb) (by omega)).mono (fun e w' ⟨a', c', he, ho, hb'⟩ => ⟨a', c', he, ho.mono hB, hb'⟩))
  have HL : Hid (∀ (B0 : Nat) (W' : World), Bel W W' → B0 ≤ W'.heap.size → Calls Tryz.prog 101 #[.slice x.aL s.log.length x.cL] W' fun e w' => ∃ a' c', e = .returned (.slice a' s.log.length c') ∧ (∃ L, Ll B0 w' a' c' s.log L) ∧ Bel W' w') := hide (fun B0 W' hb hB => (entries_g (L := LG) hLGn (hSG.bel hb) (hGm.bel hb) hl (fun y hy => hlm _ (by rw [← hLG]; exact List.mem_map_of_mem hy))).mono (fun e w' ⟨a', c', L', he, hm, ho, hoo, hb'⟩ => ⟨a', c', he, ⟨L', hm.trans hLG, ho.mono hB, fun y hy => (hoo y hy).mono hB⟩, hb'⟩))
  have HR : Hid (∀ (B0 : Nat) (W' : World), Bel W W' → B0 ≤ W'.heap.size → Calls Tryz.prog 102 #[.slice x.aR s.reads.length x.cR] W' fun e w' => ∃ a' c', e = .returned (.slice a' s.reads.length c') ∧ (∃ L, Lr0 B0 w' a' c' s.reads L LR) ∧ Bel W' w') := hide (fun B0 W' hb hB => (cloneR hLRn (hSR.bel hb) (by omega)).mono (fun e w' ⟨a', c', he, ho, hb'⟩ => ⟨a', c', he, ⟨LR, hLRn, rfl, ho.mono hB, fun _ _ => rfl⟩, hb'⟩))
  have HC : Hid (∀ (B0 : Nat) (y : GR × GA) (w' : World), y ∈ LR → Bel W w' → B0 ≤ w'.heap.size → Calls Tryz.prog 99 #[.slice y.2.a y.1.a.length y.2.c] w' fun e w'' => ∃ a' c', e = .returned (.slice a' y.1.a.length c') ∧ E3.O B0 w'' (.slice a' y.1.a.length c') y.1.a ∧ Bel w' w'') := hide (fun B0 y w' hy hb hB => (clone3w rfl ((hGa y hy).bel hb) (by have := hra _ (by rw [← hLR]; exact List.mem_map_of_mem hy); omega)).mono (fun e w'' ⟨a', c', he, ho, hb'⟩ => ⟨a', c', he, ho.mono hB, hb'⟩))
  have HLR := hide hLR
  have HRL := hide hr
  clear h hM hB hl hlm hv hf hr hra hLG hSG hGm hLR hSR hGa hLGn hLRn
  go_enter Tryz.func41, Tryz.ntmps41
  go_wp2_with (first
    | (refine bx_box rfl 31 _ rfl (gc s x) rfl ?_; intro b w0 hr0 hs0 hb0; have HR0 := hide hr0; have HRz := hide hr0; have HB0 := hide (And.intro hb0 (Nat.le_of_eq hs0)); clear hr0 hs0 hb0)
    | (refine bx_new rfl 31 rfl _ Tryz.zeroP ?_; intro b2 w1 hr1 hs1 hb1; have HR1 := hide hr1; have HS1 := hide hs1; replace HR0 := hide (hb1.row (unhide HR0)); replace HB0 := hide (And.intro ((unhide HB0).1.trans hb1) (And.intro (unhide HB0).2 (Nat.le_trans (unhide HB0).1.size (Nat.le_of_eq hs1)))); clear hr1 hs1 hb1))
  go_frame
  rename_i Q1 K1 hK1
  have HRb := hide (unhide HR1)
  have HNE : Hid (b2 ≠ b) := hide (fun e => by have := lt_of_some (unhide HRz); have := unhide HS1; omega)
  have key1 : ∀ (mid : Nat) (a7 a10 : Option Addr) (c7 c10 : Nat) (w' : World), w'.heap[b]? = some (.cells (gc s { x with aM := a7, cM := c7, aB := a10, cB := c10 }) 31) → w'.heap[b2]? = w1.heap[b2]? → E3.O W.heap.size w' (.slice a7 s.M.length c7) s.M → E3.O mid w' (.slice a10 s.B.length c10) s.B → (W.heap.size ≤ mid ∧ mid ≤ w'.heap.size) → (∀ k, (Value.slice a7 s.M.length c7).ownBlock = some k → k < mid) → Bel W w' → K1 { tmps := #[.agg (gc s x), .pointer (some ⟨b, 0, none⟩), .pointer (some ⟨b2, 0, none⟩), undef, .pointer (some ⟨b, 1, none⟩), .slice x.aM s.M.length x.cM, .slice a7 s.M.length c7, .pointer (some ⟨b, 8, none⟩), .slice x.aB s.B.length x.cB, .slice a10 s.B.length c10, .pointer (some ⟨b, 1, none⟩), .pointer (some ⟨b, 8, none⟩), undef, undef, undef, undef, undef, undef, undef, undef, undef, undef, undef, undef, undef, undef, undef, undef, undef, undef, undef, undef, undef, undef, undef, undef, undef, undef, undef, undef, undef, undef, undef, undef, undef, undef, undef, undef], defers := [] } w' := by
    intro mid a7 a10 c7 c10 w2 hr2 hb2 o7 o10 hmw hml bl2
    have HMW := hide hmw
    have HML := hide hml
    clear hmw hml
    have HR2 := hide hr2
    have HX2 := hide (And.intro hb2 (And.intro o7 (And.intro o10 bl2)))
    have hsz : b2 < w2.heap.size := lt_of_some (hb2.trans (unhide HRb))
    clear hr2 hb2 o7 o10 bl2
    refine hK1 _ _ ?_
    go_wp2_with fail
    rename_i K2 hK2
    have key2 : ∀ (a15 a18 : Option Addr) (c15 c18 : Nat) (w' : World), w'.heap[b]? = some (.cells (gc s { x with aM := a7, cM := c7, aB := a10, cB := c10, aV := a15, cV := c15, aF := a18, cF := c18 }) 31) → w'.heap[b2]? = w1.heap[b2]? → E3.O W.heap.size w' (.slice a7 s.M.length c7) s.M → E3.O mid w' (.slice a10 s.B.length c10) s.B → E3.O mid w' (.slice a15 s.votes.length c15) (s.votes) → E65.O mid w' (.slice a18 s.fol.length c18) (s.fol) → mid ≤ w'.heap.size → (∀ k j, (Value.slice a15 s.votes.length c15).ownBlock = some k → (Value.slice a7 s.M.length c7).ownBlock = some j ∨ (Value.slice a10 s.B.length c10).ownBlock = some j → j < k) → Bel W w' → K2 { tmps := #[.agg (gc s x), .pointer (some ⟨b, 0, none⟩), .pointer (some ⟨b2, 0, none⟩), undef, .pointer (some ⟨b, 1, none⟩), .slice x.aM s.M.length x.cM, .slice a7 s.M.length c7, .pointer (some ⟨b, 8, none⟩), .slice x.aB s.B.length x.cB, .slice a10 s.B.length c10, .pointer (some ⟨b, 1, none⟩), .pointer (some ⟨b, 8, none⟩), .pointer (some ⟨b, 14, none⟩), .slice x.aV s.votes.length x.cV, .slice a15 s.votes.length c15, .pointer (some ⟨b, 15, none⟩), .slice x.aF s.fol.length x.cF, .slice a18 s.fol.length c18, .pointer (some ⟨b, 14, none⟩), .pointer (some ⟨b, 15, none⟩), undef, undef, undef, undef, undef, undef, undef, undef, undef, undef, undef, undef, undef, undef, undef, undef, undef, undef, undef, undef, undef, undef, undef, undef, undef, undef, undef, undef], defers := [] } w' := by
      intro a15 a18 c15 c18 w5 hr5 hb5 o7 o10 o15 o18 hm5 hdv bl5
      have HM5 := hide hm5
      clear hm5
      have HR5 := hide hr5
      have HX5 := hide (And.intro hb5 (And.intro o7 (And.intro o10 (And.intro o15 (And.intro o18 bl5)))))
      have hsz5 : b2 < w5.heap.size := lt_of_some (hb5.trans (unhide HRb))
      have HDV := hide hdv
      clear hr5 hb5 o7 o10 o15 o18 bl5 hdv
      refine hK2 _ _ ?_
      go_wp2_with fail
      rename_i K3 hK3
      have key3 : ∀ (a23 a26 : Option Addr) (c23 c26 : Nat) (w' : World), w'.heap[b]? = some (.cells (gc s { x with aM := a7, cM := c7, aB := a10, cB := c10, aV := a15, cV := c15, aF := a18, cF := c18, aL := a23, cL := c23, aR := a26, cR := c26 }) 31) → w'.heap[b2]? = w1.heap[b2]? → E3.O W.heap.size w' (.slice a7 s.M.length c7) s.M → E3.O mid w' (.slice a10 s.B.length c10) s.B → E3.O mid w' (.slice a15 s.votes.length c15) (s.votes) → E65.O mid w' (.slice a18 s.fol.length c18) (s.fol) → mid ≤ w'.heap.size → (∀ k j, (Value.slice a15 s.votes.length c15).ownBlock = some k → (Value.slice a7 s.M.length c7).ownBlock = some j ∨ (Value.slice a10 s.B.length c10).ownBlock = some j → j < k) → (∃ L, Ll mid w' a23 c23 s.log L) → (∃ L, Lr0 mid w' a26 c26 s.reads L LR) → Bel W w' → K3 { tmps := #[.agg (gc s x), .pointer (some ⟨b, 0, none⟩), .pointer (some ⟨b2, 0, none⟩), undef, .pointer (some ⟨b, 1, none⟩), .slice x.aM s.M.length x.cM, .slice a7 s.M.length c7, .pointer (some ⟨b, 8, none⟩), .slice x.aB s.B.length x.cB, .slice a10 s.B.length c10, .pointer (some ⟨b, 1, none⟩), .pointer (some ⟨b, 8, none⟩), .pointer (some ⟨b, 14, none⟩), .slice x.aV s.votes.length x.cV, .slice a15 s.votes.length c15, .pointer (some ⟨b, 15, none⟩), .slice x.aF s.fol.length x.cF, .slice a18 s.fol.length c18, .pointer (some ⟨b, 14, none⟩), .pointer (some ⟨b, 15, none⟩), .pointer (some ⟨b, 10, none⟩), .slice x.aL s.log.length x.cL, .slice a23 s.log.length c23, .pointer (some ⟨b, 17, none⟩), .slice x.aR s.reads.length x.cR, .slice a26 s.reads.length c26, .pointer (some ⟨b, 10, none⟩), .pointer (some ⟨b, 17, none⟩), undef, undef, undef, undef, undef, undef, undef, undef, undef, undef, undef, undef, undef, undef, undef, undef, undef, undef, undef, undef], defers := [] } w' := by
        intro a23 a26 c23 c26 w8 hr8 hb8 o7 o10 o15 o18 hm8 hdv o23 o26 bl8
        have y10 : w8.cell? ⟨b, 10, none⟩ = some (.slice a23 s.log.length c23) := (Bg.of hr8).c10
        obtain ⟨x8, hx8⟩ : ∃ x8 : Px, x8 = { x with aM := a7, cM := c7, aB := a10, cB := c10, aV := a15, cV := c15, aF := a18, cF := c18, aL := a23, cL := c23, aR := a26, cR := c26 } := ⟨_, rfl⟩
        rw [← hx8] at hr8
        have HJ : Hid (∃ L', Ci W w8 mid b b2 w1.heap[b2]? s x8 LR L' 0) := hide (by
          obtain ⟨L', q1, q2, q3, q4⟩ := o26
          refine ⟨L', ⟨hr8, hb8, ?_, ?_, ?_, ?_, ?_, ?_, ?_, q1, q2, ?_, fun i y h => absurd h (Nat.not_lt_zero _), q4, bl8, ⟨(unhide HMW).1, hm8⟩⟩⟩
          all_goals first | (rw [hx8]; assumption) | (rw [hx8]; exact q3) | (rw [hx8]; exact unhide HML))
        have e26 : x8.aR = a26 ∧ x8.cR = c26 := by rw [hx8]; exact ⟨rfl, rfl⟩
        have HX8 := hide hx8
        clear hdv hr8 hb8 o7 o10 o15 o18 hm8 o23 o26 bl8 hx8
        refine hK3 _ _ ?_
        have z17 : w8.cell? ⟨b, 17, none⟩ = some (.slice a26 s.reads.length c26) := by obtain ⟨L', h⟩ := HJ.out; rw [← e26.1, ← e26.2]; exact (Bg.of h.row).c17
        clear y10
        generalize hrn : s.reads.length = rn at *
        have HRN := hide hrn
        clear hrn
        go_wp2_with fail
        go_loopw [31] (fun vk wr => ∃ k : Nat, k ≤ rn ∧ vk = .int .i64 k ∧ Hid (∃ L', Ci W wr mid b b2 w1.heap[b2]? s x8 LR L' k)) (fun vk _ => rn - (intOf vk).toNat)
        case atStart => exact ⟨0, Nat.zero_le _, rfl, HJ⟩
        case round =>
          obtain ⟨k, hk, rfl, HJr⟩ := hrel
          obtain ⟨L', hJ⟩ := HJr.out
          by_cases hlt : k < rn
          · have hkn : (k : Int) < rn := by omega
            have hrl : rn ≤ 1000000 := by have h9 := unhide HRL; (first | rwa [unhide HRN] at h9 | exact h9)
            obtain ⟨g, q0, q1, q2, q3, q4, q5⟩ := hJ.look (by rw [unhide HRN]; exact hlt)
            rw [e26.1, e26.2, unhide HRN] at q0
            have HQ := hide hJ
            obtain ⟨y, hy⟩ : ∃ y, L'[k]? = some y := ⟨_, List.getElem?_eq_getElem (by rw [hJ.len, unhide HRN]; exact hlt)⟩
            have HC2 : Hid (∀ w', Bel wr w' → Calls Tryz.prog 99 #[.slice y.2.a y.1.a.length y.2.c] w' fun e w'' => ∃ a' c', e = .returned (.slice a' y.1.a.length c') ∧ E3.O mid w'' (.slice a' y.1.a.length c') y.1.a ∧ Bel w' w'') := hide (fun w' hb => (unhide HC) mid y w' (hJ.inL hy) (hJ.bel.trans hb) (Nat.le_trans hJ.mw.2 hb.size))
            have r2 := q3 y hy
            have HY := hide hy
            have HQ5 := hide q5
            clear hJ q3 hy q5
            obtain rfl : a26 = some ⟨g, 0, none⟩ := by rw [← e26.1]; exact q1
            generalize hym : y.1.a = ym at *
            generalize y.2 = ya at *
            have HYM := hide hym
            clear hym
            go_wp2_with fail
            go_region_with (first
              | (go_at_call 99; refine ((unhide HC2) _ (Bel.refl wr).drew).mono ?_; rintro e w9 ⟨a9, c9, rfl, ho9, hb9'⟩; have hb9 := (Bel.refl wr).drew.trans hb9'; have z2 := hb9.cell r2; have z17' := hb9.cell q0; have zf : w9.frozen? ⟨g, k * 3 + 2, none⟩ = false := (unhide HQ5) w9 hb9; have HO9 := hide (And.intro ho9 hb9); clear ho9 hb9 hb9'))
            all_goals (first | go_wp2_with fail | skip)
            all_goals
              refine ⟨⟨k + 1, by omega, by go_num, hide ((unhide HQ).next (by rw [unhide HRN]; exact hlt) q1 (unhide HY) (unhide HYM) (unhide HO9).2 (unhide HO9).1 ⟨_, unhide HRb⟩)⟩, ?_⟩
              simp [intOf]
              omega
          · obtain rfl : k = rn := by omega
            have HQ := hide hJ
            clear hJ
            go_wp2_with (first
              | (refine bx_ldG rfl 31 _ rfl b rfl (gc s x8) _ (unhide HQ).row Tryz.underlying31 (Tryz.sizeP _ _) ?_)
              | (refine bx_st rfl 31 _ _ rfl b2 (gc s x8) _ rfl rfl ((unhide HQ).row2.trans (unhide HRb)) (Tryz.sizeP _ _) rfl (gc_one _ _) ?_; intro w9 hr9 hc9; have HR9 := hide (And.intro hr9 hc9); clear hr9 hc9))
            refine bodyPost_ret (res1 (p := 2) rfl Tryz.underlying31 (Tryz.sizeP _ _) (unhide HR9).1 _ rfl) rfl ⟨_, rfl, ?_, bel_off (unhide HQ).bel (unhide HR9).2 (unhide HB0).2.2⟩
            exact ((unhide HQ).pm (unhide HRN) (unhide HLR)).box ((unhide HQ).row2.trans (unhide HRb)) (unhide HR9).2
      have y10 : w5.cell? ⟨b, 10, none⟩ = some (.slice x.aL s.log.length x.cL) := (Bg.of (unhide HR5)).c10
      have y17 : w5.cell? ⟨b, 17, none⟩ = some (.slice x.aR s.reads.length x.cR) := (Bg.of (unhide HR5)).c17
      have HK3 := hide key3
      clear key3
      go_region_with (first
        | (go_at_call 101; refine ((unhide HL) mid _ (Bel.drew (unhide HX5).2.2.2.2.2) (unhide HM5)).mono ?_; rintro e w33 ⟨a23, c23, rfl, ho3, hb3⟩; have z17 : w33.cell? ⟨b, 17, none⟩ = some (.slice x.aR s.reads.length x.cR) := (Bg.of (hb3.row (unhide HR5))).c17; have HO3 := hide (And.intro ho3 hb3); clear ho3 hb3)
        | (go_at_call 102; refine ((unhide HR) mid _ ((Bel.drew (unhide HX5).2.2.2.2.2).trans (unhide HO3).2) (Nat.le_trans (unhide HM5) (unhide HO3).2.size)).mono ?_; rintro e w34 ⟨a26, c26, rfl, ho3', hb3'⟩; have hr3 := hb3'.row ((unhide HO3).2.row (unhide HR5)); have f10 := free_row (p := 10) hr3; have f17 := free_row (p := 17) hr3; have u10 : w34.cell? ⟨b, 10, none⟩ = some (.slice x.aL s.log.length x.cL) := (Bg.of hr3).c10; have u17 : w34.cell? ⟨b, 17, none⟩ = some (.slice x.aR s.reads.length x.cR) := (Bg.of hr3).c17; have HR3x := hide hr3; have HP3 := hide (And.intro ho3' hb3'); clear hr3 hb3' ho3'))
      all_goals
        obtain ⟨q1, q2⟩ := set2_g (x' := { x with aM := a7, cM := c7, aB := a10, cB := c10, aV := a15, cV := c15, aF := a18, cF := c18, aL := a23, cL := c23, aR := a26, cR := c26 }) (i := 10) (j := 17) (v := .slice a23 s.log.length c23) (u := .slice a26 s.reads.length c26) (unhide HR3x) rfl
        have hbb := (((Bel.refl w5).drew.trans (unhide HO3).2).trans (unhide HP3).2)
        exact (unhide HK3) _ _ _ _ _ q1 ((q2.block b2 (Nat.lt_of_lt_of_le hsz5 hbb.size) (unhide HNE)).trans ((hbb.block b2 hsz5).trans (unhide HX5).1)) ((((unhide HX5).2.1).bel hbb).box (unhide HR3x) (by decide) q2) ((((unhide HX5).2.2.1).bel hbb).box (unhide HR3x) (by decide) q2) ((((unhide HX5).2.2.2.1).bel hbb).box (unhide HR3x) (by decide) q2) ((((unhide HX5).2.2.2.2.1).bel hbb).box (unhide HR3x) (by decide) q2) (Nat.le_trans (unhide HM5) (Nat.le_trans hbb.size q2.size)) (unhide HDV) (by obtain ⟨L', q⟩ := (unhide HO3).1; exact ⟨L', (q.bel (unhide HP3).2).box (unhide HR3x) q2⟩) (by obtain ⟨L', q⟩ := (unhide HP3).1; exact ⟨L', q.box (unhide HR3x) q2⟩) (bel_off ((unhide HX5).2.2.2.2.2.trans hbb) q2 (unhide HB0).2.1)
    have y14 : w2.cell? ⟨b, 14, none⟩ = some (.slice x.aV s.votes.length x.cV) := (Bg.of (unhide HR2)).c14
    have y15 : w2.cell? ⟨b, 15, none⟩ = some (.slice x.aF s.fol.length x.cF) := (Bg.of (unhide HR2)).c15
    have HK2 := hide key2
    clear key2
    go_region_with (first
      | (go_at_call 99; refine ((unhide HV) mid _ (Bel.drew (unhide HX2).2.2.2) (unhide HMW).2).mono ?_; rintro e w23 ⟨a15, c15, rfl, ho2, hb2⟩; have z15 : w23.cell? ⟨b, 15, none⟩ = some (.slice x.aF s.fol.length x.cF) := (Bg.of (hb2.row (unhide HR2))).c15; have HO2 := hide (And.intro ho2 hb2); clear ho2 hb2)
      | (go_at_call 100; refine ((unhide HF) mid _ ((Bel.drew (unhide HX2).2.2.2).trans (unhide HO2).2) (Nat.le_trans (unhide HMW).2 (unhide HO2).2.size)).mono ?_; rintro e w24 ⟨a18, c18, rfl, ho2', hb2'⟩; have hr2 := hb2'.row ((unhide HO2).2.row (unhide HR2)); have f14 := free_row (p := 14) hr2; have f15 := free_row (p := 15) hr2; have u14 : w24.cell? ⟨b, 14, none⟩ = some (.slice x.aV s.votes.length x.cV) := (Bg.of hr2).c14; have u15 : w24.cell? ⟨b, 15, none⟩ = some (.slice x.aF s.fol.length x.cF) := (Bg.of hr2).c15; have HR2x := hide hr2; have HP2 := hide (And.intro ho2' hb2'); clear hr2 hb2' ho2'))
    all_goals
      obtain ⟨q1, q2⟩ := set2_g (x' := { x with aM := a7, cM := c7, aB := a10, cB := c10, aV := a15, cV := c15, aF := a18, cF := c18 }) (i := 14) (j := 15) (v := .slice a15 s.votes.length c15) (u := .slice a18 s.fol.length c18) (unhide HR2x) rfl
      have hbb := (((Bel.refl w2).drew.trans (unhide HO2).2).trans (unhide HP2).2)
      exact (unhide HK2) _ _ _ _ _ q1 ((q2.block b2 (Nat.lt_of_lt_of_le hsz hbb.size) (unhide HNE)).trans ((hbb.block b2 hsz).trans (unhide HX2).1)) ((((unhide HX2).2.1).bel hbb).box (unhide HR2x) (by decide) q2) ((((unhide HX2).2.2.1).bel hbb).box (unhide HR2x) (by decide) q2) (((unhide HO2).1.1.bel (unhide HP2).2).box (unhide HR2x) (by decide) q2) ((unhide HP2).1.box (unhide HR2x) (by decide) q2) (Nat.le_trans (unhide HMW).2 (Nat.le_trans hbb.size q2.size)) (fun k j hk hj => Nat.lt_of_lt_of_le (hj.elim (fun e => ((unhide HX2).2.1.lt e).2) (fun e => ((unhide HX2).2.2.1.lt e).2)) ((unhide HO2).1.2 k hk)) (bel_off ((unhide HX2).2.2.2.trans hbb) q2 (unhide HB0).2.1)
  have y1 : w1.cell? ⟨b, 1, none⟩ = some (.slice x.aM s.M.length x.cM) := (Bg.of (unhide HR0)).c1
  have y8 : w1.cell? ⟨b, 8, none⟩ = some (.slice x.aB s.B.length x.cB) := (Bg.of (unhide HR0)).c8
  have HK1 := hide key1
  clear key1
  go_region_with (first
    | (go_at_call 99; refine ((unhide HM) _ (Bel.drew (unhide HB0).1)).mono ?_; rintro e w13 ⟨a7, c7, rfl, ho1, hb1⟩; have z8 : w13.cell? ⟨b, 8, none⟩ = some (.slice x.aB s.B.length x.cB) := (Bg.of (hb1.row (unhide HR0))).c8; have HO1 := hide (And.intro ho1 hb1); clear ho1 hb1)
    | (go_at_call 99; refine ((unhide HBm) w13.heap.size _ ((Bel.drew (unhide HB0).1).trans (unhide HO1).2) (Nat.le_refl _)).mono ?_; rintro e w14 ⟨a10, c10, rfl, ho1', hb1'⟩; have hr1 := hb1'.row ((unhide HO1).2.row (unhide HR0)); have f1 := free_row (p := 1) hr1; have f8 := free_row (p := 8) hr1; have u1 : w14.cell? ⟨b, 1, none⟩ = some (.slice x.aM s.M.length x.cM) := (Bg.of hr1).c1; have u8 : w14.cell? ⟨b, 8, none⟩ = some (.slice x.aB s.B.length x.cB) := (Bg.of hr1).c8; have HR1x := hide hr1; have HP1 := hide (And.intro ho1' hb1'); clear hr1 hb1' ho1'))
  all_goals
    obtain ⟨q1, q2⟩ := set2_g (x' := { x with aM := a7, cM := c7, aB := a10, cB := c10 }) (i := 1) (j := 8) (v := .slice a7 s.M.length c7) (u := .slice a10 s.B.length c10) (unhide HR1x) rfl
    have hbb := (((Bel.refl w1).drew.trans (unhide HO1).2).trans (unhide HP1).2)
    exact (unhide HK1) w13.heap.size _ _ _ _ _ q1 ((q2.block b2 (Nat.lt_of_lt_of_le (lt_of_some (unhide HRb)) hbb.size) (unhide HNE)).trans ((hbb.block b2 (lt_of_some (unhide HRb))).trans rfl)) (((unhide HO1).1.bel (unhide HP1).2).box (unhide HR1x) (by decide) q2) ((unhide HP1).1.box (unhide HR1x) (by decide) q2) ⟨Nat.le_trans (unhide HB0).1.size (Nat.le_trans (Nat.le_refl _ : w1.heap.size ≤ w1.drew.heap.size) (unhide HO1).2.size), Nat.le_trans (unhide HP1).2.size q2.size⟩ (fun k hk => ((unhide HO1).1.lt hk).2) (bel_off ((unhide HB0).1.trans hbb) q2 (unhide HB0).2.1)
end Go.Proofs.YthekbhliokcpcaaGreat
namespace Go.Proofs.YthekbhliokcpcaaGreat
open Go.RowKit Go.Maps Go.Sort
/-- What a leader knows of one: as it was, or nothing yet. -/
def GP.knows (s : GP) (nx : Int) (id : Int) : Int × Int × Int := (s.fol.find? (fun f => f.1 == id)).getD (id, nx, 0)
/-- What a leader knows of its members but itself. -/
def GP.newFol (s : GP) (nx : Int) : List (Int × Int × Int) := (othG s).map (s.knows nx)
theorem find_first {F : List (Int × Int × Int)} {k : Nat} {f : Int × Int × Int} {id : Int} (hk : F[k]? = some f) (hf : f.1 = id) (hb : ∀ j, j < k → ∀ g, F[j]? = some g → g.1 ≠ id) : F.find? (fun f => f.1 == id) = some f := by
  induction F generalizing k with
  | nil => simp at hk
  | cons g F ih =>
    cases k with
    | zero =>
      simp at hk
      subst hk
      rw [List.find?_cons_of_pos (by simp [hf])]
    | succ k =>
      have h0 := hb 0 (by omega) g rfl
      rw [List.find?_cons_of_neg (by simpa using h0)]
      exact ih (by simpa using hk) (fun j hj y hy => hb (j + 1) (by omega) y (by simpa using hy))
theorem find_none {F : List (Int × Int × Int)} {id : Int} (h : ∀ f ∈ F, f.1 ≠ id) : F.find? (fun f => f.1 == id) = none := by
  rw [List.find?_eq_none]
  intro f hf
  simpa using h f hf
set_option maxRecDepth 100000 in
theorem isw_g {W : World} {bl : Nat} {id : Int} (f : Int × Int × Int) (hl : W.cell? ⟨bl, 0, none⟩ = some (.int .i64 id)) : Calls Tryz.prog 185 #[.agg (encF f).toArray, .pointer (some ⟨bl, 0, none⟩)] W fun e w' => e = .returned (.bool (f.1 == id)) ∧ Bel W w' := by
  have hl2 := ((Bel.refl W).alloc (.cells #[.int .i64 f.1, .int .u64 f.2.1, .int .u64 f.2.2] 79)).cell hl
  unfold encF
  go_enter Tryz.func185, Tryz.ntmps185
  go_wp2_with fail
  go_ret
  exact ⟨rfl, (Bel.refl W).alloc _⟩
set_option maxRecDepth 100000 in
set_option maxHeartbeats 2000000 in
theorem widx_g {W : World} {a : Option Addr} {F : List (Int × Int × Int)} {bl : Nat} {id : Int} (h : Sl E65 W a F) (cap : Nat) (hl : W.cell? ⟨bl, 0, none⟩ = some (.int .i64 id)) (hn : F.length ≤ 1000000) : Calls Tryz.prog 184 #[.slice a F.length cap, .func (.func 185) #[] #[.pointer (some ⟨bl, 0, none⟩)]] W fun e w' => ∃ i, e = .returned (.int .i64 i) ∧ ((i < 0 ∧ ∀ f ∈ F, f.1 ≠ id) ∨ ∃ (k : Nat) (f : Int × Int × Int), i = k ∧ F[k]? = some f ∧ f.1 = id ∧ ∀ j, j < k → ∀ g, F[j]? = some g → g.1 ≠ id) ∧ Bel W w' := by
  obtain ⟨g, off, hg, hR⟩ := h
  have HC : Hid (∀ (w : World) (f : Int × Int × Int) (c : Bool), Bel W w → (f.1 == id) = c → Calls Tryz.prog 185 #[.agg (encF f).toArray, .pointer (some ⟨bl, 0, none⟩)] w fun e w' => e = .returned (.bool c) ∧ Bel w w') := hide (fun w f c hb e => by rw [← e]; exact isw_g f (hb.cell hl))
  clear hl
  generalize hn2 : F.length = n at *
  have HN := hide hn2
  have HG := hide hg
  have HR := hide hR
  clear hn2 hg hR
  go_enter Tryz.func184, Tryz.ntmps184
  go_wp2_with fail
  go_loopw [8] (fun vk wr => ∃ (k : Nat), k ≤ n ∧ vk = .int .i64 k ∧ Hid (Bel W wr) ∧ Hid (∀ j, j < k → ∀ g, F[j]? = some g → g.1 ≠ id)) (fun vk _ => n - (intOf vk).toNat)
  case atStart => exact ⟨0, Nat.zero_le _, rfl, hide (Bel.refl _), hide (fun j h => absurd h (Nat.not_lt_zero _))⟩
  case round =>
    obtain ⟨k, hk, rfl, HB, HE⟩ := hrel
    by_cases hlt : k < n
    · have hkl : k < F.length := by rw [unhide HN]; exact hlt
      obtain rfl := (unhide HG) (by omega)
      have hkn : (k : Int) < n := by omega
      obtain ⟨r0, r1, r2⟩ := E65_cell (unhide HR) k hkl
      have r0 := (unhide HB).cell r0
      have r1 := (unhide HB).cell r1
      have r2 := (unhide HB).cell r2
      have HK : Hid (F[k]? = some F[k]) := hide (List.getElem?_eq_getElem hkl)
      have HC2 := hide ((unhide HC) wr F[k])
      unfold encF at HC2
      generalize F[k] = f at *
      cases hd : (f.1 == id) with
      | true =>
        have HC3 := hide ((unhide HC2) true (unhide HB) hd)
        have HF := hide (eq_of_beq hd)
        clear hd HC2
        go_wp2_with (first
          | (go_at_call 185; refine (unhide HC3).mono ?_; rintro e w3 ⟨rfl, hb3⟩; have HB3 := hide ((unhide HB).trans hb3); clear hb3))
        go_ret
        exact ⟨_, rfl, Or.inr ⟨k, f, rfl, unhide HK, unhide HF, unhide HE⟩, unhide HB3⟩
      | false =>
        have HC3 := hide ((unhide HC2) false (unhide HB) hd)
        have HF := hide (beq_eq_false_iff_ne.1 hd)
        clear hd HC2
        go_wp2_with (first
          | (go_at_call 185; refine (unhide HC3).mono ?_; rintro e w3 ⟨rfl, hb3⟩; have HB3 := hide ((unhide HB).trans hb3); clear hb3))
        go_roundw
        case rel => exact ⟨k + 1, by omega, by go_num, HB3, hide (fun j hj y hy => by
          by_cases e : j = k
          · subst e
            have := unhide HK
            rw [this] at hy
            obtain rfl := Option.some.inj hy
            exact unhide HF
          · exact (unhide HE) j (by omega) y hy)⟩
        case measure => simp [intOf]; omega
    · obtain rfl : k = n := by omega
      go_wp2_with fail
      go_ret
      exact ⟨_, rfl, Or.inl ⟨by decide, fun f hf => by
        obtain ⟨j, hj, e⟩ := List.getElem_of_mem hf
        exact (unhide HE) j (by have := unhide HN; omega) f (by rw [List.getElem?_eq_getElem hj, e])⟩, unhide HB⟩
/-- How follow stands: the member's box, the row so far. -/
structure FwS (W wr : World) (b : Nat) (s : GP) (x : Px) (v : Value) (L : List (Int × Int × Int)) : Prop where
  row : wr.heap[b]? = some (.cells (gc s x) 31)
  bel : Bel W wr
  o : E65.O W.heap.size wr v L
section
variable {W wr w' : World} {b : Nat} {s : GP} {x : Px} {v v' : Value} {L L' : List (Int × Int × Int)}
theorem FwS.next (h : FwS W wr b s x v L) (hb : Bel wr w') : FwS W w' b s x v L := ⟨hb.row h.row, h.bel.trans hb, h.o.bel hb⟩
theorem FwS.app (h : FwS W wr b s x v L) (ho : E65.O W.heap.size w' v' L') (hg : wr.grownBy w' v.ownBlock) : FwS W w' b s x v' L' :=
  ⟨row_grown h.row h.o hg (by decide), (((h.bel.ch (fun i => W.heap.size ≤ i)).grown hg (fun k hk => Or.inl (h.o.lt hk).1)).below (Nat.le_refl _) (fun _ hi => hi)), ho⟩
end
def FwR (W : World) (b : Nat) (s : GP) (x : Px) (nx : Int) (no : Nat) (vi vu : Value) (wr : World) : Prop := ∃ (k : Nat) (g : Option Addr) (cap : Nat) (L : List (Int × Int × Int)), k ≤ no ∧ vi = .int .i64 k ∧ vu = .slice g L.length cap ∧ Hid (L = ((s.M.take k).filter fun y => !(y == s.id)).map (s.knows nx)) ∧ Hid (FwS W wr b s x (.slice g L.length cap) L)
theorem filt_len {l : List Int} {k : Nat} {p : Int → Bool} {f : Int → Int × Int × Int} (h : l.length ≤ 100) : (((l.take k).filter p).map f).length ≤ 100 := by
  rw [List.length_map]
  refine Nat.le_trans (List.length_filter_le _ _) ?_
  rw [List.length_take]; omega
set_option maxRecDepth 100000 in
set_option maxHeartbeats 4000000 in
theorem follow_g {W : World} {s : GP} {x : Px} (hm : Sl E3 W x.aM s.M) (hf : Sl E65 W x.aF s.fol) (nx : Int) (hn : s.M.length ≤ 100) (hfl : s.fol.length ≤ 1000000) : Calls Tryz.prog 141 #[.agg (gc s x), .int .u64 nx] W fun e w' => ∃ a' c', e = .returned (.slice a' (s.newFol nx).length c') ∧ E65.O W.heap.size w' (.slice a' (s.newFol nx).length c') (s.newFol nx) ∧ Bel W w' := by
  have HM := hide hm
  have HF := hide hf
  have HN : Hid (s.M.length ≤ 100) := hide hn
  have HX : Hid (∀ (w1 : World) (bl : Nat) (id : Int), Bel W w1 → w1.cell? ⟨bl, 0, none⟩ = some (.int .i64 id) → Calls Tryz.prog 184 #[.slice x.aF s.fol.length x.cF, .func (.func 185) #[] #[.pointer (some ⟨bl, 0, none⟩)]] w1 fun e w' => ∃ i, e = .returned (.int .i64 i) ∧ ((i < 0 ∧ s.fol.find? (fun f => f.1 == id) = none) ∨ ∃ (k : Nat) (f : Int × Int × Int), i = k ∧ s.fol[k]? = some f ∧ s.fol.find? (fun f => f.1 == id) = some f) ∧ Bel w1 w') := hide (fun w1 bl id hb hc => (widx_g (hf.bel hb) x.cF hc hfl).mono (fun e w' ⟨i, he, hi, hb'⟩ => ⟨i, he, by
    rcases hi with ⟨h1, h2⟩ | ⟨k, f, h1, h2, h3, h4⟩
    · exact Or.inl ⟨h1, find_none h2⟩
    · exact Or.inr ⟨k, f, h1, h2, find_first h2 h3 h4⟩, hb'⟩))
  generalize hno : s.M.length = no at *
  have HNO := hide hno
  have hno100 : no ≤ 100 := unhide HN
  clear hno hm hf hn
  generalize hfn : s.fol.length = fn at *
  have HFN := hide hfn
  clear hfn hfl
  go_enter Tryz.func141, Tryz.ntmps141
  go_wp2_with (first
    | go_skip
    | (refine bx_boxK 31 (.tmp 0) (by exact rfl) (by exact rfl) (gc s x) (by exact rfl) ?_; intro b w0 hr0 hs0 hb0; have y1 := (Bg.of hr0).c1; rw [unhide HNO] at y1; have HS : Hid (FwS W w0 b s x (.slice none 0 0) []) := hide ⟨hr0, hb0, El.O.nil _ _⟩; clear hr0 hs0 hb0)
    | go_guarded)
  clear y1
  go_loopw [12, 5] (FwR W b s x nx no) (fun vi _ _ => no - (intOf vi).toNat)
  case atStart => exact ⟨0, none, 0, [], Nat.zero_le _, rfl, rfl, hide rfl, HS⟩
  case round =>
    obtain ⟨k, g, cap, L, hk, rfl, rfl, HLk, HSr⟩ := hrel
    by_cases hlt : k < no
    · have hkn : (k : Int) < no := by omega
      have hkl : k < s.M.length := by rw [unhide HNO]; exact hlt
      obtain ⟨gm, off, hgm, hR⟩ := (unhide HM).bel (unhide HSr).bel
      have ea := hgm (by omega)
      have r0 := hR k hkl 0 _ rfl
      rw [show E3.k = 1 from rfl, Nat.mul_one, Nat.add_zero] at r0
      rw [ea]
      have HID : Hid (s.M[k]? = some s.M[k]) := hide (List.getElem?_eq_getElem hkl)
      generalize s.M[k] = id at *
      have HLT : Hid (L.length ≤ 100) := hide (by rw [unhide HLk]; exact filt_len (by rw [unhide HNO]; exact unhide HN))
      have HTK : Hid ((s.M.take (k + 1)).filter (fun y => !(y == s.id)) = (s.M.take k).filter (fun y => !(y == s.id)) ++ (if id = s.id then [] else [id])) := hide (by
        rw [List.take_add_one, unhide HID, Option.toList_some, List.filter_append]
        congr 1
        by_cases e : id = s.id
        · rw [if_pos e, List.filter_cons_of_neg (by simp [e]), List.filter_nil]
        · rw [if_neg e, List.filter_cons_of_pos (by simpa using e), List.filter_nil])
      clear hgm hR ea hkl
      have y15 := ((Bel.refl wr).alloc (.cells #[.int .i64 id] 3)).cell (Bg.of (unhide HSr).row).c15
      rw [unhide HFN] at y15
      by_cases hid : id = s.id
      · have HKT : Hid (((s.M.take (k + 1)).filter (fun y => !(y == s.id))).map (s.knows nx) = L) := hide (by rw [unhide HTK, if_pos hid, List.append_nil, unhide HLk])
        have hb1 : (id == s.id) = true := by simp [hid]
        clear hid
        go_wp2_with (first
          | go_skip
          | go_guarded
          | (go_at_call 184; refine ((unhide HX) _ _ id ((unhide HSr).next ((Bel.refl wr).alloc _)).bel (cell_of (at_new wr _))).mono ?_; rintro e w3 ⟨i, rfl, hi, hb3⟩; have HS3 := hide (((unhide HSr).next ((Bel.refl wr).alloc _)).next hb3); have z7 : w3.cell? ⟨wr.heap.size, 0, none⟩ = some (.int .i64 id) := hb3.cell (cell_of (at_new wr _)); have z0 := (Bg.of (unhide HS3).row).c0; have z15 := (Bg.of (unhide HS3).row).c15; rw [unhide HFN] at z15; have HI := hide hi; clear hi hb3))
        go_roundw
        case rel =>
          have hfin : ∀ v u : Value, v = .int .i64 ((k + 1 : Nat) : Int) → u = .slice g L.length cap → FwR W b s x nx no v u w3 := fun v u hv hu => ⟨k + 1, g, cap, L, by omega, hv, hu, hide (unhide HKT).symm, HS3⟩
          first
            | exact hfin _ _ (by go_num) rfl
            | ((repeat apply Exists.intro); exact ⟨hfin _ _ (by go_num) rfl, rfl, rfl⟩)
        case measure => simp [intOf]; omega
      · have HKT : Hid (((s.M.take (k + 1)).filter (fun y => !(y == s.id))).map (s.knows nx) = L ++ [s.knows nx id]) := hide (by rw [unhide HTK, if_neg hid, List.map_append, ← unhide HLk]; rfl)
        have hb1 : (id == s.id) = false := by simp [hid]
        clear hid
        go_wp2_with (first
          | go_skip
          | go_guarded)
        refine ((unhide HX) _ _ id ((unhide HSr).next ((Bel.refl wr).alloc _)).bel (cell_of (at_new wr _))).mono ?_
        rintro e w3 ⟨i, rfl, hi, hb3⟩
        have HS3 := hide (((unhide HSr).next ((Bel.refl wr).alloc _)).next hb3)
        have z7 : w3.cell? ⟨wr.heap.size, 0, none⟩ = some (.int .i64 id) := hb3.cell (cell_of (at_new wr _))
        have z0 := (Bg.of (unhide HS3).row).c0
        have z15 := (Bg.of (unhide HS3).row).c15
        rw [unhide HFN] at z15
        have HI := hide hi
        clear hi hb3
        rcases unhide HI with ⟨hneg, hfd⟩ | ⟨kf, f, rfl, hfk, hfd⟩
        · have hki : s.knows nx id = (id, nx, 0) := by unfold GP.knows; rw [hfd]; rfl
          rw [hki] at HKT
          obtain ⟨L', hL'⟩ : ∃ L', L' = L ++ [(id, nx, 0)] := ⟨_, rfl⟩
          rw [← hL'] at HKT
          have HL' := hide hL'
          clear hL' hki hfd HI
          go_wp2_with (first
            | go_skip
            | go_guarded
            | (at_builtin; refine app1_el (E := E65) (id, nx, 0) L' (unhide HL') ((unhide HS3).next ((Bel.refl _).alloc _)).o ((unhide HS3).next ((Bel.refl _).alloc _)).bel.size _ _ (at_new _ _) (by have := unhide HLT; omega) rfl _ _ 28 rfl rfl rfl rfl ?_; intro g4 cap4 w4 ho4 hg4 hat4; have HS4 := hide (((unhide HS3).next ((Bel.refl _).alloc _)).app ho4 hg4); clear ho4 hg4 hat4))
          go_roundw
          case rel =>
            have hfin : ∀ v u : Value, v = .int .i64 ((k + 1 : Nat) : Int) → u = .slice (some ⟨g4, 0, none⟩) L'.length cap4 → FwR W b s x nx no v u w4 := fun v u hv hu => ⟨k + 1, some ⟨g4, 0, none⟩, cap4, L', by omega, hv, hu, hide (unhide HKT).symm, HS4⟩
            first
              | exact hfin _ _ (by go_num) rfl
              | ((repeat apply Exists.intro); exact ⟨hfin _ _ (by go_num) rfl, rfl, rfl⟩)
          case measure => simp [intOf]; omega
        · have hki : s.knows nx id = f := by unfold GP.knows; rw [hfd]; rfl
          rw [hki] at HKT
          obtain ⟨L', hL'⟩ : ∃ L', L' = L ++ [f] := ⟨_, rfl⟩
          rw [← hL'] at HKT
          have HL' := hide hL'
          have hkf : kf < s.fol.length := (List.getElem?_eq_some_iff.1 hfk).1
          have hkff : (kf : Int) < (fn : Int) := by have := unhide HFN; omega
          have hk0 : ¬ ((kf : Int) < 0) := by omega
          obtain ⟨gf, off2, hgf, hR2⟩ := (unhide HF).bel (unhide HS3).bel
          have ea2 := hgf (by omega)
          obtain ⟨q0, q1, q2⟩ := E65_cell hR2 kf hkf
          rw [(List.getElem?_eq_some_iff.1 hfk).2] at q0 q1 q2
          rw [ea2] at z15 ⊢
          clear hL' hki hfd HI hgf hR2 ea2 hkf hfk
          go_wp2_with (first
            | go_skip
            | go_guarded
            | (at_builtin; refine app1_el (E := E65) f L' (unhide HL') ((unhide HS3).next ((Bel.refl _).alloc _)).o ((unhide HS3).next ((Bel.refl _).alloc _)).bel.size _ _ (at_new _ _) (by have := unhide HLT; omega) rfl _ _ 28 rfl rfl rfl rfl ?_; intro g4 cap4 w4 ho4 hg4 hat4; have HS4 := hide (((unhide HS3).next ((Bel.refl _).alloc _)).app ho4 hg4); clear ho4 hg4 hat4))
          go_roundw
          case rel =>
            have hfin : ∀ v u : Value, v = .int .i64 ((k + 1 : Nat) : Int) → u = .slice (some ⟨g4, 0, none⟩) L'.length cap4 → FwR W b s x nx no v u w4 := fun v u hv hu => ⟨k + 1, some ⟨g4, 0, none⟩, cap4, L', by omega, hv, hu, hide (unhide HKT).symm, HS4⟩
            first
              | exact hfin _ _ (by go_num) rfl
              | ((repeat apply Exists.intro); exact ⟨hfin _ _ (by go_num) rfl, rfl, rfl⟩)
          case measure => simp [intOf]; omega
    · obtain rfl : k = no := by omega
      have hLL : L = s.newFol nx := by rw [unhide HLk, List.take_of_length_le (by rw [unhide HNO]; omega)]; rfl
      have HLL := hide hLL
      clear hLL
      go_wp2_with (first
        | go_skip
        | go_guarded)
      go_ret
      have hLL := unhide HLL
      rw [← hLL]
      first | exact ⟨_, _, rfl, (unhide HSr).o, (unhide HSr).bel⟩ | exact ⟨_, ⟨_, rfl⟩, (unhide HSr).o, (unhide HSr).bel⟩
end Go.Proofs.YthekbhliokcpcaaGreat
namespace Go.Proofs.YthekbhliokcpcaaGreat
open Go.RowKit Go.Maps Go.Sort
def GP.withM (s : GP) (L : List Int) : GP := { s with M := L }
def seatOf (s : GP) (L : List Int) : GE := ⟨s.term, 2, ⟨#[]⟩, L⟩
def GP.laidM (s : GP) (L : List Int) : GP := { s with M := L, log := s.log ++ [seatOf s L] }
/-- A leader whose members are others now, ahead of advancing. -/
def GP.chgd (s : GP) (L : List Int) : GP := { s.laidM L with fol := (s.laidM L).newFol (s.laidM L).lastI }
/-- A member in its box, the members' row apart. -/
structure TmG (W w : World) (b b2 : Nat) (s : GP) (x : Px) : Prop where
  row : w.heap[b]? = some (.cells (gc s x) 31)
  pm : Pm W.heap.size w s x
  bel : Bel W w
  row2 : ∃ s2 x2, w.heap[b2]? = some (.cells (gc s2 x2) 31)
  ge : W.heap.size ≤ b
  ge2 : W.heap.size ≤ b2
  ne : b2 ≠ b
theorem TyG.putm {W w w' : World} {b b2 : Nat} {s s' : GP} {x x' : Px} (h : TyG W w b b2 s x) (hp : Pm W.heap.size w s' x') (h1 : w'.heap[b]? = some (.cells (gc s' x') 31)) (hc : Ch (fun i => i = b) w w') : TmG W w' b b2 s' x' := by
  obtain ⟨s2, x2, h2⟩ := h.row2
  exact ⟨h1, hp.box h.row hc, bel_off h.bel hc h.ge, ⟨s2, x2, hc.row h2 h.ne⟩, h.ge, h.ge2, h.ne⟩
theorem Pm.mono {base base' : Nat} {W : World} {s : GP} {x : Px} (h : Pm base W s x) (hb : base' ≤ base) : Pm base' W s x := ⟨h.m.mono hb, by obtain ⟨mid, h1, h2, h3⟩ := h.sep; exact ⟨mid, Nat.le_trans hb h1, h2, h3⟩, h.dv⟩
/-- A member in its box, its lists its own. -/
structure Tw (W w : World) (b b2 : Nat) (s : GP) (x : Px) : Prop where
  row : w.heap[b]? = some (.cells (gc s x) 31)
  m : E3.O W.heap.size w (.slice x.aM s.M.length x.cM) s.M
  n : Pn W.heap.size w s x
  bel : Bel W w
  row2 : ∃ s2 x2, w.heap[b2]? = some (.cells (gc s2 x2) 31)
  ge : W.heap.size ≤ b
  ge2 : W.heap.size ≤ b2
  ne : b2 ≠ b
section
variable {W w w' : World} {b b2 : Nat} {s : GP} {x : Px}
/-- The members' row was written. -/
theorem TmG.wrote (h : TmG W w b b2 s x) {g c : Nat} {L : List Int} (ho : E3.O W.heap.size w' (.slice (some ⟨g, 0, none⟩) L.length c) L) (hg : w.grownBy w' (Value.slice x.aM s.M.length x.cM).ownBlock) : w'.heap[b]? = some (.cells (gc s x) 31) ∧ Pn W.heap.size w' s x ∧ E3.O W.heap.size w' (.slice (some ⟨g, 0, none⟩) L.length c) L ∧ Bel W w' ∧ (∃ s2 x2, w'.heap[b2]? = some (.cells (gc s2 x2) 31)) ∧ W.heap.size ≤ b ∧ W.heap.size ≤ b2 ∧ b2 ≠ b := by
  obtain ⟨mid, h1, h2, h3⟩ := h.pm.sep
  obtain ⟨s2, x2, hr2⟩ := h.row2
  exact ⟨row_grown h.row h.pm.m hg (by decide), (h3.grown hg h2).mono h1, ho, ((h.bel.ch (fun i => W.heap.size ≤ i)).grown hg (fun k hk => Or.inl (h.pm.m.lt hk).1)).below (Nat.le_refl _) (fun _ hi => hi), ⟨s2, x2, row_grown hr2 h.pm.m hg (by decide)⟩, h.ge, h.ge2, h.ne⟩
theorem Tw.next (h : Tw W w b b2 s x) (hb : Bel w w') : Tw W w' b b2 s x := by
  obtain ⟨s2, x2, h2⟩ := h.row2
  exact ⟨hb.row h.row, h.m.bel hb, h.n.bel hb, h.bel.trans hb, ⟨s2, x2, hb.row h2⟩, h.ge, h.ge2, h.ne⟩
theorem Tw.gp (h : Tw W w b b2 s x) : Gp W s x → Gp w s x := fun k => k.bel h.bel
theorem Tw.cap (h : Tw W w b b2 s x) : s.log.length ≤ x.cL := by
  obtain ⟨L, hl⟩ := h.n.l
  have h1 := (Sl.of hl.row).2.2
  have h2 : L.length = s.log.length := by rw [← hl.map, List.length_map]
  omega
theorem Tw.gpw (h : Tw W w b b2 s x) : Gp w s x := ⟨(Sl.of h.m).1, (Sl.of h.n.b).1, by obtain ⟨L, hl⟩ := h.n.l; exact hl.slg, (Sl.of h.n.v).1, (Sl.of h.n.f).1, by obtain ⟨L, h1, h2, h3⟩ := h.n.r; exact ⟨L, h1, (Sl.of h2).1, fun y hy => (Sl.of (h3 y hy)).1⟩⟩
end
/-- The log has one entry more, and is written down. -/
theorem Tw.laid {W w w' w2 : World} {b b2 : Nat} {s : GP} {x : Px} {L : List Int} {LG : List (GE × GA)} {a : Option Addr} {c g cap : Nat} (h : Tw W w b b2 (s.withM L) x) (hl : Ll W.heap.size w x.aL x.cL s.log LG) (hy : E3.O W.heap.size w (.slice a L.length c) L) (hO : EG.O W.heap.size w' (.slice (some ⟨g, 0, none⟩) (LG.length + 1) cap) (LG ++ [(seatOf s L, ⟨a, c⟩)])) (hG : w.grownBy w' (Value.slice x.aL s.log.length x.cL).ownBlock) (hr : w2.heap[b]? = some (.cells (gc (s.laidM L) { x with aL := some ⟨g, 0, none⟩, cL := cap }) 31)) (hc : Ch (fun k => k = b) w' w2) : Tw W w2 b b2 (s.laidM L) { x with aL := some ⟨g, 0, none⟩, cL := cap } := by
  have hrow := row_grown h.row hl.row hG (by decide)
  obtain ⟨s2, x2, hr2⟩ := h.row2
  have hbel : Bel W w' := ((h.bel.ch (fun i => W.heap.size ≤ i)).grown hG (fun k hk => Or.inl (hl.row.lt hk).1)).below (Nat.le_refl _) (fun _ hi => hi)
  have hLG : LG.length = s.log.length := by rw [← hl.map, List.length_map]
  refine ⟨hr, (h.m.grown hl.row hG (by decide)).box hrow (by decide) hc, ⟨(h.n.b.grown hl.row hG (by decide)).box hrow (by decide) hc, ⟨LG ++ [(seatOf s L, ⟨a, c⟩)], ?_, ?_, ?_⟩, (h.n.v.grown hl.row hG (by decide)).box hrow (by decide) hc, (h.n.f.grown hl.row hG (by decide)).box hrow (by decide) hc, ?_⟩, bel_off hbel hc h.ge, ⟨s2, x2, hc.row (row_grown hr2 hl.row hG (by decide)) h.ne⟩, h.ge, h.ge2, h.ne⟩
  · rw [List.map_append, hl.map]; rfl
  · have := hO.box hrow (by decide) hc
    rw [hLG] at this
    show EG.O _ _ (.slice _ (s.log ++ [seatOf s L]).length _) _
    rw [List.length_append]
    exact this
  · intro y hy'
    rcases List.mem_append.1 hy' with h9 | h9
    · exact ((hl.own y h9).grown hl.row hG (by decide)).box hrow (by decide) hc
    · rw [List.mem_singleton.1 h9]
      exact (hy.grown hl.row hG (by decide)).box hrow (by decide) hc
  · obtain ⟨LR, q1, q2, q3⟩ := h.n.r
    exact ⟨LR, q1, (q2.grown hl.row hG (by decide)).box hrow (by decide) hc, fun y hy' => ((q3 y hy').grown hl.row hG (by decide)).box hrow (by decide) hc⟩
theorem gc_laid (s : GP) (x : Px) (L : List Int) (g cap : Nat) : (gc (s.withM L) x).setIfInBounds 10 (.slice (some ⟨g, 0, none⟩) (s.log.length + 1) cap) = gc (s.laidM L) { x with aL := some ⟨g, 0, none⟩, cL := cap } := by
  unfold gc GP.withM GP.laidM
  simp
theorem any_vc {ops : Array Oper} {Q : Exit → Act → World → Prop} {md : Region.Mode} {S : World → Prop} {i j : Nat} {o o' : Oper} {fuel : Nat} {listed : Array Bool} {a : Act} {w : World} {v : Value} {f : FuncId} {args : Array Value} {R : Ending → World → Prop} (hr : Region.ready md ops listed = [i, j]) (hi : ops[i]? = some o) (hj : ops[j]? = some o') (hwi : Region.wanted o (yielded ops a.tmps) = true) (hwj : Region.wanted o' (yielded ops a.tmps) = true) (hi2 : (execOp a.eval o).run Tryz.prog w = .ok (.value v) w) (hj2 : (execOp a.eval o').run Tryz.prog w = .ok (.enter f args) w) (hc : Calls Tryz.prog f args w R)
    (hKi : S w ∧ wpAnyH Tryz.prog md ops Q S fuel (listed.setIfInBounds i true) (a.put o.dst v) w) (hKj : ∀ e w', R e w' → ∃ u, e = .returned u ∧ S w' ∧ wpAnyH Tryz.prog md ops Q S fuel (listed.setIfInBounds j true) (a.put o'.dst u) w') : wpAnyH Tryz.prog md ops Q S (fuel + 1) listed a w := by
  refine wpAnyH_all hr (by simp) (fun k hk => ?_)
  rcases List.mem_cons.1 hk with rfl | hk
  · unfold wpOp
    simp only [hi, hwi, if_true, Oper.wp, hi2, Oper.upon_value]
    exact .inl hKi
  · rw [List.mem_singleton.1 hk]
    unfold wpOp
    simp only [hj, hwj, if_true, Oper.wp, hj2, Oper.upon_enter]
    refine .inl (hc.mono ?_)
    intro e w' he
    obtain ⟨u, rfl, h1, h2⟩ := hKj e w' he
    exact ⟨h1, h2⟩
theorem any_vv {ops : Array Oper} {Q : Exit → Act → World → Prop} {md : Region.Mode} {S : World → Prop} {i j : Nat} {o o' : Oper} {fuel : Nat} {listed : Array Bool} {a : Act} {w : World} {vi vj : Value} {wi wj : World} (hr : Region.ready md ops listed = [i, j]) (hi : ops[i]? = some o) (hj : ops[j]? = some o') (hwi : Region.wanted o (yielded ops a.tmps) = true) (hwj : Region.wanted o' (yielded ops a.tmps) = true) (hi2 : (execOp a.eval o).run Tryz.prog w = .ok (.value vi) wi) (hj2 : (execOp a.eval o').run Tryz.prog w = .ok (.value vj) wj)
    (hKi : S wi ∧ wpAnyH Tryz.prog md ops Q S fuel (listed.setIfInBounds i true) (a.put o.dst vi) wi) (hKj : S wj ∧ wpAnyH Tryz.prog md ops Q S fuel (listed.setIfInBounds j true) (a.put o'.dst vj) wj) : wpAnyH Tryz.prog md ops Q S (fuel + 1) listed a w := by
  refine wpAnyH_all hr (by simp) (fun k hk => ?_)
  rcases List.mem_cons.1 hk with rfl | hk
  · unfold wpOp
    simp only [hi, hwi, if_true, Oper.wp, hi2, Oper.upon_value]
    exact .inl hKi
  · rw [List.mem_singleton.1 hk]
    unfold wpOp
    simp only [hj, hwj, if_true, Oper.wp, hj2, Oper.upon_value]
    exact .inl hKj
theorem Tw.putg {W w w' : World} {b b2 : Nat} {s s' : GP} {x x' : Px} (h : Tw W w b b2 s x) (hp : Pg W.heap.size w s' x') (h1 : w'.heap[b]? = some (.cells (gc s' x') 31)) (hc : Ch (fun i => i = b) w w') : TzG W w' b b2 s' x' := by
  obtain ⟨s2, x2, h2⟩ := h.row2
  exact ⟨h1, hp.box h.row hc, bel_off h.bel hc h.ge, ⟨s2, x2, hc.row h2 h.ne⟩, h.ge, h.ge2, h.ne⟩
theorem Tw.fols {W w w' : World} {b b2 : Nat} {s : GP} {x : Px} {L : List Int} {a : Option Addr} {c : Nat} (h : Tw W w b b2 (s.laidM L) x) (ho : E65.O W.heap.size w (.slice a ((s.laidM L).newFol (s.laidM L).lastI).length c) ((s.laidM L).newFol (s.laidM L).lastI)) (h1 : w'.heap[b]? = some (.cells (gc (s.chgd L) { x with aF := a, cF := c }) 31)) (hc : Ch (fun i => i = b) w w') : Tw W w' b b2 (s.chgd L) { x with aF := a, cF := c } := by
  obtain ⟨s2, x2, h2⟩ := h.row2
  have hn := h.n.box h.row hc
  exact ⟨h1, h.m.box h.row (by decide) hc, ⟨hn.b, hn.l, hn.v, ho.box h.row (by decide) hc, hn.r⟩, bel_off h.bel hc h.ge, ⟨s2, x2, hc.row h2 h.ne⟩, h.ge, h.ge2, h.ne⟩
theorem app_run {a : Act} {o : Oper} {w w' : World} {t : TypeId} {x y : Operand} {v u v' : Value} (ho : o.op = .call { callee := .builtin .append, args := #[x, y], argTypes := #[t, t] }) (hx : a.eval x = v) (hy : a.eval y = u) (hrun : (Builtin.append_ #[t, t] o.type #[v, u]).run Tryz.prog w = .ok v' w') : (execOp a.eval o).run Tryz.prog w = .ok (.value v') w' := by
  unfold execOp
  simp only [ho, resolve, invoke, builtin, Sem.run_bind, Sem.run_pure, Result.andThen_ok, List.map_toArray, List.map_cons, List.map_nil, hx, hy, hrun]
theorem Pn.mem {mid : Nat} {W : World} {s : GP} {x : Px} (h : Pn mid W s x) (L : List Int) (a : Option Addr) (c : Nat) : Pn mid W (s.withM L) { x with aM := a, cM := c } := ⟨h.b, h.l, h.v, h.f, h.r⟩
set_option maxRecDepth 100000 in
set_option maxHeartbeats 8000000 in
theorem chgAdd_yes {W : World} {s : GP} {x : Px} {bi : Nat} {id : Int} {L : List Int} (h : Gp W s x) (hz : Gz s x) (hll : s.log.length ≤ 99999) (hi : W.cell? ⟨bi, 0, none⟩ = some (.int .i64 id)) (hye : s.chgE (addB id s.M) = 0) (hL : insAt s.M (place id s.M) id = L) (hm3 : mayG (s.chgd L) = true) (hris : Ris s.M) : Calls Tryz.prog 85 #[.agg (gc s x), .func (.func 81) #[] #[.pointer (some ⟨bi, 0, none⟩)], .func (.func 83) #[] #[.pointer (some ⟨bi, 0, none⟩)]] W fun e w' => ∃ x', e = .returned (.tuple #[.agg (gc (s.chgd L).adv x'), .int .u64 (s.laidM L).lastI, .int .i64 0]) ∧ Pg W.heap.size w' (s.chgd L).adv x' ∧ Bel W w' := by
  unfold GP.chgE at hye
  have hm : mayG s = true := by
    cases hq : mayG s with
    | true => rfl
    | false => rw [hq, if_pos rfl] at hye; omega
  rw [hm, if_neg (by decide)] at hye
  have hr : s.role = 2 := by
    by_cases hq : s.role = 2
    · exact hq
    · rw [if_pos hq] at hye; omega
  rw [if_neg (by simp [hr])] at hye
  have hma : addB id s.M = true := by
    cases hq : addB id s.M with
    | true => rfl
    | false => rw [hq, if_pos rfl] at hye; omega
  rw [hma, if_neg (by decide)] at hye
  have hbs : s.busy = false ∧ s.sure = true := by
    cases h1 : s.busy <;> cases h2 : s.sure <;> rw [h1, h2] at hye <;> simp at hye ⊢
  have hlf := lf_of hm hr
  have hm64 := hlf.m64
  have H1 : Hid (∀ W', Bel W W' → Calls Tryz.prog 42 #[.agg (gc s x)] W' fun e w' => e = .returned (.int .i64 0) ∧ Bel W' w') := hide (fun W' hb => by have := may_g (h.bel hb) hz; rwa [hm, if_pos rfl] at this)
  have HM : Hid (∀ w1, Bel W w1 → Calls Tryz.prog 81 #[.slice x.aM s.M.length x.cM, .pointer (some ⟨bi, 0, none⟩)] w1 fun e w' => e = .returned (.bool true) ∧ w' = w1) := hide (fun w1 hb => by have := mayAdd_g (c := x.cM) (hb.cell hi) (h.m.bel hb) (by omega); rwa [hma] at this)
  have HBu : Hid (∀ w1, Bel W w1 → Calls Tryz.prog 36 #[.agg (gc s x)] w1 fun e w' => e = .returned (.bool false) ∧ Bel w1 w') := hide (fun w1 hb => by
    obtain ⟨k, hk1, hk2⟩ := may_com hm
    have := busy_g (h.l.bel hb) k hk2 hk1 (by omega) hz.cap
    rwa [hbs.1] at this)
  have HSu : Hid (∀ w1, Bel W w1 → Calls Tryz.prog 94 #[.agg (gc s x)] w1 fun e w' => e = .returned (.bool true) ∧ Bel w1 w') := hide (fun w1 hb => by have := sure_g (h.l.bel hb) hz.base.1 hz.commit (by omega); rwa [hbs.2] at this)
  have HCl : Hid (∀ W', Bel W W' → Calls Tryz.prog 41 #[.agg (gc s x)] W' fun e w' => ∃ x', e = .returned (.agg (gc s x')) ∧ Pm W'.heap.size w' s x' ∧ Bel W' w') := hide (fun W' hb => clone_m (h.bel hb) hz.m hz.b (by omega) hz.lm hz.v (by have := hz.f; omega) (by have := hz.r; omega) hz.ra)
  have hLn : L.length = s.M.length + 1 := by rw [← hL]; exact insAt_len
  have HTo : Hid (∀ w1 a c, Bel W w1 → E3.O W.heap.size w1 (.slice a s.M.length c) s.M → Calls Tryz.prog 83 #[.slice a s.M.length c, .pointer (some ⟨bi, 0, none⟩)] w1 fun e w' => ∃ g c', e = .returned (.slice (some ⟨g, 0, none⟩) L.length c') ∧ E3.O W.heap.size w' (.slice (some ⟨g, 0, none⟩) L.length c') L ∧ w1.grownBy w' (Value.slice a s.M.length c).ownBlock) := hide (fun w1 a c hb ho => by
    have := toAdd_g (hb.cell hi) ho hb.size hris (by omega)
    rw [hL] at this
    rw [hLn]
    exact this)
  have hM3 : (s.chgd L).M = L := rfl
  have hl3 := lf_of hm3 (show (s.chgd L).role = 2 from hr)
  have hL64 : L.length ≤ 64 := hl3.m64
  have HK : Hid (∀ w1 a c, Sl E3 w1 a L → Calls Tryz.prog 99 #[.slice a L.length c] w1 fun e w' => ∃ a' c', e = .returned (.slice a' L.length c') ∧ E3.O w1.heap.size w' (.slice a' L.length c') L ∧ Bel w1 w') := hide (fun w1 a c hs => clone3w rfl hs (by omega))
  have e1 : (s.role != 2) = false := by simp [hr]
  have e2 : (s.role == 2) = true := by simp [hr]
  have HZ3 : Hid (∀ x', (s.laidM L).log.length ≤ x'.cL → Gz (s.chgd L) x') := hide (fun x' hc => by
    refine ⟨hz.term, hz.base, hz.baseT, hz.commit, hz.round, by show L.length ≤ _; omega, hz.b, hz.v, ?_, ?_, ?_, ?_, ?_, hz.r, hz.ra, hc⟩
    · show (s.log ++ [seatOf s L]).length ≤ _
      rw [List.length_append]; show _ + 1 ≤ _; omega
    · intro e he
      rcases List.mem_append.1 (show e ∈ s.log ++ [seatOf s L] from he) with h9 | h9
      · exact hz.lm e h9
      · rw [List.mem_singleton.1 h9]; show L.length ≤ _; omega
    · intro e he
      rcases List.mem_append.1 (show e ∈ s.log ++ [seatOf s L] from he) with h9 | h9
      · exact hz.lt e h9
      · rw [List.mem_singleton.1 h9]; exact hz.term
    · have := hl3.f64; omega
    · intro f hf
      have h9 : f ∈ (othG (s.laidM L)).map ((s.laidM L).knows (s.laidM L).lastI) := hf
      obtain ⟨y, hy, rfl⟩ := List.mem_map.1 h9
      unfold GP.knows
      cases hq : (s.laidM L).fol.find? (fun f => f.1 == y) with
      | some f => exact hz.ft f (List.mem_of_find?_eq_some hq)
      | none =>
        have hlI : (s.laidM L).lastI = s.base + (s.log.length + 1 : Nat) := by show s.base + ((s.log ++ [seatOf s L]).length : Int) = _; rw [List.length_append]; rfl
        have hb := hz.base.1
        have hb2 := hlf.b62
        refine ⟨?_, ?_, ?_⟩
        · show 0 ≤ (s.laidM L).lastI ∧ (s.laidM L).lastI ≤ _; rw [hlI]; omega
        · show (0 : Int) ≤ 0; omega
        · show (0 : Int) ≤ _; omega)
  have HLA : Hid (∀ w1 x', Gp w1 (s.laidM L) x' → Calls Tryz.prog 79 #[.agg (gc (s.laidM L) x')] w1 fun e w' => ∃ t, e = .returned (.tuple #[.int .u64 (s.laidM L).lastI, .int .u64 t]) ∧ Bel w1 w') := hide (fun w1 x' hp => (last_g hp.l hz.base.1 hlf.b62 (by show (s.log ++ [seatOf s L]).length ≤ _; rw [List.length_append]; show _ + 1 ≤ _; omega)).mono (fun _ _ ⟨he, hb'⟩ => ⟨_, he, hb'⟩))
  have HFo : Hid (∀ w1 x', Gp w1 (s.laidM L) x' → Calls Tryz.prog 141 #[.agg (gc (s.laidM L) x'), .int .u64 (s.laidM L).lastI] w1 fun e w' => ∃ a' c', e = .returned (.slice a' ((s.laidM L).newFol (s.laidM L).lastI).length c') ∧ E65.O w1.heap.size w' (.slice a' ((s.laidM L).newFol (s.laidM L).lastI).length c') ((s.laidM L).newFol (s.laidM L).lastI) ∧ Bel w1 w') := hide (fun w1 x' hp => follow_g hp.m hp.f _ (by show L.length ≤ 100; omega) (by show s.fol.length ≤ _; have := hz.f; omega))
  have HAd : Hid (∀ w1 x', Gp w1 (s.chgd L) x' → (s.laidM L).log.length ≤ x'.cL → Calls Tryz.prog 142 #[.agg (gc (s.chgd L) x')] w1 fun e w' => ∃ x4, e = .returned (.tuple #[.agg (gc (s.chgd L).adv x4), .int .i64 0]) ∧ Pg w1.heap.size w' (s.chgd L).adv x4 ∧ Bel w1 w') := hide (fun w1 x' hp hc => advance_g hp ((unhide HZ3) x' hc) hm3 hr)
  have HLB : Hid (s.log.length ≤ 99999) := hide hll
  clear h hz hi hye hL hm3 hris hm hr hma hbs hlf hm64 hLn hM3 hl3 hL64 HZ3 hll
  go_enter Tryz.func85, Tryz.ntmps85
  go_wp2_with (first
    | go_skip
    | (refine bx_boxK 31 (.tmp 0) (by exact rfl) (by exact rfl) (gc s x) (by exact rfl) ?_; intro b w0 hr0 hs0 hb0; have HR0 := hide hr0; have HB0 := hide (And.intro hb0 hs0); clear hr0 hs0 hb0)
    | (refine bx_new rfl 31 rfl _ Tryz.zeroP ?_; intro b2 w1 hr1 hs1 hb1; have HY : Hid (TyG W w1 b b2 s x) := hide ⟨hb1.row (unhide HR0), (unhide HB0).1.trans hb1, ⟨_, _, hr1⟩, by have := (unhide HB0).2; omega, by have := (unhide HB0).1.size; omega, fun e => by have := lt_of_some (unhide HR0); omega⟩; clear hr1 hs1 hb1 HR0 HB0)
    | (refine bx_ldK 31 (.tmp 3) (by exact rfl) b (by exact rfl) (by exact rfl) (gc s x) _ (unhide HY).row Tryz.underlying31 (Tryz.sizeP _ _) ?_)
    | go_guarded
    | (go_at_call 42; refine ((unhide H1) _ (unhide HY).bel).mono ?_; rintro e w2 ⟨rfl, hb2⟩; replace HY := hide ((unhide HY).next hb2); have y4 := (Bg.of (unhide HY).row).c4; have y1 := (Bg.of (unhide HY).row).c1; clear hb2)
    | (go_at_call 81; refine ((unhide HM) _ (unhide HY).bel).mono ?_; rintro e w3 ⟨rfl, hw3⟩; rw [hw3]; clear hw3)
    | (go_at_call 36; refine ((unhide HBu) _ (unhide HY).bel).mono ?_; rintro e w4 ⟨rfl, hb4⟩; replace HY := hide ((unhide HY).next hb4); clear hb4)
    | (go_at_call 94; refine ((unhide HSu) _ (unhide HY).bel).mono ?_; rintro e w5 ⟨rfl, hb5⟩; replace HY := hide ((unhide HY).next hb5); clear hb5)
    | (go_at_call 41; refine ((unhide HCl) _ (unhide HY).bel).mono ?_; rintro e w6 ⟨x1, rfl, hp6, hb6⟩; have HP6 := hide hp6; have HSZ := hide (unhide HY).bel.size; replace HY := hide ((unhide HY).next hb6); clear hp6 hb6)
    | (refine bx_st rfl 31 (.tmp 3) _ rfl b (gc s x1) _ rfl rfl (unhide HY).row (Tryz.sizeP _ _) rfl (gc_one _ _) ?_; intro w7 hr7 hc7; have HT7 := hide ((unhide HY).putm (x' := x1) ((unhide HP6).mono (unhide HSZ)) hr7 hc7); clear hr7 hc7 y4 y1 HP6 HSZ HY; have y1 := (Bg.of (unhide HT7).row).c1)
    | (go_at_call 83; refine ((unhide HTo) _ _ _ (unhide HT7).bel (unhide HT7).pm.m).mono ?_; rintro e w8 ⟨g8, c8, rfl, ho8, hg8⟩; have HT8 := hide ((unhide HT7).wrote ho8 hg8); clear ho8 hg8 y1 HT7)
    | (refine gl_mems rfl _ _ rfl b _ L _ rfl rfl (unhide HT8).1 ?_; intro w9 hr9 hc9; have HT9 : Hid (Tw W w9 b b2 (s.withM L) { x1 with aM := some ⟨g8, 0, none⟩, cM := c8 }) := hide ⟨hr9, (unhide HT8).2.2.1.box (unhide HT8).1 (by decide) hc9, ((unhide HT8).2.1.box (unhide HT8).1 hc9).mem _ _ _, bel_off (unhide HT8).2.2.2.1 hc9 (unhide HT8).2.2.2.2.2.1, (by obtain ⟨s2, x2, h2⟩ := (unhide HT8).2.2.2.2.1; exact ⟨s2, x2, hc9.row h2 (unhide HT8).2.2.2.2.2.2.2⟩), (unhide HT8).2.2.2.2.2.1, (unhide HT8).2.2.2.2.2.2.1, (unhide HT8).2.2.2.2.2.2.2⟩; clear hr9 hc9 HT8))
  clear H1 HM HBu HSu HCl HTo e1 e2
  obtain ⟨x9, hx9⟩ : ∃ x9 : Px, x9 = { x1 with aM := some ⟨g8, 0, none⟩, cM := c8 } := ⟨_, rfl⟩
  rw [← hx9] at HT9
  have hS9 : w9.drew.cell? ⟨b, 2, none⟩ = some (.int .u64 s.term) ∧ w9.drew.cell? ⟨b, 1, none⟩ = some (.slice (some ⟨g8, 0, none⟩) L.length c8) := by
    have h2 := (Bg.of (unhide HT9).row).c2
    have h1 := (Bg.of (unhide HT9).row).c1
    rw [hx9] at h1
    exact ⟨h2, h1⟩
  have hbd : ∀ {w w' : World}, Bel w w' → (w.cell? ⟨b, 2, none⟩ = some (.int .u64 s.term) ∧ w.cell? ⟨b, 1, none⟩ = some (.slice (some ⟨g8, 0, none⟩) L.length c8)) → (w'.cell? ⟨b, 2, none⟩ = some (.int .u64 s.term) ∧ w'.cell? ⟨b, 1, none⟩ = some (.slice (some ⟨g8, 0, none⟩) L.length c8)) := fun hb h => ⟨hb.cell h.1, hb.cell h.2⟩
  have HT9d := hide ((unhide HT9).next (Bel.refl w9).drew)
  have hc10 : w9.drew.cell? ⟨b, 10, none⟩ = some (.slice x9.aL s.log.length x9.cL) := (Bg.of (unhide HT9d).row).c10
  have hsl9 : Sl E3 w9.drew (some ⟨g8, 0, none⟩) L := by
    have := (unhide HT9d).gpw.m
    rw [hx9] at this
    exact this
  refine wp_region_held_drew (S := fun W => W.cell? ⟨b, 2, none⟩ = some (.int .u64 s.term) ∧ W.cell? ⟨b, 1, none⟩ = some (.slice (some ⟨g8, 0, none⟩) L.length c8)) Tryz.follows hS9 (fun hS => ?_)
  refine any_take (i := 0) (v := .pointer (some ⟨b, 10, none⟩)) rfl (by kernel_rfl) (by kernel_rfl) (by kernel_rfl) (fun _ _ _ h => h) rfl hS (fun w hw => by go_simp) ?_
  refine any_take (i := 2) (v := .pointer (some ⟨b, 2, none⟩)) rfl (by kernel_rfl) (by kernel_rfl) (by kernel_rfl) (fun _ _ _ h => h) rfl hS (fun w hw => by go_simp) ?_
  refine any_take (i := 4) (v := .pointer (some ⟨b, 1, none⟩)) rfl (by kernel_rfl) (by kernel_rfl) (by kernel_rfl) (fun _ _ _ h => h) rfl hS (fun w hw => by go_simp) ?_
  refine any_take (i := 3) (v := .int .u64 s.term) rfl (by kernel_rfl) (by kernel_rfl) (by kernel_rfl) (fun _ _ _ h => h) rfl hS (fun w hw => by obtain ⟨q1, q2⟩ := hw; go_simp) ?_
  refine any_take (i := 5) (v := .slice (some ⟨g8, 0, none⟩) L.length c8) rfl (by kernel_rfl) (by kernel_rfl) (by kernel_rfl) (fun _ _ _ h => h) rfl hS (fun w hw => by obtain ⟨q1, q2⟩ := hw; go_simp) ?_
  refine any_vc (i := 1) (j := 6) (v := .slice x9.aL s.log.length x9.cL) (by kernel_rfl) rfl rfl rfl rfl (by go_simp) (by go_simp) ((unhide HK) w9.drew (some ⟨g8, 0, none⟩) c8 hsl9) ⟨hS, ?_⟩ ?_
  · refine any_call (i := 6) (by kernel_rfl) rfl rfl (by go_simp) ((unhide HK) w9.drew (some ⟨g8, 0, none⟩) c8 hsl9) ?_
    rintro e w10 ⟨a10, c10, rfl, ho10, hb10⟩
    have hS10 := hbd hb10 hS
    have HT10 := (unhide HT9d).next hb10
    have ho10' : E3.O W.heap.size w10 (.slice a10 L.length c10) L := ho10.mono (unhide HT9d).bel.size
    have hc10' := hb10.cell hc10
    have ebl : (.agg (encG (seatOf s L, ⟨a10, c10⟩)).toArray : Value) = .agg #[.int .u64 s.term, .int .u8 2, .string ⟨#[]⟩, .slice a10 L.length c10] := rfl
    have HT11 := HT10.next ((Bel.refl w10).alloc (.cells (encG (seatOf s L, ⟨a10, c10⟩)).toArray 53))
    have hS11 := hbd ((Bel.refl w10).alloc (.cells (encG (seatOf s L, ⟨a10, c10⟩)).toArray 53)) hS10
    have hc11 := ((Bel.refl w10).alloc (.cells (encG (seatOf s L, ⟨a10, c10⟩)).toArray 53)).cell hc10'
    refine ⟨_, rfl, hS10, ?_⟩
    refine any_do (i := 7) (v := .agg (encG (seatOf s L, ⟨a10, c10⟩)).toArray) (w' := w10) (by kernel_rfl) rfl rfl (by go_simp) ⟨hS10, ?_⟩
    refine any_do (i := 8) (v := .slice (some ⟨w10.heap.size, 0, none⟩) 1 1) (w' := w10.alloc (.cells (encG (seatOf s L, ⟨a10, c10⟩)).toArray 53)) (by kernel_rfl) rfl rfl (by go_simp; rfl) ⟨hS11, ?_⟩
    obtain ⟨LG, (hlg : Ll W.heap.size _ x9.aL x9.cL s.log LG)⟩ := HT11.n.l
    have hLGn : LG.length = s.log.length := by rw [← hlg.map, List.length_map]
    obtain ⟨g12, c12, w12, hrun12, hO12, hG12, -⟩ := El.run_app1 (E := EG) (w10.alloc (.cells (encG (seatOf s L, ⟨a10, c10⟩)).toArray 53)) W.heap.size (.slice x9.aL LG.length x9.cL) LG (by rw [hLGn]; exact hlg.row) HT11.bel.size (seatOf s L, ⟨a10, c10⟩) w10.heap.size 1 (at_new w10 _) (by have := unhide HLB; omega) 27
    have hr12 := row_grown HT11.row (by rw [hLGn]; exact hlg.row : EG.O W.heap.size _ (.slice x9.aL LG.length x9.cL) LG) hG12 (by decide)
    have hS12 : w12.cell? ⟨b, 2, none⟩ = some (.int .u64 s.term) ∧ w12.cell? ⟨b, 1, none⟩ = some (.slice (some ⟨g8, 0, none⟩) L.length c8) := by
      have h2 := (Bg.of hr12).c2
      have h1 := (Bg.of hr12).c1
      rw [hx9] at h1
      exact ⟨h2, h1⟩
    rw [hLGn] at hrun12
    refine any_do (i := 9) (v := .slice (some ⟨g12, 0, none⟩) (s.log.length + 1) c12) (w' := w12) (by kernel_rfl) rfl rfl (app_run rfl (by go_simp) (by go_simp) hrun12) ⟨hS12, ?_⟩
    refine any_do (i := 10) (v := .pointer (some ⟨b, 10, none⟩)) (w' := w12) (by kernel_rfl) rfl rfl (by go_simp) ⟨hS12, ?_⟩
    refine any_stc (i := 11) (b := b) (p := 10) (v := .slice (some ⟨g12, 0, none⟩) (s.log.length + 1) c12) (by kernel_rfl) rfl rfl rfl (by go_simp) (by go_simp) rfl rfl hr12 Tryz.one28 (by rw [gc_size]; decide) ?_
    intro w13 hr13 hc13
    rw [gc_laid] at hr13
    have hS13 : w13.cell? ⟨b, 2, none⟩ = some (.int .u64 s.term) ∧ w13.cell? ⟨b, 1, none⟩ = some (.slice (some ⟨g8, 0, none⟩) L.length c8) := by
      have h2 := (Bg.of hr13).c2
      have h1 := (Bg.of hr13).c1
      rw [hx9] at h1
      exact ⟨h2, h1⟩
    refine ⟨hS13, ?_⟩
    refine wpAnyH_done (by kernel_rfl) ?_ _
    have HT13 := hide (HT11.laid hlg (ho10'.bel ((Bel.refl w10).alloc (.cells (encG (seatOf s L, ⟨a10, c10⟩)).toArray 53))) hO12 (by rw [hLGn] at hG12; exact hG12) hr13 hc13)
    generalize ({ x9 with aL := some ⟨g12, 0, none⟩, cL := c12 } : Px) = x13 at *
    clear hr13 hc13 hS13 hS12 hr12 hO12 hG12 hrun12 hlg HT11 hS11 hc11 hc10' ho10' HT10 hS10 HT9d HT9 hbd hS hS9 hc10 hsl9
    simp [Act.put]
    go_wp2_with (first
      | go_skip
      | (refine bx_ldK 31 (.tmp 3) (by exact rfl) b (by exact rfl) (by exact rfl) (gc (s.laidM L) x13) _ (unhide HT13).row Tryz.underlying31 (Tryz.sizeP _ _) ?_)
      | (refine bx_ldK 31 (.tmp 3) (by exact rfl) b (by exact rfl) (by exact rfl) (gc (s.chgd L) { x13 with aF := aF, cF := cF }) _ (unhide HT16).row Tryz.underlying31 (Tryz.sizeP _ _) ?_)
      | (refine bx_ldK 31 (.tmp 3) (by exact rfl) b (by exact rfl) (by exact rfl) (gc (s.chgd L).adv x17) _ (unhide HT18).row Tryz.underlying31 (Tryz.sizeP _ _) ?_)
      | go_guarded
      | (go_at_call 79; refine ((unhide HLA) _ _ (unhide HT13).gpw).mono ?_; rintro e w14 ⟨t14, rfl, hb14⟩; replace HT13 := hide ((unhide HT13).next hb14); clear hb14)
      | (go_at_call 141; refine ((unhide HFo) _ _ (unhide HT13).gpw).mono ?_; rintro e w15 ⟨aF, cF, rfl, hoF, hb15⟩; have HF15 := hide (hoF.mono (unhide HT13).bel.size); replace HT13 := hide ((unhide HT13).next hb15); clear hoF hb15)
      | (refine gl_fol rfl _ _ rfl b _ ((s.laidM L).newFol (s.laidM L).lastI) _ rfl rfl (unhide HT13).row ?_; intro w16 hr16 hc16; have HT16 := hide ((unhide HT13).fols (unhide HF15) hr16 hc16); clear hr16 hc16 HF15 HT13)
      | (go_at_call 142; refine ((unhide HAd) _ _ (unhide HT16).gpw (unhide HT16).cap).mono ?_; rintro e w17 ⟨x17, rfl, hp17, hb17⟩; have HP17 := hide (hp17.mono (unhide HT16).bel.size); replace HT16 := hide ((unhide HT16).next hb17); clear hp17 hb17)
      | (refine bx_st rfl 31 (.tmp 3) _ rfl b (gc (s.chgd L).adv x17) _ rfl rfl (unhide HT16).row (Tryz.sizeP _ _) rfl (gc_one _ _) ?_; intro w18 hr18 hc18; have HT18 := hide ((unhide HT16).putg (unhide HP17) hr18 hc18); clear hr18 hc18 HT16 HP17)
      | (obtain ⟨s2, x2, h2⟩ := (unhide HT18).row2; refine bx_st rfl 31 (.tmp 6) _ rfl b2 (gc (s.chgd L).adv x17) _ rfl rfl h2 (Tryz.sizeP _ _) rfl (gc_one _ _) ?_; intro w19 hr19 hc19; have HR19 := hide (And.intro hr19 ((unhide HT18).out h2 hc19)); clear hr19 hc19 h2))
    exact bodyPost_ret (res3 (p := 6) (q := 7) (r := 8) rfl Tryz.underlying31 (Tryz.sizeP _ _) (unhide HR19).1 _ _ _ rfl rfl rfl) rfl ⟨_, rfl, (unhide HR19).2.1, (unhide HR19).2.2⟩
  · rintro e w10 ⟨a10, c10, rfl, ho10, hb10⟩
    have hS10 := hbd hb10 hS
    have HT10 := (unhide HT9d).next hb10
    have ho10' : E3.O W.heap.size w10 (.slice a10 L.length c10) L := ho10.mono (unhide HT9d).bel.size
    have hc10' := hb10.cell hc10
    have ebl : (.agg (encG (seatOf s L, ⟨a10, c10⟩)).toArray : Value) = .agg #[.int .u64 s.term, .int .u8 2, .string ⟨#[]⟩, .slice a10 L.length c10] := rfl
    have HT11 := HT10.next ((Bel.refl w10).alloc (.cells (encG (seatOf s L, ⟨a10, c10⟩)).toArray 53))
    have hS11 := hbd ((Bel.refl w10).alloc (.cells (encG (seatOf s L, ⟨a10, c10⟩)).toArray 53)) hS10
    have hc11 := ((Bel.refl w10).alloc (.cells (encG (seatOf s L, ⟨a10, c10⟩)).toArray 53)).cell hc10'
    refine ⟨_, rfl, hS10, ?_⟩
    refine any_vv (i := 1) (j := 7) (vi := .slice x9.aL s.log.length x9.cL) (wi := w10) (vj := .agg (encG (seatOf s L, ⟨a10, c10⟩)).toArray) (wj := w10) (by kernel_rfl) rfl rfl rfl rfl (by go_simp) (by go_simp) ⟨hS10, ?_⟩ ⟨hS10, ?_⟩
    · refine any_do (i := 7) (v := .agg (encG (seatOf s L, ⟨a10, c10⟩)).toArray) (w' := w10) (by kernel_rfl) rfl rfl (by go_simp) ⟨hS10, ?_⟩
      refine any_do (i := 8) (v := .slice (some ⟨w10.heap.size, 0, none⟩) 1 1) (w' := w10.alloc (.cells (encG (seatOf s L, ⟨a10, c10⟩)).toArray 53)) (by kernel_rfl) rfl rfl (by go_simp; rfl) ⟨hS11, ?_⟩
      obtain ⟨LG, (hlg : Ll W.heap.size _ x9.aL x9.cL s.log LG)⟩ := HT11.n.l
      have hLGn : LG.length = s.log.length := by rw [← hlg.map, List.length_map]
      obtain ⟨g12, c12, w12, hrun12, hO12, hG12, -⟩ := El.run_app1 (E := EG) (w10.alloc (.cells (encG (seatOf s L, ⟨a10, c10⟩)).toArray 53)) W.heap.size (.slice x9.aL LG.length x9.cL) LG (by rw [hLGn]; exact hlg.row) HT11.bel.size (seatOf s L, ⟨a10, c10⟩) w10.heap.size 1 (at_new w10 _) (by have := unhide HLB; omega) 27
      have hr12 := row_grown HT11.row (by rw [hLGn]; exact hlg.row : EG.O W.heap.size _ (.slice x9.aL LG.length x9.cL) LG) hG12 (by decide)
      have hS12 : w12.cell? ⟨b, 2, none⟩ = some (.int .u64 s.term) ∧ w12.cell? ⟨b, 1, none⟩ = some (.slice (some ⟨g8, 0, none⟩) L.length c8) := by
        have h2 := (Bg.of hr12).c2
        have h1 := (Bg.of hr12).c1
        rw [hx9] at h1
        exact ⟨h2, h1⟩
      rw [hLGn] at hrun12
      refine any_do (i := 9) (v := .slice (some ⟨g12, 0, none⟩) (s.log.length + 1) c12) (w' := w12) (by kernel_rfl) rfl rfl (app_run rfl (by go_simp) (by go_simp) hrun12) ⟨hS12, ?_⟩
      refine any_do (i := 10) (v := .pointer (some ⟨b, 10, none⟩)) (w' := w12) (by kernel_rfl) rfl rfl (by go_simp) ⟨hS12, ?_⟩
      refine any_stc (i := 11) (b := b) (p := 10) (v := .slice (some ⟨g12, 0, none⟩) (s.log.length + 1) c12) (by kernel_rfl) rfl rfl rfl (by go_simp) (by go_simp) rfl rfl hr12 Tryz.one28 (by rw [gc_size]; decide) ?_
      intro w13 hr13 hc13
      rw [gc_laid] at hr13
      have hS13 : w13.cell? ⟨b, 2, none⟩ = some (.int .u64 s.term) ∧ w13.cell? ⟨b, 1, none⟩ = some (.slice (some ⟨g8, 0, none⟩) L.length c8) := by
        have h2 := (Bg.of hr13).c2
        have h1 := (Bg.of hr13).c1
        rw [hx9] at h1
        exact ⟨h2, h1⟩
      refine ⟨hS13, ?_⟩
      refine wpAnyH_done (by kernel_rfl) ?_ _
      have HT13 := hide (HT11.laid hlg (ho10'.bel ((Bel.refl w10).alloc (.cells (encG (seatOf s L, ⟨a10, c10⟩)).toArray 53))) hO12 (by rw [hLGn] at hG12; exact hG12) hr13 hc13)
      generalize ({ x9 with aL := some ⟨g12, 0, none⟩, cL := c12 } : Px) = x13 at *
      clear hr13 hc13 hS13 hS12 hr12 hO12 hG12 hrun12 hlg HT11 hS11 hc11 hc10' ho10' HT10 hS10 HT9d HT9 hbd hS hS9 hc10 hsl9
      simp [Act.put]
      go_wp2_with (first
        | go_skip
        | (refine bx_ldK 31 (.tmp 3) (by exact rfl) b (by exact rfl) (by exact rfl) (gc (s.laidM L) x13) _ (unhide HT13).row Tryz.underlying31 (Tryz.sizeP _ _) ?_)
        | (refine bx_ldK 31 (.tmp 3) (by exact rfl) b (by exact rfl) (by exact rfl) (gc (s.chgd L) { x13 with aF := aF, cF := cF }) _ (unhide HT16).row Tryz.underlying31 (Tryz.sizeP _ _) ?_)
        | (refine bx_ldK 31 (.tmp 3) (by exact rfl) b (by exact rfl) (by exact rfl) (gc (s.chgd L).adv x17) _ (unhide HT18).row Tryz.underlying31 (Tryz.sizeP _ _) ?_)
        | go_guarded
        | (go_at_call 79; refine ((unhide HLA) _ _ (unhide HT13).gpw).mono ?_; rintro e w14 ⟨t14, rfl, hb14⟩; replace HT13 := hide ((unhide HT13).next hb14); clear hb14)
        | (go_at_call 141; refine ((unhide HFo) _ _ (unhide HT13).gpw).mono ?_; rintro e w15 ⟨aF, cF, rfl, hoF, hb15⟩; have HF15 := hide (hoF.mono (unhide HT13).bel.size); replace HT13 := hide ((unhide HT13).next hb15); clear hoF hb15)
        | (refine gl_fol rfl _ _ rfl b _ ((s.laidM L).newFol (s.laidM L).lastI) _ rfl rfl (unhide HT13).row ?_; intro w16 hr16 hc16; have HT16 := hide ((unhide HT13).fols (unhide HF15) hr16 hc16); clear hr16 hc16 HF15 HT13)
        | (go_at_call 142; refine ((unhide HAd) _ _ (unhide HT16).gpw (unhide HT16).cap).mono ?_; rintro e w17 ⟨x17, rfl, hp17, hb17⟩; have HP17 := hide (hp17.mono (unhide HT16).bel.size); replace HT16 := hide ((unhide HT16).next hb17); clear hp17 hb17)
        | (refine bx_st rfl 31 (.tmp 3) _ rfl b (gc (s.chgd L).adv x17) _ rfl rfl (unhide HT16).row (Tryz.sizeP _ _) rfl (gc_one _ _) ?_; intro w18 hr18 hc18; have HT18 := hide ((unhide HT16).putg (unhide HP17) hr18 hc18); clear hr18 hc18 HT16 HP17)
        | (obtain ⟨s2, x2, h2⟩ := (unhide HT18).row2; refine bx_st rfl 31 (.tmp 6) _ rfl b2 (gc (s.chgd L).adv x17) _ rfl rfl h2 (Tryz.sizeP _ _) rfl (gc_one _ _) ?_; intro w19 hr19 hc19; have HR19 := hide (And.intro hr19 ((unhide HT18).out h2 hc19)); clear hr19 hc19 h2))
      exact bodyPost_ret (res3 (p := 6) (q := 7) (r := 8) rfl Tryz.underlying31 (Tryz.sizeP _ _) (unhide HR19).1 _ _ _ rfl rfl rfl) rfl ⟨_, rfl, (unhide HR19).2.1, (unhide HR19).2.2⟩
    · refine any_vv (i := 1) (j := 8) (vi := .slice x9.aL s.log.length x9.cL) (wi := w10) (vj := .slice (some ⟨w10.heap.size, 0, none⟩) 1 1) (wj := w10.alloc (.cells (encG (seatOf s L, ⟨a10, c10⟩)).toArray 53)) (by kernel_rfl) rfl rfl rfl rfl (by go_simp) (by go_simp; rfl) ⟨hS10, ?_⟩ ⟨hS11, ?_⟩
      · refine any_do (i := 8) (v := .slice (some ⟨w10.heap.size, 0, none⟩) 1 1) (w' := w10.alloc (.cells (encG (seatOf s L, ⟨a10, c10⟩)).toArray 53)) (by kernel_rfl) rfl rfl (by go_simp; rfl) ⟨hS11, ?_⟩
        obtain ⟨LG, (hlg : Ll W.heap.size _ x9.aL x9.cL s.log LG)⟩ := HT11.n.l
        have hLGn : LG.length = s.log.length := by rw [← hlg.map, List.length_map]
        obtain ⟨g12, c12, w12, hrun12, hO12, hG12, -⟩ := El.run_app1 (E := EG) (w10.alloc (.cells (encG (seatOf s L, ⟨a10, c10⟩)).toArray 53)) W.heap.size (.slice x9.aL LG.length x9.cL) LG (by rw [hLGn]; exact hlg.row) HT11.bel.size (seatOf s L, ⟨a10, c10⟩) w10.heap.size 1 (at_new w10 _) (by have := unhide HLB; omega) 27
        have hr12 := row_grown HT11.row (by rw [hLGn]; exact hlg.row : EG.O W.heap.size _ (.slice x9.aL LG.length x9.cL) LG) hG12 (by decide)
        have hS12 : w12.cell? ⟨b, 2, none⟩ = some (.int .u64 s.term) ∧ w12.cell? ⟨b, 1, none⟩ = some (.slice (some ⟨g8, 0, none⟩) L.length c8) := by
          have h2 := (Bg.of hr12).c2
          have h1 := (Bg.of hr12).c1
          rw [hx9] at h1
          exact ⟨h2, h1⟩
        rw [hLGn] at hrun12
        refine any_do (i := 9) (v := .slice (some ⟨g12, 0, none⟩) (s.log.length + 1) c12) (w' := w12) (by kernel_rfl) rfl rfl (app_run rfl (by go_simp) (by go_simp) hrun12) ⟨hS12, ?_⟩
        refine any_do (i := 10) (v := .pointer (some ⟨b, 10, none⟩)) (w' := w12) (by kernel_rfl) rfl rfl (by go_simp) ⟨hS12, ?_⟩
        refine any_stc (i := 11) (b := b) (p := 10) (v := .slice (some ⟨g12, 0, none⟩) (s.log.length + 1) c12) (by kernel_rfl) rfl rfl rfl (by go_simp) (by go_simp) rfl rfl hr12 Tryz.one28 (by rw [gc_size]; decide) ?_
        intro w13 hr13 hc13
        rw [gc_laid] at hr13
        have hS13 : w13.cell? ⟨b, 2, none⟩ = some (.int .u64 s.term) ∧ w13.cell? ⟨b, 1, none⟩ = some (.slice (some ⟨g8, 0, none⟩) L.length c8) := by
          have h2 := (Bg.of hr13).c2
          have h1 := (Bg.of hr13).c1
          rw [hx9] at h1
          exact ⟨h2, h1⟩
        refine ⟨hS13, ?_⟩
        refine wpAnyH_done (by kernel_rfl) ?_ _
        have HT13 := hide (HT11.laid hlg (ho10'.bel ((Bel.refl w10).alloc (.cells (encG (seatOf s L, ⟨a10, c10⟩)).toArray 53))) hO12 (by rw [hLGn] at hG12; exact hG12) hr13 hc13)
        generalize ({ x9 with aL := some ⟨g12, 0, none⟩, cL := c12 } : Px) = x13 at *
        clear hr13 hc13 hS13 hS12 hr12 hO12 hG12 hrun12 hlg HT11 hS11 hc11 hc10' ho10' HT10 hS10 HT9d HT9 hbd hS hS9 hc10 hsl9
        simp [Act.put]
        go_wp2_with (first
          | go_skip
          | (refine bx_ldK 31 (.tmp 3) (by exact rfl) b (by exact rfl) (by exact rfl) (gc (s.laidM L) x13) _ (unhide HT13).row Tryz.underlying31 (Tryz.sizeP _ _) ?_)
          | (refine bx_ldK 31 (.tmp 3) (by exact rfl) b (by exact rfl) (by exact rfl) (gc (s.chgd L) { x13 with aF := aF, cF := cF }) _ (unhide HT16).row Tryz.underlying31 (Tryz.sizeP _ _) ?_)
          | (refine bx_ldK 31 (.tmp 3) (by exact rfl) b (by exact rfl) (by exact rfl) (gc (s.chgd L).adv x17) _ (unhide HT18).row Tryz.underlying31 (Tryz.sizeP _ _) ?_)
          | go_guarded
          | (go_at_call 79; refine ((unhide HLA) _ _ (unhide HT13).gpw).mono ?_; rintro e w14 ⟨t14, rfl, hb14⟩; replace HT13 := hide ((unhide HT13).next hb14); clear hb14)
          | (go_at_call 141; refine ((unhide HFo) _ _ (unhide HT13).gpw).mono ?_; rintro e w15 ⟨aF, cF, rfl, hoF, hb15⟩; have HF15 := hide (hoF.mono (unhide HT13).bel.size); replace HT13 := hide ((unhide HT13).next hb15); clear hoF hb15)
          | (refine gl_fol rfl _ _ rfl b _ ((s.laidM L).newFol (s.laidM L).lastI) _ rfl rfl (unhide HT13).row ?_; intro w16 hr16 hc16; have HT16 := hide ((unhide HT13).fols (unhide HF15) hr16 hc16); clear hr16 hc16 HF15 HT13)
          | (go_at_call 142; refine ((unhide HAd) _ _ (unhide HT16).gpw (unhide HT16).cap).mono ?_; rintro e w17 ⟨x17, rfl, hp17, hb17⟩; have HP17 := hide (hp17.mono (unhide HT16).bel.size); replace HT16 := hide ((unhide HT16).next hb17); clear hp17 hb17)
          | (refine bx_st rfl 31 (.tmp 3) _ rfl b (gc (s.chgd L).adv x17) _ rfl rfl (unhide HT16).row (Tryz.sizeP _ _) rfl (gc_one _ _) ?_; intro w18 hr18 hc18; have HT18 := hide ((unhide HT16).putg (unhide HP17) hr18 hc18); clear hr18 hc18 HT16 HP17)
          | (obtain ⟨s2, x2, h2⟩ := (unhide HT18).row2; refine bx_st rfl 31 (.tmp 6) _ rfl b2 (gc (s.chgd L).adv x17) _ rfl rfl h2 (Tryz.sizeP _ _) rfl (gc_one _ _) ?_; intro w19 hr19 hc19; have HR19 := hide (And.intro hr19 ((unhide HT18).out h2 hc19)); clear hr19 hc19 h2))
        exact bodyPost_ret (res3 (p := 6) (q := 7) (r := 8) rfl Tryz.underlying31 (Tryz.sizeP _ _) (unhide HR19).1 _ _ _ rfl rfl rfl) rfl ⟨_, rfl, (unhide HR19).2.1, (unhide HR19).2.2⟩
      · refine any_do (i := 1) (v := .slice x9.aL s.log.length x9.cL) (w' := w10.alloc (.cells (encG (seatOf s L, ⟨a10, c10⟩)).toArray 53)) (by kernel_rfl) rfl rfl (by go_simp) ⟨hS11, ?_⟩
        obtain ⟨LG, (hlg : Ll W.heap.size _ x9.aL x9.cL s.log LG)⟩ := HT11.n.l
        have hLGn : LG.length = s.log.length := by rw [← hlg.map, List.length_map]
        obtain ⟨g12, c12, w12, hrun12, hO12, hG12, -⟩ := El.run_app1 (E := EG) (w10.alloc (.cells (encG (seatOf s L, ⟨a10, c10⟩)).toArray 53)) W.heap.size (.slice x9.aL LG.length x9.cL) LG (by rw [hLGn]; exact hlg.row) HT11.bel.size (seatOf s L, ⟨a10, c10⟩) w10.heap.size 1 (at_new w10 _) (by have := unhide HLB; omega) 27
        have hr12 := row_grown HT11.row (by rw [hLGn]; exact hlg.row : EG.O W.heap.size _ (.slice x9.aL LG.length x9.cL) LG) hG12 (by decide)
        have hS12 : w12.cell? ⟨b, 2, none⟩ = some (.int .u64 s.term) ∧ w12.cell? ⟨b, 1, none⟩ = some (.slice (some ⟨g8, 0, none⟩) L.length c8) := by
          have h2 := (Bg.of hr12).c2
          have h1 := (Bg.of hr12).c1
          rw [hx9] at h1
          exact ⟨h2, h1⟩
        rw [hLGn] at hrun12
        refine any_do (i := 9) (v := .slice (some ⟨g12, 0, none⟩) (s.log.length + 1) c12) (w' := w12) (by kernel_rfl) rfl rfl (app_run rfl (by go_simp) (by go_simp) hrun12) ⟨hS12, ?_⟩
        refine any_do (i := 10) (v := .pointer (some ⟨b, 10, none⟩)) (w' := w12) (by kernel_rfl) rfl rfl (by go_simp) ⟨hS12, ?_⟩
        refine any_stc (i := 11) (b := b) (p := 10) (v := .slice (some ⟨g12, 0, none⟩) (s.log.length + 1) c12) (by kernel_rfl) rfl rfl rfl (by go_simp) (by go_simp) rfl rfl hr12 Tryz.one28 (by rw [gc_size]; decide) ?_
        intro w13 hr13 hc13
        rw [gc_laid] at hr13
        have hS13 : w13.cell? ⟨b, 2, none⟩ = some (.int .u64 s.term) ∧ w13.cell? ⟨b, 1, none⟩ = some (.slice (some ⟨g8, 0, none⟩) L.length c8) := by
          have h2 := (Bg.of hr13).c2
          have h1 := (Bg.of hr13).c1
          rw [hx9] at h1
          exact ⟨h2, h1⟩
        refine ⟨hS13, ?_⟩
        refine wpAnyH_done (by kernel_rfl) ?_ _
        have HT13 := hide (HT11.laid hlg (ho10'.bel ((Bel.refl w10).alloc (.cells (encG (seatOf s L, ⟨a10, c10⟩)).toArray 53))) hO12 (by rw [hLGn] at hG12; exact hG12) hr13 hc13)
        generalize ({ x9 with aL := some ⟨g12, 0, none⟩, cL := c12 } : Px) = x13 at *
        clear hr13 hc13 hS13 hS12 hr12 hO12 hG12 hrun12 hlg HT11 hS11 hc11 hc10' ho10' HT10 hS10 HT9d HT9 hbd hS hS9 hc10 hsl9
        simp [Act.put]
        go_wp2_with (first
          | go_skip
          | (refine bx_ldK 31 (.tmp 3) (by exact rfl) b (by exact rfl) (by exact rfl) (gc (s.laidM L) x13) _ (unhide HT13).row Tryz.underlying31 (Tryz.sizeP _ _) ?_)
          | (refine bx_ldK 31 (.tmp 3) (by exact rfl) b (by exact rfl) (by exact rfl) (gc (s.chgd L) { x13 with aF := aF, cF := cF }) _ (unhide HT16).row Tryz.underlying31 (Tryz.sizeP _ _) ?_)
          | (refine bx_ldK 31 (.tmp 3) (by exact rfl) b (by exact rfl) (by exact rfl) (gc (s.chgd L).adv x17) _ (unhide HT18).row Tryz.underlying31 (Tryz.sizeP _ _) ?_)
          | go_guarded
          | (go_at_call 79; refine ((unhide HLA) _ _ (unhide HT13).gpw).mono ?_; rintro e w14 ⟨t14, rfl, hb14⟩; replace HT13 := hide ((unhide HT13).next hb14); clear hb14)
          | (go_at_call 141; refine ((unhide HFo) _ _ (unhide HT13).gpw).mono ?_; rintro e w15 ⟨aF, cF, rfl, hoF, hb15⟩; have HF15 := hide (hoF.mono (unhide HT13).bel.size); replace HT13 := hide ((unhide HT13).next hb15); clear hoF hb15)
          | (refine gl_fol rfl _ _ rfl b _ ((s.laidM L).newFol (s.laidM L).lastI) _ rfl rfl (unhide HT13).row ?_; intro w16 hr16 hc16; have HT16 := hide ((unhide HT13).fols (unhide HF15) hr16 hc16); clear hr16 hc16 HF15 HT13)
          | (go_at_call 142; refine ((unhide HAd) _ _ (unhide HT16).gpw (unhide HT16).cap).mono ?_; rintro e w17 ⟨x17, rfl, hp17, hb17⟩; have HP17 := hide (hp17.mono (unhide HT16).bel.size); replace HT16 := hide ((unhide HT16).next hb17); clear hp17 hb17)
          | (refine bx_st rfl 31 (.tmp 3) _ rfl b (gc (s.chgd L).adv x17) _ rfl rfl (unhide HT16).row (Tryz.sizeP _ _) rfl (gc_one _ _) ?_; intro w18 hr18 hc18; have HT18 := hide ((unhide HT16).putg (unhide HP17) hr18 hc18); clear hr18 hc18 HT16 HP17)
          | (obtain ⟨s2, x2, h2⟩ := (unhide HT18).row2; refine bx_st rfl 31 (.tmp 6) _ rfl b2 (gc (s.chgd L).adv x17) _ rfl rfl h2 (Tryz.sizeP _ _) rfl (gc_one _ _) ?_; intro w19 hr19 hc19; have HR19 := hide (And.intro hr19 ((unhide HT18).out h2 hc19)); clear hr19 hc19 h2))
        exact bodyPost_ret (res3 (p := 6) (q := 7) (r := 8) rfl Tryz.underlying31 (Tryz.sizeP _ _) (unhide HR19).1 _ _ _ rfl rfl rfl) rfl ⟨_, rfl, (unhide HR19).2.1, (unhide HR19).2.2⟩
end Go.Proofs.YthekbhliokcpcaaGreat
namespace Go.Proofs.YthekbhliokcpcaaGreat
open Go.RowKit Go.Maps Go.Sort
set_option maxRecDepth 100000 in
set_option maxHeartbeats 4000000 in
theorem add_no {W : World} {s : GP} {x : Px} {id : Int} (h : Gp W s x) (hz : Gz s x) (hne : s.chgE (addB id s.M) ≠ 0) : Calls Tryz.prog 34 #[.agg (gc s x), .int .i64 id] W fun e w' => e = .returned (.tuple #[.agg (gc g0 y0), .int .u64 0, .int .i64 (s.chgE (addB id s.M))]) ∧ Bel W w' := by
  have HC : Hid (∀ w1 bi, Bel W w1 → w1.cell? ⟨bi, 0, none⟩ = some (.int .i64 id) → Calls Tryz.prog 85 #[.agg (gc s x), .func (.func 81) #[] #[.pointer (some ⟨bi, 0, none⟩)], .func (.func 83) #[] #[.pointer (some ⟨bi, 0, none⟩)]] w1 fun e w' => e = .returned (.tuple #[.agg (gc g0 y0), .int .u64 0, .int .i64 (s.chgE (addB id s.M))]) ∧ Bel w1 w') := hide (fun w1 bi hb hi => chgAdd_no (h.bel hb) hz hi hne)
  clear h hz hne
  generalize s.chgE (addB id s.M) = ce at *
  go_enter Tryz.func34, Tryz.ntmps34
  go_wp2_with (first
    | go_skip
    | (refine bx_boxK 31 (.tmp 0) (by exact rfl) (by exact rfl) (gc s x) (by exact rfl) ?_; intro b w0 hr0 hs0 hb0; have HR0 := hide hr0; have HB0 := hide (And.intro hb0 hs0); have HI0 := hide (cell_of (at_new w0 (.cells #[.int .i64 id] 3)) : (w0.alloc (.cells #[.int .i64 id] 3)).cell? ⟨w0.heap.size, 0, none⟩ = some (.int .i64 id)); clear hr0 hs0 hb0)
    | (refine bx_new rfl 31 rfl _ Tryz.zeroP ?_; intro b4 w1 hr1 hs1 hb1; have hb01 := ((Bel.refl w0).alloc (.cells #[.int .i64 id] 3)).trans hb1; have HY := hide (And.intro (hb01.row (unhide HR0)) (And.intro hr1 (And.intro (hb1.cell (unhide HI0)) (And.intro ((unhide HB0).1.trans hb01) (show W.heap.size ≤ b4 by have h1 := ((unhide HB0).1.trans ((Bel.refl w0).alloc (.cells #[.int .i64 id] 3))).size; omega))))); clear hr1 hs1 hb1 hb01 HR0 HB0 HI0)
    | (refine bx_ldK 31 (.tmp 2) (by exact rfl) b (by exact rfl) (by exact rfl) (gc s x) _ (unhide HY).1 Tryz.underlying31 (Tryz.sizeP _ _) ?_)
    | go_guarded
    | (go_at_call 85; refine ((unhide HC) _ _ (unhide HY).2.2.2.1 (unhide HY).2.2.1).mono ?_; rintro e w3 ⟨rfl, hb3⟩; have HY3 := hide (And.intro (hb3.row (unhide HY).2.1) (And.intro ((unhide HY).2.2.2.1.trans hb3) (unhide HY).2.2.2.2)); clear hb3 HY)
    | (refine bx_st rfl 31 (.tmp 4) _ rfl b4 (gc g0 y0) _ rfl rfl (unhide HY3).1 (Tryz.sizeP _ _) rfl (gc_one _ _) ?_; intro w9 hr9 hc9; have HR9 := hide (And.intro hr9 (bel_off (unhide HY3).2.1 hc9 (unhide HY3).2.2)); clear hr9 hc9))
  exact bodyPost_ret (res3 (p := 4) (q := 5) (r := 6) rfl Tryz.underlying31 (Tryz.sizeP _ _) (unhide HR9).1 _ _ _ rfl rfl rfl) rfl ⟨rfl, (unhide HR9).2⟩
set_option maxRecDepth 100000 in
set_option maxHeartbeats 4000000 in
theorem rem_no {W : World} {s : GP} {x : Px} {id : Int} (h : Gp W s x) (hz : Gz s x) (hne : s.chgE (remB id s.M) ≠ 0) : Calls Tryz.prog 35 #[.agg (gc s x), .int .i64 id] W fun e w' => e = .returned (.tuple #[.agg (gc g0 y0), .int .u64 0, .int .i64 (s.chgE (remB id s.M))]) ∧ Bel W w' := by
  have HC : Hid (∀ w1 bi, Bel W w1 → w1.cell? ⟨bi, 0, none⟩ = some (.int .i64 id) → Calls Tryz.prog 85 #[.agg (gc s x), .func (.func 86) #[] #[.pointer (some ⟨bi, 0, none⟩)], .func (.func 87) #[] #[.pointer (some ⟨bi, 0, none⟩)]] w1 fun e w' => e = .returned (.tuple #[.agg (gc g0 y0), .int .u64 0, .int .i64 (s.chgE (remB id s.M))]) ∧ Bel w1 w') := hide (fun w1 bi hb hi => chgRem_no (h.bel hb) hz hi hne)
  clear h hz hne
  generalize s.chgE (remB id s.M) = ce at *
  go_enter Tryz.func35, Tryz.ntmps35
  go_wp2_with (first
    | go_skip
    | (refine bx_boxK 31 (.tmp 0) (by exact rfl) (by exact rfl) (gc s x) (by exact rfl) ?_; intro b w0 hr0 hs0 hb0; have HR0 := hide hr0; have HB0 := hide (And.intro hb0 hs0); have HI0 := hide (cell_of (at_new w0 (.cells #[.int .i64 id] 3)) : (w0.alloc (.cells #[.int .i64 id] 3)).cell? ⟨w0.heap.size, 0, none⟩ = some (.int .i64 id)); clear hr0 hs0 hb0)
    | (refine bx_new rfl 31 rfl _ Tryz.zeroP ?_; intro b4 w1 hr1 hs1 hb1; have hb01 := ((Bel.refl w0).alloc (.cells #[.int .i64 id] 3)).trans hb1; have HY := hide (And.intro (hb01.row (unhide HR0)) (And.intro hr1 (And.intro (hb1.cell (unhide HI0)) (And.intro ((unhide HB0).1.trans hb01) (show W.heap.size ≤ b4 by have h1 := ((unhide HB0).1.trans ((Bel.refl w0).alloc (.cells #[.int .i64 id] 3))).size; omega))))); clear hr1 hs1 hb1 hb01 HR0 HB0 HI0)
    | (refine bx_ldK 31 (.tmp 2) (by exact rfl) b (by exact rfl) (by exact rfl) (gc s x) _ (unhide HY).1 Tryz.underlying31 (Tryz.sizeP _ _) ?_)
    | go_guarded
    | (go_at_call 85; refine ((unhide HC) _ _ (unhide HY).2.2.2.1 (unhide HY).2.2.1).mono ?_; rintro e w3 ⟨rfl, hb3⟩; have HY3 := hide (And.intro (hb3.row (unhide HY).2.1) (And.intro ((unhide HY).2.2.2.1.trans hb3) (unhide HY).2.2.2.2)); clear hb3 HY)
    | (refine bx_st rfl 31 (.tmp 4) _ rfl b4 (gc g0 y0) _ rfl rfl (unhide HY3).1 (Tryz.sizeP _ _) rfl (gc_one _ _) ?_; intro w9 hr9 hc9; have HR9 := hide (And.intro hr9 (bel_off (unhide HY3).2.1 hc9 (unhide HY3).2.2)); clear hr9 hc9))
  exact bodyPost_ret (res3 (p := 4) (q := 5) (r := 6) rfl Tryz.underlying31 (Tryz.sizeP _ _) (unhide HR9).1 _ _ _ rfl rfl rfl) rfl ⟨rfl, (unhide HR9).2⟩
set_option maxRecDepth 100000 in
set_option maxHeartbeats 4000000 in
theorem add_yes {W : World} {s : GP} {x : Px} {id : Int} {L : List Int} (h : Gp W s x) (hz : Gz s x) (hll : s.log.length ≤ 99999) (hye : s.chgE (addB id s.M) = 0) (hL : insAt s.M (place id s.M) id = L) (hm3 : mayG (s.chgd L) = true) (hris : Ris s.M) : Calls Tryz.prog 34 #[.agg (gc s x), .int .i64 id] W fun e w' => ∃ x', e = .returned (.tuple #[.agg (gc (s.chgd L).adv x'), .int .u64 (s.laidM L).lastI, .int .i64 0]) ∧ Pg W.heap.size w' (s.chgd L).adv x' ∧ Bel W w' := by
  have HC : Hid (∀ w1 bi, Bel W w1 → w1.cell? ⟨bi, 0, none⟩ = some (.int .i64 id) → Calls Tryz.prog 85 #[.agg (gc s x), .func (.func 81) #[] #[.pointer (some ⟨bi, 0, none⟩)], .func (.func 83) #[] #[.pointer (some ⟨bi, 0, none⟩)]] w1 fun e w' => ∃ x', e = .returned (.tuple #[.agg (gc (s.chgd L).adv x'), .int .u64 (s.laidM L).lastI, .int .i64 0]) ∧ Pg W.heap.size w' (s.chgd L).adv x' ∧ Bel w1 w') := hide (fun w1 bi hb hi => (chgAdd_yes (h.bel hb) hz hll hi hye hL hm3 hris).mono (fun e w' ⟨x', he, hp, hb'⟩ => ⟨x', he, hp.mono hb.size, hb'⟩))
  clear h hz hll hye hL hm3 hris
  generalize (s.chgd L).adv = sq at *
  generalize (s.laidM L).lastI = ix at *
  go_enter Tryz.func34, Tryz.ntmps34
  go_wp2_with (first
    | go_skip
    | (refine bx_boxK 31 (.tmp 0) (by exact rfl) (by exact rfl) (gc s x) (by exact rfl) ?_; intro b w0 hr0 hs0 hb0; have HR0 := hide hr0; have HB0 := hide (And.intro hb0 hs0); have HI0 := hide (cell_of (at_new w0 (.cells #[.int .i64 id] 3)) : (w0.alloc (.cells #[.int .i64 id] 3)).cell? ⟨w0.heap.size, 0, none⟩ = some (.int .i64 id)); clear hr0 hs0 hb0)
    | (refine bx_new rfl 31 rfl _ Tryz.zeroP ?_; intro b4 w1 hr1 hs1 hb1; have hb01 := ((Bel.refl w0).alloc (.cells #[.int .i64 id] 3)).trans hb1; have HY := hide (And.intro (hb01.row (unhide HR0)) (And.intro hr1 (And.intro (hb1.cell (unhide HI0)) (And.intro ((unhide HB0).1.trans hb01) (show W.heap.size ≤ b4 by have h1 := ((unhide HB0).1.trans ((Bel.refl w0).alloc (.cells #[.int .i64 id] 3))).size; omega))))); clear hr1 hs1 hb1 hb01 HR0 HB0 HI0)
    | (refine bx_ldK 31 (.tmp 2) (by exact rfl) b (by exact rfl) (by exact rfl) (gc s x) _ (unhide HY).1 Tryz.underlying31 (Tryz.sizeP _ _) ?_)
    | go_guarded
    | (go_at_call 85; refine ((unhide HC) _ _ (unhide HY).2.2.2.1 (unhide HY).2.2.1).mono ?_; rintro e w3 ⟨x3, rfl, hp3, hb3⟩; have HY3 := hide (And.intro (hb3.row (unhide HY).2.1) (And.intro ((unhide HY).2.2.2.1.trans hb3) (unhide HY).2.2.2.2)); have HP3 := hide hp3; clear hp3; clear hb3 HY)
    | (refine bx_st rfl 31 (.tmp 4) _ rfl b4 (gc sq x3) _ rfl rfl (unhide HY3).1 (Tryz.sizeP _ _) rfl (gc_one _ _) ?_; intro w9 hr9 hc9; have HR9 := hide (And.intro hr9 (bel_off (unhide HY3).2.1 hc9 (unhide HY3).2.2)); have HP9 := hide ((unhide HP3).box (unhide HY3).1 hc9); clear hr9 hc9))
  exact bodyPost_ret (res3 (p := 4) (q := 5) (r := 6) rfl Tryz.underlying31 (Tryz.sizeP _ _) (unhide HR9).1 _ _ _ rfl rfl rfl) rfl ⟨_, rfl, unhide HP9, (unhide HR9).2⟩
end Go.Proofs.YthekbhliokcpcaaGreat
