/- Clone of any member: its members' row and its votes' row are apart from all others. -/
import Derived.Test.YthekbhliokcpcaaGreatT12
namespace Go.Proofs.YthekbhliokcpcaaGreat
open Go.RowKit Go.Maps Go.Sort
structure Pw2 (mid mi2 : Nat) (W : World) (s : GP) (x : Px) : Prop where
 b : E3.O mid W (.slice x.aB s.B.length x.cB) s.B
 l : ∃ L, Ll mi2 W x.aL x.cL s.log L
 v : E3.O mid W (.slice x.aV s.votes.length x.cV) s.votes
 f : E65.O mid W (.slice x.aF s.fol.length x.cF) s.fol
 r : ∃ L : List (GR × GA), L.map (·.1) = s.reads ∧ ER.O mi2 W (.slice x.aR s.reads.length x.cR) L ∧ ∀ y ∈ L, E3.O mi2 W (.slice y.2.a y.1.a.length y.2.c) y.1.a
structure Pv (base : Nat) (W : World) (s : GP) (x : Px) : Prop where
 m : E3.O base W (.slice x.aM s.M.length x.cM) s.M
 sep : ∃ mid mi2, base ≤ mid ∧ mid ≤ mi2 ∧ (∀ k, (Value.slice x.aM s.M.length x.cM).ownBlock = some k → k < mid) ∧ (∀ k, (Value.slice x.aV s.votes.length x.cV).ownBlock = some k → k < mi2) ∧ Pw2 mid mi2 W s x
 dv : ∀ k j, (Value.slice x.aV s.votes.length x.cV).ownBlock = some k → (Value.slice x.aM s.M.length x.cM).ownBlock = some j ∨ (Value.slice x.aB s.B.length x.cB).ownBlock = some j → j < k
theorem Pw2.bel {mid mi2 : Nat} {W W' : World} {s : GP} {x : Px} (h : Pw2 mid mi2 W s x) (hb : Bel W W') : Pw2 mid mi2 W' s x := ⟨h.b.bel hb, by obtain ⟨L, hl⟩ := h.l; exact ⟨L, hl.bel hb⟩, h.v.bel hb, h.f.bel hb, by obtain ⟨L, h1, h2, h3⟩ := h.r; exact ⟨L, h1, h2.bel hb, fun y hy => (h3 y hy).bel hb⟩⟩
theorem Pw2.box {mid mi2 : Nat} {W W' : World} {s : GP} {x : Px} {b : Nat} {c : Array Value} (h : Pw2 mid mi2 W s x) (hr : W.heap[b]? = some (.cells c 31)) (hc : Ch (fun k => k = b) W W') : Pw2 mid mi2 W' s x := ⟨h.b.box hr (by decide) hc, by obtain ⟨L, hl⟩ := h.l; exact ⟨L, hl.box hr hc⟩, h.v.box hr (by decide) hc, h.f.box hr (by decide) hc, by obtain ⟨L, h1, h2, h3⟩ := h.r; exact ⟨L, h1, h2.box hr (by decide) hc, fun y hy => (h3 y hy).box hr (by decide) hc⟩⟩
theorem Pv.box {base : Nat} {W W' : World} {s : GP} {x : Px} {b : Nat} {c : Array Value} (h : Pv base W s x) (hr : W.heap[b]? = some (.cells c 31)) (hc : Ch (fun k => k = b) W W') : Pv base W' s x := ⟨h.m.box hr (by decide) hc, by obtain ⟨mid, mi2, h1, h2, h3, h4, h5⟩ := h.sep; exact ⟨mid, mi2, h1, h2, h3, h4, h5.box hr hc⟩, h.dv⟩
theorem Pv.bel {base : Nat} {W W' : World} {s : GP} {x : Px} (h : Pv base W s x) (hb : Bel W W') : Pv base W' s x := ⟨h.m.bel hb, by obtain ⟨mid, mi2, h1, h2, h3, h4, h5⟩ := h.sep; exact ⟨mid, mi2, h1, h2, h3, h4, h5.bel hb⟩, h.dv⟩
theorem Pv.mono {base base' : Nat} {W : World} {s : GP} {x : Px} (h : Pv base W s x) (hb : base' ≤ base) : Pv base' W s x := ⟨h.m.mono hb, by obtain ⟨mid, mi2, h1, h2, h3, h4, h5⟩ := h.sep; exact ⟨mid, mi2, Nat.le_trans hb h1, h2, h3, h4, h5⟩, h.dv⟩
theorem Pv.pm {base : Nat} {W : World} {s : GP} {x : Px} (h : Pv base W s x) : Pm base W s x := by
 obtain ⟨mid, mi2, h1, h2, h3, h4, h5⟩ := h.sep
 exact ⟨h.m, ⟨mid, h1, h3, ⟨h5.b, (by obtain ⟨L, hl⟩ := h5.l; exact ⟨L, hl.mono h2⟩), h5.v, h5.f, (by obtain ⟨L, q1, q2, q3⟩ := h5.r; exact ⟨L, q1, q2.mono h2, fun y hy => (q3 y hy).mono h2⟩)⟩⟩, h.dv⟩
theorem Pv.pg {base : Nat} {W : World} {s : GP} {x : Px} (h : Pv base W s x) : Pg base W s x := h.pm.pg
structure Cv (W wr : World) (mid mi2 b b2 : Nat) (o2 : Option Obj) (s : GP) (x : Px) (LR L' : List (GR × GA)) (k : Nat) : Prop where
 row : wr.heap[b]? = some (.cells (gc s x) 31)
 row2 : wr.heap[b2]? = o2
 m : E3.O W.heap.size wr (.slice x.aM s.M.length x.cM) s.M
 mlt : ∀ k, (Value.slice x.aM s.M.length x.cM).ownBlock = some k → k < mid
 b : E3.O mid wr (.slice x.aB s.B.length x.cB) s.B
 l : ∃ L, Ll mi2 wr x.aL x.cL s.log L
 v : E3.O mid wr (.slice x.aV s.votes.length x.cV) s.votes
 f : E65.O mid wr (.slice x.aF s.fol.length x.cF) s.fol
 dv : ∀ k j, (Value.slice x.aV s.votes.length x.cV).ownBlock = some k → (Value.slice x.aM s.M.length x.cM).ownBlock = some j ∨ (Value.slice x.aB s.B.length x.cB).ownBlock = some j → j < k
 len : L'.length = s.reads.length
 map : L'.map (·.1) = LR.map (·.1)
 r : ER.O mi2 wr (.slice x.aR s.reads.length x.cR) L'
 own : ∀ (i : Nat) (y : GR × GA), i < k → L'[i]? = some y → E3.O mi2 wr (.slice y.2.a y.1.a.length y.2.c) y.1.a
 rest : ∀ i, k ≤ i → L'[i]? = LR[i]?
 bel : Bel W wr
 mw : W.heap.size ≤ mid ∧ mid ≤ wr.heap.size
 vlt : ∀ k, (Value.slice x.aV s.votes.length x.cV).ownBlock = some k → k < mi2
 mw2 : mid ≤ mi2 ∧ mi2 ≤ wr.heap.size
theorem Cv.inL {W wr : World} {mid mi2 b b2 : Nat} {o2 : Option Obj} {s : GP} {x : Px} {LR L' : List (GR × GA)} {k : Nat} (h : Cv W wr mid mi2 b b2 o2 s x LR L' k) {y : GR × GA} (hy : L'[k]? = some y) : y ∈ LR := List.mem_of_getElem? ((h.rest k (Nat.le_refl _)).symm.trans hy)
theorem Cv.look {W wr : World} {mid mi2 b b2 : Nat} {o2 : Option Obj} {s : GP} {x : Px} {LR L' : List (GR × GA)} {k : Nat} (h : Cv W wr mid mi2 b b2 o2 s x LR L' k) (hk : k < s.reads.length) : ∃ g, wr.cell? ⟨b, 17, none⟩ = some (.slice x.aR s.reads.length x.cR) ∧ x.aR = some ⟨g, 0, none⟩ ∧ (∃ cur, wr.heap[g]? = some (.cells cur 104)) ∧ (∀ y, L'[k]? = some y → wr.cell? ⟨g, k * 3 + 2, none⟩ = some (.slice y.2.a y.1.a.length y.2.c)) ∧ wr.frozen? ⟨g, k * 3 + 2, none⟩ = false ∧ (∀ w9, Bel wr w9 → w9.frozen? ⟨g, k * 3 + 2, none⟩ = false) := by
 have ho := h.r
 have hkl : k < L'.length := by rw [h.len]; exact hk
 obtain ⟨a', c', g, e, h1, h2, _⟩ := ho.shape
 injection e with e1
 have hg : x.aR = some ⟨g, 0, none⟩ := e1.trans (h1 (by omega))
 rw [hg] at ho
 obtain ⟨cur, hcur⟩ := ho.block (k := g) rfl
 refine ⟨g, (Bg.of h.row).c17, hg, ⟨cur, hcur⟩, fun y hy => ?_, free_row (W := wr) hcur, fun w9 hb => free_row (W := w9) (hb.row hcur)⟩
 have := (ER_cell h2 k hkl).2.2
 rw [Nat.zero_add] at this
 rw [List.getElem?_eq_getElem hkl] at hy
 obtain rfl := Option.some.inj hy
 exact this
theorem Cv.next {W wr w9 : World} {mid mi2 b b2 g : Nat} {o2 : Option Obj} {s : GP} {x : Px} {LR L' : List (GR × GA)} {k : Nat} (h : Cv W wr mid mi2 b b2 o2 s x LR L' k) (hk : k < s.reads.length) (hg : x.aR = some ⟨g, 0, none⟩) {y : GR × GA} (hy : L'[k]? = some y) {a9 : Option Addr} {c9 : Nat} {m : List Int} (hm : y.1.a = m) (hb : Bel wr w9) (ho : E3.O mi2 w9 (.slice a9 m.length c9) m) (hb2 : ∃ c, o2 = some (.cells c 31)) : ∃ L'', Cv W (w9.setCell ⟨g, k * 3 + 2, none⟩ (.slice a9 m.length c9)) mid mi2 b b2 o2 s x LR L'' (k + 1) := by
 have hkl : k < L'.length := by rw [h.len]; exact hk
 have hyk : L'[k] = y := by rw [List.getElem?_eq_getElem hkl] at hy; exact Option.some.inj hy
 have hrow0 := h.r
 rw [hg] at hrow0
 have hrow := hrow0.bel hb
 have hcell := hrow.cell k hkl 2 (by decide) (.slice a9 m.length c9) (y.1, ⟨a9, c9⟩) (by
  show encR _ = (encR _).set 2 _
  rw [hyk]
  unfold encR
  simp [hm])
 obtain ⟨cur, hcur⟩ := hrow.block (k := g) rfl
 have hch : Ch (fun i => i = g) w9 (w9.setCell ⟨g, k * 3 + 2, none⟩ (.slice a9 m.length c9)) := Ch.set (ad := ⟨g, k * 3 + 2, none⟩) (Ch.refl (fun i => i = g) w9) (Or.inl rfl) _
 have hlt := hrow.lt (k := g) rfl
 have hne : ∀ (q : Nat) (c : Array Value), w9.heap[q]? = some (.cells c 31) → ¬ q = g := fun q c hq e => by
  rw [e, hcur] at hq
  injection (Option.some.inj hq) with _ h2
  exact absurd h2 (by decide)
 obtain ⟨c2, hc2⟩ := hb2
 have h2 : w9.heap[b2]? = some (.cells c2 31) := hb.row (h.row2.trans hc2)
 refine ⟨L'.set k (y.1, ⟨a9, c9⟩), hch.row (hb.row h.row) (hne _ _ (hb.row h.row)), ?_, (h.m.bel hb).box hcur (by decide) hch, h.mlt, (h.b.bel hb).box hcur (by decide) hch, ?_, (h.v.bel hb).box hcur (by decide) hch, (h.f.bel hb).box hcur (by decide) hch, h.dv, by rw [List.length_set]; exact h.len, ?_, ?_, ?_, ?_, bel_off (h.bel.trans hb) hch (Nat.le_trans h.mw.1 (Nat.le_trans h.mw2.1 hlt.1)), ⟨h.mw.1, Nat.le_trans h.mw.2 (Nat.le_trans hb.size hch.size)⟩, h.vlt, ⟨h.mw2.1, Nat.le_trans h.mw2.2 (Nat.le_trans hb.size hch.size)⟩⟩
 ·rw [hc2]; exact hch.row h2 (hne _ _ h2)
 ·obtain ⟨L, hl⟩ := h.l
  have hl2 := hl.bel hb
  exact ⟨L, hl2.map, hl2.row.box hcur (by decide) hch, fun y hy => (hl2.own y hy).box hcur (by decide) hch⟩
 ·rw [List.map_set, ← h.map]
  apply List.ext_getElem?
  intro t
  rw [List.getElem?_set]
  split
  ·next e => subst e; rw [List.length_map, if_pos hkl, List.getElem?_map, hy]; rfl
  ·rfl
 ·rw [hg]; exact hcell
 ·intro i z hi hz
  rw [List.getElem?_set] at hz
  split at hz
  ·next e =>
   first
    | rw [if_pos hkl] at hz
    | skip
   obtain rfl := Option.some.inj hz
   simp only
   rw [hm]
   exact ho.box hcur (by decide) hch
  ·next e => exact ((h.own i z (by omega) hz).bel hb).box hcur (by decide) hch
 ·intro i hi
  rw [List.getElem?_set, if_neg (by omega)]
  exact h.rest i (by omega)
theorem Cv.pm {W wr : World} {mid mi2 b b2 : Nat} {o2 : Option Obj} {s : GP} {x : Px} {LR L' : List (GR × GA)} {k : Nat} (h : Cv W wr mid mi2 b b2 o2 s x LR L' k) (hk : s.reads.length = k) (hLR : LR.map (·.1) = s.reads) : Pv W.heap.size wr s x := ⟨h.m, ⟨mid, mi2, h.mw.1, h.mw2.1, h.mlt, h.vlt, ⟨h.b, h.l, h.v, h.f, ⟨L', h.map.trans hLR, h.r, fun y hy => by
 obtain ⟨i, hi, e⟩ := List.getElem_of_mem hy
 exact h.own i y (by have := h.len; omega) (by rw [List.getElem?_eq_getElem hi, e])⟩⟩⟩, h.dv⟩
set_option maxRecDepth 100000 in
set_option maxHeartbeats 8000000 in
theorem clone_v {W : World} {s : GP} {x : Px} (h : Gp W s x) (hM : s.M.length ≤ 17592186044416) (hB : s.B.length ≤ 17592186044416) (hl : s.log.length ≤ 1000000) (hlm : ∀ e ∈ s.log, e.m.length ≤ 17592186044416) (hv : s.votes.length ≤ 17592186044416) (hf : s.fol.length ≤ 1000000) (hr : s.reads.length ≤ 1000000) (hra : ∀ r ∈ s.reads, r.a.length ≤ 17592186044416) : Calls Tryz.prog 41 #[.agg (gc s x)] W fun e w' => ∃ x', e = .returned (.agg (gc s x')) ∧ Pv W.heap.size w' s x' ∧ Bel W w' := by
 obtain ⟨LG, hLG, hSG, hGm⟩ := h.l
 obtain ⟨LR, hLR, hSR, hGa⟩ := h.r
 have hLGn : LG.length = s.log.length := by rw [← hLG, List.length_map]
 have hLRn : LR.length = s.reads.length := by rw [← hLR, List.length_map]
 have HM : Hid (∀ W', Bel W W' → Calls Tryz.prog 99 #[.slice x.aM s.M.length x.cM] W' fun e w' => ∃ a' c', e = .returned (.slice a' s.M.length c') ∧ E3.O W.heap.size w' (.slice a' s.M.length c') s.M ∧ Bel W' w') := jd (fun W' hb => (clone3w rfl (h.m.bel hb) (by omega)).mono (fun e w' ⟨a', c', he, ho, hb'⟩ => ⟨a', c', he, ho.mono hb.size, hb'⟩))
 have HBm : Hid (∀ (B0 : Nat) (W' : World), Bel W W' → B0 ≤ W'.heap.size → Calls Tryz.prog 99 #[.slice x.aB s.B.length x.cB] W' fun e w' => ∃ a' c', e = .returned (.slice a' s.B.length c') ∧ E3.O B0 w' (.slice a' s.B.length c') s.B ∧ Bel W' w') := jd (fun B0 W' hb hB => (clone3w rfl (h.b.bel hb) (by omega)).mono (fun e w' ⟨a', c', he, ho, hb'⟩ => ⟨a', c', he, ho.mono hB, hb'⟩))
 have HV : Hid (∀ (B0 : Nat) (W' : World), Bel W W' → B0 ≤ W'.heap.size → Calls Tryz.prog 99 #[.slice x.aV s.votes.length x.cV] W' fun e w' => ∃ a' c', e = .returned (.slice a' s.votes.length c') ∧ (E3.O B0 w' (.slice a' s.votes.length c') s.votes ∧ ∀ k, (Value.slice a' s.votes.length c').ownBlock = some k → W'.heap.size ≤ k) ∧ Bel W' w') := jd (fun B0 W' hb hB => (clone3w rfl (h.v.bel hb) (by omega)).mono (fun e w' ⟨a', c', he, ho, hb'⟩ => ⟨a', c', he, ⟨ho.mono hB, fun k hk => (ho.lt hk).1⟩, hb'⟩))
 have HF : Hid (∀ (B0 : Nat) (W' : World), Bel W W' → B0 ≤ W'.heap.size → Calls Tryz.prog 100 #[.slice x.aF s.fol.length x.cF] W' fun e w' => ∃ a' c', e = .returned (.slice a' s.fol.length c') ∧ E65.O B0 w' (.slice a' s.fol.length c') s.fol ∧ Bel W' w') := jd (fun B0 W' hb hB => (clone65 rfl (h.f.bel hb) (by omega)).mono (fun e w' ⟨a', c', he, ho, hb'⟩ => ⟨a', c', he, ho.mono hB, hb'⟩))
 have HL : Hid (∀ (B0 : Nat) (W' : World), Bel W W' → B0 ≤ W'.heap.size → Calls Tryz.prog 101 #[.slice x.aL s.log.length x.cL] W' fun e w' => ∃ a' c', e = .returned (.slice a' s.log.length c') ∧ (∃ L, Ll B0 w' a' c' s.log L) ∧ Bel W' w') := jd (fun B0 W' hb hB => (entries_g (L := LG) hLGn (hSG.bel hb) (hGm.bel hb) hl (fun y hy => hlm _ (by rw [← hLG]; exact List.mem_map_of_mem hy))).mono (fun e w' ⟨a', c', L', he, hm, ho, hoo, hb'⟩ => ⟨a', c', he, ⟨L', hm.trans hLG, ho.mono hB, fun y hy => (hoo y hy).mono hB⟩, hb'⟩))
 have HR : Hid (∀ (B0 : Nat) (W' : World), Bel W W' → B0 ≤ W'.heap.size → Calls Tryz.prog 102 #[.slice x.aR s.reads.length x.cR] W' fun e w' => ∃ a' c', e = .returned (.slice a' s.reads.length c') ∧ (∃ L, Lr0 B0 w' a' c' s.reads L LR) ∧ Bel W' w') := jd (fun B0 W' hb hB => (cloneR hLRn (hSR.bel hb) (by omega)).mono (fun e w' ⟨a', c', he, ho, hb'⟩ => ⟨a', c', he, ⟨LR, hLRn, rfl, ho.mono hB, fun _ _ => rfl⟩, hb'⟩))
 have HC : Hid (∀ (B0 : Nat) (y : GR × GA) (w' : World), y ∈ LR → Bel W w' → B0 ≤ w'.heap.size → Calls Tryz.prog 99 #[.slice y.2.a y.1.a.length y.2.c] w' fun e w'' => ∃ a' c', e = .returned (.slice a' y.1.a.length c') ∧ E3.O B0 w'' (.slice a' y.1.a.length c') y.1.a ∧ Bel w' w'') := jd (fun B0 y w' hy hb hB => (clone3w rfl ((hGa y hy).bel hb) (by have := hra _ (by rw [← hLR]; exact List.mem_map_of_mem hy); omega)).mono (fun e w'' ⟨a', c', he, ho, hb'⟩ => ⟨a', c', he, ho.mono hB, hb'⟩))
 have HLR := jd hLR
 have HRL := jd hr
 clear h hM hB hl hlm hv hf hr hra hLG hSG hGm hLR hSR hGa hLGn hLRn
 go_enter Tryz.func41, Tryz.ntmps41
 go_wp2_with (first
  | (refine bx_box rfl 31 _ rfl (gc s x) rfl ?_; intro b w0 hr0 hs0 hb0; have HR0 := jd hr0; have HRz := jd hr0; have HB0 := jd (aI hb0 (Nat.le_of_eq hs0)); clear hr0 hs0 hb0)
  | (refine bx_new rfl 31 rfl _ Tryz.zeroP ?_; intro b2 w1 hr1 hs1 hb1; have HR1 := jd hr1; have HS1 := jd hs1; replace HR0 := jd (hb1.row (ju HR0)); replace HB0 := jd (aI ((ju HB0).1.trans hb1) (aI (ju HB0).2 (Nat.le_trans (ju HB0).1.size (Nat.le_of_eq hs1)))); clear hr1 hs1 hb1))
 go_frame
 rename_i Q1 K1 hK1
 have HRb := jd (ju HR1)
 have HNE : Hid (b2 ≠ b) := jd (fun e => by have := lt_of_some (ju HRz); have := ju HS1; omega)
 have key1 : ∀ (mid : Nat) (a7 a10 : Option Addr) (c7 c10 : Nat) (w' : World), w'.heap[b]? = some (.cells (gc s { x with aM := a7, cM := c7, aB := a10, cB := c10 }) 31) → w'.heap[b2]? = w1.heap[b2]? → E3.O W.heap.size w' (.slice a7 s.M.length c7) s.M → E3.O mid w' (.slice a10 s.B.length c10) s.B → (W.heap.size ≤ mid ∧ mid ≤ w'.heap.size) → (∀ k, (Value.slice a7 s.M.length c7).ownBlock = some k → k < mid) → Bel W w' → K1 { tmps := #[.agg (gc s x), .pointer (some ⟨b, 0, none⟩), .pointer (some ⟨b2, 0, none⟩), undef, .pointer (some ⟨b, 1, none⟩), .slice x.aM s.M.length x.cM, .slice a7 s.M.length c7, .pointer (some ⟨b, 8, none⟩), .slice x.aB s.B.length x.cB, .slice a10 s.B.length c10, .pointer (some ⟨b, 1, none⟩), .pointer (some ⟨b, 8, none⟩), undef, undef, undef, undef, undef, undef, undef, undef, undef, undef, undef, undef, undef, undef, undef, undef, undef, undef, undef, undef, undef, undef, undef, undef, undef, undef, undef, undef, undef, undef, undef, undef, undef, undef, undef, undef], defers := [] } w' := by
  intro mid a7 a10 c7 c10 w2 hr2 hb2 o7 o10 hmw hml bl2
  have HMW := jd hmw
  have HML := jd hml
  clear hmw hml
  have HR2 := jd hr2
  have HX2 := jd (aI hb2 (aI o7 (aI o10 bl2)))
  have hsz : b2 < w2.heap.size := lt_of_some (hb2.trans (ju HRb))
  clear hr2 hb2 o7 o10 bl2
  refine hK1 _ _ ?_
  go_wp2_with fail
  rename_i K2 hK2
  have key2 : ∀ (mi2 : Nat) (a15 a18 : Option Addr) (c15 c18 : Nat) (w' : World), w'.heap[b]? = some (.cells (gc s { x with aM := a7, cM := c7, aB := a10, cB := c10, aV := a15, cV := c15, aF := a18, cF := c18 }) 31) → w'.heap[b2]? = w1.heap[b2]? → E3.O W.heap.size w' (.slice a7 s.M.length c7) s.M → E3.O mid w' (.slice a10 s.B.length c10) s.B → E3.O mid w' (.slice a15 s.votes.length c15) (s.votes) → E65.O mid w' (.slice a18 s.fol.length c18) (s.fol) → (mid ≤ mi2 ∧ mi2 ≤ w'.heap.size) → (∀ k j, (Value.slice a15 s.votes.length c15).ownBlock = some k → (Value.slice a7 s.M.length c7).ownBlock = some j ∨ (Value.slice a10 s.B.length c10).ownBlock = some j → j < k) → (∀ k, (Value.slice a15 s.votes.length c15).ownBlock = some k → k < mi2) → Bel W w' → K2 { tmps := #[.agg (gc s x), .pointer (some ⟨b, 0, none⟩), .pointer (some ⟨b2, 0, none⟩), undef, .pointer (some ⟨b, 1, none⟩), .slice x.aM s.M.length x.cM, .slice a7 s.M.length c7, .pointer (some ⟨b, 8, none⟩), .slice x.aB s.B.length x.cB, .slice a10 s.B.length c10, .pointer (some ⟨b, 1, none⟩), .pointer (some ⟨b, 8, none⟩), .pointer (some ⟨b, 14, none⟩), .slice x.aV s.votes.length x.cV, .slice a15 s.votes.length c15, .pointer (some ⟨b, 15, none⟩), .slice x.aF s.fol.length x.cF, .slice a18 s.fol.length c18, .pointer (some ⟨b, 14, none⟩), .pointer (some ⟨b, 15, none⟩), undef, undef, undef, undef, undef, undef, undef, undef, undef, undef, undef, undef, undef, undef, undef, undef, undef, undef, undef, undef, undef, undef, undef, undef, undef, undef, undef, undef], defers := [] } w' := by
   intro mi2 a15 a18 c15 c18 w5 hr5 hb5 o7 o10 o15 o18 hm5 hdv hvl bl5
   have HVL := jd hvl
   clear hvl
   have HM5 := jd hm5
   clear hm5
   have HR5 := jd hr5
   have HX5 := jd (aI hb5 (aI o7 (aI o10 (aI o15 (aI o18 bl5)))))
   have hsz5 : b2 < w5.heap.size := lt_of_some (hb5.trans (ju HRb))
   have HDV := jd hdv
   clear hr5 hb5 o7 o10 o15 o18 bl5 hdv
   refine hK2 _ _ ?_
   go_wp2_with fail
   rename_i K3 hK3
   have key3 : ∀ (a23 a26 : Option Addr) (c23 c26 : Nat) (w' : World), w'.heap[b]? = some (.cells (gc s { x with aM := a7, cM := c7, aB := a10, cB := c10, aV := a15, cV := c15, aF := a18, cF := c18, aL := a23, cL := c23, aR := a26, cR := c26 }) 31) → w'.heap[b2]? = w1.heap[b2]? → E3.O W.heap.size w' (.slice a7 s.M.length c7) s.M → E3.O mid w' (.slice a10 s.B.length c10) s.B → E3.O mid w' (.slice a15 s.votes.length c15) (s.votes) → E65.O mid w' (.slice a18 s.fol.length c18) (s.fol) → (mid ≤ mi2 ∧ mi2 ≤ w'.heap.size) → (∀ k j, (Value.slice a15 s.votes.length c15).ownBlock = some k → (Value.slice a7 s.M.length c7).ownBlock = some j ∨ (Value.slice a10 s.B.length c10).ownBlock = some j → j < k) → (∃ L, Ll mi2 w' a23 c23 s.log L) → (∃ L, Lr0 mi2 w' a26 c26 s.reads L LR) → Bel W w' → K3 { tmps := #[.agg (gc s x), .pointer (some ⟨b, 0, none⟩), .pointer (some ⟨b2, 0, none⟩), undef, .pointer (some ⟨b, 1, none⟩), .slice x.aM s.M.length x.cM, .slice a7 s.M.length c7, .pointer (some ⟨b, 8, none⟩), .slice x.aB s.B.length x.cB, .slice a10 s.B.length c10, .pointer (some ⟨b, 1, none⟩), .pointer (some ⟨b, 8, none⟩), .pointer (some ⟨b, 14, none⟩), .slice x.aV s.votes.length x.cV, .slice a15 s.votes.length c15, .pointer (some ⟨b, 15, none⟩), .slice x.aF s.fol.length x.cF, .slice a18 s.fol.length c18, .pointer (some ⟨b, 14, none⟩), .pointer (some ⟨b, 15, none⟩), .pointer (some ⟨b, 10, none⟩), .slice x.aL s.log.length x.cL, .slice a23 s.log.length c23, .pointer (some ⟨b, 17, none⟩), .slice x.aR s.reads.length x.cR, .slice a26 s.reads.length c26, .pointer (some ⟨b, 10, none⟩), .pointer (some ⟨b, 17, none⟩), undef, undef, undef, undef, undef, undef, undef, undef, undef, undef, undef, undef, undef, undef, undef, undef, undef, undef, undef, undef], defers := [] } w' := by
    intro a23 a26 c23 c26 w8 hr8 hb8 o7 o10 o15 o18 hm8 hdv o23 o26 bl8
    have y10 : w8.cell? ⟨b, 10, none⟩ = some (.slice a23 s.log.length c23) := (Bg.of hr8).c10
    obtain ⟨x8, hx8⟩ : ∃ x8 : Px, x8 = { x with aM := a7, cM := c7, aB := a10, cB := c10, aV := a15, cV := c15, aF := a18, cF := c18, aL := a23, cL := c23, aR := a26, cR := c26 } := ⟨_, rfl⟩
    rw [← hx8] at hr8
    have HJ : Hid (∃ L', Cv W w8 mid mi2 b b2 w1.heap[b2]? s x8 LR L' 0) := jd (by
     obtain ⟨L', q1, q2, q3, q4⟩ := o26
     refine ⟨L', ⟨hr8, hb8, ?_, ?_, ?_, ?_, ?_, ?_, ?_, q1, q2, ?_, fun i y h => absurd h (Nat.not_lt_zero _), q4, bl8, ⟨(ju HMW).1, Nat.le_trans hm8.1 hm8.2⟩, ?_, hm8⟩⟩
     all_goals first | (rw [hx8]; assumption) | (rw [hx8]; exact q3) | (rw [hx8]; exact ju HML) | (rw [hx8]; exact ju HVL))
    have e26 : x8.aR = a26 ∧ x8.cR = c26 := by rw [hx8]; exact ⟨rfl, rfl⟩
    have HX8 := jd hx8
    clear hdv hr8 hb8 o7 o10 o15 o18 hm8 o23 o26 bl8 hx8
    refine hK3 _ _ ?_
    have z17 : w8.cell? ⟨b, 17, none⟩ = some (.slice a26 s.reads.length c26) := by obtain ⟨L', h⟩ := HJ.out; rw [← e26.1, ← e26.2]; exact (Bg.of h.row).c17
    clear y10
    generalize hrn : s.reads.length = rn at *
    have HRN := jd hrn
    clear hrn
    go_wp2_with fail
    go_loopw [31] (fun vk wr => ∃ k : Nat, k ≤ rn ∧ vk = .int .i64 k ∧ Hid (∃ L', Cv W wr mid mi2 b b2 w1.heap[b2]? s x8 LR L' k)) (fun vk _ => rn - (intOf vk).toNat)
    case atStart => exact ⟨0, Nat.zero_le _, rfl, HJ⟩
    case round =>
     obtain ⟨k, hk, rfl, HJr⟩ := hrel
     obtain ⟨L', hJ⟩ := HJr.out
     by_cases hlt : k < rn
     ·have hkn : (k : Int) < rn := by omega
      have hrl : rn ≤ 1000000 := by have h9 := ju HRL; (first | rwa [ju HRN] at h9 | exact h9)
      obtain ⟨g, q0, q1, q2, q3, q4, q5⟩ := hJ.look (by rw [ju HRN]; exact hlt)
      rw [e26.1, e26.2, ju HRN] at q0
      have HQ := jd hJ
      obtain ⟨y, hy⟩ : ∃ y, L'[k]? = some y := ⟨_, List.getElem?_eq_getElem (by rw [hJ.len, ju HRN]; exact hlt)⟩
      have HC2 : Hid (∀ w', Bel wr w' → Calls Tryz.prog 99 #[.slice y.2.a y.1.a.length y.2.c] w' fun e w'' => ∃ a' c', e = .returned (.slice a' y.1.a.length c') ∧ E3.O mi2 w'' (.slice a' y.1.a.length c') y.1.a ∧ Bel w' w'') := jd (fun w' hb => (ju HC) mi2 y w' (hJ.inL hy) (hJ.bel.trans hb) (Nat.le_trans hJ.mw2.2 hb.size))
      have r2 := q3 y hy
      have HY := jd hy
      have HQ5 := jd q5
      clear hJ q3 hy q5
      obtain rfl : a26 = some ⟨g, 0, none⟩ := by rw [← e26.1]; exact q1
      generalize hym : y.1.a = ym at *
      generalize y.2 = ya at *
      have HYM := jd hym
      clear hym
      go_wp2_with fail
      go_region_with (first
       | (go_at_call 99; refine ((ju HC2) _ (Bel.refl wr).drew).mono ?_; rintro e w9 ⟨a9, c9, rfl, ho9, hb9'⟩; have hb9 := (Bel.refl wr).drew.trans hb9'; have z2 := hb9.cell r2; have z17' := hb9.cell q0; have zf : w9.frozen? ⟨g, k * 3 + 2, none⟩ = false := (ju HQ5) w9 hb9; have HO9 := jd (aI ho9 hb9); clear ho9 hb9 hb9'))
      all_goals (first | go_wp2_with fail | skip)
      all_goals
       refine ⟨⟨k + 1, by omega, by go_num, jd ((ju HQ).next (by rw [ju HRN]; exact hlt) q1 (ju HY) (ju HYM) (ju HO9).2 (ju HO9).1 ⟨_, ju HRb⟩)⟩, ?_⟩
       simp [intOf]
       omega
     ·obtain rfl : k = rn := by omega
      have HQ := jd hJ
      clear hJ
      go_wp2_with (first
       | (refine bx_ldG rfl 31 _ rfl b rfl (gc s x8) _ (ju HQ).row u31 (zP _ _) ?_)
       | (refine bx_st rfl 31 _ _ rfl b2 (gc s x8) _ rfl rfl ((ju HQ).row2.trans (ju HRb)) (zP _ _) rfl (gc_one _ _) ?_; intro w9 hr9 hc9; have HR9 := jd (aI hr9 hc9); clear hr9 hc9))
      refine bodyPost_ret (res1 (p := 2) rfl u31 (zP _ _) (ju HR9).1 _ rfl) rfl ⟨_, rfl, ?_, bel_off (ju HQ).bel (ju HR9).2 (ju HB0).2.2⟩
      exact ((ju HQ).pm (ju HRN) (ju HLR)).box ((ju HQ).row2.trans (ju HRb)) (ju HR9).2
   have y10 : w5.cell? ⟨b, 10, none⟩ = some (.slice x.aL s.log.length x.cL) := (Bg.of (ju HR5)).c10
   have y17 : w5.cell? ⟨b, 17, none⟩ = some (.slice x.aR s.reads.length x.cR) := (Bg.of (ju HR5)).c17
   have HK3 := jd key3
   clear key3
   go_region_with (first
    | (go_at_call 101; refine ((ju HL) mi2 _ (Bel.drew (ju HX5).2.2.2.2.2) (ju HM5).2).mono ?_; rintro e w33 ⟨a23, c23, rfl, ho3, hb3⟩; have z17 : w33.cell? ⟨b, 17, none⟩ = some (.slice x.aR s.reads.length x.cR) := (Bg.of (hb3.row (ju HR5))).c17; have HO3 := jd (aI ho3 hb3); clear ho3 hb3)
    | (go_at_call 102; refine ((ju HR) mi2 _ ((Bel.drew (ju HX5).2.2.2.2.2).trans (ju HO3).2) (Nat.le_trans (ju HM5).2 (ju HO3).2.size)).mono ?_; rintro e w34 ⟨a26, c26, rfl, ho3', hb3'⟩; have hr3 := hb3'.row ((ju HO3).2.row (ju HR5)); have f10 := free_row (p := 10) hr3; have f17 := free_row (p := 17) hr3; have u10 : w34.cell? ⟨b, 10, none⟩ = some (.slice x.aL s.log.length x.cL) := (Bg.of hr3).c10; have u17 : w34.cell? ⟨b, 17, none⟩ = some (.slice x.aR s.reads.length x.cR) := (Bg.of hr3).c17; have HR3x := jd hr3; have HP3 := jd (aI ho3' hb3'); clear hr3 hb3' ho3'))
   all_goals
    obtain ⟨q1, q2⟩ := set2_g (x' := { x with aM := a7, cM := c7, aB := a10, cB := c10, aV := a15, cV := c15, aF := a18, cF := c18, aL := a23, cL := c23, aR := a26, cR := c26 }) (i := 10) (j := 17) (v := .slice a23 s.log.length c23) (u := .slice a26 s.reads.length c26) (ju HR3x) rfl
    have hbb := (((Bel.refl w5).drew.trans (ju HO3).2).trans (ju HP3).2)
    exact (ju HK3) _ _ _ _ _ q1 ((q2.block b2 (Nat.lt_of_lt_of_le hsz5 hbb.size) (ju HNE)).trans ((hbb.block b2 hsz5).trans (ju HX5).1)) ((((ju HX5).2.1).bel hbb).box (ju HR3x) (by decide) q2) ((((ju HX5).2.2.1).bel hbb).box (ju HR3x) (by decide) q2) ((((ju HX5).2.2.2.1).bel hbb).box (ju HR3x) (by decide) q2) ((((ju HX5).2.2.2.2.1).bel hbb).box (ju HR3x) (by decide) q2) ⟨(ju HM5).1, Nat.le_trans (ju HM5).2 (Nat.le_trans hbb.size q2.size)⟩ (ju HDV) (by obtain ⟨L', q⟩ := (ju HO3).1; exact ⟨L', (q.bel (ju HP3).2).box (ju HR3x) q2⟩) (by obtain ⟨L', q⟩ := (ju HP3).1; exact ⟨L', q.box (ju HR3x) q2⟩) (bel_off ((ju HX5).2.2.2.2.2.trans hbb) q2 (ju HB0).2.1)
  have y14 : w2.cell? ⟨b, 14, none⟩ = some (.slice x.aV s.votes.length x.cV) := (Bg.of (ju HR2)).c14
  have y15 : w2.cell? ⟨b, 15, none⟩ = some (.slice x.aF s.fol.length x.cF) := (Bg.of (ju HR2)).c15
  have HK2 := jd key2
  clear key2
  go_region_with (first
   | (go_at_call 99; refine ((ju HV) mid _ (Bel.drew (ju HX2).2.2.2) (ju HMW).2).mono ?_; rintro e w23 ⟨a15, c15, rfl, ho2, hb2⟩; have z15 : w23.cell? ⟨b, 15, none⟩ = some (.slice x.aF s.fol.length x.cF) := (Bg.of (hb2.row (ju HR2))).c15; have HO2 := jd (aI ho2 hb2); clear ho2 hb2)
   | (go_at_call 100; refine ((ju HF) mid _ ((Bel.drew (ju HX2).2.2.2).trans (ju HO2).2) (Nat.le_trans (ju HMW).2 (ju HO2).2.size)).mono ?_; rintro e w24 ⟨a18, c18, rfl, ho2', hb2'⟩; have hr2 := hb2'.row ((ju HO2).2.row (ju HR2)); have f14 := free_row (p := 14) hr2; have f15 := free_row (p := 15) hr2; have u14 : w24.cell? ⟨b, 14, none⟩ = some (.slice x.aV s.votes.length x.cV) := (Bg.of hr2).c14; have u15 : w24.cell? ⟨b, 15, none⟩ = some (.slice x.aF s.fol.length x.cF) := (Bg.of hr2).c15; have HR2x := jd hr2; have HP2 := jd (aI ho2' hb2'); clear hr2 hb2' ho2'))
  all_goals
   obtain ⟨q1, q2⟩ := set2_g (x' := { x with aM := a7, cM := c7, aB := a10, cB := c10, aV := a15, cV := c15, aF := a18, cF := c18 }) (i := 14) (j := 15) (v := .slice a15 s.votes.length c15) (u := .slice a18 s.fol.length c18) (ju HR2x) rfl
   have hbb := (((Bel.refl w2).drew.trans (ju HO2).2).trans (ju HP2).2)
   exact (ju HK2) w23.heap.size _ _ _ _ _ q1 ((q2.block b2 (Nat.lt_of_lt_of_le hsz hbb.size) (ju HNE)).trans ((hbb.block b2 hsz).trans (ju HX2).1)) ((((ju HX2).2.1).bel hbb).box (ju HR2x) (by decide) q2) ((((ju HX2).2.2.1).bel hbb).box (ju HR2x) (by decide) q2) (((ju HO2).1.1.bel (ju HP2).2).box (ju HR2x) (by decide) q2) ((ju HP2).1.box (ju HR2x) (by decide) q2) ⟨Nat.le_trans (ju HMW).2 (Nat.le_trans (Nat.le_refl _ : w2.heap.size ≤ w2.drew.heap.size) (ju HO2).2.size), Nat.le_trans (ju HP2).2.size q2.size⟩ (fun k j hk hj => Nat.lt_of_lt_of_le (hj.elim (fun e => ((ju HX2).2.1.lt e).2) (fun e => ((ju HX2).2.2.1.lt e).2)) ((ju HO2).1.2 k hk)) (fun k hk => ((ju HO2).1.1.lt hk).2) (bel_off ((ju HX2).2.2.2.trans hbb) q2 (ju HB0).2.1)
 have y1 : w1.cell? ⟨b, 1, none⟩ = some (.slice x.aM s.M.length x.cM) := (Bg.of (ju HR0)).c1
 have y8 : w1.cell? ⟨b, 8, none⟩ = some (.slice x.aB s.B.length x.cB) := (Bg.of (ju HR0)).c8
 have HK1 := jd key1
 clear key1
 go_region_with (first
  | (go_at_call 99; refine ((ju HM) _ (Bel.drew (ju HB0).1)).mono ?_; rintro e w13 ⟨a7, c7, rfl, ho1, hb1⟩; have z8 : w13.cell? ⟨b, 8, none⟩ = some (.slice x.aB s.B.length x.cB) := (Bg.of (hb1.row (ju HR0))).c8; have HO1 := jd (aI ho1 hb1); clear ho1 hb1)
  | (go_at_call 99; refine ((ju HBm) w13.heap.size _ ((Bel.drew (ju HB0).1).trans (ju HO1).2) (Nat.le_refl _)).mono ?_; rintro e w14 ⟨a10, c10, rfl, ho1', hb1'⟩; have hr1 := hb1'.row ((ju HO1).2.row (ju HR0)); have f1 := free_row (p := 1) hr1; have f8 := free_row (p := 8) hr1; have u1 : w14.cell? ⟨b, 1, none⟩ = some (.slice x.aM s.M.length x.cM) := (Bg.of hr1).c1; have u8 : w14.cell? ⟨b, 8, none⟩ = some (.slice x.aB s.B.length x.cB) := (Bg.of hr1).c8; have HR1x := jd hr1; have HP1 := jd (aI ho1' hb1'); clear hr1 hb1' ho1'))
 all_goals
  obtain ⟨q1, q2⟩ := set2_g (x' := { x with aM := a7, cM := c7, aB := a10, cB := c10 }) (i := 1) (j := 8) (v := .slice a7 s.M.length c7) (u := .slice a10 s.B.length c10) (ju HR1x) rfl
  have hbb := (((Bel.refl w1).drew.trans (ju HO1).2).trans (ju HP1).2)
  exact (ju HK1) w13.heap.size _ _ _ _ _ q1 ((q2.block b2 (Nat.lt_of_lt_of_le (lt_of_some (ju HRb)) hbb.size) (ju HNE)).trans ((hbb.block b2 (lt_of_some (ju HRb))).trans rfl)) (((ju HO1).1.bel (ju HP1).2).box (ju HR1x) (by decide) q2) ((ju HP1).1.box (ju HR1x) (by decide) q2) ⟨Nat.le_trans (ju HB0).1.size (Nat.le_trans (Nat.le_refl _ : w1.heap.size ≤ w1.drew.heap.size) (ju HO1).2.size), Nat.le_trans (ju HP1).2.size q2.size⟩ (fun k hk => ((ju HO1).1.lt hk).2) (bel_off ((ju HB0).1.trans hbb) q2 (ju HB0).2.1)
end Go.Proofs.YthekbhliokcpcaaGreat
