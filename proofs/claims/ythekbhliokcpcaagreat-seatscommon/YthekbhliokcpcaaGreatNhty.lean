/- vote.Term, vote.Members of any member; slices.Clip at entries; trim.behind. Rows that are read, and of what type their blocks are. -/
import Derived.Test.YthekbhliokcpcaaGreatHen
import Derived.Test.YthekbhliokcpcaaGreatHbk
namespace Go.Proofs.YthekbhliokcpcaaGreat
open Go.RowKit Go.Maps Go.Sort
/-- The term of an index. -/
def GP.tAt (s : GP) (i : Int) : Option Int := match s.upTo i with
  | none => none
  | some 0 => some s.baseT
  | some (k + 1) => (s.log[k]?).map (·.t)
set_option maxRecDepth 100000 in
set_option maxHeartbeats 4000000 in
theorem term_g {W : World} {s : GP} {x : Px} (h : SlG W x.aL s.log) (i : Int) (h0 : 0 ≤ s.base) (hi : 0 ≤ i ∧ i ≤ 18446744073709551615) (hl : s.log.length ≤ 1000000) : Calls Tryz.prog 74 #[.agg (gc s x), .int .u64 i] W fun e w' => e = .returned (.tuple #[.int .u64 ((s.tAt i).getD 0), .bool (s.tAt i).isSome]) ∧ Bel W w' := by
  obtain ⟨aL, hxr⟩ : ∃ a, a = x.aL := ⟨_, rfl⟩
  rw [← hxr] at h
  have HXR := hide hxr
  clear hxr
  have HB : Hid (∀ W', Calls Tryz.prog 132 #[.agg (gc s x), .int .u64 i] W' fun e w' => e = .returned (.tuple #[.int .i64 ((s.upTo i).getD 0 : Nat), .bool (s.upTo i).isSome]) ∧ Bel W' w') := hide (fun W' => behind_g i h0 hi hl)
  have hup : ∀ k, s.upTo i = some k → k ≤ s.log.length := fun k hk => by
    unfold GP.upTo at hk
    split at hk
    · cases hk
    · cases hk; omega
  unfold GP.tAt
  cases hu : s.upTo i with
  | none =>
    rw [hu] at HB
    simp only [Option.getD_none, Option.isSome_none] at HB ⊢
    clear h hup hu h0 hi hl
    go_enter Tryz.func74, Tryz.ntmps74
    go_wp2_with (first
      | (refine bx_box rfl 31 _ rfl (gc s x) rfl ?_; intro b w0 hr0 hs0 hb0; have HR0 := hide hr0; have HB0 := hide hb0; clear hr0 hs0 hb0)
      | (refine bx_ld rfl 31 _ rfl b rfl (gc s x) _ (unhide HR0) Tryz.underlying31 (Tryz.sizeP s x) ?_)
      | (go_at_call 132; refine ((unhide HB) _).mono ?_; rintro e w1 ⟨rfl, hb1⟩; obtain ⟨y0, y1, y2, y3, y4, y5, y6, y7, y8, y9, y10, y11, y12, y13, y14, y15, y16, y17⟩ := Bg.of (hb1.row (unhide HR0)); have HB1 := hide ((unhide HB0).trans hb1); clear hb1))
    go_ret2
    exact ⟨rfl, unhide HB1⟩
  | some k =>
    have hk := hup k hu
    rw [hu] at HB
    simp only [Option.getD_some, Option.isSome_some] at HB
    cases k with
    | zero =>
      simp only [Option.getD_some, Option.isSome_some]
      rw [show ((0 : Nat) : Int) = 0 from rfl] at HB
      clear h hup hu h0 hi hl hk
      go_enter Tryz.func74, Tryz.ntmps74
      go_wp2_with (first
        | (refine bx_box rfl 31 _ rfl (gc s x) rfl ?_; intro b w0 hr0 hs0 hb0; have HR0 := hide hr0; have HB0 := hide hb0; clear hr0 hs0 hb0)
        | (refine bx_ld rfl 31 _ rfl b rfl (gc s x) _ (unhide HR0) Tryz.underlying31 (Tryz.sizeP s x) ?_)
        | (go_at_call 132; refine ((unhide HB) _).mono ?_; rintro e w1 ⟨rfl, hb1⟩; obtain ⟨y0, y1, y2, y3, y4, y5, y6, y7, y8, y9, y10, y11, y12, y13, y14, y15, y16, y17⟩ := Bg.of (hb1.row (unhide HR0)); have HB1 := hide ((unhide HB0).trans hb1); clear hb1))
      go_ret2
      exact ⟨rfl, unhide HB1⟩
    | succ k =>
      obtain ⟨L, hL, ⟨g, off, hg, hR⟩, _⟩ := h
      have hLn : L.length = s.log.length := by rw [← hL, List.length_map]
      have hkL : k < L.length := by omega
      obtain rfl := hg (by omega)
      have e1 : s.log[k]? = some L[k].1 := by rw [← hL, List.getElem?_map, List.getElem?_eq_getElem hkL]; rfl
      simp only [e1, Option.map_some, Option.getD_some, Option.isSome_some]
      have r0 := (EG_cell hR k hkL).1
      have HR9 := hide r0
      generalize L[k].1.t = t at *
      have hw : IntKind.i64.wrap (k : Int) = k := wrapI (by omega) (by omega)
      have hz : ((k : Int) + 1 == 0) = false := beq_eq_false_iff_ne.2 (by omega)
      have hlt : (k : Int) < s.log.length := by omega
      generalize hsm : s.log.length = m at *
      clear hg hR hup hu h0 hi hl hk hkL hLn hL e1 r0
      go_enter Tryz.func74, Tryz.ntmps74
      go_wp2_with (first
        | (refine bx_box rfl 31 _ rfl (gc s x) rfl ?_; intro b w0 hr0 hs0 hb0; have HR0 := hide hr0; have HB0 := hide hb0; clear hr0 hs0 hb0)
        | (refine bx_ld rfl 31 _ rfl b rfl (gc s x) _ (unhide HR0) Tryz.underlying31 (Tryz.sizeP s x) ?_)
        | (go_at_call 132; refine ((unhide HB) _).mono ?_; rintro e w1 ⟨rfl, hb1⟩; obtain ⟨y0, y1, y2, y3, y4, y5, y6, y7, y8, y9, y10, y11, y12, y13, y14, y15, y16, y17⟩ := Bg.of (hb1.row (unhide HR0)); rw [hsm, ← unhide HXR] at y10; have r0 := ((unhide HB0).trans hb1).cell (unhide HR9); have HB1 := hide ((unhide HB0).trans hb1); clear hb1))
      go_ret2
      exact ⟨rfl, unhide HB1⟩
/-- The members as of an index; of none nobody. -/
def GP.mAt (s : GP) (i : Int) : List Int := match s.upTo i with
  | none => []
  | some k => memOf s.B (s.log.take k)
set_option maxRecDepth 100000 in
set_option maxHeartbeats 4000000 in
theorem membs_g {W : World} {s : GP} {x : Px} (h : SlG W x.aL s.log) (hB : Sl E3 W x.aB s.B) (i : Int) (h0 : 0 ≤ s.base) (hi : 0 ≤ i ∧ i ≤ 18446744073709551615) (hl : s.log.length ≤ 1000000) (hcap : s.log.length ≤ x.cL) (hB2 : s.B.length ≤ 17592186044416) (hm : ∀ e ∈ s.log, e.m.length ≤ 17592186044416) : Calls Tryz.prog 75 #[.agg (gc s x), .int .u64 i] W fun e w' => ∃ a' c', e = .returned (.slice a' (s.mAt i).length c') ∧ E3.O W.heap.size w' (.slice a' (s.mAt i).length c') (s.mAt i) ∧ Bel W w' := by
  have HB : Hid (∀ W', Calls Tryz.prog 132 #[.agg (gc s x), .int .u64 i] W' fun e w' => e = .returned (.tuple #[.int .i64 ((s.upTo i).getD 0 : Nat), .bool (s.upTo i).isSome]) ∧ Bel W' w') := hide (fun W' => behind_g i h0 hi hl)
  have hup : ∀ k, s.upTo i = some k → k ≤ s.log.length := fun k hk => by
    unfold GP.upTo at hk
    split at hk
    · cases hk
    · cases hk; omega
  unfold GP.mAt
  cases hu : s.upTo i with
  | none =>
    rw [hu] at HB
    simp only [Option.getD_none, Option.isSome_none] at HB ⊢
    clear h hup hu h0 hi hl hB hB2 hm hcap
    go_enter Tryz.func75, Tryz.ntmps75
    go_wp2_with (first
      | (refine bx_box rfl 31 _ rfl (gc s x) rfl ?_; intro b w0 hr0 hs0 hb0; have HR0 := hide hr0; have HB0 := hide hb0; clear hr0 hs0 hb0)
      | (refine bx_ld rfl 31 _ rfl b rfl (gc s x) _ (unhide HR0) Tryz.underlying31 (Tryz.sizeP s x) ?_)
      | (go_at_call 132; refine ((unhide HB) _).mono ?_; rintro e w1 ⟨rfl, hb1⟩; have HB1 := hide ((unhide HB0).trans hb1); clear hb1))
    go_ret
    exact ⟨_, _, rfl, El.O.nil _ _, unhide HB1⟩
  | some k =>
    have hk := hup k hu
    rw [hu] at HB
    simp only [Option.getD_some, Option.isSome_some] at HB ⊢
    obtain ⟨L, hL, hS, hG⟩ := h
    obtain ⟨mx, hmx⟩ : ∃ mx, mx = memX (s.B, ⟨x.aB, x.cB⟩) (L.take k) := ⟨_, rfl⟩
    have hmx1 : mx.1 = memOf s.B (s.log.take k) := by rw [hmx, memX_of, List.map_take, hL]
    have hmxl : mx.1.length ≤ 17592186044416 := by
      rw [hmx1]
      exact memOf_len _ _ hB2 (fun e he => hm e (List.mem_of_mem_take he))
    have H2 : Hid (∀ W', Bel W W' → Calls Tryz.prog 133 #[.agg (gc s x), .int .i64 k] W' fun e w' => e = .returned (.slice mx.2.a mx.1.length mx.2.c) ∧ Bel W' w') := hide (fun W' hb => by
      have := members_g hL (hS.bel hb) hl hcap k hk
      rwa [← hmx] at this)
    have H3 : Hid (∀ W', Bel W W' → Calls Tryz.prog 99 #[.slice mx.2.a mx.1.length mx.2.c] W' fun e w' => ∃ a' c', e = .returned (.slice a' mx.1.length c') ∧ E3.O W.heap.size w' (.slice a' mx.1.length c') mx.1 ∧ Bel W' w') := hide (fun W' hb => (clone3w rfl (by have := memX_sl (s.B, ⟨x.aB, x.cB⟩) (L.take k) (hB.bel hb) (fun y hy => (hG.bel hb) y (List.mem_of_mem_take hy)); rwa [← hmx] at this) (by omega)).mono (fun e w' ⟨a', c', he, ho, hb'⟩ => ⟨a', c', he, ho.mono hb.size, hb'⟩))
    rw [← hmx1]
    clear hup hu h0 hi hl hB hB2 hm hcap hk hS hG hmx hmx1 hmxl hL
    generalize mx.1 = M at *
    go_enter Tryz.func75, Tryz.ntmps75
    go_wp2_with (first
      | (refine bx_box rfl 31 _ rfl (gc s x) rfl ?_; intro b w0 hr0 hs0 hb0; have HR0 := hide hr0; have HB0 := hide hb0; clear hr0 hs0 hb0)
      | (refine bx_ld rfl 31 _ rfl b rfl (gc s x) _ (unhide HR0) Tryz.underlying31 (Tryz.sizeP s x) ?_)
      | (go_at_call 132; refine ((unhide HB) _).mono ?_; rintro e w1 ⟨rfl, hb1⟩; replace HR0 := hide (hb1.row (unhide HR0)); replace HB0 := hide ((unhide HB0).trans hb1); clear hb1)
      | (go_at_call 133; refine ((unhide H2) _ (unhide HB0)).mono ?_; rintro e w2 ⟨rfl, hb2⟩; replace HB0 := hide ((unhide HB0).trans hb2); clear hb2)
      | (go_at_call 99; refine ((unhide H3) _ (unhide HB0)).mono ?_; rintro e w3 ⟨a3, c3, rfl, ho3, hb3⟩; have HF := hide (And.intro ho3 ((unhide HB0).trans hb3)); clear ho3 hb3))
    go_ret
    exact ⟨_, _, rfl, (unhide HF).1, (unhide HF).2⟩
set_option maxRecDepth 100000 in
theorem clip_g (a : Option Addr) (n cap : Nat) (W : World) (hn : n ≤ cap) : Calls Tryz.prog 134 #[.slice a n cap] W fun e w' => e = .returned (.slice a n n) ∧ w' = W := by
  have hn0 : (0 : Int) ≤ n := by omega
  have hnc : (n : Int) ≤ cap := by omega
  go_enter Tryz.func134, Tryz.ntmps134
  go_wp2_with fail
  go_ret
  exact ⟨rfl, rfl⟩
end Go.Proofs.YthekbhliokcpcaaGreat
namespace Go.Proofs.YthekbhliokcpcaaGreat
open Go.RowKit Go.Maps
/-- A slice reads as this list, and its block is of the row's type. -/
def SlT {α : Type} (E : El α) (W : World) (a : Option Addr) (L : List α) : Prop := Sl E W a L ∧ ∀ g off, L.length ≠ 0 → a = some ⟨g, off, none⟩ → ∃ c fr, W.heap[g]? = some (.cells c E.e fr)
section
variable {α : Type} {E : El α} {W W' : World} {a : Option Addr} {L : List α}
theorem SlT.bel (h : SlT E W a L) (hb : Bel W W') : SlT E W' a L := ⟨h.1.bel hb, fun g off h0 ha => by
  obtain ⟨c, fr, hc⟩ := h.2 g off h0 ha
  exact ⟨c, fr, hb.row hc⟩⟩
theorem SlT.of {base n cap : Nat} (h : E.O base W (.slice a n cap) L) : SlT E W a L := ⟨(Sl.of h).1, fun g off _ ha => by
  subst ha
  obtain ⟨c, hc⟩ := h.block (k := g) rfl
  exact ⟨c, _, hc⟩⟩
theorem SlT.box {b : Nat} {cs : Array Value} {t : TypeId} (h : SlT E W a L) (hr : W.heap[b]? = some (.cells cs t)) (ht : E.e ≠ t) (hc : Ch (fun k => k = b) W W') : SlT E W' a L := by
  obtain ⟨⟨g, off, ha, hR⟩, hT⟩ := h
  by_cases h0 : L.length = 0
  · exact ⟨⟨g, off, fun h => absurd h0 h, fun j hj => by omega⟩, fun g' off' h => absurd h0 h⟩
  · have e := ha h0
    obtain ⟨c, fr, hg⟩ := hT g off h0 e
    have hne : ¬ g = b := fun e => by
      rw [e, hr] at hg
      injection (Option.some.inj hg) with _ h2
      exact ht h2.symm
    have hge := hc.block g (lt_of_some hg) hne
    refine ⟨⟨g, off, ha, fun j hj cc u hu => ?_⟩, fun g' off' _ h' => ?_⟩
    · have := hR j hj cc u hu
      simp only [World.cell?, hge] at this ⊢
      exact this
    · rw [e] at h'
      injection h' with h'
      injection h' with h'
      rw [← h', hge]
      exact ⟨c, fr, hg⟩
end
def SlGT (W : World) (a : Option Addr) (l : List GE) : Prop := ∃ L : List (GE × GA), L.map (·.1) = l ∧ SlT EG W a L ∧ ∀ x ∈ L, SlT E3 W x.2.a x.1.m
def SlRT (W : World) (a : Option Addr) (l : List GR) : Prop := ∃ L : List (GR × GA), L.map (·.1) = l ∧ SlT ER W a L ∧ ∀ x ∈ L, SlT E3 W x.2.a x.1.a
theorem SlGT.sl {W : World} {a : Option Addr} {l : List GE} (h : SlGT W a l) : SlG W a l := by
  obtain ⟨L, h1, h2, h3⟩ := h
  exact ⟨L, h1, h2.1, fun x hx => (h3 x hx).1⟩
theorem SlRT.sl {W : World} {a : Option Addr} {l : List GR} (h : SlRT W a l) : SlR W a l := by
  obtain ⟨L, h1, h2, h3⟩ := h
  exact ⟨L, h1, h2.1, fun x hx => (h3 x hx).1⟩
theorem SlGT.bel {W W' : World} {a : Option Addr} {l : List GE} (h : SlGT W a l) (hb : Bel W W') : SlGT W' a l := by
  obtain ⟨L, h1, h2, h3⟩ := h
  exact ⟨L, h1, h2.bel hb, fun x hx => (h3 x hx).bel hb⟩
theorem SlRT.bel {W W' : World} {a : Option Addr} {l : List GR} (h : SlRT W a l) (hb : Bel W W') : SlRT W' a l := by
  obtain ⟨L, h1, h2, h3⟩ := h
  exact ⟨L, h1, h2.bel hb, fun x hx => (h3 x hx).bel hb⟩
/-- A member whose lists lie in blocks of their types. -/
structure Gt (W : World) (s : GP) (x : Px) : Prop where
  m : SlT E3 W x.aM s.M
  b : SlT E3 W x.aB s.B
  l : SlGT W x.aL s.log
  v : SlT E3 W x.aV s.votes
  f : SlT E65 W x.aF s.fol
  r : SlRT W x.aR s.reads
theorem Gt.gp {W : World} {s : GP} {x : Px} (h : Gt W s x) : Gp W s x := ⟨h.m.1, h.b.1, h.l.sl, h.v.1, h.f.1, h.r.sl⟩
theorem Gt.bel {W W' : World} {s : GP} {x : Px} (h : Gt W s x) (hb : Bel W W') : Gt W' s x := ⟨h.m.bel hb, h.b.bel hb, h.l.bel hb, h.v.bel hb, h.f.bel hb, h.r.bel hb⟩
theorem SlGT.box {W W' : World} {a : Option Addr} {l : List GE} {b : Nat} {cs : Array Value} {t : TypeId} (h : SlGT W a l) (hr : W.heap[b]? = some (.cells cs t)) (h1 : EG.e ≠ t) (h2 : E3.e ≠ t) (hc : Ch (fun k => k = b) W W') : SlGT W' a l := by
  obtain ⟨L, q1, q2, q3⟩ := h
  exact ⟨L, q1, q2.box hr h1 hc, fun x hx => (q3 x hx).box hr h2 hc⟩
theorem SlRT.box {W W' : World} {a : Option Addr} {l : List GR} {b : Nat} {cs : Array Value} {t : TypeId} (h : SlRT W a l) (hr : W.heap[b]? = some (.cells cs t)) (h1 : ER.e ≠ t) (h2 : E3.e ≠ t) (hc : Ch (fun k => k = b) W W') : SlRT W' a l := by
  obtain ⟨L, q1, q2, q3⟩ := h
  exact ⟨L, q1, q2.box hr h1 hc, fun x hx => (q3 x hx).box hr h2 hc⟩
theorem Gt.box {W W' : World} {s : GP} {x : Px} {b : Nat} {c : Array Value} (h : Gt W s x) (hr : W.heap[b]? = some (.cells c 31)) (hc : Ch (fun k => k = b) W W') : Gt W' s x := ⟨h.m.box hr (by decide) hc, h.b.box hr (by decide) hc, h.l.box hr (by decide) (by decide) hc, h.v.box hr (by decide) hc, h.f.box hr (by decide) hc, h.r.box hr (by decide) (by decide) hc⟩
theorem Gt.boxM {W W' : World} {s : GP} {x : Px} {b : Nat} {c : Array Value} (h : Gt W s x) (hr : W.heap[b]? = some (.cells c 87)) (hc : Ch (fun k => k = b) W W') : Gt W' s x := ⟨h.m.box hr (by decide) hc, h.b.box hr (by decide) hc, h.l.box hr (by decide) (by decide) hc, h.v.box hr (by decide) hc, h.f.box hr (by decide) hc, h.r.box hr (by decide) (by decide) hc⟩
end Go.Proofs.YthekbhliokcpcaaGreat
