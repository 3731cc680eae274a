/- The program's Copy. -/
import Derived.Test.YtbcgikkdhfbphaaCln
import Derived.Test.YtbcgikkdhfbphaaKey
namespace Go.Proofs.Ytbcgikkdhfbphaa
open Go.RowKit Go.Maps
theorem SR.el {w : World} {g off cap : Nat} {l : List ByteArray} (h : SR w g off cap l) : E9.R w g off l := fun j hj c u hu => by
  have hc0 : c = 0 := by
    have := (List.getElem?_eq_some_iff.1 hu).1
    simpa [E9] using this
  subst hc0
  have hu' : some (Value.string l[j]) = some u := hu
  cases hu'
  have := h.cell hj
  simpa [E9] using this
theorem E9.sv (l : List ByteArray) : E9.fl l = sv l := by
  induction l with
  | nil => rfl
  | cons x l ih => unfold El.fl at *; rw [List.flatMap_cons, ih]; rfl
theorem SR.of {w : World} {base : Nat} {v : Value} {l : List ByteArray} (h : E9.O base w v l) (h0 : l ≠ []) : ∃ g cap, v = .slice (some ⟨g, 0, none⟩) l.length cap ∧ SR w g 0 cap l ∧ base ≤ g := by
  have h' : w.ownsRow base 9 1 v l.length (sv l) := by
    have : w.ownsRow base 9 1 v l.length (E9.fl l) := h
    rw [E9.sv] at this
    exact this
  exact SR.own h' (List.length_pos_iff.2 h0)
/-- The copied links so far. -/
structure Cg (W wr : World) (bN : Nat) (f' : Int × Int → Option Value) (ss : List (Int × Int)) (L : List Pk) : Prop where
  mg : Mg 86 lk wr bN ss.length f'
  is : ∀ x, (f' x).isSome = true ↔ x ∈ ss
  yes : ∀ x v, f' x = some v → LK wr (fun i => W.heap.size ≤ i) L x v
  ap : ∀ x y v u g, f' x = some v → f' y = some u → v.ownBlock = some g → u.ownBlock = some g → x = y
  ge : W.heap.size ≤ bN
  bel : Bel W wr
theorem Cg.at {W wr w' : World} {bN : Nat} {f' : Int × Int → Option Value} {ss : List (Int × Int)} {L : List Pk} (h : Cg W wr bN f' ss L) (hb : Bel W w') (hm : w'.heap[bN]? = wr.heap[bN]?) (hc : ∀ (k : Nat) (c : Array Value) (t : TypeId), wr.heap[k]? = some (.cells c t) → w'.heap[k]? = some (.cells c t)) : Cg W w' bN f' ss L :=
  ⟨h.mg.at hm, h.is, fun x v hx => by
    obtain ⟨g, off, cap, h1, ⟨cur, h2, h3⟩, h4, h5⟩ := h.yes x v hx
    exact ⟨g, off, cap, h1, ⟨cur, hc _ _ _ h2, h3⟩, h4, h5⟩, h.ap, h.ge, hb⟩
/-- One link more. -/
theorem Cg.put {W wr w1 w2 : World} {bN : Nat} {f' : Int × Int → Option Value} {ss : List (Int × Int)} {L : List Pk} {x : Int × Int} {v : Value} (h : Cg W wr bN f' ss L) (hx : x ∉ ss) (hb : Bel wr w1) (hv : E9.O wr.heap.size w1 v (qs L x.1 x.2)) (h0 : qs L x.1 x.2 ≠ []) (ht : w1.mapTurned w2 bN) (hm : Mg 86 lk w2 bN (ss.length + 1) (upd f' x (some v))) : Cg W w2 bN (upd f' x (some v)) (ss ++ [x]) L := by
  obtain ⟨g, cap, rfl, hsr, hge⟩ := SR.of hv h0
  have hrow : ∀ (k : Nat) (c : Array Value) (t : TypeId), w1.heap[k]? = some (.cells c t) → w2.heap[k]? = some (.cells c t) := fun k c t hk => turned_row ht hk
  have hbW := h.bel.trans hb
  refine ⟨by simpa using hm, fun y => ?_, fun y u hu => ?_, fun y z u1 u2 k hy hz e1 e2 => ?_, h.ge, ?_⟩
  · by_cases e : y = x
    · subst e; rw [upd_same]; simp
    · rw [upd_ne _ _ e, h.is y]; simp [e]
  · by_cases e : y = x
    · subst e
      rw [upd_same] at hu
      cases hu
      obtain ⟨cur, q1, q2⟩ := hsr
      exact ⟨g, 0, cap, rfl, ⟨cur, hrow _ _ _ q1, q2⟩, h0, Nat.le_trans h.bel.size hge⟩
    · rw [upd_ne _ _ e] at hu
      obtain ⟨g', off, cap', r1, ⟨cur, r2, r3⟩, r4, r5⟩ := h.yes y u hu
      exact ⟨g', off, cap', r1, ⟨cur, hrow _ _ _ (hb.row r2), r3⟩, r4, r5⟩
  · have old : ∀ y u, f' y = some u → ∀ k, u.ownBlock = some k → k < wr.heap.size := fun y u hu k hk => by
      obtain ⟨g', off, cap', r1, r2, _⟩ := h.yes y u hu
      rw [r1] at hk
      cases hk
      exact r2.lt
    by_cases ey : y = x
    · by_cases ez : z = x
      · rw [ey, ez]
      · subst ey
        rw [upd_same] at hy
        rw [upd_ne _ _ ez] at hz
        cases hy
        cases e1
        have : g < wr.heap.size := old z u2 hz _ e2
        omega
    · rw [upd_ne _ _ ey] at hy
      by_cases ez : z = x
      · subst ez
        rw [upd_same] at hz
        cases hz
        cases e2
        have : g < wr.heap.size := old y u1 hy _ e1
        omega
      · rw [upd_ne _ _ ez] at hz
        exact h.ap y z u1 u2 k hy hz e1 e2
  · exact ((hbW.ch (fun i => W.heap.size ≤ i)).turned ht (Or.inl h.ge)).below (Nat.le_refl _) (fun i hi => hi)
theorem MR.of {W : World} {base g cap : Nat} {ms : List Mc} (h : E67.O base W (.slice (some ⟨g, 0, none⟩) ms.length cap) ms) : MR W g ms := by
  obtain ⟨c, hc⟩ := h.block rfl
  have hR := h.row
  have cc : ∀ j (hj : j < ms.length), c[j * 3]? = some (.int .i64 ms[j].1) ∧ c[j * 3 + 1]? = some (.int .u64 ms[j].2.1) ∧ c[j * 3 + 2]? = some (.bool ms[j].2.2) := fun j hj => by
    have r0 := hR j hj 0 _ rfl
    have r1 := hR j hj 1 _ rfl
    have r2 := hR j hj 2 _ rfl
    rw [cell_of hc] at r0 r1 r2
    exact ⟨by simpa [E67] using r0, by simpa [E67] using r1, by simpa [E67] using r2⟩
  refine ⟨c, hc, ?_, cc⟩
  by_cases h0 : ms.length = 0
  · omega
  · have := (cc (ms.length - 1) (by omega)).2.2
    have hlt := (Array.getElem?_eq_some_iff.1 this).1
    omega
theorem run_makeMap_hint (n : Int) (U : World) : (Instr.makeMap 68 (some (.int .i64 n))).run Try.prog U = .ok (.map (some U.heap.size)) (U.alloc (.map #[] 0)) := by
  simp [Instr.makeMap, run_underlying Try.underlying68, asInt, Result.andThen, newObj, go_sem]
  rfl
set_option maxRecDepth 100000 in
set_option maxHeartbeats 4000000 in
theorem copyP {C : Nat} {W : World} {p : Nat} {s : PN} {M : Nat → Prop} (h : Nt C W p s M) (hC : C ≤ 900000) : Calls Try.prog 12 #[.pointer (some ⟨p, 0, none⟩)] W fun e w' => ∃ p', e = .returned (.pointer (some ⟨p', 0, none⟩)) ∧ ∃ M', Nt C w' p' s M' ∧ (∀ i, M' i → W.heap.size ≤ i) ∧ Bel W w' := by
  have HF := hide (fault_any h (RI.nil W) (by simp))
  rw [flt_nil] at HF
  obtain ⟨bm, cm, bl, n, f, h1, h2⟩ := h.co
  have c0 : W.cell? ⟨p, 0, none⟩ = some (.slice (some ⟨bm, 0, none⟩) s.ms.length cm) := cell_of h1.row
  have c1 : W.cell? ⟨p, 1, none⟩ = some (.map (some bl)) := cell_of h1.row
  have c2 : W.cell? ⟨p, 2, none⟩ = some (.int .i64 s.L.length) := cell_of h1.row
  have c1' : (W.alloc (.map #[] 0)).cell? ⟨p, 1, none⟩ = some (.map (some bl)) := ((Bel.refl W).alloc _).cell c1
  obtain ⟨⟨D, hown, hD⟩, hfk⟩ := h1.mg
  have hsz : Maps.size D ≤ n := hown.size_le
  have HH := hide (And.intro h (And.intro h1 h2))
  have HD := hide (And.intro hD hfk)
  have hmm := run_makeMap_hint
  clear h h1 hD hfk
  go_enter Try.func12, Try.ntmps12
  go_wp2_with (first
    | (go_at_call 37; refine (unhide HF).mono ?_; rintro e w9 ⟨rfl, hw9⟩; rw [hw9]; clear hw9)
    | (at_len; refine wpList_len_own _ rfl _ 68 rfl 86 87 Try.underlying68 _ bl n _ rfl hown ?_)
    | (at_range; refine wpList_range_own _ rfl _ 68 rfl 86 87 (Keyed.of_law K86) Try.underlying68 _ bl n _ rfl (own_at hown (((Bel.refl W).alloc _).block bl hown.lt)) ?_; intro w0 hrg0 hg0 hs0)
    | go_in)
  have hb0 : Bel W w0 := ((Bel.refl W).alloc _).trans (bel_of_grown hg0)
  have HX : Hid (W.heap.size < (W.alloc (.map #[] 0)).heap.size) := hide (by simp)
  have HG0 : Hid (Cg W w0 W.heap.size (fun _ => none) [] s.L) := hide ⟨(Mg.new 86 lk W).at ((bel_of_grown hg0).block _ (by simp)), fun x => (by simp), fun x v hx => (by cases hx), fun x y v u g hx => (by cases hx), Nat.le_refl _, hb0⟩
  have hXe : (W.alloc (.map #[] 0)).heap.size = W.heap.size + 1 := by simp
  rw [hXe] at hrg0 ⊢
  clear hg0 hs0 hb0 hown c1' hmm hXe
  generalize hbN : W.heap.size = bN at *
  have HBN := hide hbN
  clear hbN
  go_frame
  go_loopw [4] (fun _ wr => ∃ (left : Lit → Bool) (cnt : Nat) (ss : List (Int × Int)) (f' : Int × Int → Option Value), wr.ranges Try.prog 86 HV bl (bN + 1) n D left cnt ∧ ss.length + cnt ≤ Maps.size D ∧ Cl 86 lk D left ss ∧ Hid (Cg W wr bN f' ss s.L)) (fun _ wr => wr.rangeLeft bl (bN + 1))
  case atStart => exact ⟨_, _, [], _, hrg0, by simp, Cl.start, HG0⟩
  case round =>
    obtain ⟨left, cnt, ss, f', hrg, hcs, hC, HG⟩ := hrel
    go_wp2_with (first
      | (at_next; refine wpList_next_ranges _ rfl _ rfl 86 (Keyed.of_law K86) HV lk id (fun key kl hk => by obtain ⟨x, hx, _⟩ := key86_inv ⟨kl, hk⟩; exact ⟨x, hx⟩) (fun v _ _ => ⟨v, rfl⟩) bl (bN + 1) n _ _ _ rfl hrg ?_ ?_)
      | go_in)
    · intro hc0 hl0
      have hg := unhide HG
      have hall : ∀ x, (f' x).isSome = true ↔ (f x).isSome = true := fun x => by
        rw [hg.is x]
        constructor
        · intro hx
          obtain ⟨lx, hlx⟩ := hC.2.1 x hx
          rw [← ((unhide HD).1 x lx hlx).1]
          exact ((hC.2.2 x lx hlx).1 hx).1
        · intro hx
          obtain ⟨v, hv⟩ := Option.isSome_iff_exists.1 hx
          obtain ⟨lx, hlx⟩ := (unhide HD).2 x v hv
          exact (hC.2.2 x lx hlx).2 ⟨by rw [((unhide HD).1 x lx hlx).1]; exact hx, hl0 lx⟩
      have hss : ss.length ≤ n := by omega
      have d0 := hg.bel.cell c0
      have d2 := hg.bel.cell c2
      have HCL : Hid (Calls Try.prog 39 #[.slice (some ⟨bm, 0, none⟩) s.ms.length cm] wr.drew fun e w' => ∃ v, e = .returned v ∧ E67.O wr.heap.size w' v s.ms ∧ Bel wr w') := hide (by
        have hmr := (unhide HH).2.1.mr
        have hR : E67.R wr.drew bm 0 s.ms := fun j hj c u hu => by
          obtain ⟨q0, q1, q2⟩ := hmr.cells hj
          have hcl : c < 3 := (List.getElem?_eq_some_iff.1 hu).1
          have hcell : W.cell? ⟨bm, j * 3 + c, none⟩ = some u := by
            rcases (show c = 0 ∨ c = 1 ∨ c = 2 by omega) with rfl | rfl | rfl
            · rw [← hu]; exact q0
            · rw [← hu]; exact q1
            · rw [← hu]; exact q2
          have := (hg.bel.trans (Bel.refl wr).drew).cell hcell
          simpa [E67] using this
        exact (clone67 (W := wr.drew) rfl hR (by have := (unhide HH).1.few; omega)).mono (fun e w' ⟨v, q1, q2, q3⟩ => ⟨v, q1, q2, (Bel.refl wr).drew.trans q3⟩))
      have HE := hide (And.intro hg (And.intro hall hss))
      have HON : Hid (s.ms.length ≠ 0) := hide (by have := (unhide HH).1.one; omega)
      have HK4 : Hid (∀ w4, Bel wr w4 → w4.cell? ⟨p, 0, none⟩ = some (.slice (some ⟨bm, 0, none⟩) s.ms.length cm) ∧ w4.cell? ⟨p, 2, none⟩ = some (.int .i64 s.L.length)) := hide (fun w4 hb => ⟨hb.cell d0, hb.cell d2⟩)
      clear hg hall hss hC HG hrg hl0 hc0 hcs
      go_wp2_with fail
      go_region_held3 (fun W' => W'.cell? ⟨p, 0, none⟩ = some (.slice (some ⟨bm, 0, none⟩) s.ms.length cm) ∧ W'.cell? ⟨p, 2, none⟩ = some (.int .i64 s.L.length)) (first | exact hS4 | exact (unhide HK4) _ (hb4.alloc _) | exact ⟨d0, d2⟩) ((first
        | (go_at_call 39; refine (unhide HCL).mono ?_; rintro e w4 ⟨v4, rfl, ho4, hb4⟩; have hS4 := (unhide HK4) _ hb4; obtain ⟨a4, c4, g4, hv4, ha4, _, _⟩ := ho4.shape; subst hv4; obtain rfl := ha4 (unhide HON))))
      all_goals
        have HO4 := hide (And.intro ho4 hb4)
        have HLE : Hid (s.ms.length ≤ c4) := hide (by assumption)
        clear ho4 hb4 hS4
        go_wp2_with fail
        go_ret
        obtain ⟨ho4, hb4⟩ := unhide HO4
        obtain ⟨hg, hall, hss⟩ := unhide HE
        have hbw : Bel w4 (w4.alloc (.cells #[.slice (some ⟨g4, 0, none⟩) s.ms.length c4, .map (some bN), .int .i64 s.L.length] 70)) := (Bel.refl w4).alloc _
        have hbW := hb4.trans hbw
        have hh := (unhide HH).1
        have hcn := (unhide HH).2.1
        have hnew := at_new w4 (.cells #[.slice (some ⟨g4, 0, none⟩) s.ms.length c4, .map (some bN), .int .i64 s.L.length] 70)
        have hgm := (hg.mg.bel hbW)
        have hmr := (MR.of ho4).at (hbw.block g4 (MR.of ho4).lt)
        have hWs := hg.bel.size
        have hws := hb4.size
        refine ⟨w4.heap.size, rfl, fun i => W.heap.size ≤ i ∧ i < (w4.alloc (.cells #[.slice (some ⟨g4, 0, none⟩) s.ms.length c4, .map (some bN), .int .i64 s.L.length] 70)).heap.size, ⟨⟨g4, c4, bN, ss.length, f', ⟨hnew, unhide HLE, hmr, hgm, fun x hx => ?_, fun x v hx => ?_, hg.ap, ⟨by omega, lt_of_some hnew⟩, ⟨Nat.le_trans hWs (ho4.lt rfl).1, hmr.lt⟩, ⟨hg.ge, hgm.lt⟩⟩, by omega⟩, fun i hi => hi.2, hh.one, hh.few, hh.may, hh.len⟩, fun i hi => hi.1, hg.bel.trans hbW⟩
        · refine hcn.no x ?_
          cases hfx : f x with
          | none => rfl
          | some u =>
            have := (hall x).2 (by rw [hfx]; rfl)
            rw [hx] at this
            cases this
        · obtain ⟨g', off, cap', r1, r2, r4, r5⟩ := hg.yes x v hx
          have r2' := r2.at (hbW.block g' r2.lt)
          exact ⟨g', off, cap', r1, r2', r4, ⟨r5, r2'.lt⟩⟩
    · intro xa xb c kl yd yp w2 cnt2 hkey hlk hv hat hrg2 hlt hg2 hs2 hen
      have hfx : f (xa, xb) = some c := by
        obtain ⟨e1, e2⟩ := (unhide HD).1 (xa, xb) kl hkey
        rw [has_true_of_atKey hat] at e1
        obtain ⟨u, hu⟩ := Option.isSome_iff_exists.1 e1.symm
        have h3 := e2 u hu yd
        rw [hat] at h3
        unfold HV at hv
        simp only [Option.some.injEq, Prod.mk.injEq] at hv
        rw [← hv.1] at h3
        cases h3
        exact hu
      obtain ⟨g, off, cap, hcv, hsr, hq0, _⟩ := (unhide HH).2.1.yes _ _ hfx
      subst hcv
      have hno : (xa, xb) ∉ ss := fun hm => by
        have := ((hC.2.2 (xa, xb) kl hkey).1 hm).2
        rw [hlk] at this; cases this
      have hX : ∃ a1 a2 a3 a4, wr.heap[bN + 1]? = some (.mapIter a1 a2 a3 a4) := by
        obtain ⟨es, clock, since, seen, c0, q1, q2, q3, q4, q5, q6⟩ := hrg
        exact ⟨_, _, _, _, q5⟩
      obtain ⟨a1, a2, a3, a4, hX⟩ := hX
      have hg := unhide HG
      have hb2 : Bel W w2 := bel_grown hg.bel hg2 (fun i hi => by cases hi; rw [unhide HBN]; omega)
      have hG2 : Cg W w2 bN f' ss s.L := hg.at hb2 (hg2.block bN hg.mg.lt (by simp)) (fun k c t hk => by
        rw [hg2.block k (lt_of_some hk) (fun e => by cases e; rw [hX] at hk; cases hk)]
        exact hk)
      have hbx : Bel w2 (w2.alloc (.cells #[.int .i64 xa, .int .i64 xb] 86)) := (Bel.refl w2).alloc _
      have hG3 : Cg W (w2.alloc (.cells #[.int .i64 xa, .int .i64 xb] 86)) bN f' ss s.L := hG2.at (hb2.trans hbx) (hbx.block bN hG2.mg.lt) (fun k c t hk => hbx.row hk)
      have hrx := at_new w2 (.cells #[.int .i64 xa, .int .i64 xb] 86)
      have hC2 := hC.step (Keyed.of_law K86) lk_inj hkey hlk hat
      have hsr3 := hsr.at ((hb2.trans hbx).block g hsr.lt)
      have hrg3 := ranges_at (w' := w2.alloc (.cells #[.int .i64 xa, .int .i64 xb] 86)) hrg2 (hbx.block _ hrg2.owns.lt) (hbx.block _ hrg2.lt)
      have hql := qs_len s.L xa xb
      have hLm := (unhide HH).1.len
      generalize hW3 : w2.alloc (.cells #[.int .i64 xa, .int .i64 xb] 86) = W3 at *
      have HQ := hide hq0
      have HCL : Hid (Calls Try.prog 38 #[.slice (some ⟨g, off, none⟩) (qs s.L xa xb).length cap] W3.drew fun e w' => ∃ v, e = .returned v ∧ E9.O W3.heap.size w' v (qs s.L xa xb) ∧ Bel W3 w') := hide ((clone9 (W := W3.drew) rfl (hsr3.at rfl).el (show (qs s.L xa xb).length ≤ 100000 by omega)).mono (fun e w' ⟨v, q1, q2, q3⟩ => ⟨v, q1, q2, (Bel.refl W3).drew.trans q3⟩))
      have hkk : KeyOK 86 (lk (xa, xb)) := ⟨kl, hkey⟩
      have HST : Hid (∀ w4 v, E9.O W3.heap.size w4 v (qs s.L xa xb) → Bel W3 w4 → ∃ w5, (Instr.mapUpdate 68 (.map (some bN)) (.agg #[.int .i64 xa, .int .i64 xb]) v).run Try.prog w4 = .ok () w5 ∧ (w5.cell? ⟨w2.heap.size, 0, none⟩ = some (.int .i64 xa) ∧ w5.cell? ⟨w2.heap.size, 1, none⟩ = some (.int .i64 xb)) ∧ Cg W w5 bN (upd f' (xa, xb) (some v)) (ss ++ [(xa, xb)]) s.L ∧ w5.ranges Try.prog 86 HV bl (bN + 1) n D (fun z => left z && !z.sameKey kl) cnt2) := hide (fun w4 v ho hb => by
        have hsl : ss.length ≤ 1000000 := by omega
        obtain ⟨w5, q1, q2, q3⟩ := ((hG3.mg.bel hb).store (Keyed.of_law K86) lk_inj Try.underlying68 hsl hkk v)
        have hr5 := turned_row q3 (hb.row hrx)
        refine ⟨w5, q1, ⟨cell_of hr5, cell_of hr5⟩, hG3.put hno hb ho (unhide HQ) q3 q2, ?_⟩
        have hbl : bl < bN := by rw [← unhide HBN]; exact (unhide HH).2.1.mg.lt
        obtain ⟨es, clock, es', clock', hbb, rfl⟩ := q3
        exact ranges_at hrg3 (by rw [ChangeMaps.heap_setBlock_other hbb _ (by omega)]; exact hb.block _ hrg3.owns.lt) (by rw [ChangeMaps.heap_setBlock_other hbb _ (by omega)]; exact hb.block _ hrg3.lt))
      have HK4 : Hid (∀ w4, Bel W3 w4 → w4.cell? ⟨w2.heap.size, 0, none⟩ = some (.int .i64 xa) ∧ w4.cell? ⟨w2.heap.size, 1, none⟩ = some (.int .i64 xb)) := hide (fun w4 hb => ⟨cell_of (hb.row hrx), cell_of (hb.row hrx)⟩)
      have d0 : W3.cell? ⟨w2.heap.size, 0, none⟩ = some (.int .i64 xa) := cell_of hrx
      have d1 : W3.cell? ⟨w2.heap.size, 1, none⟩ = some (.int .i64 xb) := cell_of hrx
      have hen' : (Instr.entry (.pointer (some ⟨bN + 1, 0, none⟩))).run Try.prog w2 = .ok (.tuple #[.agg #[.int .i64 xa, .int .i64 xb], .slice (some ⟨g, off, none⟩) (qs s.L xa xb).length cap]) w2 := hen
      have HC2 := hide hC2
      have HLT := hide (And.intro hlt hcs)
      have HRG := hide hrg
      generalize (qs s.L xa xb).length = ql at *
      generalize hB2 : w2.heap.size = B2 at *
      simp only [lk]
      clear hkey hlk hv hat hrg2 hlt hg2 hs2 hen hrg hG2 hG3 hg hX hb2 hbx hrx hC2 hC hsr3 hsr hrg3 hno hfx hq0 HQ HG hkk
      go_wp2_with fail
      go_region_held3 (fun W' => W'.cell? ⟨B2, 0, none⟩ = some (.int .i64 xa) ∧ W'.cell? ⟨B2, 1, none⟩ = some (.int .i64 xb)) (first | exact hS5 | exact hS4 | exact ⟨d0, d1⟩) ((first
        | (go_at_call 38; refine (unhide HCL).mono ?_; rintro e w4 ⟨v4, rfl, ho4, hb4⟩; have hS4 := (unhide HK4) _ hb4; obtain ⟨w5, hst, hS5, hG5, hR5⟩ := (unhide HST) _ _ ho4 hb4)))
      all_goals
        go_wp2_with fail
        refine ⟨⟨_, cnt2, ss ++ [(xa, xb)], _, hR5, by have := (unhide HLT).1; have := (unhide HLT).2; simp; omega, unhide HC2, hide hG5⟩, ?_⟩
        rw [hR5.left_eq, (unhide HRG).left_eq]
        exact (unhide HLT).1
end Go.Proofs.Ytbcgikkdhfbphaa
