/- All messages under way: Waiting. -/
import Derived.Test.YtbcgikkdhfbphaaCol
import Derived.Test.YtbcgikkdhfbphaaWtp
namespace Go.Proofs.Ytbcgikkdhfbphaa
open Go.RowKit Go.Shelf Go.Maps
theorem en56 : En 56 := fun _ _ => by kernel_rfl
set_option maxRecDepth 100000 in
theorem keys_call (bl : Nat) (w : World) : Calls Try.prog 48 #[.map (some bl)] w fun e w' => e = .returned (.func (.func 56) #[] #[.pointer (some ⟨w.heap.size, 0, none⟩)]) ∧ w' = w.alloc (.cells #[.map (some bl)] 68) := by
  go_enter Try.func48, Try.ntmps48
  go_wp2_with fail
  go_ret
  exact ⟨rfl, rfl⟩
set_option maxRecDepth 100000 in
theorem collect_any {w : World} {gf : Nat} {lb : Array Value} {Sx : List (Int × Int) → Prop} (en : En gf) (hit : It w 4 900001 gf lb Sx) :
    Calls Try.prog 54 #[.func (.func gf) #[] lb] w fun e w' => ∃ v xs, e = .returned v ∧ Sx xs ∧ E86.O w.heap.size w' v xs ∧ Bel w w' := by
  have HA := hide (appendSeq_any en hit)
  clear hit en
  go_enter Try.func54, Try.ntmps54
  go_wp2_with (first
    | (go_at_call 59; refine (unhide HA).mono ?_; rintro e w1 ⟨v, xs, rfl, h1, h2, h3⟩; obtain ⟨al, cpl, gl, hv, _, _, _⟩ := h2.shape; have HR := hide (And.intro h1 (And.intro h2 h3)); clear h1 h2 h3; subst hv))
  go_ret
  exact ⟨_, xs, rfl, (unhide HR).1, (unhide HR).2.1, (unhide HR).2.2⟩
set_option maxRecDepth 100000 in
theorem sorted_any {w : World} {gf n : Nat} {lb : Array Value} {Sx : List (Int × Int) → Prop} (en : En gf) (hn : n ≤ 900001) (hit : It w 4 900001 gf lb (fun ss => Sx ss ∧ ss.length ≤ n)) :
    Calls Try.prog 47 #[.func (.func gf) #[] lb, .func (.func 49) #[] #[]] w fun e w' => ∃ v xs, e = .returned v ∧ Sx xs ∧ xs.length ≤ n ∧ E86.O w.heap.size w' v (srt xs) ∧ Bel w w' := by
  have HA := hide (collect_any en hit)
  clear hit en
  go_enter Try.func47, Try.ntmps47
  go_wp2_with fail
  refine (unhide HA).mono ?_
  rintro e w1 ⟨v, xs, rfl, ⟨h1, h4⟩, h2, h3⟩
  rcases Nat.eq_zero_or_pos xs.length with h0 | h0
  · obtain ⟨al, cpl, gl, hv, _, _, _⟩ := h2.shape
    have HR := hide (And.intro h1 (And.intro h2 (And.intro h3 (And.intro h4 h0))))
    rw [h0] at hv
    subst hv
    clear h1 h2 h3 h4 h0
    go_wp2_with (first
      | (go_at_call 55; refine (sort_no _ _ _ _).mono ?_; rintro e w9 ⟨rfl, hw9⟩; rw [hw9]; clear hw9))
    go_ret
    obtain ⟨h1, h2, h3, h4, h0⟩ := unhide HR
    have hx : xs = [] := List.eq_nil_of_length_eq_zero h0
    subst hx
    have e0 : srt ([] : List (Int × Int)) = [] := by simp [srt]
    exact ⟨_, [], rfl, h1, h4, by rw [e0]; exact h2, h3⟩
  · obtain ⟨g, cap, hv, _, _⟩ := World.ownsRow.form h2 h0
    subst hv
    have HS := hide (sort_L _ g cap xs w1 h2 (by omega))
    have HR := hide (And.intro h1 (And.intro h2 (And.intro h3 h4)))
    have hlx : xs.length = (srt xs).length := (srt_len xs).symm
    clear h1 h2 h3 h4 h0
    generalize hm : xs.length = m at HS HR ⊢
    have HM := hide hm
    clear hm hlx
    go_wp2_with (first
      | (go_at_call 55; refine (unhide HS).mono ?_; rintro e w2 ⟨rfl, ho2, hc2⟩; have H2 := hide (And.intro ho2 hc2); clear ho2 hc2))
    go_ret
    refine ⟨_, xs, rfl, (unhide HR).1, ?_, (unhide H2).1, ?_⟩
    · have := (unhide HR).2.2.2
      rw [unhide HM]
      exact this
    · exact (unhide H2).2.after (unhide HR).2.2.1 ((unhide HR).2.1.lt rfl).1
/-- append of one message that was just laid. -/
theorem app_pk {ops : Array Oper} {rest : List Oper} {o : Oper} {a : Act} {Q : Exit → Act → World → Prop} {W : World} {base : Nat} {v : Value} {L : List Pk} (x : Pk) (h : E46.O base W v L) (hbase : base ≤ W.heap.size) (hb : L.length + 1 ≤ 1000000000000)
    (hgd : o.guard = none) (s y : Operand) (ho : o.op = .call { callee := .builtin .append, args := #[s, y], argTypes := #[53, 53] }) (hs : a.eval s = v) (X : Nat) (hX : X = W.heap.size) (hx : a.eval y = .slice (some ⟨X, 0, none⟩) 1 1)
    (hK : ∀ g cap w', E46.O base w' (.slice (some ⟨g, 0, none⟩) (L.length + 1) cap) (L ++ [x]) → (W.alloc (.cells #[.int .i64 x.1, .int .i64 x.2.1, .string x.2.2] 46)).grownBy w' v.ownBlock → wpList Try.prog ops Q rest (a.put o.dst (.slice (some ⟨g, 0, none⟩) (L.length + 1) cap)) w') : wpList Try.prog ops Q (o :: rest) a (W.alloc (.cells #[.int .i64 x.1, .int .i64 x.2.1, .string x.2.2] 46)) := by
  subst hX
  refine wpList_plain hgd fun K hK' => ?_
  obtain ⟨g, cap, w', hrun, r1, r2, r3⟩ := El.run_app1 (E := E46) (W.alloc (.cells #[.int .i64 x.1, .int .i64 x.2.1, .string x.2.2] 46)) base v L (h.bel ((Bel.refl _).alloc _)) (Nat.le_trans hbase (by simp)) x W.heap.size 1 (at_new W _) hb o.type
  have hrun' : (Builtin.append_ #[53, 53] o.type #[v, .slice (some ⟨W.heap.size, 0, none⟩) 1 1]).run Try.prog (W.alloc (.cells #[.int .i64 x.1, .int .i64 x.2.1, .string x.2.2] 46)) = .ok (.slice (some ⟨g, 0, none⟩) (L.length + 1) cap) w' := hrun
  unfold Oper.wp execOp
  simp only [ho, resolve, invoke, builtin, Sem.run_bind, Sem.run_pure, Result.andThen_ok, List.map_toArray, List.map_cons, List.map_nil, hs, hx, hrun']
  exact hK' _ _ (hK g cap w' r1 r2)
theorem bel_grown {w A B : World} {row : Option Nat} (h : Bel w A) (hg : A.grownBy B row) (hr : ∀ k, row = some k → w.heap.size ≤ k) : Bel w B := Below.trans h ((Below.refl _ A).grown hg h.size hr)
theorem map_take_succ (l : List ByteArray) (j : Nat) (h : j < l.length) (x : Int × Int) : ((l.take (j + 1)).map fun t => (x.1, x.2, t)) = ((l.take j).map fun t => (x.1, x.2, t)) ++ [(x.1, x.2, l[j])] := by
  rw [List.take_succ_eq_append_getElem h, List.map_append]
  rfl
/-- All but rows of messages stands as it stood. -/
def Kt (A B : World) : Prop := ∀ (i : Nat) (o : Obj), A.heap[i]? = some o → (∀ c, o ≠ .cells c 46) → B.heap[i]? = some o
theorem Kt.refl (A : World) : Kt A A := fun _ _ h _ => h
theorem Kt.bel {A B D : World} (h : Kt A B) (k : Bel B D) : Kt A D := fun i o ho hn => k.row (h i o ho hn)
theorem Kt.grown {A B D : World} (h : Kt A B) {row : Option Nat} (hg : B.grownBy D row) (hr : ∀ k, row = some k → ∃ c, B.heap[k]? = some (.cells c 46)) : Kt A D := fun i o ho hn => by
  have hB := h i o ho hn
  rw [hg.block i (lt_of_some hB) (fun e => ?_)]
  · exact hB
  · obtain ⟨c, hc⟩ := hr i e.symm
    rw [hB] at hc
    cases hc
    exact hn c rfl
theorem Kt.row {A B : World} (h : Kt A B) {i : Nat} {c : Array Value} {t : TypeId} (hc : A.heap[i]? = some (.cells c t)) (ht : t ≠ 46) : B.heap[i]? = some (.cells c t) := h i _ hc (fun d e => by cases e; exact ht rfl)
/-- What has been gathered. -/
def Wt (w : World) (v : Value) (l : List Pk) (W : World) : Prop := E46.O w.heap.size W v l ∧ Bel w W
theorem flt_nil (s : PN) : flt s [] = 0 := rfl
theorem RI.nil (w : World) : RI w (.slice none 0 0) [] := ⟨none, 0, 0, 0, rfl, fun h => absurd rfl h, fun j h => by simp at h⟩
set_option maxRecDepth 100000 in
set_option maxHeartbeats 4000000 in
theorem wait_any {C : Nat} {w : World} {p : Nat} {s : PN} {M : Nat → Prop} (h : Nt C w p s M) (hC : C ≤ 900001) : Calls Try.prog 22 #[.pointer (some ⟨p, 0, none⟩)] w fun e w' => ∃ v, e = .returned v ∧ Wt w v (wt s.ms.length s.L) w' := by
  obtain ⟨i0, hi, hz0, hz1, hz2⟩ := E46.info
  have HF := hide (fault_any h (RI.nil w) (by simp))
  rw [flt_nil] at HF
  obtain ⟨bm, cm, bl, n, f, h1, h2⟩ := h.co
  have c1 : w.cell? ⟨p, 1, none⟩ = some (.map (some bl)) := cell_of h1.row
  have c2 : w.cell? ⟨p, 2, none⟩ = some (.int .i64 s.L.length) := cell_of h1.row
  have hLm := h.len
  have HH := hide h
  have H1 := hide h1
  have HML : Hid (∀ q ∈ s.L, (1 ≤ q.1 ∧ q.1 ≤ (s.ms.length : Int)) ∧ (1 ≤ q.2.1 ∧ q.2.1 ≤ (s.ms.length : Int))) := hide h.may
  clear h h1
  generalize hfl : s.L.length = fl at *
  have Hfl := hide hfl
  clear hfl
  go_enter Try.func22, Try.ntmps22
  go_wp2_with (first
    | (go_at_call 37; refine (unhide HF).mono ?_; rintro e w9 ⟨rfl, hw9⟩; rw [hw9]; clear hw9)
    | (at_make; refine wpList_make_own _ rfl _ _ 53 rfl w.heap.size 46 i0 (.agg #[.int .i64 0, .int .i64 0, .string ⟨#[]⟩]) 3 Try.underlying53 hi hz0 hz1 _ _ _ fl rfl rfl rfl (by rw [hz2]; show 32 * fl ≤ _; omega) (by unfold maxLen; omega) (Nat.le_refl _) ?_; intro w1 hrow1 hg1; have c11 : w1.cell? ⟨p, 1, none⟩ = some (.map (some bl)) := (bel_of_grown hg1).cell c1; have HW1 : Hid (Wt w (.slice (some ⟨w.heap.size, 0, none⟩) 0 fl) [] w1) := hide ⟨hrow1, bel_of_grown hg1⟩; clear hrow1 hg1)
    | (go_at_call 48; refine (keys_call _ _).mono ?_; rintro e w9 ⟨rfl, hw9⟩; rw [hw9]; clear hw9))
  have hbW : Bel w (w1.alloc (.cells #[.map (some bl)] 68)) := (unhide HW1).2.trans ((Bel.refl _).alloc _)
  have hmg := (unhide H1).mg.bel hbW
  refine (sorted_any en56 (Nat.le_trans h2 hC) (keys_it hmg (Nat.le_trans h2 hC) (at_new w1 _))).mono ?_
  rintro e w3 ⟨v, xs, rfl, ⟨hnd, hmem⟩, hlen, ho3, hb3⟩
  have HKS : Hid ((srt xs).Pairwise lt2 ∧ ∀ x, x ∈ srt xs ↔ qs s.L x.1 x.2 ≠ []) := hide ⟨srt_ris hnd, fun x => by
    rw [srt_mem, hmem x]
    constructor
    · intro hx
      obtain ⟨u, hu⟩ := Option.isSome_iff_exists.1 hx
      obtain ⟨_, _, _, _, _, q, _⟩ := (unhide H1).yes x u hu
      exact q
    · intro hx
      cases hf : f x with
      | none => exact absurd ((unhide H1).no x hf) hx
      | some u => rfl⟩
  have hKl : (srt xs).length ≤ 900001 := by rw [srt_len]; omega
  generalize srt xs = ks at *
  obtain ⟨al, cpl, gl, hv, hal, _, hcp⟩ := ho3.shape
  subst hv
  have HO3 := hide ho3
  have HAL := hide hal
  have HW3 : Hid (Wt w (.slice (some ⟨w.heap.size, 0, none⟩) 0 fl) [] w3) := hide (by
    have hb := ((Bel.refl w1).alloc (.cells #[.map (some bl)] 68)).trans hb3
    exact ⟨(unhide HW1).1.bel hb, (unhide HW1).2.trans hb⟩)
  generalize hK : ks.length = K at *
  have HK := hide hK
  clear hnd hmem hlen ho3 hal hb3 hmg hbW HW1 hK c11
  go_wp2_with fail
  go_loopw [3, 23] (fun v vi wr => ∃ (k : Nat), k ≤ K ∧ vi = .int .i64 k ∧ Hid (Wt w v (wpk s.L (ks.take k)) wr ∧ Kt w3 wr)) (fun _ vi _ => K - (intOf vi).toNat)
  case atStart => exact ⟨0, Nat.zero_le _, rfl, hide ⟨unhide HW3, Kt.refl _⟩⟩
  case round =>
    obtain ⟨k, hk, rfl, HO⟩ := hrel
    obtain ⟨ao, co, gq, hvo, _, _, _⟩ := (unhide HO).1.1.shape
    subst hvo
    by_cases hlt : k < K
    · have hkl : k < ks.length := by rw [unhide HK]; exact hlt
      obtain rfl := (unhide HAL) (by omega)
      have hkK : (k : Int) < K := by omega
      have hO3 : E86.R wr gl 0 ks := by
        have ho := unhide HO3
        rw [← unhide HK] at ho
        exact El.O.row (ho.at (fun i hi => by obtain ⟨c, hc⟩ := ho.block hi; rw [hc]; exact (unhide HO).2.row hc (by decide)))
      have r0 : wr.cell? ⟨gl, k * 2, none⟩ = some (.int .i64 ks[k].1) := by have := hO3 k hkl 0 _ rfl; simpa [E86] using this
      have r1 : wr.cell? ⟨gl, k * 2 + 1, none⟩ = some (.int .i64 ks[k].2) := by have := hO3 k hkl 1 _ rfl; simpa [E86] using this
      clear hO3
      obtain ⟨a, b, hab⟩ : ∃ a b, ks[k] = (a, b) := ⟨_, _, rfl⟩
      rw [hab] at r0 r1
      have HAB := hide hab
      have hbx : Bel w (wr.alloc (.cells #[.int .i64 a, .int .i64 b] 86)) := (unhide HO).1.2.trans ((Bel.refl _).alloc _)
      have hrx := at_new wr (.cells #[.int .i64 a, .int .i64 b] 86)
      have hkey : KeyOK 86 (lk (a, b)) := by
        obtain ⟨q, hq⟩ : ∃ u, f (a, b) = some u := by
          cases hf : f (a, b) with
          | none =>
            have hm := ((unhide HKS).2 (a, b)).1 (by rw [← hab]; exact List.getElem_mem hkl)
            exact absurd ((unhide H1).no (a, b) hf) hm
          | some u => exact ⟨u, rfl⟩
        exact (unhide H1).mg.2 _ _ hq
      have HWx : Hid (Wt w (.slice ao (wpk s.L (ks.take k)).length co) (wpk s.L (ks.take k)) (wr.alloc (.cells #[.int .i64 a, .int .i64 b] 86)) ∧ Kt w3 (wr.alloc (.cells #[.int .i64 a, .int .i64 b] 86))) := hide ⟨⟨(unhide HO).1.1.bel ((Bel.refl _).alloc _), hbx⟩, (unhide HO).2.bel ((Bel.refl _).alloc _)⟩
      generalize hWx : wr.alloc (.cells #[.int .i64 a, .int .i64 b] 86) = Wx at *
      have hCx := (unhide H1).at (w' := Wx) (fun i hi => hbx.block i ((unhide HH).ltM i hi))
      obtain ⟨ad, cq, gg, oo, e1, e2⟩ := hCx.list (a, b)
      have HE2 := hide e2
      have c1q : ∀ q : BelBy Wx, q.W.cell? ⟨p, 1, none⟩ = some (.map (some bl)) := fun q => q.h.cell (cell_of hCx.row)
      have k0q : ∀ q : BelBy Wx, q.W.cell? ⟨wr.heap.size, 0, none⟩ = some (.int .i64 a) := fun q => q.h.cell (cell_of hrx)
      have k1q : ∀ q : BelBy Wx, q.W.cell? ⟨wr.heap.size, 1, none⟩ = some (.int .i64 b) := fun q => q.h.cell (cell_of hrx)
      have lkq : ∀ q : BelBy Wx, (Instr.lookup 68 (.map (some bl)) (.agg #[.int .i64 a, .int .i64 b]) false).run Try.prog q.W = .ok (.slice ad (qs s.L a b).length cq) q.W := fun q => by
        have := (hCx.mg.bel q.h).look (Keyed.of_law K86) Try.underlying68 (zero87 q.W) hkey
        rw [e1] at this
        exact this
      have hnb := BelBy.some Wx
      have HRX := hide hrx
      have hlenq := qs_len s.L a b
      have HLQ := hide hlenq
      have hmb : (qs s.L a b).length ≤ 16384 := by rw [unhide Hfl] at hlenq; omega
      have hwl := wpk_len s.L (ks.take k)
      have hws : (wpk s.L (ks.take k)).length ≤ 900001 * 16384 := by
        have h5 : (ks.take k).length ≤ 900001 := by simp; omega
        have h6 : s.L.length ≤ 16384 := by rw [unhide Hfl]; exact hLm
        exact Nat.le_trans hwl (Nat.mul_le_mul h5 h6)
      have HWS := hide hws
      generalize hm : (qs s.L a b).length = m at *
      have HM := hide hm
      generalize hP : (wpk s.L (ks.take k)).length = P at *
      have HP := hide hP
      have HHB := hide hbx
      clear hCx hbx hab hkey e1 e2 hrx hm hP hlenq hwl hws
      go_wp2_with fail
      refine wp_region_bel Try.follows (by kernel_rfl) ?_
      repeat (go_big_quiet_step (fail))
      refine wpQuiet_nil ?_
      rintro w5 ⟨q, rfl⟩
      have HQ : Hid (Wt w (.slice ao P co) (wpk s.L (ks.take k)) q.W ∧ Kt w3 q.W ∧ Kt Wx q.W) := hide ⟨⟨(unhide HWx).1.1.bel q.h, (unhide HWx).1.2.trans q.h⟩, (unhide HWx).2.bel q.h, (Kt.refl _).bel q.h⟩
      generalize q.W = W5 at HQ ⊢
      clear c1q k0q k1q lkq hnb
      go_wp2_with fail
      generalize wr.heap.size = Bx at HRX ⊢
      go_loopw [3, 34] (fun v vi wr => ∃ (j : Nat), j ≤ m ∧ vi = .int .i64 j ∧ Hid (Wt w v (wpk s.L (ks.take k) ++ ((qs s.L a b).take j).map fun t => (a, b, t)) wr ∧ Kt w3 wr ∧ Kt Wx wr)) (fun _ vi _ => m - (intOf vi).toNat)
      case atStart => exact ⟨0, Nat.zero_le _, rfl, hide (by have := unhide HQ; simpa using this)⟩
      case round =>
        obtain ⟨j, hj, rfl, HI⟩ := hrel
        obtain ⟨ai, ci, gi, hvi, _, _, _⟩ := (unhide HI).1.1.shape
        subst hvi
        by_cases hjm : j < m
        · have hjl : j < (qs s.L a b).length := by rw [unhide HM]; exact hjm
          have hsr := (unhide HE2) (by show m ≠ 0; omega)
          obtain ⟨rfl, hsr⟩ := hsr
          have hjm' : (j : Int) < m := by omega
          have t0 : wr.cell? ⟨gg, oo + j, none⟩ = some (.string (qs s.L a b)[j]) := by
            have hs2 : SR wr gg oo cq (qs s.L a b) := by
              obtain ⟨c, q1, q2⟩ := hsr
              exact ⟨c, (unhide HI).2.2.row q1 (by decide), q2⟩
            exact hs2.cell hjl
          have b0 : wr.cell? ⟨Bx, 0, none⟩ = some (.int .i64 a) := cell_of ((unhide HI).2.2.row (unhide HRX) (by decide))
          have b1 : wr.cell? ⟨Bx, 1, none⟩ = some (.int .i64 b) := cell_of ((unhide HI).2.2.row (unhide HRX) (by decide))
          have hsum : (wpk s.L (ks.take k) ++ ((qs s.L a b).take j).map fun t => (a, b, t)).length + 1 ≤ 1000000000000 := by
            have h5 := unhide HWS
            have h6 := unhide HLQ
            have h7 := unhide Hfl
            rw [List.length_append, unhide HP, List.length_map, List.length_take]
            omega
          have HSUM := hide hsum
          have HEQ := hide (map_take_succ (qs s.L a b) j hjl (a, b))
          generalize (qs s.L a b)[j] = tt at *
          generalize hQl : (wpk s.L (ks.take k) ++ ((qs s.L a b).take j).map fun t => (a, b, t)) = QQ at HI HSUM ⊢
          have HQL := hide hQl
          have hb0 := (unhide HI).1.2.size
          have HB0 := hide hb0
          clear hsum hsr hQl hb0
          go_wp2_with (first
            | (at_builtin; refine app_pk (a, b, tt) (unhide HI).1.1 (unhide HB0) (unhide HSUM) rfl _ _ rfl rfl _ (by simp) rfl ?_; intro g3 cap3 w6 ho6 hg6; have HI6 : Hid (Wt w (.slice (some ⟨g3, 0, none⟩) (QQ.length + 1) cap3) (QQ ++ [(a, b, tt)]) w6 ∧ Kt w3 w6 ∧ Kt Wx w6) := hide ⟨⟨ho6, bel_grown ((unhide HI).1.2.trans ((Bel.refl _).alloc _)) hg6 (fun i hi => ((unhide HI).1.1.lt hi).1)⟩, ((unhide HI).2.1.bel ((Bel.refl _).alloc _)).grown hg6 (fun i hi => ((unhide HI).1.1.bel ((Bel.refl _).alloc _)).block hi), ((unhide HI).2.2.bel ((Bel.refl _).alloc _)).grown hg6 (fun i hi => ((unhide HI).1.1.bel ((Bel.refl _).alloc _)).block hi)⟩; clear ho6 hg6))
          go_roundw
          case rel =>
            refine ⟨j + 1, by omega, by go_num, ?_⟩
            rw [unhide HEQ, ← List.append_assoc, unhide HQL]
            exact HI6
          case measure => simp [intOf]; omega
        · obtain rfl : j = m := by omega
          have HN : Hid (Wt w (.slice ai (wpk s.L (ks.take (k + 1))).length ci) (wpk s.L (ks.take (k + 1))) wr ∧ Kt w3 wr) := hide (by
            have e : wpk s.L (ks.take (k + 1)) = wpk s.L (ks.take k) ++ ((qs s.L a b).take j).map fun t => (a, b, t) := by
              rw [List.take_succ_eq_append_getElem hkl, wpk_app, wpk_one, unhide HAB, List.take_of_length_le (l := qs s.L a b) (by rw [unhide HM]; omega)]
            rw [e]
            exact ⟨(unhide HI).1, (unhide HI).2.1⟩)
          have e2 : (wpk s.L (ks.take k) ++ ((qs s.L a b).take j).map fun t => (a, b, t)).length = (wpk s.L (ks.take (k + 1))).length := by
            rw [List.take_succ_eq_append_getElem hkl, wpk_app, wpk_one, unhide HAB, List.take_of_length_le (l := qs s.L a b) (by rw [unhide HM]; omega)]
          rw [e2]
          clear e2 HI
          generalize (wpk s.L (ks.take (k + 1))).length = P2 at HN ⊢
          go_wp2_with fail
          go_roundw
          case rel => exact ⟨k + 1, by omega, by go_num, HN⟩
          case measure => simp [intOf]; omega
    · obtain rfl : k = K := by omega
      have HE : Hid (Wt w (.slice ao (wpk s.L (ks.take k)).length co) (wt s.ms.length s.L) wr) := hide (by
        have e : wpk s.L (ks.take k) = wt s.ms.length s.L := by
          rw [List.take_of_length_le (by rw [unhide HK]; omega)]
          exact wpk_all (unhide HKS).1 (unhide HKS).2 (unhide HML)
        rw [← e]
        exact (unhide HO).1)
      generalize (wpk s.L (ks.take k)).length = P2 at HE ⊢
      go_wp2_with fail
      go_ret
      exact ⟨_, rfl, unhide HE⟩
end Go.Proofs.Ytbcgikkdhfbphaa
