/- from, Get. -/
import Derived.Test.YtkpallbnmckbaaaPut
namespace Go.Proofs.Ytkpallbnmckbaaa
open Go.RowKit
/-- How many cells a tree says that it has. -/
def szOf (n : Value) (W : World) : Nat := match n with
  | .pointer (some a) => match W.cell? ⟨a.block, 6, none⟩ with
    | some (.int _ z) => z.toNat
    | _ => 0
  | _ => 0
theorem TV.sz {w : World} {v : Value} {l : List C} (h : TV w v l) : szOf v w = l.length := by
  obtain ⟨o, rfl, h⟩ := h
  cases o with
  | none => have := h.nil; subst this; rfl
  | some b =>
    obtain ⟨lv, rv, l1, x, l2, hn, _, _, _⟩ := h.one
    have := hn.c6
    rw [pt_some]
    simp [szOf, this]
/-- What was found: where it lies. -/
def Fd (w : World) (f : Option Nat) (o : Option C) : Prop := match o with
  | none => f = none
  | some x => ∃ fb, f = some fb ∧ N4 w fb x
theorem Fd.bel {w w' : World} {f : Option Nat} {o : Option C} (h : Fd w f o) (hb : Bel w w') : Fd w' f o := by
  cases o with
  | none => exact h
  | some x => obtain ⟨fb, h1, h2⟩ := h; exact ⟨fb, h1, h2.bel hb⟩
theorem TV.none_or {w : World} {v : Value} {l : List C} (h : TV w v l) : (v = .pointer none ∧ l = []) ∨ ∃ b lv rv l1 x l2, v = .pointer (some ⟨b, 0, none⟩) ∧ N6 w b x lv rv ∧ l = l1 ++ x :: l2 ∧ TV w lv l1 ∧ TV w rv l2 := by
  obtain ⟨o, rfl, h⟩ := h
  cases o with
  | none => exact Or.inl ⟨rfl, h.nil⟩
  | some b =>
    obtain ⟨lv, rv, l1, x, l2, hn, e, h1, h2⟩ := h.one
    exact Or.inr ⟨b, pt lv, pt rv, l1, x, l2, rfl, hn.n6, e, h1.tv, h2.tv⟩
set_option maxRecDepth 100000 in
set_option maxHeartbeats 4000000 in
theorem from_any {w : World} {v : Value} {l : List C} (b : C) (ht : TV w v l) (hs : Srt l) :
    Calls Try.prog 34 #[v, vC b] w fun e w' => ∃ f, e = .returned (pt f) ∧ Bel w w' ∧ Fd w' f (fst b l) := by
  have hfu := Try.follows
  obtain ⟨k, t, d, vv⟩ := b
  show Calls Try.prog 34 #[v, .agg #[.string k, .int .u64 t, .bool d, .string vv]] w _
  obtain ⟨W0, hW0⟩ : ∃ W0, W0 = (w.alloc (.cells #[.string k, .int .u64 t, .bool d, .string vv] 38)) := ⟨_, rfl⟩
  have hbW : Bel w W0 := by rw [hW0]; exact ((Bel.refl w).alloc _)
  have hrow : N4 W0 w.heap.size (k, t, d, vv) := by rw [hW0]; exact N4.of (at_new w _)
  have H := hide (And.intro (ht.bel hbW) hs)
  have HW0 := hide hW0
  have HB := hide hbW
  have HR := hide hrow
  clear ht hs hW0 hbW hrow
  go_enter Try.func34, Try.ntmps34
  go_wp2_with fail
  rw [← unhide HW0]
  go_loopw [0, 5] (fun vn vf wr => ∃ f l', vf = pt f ∧ Hid (TV wr vn l' ∧ Srt l' ∧ Bel W0 wr ∧ ∃ o, Fd wr f o ∧ fst (k, t, d, vv) l = (fst (k, t, d, vv) l').or o)) (fun vn _ wr => szOf vn wr)
  case atStart => exact ⟨none, l, rfl, (unhide H).1, (unhide H).2, Bel.refl _, none, rfl, by simp⟩
  case round =>
    obtain ⟨f, l', rfl, HQ⟩ := hrel
    obtain ⟨ht, hs, hb, o, hfd, hfe⟩ := HQ.out
    rcases ht.none_or with ⟨rfl, rfl⟩ | ⟨nb, lv, rv, l1, x, l2, rfl, hn, rfl, t1, t2⟩
    · have HF : Hid (Bel w wr ∧ Fd wr f (fst (k, t, d, vv) l)) := hide ⟨(unhide HB).trans hb, by rw [hfe]; exact hfd⟩
      clear ht hs hb hfd hfe HQ
      go_wp2_with fail
      go_ret
      exact ⟨f, rfl, HF.out⟩
    · obtain ⟨xk, xt, xd, xv⟩ := x
      have hsz := hide ht.sz
      have hr := (unhide HR).bel hb
      have hp := hs.parts
      have C21 := hide (fun W => cmp_any (xk, xt, xd, xv) (k, t, d, vv) W)
      unfold vC at C21
      have e0 : ∀ p : BelBy wr, p.W.cell? ⟨w.heap.size, 0, none⟩ = some (.string k) := fun p => p.h.cell hr.1
      have e1 : ∀ p : BelBy wr, p.W.cell? ⟨w.heap.size, 1, none⟩ = some (.int .u64 t) := fun p => p.h.cell hr.2.1
      have e2 : ∀ p : BelBy wr, p.W.cell? ⟨w.heap.size, 2, none⟩ = some (.bool d) := fun p => p.h.cell hr.2.2.1
      have e3 : ∀ p : BelBy wr, p.W.cell? ⟨w.heap.size, 3, none⟩ = some (.string vv) := fun p => p.h.cell hr.2.2.2
      have f0 : ∀ p : BelBy wr, p.W.cell? ⟨nb, 0, none⟩ = some (.string xk) := fun p => p.h.cell hn.1
      have f1 : ∀ p : BelBy wr, p.W.cell? ⟨nb, 1, none⟩ = some (.int .u64 xt) := fun p => p.h.cell hn.2.1
      have f2 : ∀ p : BelBy wr, p.W.cell? ⟨nb, 2, none⟩ = some (.bool xd) := fun p => p.h.cell hn.2.2.1
      have f3 : ∀ p : BelBy wr, p.W.cell? ⟨nb, 3, none⟩ = some (.string xv) := fun p => p.h.cell hn.2.2.2.1
      have hne := BelBy.some wr
      have HN := hide hn
      have HT := hide (And.intro t1 t2)
      by_cases hc : cmpC (xk, xt, xd, xv) (k, t, d, vv) < 0
      · have HG : Hid (Srt l2 ∧ fst (k, t, d, vv) l = (fst (k, t, d, vv) l2).or o) := hide ⟨hp.2.1, by
          rw [hfe, fst_app (fun y hy => lt_le (hp.2.2.1 y hy) (by omega))]
          show ((if cmpC (xk, xt, xd, xv) (k, t, d, vv) < 0 then fst (k, t, d, vv) l2 else some (xk, xt, xd, xv)) : Option C).or o = _
          rw [if_pos hc]⟩
        have HFD := hide (And.intro hb hfd)
        generalize cmpC (xk, xt, xd, xv) (k, t, d, vv) = z at *
        clear ht hs hb hfd hfe HQ hr hp hn t1 t2
        go_wp2_with fail
        refine wp_region_bel hfu (by kernel_rfl) ?_
        repeat (go_big_quiet_step (first | (go_at_call 21; refine calls_by (C21.out _))))
        refine wpQuiet_nil ?_
        rintro W1 ⟨p1, rfl⟩
        have c5 : p1.W.cell? ⟨nb, 5, none⟩ = some rv := p1.h.cell (unhide HN).2.2.2.2.2
        clear e0 e1 e2 e3 f0 f1 f2 f3
        go_wp2_with fail
        refine ⟨⟨f, l2, rfl, (unhide HT).2.bel p1.h, (unhide HG).1, (unhide HFD).1.trans p1.h, o, (unhide HFD).2.bel p1.h, (unhide HG).2⟩, ?_⟩
        rw [((unhide HT).2.bel p1.h).sz, hsz.out]
        simp
        omega
      · have HG : Hid (Srt l1 ∧ fst (k, t, d, vv) l = (fst (k, t, d, vv) l1).or (some (xk, xt, xd, xv))) := hide ⟨hp.1, by
          rw [hfe, fst_or _ _ _ _ hc]
          cases fst (k, t, d, vv) l1 <;> rfl⟩
        have HFD := hide hb
        generalize cmpC (xk, xt, xd, xv) (k, t, d, vv) = z at *
        clear ht hs hb hfd hfe HQ hr hp hn t1 t2
        go_wp2_with fail
        refine wp_region_bel hfu (by kernel_rfl) ?_
        repeat (go_big_quiet_step (first | (go_at_call 21; refine calls_by (C21.out _))))
        refine wpQuiet_nil ?_
        rintro W1 ⟨p1, rfl⟩
        have c4 : p1.W.cell? ⟨nb, 4, none⟩ = some lv := p1.h.cell (unhide HN).2.2.2.2.1
        clear e0 e1 e2 e3 f0 f1 f2 f3
        go_wp2_with fail
        go_quiet (fail)
        go_wp2_with fail
        have hbd : Bel wr (p1.W.drewN nq) := p1.h.drewN nq
        refine ⟨⟨some nb, l1, rfl, (unhide HT).1.bel hbd, (unhide HG).1, (unhide HFD).trans hbd, some (xk, xt, xd, xv), ⟨nb, rfl, ?_⟩, (unhide HG).2⟩, ?_⟩
        · have := (unhide HN).bel hbd
          exact ⟨this.1, this.2.1, this.2.2.1, this.2.2.2.1⟩
        rw [((unhide HT).1.bel hbd).sz, hsz.out]
        simp
theorem set4 {W : World} {B : Nat} {a0 a1 a2 a3 : Value} {t : TypeId} (v0 v1 v2 v3 : Value) (h : W.heap[B]? = some (.cells #[a0, a1, a2, a3] t)) :
    ((((W.setCell ⟨B, 0, none⟩ v0).setCell ⟨B, 1, none⟩ v1).setCell ⟨B, 2, none⟩ v2).setCell ⟨B, 3, none⟩ v3).heap[B]? = some (.cells #[v0, v1, v2, v3] t) := by
  have h1 := row_set (p := 0) (v := v0) h
  have h2 := row_set (p := 1) (v := v1) h1
  have h3 := row_set (p := 2) (v := v2) h2
  have h4 := row_set (p := 3) (v := v3) h3
  exact h4
theorem bel4 {w W : World} {B : Nat} (v0 v1 v2 v3 : Value) (h : Bel w W) (hB : w.heap.size ≤ B) : Bel w ((((W.setCell ⟨B, 0, none⟩ v0).setCell ⟨B, 1, none⟩ v1).setCell ⟨B, 2, none⟩ v2).setCell ⟨B, 3, none⟩ v3) :=
  (((Below.setCell h (p := ⟨B, 0, none⟩) hB v0).setCell (p := ⟨B, 1, none⟩) hB v1).setCell (p := ⟨B, 2, none⟩) hB v2).setCell (p := ⟨B, 3, none⟩) hB v3
/-- What is seen of a key at a time. -/
def getP (l : List C) (key : ByteArray) (t : Int) : Option C := match fst (key, t, false, ⟨#[]⟩) l with
  | none => none
  | some x => if x.k = key ∧ x.d = false then some x else none
def getV (o : Option C) : Value := match o with
  | none => .tuple #[.agg #[.string ⟨#[]⟩, .int .u64 0, .bool false, .string ⟨#[]⟩], .bool false]
  | some x => .tuple #[vC x, .bool true]
set_option maxRecDepth 100000 in
set_option maxHeartbeats 4000000 in
theorem get_of {w : World} {c tv : Value} {l : List C} (key : ByteArray) (t : Int) (h29 : ∀ o, Calls Try.prog 29 #[c] (w.alloc o) fun e w' => e = .returned tv ∧ w' = w.alloc o) (ht : TV w tv l) (hs : Srt l) :
    Calls Try.prog 13 #[c, .string key, .int .u64 t] w fun e w' => e = .returned (getV (getP l key t)) ∧ Bel w w' := by
  have H29 := hide h29
  have H34 : Hid (∀ o, Calls Try.prog 34 #[tv, .agg #[.string key, .int .u64 t, .bool false, .string ⟨#[]⟩]] (w.alloc o) fun e w' => ∃ f, e = .returned (pt f) ∧ Bel (w.alloc o) w' ∧ Fd w' f (fst (key, t, false, ⟨#[]⟩) l)) := hide (fun o => from_any (key, t, false, ⟨#[]⟩) (ht.bel ((Bel.refl _).alloc o)) hs)
  have HP : Hid (getP l key t = match fst (key, t, false, ⟨#[]⟩) l with | none => none | some x => if x.k = key ∧ x.d = false then some x else none) := hide rfl
  obtain ⟨r, hr⟩ : ∃ r, fst (key, t, false, ⟨#[]⟩) l = r := ⟨_, rfl⟩
  rw [hr] at H34 HP
  obtain ⟨z, hz⟩ : ∃ z, getP l key t = z := ⟨_, rfl⟩
  rw [hz] at HP ⊢
  clear h29 ht hs hr hz
  cases r with
  | none =>
    have HZ : Hid (z = none) := HP
    go_enter Try.func13, Try.ntmps13
    go_wp2_with (first | (go_at_call 29; refine (H29.out _).mono ?_; rintro e w1 ⟨rfl, hw1⟩; rw [hw1]; clear hw1) | (go_at_call 34; refine (H34.out _).mono ?_; rintro e w2 ⟨f, rfl, hb2, hf2⟩; obtain rfl : f = none := hf2; rw [pt_none]; have hb := hb2.row (at_new w _); have b0 : w2.cell? ⟨w.heap.size, 0, none⟩ = _ := cell_of hb; have b1 : w2.cell? ⟨w.heap.size, 1, none⟩ = _ := cell_of hb; have b2 : w2.cell? ⟨w.heap.size, 2, none⟩ = _ := cell_of hb; have b3 : w2.cell? ⟨w.heap.size, 3, none⟩ = _ := cell_of hb; have fz : ∀ i, w2.frozen? ⟨w.heap.size, i, none⟩ = false := fun i => free_row hb))
    have hr := set4 (.string ⟨#[]⟩) (.int .u64 0) (.bool false) (.string ⟨#[]⟩) hb
    have r0 := cell_of (i := 0) hr
    have r1 := cell_of (i := 1) hr
    have r2 := cell_of (i := 2) hr
    have r3 := cell_of (i := 3) hr
    have hbb := bel4 (.string ⟨#[]⟩) (.int .u64 0) (.bool false) (.string ⟨#[]⟩) (((Bel.refl w).alloc _).trans hb2) (Nat.le_refl _)
    generalize ((((w2.setCell ⟨w.heap.size, 0, none⟩ (.string ⟨#[]⟩)).setCell ⟨w.heap.size, 1, none⟩ (.int .u64 0)).setCell ⟨w.heap.size, 2, none⟩ (.bool false)).setCell ⟨w.heap.size, 3, none⟩ (.string ⟨#[]⟩)) = W4 at *
    exact bodyPost_ret (v := .tuple #[.agg #[.string ⟨#[]⟩, .int .u64 0, .bool false, .string ⟨#[]⟩], .bool false]) (by simp [results, Try.results13, go_sem, r0, r1, r2, r3]) rfl ⟨by rw [HZ.out]; rfl, hbb⟩
  | some x =>
    obtain ⟨xk, xt, xd, xv⟩ := x
    have HP' : Hid (z = if xk = key ∧ xd = false then some (xk, xt, xd, xv) else none) := HP
    clear HP
    by_cases hk : xk = key
    · subst hk
      cases xd with
      | true =>
        have HZ : Hid (z = none) := hide (by rw [HP'.out]; simp)
        go_enter Try.func13, Try.ntmps13
        go_wp2_with (first | (go_at_call 29; refine (H29.out _).mono ?_; rintro e w1 ⟨rfl, hw1⟩; rw [hw1]; clear hw1) | (go_at_call 34; refine (H34.out _).mono ?_; rintro e w2 ⟨f, rfl, hb2, hf2⟩; obtain ⟨fb, rfl, n0, n1, n2, n3⟩ := hf2; rw [pt_some]; simp only [C.k, C.t, C.d, C.v] at n0 n1 n2 n3; have hb := hb2.row (at_new w _); have b0 : w2.cell? ⟨w.heap.size, 0, none⟩ = _ := cell_of hb; have b1 : w2.cell? ⟨w.heap.size, 1, none⟩ = _ := cell_of hb; have b2 : w2.cell? ⟨w.heap.size, 2, none⟩ = _ := cell_of hb; have b3 : w2.cell? ⟨w.heap.size, 3, none⟩ = _ := cell_of hb; have fz : ∀ i, w2.frozen? ⟨w.heap.size, i, none⟩ = false := fun i => free_row hb))
        have hr := set4 (.string ⟨#[]⟩) (.int .u64 0) (.bool false) (.string ⟨#[]⟩) hb
        have r0 := cell_of (i := 0) hr
        have r1 := cell_of (i := 1) hr
        have r2 := cell_of (i := 2) hr
        have r3 := cell_of (i := 3) hr
        have hbb := bel4 (.string ⟨#[]⟩) (.int .u64 0) (.bool false) (.string ⟨#[]⟩) (((Bel.refl w).alloc _).trans hb2) (Nat.le_refl _)
        generalize ((((w2.setCell ⟨w.heap.size, 0, none⟩ (.string ⟨#[]⟩)).setCell ⟨w.heap.size, 1, none⟩ (.int .u64 0)).setCell ⟨w.heap.size, 2, none⟩ (.bool false)).setCell ⟨w.heap.size, 3, none⟩ (.string ⟨#[]⟩)) = W4 at *
        exact bodyPost_ret (v := .tuple #[.agg #[.string ⟨#[]⟩, .int .u64 0, .bool false, .string ⟨#[]⟩], .bool false]) (by simp [results, Try.results13, go_sem, r0, r1, r2, r3]) rfl ⟨by rw [HZ.out]; rfl, hbb⟩
      | false =>
        have HZ : Hid (z = some (xk, xt, false, xv)) := hide (by rw [HP'.out]; simp)
        go_enter Try.func13, Try.ntmps13
        go_wp2_with (first | (go_at_call 29; refine (H29.out _).mono ?_; rintro e w1 ⟨rfl, hw1⟩; rw [hw1]; clear hw1) | (go_at_call 34; refine (H34.out _).mono ?_; rintro e w2 ⟨f, rfl, hb2, hf2⟩; obtain ⟨fb, rfl, n0, n1, n2, n3⟩ := hf2; rw [pt_some]; simp only [C.k, C.t, C.d, C.v] at n0 n1 n2 n3; have hb := hb2.row (at_new w _); have b0 : w2.cell? ⟨w.heap.size, 0, none⟩ = _ := cell_of hb; have b1 : w2.cell? ⟨w.heap.size, 1, none⟩ = _ := cell_of hb; have b2 : w2.cell? ⟨w.heap.size, 2, none⟩ = _ := cell_of hb; have b3 : w2.cell? ⟨w.heap.size, 3, none⟩ = _ := cell_of hb; have fz : ∀ i, w2.frozen? ⟨w.heap.size, i, none⟩ = false := fun i => free_row hb))
        have hr := set4 (.string xk) (.int .u64 xt) (.bool false) (.string xv) hb
        have r0 := cell_of (i := 0) hr
        have r1 := cell_of (i := 1) hr
        have r2 := cell_of (i := 2) hr
        have r3 := cell_of (i := 3) hr
        have hbb := bel4 (.string xk) (.int .u64 xt) (.bool false) (.string xv) (((Bel.refl w).alloc _).trans hb2) (Nat.le_refl _)
        generalize ((((w2.setCell ⟨w.heap.size, 0, none⟩ (.string xk)).setCell ⟨w.heap.size, 1, none⟩ (.int .u64 xt)).setCell ⟨w.heap.size, 2, none⟩ (.bool false)).setCell ⟨w.heap.size, 3, none⟩ (.string xv)) = W4 at *
        exact bodyPost_ret (v := .tuple #[.agg #[.string xk, .int .u64 xt, .bool false, .string xv], .bool true]) (by simp [results, Try.results13, go_sem, r0, r1, r2, r3]) rfl ⟨by rw [HZ.out]; rfl, hbb⟩
    · have HZ : Hid (z = none) := hide (by rw [HP'.out, if_neg (fun h => hk h.1)])
      have hk' : (xk.toList == key.toList) = false := by
        rw [beq_eq_false_iff_ne, Lib.toList_data, Lib.toList_data]
        exact fun e => hk (key_ext e)
      go_enter Try.func13, Try.ntmps13
      go_wp2_with (first | (go_at_call 29; refine (H29.out _).mono ?_; rintro e w1 ⟨rfl, hw1⟩; rw [hw1]; clear hw1) | (go_at_call 34; refine (H34.out _).mono ?_; rintro e w2 ⟨f, rfl, hb2, hf2⟩; obtain ⟨fb, rfl, n0, n1, n2, n3⟩ := hf2; rw [pt_some]; simp only [C.k, C.t, C.d, C.v] at n0 n1 n2 n3; have hb := hb2.row (at_new w _); have b0 : w2.cell? ⟨w.heap.size, 0, none⟩ = _ := cell_of hb; have b1 : w2.cell? ⟨w.heap.size, 1, none⟩ = _ := cell_of hb; have b2 : w2.cell? ⟨w.heap.size, 2, none⟩ = _ := cell_of hb; have b3 : w2.cell? ⟨w.heap.size, 3, none⟩ = _ := cell_of hb; have fz : ∀ i, w2.frozen? ⟨w.heap.size, i, none⟩ = false := fun i => free_row hb))
      have hr := set4 (.string ⟨#[]⟩) (.int .u64 0) (.bool false) (.string ⟨#[]⟩) hb
      have r0 := cell_of (i := 0) hr
      have r1 := cell_of (i := 1) hr
      have r2 := cell_of (i := 2) hr
      have r3 := cell_of (i := 3) hr
      have hbb := bel4 (.string ⟨#[]⟩) (.int .u64 0) (.bool false) (.string ⟨#[]⟩) (((Bel.refl w).alloc _).trans hb2) (Nat.le_refl _)
      generalize ((((w2.setCell ⟨w.heap.size, 0, none⟩ (.string ⟨#[]⟩)).setCell ⟨w.heap.size, 1, none⟩ (.int .u64 0)).setCell ⟨w.heap.size, 2, none⟩ (.bool false)).setCell ⟨w.heap.size, 3, none⟩ (.string ⟨#[]⟩)) = W4 at *
      exact bodyPost_ret (v := .tuple #[.agg #[.string ⟨#[]⟩, .int .u64 0, .bool false, .string ⟨#[]⟩], .bool false]) (by simp [results, Try.results13, go_sem, r0, r1, r2, r3]) rfl ⟨by rw [HZ.out]; rfl, hbb⟩
theorem get_any {w : World} {p : Nat} {l : List C} (key : ByteArray) (t : Int) (h : Cs w p l) : Calls Try.prog 13 #[.pointer (some ⟨p, 0, none⟩), .string key, .int .u64 t] w fun e w' => e = .returned (getV (getP l key t)) ∧ Bel w w' := by
  obtain ⟨v, h1, h2⟩ := h.see
  exact get_of key t (fun o => tree_any (show Cl (w.alloc o) p v from ((Bel.refl _).alloc o).row h1)) h2.tv h.srt
theorem get_nil (key : ByteArray) (t : Int) (w : World) : Calls Try.prog 13 #[.pointer none, .string key, .int .u64 t] w fun e w' => e = .returned (getV none) ∧ Bel w w' :=
  get_of (l := []) key t (fun _ => tree_nil _) (Tree.zero w).tv Srt.nil
theorem lenC_any {w : World} {p : Nat} {l : List C} (h : Cs w p l) : Calls Try.prog 20 #[.pointer (some ⟨p, 0, none⟩)] w fun e w' => e = .returned (.int .i64 l.length) ∧ w' = w := by
  obtain ⟨v, h1, h2⟩ := h.see
  exact len_any h1 h2
theorem Cs.new (w : World) : Cs (w.alloc (.cells #[.bool true, .pointer none] 57)) w.heap.size [] := ⟨⟨none, at_new w _, Tree.zero _⟩, Srt.nil⟩
end Go.Proofs.Ytkpallbnmckbaaa
