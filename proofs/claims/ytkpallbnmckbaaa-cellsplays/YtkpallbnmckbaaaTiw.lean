/- CellsTime's walk, where its rows are short. -/
import Derived.Test.YtkpallbnmckbaaaTim
namespace Go.Proofs.Ytkpallbnmckbaaa
open Go.RowKit
theorem Tm.start {w W : World} {p : Nat} {key : ByteArray} {t : Int} {l : List C} {n : Nat} (hb : Bel w W) (hc : Cs W p l) (hg : Good l) (hl : l.length ≤ n) (hp : w.heap.size ≤ p) :
    Tm w p W.heap.size key t (getP l key t) n (W.alloc (.cells #[.string (gC (getP l key t)).k, .int .u64 (gC (getP l key t)).t, .bool (gC (getP l key t)).d, .string (gC (getP l key t)).v] 38)) :=
  ⟨hb.trans ((Bel.refl _).alloc _), ⟨l, hc.bel ((Bel.refl _).alloc _), hg, hl, rfl⟩, N4.of (at_new W _), by obtain ⟨v, h1, _⟩ := hc.see; have := lt_of_some h1; omega, hp⟩
theorem Tm.trim {w : World} {p a d : Nat} {key : ByteArray} {t : Int} {o : Option C} {n : Nat} {W : World} (h : Tm w p a key t o n W) (hn : n ≤ 70000) (below : Int) (hb : below ≤ t) (hd : ∃ l, Cs W d l ∧ getP l key t = o) (hdp : d ≠ p) :
    Calls Try.prog 12 #[.pointer (some ⟨p, 0, none⟩), .int .u64 below] W fun e w' => (∃ u, e = .returned (.int .i64 u)) ∧ Tm w p a key t o n w' ∧ (∃ l, Cs w' d l ∧ getP l key t = o) ∧ ∀ (b : Nat) (c : Array Value), W.heap[b]? = some (.cells c 38) → w'.heap[b]? = some (.cells c 38) := by
  obtain ⟨l, h1, h2, h3, h4⟩ := h.see
  refine (trim_any below h1 h2 (by omega)).mono ?_
  rintro e w' ⟨rfl, hc, hch⟩
  refine ⟨⟨_, rfl⟩, ⟨hch.after h.bel h.lo, ⟨_, hc, trm_good h2 below, by have := trm_len below l; omega, by rw [getP_trm h1.srt below key t hb]; exact h4⟩, h.box.ch hch h.ne, h.ne, h.lo⟩, ?_, fun b c hbc => by obtain ⟨vp, kp, _⟩ := h1.see; exact hch.row hbc (ne_type hbc kp (by decide))⟩
  obtain ⟨l', k1, k2⟩ := hd
  obtain ⟨v, k3, k4⟩ := k1.see
  obtain ⟨vp, kp, _⟩ := h1.see
  refine ⟨l', ⟨⟨v, hch.row k3 hdp, k4.at (fun b c hb => hch.row hb (ne_type hb kp (by decide)))⟩, k1.srt⟩, k2⟩
theorem Cs.box {W W' : World} {d b : Nat} {l : List C} {c : Array Value} (h : Cs W d l) (hc : Ch (fun i => i = b) W W') (hb : W.heap[b]? = some (.cells c 38)) : Cs W' d l := by
  obtain ⟨v, h1, h2⟩ := h.see
  exact ⟨⟨v, hc.row h1 (ne_type h1 hb (by decide)), h2.at (fun i c hi => hc.row hi (ne_type hi hb (by decide)))⟩, h.srt⟩
theorem N4.each {w : World} {a : Nat} {k : ByteArray} {t : Int} {d : Bool} {v : ByteArray} (h : N4 w a (k, t, d, v)) : (∀ o', (w.alloc o').cell? ⟨a, 0, none⟩ = some (.string k)) ∧ (∀ o', (w.alloc o').cell? ⟨a, 1, none⟩ = some (.int .u64 t)) ∧ (∀ o', (w.alloc o').cell? ⟨a, 2, none⟩ = some (.bool d)) ∧ (∀ o', (w.alloc o').cell? ⟨a, 3, none⟩ = some (.string v)) :=
  ⟨fun o' => (h.bel ((Bel.refl _).alloc o')).1, fun o' => (h.bel ((Bel.refl _).alloc o')).2.1, fun o' => (h.bel ((Bel.refl _).alloc o')).2.2.1, fun o' => (h.bel ((Bel.refl _).alloc o')).2.2.2⟩
theorem getD {W : World} {d : Nat} {key : ByteArray} {t : Int} {o : Option C} (h : ∃ l, Cs W d l ∧ getP l key t = o) : Calls Try.prog 13 #[.pointer (some ⟨d, 0, none⟩), .string key, .int .u64 t] W fun e w' => e = .returned (.tuple #[.agg #[.string (gC o).k, .int .u64 (gC o).t, .bool (gC o).d, .string (gC o).v], .bool (gB o)]) ∧ Bel W w' := by
  obtain ⟨l, h1, h4⟩ := h
  have := get_any key t h1
  rw [h4, getV_eq] at this
  exact this
set_option maxRecDepth 100000 in
set_option maxHeartbeats 8000000 in
theorem time_small {L M : List C} {a1 a2 : Option Addr} {c1 c2 g1 o1 g2 o2 n1 n2 : Nat} (hn1 : L.length = n1) (hn2 : M.length = n2) (ha1 : L.length ≠ 0 → a1 = some ⟨g1, o1, none⟩) (ha2 : M.length ≠ 0 → a2 = some ⟨g2, o2, none⟩) (key : ByteArray) (t below : Int) (h1 : n1 ≤ 60) (h2 : n2 ≤ 60)
    (hL : ∀ x ∈ L, 0 ≤ x.t) (hM : ∀ x ∈ M, 0 ≤ x.t) (w : World) (hr1 : Row w g1 o1 L) (hr2 : Row w g2 o2 M) :
    Calls Try.prog 5 #[.slice a1 n1 c1, .slice a2 n2 c2, .string key, .int .u64 t, .int .u64 below] w fun e w' => e = .returned (.bool true) ∧ Bel w w' := by
  obtain ⟨w1, hw1⟩ : ∃ w1, w1 = w.alloc (.cells #[.bool true, .pointer none] 57) := ⟨_, rfl⟩
  have hb1 : Bel w w1 := by rw [hw1]; exact (Bel.refl _).alloc _
  have hC1 : Cs w1 w.heap.size [] := by rw [hw1]; exact Cs.new w
  have P := hide (put_any (cap := c1) hC1 (hr1.bel hb1) ha1 (by simp; omega))
  rw [hn1] at P
  have HG := hide (putL_good (l := []) (fun x hx => by simp at hx) hL)
  have HLN : Hid ((putL [] L).length ≤ 60) := hide (by have := putL_len [] L; simp at this; omega)
  have HA2 := hide ha2
  have HR2 := hide hr2
  have HM := hide hM
  have HN2 := hide hn2
  have HB1 := hide hb1
  have HW1 := hide hw1
  have h1' : ¬ (60 : Int) < (n1 : Int) := by omega
  have h2' : ¬ (60 : Int) < (n2 : Int) := by omega
  clear hn1 hn2 ha1 ha2 hL hM hr1 hr2 hb1 hC1 hw1 h1
  generalize putA L = pa at P
  go_enter Try.func5, Try.ntmps5
  go_wp2_with (first
    | (go_at_call 7; refine (new_any _).mono ?_; rintro e w0 ⟨rfl, hw0⟩; rw [hw0]; clear hw0; rw [← unhide HW1])
    | (go_at_call 9; refine (P.out).mono ?_; rintro e w2 ⟨rfl, hC2, hch2⟩; have HC2 := hide hC2; have HB2 := hide (hch2.after (unhide HB1) (Nat.le_refl _)); clear hC2 hch2))
  have G1 : Hid (Calls Try.prog 13 #[.pointer (some ⟨w.heap.size, 0, none⟩), .string key, .int .u64 t] w2 fun e w' => e = .returned (.tuple #[.agg #[.string (gC (getP (putL [] L) key t)).k, .int .u64 (gC (getP (putL [] L) key t)).t, .bool (gC (getP (putL [] L) key t)).d, .string (gC (getP (putL [] L) key t)).v], .bool (gB (getP (putL [] L) key t))]) ∧ Bel w2 w') := hide (by
    have := get_any key t (unhide HC2)
    rw [getV_eq] at this
    exact this)
  have HT0 : Hid (∀ w3, Bel w2 w3 → Tm w w.heap.size w3.heap.size key t (getP (putL [] L) key t) 60 (w3.alloc (.cells #[.string (gC (getP (putL [] L) key t)).k, .int .u64 (gC (getP (putL [] L) key t)).t, .bool (gC (getP (putL [] L) key t)).d, .string (gC (getP (putL [] L) key t)).v] 38))) := hide (fun w3 hb => Tm.start ((unhide HB2).trans hb) ((unhide HC2).bel hb) (unhide HG) (unhide HLN) (Nat.le_refl _))
  generalize getP (putL [] L) key t = o at *
  clear P HC2 HG HLN
  obtain ⟨ok, hok⟩ : ∃ y, gC o = y := ⟨_, rfl⟩
  obtain ⟨ob, hob⟩ : ∃ y, gB o = y := ⟨_, rfl⟩
  have HOK := hide hok
  have HOB := hide hob
  rw [hok, hob] at G1
  rw [hok] at HT0
  clear hok hob
  obtain ⟨kk, kt, kd, kv⟩ := ok
  simp only [C.k, C.t, C.d, C.v] at G1 HT0
  refine (G1.out).mono ?_
  rintro e w3 ⟨rfl, hb3⟩
  have HT := hide ((unhide HT0) w3 hb3)
  clear HT0 G1 hb3
  go_wp2_with fail
  have HA : Hid (w3.heap.size = w3.heap.size) := hide rfl
  generalize w3.heap.size = a at HT HA ⊢
  generalize w3.alloc (.cells #[.string kk, .int .u64 kt, .bool kd, .string kv] 38) = W3 at HT ⊢
  go_loopw [14] (fun vi wr => ∃ k : Nat, k ≤ n2 ∧ vi = .int .i64 k ∧ Hid (Tm w w.heap.size a key t o (60 + k) wr)) (fun vi _ => n2 - (intOf vi).toNat)
  case atStart => exact ⟨0, Nat.zero_le _, rfl, unhide HT⟩
  case round =>
    obtain ⟨k, hk, rfl, HK⟩ := hrel
    by_cases hlt : k < n2
    · have hkl : k < M.length := by rw [HN2.out]; exact hlt
      obtain rfl := HA2.out (by omega)
      have hki : (k : Int) < (n2 : Int) := by omega
      obtain ⟨x0, x1, x2, x3⟩ := ((unhide HR2).bel (unhide HK).bel) k hkl
      have hx0 := (unhide HM) M[k] (List.getElem_mem hkl)
      generalize M[k] = x at *
      obtain ⟨xk, xt, xd, xv⟩ := x
      simp only [C.k, C.t, C.d, C.v] at x0 x1 x2 x3 hx0
      by_cases ht : t < xt
      · have PP : Hid (Calls Try.prog 9 #[.pointer (some ⟨w.heap.size, 0, none⟩), .slice (some ⟨wr.heap.size, 0, none⟩) 1 1] (wr.alloc (.cells #[.string xk, .int .u64 xt, .bool xd, .string xv] 38)) fun e w' => (∃ u1 u2, e = .returned (.tuple #[.int .i64 u1, .int .i64 u2])) ∧ Tm w w.heap.size a key t o (60 + k + 1) w') := hide (((unhide HK).next ((Bel.refl _).alloc _)).put (xk, xt, xd, xv) ht hx0 (by omega) wr.heap.size (at_new wr _))
        clear hx0
        go_wp2_with (go_at_call 9; refine (PP.out).mono ?_; rintro e w5 ⟨⟨u1, u2, rfl⟩, hT5⟩)
        go_roundw
        case rel => exact ⟨k + 1, by omega, by go_num, hT5⟩
        case measure => simp [intOf]; omega
      · clear hx0
        have HK1 : Hid (Tm w w.heap.size a key t o (60 + (k + 1)) wr) := hide (by
          obtain ⟨l, q1, q2, q3, q4⟩ := (unhide HK).see
          exact ⟨(unhide HK).bel, ⟨l, q1, q2, by omega, q4⟩, (unhide HK).box, (unhide HK).ne, (unhide HK).lo⟩)
        go_wp2_with fail
        go_roundw
        case rel => exact ⟨k + 1, by omega, by go_num, unhide HK1⟩
        case measure => simp [intOf]; omega
    · have hki : ¬ (k : Int) < (n2 : Int) := by omega
      have hk70 : Hid (60 + k ≤ 70000) := hide (by omega)
      have G2 := hide (unhide HK).get
      rw [HOK.out, HOB.out] at G2
      simp only [C.k, C.t, C.d, C.v] at G2
      go_wp2_with (go_at_call 13; refine (G2.out).mono ?_; rintro e w4 ⟨rfl, hb4⟩; have hT4 : ∀ o', Tm w w.heap.size a key t o (60 + k) (w4.alloc o') := (fun o' => (unhide HK).next (hb4.trans ((Bel.refl _).alloc o'))); have z0 : ∀ o', (w4.alloc o').cell? ⟨a, 0, none⟩ = some (.string kk) := (fun o' => by have := (hT4 o').box.1; rw [HOK.out] at this; exact this); have z1 : ∀ o', (w4.alloc o').cell? ⟨a, 1, none⟩ = some (.int .u64 kt) := (fun o' => by have := (hT4 o').box.2.1; rw [HOK.out] at this; exact this); have z2 : ∀ o', (w4.alloc o').cell? ⟨a, 2, none⟩ = some (.bool kd) := (fun o' => by have := (hT4 o').box.2.2.1; rw [HOK.out] at this; exact this); have z3 : ∀ o', (w4.alloc o').cell? ⟨a, 3, none⟩ = some (.string kv) := (fun o' => by have := (hT4 o').box.2.2.2; rw [HOK.out] at this; exact this); have HT4 := hide hT4; have HB4 := hide hb4; clear hT4 hb4)
      have hT4 := (unhide HT4) (.cells #[.string kk, .int .u64 kt, .bool kd, .string kv] 38)
      have hbx := at_new w4 (.cells #[.string kk, .int .u64 kt, .bool kd, .string kv] 38)
      have hbp : w4.heap.size ≠ w.heap.size := by have := (unhide HT4 (.cells #[.string kk, .int .u64 kt, .bool kd, .string kv] 38)).see; obtain ⟨l, q1, _⟩ := (unhide HK).see; obtain ⟨v, q2, _⟩ := q1.see; have := lt_of_some q2; have := (unhide HB4).size; omega
      have hab : a ≠ w4.heap.size := by have := lt_cell (unhide HK).box.1; have := (unhide HB4).size; omega
      generalize w4.alloc (.cells #[.string kk, .int .u64 kt, .bool kd, .string kv] 38) = W4 at hT4 hbx ⊢
      have hbl : w.heap.size ≤ w4.heap.size := Nat.le_trans (unhide HK).bel.size (unhide HB4).size
      generalize w4.heap.size = b at hbx hbp hab hbl ⊢
      clear z0 z1 z2 z3 HT4
      obtain ⟨l4, q1, q2, q3, q4⟩ := hT4.see
      obtain ⟨v4, q5, q6⟩ := q1.see
      have C23 := hide (copy_any q5)
      have hW5 : Tm w w.heap.size a key t o (60 + k) (W4.alloc (.cells #[.bool true, pt v4] 57)) := hT4.next ((Bel.refl _).alloc _)
      have hd5 : ∃ l, Cs (W4.alloc (.cells #[.bool true, pt v4] 57)) W4.heap.size l ∧ getP l key t = o := ⟨l4, ⟨⟨v4, at_new W4 _, q6.bel ((Bel.refl _).alloc _)⟩, q1.srt⟩, q4⟩
      have hx5 := ((Bel.refl W4).alloc (.cells #[.bool true, pt v4] 57)).row hbx
      have hdp : W4.heap.size ≠ w.heap.size := by have := lt_of_some q5; omega
      have hdb : b ≠ W4.heap.size := by have := lt_of_some hbx; omega
      have hda : a ≠ W4.heap.size := by have := lt_cell hT4.box.1; omega
      refine (C23.out).mono ?_
      rintro e w5 ⟨rfl, hw5⟩
      rw [← hw5] at hW5 hd5 hx5
      clear hw5 C23 q1 q2 q3 q4 q5 q6 hT4 hbx
      generalize W4.heap.size = dd at hd5 hdp hdb hda ⊢
      have HH5 := hide (And.intro hW5 (And.intro hd5 (And.intro hx5 (And.intro hdp (And.intro hdb hda)))))
      clear hW5 hd5 hx5
      go_wp2_with fail
      refine ((unhide HH5).1.trim (unhide hk70) (min below t) (Int.min_le_right _ _) (unhide HH5).2.1 (unhide HH5).2.2.2.1).mono ?_
      rintro e w6 ⟨⟨u6, rfl⟩, hT6, hd6, hk6⟩
      have hx6 := hk6 b _ (unhide HH5).2.2.1
      have G6 := hide hT6.get
      rw [HOK.out, HOB.out] at G6
      simp only [C.k, C.t, C.d, C.v] at G6
      have HH6 := hide (And.intro hT6 (And.intro hd6 hx6))
      clear hT6 hd6 hk6 hx6 HH5
      go_wp2_with fail
      refine (G6.out).mono ?_
      rintro e w7 ⟨rfl, hb7⟩
      have HH7 := hide (And.intro ((unhide HH6).1.next hb7) (And.intro (show ∃ l, Cs w7 dd l ∧ getP l key t = o from (by obtain ⟨l, q1, q2⟩ := (unhide HH6).2.1; exact ⟨l, q1.bel hb7, q2⟩)) (hb7.row (unhide HH6).2.2)))
      clear hb7
      go_wp2_with (refine store_cell rfl _ _ rfl (unhide HH7).2.2 kk kt kd kv rfl rfl ?_; intro W8 hB8 hc8; have HB8 := hide (hc8.after (unhide HH7).1.bel hbl); have HN8 := hide (And.intro ((unhide HH7).1.box.ch hc8 hab) (N4.of (x := (kk, kt, kd, kv)) hB8)); have HG8 := hide (getD (show ∃ l, Cs W8 dd l ∧ getP l key t = o from (by obtain ⟨l, q1, q2⟩ := (unhide HH7).2.1; exact ⟨l, q1.box hc8 (unhide HH7).2.2, q2⟩))); clear hB8 hc8)
      rw [HOK.out, HOB.out] at HG8
      rw [HOK.out] at HN8
      simp only [C.k, C.t, C.d, C.v] at HG8
      go_wp2_with (first
        | (go_at_call 13; with_reducible refine (HG8.out).mono ?_; rintro e w9 ⟨rfl, hb9⟩; obtain ⟨z0, z1, z2, z3⟩ := N4.each ((unhide HN8).1.bel hb9); obtain ⟨y0, y1, y2, y3⟩ := N4.each ((unhide HN8).2.bel hb9); have HB9 := hide ((unhide HB8).trans (hb9.trans ((Bel.refl _).alloc (.cells #[.string kk, .int .u64 kt, .bool kd, .string kv] 38)))); clear hb9)
        | (go_at_call 8; refine (alive_any _).mono ?_; rintro e w10 ⟨rfl, hb10⟩))
      go_ret
      exact ⟨rfl, (unhide HB9).trans hb10⟩
theorem time_law {L M : List C} {a1 a2 : Option Addr} {c1 c2 g1 o1 g2 o2 : Nat} (ha1 : L.length ≠ 0 → a1 = some ⟨g1, o1, none⟩) (ha2 : M.length ≠ 0 → a2 = some ⟨g2, o2, none⟩) (key : ByteArray) (t below : Int)
    (hL : ∀ x ∈ L, 0 ≤ x.t) (hM : ∀ x ∈ M, 0 ≤ x.t) (w : World) (hr1 : Row w g1 o1 L) (hr2 : Row w g2 o2 M) :
    Calls Try.prog 5 #[.slice a1 L.length c1, .slice a2 M.length c2, .string key, .int .u64 t, .int .u64 below] w fun e w' => e = .returned (.bool true) ∧ Bel w w' := by
  by_cases h : 60 < L.length ∨ 60 < M.length
  · exact time_big _ _ _ _ _ _ _ _ rfl rfl key t below h w
  · exact time_small rfl rfl ha1 ha2 key t below (by omega) (by omega) hL hM w hr1 hr2
end Go.Proofs.Ytkpallbnmckbaaa
