/- walk by a loop's own rounds; All. -/
import Derived.Test.YtkpallbnmckbaaaTow
import Derived.Test.YtkpallbnmckbaaaTrp
import Derived.Deep.DrawnRows
namespace Go.Proofs.Ytkpallbnmckbaaa
open Go.RowKit Go.Shelf
set_option maxRecDepth 100000 in
set_option maxHeartbeats 4000000 in
theorem walky_node {w : World} {lp B : Nat} {J : (Nat → Prop) → List C → World → Prop} {X : Nat → Prop} (hy : Yl w 4 900000 lp J) (hX : X B) {nb : Nat} {lv rv : Value} {x : C} {l1 l2 : List C} (hn : N6 w nb x lv rv) (hxk : x.k ≠ ⟨#[]⟩)
    (ihl : ∀ pre W, J X pre W → W.heap[B]? = some (.cells #[.string ⟨#[]⟩, .int .u64 0, .bool false, .string ⟨#[]⟩] 38) → pre.length + l1.length ≤ 900000 → CallsIn Fence.wide 4 Try.prog 30 #[lv, .pointer (some ⟨B, 0, none⟩), .func (.yield lp) #[] #[]] W fun e w' => e = .returned (.bool true) ∧ J X (pre ++ l1) w' ∧ w'.heap[B]? = some (.cells #[.string ⟨#[]⟩, .int .u64 0, .bool false, .string ⟨#[]⟩] 38))
    (ihr : ∀ pre W, J X pre W → W.heap[B]? = some (.cells #[.string ⟨#[]⟩, .int .u64 0, .bool false, .string ⟨#[]⟩] 38) → pre.length + l2.length ≤ 900000 → CallsIn Fence.wide 4 Try.prog 30 #[rv, .pointer (some ⟨B, 0, none⟩), .func (.yield lp) #[] #[]] W fun e w' => e = .returned (.bool true) ∧ J X (pre ++ l2) w' ∧ w'.heap[B]? = some (.cells #[.string ⟨#[]⟩, .int .u64 0, .bool false, .string ⟨#[]⟩] 38))
    (pre : List C) (W : World) (hJ : J X pre W) (hB : W.heap[B]? = some (.cells #[.string ⟨#[]⟩, .int .u64 0, .bool false, .string ⟨#[]⟩] 38)) (hN : pre.length + (l1 ++ x :: l2).length ≤ 900000) :
    CallsIn Fence.wide 4 Try.prog 30 #[.pointer (some ⟨nb, 0, none⟩), .pointer (some ⟨B, 0, none⟩), .func (.yield lp) #[] #[]] W fun e w' => e = .returned (.bool true) ∧ J X (pre ++ (l1 ++ x :: l2)) w' ∧ w'.heap[B]? = some (.cells #[.string ⟨#[]⟩, .int .u64 0, .bool false, .string ⟨#[]⟩] 38) := by
  have hfu := Try.follows
  obtain ⟨xk, xt, xd, xv⟩ := x
  have hc : ¬ cmpC (xk, xt, xd, xv) (beh ⟨#[]⟩) < 0 := nil_lt hxk
  obtain ⟨z, hz⟩ : ∃ z, cmpC (xk, xt, xd, xv) (beh ⟨#[]⟩) = z := ⟨_, rfl⟩
  have C21 := hide (cmpv (xk, xt, xd, xv) (beh ⟨#[]⟩) z hz)
  rw [hz] at hc
  have hd : decide (0 ≤ z) = true := by simp; omega
  have C21' : Hid (∀ w : World, Calls Try.prog 21 #[.agg #[.string xk, .int .u64 xt, .bool xd, .string xv], .agg #[.string ⟨#[]⟩, .int .u64 0, .bool false, .string ⟨#[]⟩]] w fun e w' => e = .returned (.int .i64 z) ∧ Bel w w') := C21
  have hl1 : pre.length + l1.length ≤ 900000 := by simp at hN; omega
  have IHL := hide (ihl pre)
  have HY := hide hy
  have HN := hide hn
  have HJ := hide (And.intro hJ hB)
  obtain ⟨e0, e1, e2, e3⟩ : N4 W.drew B (⟨#[]⟩, 0, false, ⟨#[]⟩) := N4.of hB
  obtain ⟨f0, f1, f2, f3⟩ : N4 W.drew nb (xk, xt, xd, xv) := N6.n4 (hn.bel (hy.old X pre W hJ).drew)
  simp only [C.k, C.t, C.d, C.v] at e0 e1 e2 e3 f0 f1 f2 f3
  have HL1 := hide hl1
  have HNN := hide hN
  have IHR := hide ihr
  clear C21 hz hn hy hJ hB ihl ihr hl1 hN
  refine callsIn_of_wp Try.func30 rfl trivial ?_
  simp only [Try.ntmps30, List.size_toArray, List.length_cons, List.length_nil, Nat.reduceAdd, Nat.reduceSub, Array.replicate_succ, Array.replicate_zero, List.push_toArray, List.append_toArray, List.nil_append, List.cons_append]
  gi_wp2_with fail
  gi_region_with_o (first
    | (refine ⟨trivial, ?_⟩; gi_at_call 21; refine (callsIn_wide.2 (C21'.out _)).mono ?_; rintro e w1 ⟨rfl, hb1⟩; have hJ1 := (unhide HY).bel _ _ _ _ (unhide HJ).1 ((Bel.refl _).drew.trans hb1); have c4 : w1.cell? ⟨nb, 4, none⟩ = some lv := ((unhide HN).bel ((unhide HY).old _ _ _ hJ1)).2.2.2.2.1; have HJ1 := hide (And.intro hJ1 (((Bel.refl W).drew.trans hb1).row (unhide HJ).2)); clear hJ1 hb1)
    | (refine ⟨trivial, ?_⟩; gi_at_call 30; refine (callsIn_wide.2 (callsIn_wide.1 (IHL.out _ (unhide HJ1).1 (unhide HJ1).2 (unhide HL1)))).mono ?_; rintro e w2 ⟨rfl, hj2, hb2⟩; have HJ2 := hide (And.intro hj2 hb2); clear hj2 hb2))
  all_goals
    have hj2 := (unhide HJ2).1
    have hlen2 : (pre ++ l1).length < 900000 := by have := unhide HNN; simp at this ⊢; omega
    obtain ⟨e0', e1', e2', e3'⟩ : N4 w2.drew B (⟨#[]⟩, 0, false, ⟨#[]⟩) := N4.of (unhide HJ2).2
    obtain ⟨f0', f1', f2', f3'⟩ : N4 w2.drew nb (xk, xt, xd, xv) := N6.n4 ((unhide HN).bel ((unhide HY).old X _ w2 hj2).drew)
    simp only [C.k, C.t, C.d, C.v] at e0' e1' e2' e3' f0' f1' f2' f3'
    have HLEN2 := hide hlen2
    clear hj2 hlen2
    gi_wp2_with fail
    gi_region_with_o (first
      | (refine ⟨trivial, ?_⟩; gi_at_call 21; refine (callsIn_wide.2 (C21'.out _)).mono ?_; rintro e w3 ⟨rfl, hb3⟩; have hJ3 := (unhide HY).bel _ _ _ _ (unhide HJ2).1 ((Bel.refl _).drew.trans hb3); obtain ⟨g0, g1, g2, g3⟩ := N6.n4 ((unhide HN).bel ((unhide HY).old _ _ _ hJ3)); simp only [C.k, C.t, C.d, C.v] at g0 g1 g2 g3; obtain ⟨yfn, ytm, yas, ybd, hyr, hyR⟩ := (unhide HY).yld X _ (xk, xt, xd, xv) w3 hJ3 (unhide HLEN2); have hyr' : (Instr.yield lp #[.agg #[.string xk, .int .u64 xt, .bool xd, .string xv]]).run Try.prog w3 = .ok (.round lp yfn ytm yas ybd) w3 := hyr; have HYR := hide hyR; have HB3 := hide (((Bel.refl w2).drew.trans hb3).row (unhide HJ2).2); clear hJ3 hb3 hyr hyR)
      | (refine (unhide HYR).mono ?_; rintro e w4 ⟨rfl, hj4, hx4⟩; have hb4 := (hx4 B hX).trans (unhide HB3); have c5 : w4.cell? ⟨nb, 5, none⟩ = some rv := ((unhide HN).bel ((unhide HY).old _ _ _ hj4)).2.2.2.2.2; have HJ4 := hide (And.intro hj4 hb4); clear hj4 hx4 hb4))
    all_goals
      gi_wp2_with (refine ⟨trivial, ?_⟩; gi_at_call 30; refine (callsIn_wide.2 (callsIn_wide.1 (IHR.out _ _ (unhide HJ4).1 (unhide HJ4).2 (by have := unhide HNN; simp at this ⊢; omega)))).mono ?_; rintro e w5 ⟨rfl, hj5, hb5⟩)
      go_ret
      refine ⟨rfl, ?_, hb5⟩
      rw [show pre ++ (l1 ++ (xk, xt, xd, xv) :: l2) = pre ++ l1 ++ [(xk, xt, xd, xv)] ++ l2 by simp]
      exact hj5
theorem walky_nil (b f : Value) (w : World) : CallsIn Fence.wide 4 Try.prog 30 #[.pointer none, b, f] w fun e w' => e = .returned (.bool true) ∧ w' = w := callsIn_wide.2 (walk_nil b f w)
theorem walky_upto {w : World} {lp B : Nat} {J : (Nat → Prop) → List C → World → Prop} {X : Nat → Prop} (hy : Yl w 4 900000 lp J) (hX : X B) (m : Nat) :
    ∀ (l : List C) (v : Value) (pre : List C) (W : World), l.length ≤ m → TV w v l → Good l → J X pre W → W.heap[B]? = some (.cells #[.string ⟨#[]⟩, .int .u64 0, .bool false, .string ⟨#[]⟩] 38) → pre.length + l.length ≤ 900000 →
      CallsIn Fence.wide 4 Try.prog 30 #[v, .pointer (some ⟨B, 0, none⟩), .func (.yield lp) #[] #[]] W fun e w' => e = .returned (.bool true) ∧ J X (pre ++ l) w' ∧ w'.heap[B]? = some (.cells #[.string ⟨#[]⟩, .int .u64 0, .bool false, .string ⟨#[]⟩] 38) := by
  induction m with
  | zero =>
    intro l v pre W hm ht hg hJ hB hN
    obtain rfl : l = [] := List.length_eq_zero_iff.1 (by omega)
    rcases ht.none_or with ⟨rfl, _⟩ | ⟨_, _, _, l1, x, l2, _, _, e, _⟩
    · refine (walky_nil _ _ W).mono ?_
      rintro e w' ⟨rfl, rfl⟩
      exact ⟨rfl, by simpa using hJ, hB⟩
    · exact absurd e.symm (by simp)
  | succ m ih =>
    intro l v pre W hm ht hg hJ hB hN
    rcases ht.none_or with ⟨rfl, rfl⟩ | ⟨nb, lv, rv, l1, x, l2, rfl, hn, rfl, t1, t2⟩
    · refine (walky_nil _ _ W).mono ?_
      rintro e w' ⟨rfl, rfl⟩
      exact ⟨rfl, by simpa using hJ, hB⟩
    · have hlen : l1.length + l2.length + 1 = (l1 ++ x :: l2).length := by simp; omega
      exact walky_node hy hX hn (hg x (by simp)).1 (fun pre W h hb hN => ih l1 lv pre W (by omega) t1 (fun y h => hg y (by simp [h])) h hb hN) (fun pre W h hb hN => ih l2 rv pre W (by omega) t2 (fun y h => hg y (by simp [h])) h hb hN) pre W hJ hB hN
end Go.Proofs.Ytkpallbnmckbaaa
