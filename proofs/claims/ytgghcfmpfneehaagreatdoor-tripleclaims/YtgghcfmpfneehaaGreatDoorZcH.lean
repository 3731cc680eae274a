/- The law TripleClaims answers true: for every row of schemas, of writes, and every two rows of texts. -/
import Derived.Test.YtgghcfmpfneehaaGreatDoorMgC
import Derived.Test.YtgghcfmpfneehaaGreatDoorMgD
import Derived.Test.YtgghcfmpfneehaaGreatDoorZcG
namespace Go.Proofs.YtgghcfmpfneehaaGreatDoor
open Go.RowKit Go.Sort
/-- A row of texts at any place. -/
def RowT (W : World) (g off : Nat) (A : List (List UInt8)) : Prop := ∀ j (h : j < A.length), W.cell? ⟨g, off + j, none⟩ = some (.string ⟨A[j].toArray⟩)
theorem RowT.next {W W' : World} {g off : Nat} {A : List (List UInt8)} (h : RowT W g off A) (hb : Bel W W') : RowT W' g off A := fun j hj => hb.cell (h j hj)
set_option maxHeartbeats 4000000 in
set_option maxRecDepth 100000 in
theorem claims_long (a1 a2 a3 a4 : Option Addr) (n1 n2 n3 n4 c1 c2 c3 c4 : Nat) (h : 300 < n1 ∨ 300 < n2 ∨ 300 < n3 ∨ 300 < n4) (w : World) (hG : Gl2 w) :
    Calls Tryz.prog 4 #[.slice a1 n1 c1, .slice a2 n2 c2, .slice a3 n3 c3, .slice a4 n4 c4] w fun e w' => e = .returned (.bool true) ∧ Bel w w' := by
  have C5 := hide (alive_anyG w hG)
  clear hG
  have step : (300 < n1) ∨ (¬ 300 < n1 ∧ 300 < n2) ∨ (¬ 300 < n1 ∧ ¬ 300 < n2 ∧ 300 < n3) ∨ (¬ 300 < n1 ∧ ¬ 300 < n2 ∧ ¬ 300 < n3 ∧ 300 < n4) := by omega
  clear h
  rcases step with h1 | ⟨h1, h2⟩ | ⟨h1, h2, h3⟩ | ⟨h1, h2, h3, h4⟩
  all_goals
    go_enter Tryz.func4, Tryz.ntmps4
    go_wp2_with (go_at_call 10; refine C5.out.mono ?_; rintro e w1 ⟨rfl, hb1⟩)
    go_ret
    exact ⟨rfl, hb1⟩
set_option maxHeartbeats 4000000 in
set_option maxRecDepth 100000 in
theorem claims_short (a1 a2 a3 a4 : Option Addr) (g1 o1 c1 g2 o2 c2 g3 o3 c3 g4 o4 c4 : Nat) (L : List Sm) (X : List Wm) (A B : List (List UInt8))
    (ha1 : L.length ≠ 0 → a1 = some ⟨g1, o1, none⟩) (ha2 : X.length ≠ 0 → a2 = some ⟨g2, o2, none⟩) (ha3 : A.length ≠ 0 → a3 = some ⟨g3, o3, none⟩) (ha4 : B.length ≠ 0 → a4 = some ⟨g4, o4, none⟩)
    (hl1 : L.length ≤ 300) (hl2 : X.length ≤ 300) (hl3 : A.length ≤ 300) (hl4 : B.length ≤ 300) (w : World)
    (hr1 : Row8 w g1 o1 L) (hr2 : RowW w g2 o2 X) (hr3 : RowT w g3 o3 A) (hr4 : RowT w g4 o4 B) (hg3 : A.length ≠ 0 → g3 < w.heap.size) (hg4 : B.length ≠ 0 → g4 < w.heap.size)
    (hin : ∀ x ∈ X, inW x) (hmx : ∀ x ∈ X, x.2.2.1.size ≤ maxLen) (hm3 : ∀ x ∈ A, x.length ≤ maxLen) (hm4 : ∀ x ∈ B, x.length ≤ maxLen) (hG : Gl2 w) :
    Calls Tryz.prog 4 #[.slice a1 L.length c1, .slice a2 X.length c2, .slice a3 A.length c3, .slice a4 B.length c4] w fun e w' => e = .returned (.bool true) ∧ Bel w w' := by
  have C11 := hide (fun ad ad2 g cap g' cap' W h1 h2 h3 h4 h5 => claims_any ad ad2 g 0 cap L h1 g' 0 cap' X h2 W (by omega) h3 h4 (by omega) h5 hin)
  have C12 := hide (fun W h1 h2 => refClaims_any a1 a2 g1 o1 c1 L ha1 g2 o2 c2 X ha2 W (by omega) h1 (by omega) h2 hin)
  have C13 := hide (fun ad g cap W h1 h2 => preds_any ad g 0 cap X h1 W (by omega) h2 hmx)
  have C14 := hide (fun W h1 => refPreds_any a2 g2 o2 c2 X ha2 W (by omega) h1)
  have C16 := hide (fun W (h1 : RowT W g3 o3 A) (h2 : RowT W g4 o4 B) h3 h4 => clash_any a3 a4 g3 o3 c3 g4 o4 c4 A B ha3 ha4 (by omega) (by omega) W h1 h2 h3 h4 hm3 hm4)
  have C17 := hide (fun W (h1 : RowT W g3 o3 A) (h2 : RowT W g4 o4 B) => refClash_any a3 a4 g3 o3 c3 g4 o4 c4 A B ha3 ha4 (by omega) (by omega) W h1 h2)
  have C10 := hide (fun W hW => alive_anyG W hW)
  have HA2 := hide ha2
  obtain ⟨n1, hn1⟩ : ∃ n, L.length = n := ⟨_, rfl⟩
  obtain ⟨n2, hn2⟩ : ∃ n, X.length = n := ⟨_, rfl⟩
  obtain ⟨n3, hn3⟩ : ∃ n, A.length = n := ⟨_, rfl⟩
  obtain ⟨n4, hn4⟩ : ∃ n, B.length = n := ⟨_, rfl⟩
  have appS' := hide (fun (ops : Array Oper) rest o a Q W hc hgd s x ho hs hx hK => @appS ops rest o a Q W L a1 g1 o1 n1 c1 hn1 (hn1 ▸ ha1) hc (hn1 ▸ hl1) hgd s x ho hs hx hK)
  have appW' := hide (fun (ops : Array Oper) rest o a Q W hc hgd s x ho hs hx hK => @appW ops rest o a Q W X a2 g2 o2 n2 c2 hn2 (hn2 ▸ ha2) hc (hn2 ▸ hl2) hgd s x ho hs hx hK)
  rw [hn1] at C11 C12 ha1 hl1 ⊢
  rw [hn2] at C11 C12 C13 C14 HA2 hl2 ⊢
  rw [hn3] at C16 C17 hl3 hg3 ⊢
  rw [hn4] at C16 C17 hl4 hg4 ⊢
  have H1 := hide hr1
  have H2 := hide hr2
  have H3 := hide hr3
  have H4 := hide hr4
  have G3 := hide hg3
  have G4 := hide hg4
  have HG := hide hG
  have HN2 := hide hn2
  clear hr1 hr2 hr3 hr4 hG hin hmx hm3 hm4 ha1 ha2 ha3 ha4 hg3 hg4 hn1 hn2 hn3 hn4
  go_enter Tryz.func4, Tryz.ntmps4
  go_wp2_with (first | (at_builtin; refine appS'.out _ _ _ _ _ _ H1.out rfl _ _ rfl rfl rfl ?_; intro ad1 gg1 cp1 w1 ea1 eg1 er1 hb1) | (at_builtin; refine appW'.out _ _ _ _ _ _ (H2.out.next hb1) rfl _ _ rfl rfl rfl ?_; intro ad2 gg2 cp2 w2 ea2 eg2 er2 hb2))
  refine (C11.out ad1 ad2 gg1 cp1 gg2 cp2 w2 ea1 ea2 (er1.next hb2) (fun h => Nat.lt_of_lt_of_le (eg1 h) hb2.size) er2).mono ?_
  rintro e w3 ⟨r, at', er, rfl, hb3, hc3⟩
  have HCL : Hid (clsR L X w2 (.returned (.tuple #[r, .int .i64 at', .int .i64 er])) w3) := hide ⟨r, at', er, rfl, hb3, hc3⟩
  have HB3 := hide ((hb1.trans hb2).trans hb3)
  have EA2 := hide ea2
  have ER2 := hide (er2.next hb3)
  clear hc3 hb1 hb2 hb3 ea1 eg1 er1 ea2 eg2 er2 appS' appW' C11
  go_wp2_with fail
  refine (C12.out w3 (H1.out.next HB3.out) (H2.out.next HB3.out)).mono ?_
  rintro e w4 ⟨r', z, er', rfl, hb4, hc4⟩
  have HDC : Hid (dcsR L X w3 (.returned (.tuple #[r', .int .i64 z, .int .i64 er'])) w4) := hide ⟨r', z, er', rfl, hb4, hc4⟩
  obtain ⟨r1, r2, z1, er1, zs, e1, e2, _, _, hs1, hs2, hzl⟩ := answers_one HCL.out HDC.out
  have q1 : at' = z ∧ er = er' ∧ r = r1 ∧ r' = r2 := by
    simp only [Ending.returned.injEq, Value.tuple.injEq, Array.mk.injEq, List.cons.injEq, Value.int.injEq, and_true, true_and] at e1 e2
    exact ⟨e1.2.1.trans e2.2.1.symm, e1.2.2.trans e2.2.2.symm, e1.1, e2.1⟩
  obtain ⟨hq1, rfl, rfl, rfl⟩ := q1
  subst hq1
  have HS1 := hide (hs1.next hb4)
  have HS2 := hide hs2
  have HB4 := hide (HB3.out.trans hb4)
  have ER4 := hide (ER2.out.next hb4)
  clear e1 e2 hs1 hs2 hc4 hb4 HB3 ER2 HCL HDC C12
  go_wp2_with fail
  refine (C13.out ad2 gg2 cp2 w4 EA2.out ER4.out).mono ?_
  rintro e w5 ⟨v5, l5, rfl, hv5, hb5, hl5, hm5⟩
  have HB5 := hide (HB4.out.trans hb5)
  go_wp2_with fail
  refine (C14.out w5 (H2.out.next HB5.out)).mono ?_
  rintro e w6 ⟨v6, l6, rfl, hv6, hb6, hl6, hm6⟩
  obtain rfl := ris_ext l5 l6 hl5 hl6 (fun x => (hm5 x).trans (hm6 x).symm)
  have hl5l : l5.length ≤ maxLen := Nat.le_trans (few hl5 (fun x hx => (hm5 x).1 hx)) (by rw [List.length_map, HN2.out]; unfold maxLen; omega)
  have HB6 := hide (HB5.out.trans hb6)
  have HV5 := hide (hv5.next hb6)
  have HV6 := hide hv6
  have HS1' := hide ((HS1.out.next hb5).next hb6)
  have HS2' := hide ((HS2.out.next hb5).next hb6)
  have ER6 := hide ((ER4.out.next hb5).next hb6)
  clear hv5 hv6 hb5 hb6 hl5 hl6 hm5 hm6 HB4 HB5 HS1 HS2 ER4 C13 C14
  go_wp2_with fail
  refine (same_yes zs r r' w6 HS1'.out HS2'.out hzl).mono ?_
  rintro e w7 ⟨rfl, hb7⟩
  go_wp2_with fail
  refine (same_yes l5 v5 v6 w7 (HV5.out.next hb7) (HV6.out.next hb7) hl5l).mono ?_
  rintro e w8 ⟨rfl, hb8⟩
  have HB8 := hide ((HB6.out.trans hb7).trans hb8)
  have ER8 := hide ((ER6.out.next hb7).next hb8)
  clear hb7 hb8 HB6 HS1' HS2' HV5 HV6 ER6 hl5l hzl
  go_wp2_with fail
  refine (C16.out w8 (H3.out.next HB8.out) (H4.out.next HB8.out) (fun h => Nat.lt_of_lt_of_le (G3.out h) HB8.out.size) (fun h => Nat.lt_of_lt_of_le (G4.out h) HB8.out.size)).mono ?_
  rintro e w9 ⟨rfl, hb9⟩
  have HB9 := hide (HB8.out.trans hb9)
  have ER9 := hide (ER8.out.next hb9)
  clear hb9 HB8 ER8 C16
  go_wp2_with fail
  refine (C17.out w9 (H3.out.next HB9.out) (H4.out.next HB9.out)).mono ?_
  rintro e w10 ⟨rfl, hb10⟩
  have HB10 := hide (HB9.out.trans hb10)
  have ER10 := hide (ER9.out.next hb10)
  clear hb10 HB9 ER9 C17
  generalize (B.any fun x => decide (x ∈ A)) = bb
  go_wp2_with fail
  go_loopw [19] (fun vi W => ∃ i : Nat, i ≤ n2 ∧ vi = .int .i64 i ∧ Bel w10 W) (fun vi _ => n2 - (intOf vi).toNat)
  case atStart => exact ⟨0, Nat.zero_le _, rfl, Bel.refl _⟩
  case round =>
    obtain ⟨i, hin, rfl, hb⟩ := hrel
    have HB := hide hb
    clear hb
    by_cases hlt : i < n2
    · have hil : i < X.length := by rw [HN2.out]; exact hlt
      have ea := HA2.out (by omega)
      have eb := EA2.out (by omega)
      subst ea eb
      obtain ⟨d, u, q, k, b, m, s, v, he⟩ : ∃ d u q k b m s v, X[i] = ((d, u, q, k, b, m, s, v) : Wm) := ⟨_, _, _, _, _, _, _, _, rfl⟩
      obtain ⟨x0, x1, x2, x3, x4, x5, x6, x7⟩ := (ER10.out.next HB.out).cells hil he
      obtain ⟨y0, y1, y2, y3, y4, y5, y6, y7⟩ := (H2.out.next (HB10.out.trans HB.out)).cells hil he
      have X0 := cell_bel x0
      have X1 := cell_bel x1
      have X2 := cell_bel x2
      have X3 := cell_bel x3
      have X4 := cell_bel x4
      have X5 := cell_bel x5
      have X6 := cell_bel x6
      have X7 := cell_bel x7
      have Y0 := cell_bel y0
      have Y1 := cell_bel y1
      have Y2 := cell_bel y2
      have Y3 := cell_bel y3
      have Y4 := cell_bel y4
      have Y5 := cell_bel y5
      have Y6 := cell_bel y6
      have Y7 := cell_bel y7
      simp only [Nat.zero_add] at X0 X1 X2 X3 X4 X5 X6 X7
      clear he x0 x1 x2 x3 x4 x5 x6 x7 y0 y1 y2 y3 y4 y5 y6 y7
      have hfol : Tryz.prog.follows .mixedOrders = true := by kernel_rfl
      have hne := BelBy.some wr
      go_wp2_with fail
      refine wp_region_bel hfol (by kernel_rfl) ?_
      repeat (go_big_quiet_step (fail))
      refine wpQuiet_nil ?_
      intro w11 hw'
      obtain ⟨⟨_, hb2⟩, hw''⟩ := hw'
      subst hw''
      clear X0 X1 X2 X3 X4 X5 X6 X7 Y0 Y1 Y2 Y3 Y4 Y5 Y6 Y7 hne
      go_wp2_with fail
      refine ⟨⟨i + 1, by omega, by go_num, HB.out.trans hb2⟩, by simp [intOf]; omega⟩
    · go_wp2_with (go_at_call 10; refine (C10.out _ ((HG.out.next HB10.out).next HB.out)).mono ?_; rintro e w11 ⟨rfl, hb11⟩)
      go_ret
      exact ⟨rfl, (HB10.out.trans HB.out).trans hb11⟩
end Go.Proofs.YtgghcfmpfneehaaGreatDoor
