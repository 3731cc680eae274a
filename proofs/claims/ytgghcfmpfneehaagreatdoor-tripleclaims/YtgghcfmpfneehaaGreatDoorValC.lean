/- What the library's AppendUint returns at base 16: the row with the number's hexadecimal digits behind it; for every number. -/
import Derived.Test.YtgghcfmpfneehaaGreatDoorPlain
import Derived.Test.YtgghcfmpfneehaaGreatDoorOwn
import Derived.Test.YtgghcfmpfneehaaGreatDoorValB
namespace Go.Proofs.YtgghcfmpfneehaaGreatDoor
open Go.RowKit
theorem OB.next {w W W' : World} {v : Value} {l : List UInt8} (h : OB w W v l) (hb : Bel W W') : OB w W' v l := by
  refine ⟨⟨h.own.1, ?_⟩, h.bel.trans (Below.mono hb h.bel.size)⟩
  rcases h.own.2 with h0 | ⟨g, cap, cur, h1, h2, h3, h4⟩
  · exact Or.inl h0
  · exact Or.inr ⟨g, cap, cur, h1, h2, hb.row h3, h4⟩
theorem append_row {ops : Array Oper} {rest : List Oper} {o : Oper} {a : Act} {Q : Exit → Act → World → Prop} {w W : World} {v : Value} {l : List UInt8} (ob : OB w W v l) (cs : List UInt8) (hb : l.length + cs.length ≤ 200000000000000)
    (hgd : o.guard = none) (s x : Operand) (ho : o.op = .call { callee := .builtin .append, args := #[s, x], argTypes := #[98, 98] }) (hs : a.eval s = v) (g off c : Nat) (hx : a.eval x = .slice (some ⟨g, off, none⟩) cs.length c)
    (hc : ∀ j, (h : j < cs.length) → W.cell? ⟨g, off + j, none⟩ = some (vb cs[j]))
    (h : ∀ v' w', OB w w' v' (l ++ cs) → wpList Tryz.prog ops Q rest (a.put o.dst v') w') : wpList Tryz.prog ops Q (o :: rest) a W := by
  obtain ⟨i0, hi, hz0, hz1, hz2⟩ := Tryz.i5
  refine wpList_append_own_wide (P := Tryz.prog) _ hgd s x 98 ho w.heap.size 5 i0 (.int .u8 0) 1 1 Tryz.underlying98 hi hz0 hz1 hz2 rfl (by decide) v l.length (l.map vb) hs ob.own ⟨g, off, none⟩ cs.length c (cs.map vb) hx (by simp) (fun j u hj => ?_) (fun u hu => ?_) (by unfold maxLen; omega) (by omega) ob.bel.size ?_
  · have hj' : j < cs.length := by
      have := List.getElem?_eq_some_iff.1 hj
      obtain ⟨h0, _⟩ := this
      simpa using h0
    have e : u = vb cs[j] := by
      rw [List.getElem?_map, List.getElem?_eq_getElem hj'] at hj
      simpa using hj.symm
    have ea : (⟨g, off, none⟩ : Addr).add j = ⟨g, off + j, none⟩ := by unfold Addr.add; split <;> simp_all
    rw [ea, e]
    exact hc j hj'
  · obtain ⟨c, -, rfl⟩ := List.mem_map.1 hu
    exact vb_one c
  · intro v' w' h1 h2 _
    refine h v' w' ⟨?_, ?_⟩
    · rw [List.length_append, List.map_append]; exact h1
    · exact ob.bel.grown h2 ob.bel.size (fun k hk => (ob.own.lt k hk).1)
set_option maxRecDepth 100000 in
theorem tz_16 (w : World) (h : w.cell? ⟨7, 15, none⟩ = some (.int .u8 4)) : Calls Tryz.prog 174 #[.int .u64 16] w fun e w' => e = .returned (.int .i64 4) ∧ w' = w := by
  have h1 : bits .and .u64 16 (IntKind.u64.wrap (-16)) = 16 := by decide +kernel
  have h2 : IntKind.u64.wrap 4573923408821661840 = 4573923408821661840 := by decide +kernel
  go_enter Tryz.func174, Tryz.ntmps174
  go_wp2_with fail
  go_ret
  exact ⟨rfl, rfl⟩
set_option maxRecDepth 100000 in
theorem tz16 (w : World) (h : w.cell? ⟨7, 15, none⟩ = some (.int .u8 4)) : Calls Tryz.prog 166 #[.int .u64 16] w fun e w' => e = .returned (.int .i64 4) ∧ w' = w := by
  go_enter Tryz.func166, Tryz.ntmps166
  go_wp2_with (go_at_call 174; refine (tz_16 _ h).mono ?_; rintro e w' ⟨rfl, rfl⟩)
  go_ret
  exact ⟨rfl, rfl⟩
theorem pow2_16 (w : World) : Calls Tryz.prog 165 #[.int .i64 16] w fun e w' => e = .returned (.bool true) ∧ w' = w := by
  go_enter Tryz.func165, Tryz.ntmps165
  go_wp2_with fail
  go_ret
  exact ⟨rfl, rfl⟩
def dig36 : ByteArray := ⟨#[48, 49, 50, 51, 52, 53, 54, 55, 56, 57, 97, 98, 99, 100, 101, 102, 103, 104, 105, 106, 107, 108, 109, 110, 111, 112, 113, 114, 115, 116, 117, 118, 119, 120, 121, 122]⟩
theorem dig36_fin : ∀ n : Fin 16, (dig36[n.val]'(by have := n.isLt; exact Nat.lt_trans this (by decide))) = hd n.val := by decide +kernel
theorem and15 (x : Nat) (h : x < 18446744073709551616) : bits .and .u64 (x : Int) 15 = ((x % 16 : Nat) : Int) := by
  have h1 := u64_and_nat x 15 h (by decide)
  have h2 : x &&& 15 = x % 16 := Nat.and_two_pow_sub_one_eq_mod x 4
  rw [h2] at h1
  exact h1
def hrow (i : Nat) (hs : List UInt8) : List UInt8 := List.replicate i 0 ++ hs
theorem zero140 : Tryz.zeroCells192 = vs (hrow 65 []) := by kernel_rfl
theorem hrow_len (i : Nat) (hs : List UInt8) : (hrow i hs).length = i + hs.length := by simp [hrow]
theorem hrow_set (i : Nat) (hs : List UInt8) (c : UInt8) (h : 1 ≤ i) : (hrow i hs).set (i - 1) c = hrow (i - 1) (c :: hs) := by
  unfold hrow
  obtain ⟨k, rfl⟩ : ∃ k, i = k + 1 := ⟨i - 1, by omega⟩
  rw [List.replicate_succ']
  simp [List.append_assoc]
theorem hrow_get (i : Nat) (hs : List UInt8) (j : Nat) (h : j < hs.length) : (hrow i hs)[i + j]'(by rw [hrow_len]; omega) = hs[j] := by
  unfold hrow
  rw [List.getElem_append_right (by simp)]
  simp
theorem pow_bound (x i : Nat) (h : x < 16 ^ (i - 49)) (hi : i ≤ 65) : x < 18446744073709551616 :=
  Nat.lt_of_lt_of_le h (Nat.le_trans (Nat.pow_le_pow_right (by omega) (show i - 49 ≤ 16 by omega)) (by decide))
theorem dig_at (y : Nat) (h : y < 16) (h' : y < dig36.size) : dig36[y] = hd y := dig36_fin ⟨y, h⟩
theorem OB.set {w W W' : World} {v : Value} {l : List UInt8} (h : OB w W v l) (hb : Bel W W') (k : Nat) (x : Value) : OB w (W'.setCell ⟨W.heap.size, k, none⟩ x) v l :=
  h.next (Below.setCell hb (Nat.le_refl _) _)
theorem cells_row {W : World} {b : Nat} {i : Nat} {hs : List UInt8} (h : W.heap[b]? = some (.cells (vs (hrow i hs)) 192)) : ∀ j, (hj : j < hs.length) → W.cell? ⟨b, i + j, none⟩ = some (vb hs[j]) := by
  intro j hj
  rw [cell_of_row _ _ _ _ _ _ h, vs_get _ _ (by rw [hrow_len]; omega), hrow_get]
theorem len140 : Tryz.prog.arrayLen 192 = 65 := by kernel_rfl
theorem elem140 : Tryz.prog.elem 192 = 5 := by kernel_rfl
theorem und140 : Tryz.prog.underlying 192 = some (.array 65 5) := by kernel_rfl
theorem slice140 (b i : Nat) (hi : 1 ≤ i) (h : i ≤ 65) (W : World) : (Instr.sliceAt 192 (.pointer (some ⟨b, 0, none⟩)) (some (.int .i64 ((i : Int) - 1))) none none).run Tryz.prog W = .ok (.slice (some ⟨b, i - 1, none⟩) (65 - (i - 1)) (65 - (i - 1))) W := by
  have e : ((i : Int) - 1).toNat = i - 1 := by omega
  have hs : (sizeOf 5).run Tryz.prog W = .ok 1 W := by
    obtain ⟨i0, hi0, _, h2, _⟩ := Tryz.i5
    simp [sizeOf, typeInfo, hi0, h2, go_sem]
  rw [run_sliceAt_array_l W 192 ⟨b, 0, none⟩ (by rw [len140, elem140]; exact und140) .i64 ((i : Int) - 1) (by omega) (by rw [len140]; omega), len140, elem140, hs, e]
  simp only [Result.andThen, slicedAt, Nat.mul_one]
  rw [if_neg (by omega), addr_add0]
set_option maxRecDepth 100000 in
theorem bits_any (w W : World) (v : Value) (l : List UInt8) (ob : OB w W v l) (hl : l.length ≤ 100) (u : Nat) (hu : u < 18446744073709551616) (hT : W.cell? ⟨7, 15, none⟩ = some (.int .u8 4)) :
    Calls Tryz.prog 143 #[v, .int .u64 u, .int .i64 16, .bool false, .bool true] W fun e W' => ∃ v', e = .returned (.tuple #[v', .string ⟨#[]⟩]) ∧ OB w W' v' (l ++ hexL u) := by
  have hO := hide ob
  have hU := hide hu
  clear ob hu
  have hT2 := fun o => Bel.cell ((Bel.refl W).alloc o) hT
  go_enter Tryz.func143, Tryz.ntmps143
  go_wp2_with (first | (go_at_call 165; refine (pow2_16 _).mono ?_; rintro e w' ⟨rfl, rfl⟩) | (go_at_call 166; refine (tz16 _ (hT2 _)).mono ?_; rintro e w' ⟨rfl, rfl⟩))
  rw [zero140]
  clear hT hT2
  go_loopw [1, 13] (fun vx vi W' => ∃ (x i : Nat) (hs : List UInt8), vx = .int .u64 x ∧ vi = .int .i64 i ∧ 50 ≤ i ∧ i + hs.length = 65 ∧ Hid (x < 16 ^ (i - 49) ∧ hexL u = hexL x ++ hs ∧ W'.heap[W.heap.size]? = some (.cells (vs (hrow i hs)) 192) ∧ Bel W W')) (fun _ i _ => (intOf i).toNat)
  case atStart => exact ⟨u, 65, [], rfl, rfl, by omega, rfl, hU.out, by simp, heap_alloc_new W _, (Bel.refl _).alloc _⟩
  case round =>
    obtain ⟨x, i, hs, rfl, rfl, hi, hil, hH⟩ := hrel
    have hfz : wr.frozen? ⟨W.heap.size, i - 1, none⟩ = false := free_row hH.out.2.2.1
    obtain ⟨c, hc⟩ : ∃ c, wr.cell? ⟨W.heap.size, i - 1, none⟩ = some (vb c) :=
      ⟨_, by rw [cell_of_row _ _ _ _ _ _ hH.out.2.2.1]; exact vs_get _ _ (by rw [hrow_len]; omega)⟩
    by_cases hx : x < 16
    · have hsl := slice140 W.heap.size i (by omega) (by omega)
      have hlen : 65 - (i - 1) = (hd x :: hs).length := by simp; omega
      rw [hlen] at hsl
      obtain ⟨h1, h2, h3, h4⟩ := hH.out
      have hx36 : x < dig36.size := Nat.lt_trans hx (by decide)
      have hD := hide (dig_at x hx hx36)
      have H3 := hide h3
      have H4 := hide h4
      have hE : Hid (hexL u = hd x :: hs) := hide (by rw [h2, hexL_small hx]; rfl)
      have hlen2 : l.length + (hd x :: hs).length ≤ 200000000000000 := by rw [← hlen]; omega
      have hHx := hide hx
      have x1 : (x : Int) < 16 := by omega
      have x2 : (x : Int) < 36 := by omega
      clear h1 h2 h3 h4 hH hlen
      go_wp2_with (refine append_row (w := w) (hO.out.set H4.out _ _) (hd x :: hs) hlen2 rfl _ _ rfl rfl W.heap.size (i - 1) _ rfl ?_ ?_)
      · refine cells_row (i := i - 1) ?_
        rw [← hrow_set i hs (hd x) (by omega), ← vs_set, ← hD.out]
        exact row_set H3.out
      · intro v' w' hob
        go_wp2_with fail
        go_ret2
        exact ⟨v', rfl, by rw [hE.out]; exact hob⟩
    · obtain ⟨y, hy⟩ : ∃ y, y = x % 16 := ⟨_, rfl⟩
      have h15 := and15 x (pow_bound x i hH.out.1 (by omega))
      rw [← hy] at h15
      have hyl : y < 16 := by omega
      have hY := hide (And.intro hy hyl)
      have y0 : (0 : Int) ≤ (y : Int) := by omega
      have y1 : (y : Int) < 36 := by omega
      clear hy hyl
      go_wp2_with fail
      go_roundw
      case rel =>
        obtain ⟨h1, h2, h3, h4⟩ := hH.out
        obtain ⟨e1, e2⟩ := hY.out
        have hi51 : 51 ≤ i := by
          apply Decidable.byContradiction
          intro hn
          have : i = 50 := by omega
          subst this
          omega
        have hx16 : (x : Int) / 16 = ((x / 16 : Nat) : Int) := by omega
        have hi1 : (i : Int) - 1 = ((i - 1 : Nat) : Int) := by omega
        refine ⟨x / 16, i - 1, hd y :: hs, by rw [hx16], by rw [hi1], by omega, by simp; omega, ?_, ?_, ?_, ?_⟩
        · have : 16 ^ (i - 49) = 16 ^ (i - 1 - 49) * 16 := by rw [← Nat.pow_succ]; congr 1; omega
          omega
        · rw [h2, hexL_big hx, e1]; simp
        · rw [← hrow_set i hs (hd y) (by omega), ← vs_set, ← dig_at y e2 (Nat.lt_trans e2 (by decide))]
          exact row_set h3
        · exact h4.setCell (Nat.le_refl _) _
      case measure => simp [intOf]; omega
set_option maxRecDepth 100000 in
theorem appendUint_in (w W : World) (v : Value) (l : List UInt8) (ob : OB w W v l) (hl : l.length ≤ 100) (u : Nat) (hu : u < 18446744073709551616) (hT : W.cell? ⟨7, 15, none⟩ = some (.int .u8 4)) :
    Calls Tryz.prog 117 #[v, .int .u64 u, .int .i64 16] W fun e W' => ∃ v', e = .returned v' ∧ OB w W' v' (l ++ hexL u) := by
  have hC := hide (bits_any w W v l ob hl u hu hT)
  clear ob hu hl
  go_enter Tryz.func117, Tryz.ntmps117
  go_wp2_with (go_at_call 143; refine hC.out.mono ?_; rintro e w' ⟨v', rfl, hob⟩)
  go_ret
  exact ⟨v', rfl, hob⟩
set_option maxRecDepth 100000 in
theorem appendUint_any (w W : World) (v : Value) (l : List UInt8) (ob : OB w W v l) (hl : l.length ≤ 100) (u : Nat) (hu : u < 18446744073709551616) (hT : W.cell? ⟨7, 15, none⟩ = some (.int .u8 4)) :
    Calls Tryz.prog 92 #[v, .int .u64 u, .int .i64 16] W fun e W' => ∃ v', e = .returned v' ∧ OB w W' v' (l ++ hexL u) := by
  have hC := hide (appendUint_in w W v l ob hl u hu hT)
  clear ob hu hl
  go_enter Tryz.func92, Tryz.ntmps92
  go_wp2_with (go_at_call 117; refine hC.out.mono ?_; rintro e w' ⟨v', rfl, hob⟩)
  go_ret
  exact ⟨v', rfl, hob⟩
end Go.Proofs.YtgghcfmpfneehaaGreatDoor
