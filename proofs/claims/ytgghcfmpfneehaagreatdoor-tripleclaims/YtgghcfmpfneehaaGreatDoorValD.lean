/- What the program's appendByte, appendQuoted and Text return, and the library's AppendBool; for every value. -/
import Derived.Test.YtgghcfmpfneehaaGreatDoorValC
import Derived.Test.YtgghcfmpfneehaaGreatDoorShelfA
import Derived.Lib.AppendStr
import Derived.Deep.RegionHeld3
namespace Go.Proofs.YtgghcfmpfneehaaGreatDoor
open Go.RowKit
theorem OB.alloc {w W : World} {v : Value} {l : List UInt8} (h : OB w W v l) (o : Obj) : OB w (W.alloc o) v l := h.next ((Bel.refl _).alloc o)
theorem step_bytes {ops : Array Oper} {o : Oper} {a : Act} {K : Act → World → Prop} {Q : Exit → Act → World → Prop} {E : Prop} {w W : World} {v : Value} {l : List UInt8} (ob : OB w W v l) (cs : List UInt8) (hb : l.length + cs.length ≤ 200000000000000)
    (hgd : o.guard = none) (s x : Operand) (ho : o.op = .call { callee := .builtin .append, args := #[s, x], argTypes := #[98, 98] }) (hs : a.eval s = v) (hx : a.eval x = .slice (some ⟨W.heap.size, 0, none⟩) cs.length cs.length)
    (h : ∀ v' w', OB w w' v' (l ++ cs) → K (a.put o.dst v') w') : if Region.wanted o (yielded ops a.tmps) = true then Oper.wp Tryz.prog o a (W.alloc (.cells (vs cs) 5)).drew K Q else E := by
  have hw : Region.wanted o (yielded ops a.tmps) = true := by simp [Region.wanted, hgd]
  rw [if_pos hw]
  obtain ⟨i0, hi, hz0, hz1, hz2⟩ := Tryz.i5
  refine wp_append_own_wide (P := Tryz.prog) _ s x 98 ho w.heap.size 5 i0 (.int .u8 0) 1 1 Tryz.underlying98 hi hz0 hz1 hz2 rfl (by decide) v l.length (l.map vb) hs (ob.own.alloc _).drew ⟨W.heap.size, 0, none⟩ cs.length cs.length (cs.map vb) hx (by simp) (cells_new W _ 5) (fun u hu => ?_) (by unfold maxLen; omega) (by omega) (ob.alloc _).drew.bel.size ?_
  · obtain ⟨c, -, rfl⟩ := List.mem_map.1 hu
    exact vb_one c
  · intro v' w' h1 h2 _
    refine h v' w' ⟨?_, ?_⟩
    · rw [List.length_append, List.map_append]; exact h1
    · exact (ob.alloc _).drew.bel.grown h2 (ob.alloc _).drew.bel.size (fun k hk => (ob.own.lt k hk).1)
theorem own_str {w w' : World} {v v' : Value} {l : List UInt8} {W : World} (ob : OB w W v l) (s : ByteArray) (h1 : w'.ownsRow w.heap.size 5 1 v' (l.length + s.size) (l.map vb ++ Lib.strCells s)) (h2 : W.grownBy w' v.ownBlock) : OB w w' v' (l ++ s.data.toList) := by
  refine ⟨?_, ?_⟩
  · rw [List.length_append, List.map_append]; exact h1
  · exact ob.bel.grown h2 ob.bel.size (fun k hk => (ob.own.lt k hk).1)
theorem append_str {ops : Array Oper} {rest : List Oper} {o : Oper} {a : Act} {Q : Exit → Act → World → Prop} {w W : World} {v : Value} {l : List UInt8} (ob : OB w W v l) (cs : ByteArray) (hb : l.length + cs.size ≤ 140737488355328)
    (hgd : o.guard = none) (s x : Operand) (ho : o.op = .call { callee := .builtin .append, args := #[s, x], argTypes := #[98, 9] }) (hs : a.eval s = v) (hx : a.eval x = .string cs)
    (h : ∀ v' w', OB w w' v' (l ++ cs.data.toList) → wpList Tryz.prog ops Q rest (a.put o.dst v') w') : wpList Tryz.prog ops Q (o :: rest) a W := by
  obtain ⟨i0, hi, hz0, hz1, hz2⟩ := Tryz.i5
  refine Lib.wpList_append_own_string (P := Tryz.prog) _ hgd s x 98 9 ho w.heap.size 5 i0 Tryz.underlying98 Tryz.underlying9 hi hz0 hz1 hz2 v l.length (l.map vb) hs ob.own cs hx (by unfold maxLen; omega) hb ob.bel.size ?_
  intro v' w' h1 h2 _
  exact h v' w' (own_str ob cs h1 h2)
theorem step_str {ops : Array Oper} {o : Oper} {a : Act} {K : Act → World → Prop} {Q : Exit → Act → World → Prop} {E : Prop} {w W : World} {v : Value} {l : List UInt8} (ob : OB w W v l) (cs : ByteArray) (hb : l.length + cs.size ≤ 140737488355328)
    (hgd : o.guard = none) (s x : Operand) (ho : o.op = .call { callee := .builtin .append, args := #[s, x], argTypes := #[98, 9] }) (hs : a.eval s = v) (hx : a.eval x = .string cs)
    (h : ∀ v' w', OB w w' v' (l ++ cs.data.toList) → K (a.put o.dst v') w') : if Region.wanted o (yielded ops a.tmps) = true then Oper.wp Tryz.prog o a W K Q else E := by
  have hw : Region.wanted o (yielded ops a.tmps) = true := by simp [Region.wanted, hgd]
  rw [if_pos hw]
  obtain ⟨i0, hi, hz0, hz1, hz2⟩ := Tryz.i5
  obtain ⟨v', w', hr, h2, h3, h4⟩ := Lib.run_append_own_string (P := Tryz.prog) W w.heap.size 98 9 o.type 5 i0 Tryz.underlying98 Tryz.underlying9 hi hz0 hz1 hz2 v l.length (l.map vb) ob.own cs (by unfold maxLen; omega) hb ob.bel.size
  unfold Oper.wp execOp
  simp only [ho, resolve, invoke, builtin, Sem.run_bind, Sem.run_pure, Result.andThen_ok, List.map_toArray, List.map_cons, List.map_nil, hs, hx, hr]
  exact h v' w' (own_str ob cs h2 h3)
def tf (b : Bool) : List UInt8 := if b then [116, 114, 117, 101] else [102, 97, 108, 115, 101]
set_option maxRecDepth 100000 in
theorem appendBool_in (w W : World) (v : Value) (l : List UInt8) (ob : OB w W v l) (hl : l.length ≤ 100) (b : Bool) :
    Calls Tryz.prog 114 #[v, .bool b] W fun e W' => ∃ v', e = .returned v' ∧ OB w W' v' (l ++ tf b) := by
  have hO := hide ob
  clear ob
  cases b
  · go_enter Tryz.func114, Tryz.ntmps114
    go_wp2_with (at_builtin; refine append_str hO.out _ (by show l.length + 5 ≤ _; omega) rfl _ _ rfl rfl rfl ?_; intro v1 w1 ho1)
    go_ret
    exact ⟨v1, rfl, ho1⟩
  · go_enter Tryz.func114, Tryz.ntmps114
    go_wp2_with (at_builtin; refine append_str hO.out _ (by show l.length + 4 ≤ _; omega) rfl _ _ rfl rfl rfl ?_; intro v1 w1 ho1)
    go_ret
    exact ⟨v1, rfl, ho1⟩
set_option maxRecDepth 100000 in
theorem appendBool_any (w W : World) (v : Value) (l : List UInt8) (ob : OB w W v l) (hl : l.length ≤ 100) (b : Bool) :
    Calls Tryz.prog 89 #[v, .bool b] W fun e W' => ∃ v', e = .returned v' ∧ OB w W' v' (l ++ tf b) := by
  have hC := hide (appendBool_in w W v l ob hl b)
  clear ob
  go_enter Tryz.func89, Tryz.ntmps89
  go_wp2_with (go_at_call 114; refine hC.out.mono ?_; rintro e w' ⟨v', rfl, hob⟩)
  go_ret
  exact ⟨v', rfl, hob⟩
def dig16 : ByteArray := ⟨#[48, 49, 50, 51, 52, 53, 54, 55, 56, 57, 97, 98, 99, 100, 101, 102]⟩
theorem dig16_fin : ∀ n : Fin 16, (dig16[n.val]'(by have := n.isLt; exact this)) = hd n.val := by decide +kernel
theorem dig16_at (y : Nat) (h : y < 16) (h' : y < dig16.size) : dig16[y] = hd y := dig16_fin ⟨y, h⟩
theorem and15b (x : Nat) (h : x < 256) : bits .and .u8 (x : Int) 15 = ((x % 16 : Nat) : Int) := by
  have h1 := u8_and_nat x 15 h (by decide)
  have h2 : x &&& 15 = x % 16 := Nat.and_two_pow_sub_one_eq_mod x 4
  rw [h2] at h1
  exact h1
set_option maxRecDepth 100000 in
theorem appendByte_any (w W : World) (v : Value) (l : List UInt8) (ob : OB w W v l) (hl : l.length ≤ 100000) (c : UInt8) :
    Calls Tryz.prog 116 #[v, .int .u8 (c.toNat : Int)] W fun e W' => ∃ v', e = .returned v' ∧ OB w W' v' (l ++ escB c) := by
  have hO := hide ob
  clear ob
  by_cases h34 : c = 34
  · subst h34
    go_enter Tryz.func116, Tryz.ntmps116
    go_wp2_with (at_builtin; first
          | (refine append_bytes hO.out [92] (by simp; omega) rfl _ _ rfl rfl rfl ?_; intro v1 w1 ho1)
          | (refine append_bytes ho1 [34] (by simp; omega) rfl _ _ rfl rfl rfl ?_; intro v2 w2 ho2))
    go_ret
    refine ⟨v2, rfl, ?_⟩
    simpa [escB] using ho2
  by_cases h92 : c = 92
  · subst h92
    go_enter Tryz.func116, Tryz.ntmps116
    go_wp2_with (at_builtin; first
          | (refine append_bytes ho1 [92] (by simp; omega) rfl _ _ rfl rfl rfl ?_; intro v2 w2 ho2)
          | (refine append_bytes hO.out [92] (by simp; omega) rfl _ _ rfl rfl rfl ?_; intro v1 w1 ho1))
    go_ret
    refine ⟨v2, rfl, ?_⟩
    simpa [escB] using ho2
  have n34 : (((c.toNat : Nat) : Int) == 34) = false := by
    rw [beq_eq_false_iff_ne]; intro h; exact h34 (UInt8.toNat_inj.1 (by show c.toNat = 34; omega))
  have n92 : (((c.toNat : Nat) : Int) == 92) = false := by
    rw [beq_eq_false_iff_ne]; intro h; exact h92 (UInt8.toNat_inj.1 (by show c.toNat = 92; omega))
  have hor : ¬ (c = 34 ∨ c = 92) := by rintro (h | h) <;> contradiction
  by_cases hp : 32 ≤ c.toNat ∧ c.toNat ≤ 126
  · have hE : Hid (escB c = [c]) := hide (by unfold escB; rw [if_neg hor, if_pos hp])
    have p0 : (32 : Int) ≤ (c.toNat : Int) := by omega
    have p1 : (c.toNat : Int) ≤ 126 := by omega
    clear h34 h92 hor hp
    go_enter Tryz.func116, Tryz.ntmps116
    go_wp2_with (at_builtin; refine append_bytes hO.out [c] (by simp; omega) rfl _ _ rfl rfl rfl ?_; intro v1 w1 ho1)
    go_ret
    exact ⟨v1, rfl, by rw [hE.out]; exact ho1⟩
  by_cases h10 : c = 10
  · subst h10
    go_enter Tryz.func116, Tryz.ntmps116
    go_wp2_with (at_builtin; refine append_bytes hO.out [92, 110] (by simp; omega) rfl _ _ rfl rfl rfl ?_; intro v1 w1 ho1)
    go_ret
    exact ⟨v1, rfl, by simpa [escB] using ho1⟩
  have n10 : (((c.toNat : Nat) : Int) == 10) = false := by
    rw [beq_eq_false_iff_ne]; intro h; exact h10 (UInt8.toNat_inj.1 (by show c.toNat = 10; omega))
  have hE : Hid (escB c = [92, 120, hd (c.toNat / 16), hd (c.toNat % 16)]) := hide (by unfold escB; rw [if_neg hor, if_neg hp, if_neg h10])
  have hc := c.toNat_lt
  have d1 : c.toNat / 16 < 16 := by omega
  have d2 : c.toNat % 16 < 16 := by omega
  have h15 := and15b c.toNat hc
  have e16 : (c.toNat : Int) / 16 = ((c.toNat / 16 : Nat) : Int) := by omega
  have D1 := hide (dig16_at _ d1 d1)
  have D2 := hide (dig16_at _ d2 d2)
  generalize hm : c.toNat / 16 = m at *
  generalize hn : c.toNat % 16 = n at *
  have m0 : (0 : Int) ≤ (m : Int) := by omega
  have m1 : (m : Int) < 16 := by omega
  have k0 : (0 : Int) ≤ (n : Int) := by omega
  have k1 : (n : Int) < 16 := by omega
  have hpp := hide hp
  have dm : m < dig16.size := d1
  have dn : n < dig16.size := d2
  clear h34 h92 hor h10 hm hn hp
  by_cases hlow : c.toNat < 32
  · have q0 : (c.toNat : Int) < 32 := by omega
    go_enter Tryz.func116, Tryz.ntmps116
    go_wp2_with fail
    go_region_held3 (fun _ => True) (trivial) ((refine step_bytes hO.out [92, 120, dig16[m]'dm, dig16[n]'dn] (by simp; omega) rfl _ _ rfl rfl rfl ?_; intro v1 w1 ho1))
    all_goals
      go_wp2
      go_ret
      exact ⟨v1, rfl, by rw [hE.out, ← D1.out, ← D2.out]; exact ho1⟩
  · have q0 : (126 : Int) < (c.toNat : Int) := by have := hpp.out; omega
    have q1 : (32 : Int) ≤ (c.toNat : Int) := by have := hpp.out; omega
    go_enter Tryz.func116, Tryz.ntmps116
    go_wp2_with fail
    go_region_held3 (fun _ => True) (trivial) ((refine step_bytes hO.out [92, 120, dig16[m]'dm, dig16[n]'dn] (by simp; omega) rfl _ _ rfl rfl rfl ?_; intro v1 w1 ho1))
    all_goals
      go_wp2
      go_ret
      exact ⟨v1, rfl, by rw [hE.out, ← D1.out, ← D2.out]; exact ho1⟩
theorem escs_take (s : ByteArray) (k : Nat) (h : k < s.size) : escs (s.data.toList.take (k + 1)) = escs (s.data.toList.take k) ++ escB s[k] := by
  rw [take_snoc s k h, escs_snoc]
set_option maxRecDepth 100000 in
theorem appendQuoted_any (w W : World) (v : Value) (ob : OB w W v []) (s : ByteArray) (hs : s.size ≤ 4096) :
    Calls Tryz.prog 91 #[v, .string s] W fun e W' => ∃ v', e = .returned v' ∧ OB w W' v' (quo s.data.toList) := by
  have hO := hide ob
  clear ob
  go_enter Tryz.func91, Tryz.ntmps91
  go_wp2_with (at_builtin; refine append_bytes hO.out [34] (by simp) rfl _ _ rfl rfl rfl ?_; intro v1 w1 ho1)
  go_loopw [0, 11] (fun v i W' => ∃ k : Nat, k ≤ s.size ∧ i = .int .i64 k ∧ OB w W' v (34 :: escs (s.data.toList.take k))) (fun _ i _ => s.size - (intOf i).toNat)
  case atStart => exact ⟨0, Nat.zero_le _, rfl, ho1⟩
  case round =>
    obtain ⟨k, hk, rfl, ho⟩ := hrel
    have Ho := hide ho
    clear ho
    have hlen : (34 :: escs (s.data.toList.take k)).length ≤ 100000 := by
      have h1 := (escs_len (s.data.toList.take k)).2
      have h2 : (s.data.toList.take k).length ≤ k := by simp; omega
      simp; omega
    by_cases hlt : k < s.size
    · have hE := hide (escs_take s k hlt)
      go_wp2_with (go_at_call 116; refine (appendByte_any w _ _ _ Ho.out hlen s[k]).mono ?_; rintro e w' ⟨v', rfl, hob⟩)
      go_roundw
      case rel => exact ⟨k + 1, by omega, by go_num, by rw [hE.out]; exact hob⟩
      case measure => simp [intOf]; omega
    · have Hz : Hid (s.data.toList.take k = s.data.toList) := hide (List.take_of_length_le (by simp; omega))
      rw [Hz.out] at Ho hlen
      go_wp2_with (at_builtin; refine append_bytes Ho.out [34] (by simp at hlen ⊢; omega) rfl _ _ rfl rfl rfl ?_; intro v2 w2 ho2)
      go_ret
      exact ⟨v2, rfl, ho2⟩
end Go.Proofs.YtgghcfmpfneehaaGreatDoor
