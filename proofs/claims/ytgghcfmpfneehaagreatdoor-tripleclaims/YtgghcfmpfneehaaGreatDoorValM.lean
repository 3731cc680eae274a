/- What the program's and the document's Read return; for every text. -/
import Derived.Test.YtgghcfmpfneehaaGreatDoorValI
import Derived.Test.YtgghcfmpfneehaaGreatDoorValK
namespace Go.Proofs.YtgghcfmpfneehaaGreatDoor
open Go.RowKit
def mayD (k : Int) (b : Bool) (n : Int) (s : ByteArray) (u : Int) : Decidable (mayV k b n s u) := by unfold mayV; exact inferInstance
/-- The end of reading: the value, if there was no fault and it may be. -/
def fin (k : Int) (b : Bool) (n : Int) (s : ByteArray) (u : Int) (rest : ByteArray) (e : Int) : (Int × Bool × Int × ByteArray × Int) × ByteArray × Int :=
  if e = 0 then @ite _ (mayV k b n s u) (mayD k b n s u) ((k, b, n, s, u), rest, 0) ((0, false, 0, ⟨#[]⟩, 0), ⟨#[]⟩, 30) else ((0, false, 0, ⟨#[]⟩, 0), ⟨#[]⟩, e)
theorem fin_bad {k : Int} {b : Bool} {n : Int} {s : ByteArray} {u : Int} {rest : ByteArray} {e : Int} (h : e ≠ 0) : fin k b n s u rest e = ((0, false, 0, ⟨#[]⟩, 0), ⟨#[]⟩, e) := by unfold fin; rw [if_neg h]
theorem fin_no {k : Int} {b : Bool} {n : Int} {s : ByteArray} {u : Int} {rest : ByteArray} {e : Int} (h : e = 0) (hm : ¬ mayV k b n s u) : fin k b n s u rest e = ((0, false, 0, ⟨#[]⟩, 0), ⟨#[]⟩, 30) := by unfold fin; rw [if_pos h, if_neg hm]
theorem fin_ok {k : Int} {b : Bool} {n : Int} {s : ByteArray} {u : Int} {rest : ByteArray} {e : Int} (h : e = 0) (hm : mayV k b n s u) : fin k b n s u rest e = ((k, b, n, s, u), rest, 0) := by unfold fin; rw [if_pos h, if_pos hm]
/-- The truth at the front. -/
def rTru (s : ByteArray) : Bool × ByteArray × Int :=
  if h : 0 < s.size then (if 1 < (s[0]).toNat then (false, ⟨#[]⟩, 21) else (decide ((s[0]).toNat = 1), s.extract 1 s.size, 0)) else (false, ⟨#[]⟩, 20)
/-- The value at the front. -/
def rVal (s : ByteArray) : (Int × Bool × Int × ByteArray × Int) × ByteArray × Int :=
  if h : 0 < s.size then
    (if s[0] = 1 then fin 1 (rTru (s.extract 1 s.size)).1 0 ⟨#[]⟩ 0 (rTru (s.extract 1 s.size)).2.1 (rTru (s.extract 1 s.size)).2.2
     else if s[0] = 2 then fin 2 false (rInt (s.extract 1 s.size)).1 ⟨#[]⟩ 0 (rInt (s.extract 1 s.size)).2.1 (rInt (s.extract 1 s.size)).2.2
     else if s[0] = 3 then fin 3 false 0 (rKey (s.extract 1 s.size)).1 0 (rKey (s.extract 1 s.size)).2.1 (rKey (s.extract 1 s.size)).2.2
     else if s[0] = 4 then fin 4 false 0 ⟨#[]⟩ ((rNum (s.extract 1 s.size)).1 : Int) (rNum (s.extract 1 s.size)).2.1 (rNum (s.extract 1 s.size)).2.2
     else ((0, false, 0, ⟨#[]⟩, 0), ⟨#[]⟩, 30))
  else ((0, false, 0, ⟨#[]⟩, 0), ⟨#[]⟩, 20)
/-- An answer of Read as the program holds it. -/
def rv (x : (Int × Bool × Int × ByteArray × Int) × ByteArray × Int) : Value := .tuple #[ev x.1.1 x.1.2.1 x.1.2.2.1 x.1.2.2.2.1 x.1.2.2.2.2, .string x.2.1, .int .i64 x.2.2]
theorem res3_25 {fn : Func} (hr : fn.results = #[.cell 2 25, .tmp 3, .tmp 4]) {W : World} {B : Nat} {cs : Array Value} (hg : W.heap[B]? = some (.cells cs 25)) (hs : (Tryz.prog.info? 25).map (·.size) = some cs.size) (tmps : Array Value) (x y : Value) (hp : tmps.getD 2 undef = .pointer (some ⟨B, 0, none⟩)) (hx : tmps.getD 3 undef = x) (hy : tmps.getD 4 undef = y) :
    (results fn tmps).run Tryz.prog W = .ok (.tuple #[.agg cs, x, y]) W := by
  have hp' : tmps[2]?.getD undef = .pointer (some ⟨B, 0, none⟩) := by simpa using hp
  have hx' : tmps[3]?.getD undef = x := by simpa using hx
  have hy' : tmps[4]?.getD undef = y := by simpa using hy
  simp [results, hr, hp', hx', hy', asAddr, run_loadVar_row W B 25 25 cs (0, 0) _ hg Tryz.underlying25 rfl hs]
set_option maxRecDepth 100000 in
theorem readTruth_any (s : ByteArray) (hm : s.size ≤ 150000000000000) (w : World) :
    Calls Tryz.prog 57 #[.string s] w fun e w' => e = .returned (.tuple #[.bool (rTru s).1, .string (rTru s).2.1, .int .i64 (rTru s).2.2]) ∧ Bel w w' := by
  by_cases h : 0 < s.size
  · by_cases h1 : 1 < (s[0]).toNat
    · have HE : Hid (rTru s = (false, ⟨#[]⟩, 21)) := hide (by unfold rTru; rw [dif_pos h, if_pos h1])
      have i1 : (1 : Int) < ((s[0]).toNat : Int) := by omega
      have i0 : ((s.size : Int) == 0) = false := by rw [beq_eq_false_iff_ne]; omega
      go_enter Tryz.func57, Tryz.ntmps57
      go_wp2_with fail
      go_ret3
      exact ⟨by rw [HE.out]; rfl, Bel.refl _⟩
    · have HE : Hid (rTru s = (decide ((s[0]).toNat = 1), s.extract 1 s.size, 0)) := hide (by unfold rTru; rw [dif_pos h, if_neg h1])
      have i1 : ((s[0]).toNat : Int) ≤ 1 := by omega
      have i2 : (1 : Int) ≤ (s.size : Int) := by omega
      have i0 : ((s.size : Int) == 0) = false := by rw [beq_eq_false_iff_ne]; omega
      have hd : (((s[0]).toNat : Int) == 1) = decide ((s[0]).toNat = 1) := by
        by_cases hq : (s[0]).toNat = 1
        · rw [hq]; rfl
        · rw [decide_eq_false hq, beq_eq_false_iff_ne]; omega
      clear h1
      go_enter Tryz.func57, Tryz.ntmps57
      go_wp2_with fail
      go_region_held3 (fun _ => True) (trivial) (fail)
      all_goals
        go_wp2
        go_ret3
        exact ⟨by rw [HE.out, ← hd]; rfl, (Bel.refl _).drew⟩
  · have HE : Hid (rTru s = (false, ⟨#[]⟩, 20)) := hide (by unfold rTru; rw [dif_neg h])
    have i0 : (s.size : Int) = 0 := by omega
    go_enter Tryz.func57, Tryz.ntmps57
    go_wp2_with fail
    go_ret3
    exact ⟨by rw [HE.out]; rfl, Bel.refl _⟩
set_option maxRecDepth 100000 in
theorem read_1_bad (s : ByteArray) (h0 : 0 < s.size) (hk : s[0] = 1) (x : Bool) (rest : ByteArray) (e : Int) (hc : ∀ W, Calls Tryz.prog 57 #[.string (s.extract 1 s.size)] W fun e' w' => e' = .returned (.tuple #[.bool x, .string rest, .int .i64 e]) ∧ Bel W w') (he : (e == 0) = false) (w : World) :
    Calls Tryz.prog 27 #[.string s] w fun e' w' => e' = .returned (rv ((0, false, 0, ⟨#[]⟩, 0), ⟨#[]⟩, e)) ∧ Bel w w' := by
  have hk1 : ((s[0]).toNat : Int) = 1 := byte_eq (n := 1) (by omega) hk
  have i0 : ((s.size : Int) == 0) = false := by rw [beq_eq_false_iff_ne]; omega
  have i1 : (1 : Int) ≤ (s.size : Int) := by omega
  have HC := hide hc
  clear hk hc
  go_enter Tryz.func27, Tryz.ntmps27
  go_wp2_with (first | (go_at_call 57; refine (HC.out _).mono ?_; rintro e' w1 ⟨rfl, hb1⟩; have HR1 := hide (hb1.row (heap_alloc_new w _)); have HB1 := hide (((Bel.refl w).alloc _).trans hb1); have hz := free_row (p := 1) HR1.out; have hcl : w1.cell? ⟨w.heap.size, 1, none⟩ = some (.bool false) := (by rw [cell_of_row _ _ _ _ _ _ HR1.out]; rfl); have HR2 := hide (row_set (p := 1) (v := .bool x) HR1.out); have HB2 : Hid (Bel w (w1.setCell ⟨w.heap.size, 1, none⟩ (.bool x))) := hide (Below.setCell HB1.out (Nat.le_refl _) _); clear hb1) | (refine wpList_store_row rfl 25 _ _ rfl w.heap.size (ec 0 false 0 ⟨#[]⟩ 0) rfl rfl 25 _ HR2.out info25 rfl (ec_one _ _ _ _ _) ?_))
  exact bodyPost_ret (res3_25 (cs := ec 0 false 0 ⟨#[]⟩ 0) rfl (setRow_heap _ _ _ _ _ _ HR2.out) info25 _ (.string ⟨#[]⟩) (.int .i64 e) rfl rfl rfl) rfl ⟨rfl, HB2.out.setRow (Nat.le_refl _) _⟩
set_option maxRecDepth 100000 in
theorem read_1_no (s : ByteArray) (h0 : 0 < s.size) (hk : s[0] = 1) (x : Bool) (rest : ByteArray) (e : Int) (hc : ∀ W, Calls Tryz.prog 57 #[.string (s.extract 1 s.size)] W fun e' w' => e' = .returned (.tuple #[.bool x, .string rest, .int .i64 e]) ∧ Bel W w') (he : e = 0) (hm : ¬ mayV 1 x 0 ⟨#[]⟩ 0) (w : World) :
    Calls Tryz.prog 27 #[.string s] w fun e' w' => e' = .returned (rv ((0, false, 0, ⟨#[]⟩, 0), ⟨#[]⟩, 30)) ∧ Bel w w' := by
  subst he
  have HM := hide (fun W => may_no hm W)
  clear hm
  have hk1 : ((s[0]).toNat : Int) = 1 := byte_eq (n := 1) (by omega) hk
  have i0 : ((s.size : Int) == 0) = false := by rw [beq_eq_false_iff_ne]; omega
  have i1 : (1 : Int) ≤ (s.size : Int) := by omega
  have HC := hide hc
  clear hk hc
  go_enter Tryz.func27, Tryz.ntmps27
  go_wp2_with (first | (go_at_call 57; refine (HC.out _).mono ?_; rintro e' w1 ⟨rfl, hb1⟩; have HR1 := hide (hb1.row (heap_alloc_new w _)); have HB1 := hide (((Bel.refl w).alloc _).trans hb1); have hz := free_row (p := 1) HR1.out; have hcl : w1.cell? ⟨w.heap.size, 1, none⟩ = some (.bool false) := (by rw [cell_of_row _ _ _ _ _ _ HR1.out]; rfl); have HR2 := hide (row_set (p := 1) (v := .bool x) HR1.out); have HB2 : Hid (Bel w (w1.setCell ⟨w.heap.size, 1, none⟩ (.bool x))) := hide (Below.setCell HB1.out (Nat.le_refl _) _); clear hb1) | (refine wpList_load_row rfl 25 _ rfl w.heap.size rfl 25 (ec 1 x 0 ⟨#[]⟩ 0) (0, 0) _ HR2.out Tryz.underlying25 rfl info25 ?_) | (go_at_call 60; refine (HM.out _).mono ?_; rintro e' w2 ⟨rfl, hb2⟩; have HR3 := hide (hb2.row HR2.out); have HB3 := hide (HB2.out.trans hb2); clear hb2) | (refine wpList_store_row rfl 25 _ _ rfl w.heap.size (ec 0 false 0 ⟨#[]⟩ 0) rfl rfl 25 _ HR3.out info25 rfl (ec_one _ _ _ _ _) ?_))
  exact bodyPost_ret (res3_25 (cs := ec 0 false 0 ⟨#[]⟩ 0) rfl (setRow_heap _ _ _ _ _ _ HR3.out) info25 _ (.string ⟨#[]⟩) (.int .i64 30) rfl rfl rfl) rfl ⟨rfl, HB3.out.setRow (Nat.le_refl _) _⟩
set_option maxRecDepth 100000 in
theorem read_1_ok (s : ByteArray) (h0 : 0 < s.size) (hk : s[0] = 1) (x : Bool) (rest : ByteArray) (e : Int) (hc : ∀ W, Calls Tryz.prog 57 #[.string (s.extract 1 s.size)] W fun e' w' => e' = .returned (.tuple #[.bool x, .string rest, .int .i64 e]) ∧ Bel W w') (he : e = 0) (hm : mayV 1 x 0 ⟨#[]⟩ 0) (w : World) :
    Calls Tryz.prog 27 #[.string s] w fun e' w' => e' = .returned (rv ((1, x, 0, ⟨#[]⟩, 0), rest, 0)) ∧ Bel w w' := by
  subst he
  have HM := hide (fun W => may_yes hm W)
  clear hm
  have hk1 : ((s[0]).toNat : Int) = 1 := byte_eq (n := 1) (by omega) hk
  have i0 : ((s.size : Int) == 0) = false := by rw [beq_eq_false_iff_ne]; omega
  have i1 : (1 : Int) ≤ (s.size : Int) := by omega
  have HC := hide hc
  clear hk hc
  go_enter Tryz.func27, Tryz.ntmps27
  go_wp2_with (first | (go_at_call 57; refine (HC.out _).mono ?_; rintro e' w1 ⟨rfl, hb1⟩; have HR1 := hide (hb1.row (heap_alloc_new w _)); have HB1 := hide (((Bel.refl w).alloc _).trans hb1); have hz := free_row (p := 1) HR1.out; have hcl : w1.cell? ⟨w.heap.size, 1, none⟩ = some (.bool false) := (by rw [cell_of_row _ _ _ _ _ _ HR1.out]; rfl); have HR2 := hide (row_set (p := 1) (v := .bool x) HR1.out); have HB2 : Hid (Bel w (w1.setCell ⟨w.heap.size, 1, none⟩ (.bool x))) := hide (Below.setCell HB1.out (Nat.le_refl _) _); clear hb1) | (refine wpList_load_row rfl 25 _ rfl w.heap.size rfl 25 (ec 1 x 0 ⟨#[]⟩ 0) (0, 0) _ HR2.out Tryz.underlying25 rfl info25 ?_) | (go_at_call 60; refine (HM.out _).mono ?_; rintro e' w2 ⟨rfl, hb2⟩; have HR3 := hide (hb2.row HR2.out); have HB3 := hide (HB2.out.trans hb2); clear hb2) | (refine wpList_load_row rfl 25 _ rfl w.heap.size rfl 25 (ec 1 x 0 ⟨#[]⟩ 0) (0, 0) _ HR3.out Tryz.underlying25 rfl info25 ?_) | (refine wpList_store_row rfl 25 _ _ rfl w.heap.size (ec 1 x 0 ⟨#[]⟩ 0) rfl rfl 25 _ HR3.out info25 rfl (ec_one _ _ _ _ _) ?_))
  exact bodyPost_ret (res3_25 (cs := ec 1 x 0 ⟨#[]⟩ 0) rfl (setRow_heap _ _ _ _ _ _ HR3.out) info25 _ (.string rest) (.int .i64 0) rfl rfl rfl) rfl ⟨rfl, HB3.out.setRow (Nat.le_refl _) _⟩
theorem read_1 (s : ByteArray) (h0 : 0 < s.size) (hk : s[0] = 1) (x : Bool) (rest : ByteArray) (e : Int) (hc : ∀ W, Calls Tryz.prog 57 #[.string (s.extract 1 s.size)] W fun e' w' => e' = .returned (.tuple #[.bool x, .string rest, .int .i64 e]) ∧ Bel W w') (w : World) :
    Calls Tryz.prog 27 #[.string s] w fun e' w' => e' = .returned (rv (fin 1 x 0 ⟨#[]⟩ 0 rest e)) ∧ Bel w w' := by
  by_cases he : e = 0
  · by_cases hm : mayV 1 x 0 ⟨#[]⟩ 0
    · rw [fin_ok he hm]; exact read_1_ok s h0 hk x rest e hc he hm w
    · rw [fin_no he hm]; exact read_1_no s h0 hk x rest e hc he hm w
  · rw [fin_bad he]; exact read_1_bad s h0 hk x rest e hc (ne_beq he) w
set_option maxRecDepth 100000 in
theorem read_2_bad (s : ByteArray) (h0 : 0 < s.size) (hk : s[0] = 2) (x : Int) (rest : ByteArray) (e : Int) (hc : ∀ W, Calls Tryz.prog 58 #[.string (s.extract 1 s.size)] W fun e' w' => e' = .returned (.tuple #[.int .i64 x, .string rest, .int .i64 e]) ∧ Bel W w') (he : (e == 0) = false) (w : World) :
    Calls Tryz.prog 27 #[.string s] w fun e' w' => e' = .returned (rv ((0, false, 0, ⟨#[]⟩, 0), ⟨#[]⟩, e)) ∧ Bel w w' := by
  have hk1 : ((s[0]).toNat : Int) = 2 := byte_eq (n := 2) (by omega) hk
  have i0 : ((s.size : Int) == 0) = false := by rw [beq_eq_false_iff_ne]; omega
  have i1 : (1 : Int) ≤ (s.size : Int) := by omega
  have HC := hide hc
  clear hk hc
  go_enter Tryz.func27, Tryz.ntmps27
  go_wp2_with (first | (go_at_call 58; refine (HC.out _).mono ?_; rintro e' w1 ⟨rfl, hb1⟩; have HR1 := hide (hb1.row (heap_alloc_new w _)); have HB1 := hide (((Bel.refl w).alloc _).trans hb1); have hz := free_row (p := 2) HR1.out; have hcl : w1.cell? ⟨w.heap.size, 2, none⟩ = some (.int .i64 0) := (by rw [cell_of_row _ _ _ _ _ _ HR1.out]; rfl); have HR2 := hide (row_set (p := 2) (v := .int .i64 x) HR1.out); have HB2 : Hid (Bel w (w1.setCell ⟨w.heap.size, 2, none⟩ (.int .i64 x))) := hide (Below.setCell HB1.out (Nat.le_refl _) _); clear hb1) | (refine wpList_store_row rfl 25 _ _ rfl w.heap.size (ec 0 false 0 ⟨#[]⟩ 0) rfl rfl 25 _ HR2.out info25 rfl (ec_one _ _ _ _ _) ?_))
  exact bodyPost_ret (res3_25 (cs := ec 0 false 0 ⟨#[]⟩ 0) rfl (setRow_heap _ _ _ _ _ _ HR2.out) info25 _ (.string ⟨#[]⟩) (.int .i64 e) rfl rfl rfl) rfl ⟨rfl, HB2.out.setRow (Nat.le_refl _) _⟩
set_option maxRecDepth 100000 in
theorem read_2_no (s : ByteArray) (h0 : 0 < s.size) (hk : s[0] = 2) (x : Int) (rest : ByteArray) (e : Int) (hc : ∀ W, Calls Tryz.prog 58 #[.string (s.extract 1 s.size)] W fun e' w' => e' = .returned (.tuple #[.int .i64 x, .string rest, .int .i64 e]) ∧ Bel W w') (he : e = 0) (hm : ¬ mayV 2 false x ⟨#[]⟩ 0) (w : World) :
    Calls Tryz.prog 27 #[.string s] w fun e' w' => e' = .returned (rv ((0, false, 0, ⟨#[]⟩, 0), ⟨#[]⟩, 30)) ∧ Bel w w' := by
  subst he
  have HM := hide (fun W => may_no hm W)
  clear hm
  have hk1 : ((s[0]).toNat : Int) = 2 := byte_eq (n := 2) (by omega) hk
  have i0 : ((s.size : Int) == 0) = false := by rw [beq_eq_false_iff_ne]; omega
  have i1 : (1 : Int) ≤ (s.size : Int) := by omega
  have HC := hide hc
  clear hk hc
  go_enter Tryz.func27, Tryz.ntmps27
  go_wp2_with (first | (go_at_call 58; refine (HC.out _).mono ?_; rintro e' w1 ⟨rfl, hb1⟩; have HR1 := hide (hb1.row (heap_alloc_new w _)); have HB1 := hide (((Bel.refl w).alloc _).trans hb1); have hz := free_row (p := 2) HR1.out; have hcl : w1.cell? ⟨w.heap.size, 2, none⟩ = some (.int .i64 0) := (by rw [cell_of_row _ _ _ _ _ _ HR1.out]; rfl); have HR2 := hide (row_set (p := 2) (v := .int .i64 x) HR1.out); have HB2 : Hid (Bel w (w1.setCell ⟨w.heap.size, 2, none⟩ (.int .i64 x))) := hide (Below.setCell HB1.out (Nat.le_refl _) _); clear hb1) | (refine wpList_load_row rfl 25 _ rfl w.heap.size rfl 25 (ec 2 false x ⟨#[]⟩ 0) (0, 0) _ HR2.out Tryz.underlying25 rfl info25 ?_) | (go_at_call 60; refine (HM.out _).mono ?_; rintro e' w2 ⟨rfl, hb2⟩; have HR3 := hide (hb2.row HR2.out); have HB3 := hide (HB2.out.trans hb2); clear hb2) | (refine wpList_store_row rfl 25 _ _ rfl w.heap.size (ec 0 false 0 ⟨#[]⟩ 0) rfl rfl 25 _ HR3.out info25 rfl (ec_one _ _ _ _ _) ?_))
  exact bodyPost_ret (res3_25 (cs := ec 0 false 0 ⟨#[]⟩ 0) rfl (setRow_heap _ _ _ _ _ _ HR3.out) info25 _ (.string ⟨#[]⟩) (.int .i64 30) rfl rfl rfl) rfl ⟨rfl, HB3.out.setRow (Nat.le_refl _) _⟩
set_option maxRecDepth 100000 in
theorem read_2_ok (s : ByteArray) (h0 : 0 < s.size) (hk : s[0] = 2) (x : Int) (rest : ByteArray) (e : Int) (hc : ∀ W, Calls Tryz.prog 58 #[.string (s.extract 1 s.size)] W fun e' w' => e' = .returned (.tuple #[.int .i64 x, .string rest, .int .i64 e]) ∧ Bel W w') (he : e = 0) (hm : mayV 2 false x ⟨#[]⟩ 0) (w : World) :
    Calls Tryz.prog 27 #[.string s] w fun e' w' => e' = .returned (rv ((2, false, x, ⟨#[]⟩, 0), rest, 0)) ∧ Bel w w' := by
  subst he
  have HM := hide (fun W => may_yes hm W)
  clear hm
  have hk1 : ((s[0]).toNat : Int) = 2 := byte_eq (n := 2) (by omega) hk
  have i0 : ((s.size : Int) == 0) = false := by rw [beq_eq_false_iff_ne]; omega
  have i1 : (1 : Int) ≤ (s.size : Int) := by omega
  have HC := hide hc
  clear hk hc
  go_enter Tryz.func27, Tryz.ntmps27
  go_wp2_with (first | (go_at_call 58; refine (HC.out _).mono ?_; rintro e' w1 ⟨rfl, hb1⟩; have HR1 := hide (hb1.row (heap_alloc_new w _)); have HB1 := hide (((Bel.refl w).alloc _).trans hb1); have hz := free_row (p := 2) HR1.out; have hcl : w1.cell? ⟨w.heap.size, 2, none⟩ = some (.int .i64 0) := (by rw [cell_of_row _ _ _ _ _ _ HR1.out]; rfl); have HR2 := hide (row_set (p := 2) (v := .int .i64 x) HR1.out); have HB2 : Hid (Bel w (w1.setCell ⟨w.heap.size, 2, none⟩ (.int .i64 x))) := hide (Below.setCell HB1.out (Nat.le_refl _) _); clear hb1) | (refine wpList_load_row rfl 25 _ rfl w.heap.size rfl 25 (ec 2 false x ⟨#[]⟩ 0) (0, 0) _ HR2.out Tryz.underlying25 rfl info25 ?_) | (go_at_call 60; refine (HM.out _).mono ?_; rintro e' w2 ⟨rfl, hb2⟩; have HR3 := hide (hb2.row HR2.out); have HB3 := hide (HB2.out.trans hb2); clear hb2) | (refine wpList_load_row rfl 25 _ rfl w.heap.size rfl 25 (ec 2 false x ⟨#[]⟩ 0) (0, 0) _ HR3.out Tryz.underlying25 rfl info25 ?_) | (refine wpList_store_row rfl 25 _ _ rfl w.heap.size (ec 2 false x ⟨#[]⟩ 0) rfl rfl 25 _ HR3.out info25 rfl (ec_one _ _ _ _ _) ?_))
  exact bodyPost_ret (res3_25 (cs := ec 2 false x ⟨#[]⟩ 0) rfl (setRow_heap _ _ _ _ _ _ HR3.out) info25 _ (.string rest) (.int .i64 0) rfl rfl rfl) rfl ⟨rfl, HB3.out.setRow (Nat.le_refl _) _⟩
theorem read_2 (s : ByteArray) (h0 : 0 < s.size) (hk : s[0] = 2) (x : Int) (rest : ByteArray) (e : Int) (hc : ∀ W, Calls Tryz.prog 58 #[.string (s.extract 1 s.size)] W fun e' w' => e' = .returned (.tuple #[.int .i64 x, .string rest, .int .i64 e]) ∧ Bel W w') (w : World) :
    Calls Tryz.prog 27 #[.string s] w fun e' w' => e' = .returned (rv (fin 2 false x ⟨#[]⟩ 0 rest e)) ∧ Bel w w' := by
  by_cases he : e = 0
  · by_cases hm : mayV 2 false x ⟨#[]⟩ 0
    · rw [fin_ok he hm]; exact read_2_ok s h0 hk x rest e hc he hm w
    · rw [fin_no he hm]; exact read_2_no s h0 hk x rest e hc he hm w
  · rw [fin_bad he]; exact read_2_bad s h0 hk x rest e hc (ne_beq he) w
set_option maxRecDepth 100000 in
theorem read_3_bad (s : ByteArray) (h0 : 0 < s.size) (hk : s[0] = 3) (x : ByteArray) (rest : ByteArray) (e : Int) (hc : ∀ W, Calls Tryz.prog 59 #[.string (s.extract 1 s.size)] W fun e' w' => e' = .returned (.tuple #[.string x, .string rest, .int .i64 e]) ∧ Bel W w') (he : (e == 0) = false) (w : World) :
    Calls Tryz.prog 27 #[.string s] w fun e' w' => e' = .returned (rv ((0, false, 0, ⟨#[]⟩, 0), ⟨#[]⟩, e)) ∧ Bel w w' := by
  have hk1 : ((s[0]).toNat : Int) = 3 := byte_eq (n := 3) (by omega) hk
  have i0 : ((s.size : Int) == 0) = false := by rw [beq_eq_false_iff_ne]; omega
  have i1 : (1 : Int) ≤ (s.size : Int) := by omega
  have HC := hide hc
  clear hk hc
  go_enter Tryz.func27, Tryz.ntmps27
  go_wp2_with (first | (go_at_call 59; refine (HC.out _).mono ?_; rintro e' w1 ⟨rfl, hb1⟩; have HR1 := hide (hb1.row (heap_alloc_new w _)); have HB1 := hide (((Bel.refl w).alloc _).trans hb1); have hz := free_row (p := 3) HR1.out; have hcl : w1.cell? ⟨w.heap.size, 3, none⟩ = some (.string ⟨#[]⟩) := (by rw [cell_of_row _ _ _ _ _ _ HR1.out]; rfl); have HR2 := hide (row_set (p := 3) (v := .string x) HR1.out); have HB2 : Hid (Bel w (w1.setCell ⟨w.heap.size, 3, none⟩ (.string x))) := hide (Below.setCell HB1.out (Nat.le_refl _) _); clear hb1) | (refine wpList_store_row rfl 25 _ _ rfl w.heap.size (ec 0 false 0 ⟨#[]⟩ 0) rfl rfl 25 _ HR2.out info25 rfl (ec_one _ _ _ _ _) ?_))
  exact bodyPost_ret (res3_25 (cs := ec 0 false 0 ⟨#[]⟩ 0) rfl (setRow_heap _ _ _ _ _ _ HR2.out) info25 _ (.string ⟨#[]⟩) (.int .i64 e) rfl rfl rfl) rfl ⟨rfl, HB2.out.setRow (Nat.le_refl _) _⟩
set_option maxRecDepth 100000 in
theorem read_3_no (s : ByteArray) (h0 : 0 < s.size) (hk : s[0] = 3) (x : ByteArray) (rest : ByteArray) (e : Int) (hc : ∀ W, Calls Tryz.prog 59 #[.string (s.extract 1 s.size)] W fun e' w' => e' = .returned (.tuple #[.string x, .string rest, .int .i64 e]) ∧ Bel W w') (he : e = 0) (hm : ¬ mayV 3 false 0 x 0) (w : World) :
    Calls Tryz.prog 27 #[.string s] w fun e' w' => e' = .returned (rv ((0, false, 0, ⟨#[]⟩, 0), ⟨#[]⟩, 30)) ∧ Bel w w' := by
  subst he
  have HM := hide (fun W => may_no hm W)
  clear hm
  have hk1 : ((s[0]).toNat : Int) = 3 := byte_eq (n := 3) (by omega) hk
  have i0 : ((s.size : Int) == 0) = false := by rw [beq_eq_false_iff_ne]; omega
  have i1 : (1 : Int) ≤ (s.size : Int) := by omega
  have HC := hide hc
  clear hk hc
  go_enter Tryz.func27, Tryz.ntmps27
  go_wp2_with (first | (go_at_call 59; refine (HC.out _).mono ?_; rintro e' w1 ⟨rfl, hb1⟩; have HR1 := hide (hb1.row (heap_alloc_new w _)); have HB1 := hide (((Bel.refl w).alloc _).trans hb1); have hz := free_row (p := 3) HR1.out; have hcl : w1.cell? ⟨w.heap.size, 3, none⟩ = some (.string ⟨#[]⟩) := (by rw [cell_of_row _ _ _ _ _ _ HR1.out]; rfl); have HR2 := hide (row_set (p := 3) (v := .string x) HR1.out); have HB2 : Hid (Bel w (w1.setCell ⟨w.heap.size, 3, none⟩ (.string x))) := hide (Below.setCell HB1.out (Nat.le_refl _) _); clear hb1) | (refine wpList_load_row rfl 25 _ rfl w.heap.size rfl 25 (ec 3 false 0 x 0) (0, 0) _ HR2.out Tryz.underlying25 rfl info25 ?_) | (go_at_call 60; refine (HM.out _).mono ?_; rintro e' w2 ⟨rfl, hb2⟩; have HR3 := hide (hb2.row HR2.out); have HB3 := hide (HB2.out.trans hb2); clear hb2) | (refine wpList_store_row rfl 25 _ _ rfl w.heap.size (ec 0 false 0 ⟨#[]⟩ 0) rfl rfl 25 _ HR3.out info25 rfl (ec_one _ _ _ _ _) ?_))
  exact bodyPost_ret (res3_25 (cs := ec 0 false 0 ⟨#[]⟩ 0) rfl (setRow_heap _ _ _ _ _ _ HR3.out) info25 _ (.string ⟨#[]⟩) (.int .i64 30) rfl rfl rfl) rfl ⟨rfl, HB3.out.setRow (Nat.le_refl _) _⟩
set_option maxRecDepth 100000 in
theorem read_3_ok (s : ByteArray) (h0 : 0 < s.size) (hk : s[0] = 3) (x : ByteArray) (rest : ByteArray) (e : Int) (hc : ∀ W, Calls Tryz.prog 59 #[.string (s.extract 1 s.size)] W fun e' w' => e' = .returned (.tuple #[.string x, .string rest, .int .i64 e]) ∧ Bel W w') (he : e = 0) (hm : mayV 3 false 0 x 0) (w : World) :
    Calls Tryz.prog 27 #[.string s] w fun e' w' => e' = .returned (rv ((3, false, 0, x, 0), rest, 0)) ∧ Bel w w' := by
  subst he
  have HM := hide (fun W => may_yes hm W)
  clear hm
  have hk1 : ((s[0]).toNat : Int) = 3 := byte_eq (n := 3) (by omega) hk
  have i0 : ((s.size : Int) == 0) = false := by rw [beq_eq_false_iff_ne]; omega
  have i1 : (1 : Int) ≤ (s.size : Int) := by omega
  have HC := hide hc
  clear hk hc
  go_enter Tryz.func27, Tryz.ntmps27
  go_wp2_with (first | (go_at_call 59; refine (HC.out _).mono ?_; rintro e' w1 ⟨rfl, hb1⟩; have HR1 := hide (hb1.row (heap_alloc_new w _)); have HB1 := hide (((Bel.refl w).alloc _).trans hb1); have hz := free_row (p := 3) HR1.out; have hcl : w1.cell? ⟨w.heap.size, 3, none⟩ = some (.string ⟨#[]⟩) := (by rw [cell_of_row _ _ _ _ _ _ HR1.out]; rfl); have HR2 := hide (row_set (p := 3) (v := .string x) HR1.out); have HB2 : Hid (Bel w (w1.setCell ⟨w.heap.size, 3, none⟩ (.string x))) := hide (Below.setCell HB1.out (Nat.le_refl _) _); clear hb1) | (refine wpList_load_row rfl 25 _ rfl w.heap.size rfl 25 (ec 3 false 0 x 0) (0, 0) _ HR2.out Tryz.underlying25 rfl info25 ?_) | (go_at_call 60; refine (HM.out _).mono ?_; rintro e' w2 ⟨rfl, hb2⟩; have HR3 := hide (hb2.row HR2.out); have HB3 := hide (HB2.out.trans hb2); clear hb2) | (refine wpList_load_row rfl 25 _ rfl w.heap.size rfl 25 (ec 3 false 0 x 0) (0, 0) _ HR3.out Tryz.underlying25 rfl info25 ?_) | (refine wpList_store_row rfl 25 _ _ rfl w.heap.size (ec 3 false 0 x 0) rfl rfl 25 _ HR3.out info25 rfl (ec_one _ _ _ _ _) ?_))
  exact bodyPost_ret (res3_25 (cs := ec 3 false 0 x 0) rfl (setRow_heap _ _ _ _ _ _ HR3.out) info25 _ (.string rest) (.int .i64 0) rfl rfl rfl) rfl ⟨rfl, HB3.out.setRow (Nat.le_refl _) _⟩
theorem read_3 (s : ByteArray) (h0 : 0 < s.size) (hk : s[0] = 3) (x : ByteArray) (rest : ByteArray) (e : Int) (hc : ∀ W, Calls Tryz.prog 59 #[.string (s.extract 1 s.size)] W fun e' w' => e' = .returned (.tuple #[.string x, .string rest, .int .i64 e]) ∧ Bel W w') (w : World) :
    Calls Tryz.prog 27 #[.string s] w fun e' w' => e' = .returned (rv (fin 3 false 0 x 0 rest e)) ∧ Bel w w' := by
  by_cases he : e = 0
  · by_cases hm : mayV 3 false 0 x 0
    · rw [fin_ok he hm]; exact read_3_ok s h0 hk x rest e hc he hm w
    · rw [fin_no he hm]; exact read_3_no s h0 hk x rest e hc he hm w
  · rw [fin_bad he]; exact read_3_bad s h0 hk x rest e hc (ne_beq he) w
set_option maxRecDepth 100000 in
theorem read_4_bad (s : ByteArray) (h0 : 0 < s.size) (hk : s[0] = 4) (x : Int) (rest : ByteArray) (e : Int) (hc : ∀ W, Calls Tryz.prog 23 #[.string (s.extract 1 s.size)] W fun e' w' => e' = .returned (.tuple #[.int .u64 x, .string rest, .int .i64 e]) ∧ Bel W w') (he : (e == 0) = false) (w : World) :
    Calls Tryz.prog 27 #[.string s] w fun e' w' => e' = .returned (rv ((0, false, 0, ⟨#[]⟩, 0), ⟨#[]⟩, e)) ∧ Bel w w' := by
  have hk1 : ((s[0]).toNat : Int) = 4 := byte_eq (n := 4) (by omega) hk
  have i0 : ((s.size : Int) == 0) = false := by rw [beq_eq_false_iff_ne]; omega
  have i1 : (1 : Int) ≤ (s.size : Int) := by omega
  have HC := hide hc
  clear hk hc
  go_enter Tryz.func27, Tryz.ntmps27
  go_wp2_with (first | (go_at_call 23; refine (HC.out _).mono ?_; rintro e' w1 ⟨rfl, hb1⟩; have HR1 := hide (hb1.row (heap_alloc_new w _)); have HB1 := hide (((Bel.refl w).alloc _).trans hb1); have hz := free_row (p := 4) HR1.out; have hcl : w1.cell? ⟨w.heap.size, 4, none⟩ = some (.int .u64 0) := (by rw [cell_of_row _ _ _ _ _ _ HR1.out]; rfl); have HR2 := hide (row_set (p := 4) (v := .int .u64 x) HR1.out); have HB2 : Hid (Bel w (w1.setCell ⟨w.heap.size, 4, none⟩ (.int .u64 x))) := hide (Below.setCell HB1.out (Nat.le_refl _) _); clear hb1) | (refine wpList_store_row rfl 25 _ _ rfl w.heap.size (ec 0 false 0 ⟨#[]⟩ 0) rfl rfl 25 _ HR2.out info25 rfl (ec_one _ _ _ _ _) ?_))
  exact bodyPost_ret (res3_25 (cs := ec 0 false 0 ⟨#[]⟩ 0) rfl (setRow_heap _ _ _ _ _ _ HR2.out) info25 _ (.string ⟨#[]⟩) (.int .i64 e) rfl rfl rfl) rfl ⟨rfl, HB2.out.setRow (Nat.le_refl _) _⟩
set_option maxRecDepth 100000 in
theorem read_4_no (s : ByteArray) (h0 : 0 < s.size) (hk : s[0] = 4) (x : Int) (rest : ByteArray) (e : Int) (hc : ∀ W, Calls Tryz.prog 23 #[.string (s.extract 1 s.size)] W fun e' w' => e' = .returned (.tuple #[.int .u64 x, .string rest, .int .i64 e]) ∧ Bel W w') (he : e = 0) (hm : ¬ mayV 4 false 0 ⟨#[]⟩ x) (w : World) :
    Calls Tryz.prog 27 #[.string s] w fun e' w' => e' = .returned (rv ((0, false, 0, ⟨#[]⟩, 0), ⟨#[]⟩, 30)) ∧ Bel w w' := by
  subst he
  have HM := hide (fun W => may_no hm W)
  clear hm
  have hk1 : ((s[0]).toNat : Int) = 4 := byte_eq (n := 4) (by omega) hk
  have i0 : ((s.size : Int) == 0) = false := by rw [beq_eq_false_iff_ne]; omega
  have i1 : (1 : Int) ≤ (s.size : Int) := by omega
  have HC := hide hc
  clear hk hc
  go_enter Tryz.func27, Tryz.ntmps27
  go_wp2_with (first | (go_at_call 23; refine (HC.out _).mono ?_; rintro e' w1 ⟨rfl, hb1⟩; have HR1 := hide (hb1.row (heap_alloc_new w _)); have HB1 := hide (((Bel.refl w).alloc _).trans hb1); have hz := free_row (p := 4) HR1.out; have hcl : w1.cell? ⟨w.heap.size, 4, none⟩ = some (.int .u64 0) := (by rw [cell_of_row _ _ _ _ _ _ HR1.out]; rfl); have HR2 := hide (row_set (p := 4) (v := .int .u64 x) HR1.out); have HB2 : Hid (Bel w (w1.setCell ⟨w.heap.size, 4, none⟩ (.int .u64 x))) := hide (Below.setCell HB1.out (Nat.le_refl _) _); clear hb1) | (refine wpList_load_row rfl 25 _ rfl w.heap.size rfl 25 (ec 4 false 0 ⟨#[]⟩ x) (0, 0) _ HR2.out Tryz.underlying25 rfl info25 ?_) | (go_at_call 60; refine (HM.out _).mono ?_; rintro e' w2 ⟨rfl, hb2⟩; have HR3 := hide (hb2.row HR2.out); have HB3 := hide (HB2.out.trans hb2); clear hb2) | (refine wpList_store_row rfl 25 _ _ rfl w.heap.size (ec 0 false 0 ⟨#[]⟩ 0) rfl rfl 25 _ HR3.out info25 rfl (ec_one _ _ _ _ _) ?_))
  exact bodyPost_ret (res3_25 (cs := ec 0 false 0 ⟨#[]⟩ 0) rfl (setRow_heap _ _ _ _ _ _ HR3.out) info25 _ (.string ⟨#[]⟩) (.int .i64 30) rfl rfl rfl) rfl ⟨rfl, HB3.out.setRow (Nat.le_refl _) _⟩
set_option maxRecDepth 100000 in
theorem read_4_ok (s : ByteArray) (h0 : 0 < s.size) (hk : s[0] = 4) (x : Int) (rest : ByteArray) (e : Int) (hc : ∀ W, Calls Tryz.prog 23 #[.string (s.extract 1 s.size)] W fun e' w' => e' = .returned (.tuple #[.int .u64 x, .string rest, .int .i64 e]) ∧ Bel W w') (he : e = 0) (hm : mayV 4 false 0 ⟨#[]⟩ x) (w : World) :
    Calls Tryz.prog 27 #[.string s] w fun e' w' => e' = .returned (rv ((4, false, 0, ⟨#[]⟩, x), rest, 0)) ∧ Bel w w' := by
  subst he
  have HM := hide (fun W => may_yes hm W)
  clear hm
  have hk1 : ((s[0]).toNat : Int) = 4 := byte_eq (n := 4) (by omega) hk
  have i0 : ((s.size : Int) == 0) = false := by rw [beq_eq_false_iff_ne]; omega
  have i1 : (1 : Int) ≤ (s.size : Int) := by omega
  have HC := hide hc
  clear hk hc
  go_enter Tryz.func27, Tryz.ntmps27
  go_wp2_with (first | (go_at_call 23; refine (HC.out _).mono ?_; rintro e' w1 ⟨rfl, hb1⟩; have HR1 := hide (hb1.row (heap_alloc_new w _)); have HB1 := hide (((Bel.refl w).alloc _).trans hb1); have hz := free_row (p := 4) HR1.out; have hcl : w1.cell? ⟨w.heap.size, 4, none⟩ = some (.int .u64 0) := (by rw [cell_of_row _ _ _ _ _ _ HR1.out]; rfl); have HR2 := hide (row_set (p := 4) (v := .int .u64 x) HR1.out); have HB2 : Hid (Bel w (w1.setCell ⟨w.heap.size, 4, none⟩ (.int .u64 x))) := hide (Below.setCell HB1.out (Nat.le_refl _) _); clear hb1) | (refine wpList_load_row rfl 25 _ rfl w.heap.size rfl 25 (ec 4 false 0 ⟨#[]⟩ x) (0, 0) _ HR2.out Tryz.underlying25 rfl info25 ?_) | (go_at_call 60; refine (HM.out _).mono ?_; rintro e' w2 ⟨rfl, hb2⟩; have HR3 := hide (hb2.row HR2.out); have HB3 := hide (HB2.out.trans hb2); clear hb2) | (refine wpList_load_row rfl 25 _ rfl w.heap.size rfl 25 (ec 4 false 0 ⟨#[]⟩ x) (0, 0) _ HR3.out Tryz.underlying25 rfl info25 ?_) | (refine wpList_store_row rfl 25 _ _ rfl w.heap.size (ec 4 false 0 ⟨#[]⟩ x) rfl rfl 25 _ HR3.out info25 rfl (ec_one _ _ _ _ _) ?_))
  exact bodyPost_ret (res3_25 (cs := ec 4 false 0 ⟨#[]⟩ x) rfl (setRow_heap _ _ _ _ _ _ HR3.out) info25 _ (.string rest) (.int .i64 0) rfl rfl rfl) rfl ⟨rfl, HB3.out.setRow (Nat.le_refl _) _⟩
theorem read_4 (s : ByteArray) (h0 : 0 < s.size) (hk : s[0] = 4) (x : Int) (rest : ByteArray) (e : Int) (hc : ∀ W, Calls Tryz.prog 23 #[.string (s.extract 1 s.size)] W fun e' w' => e' = .returned (.tuple #[.int .u64 x, .string rest, .int .i64 e]) ∧ Bel W w') (w : World) :
    Calls Tryz.prog 27 #[.string s] w fun e' w' => e' = .returned (rv (fin 4 false 0 ⟨#[]⟩ x rest e)) ∧ Bel w w' := by
  by_cases he : e = 0
  · by_cases hm : mayV 4 false 0 ⟨#[]⟩ x
    · rw [fin_ok he hm]; exact read_4_ok s h0 hk x rest e hc he hm w
    · rw [fin_no he hm]; exact read_4_no s h0 hk x rest e hc he hm w
  · rw [fin_bad he]; exact read_4_bad s h0 hk x rest e hc (ne_beq he) w
set_option maxRecDepth 100000 in
theorem read_none (s : ByteArray) (h0 : 0 < s.size) (n1 : s[0] ≠ 1) (n2 : s[0] ≠ 2) (n3 : s[0] ≠ 3) (n4 : s[0] ≠ 4) (w : World) :
    Calls Tryz.prog 27 #[.string s] w fun e' w' => e' = .returned (rv ((0, false, 0, ⟨#[]⟩, 0), ⟨#[]⟩, 30)) ∧ Bel w w' := by
  have k1 : (((s[0]).toNat : Int) == 1) = false := byte_ne (n := 1) (by omega) n1
  have k2 : (((s[0]).toNat : Int) == 2) = false := byte_ne (n := 2) (by omega) n2
  have k3 : (((s[0]).toNat : Int) == 3) = false := byte_ne (n := 3) (by omega) n3
  have k4 : (((s[0]).toNat : Int) == 4) = false := byte_ne (n := 4) (by omega) n4
  have i0 : ((s.size : Int) == 0) = false := by rw [beq_eq_false_iff_ne]; omega
  have HM := hide (fun W => may_0 ((s[0]).toNat : Int) false 0 ⟨#[]⟩ 0 k1 k2 k3 k4 W)
  unfold ev at HM
  clear n1 n2 n3 n4
  go_enter Tryz.func27, Tryz.ntmps27
  go_wp2_with (first | (go_at_call 60; refine (HM.out _).mono ?_; rintro e' w2 ⟨rfl, hb2⟩; have HR3 := hide (hb2.row (heap_alloc_new w _)); have HB3 := hide (((Bel.refl w).alloc _).trans hb2); clear hb2) | (refine wpList_store_row rfl 25 _ _ rfl w.heap.size (ec 0 false 0 ⟨#[]⟩ 0) rfl rfl 25 _ HR3.out info25 rfl (ec_one _ _ _ _ _) ?_))
  exact bodyPost_ret (res3_25 (cs := ec 0 false 0 ⟨#[]⟩ 0) rfl (setRow_heap _ _ _ _ _ _ HR3.out) info25 _ (.string ⟨#[]⟩) (.int .i64 30) rfl rfl rfl) rfl ⟨rfl, HB3.out.setRow (Nat.le_refl _) _⟩
set_option maxRecDepth 100000 in
theorem read_empty (w : World) :
    Calls Tryz.prog 27 #[.string ⟨#[]⟩] w fun e' w' => e' = .returned (rv ((0, false, 0, ⟨#[]⟩, 0), ⟨#[]⟩, 20)) ∧ Bel w w' := by
  go_enter Tryz.func27, Tryz.ntmps27
  go_wp2_with fail
  exact bodyPost_ret (res3_25 (cs := ec 0 false 0 ⟨#[]⟩ 0) rfl (heap_alloc_new w _) info25 _ (.string ⟨#[]⟩) (.int .i64 20) rfl rfl rfl) rfl ⟨rfl, (Bel.refl _).alloc _⟩
theorem read_any (s : ByteArray) (hm : s.size ≤ 150000000000000) (w : World) :
    Calls Tryz.prog 27 #[.string s] w fun e w' => e = .returned (rv (rVal s)) ∧ Bel w w' := by
  by_cases h0 : 0 < s.size
  · have hr : (s.extract 1 s.size).size ≤ 150000000000000 := by simp; omega
    unfold rVal
    rw [dif_pos h0]
    by_cases h1 : s[0] = 1
    · rw [if_pos h1]; exact read_1 s h0 h1 _ _ _ (fun W => readTruth_any _ hr W) w
    by_cases h2 : s[0] = 2
    · rw [if_neg h1, if_pos h2]; exact read_2 s h0 h2 _ _ _ (fun W => readInt_any _ hr W) w
    by_cases h3 : s[0] = 3
    · rw [if_neg h1, if_neg h2, if_pos h3]; exact read_3 s h0 h3 _ _ _ (fun W => readKey_any _ hr W) w
    by_cases h4 : s[0] = 4
    · rw [if_neg h1, if_neg h2, if_neg h3, if_pos h4]; exact read_4 s h0 h4 _ _ _ (fun W => readNum_any _ hr W) w
    · rw [if_neg h1, if_neg h2, if_neg h3, if_neg h4]; exact read_none s h0 h1 h2 h3 h4 w
  · unfold rVal
    rw [dif_neg h0, ba_nil (show s.size = 0 by omega)]
    exact read_empty w
end Go.Proofs.YtgghcfmpfneehaaGreatDoor
