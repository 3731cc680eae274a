/- What the document's Read returns; for every text. -/
import Derived.Test.YtgghcfmpfneehaaGreatDoorValM
namespace Go.Proofs.YtgghcfmpfneehaaGreatDoor
open Go.RowKit
theorem two_first (w : World) (c : Array Value) (o : Obj) : ((w.alloc (.cells c 25)).alloc o).heap[w.heap.size]? = some (.cells c 25) :=
  Bel.row ((Bel.refl _).alloc o) (heap_alloc_new w _)
theorem two_second (w : World) (o : Obj) (c : Array Value) : ((w.alloc o).alloc (.cells c 25)).heap[w.heap.size + 1]? = some (.cells c 25) := by
  have h := heap_alloc_new (w.alloc o) (.cells c 25)
  rw [show (w.alloc o).heap.size = w.heap.size + 1 by simp] at h
  exact h
theorem row_far {W : World} {b c p : Nat} {v : Value} {o : Obj} (h : W.heap[b]? = some o) (hp : b ≠ c) : (W.setCell ⟨c, p, none⟩ v).heap[b]? = some o := by
  rw [← h]
  show (W.heap.modify c _)[b]? = _
  rw [Array.getElem?_modify, if_neg (Ne.symm hp)]
set_option maxRecDepth 100000 in
theorem rread_2_bad (s : ByteArray) (h0 : 0 < s.size) (hk : s[0] = 2) (x : Int) (rest : ByteArray) (e : Int) (hc : ∀ W, Calls Tryz.prog 63 #[.string (s.extract 1 s.size)] W fun e' w' => e' = .returned (.tuple #[.int .i64 x, .string rest, .int .i64 e]) ∧ Bel W w') (he : (e == 0) = false) (w : World) :
    Calls Tryz.prog 32 #[.string s] w fun e' w' => e' = .returned (rv ((0, false, 0, ⟨#[]⟩, 0), ⟨#[]⟩, e)) ∧ Bel w w' := by
  have hk1 : ((s[0]).toNat : Int) = 2 := byte_eq (n := 2) (by omega) hk
  have hne : s.toList.isEmpty = false := ba_nil_ne (by omega)
  have i1 : (1 : Int) ≤ (s.size : Int) := by omega
  have HC := hide hc
  clear hk hc
  go_enter Tryz.func32, Tryz.ntmps32
  go_wp2_with (first | (go_at_call 63; refine (HC.out _).mono ?_; rintro e' w1 ⟨rfl, hb1⟩; have HR0 := hide (hb1.row (two_first w _ _)); have HR1 := hide (hb1.row (two_second w _ _)); have HB1 := hide ((((Bel.refl w).alloc _).alloc _).trans hb1); have hz := free_row (p := 2) HR1.out; have hcl : w1.cell? ⟨w.heap.size + 1, 2, none⟩ = some (.int .i64 0) := (by rw [cell_of_row _ _ _ _ _ _ HR1.out]; rfl); have HR2 := hide (row_set (p := 2) (v := .int .i64 x) HR1.out); have HR02 := hide (row_far (p := 2) (v := .int .i64 x) (c := w.heap.size + 1) HR0.out (by omega)); have HB2 : Hid (Bel w (w1.setCell ⟨w.heap.size + 1, 2, none⟩ (.int .i64 x))) := hide (Below.setCell HB1.out (show w.heap.size ≤ w.heap.size + 1 by omega) _); clear hb1) | (refine wpList_store_row rfl 25 _ _ rfl w.heap.size (ec 0 false 0 ⟨#[]⟩ 0) rfl rfl 25 _ HR02.out info25 rfl (ec_one _ _ _ _ _) ?_))
  exact bodyPost_ret (res3_25 (cs := ec 0 false 0 ⟨#[]⟩ 0) rfl (setRow_heap _ _ _ _ _ _ HR02.out) info25 _ (.string ⟨#[]⟩) (.int .i64 e) rfl rfl rfl) rfl ⟨rfl, HB2.out.setRow (Nat.le_refl _) _⟩
set_option maxRecDepth 100000 in
theorem rread_2_no (s : ByteArray) (h0 : 0 < s.size) (hk : s[0] = 2) (x : Int) (rest : ByteArray) (e : Int) (hc : ∀ W, Calls Tryz.prog 63 #[.string (s.extract 1 s.size)] W fun e' w' => e' = .returned (.tuple #[.int .i64 x, .string rest, .int .i64 e]) ∧ Bel W w') (he : e = 0) (hm : ¬ mayV 2 false x ⟨#[]⟩ 0) (w : World) :
    Calls Tryz.prog 32 #[.string s] w fun e' w' => e' = .returned (rv ((0, false, 0, ⟨#[]⟩, 0), ⟨#[]⟩, 30)) ∧ Bel w w' := by
  subst he
  have HM := hide (fun W => rmay_no hm W)
  clear hm
  have hk1 : ((s[0]).toNat : Int) = 2 := byte_eq (n := 2) (by omega) hk
  have hne : s.toList.isEmpty = false := ba_nil_ne (by omega)
  have i1 : (1 : Int) ≤ (s.size : Int) := by omega
  have HC := hide hc
  clear hk hc
  go_enter Tryz.func32, Tryz.ntmps32
  go_wp2_with (first | (go_at_call 63; refine (HC.out _).mono ?_; rintro e' w1 ⟨rfl, hb1⟩; have HR0 := hide (hb1.row (two_first w _ _)); have HR1 := hide (hb1.row (two_second w _ _)); have HB1 := hide ((((Bel.refl w).alloc _).alloc _).trans hb1); have hz := free_row (p := 2) HR1.out; have hcl : w1.cell? ⟨w.heap.size + 1, 2, none⟩ = some (.int .i64 0) := (by rw [cell_of_row _ _ _ _ _ _ HR1.out]; rfl); have HR2 := hide (row_set (p := 2) (v := .int .i64 x) HR1.out); have HR02 := hide (row_far (p := 2) (v := .int .i64 x) (c := w.heap.size + 1) HR0.out (by omega)); have HB2 : Hid (Bel w (w1.setCell ⟨w.heap.size + 1, 2, none⟩ (.int .i64 x))) := hide (Below.setCell HB1.out (show w.heap.size ≤ w.heap.size + 1 by omega) _); clear hb1) | (refine wpList_load_row rfl 25 _ rfl (w.heap.size + 1) rfl 25 (ec 2 false x ⟨#[]⟩ 0) (0, 0) _ HR2.out Tryz.underlying25 rfl info25 ?_) | (go_at_call 65; refine (HM.out _).mono ?_; rintro e' w2 ⟨rfl, hb2⟩; have HR3 := hide (hb2.row HR2.out); have HR03 := hide (hb2.row HR02.out); have HB3 := hide (HB2.out.trans hb2); clear hb2) | (refine wpList_store_row rfl 25 _ _ rfl w.heap.size (ec 0 false 0 ⟨#[]⟩ 0) rfl rfl 25 _ HR03.out info25 rfl (ec_one _ _ _ _ _) ?_))
  exact bodyPost_ret (res3_25 (cs := ec 0 false 0 ⟨#[]⟩ 0) rfl (setRow_heap _ _ _ _ _ _ HR03.out) info25 _ (.string ⟨#[]⟩) (.int .i64 30) rfl rfl rfl) rfl ⟨rfl, HB3.out.setRow (Nat.le_refl _) _⟩
set_option maxRecDepth 100000 in
theorem rread_2_ok (s : ByteArray) (h0 : 0 < s.size) (hk : s[0] = 2) (x : Int) (rest : ByteArray) (e : Int) (hc : ∀ W, Calls Tryz.prog 63 #[.string (s.extract 1 s.size)] W fun e' w' => e' = .returned (.tuple #[.int .i64 x, .string rest, .int .i64 e]) ∧ Bel W w') (he : e = 0) (_hu : True) (hm : mayV 2 false x ⟨#[]⟩ 0) (w : World) :
    Calls Tryz.prog 32 #[.string s] w fun e' w' => e' = .returned (rv ((2, false, x, ⟨#[]⟩, 0), rest, 0)) ∧ Bel w w' := by
  subst he
  have HM := hide (fun W => rmay_yes hm (by omega) W)
  clear hm
  have hk1 : ((s[0]).toNat : Int) = 2 := byte_eq (n := 2) (by omega) hk
  have hne : s.toList.isEmpty = false := ba_nil_ne (by omega)
  have i1 : (1 : Int) ≤ (s.size : Int) := by omega
  have HC := hide hc
  clear hk hc
  go_enter Tryz.func32, Tryz.ntmps32
  go_wp2_with (first | (go_at_call 63; refine (HC.out _).mono ?_; rintro e' w1 ⟨rfl, hb1⟩; have HR0 := hide (hb1.row (two_first w _ _)); have HR1 := hide (hb1.row (two_second w _ _)); have HB1 := hide ((((Bel.refl w).alloc _).alloc _).trans hb1); have hz := free_row (p := 2) HR1.out; have hcl : w1.cell? ⟨w.heap.size + 1, 2, none⟩ = some (.int .i64 0) := (by rw [cell_of_row _ _ _ _ _ _ HR1.out]; rfl); have HR2 := hide (row_set (p := 2) (v := .int .i64 x) HR1.out); have HR02 := hide (row_far (p := 2) (v := .int .i64 x) (c := w.heap.size + 1) HR0.out (by omega)); have HB2 : Hid (Bel w (w1.setCell ⟨w.heap.size + 1, 2, none⟩ (.int .i64 x))) := hide (Below.setCell HB1.out (show w.heap.size ≤ w.heap.size + 1 by omega) _); clear hb1) | (refine wpList_load_row rfl 25 _ rfl (w.heap.size + 1) rfl 25 (ec 2 false x ⟨#[]⟩ 0) (0, 0) _ HR2.out Tryz.underlying25 rfl info25 ?_) | (go_at_call 65; refine (HM.out _).mono ?_; rintro e' w2 ⟨rfl, hb2⟩; have HR3 := hide (hb2.row HR2.out); have HR03 := hide (hb2.row HR02.out); have HB3 := hide (HB2.out.trans hb2); clear hb2) | (refine wpList_load_row rfl 25 _ rfl (w.heap.size + 1) rfl 25 (ec 2 false x ⟨#[]⟩ 0) (0, 0) _ HR3.out Tryz.underlying25 rfl info25 ?_) | (refine wpList_store_row rfl 25 _ _ rfl w.heap.size (ec 2 false x ⟨#[]⟩ 0) rfl rfl 25 _ HR03.out info25 rfl (ec_one _ _ _ _ _) ?_))
  exact bodyPost_ret (res3_25 (cs := ec 2 false x ⟨#[]⟩ 0) rfl (setRow_heap _ _ _ _ _ _ HR03.out) info25 _ (.string rest) (.int .i64 0) rfl rfl rfl) rfl ⟨rfl, HB3.out.setRow (Nat.le_refl _) _⟩
theorem rread_2 (s : ByteArray) (h0 : 0 < s.size) (hk : s[0] = 2) (x : Int) (rest : ByteArray) (e : Int) (hc : ∀ W, Calls Tryz.prog 63 #[.string (s.extract 1 s.size)] W fun e' w' => e' = .returned (.tuple #[.int .i64 x, .string rest, .int .i64 e]) ∧ Bel W w') (hu : True) (w : World) :
    Calls Tryz.prog 32 #[.string s] w fun e' w' => e' = .returned (rv (fin 2 false x ⟨#[]⟩ 0 rest e)) ∧ Bel w w' := by
  by_cases he : e = 0
  · by_cases hm : mayV 2 false x ⟨#[]⟩ 0
    · rw [fin_ok he hm]; exact rread_2_ok s h0 hk x rest e hc he hu hm w
    · rw [fin_no he hm]; exact rread_2_no s h0 hk x rest e hc he hm w
  · rw [fin_bad he]; exact rread_2_bad s h0 hk x rest e hc (ne_beq he) w
set_option maxRecDepth 100000 in
theorem rread_3_bad (s : ByteArray) (h0 : 0 < s.size) (hk : s[0] = 3) (x : ByteArray) (rest : ByteArray) (e : Int) (hc : ∀ W, Calls Tryz.prog 64 #[.string (s.extract 1 s.size)] W fun e' w' => e' = .returned (.tuple #[.string x, .string rest, .int .i64 e]) ∧ Bel W w') (he : (e == 0) = false) (w : World) :
    Calls Tryz.prog 32 #[.string s] w fun e' w' => e' = .returned (rv ((0, false, 0, ⟨#[]⟩, 0), ⟨#[]⟩, e)) ∧ Bel w w' := by
  have hk1 : ((s[0]).toNat : Int) = 3 := byte_eq (n := 3) (by omega) hk
  have hne : s.toList.isEmpty = false := ba_nil_ne (by omega)
  have i1 : (1 : Int) ≤ (s.size : Int) := by omega
  have HC := hide hc
  clear hk hc
  go_enter Tryz.func32, Tryz.ntmps32
  go_wp2_with (first | (go_at_call 64; refine (HC.out _).mono ?_; rintro e' w1 ⟨rfl, hb1⟩; have HR0 := hide (hb1.row (two_first w _ _)); have HR1 := hide (hb1.row (two_second w _ _)); have HB1 := hide ((((Bel.refl w).alloc _).alloc _).trans hb1); have hz := free_row (p := 3) HR1.out; have hcl : w1.cell? ⟨w.heap.size + 1, 3, none⟩ = some (.string ⟨#[]⟩) := (by rw [cell_of_row _ _ _ _ _ _ HR1.out]; rfl); have HR2 := hide (row_set (p := 3) (v := .string x) HR1.out); have HR02 := hide (row_far (p := 3) (v := .string x) (c := w.heap.size + 1) HR0.out (by omega)); have HB2 : Hid (Bel w (w1.setCell ⟨w.heap.size + 1, 3, none⟩ (.string x))) := hide (Below.setCell HB1.out (show w.heap.size ≤ w.heap.size + 1 by omega) _); clear hb1) | (refine wpList_store_row rfl 25 _ _ rfl w.heap.size (ec 0 false 0 ⟨#[]⟩ 0) rfl rfl 25 _ HR02.out info25 rfl (ec_one _ _ _ _ _) ?_))
  exact bodyPost_ret (res3_25 (cs := ec 0 false 0 ⟨#[]⟩ 0) rfl (setRow_heap _ _ _ _ _ _ HR02.out) info25 _ (.string ⟨#[]⟩) (.int .i64 e) rfl rfl rfl) rfl ⟨rfl, HB2.out.setRow (Nat.le_refl _) _⟩
set_option maxRecDepth 100000 in
theorem rread_3_no (s : ByteArray) (h0 : 0 < s.size) (hk : s[0] = 3) (x : ByteArray) (rest : ByteArray) (e : Int) (hc : ∀ W, Calls Tryz.prog 64 #[.string (s.extract 1 s.size)] W fun e' w' => e' = .returned (.tuple #[.string x, .string rest, .int .i64 e]) ∧ Bel W w') (he : e = 0) (hm : ¬ mayV 3 false 0 x 0) (w : World) :
    Calls Tryz.prog 32 #[.string s] w fun e' w' => e' = .returned (rv ((0, false, 0, ⟨#[]⟩, 0), ⟨#[]⟩, 30)) ∧ Bel w w' := by
  subst he
  have HM := hide (fun W => rmay_no hm W)
  clear hm
  have hk1 : ((s[0]).toNat : Int) = 3 := byte_eq (n := 3) (by omega) hk
  have hne : s.toList.isEmpty = false := ba_nil_ne (by omega)
  have i1 : (1 : Int) ≤ (s.size : Int) := by omega
  have HC := hide hc
  clear hk hc
  go_enter Tryz.func32, Tryz.ntmps32
  go_wp2_with (first | (go_at_call 64; refine (HC.out _).mono ?_; rintro e' w1 ⟨rfl, hb1⟩; have HR0 := hide (hb1.row (two_first w _ _)); have HR1 := hide (hb1.row (two_second w _ _)); have HB1 := hide ((((Bel.refl w).alloc _).alloc _).trans hb1); have hz := free_row (p := 3) HR1.out; have hcl : w1.cell? ⟨w.heap.size + 1, 3, none⟩ = some (.string ⟨#[]⟩) := (by rw [cell_of_row _ _ _ _ _ _ HR1.out]; rfl); have HR2 := hide (row_set (p := 3) (v := .string x) HR1.out); have HR02 := hide (row_far (p := 3) (v := .string x) (c := w.heap.size + 1) HR0.out (by omega)); have HB2 : Hid (Bel w (w1.setCell ⟨w.heap.size + 1, 3, none⟩ (.string x))) := hide (Below.setCell HB1.out (show w.heap.size ≤ w.heap.size + 1 by omega) _); clear hb1) | (refine wpList_load_row rfl 25 _ rfl (w.heap.size + 1) rfl 25 (ec 3 false 0 x 0) (0, 0) _ HR2.out Tryz.underlying25 rfl info25 ?_) | (go_at_call 65; refine (HM.out _).mono ?_; rintro e' w2 ⟨rfl, hb2⟩; have HR3 := hide (hb2.row HR2.out); have HR03 := hide (hb2.row HR02.out); have HB3 := hide (HB2.out.trans hb2); clear hb2) | (refine wpList_store_row rfl 25 _ _ rfl w.heap.size (ec 0 false 0 ⟨#[]⟩ 0) rfl rfl 25 _ HR03.out info25 rfl (ec_one _ _ _ _ _) ?_))
  exact bodyPost_ret (res3_25 (cs := ec 0 false 0 ⟨#[]⟩ 0) rfl (setRow_heap _ _ _ _ _ _ HR03.out) info25 _ (.string ⟨#[]⟩) (.int .i64 30) rfl rfl rfl) rfl ⟨rfl, HB3.out.setRow (Nat.le_refl _) _⟩
set_option maxRecDepth 100000 in
theorem rread_3_ok (s : ByteArray) (h0 : 0 < s.size) (hk : s[0] = 3) (x : ByteArray) (rest : ByteArray) (e : Int) (hc : ∀ W, Calls Tryz.prog 64 #[.string (s.extract 1 s.size)] W fun e' w' => e' = .returned (.tuple #[.string x, .string rest, .int .i64 e]) ∧ Bel W w') (he : e = 0) (_hu : True) (hm : mayV 3 false 0 x 0) (w : World) :
    Calls Tryz.prog 32 #[.string s] w fun e' w' => e' = .returned (rv ((3, false, 0, x, 0), rest, 0)) ∧ Bel w w' := by
  subst he
  have HM := hide (fun W => rmay_yes hm (by omega) W)
  clear hm
  have hk1 : ((s[0]).toNat : Int) = 3 := byte_eq (n := 3) (by omega) hk
  have hne : s.toList.isEmpty = false := ba_nil_ne (by omega)
  have i1 : (1 : Int) ≤ (s.size : Int) := by omega
  have HC := hide hc
  clear hk hc
  go_enter Tryz.func32, Tryz.ntmps32
  go_wp2_with (first | (go_at_call 64; refine (HC.out _).mono ?_; rintro e' w1 ⟨rfl, hb1⟩; have HR0 := hide (hb1.row (two_first w _ _)); have HR1 := hide (hb1.row (two_second w _ _)); have HB1 := hide ((((Bel.refl w).alloc _).alloc _).trans hb1); have hz := free_row (p := 3) HR1.out; have hcl : w1.cell? ⟨w.heap.size + 1, 3, none⟩ = some (.string ⟨#[]⟩) := (by rw [cell_of_row _ _ _ _ _ _ HR1.out]; rfl); have HR2 := hide (row_set (p := 3) (v := .string x) HR1.out); have HR02 := hide (row_far (p := 3) (v := .string x) (c := w.heap.size + 1) HR0.out (by omega)); have HB2 : Hid (Bel w (w1.setCell ⟨w.heap.size + 1, 3, none⟩ (.string x))) := hide (Below.setCell HB1.out (show w.heap.size ≤ w.heap.size + 1 by omega) _); clear hb1) | (refine wpList_load_row rfl 25 _ rfl (w.heap.size + 1) rfl 25 (ec 3 false 0 x 0) (0, 0) _ HR2.out Tryz.underlying25 rfl info25 ?_) | (go_at_call 65; refine (HM.out _).mono ?_; rintro e' w2 ⟨rfl, hb2⟩; have HR3 := hide (hb2.row HR2.out); have HR03 := hide (hb2.row HR02.out); have HB3 := hide (HB2.out.trans hb2); clear hb2) | (refine wpList_load_row rfl 25 _ rfl (w.heap.size + 1) rfl 25 (ec 3 false 0 x 0) (0, 0) _ HR3.out Tryz.underlying25 rfl info25 ?_) | (refine wpList_store_row rfl 25 _ _ rfl w.heap.size (ec 3 false 0 x 0) rfl rfl 25 _ HR03.out info25 rfl (ec_one _ _ _ _ _) ?_))
  exact bodyPost_ret (res3_25 (cs := ec 3 false 0 x 0) rfl (setRow_heap _ _ _ _ _ _ HR03.out) info25 _ (.string rest) (.int .i64 0) rfl rfl rfl) rfl ⟨rfl, HB3.out.setRow (Nat.le_refl _) _⟩
theorem rread_3 (s : ByteArray) (h0 : 0 < s.size) (hk : s[0] = 3) (x : ByteArray) (rest : ByteArray) (e : Int) (hc : ∀ W, Calls Tryz.prog 64 #[.string (s.extract 1 s.size)] W fun e' w' => e' = .returned (.tuple #[.string x, .string rest, .int .i64 e]) ∧ Bel W w') (hu : True) (w : World) :
    Calls Tryz.prog 32 #[.string s] w fun e' w' => e' = .returned (rv (fin 3 false 0 x 0 rest e)) ∧ Bel w w' := by
  by_cases he : e = 0
  · by_cases hm : mayV 3 false 0 x 0
    · rw [fin_ok he hm]; exact rread_3_ok s h0 hk x rest e hc he hu hm w
    · rw [fin_no he hm]; exact rread_3_no s h0 hk x rest e hc he hm w
  · rw [fin_bad he]; exact rread_3_bad s h0 hk x rest e hc (ne_beq he) w
set_option maxRecDepth 100000 in
theorem rread_4_bad (s : ByteArray) (h0 : 0 < s.size) (hk : s[0] = 4) (x : Int) (rest : ByteArray) (e : Int) (hc : ∀ W, Calls Tryz.prog 30 #[.string (s.extract 1 s.size)] W fun e' w' => e' = .returned (.tuple #[.int .u64 x, .string rest, .int .i64 e]) ∧ Bel W w') (he : (e == 0) = false) (w : World) :
    Calls Tryz.prog 32 #[.string s] w fun e' w' => e' = .returned (rv ((0, false, 0, ⟨#[]⟩, 0), ⟨#[]⟩, e)) ∧ Bel w w' := by
  have hk1 : ((s[0]).toNat : Int) = 4 := byte_eq (n := 4) (by omega) hk
  have hne : s.toList.isEmpty = false := ba_nil_ne (by omega)
  have i1 : (1 : Int) ≤ (s.size : Int) := by omega
  have HC := hide hc
  clear hk hc
  go_enter Tryz.func32, Tryz.ntmps32
  go_wp2_with (first | (go_at_call 30; refine (HC.out _).mono ?_; rintro e' w1 ⟨rfl, hb1⟩; have HR0 := hide (hb1.row (two_first w _ _)); have HR1 := hide (hb1.row (two_second w _ _)); have HB1 := hide ((((Bel.refl w).alloc _).alloc _).trans hb1); have hz := free_row (p := 4) HR1.out; have hcl : w1.cell? ⟨w.heap.size + 1, 4, none⟩ = some (.int .u64 0) := (by rw [cell_of_row _ _ _ _ _ _ HR1.out]; rfl); have HR2 := hide (row_set (p := 4) (v := .int .u64 x) HR1.out); have HR02 := hide (row_far (p := 4) (v := .int .u64 x) (c := w.heap.size + 1) HR0.out (by omega)); have HB2 : Hid (Bel w (w1.setCell ⟨w.heap.size + 1, 4, none⟩ (.int .u64 x))) := hide (Below.setCell HB1.out (show w.heap.size ≤ w.heap.size + 1 by omega) _); clear hb1) | (refine wpList_store_row rfl 25 _ _ rfl w.heap.size (ec 0 false 0 ⟨#[]⟩ 0) rfl rfl 25 _ HR02.out info25 rfl (ec_one _ _ _ _ _) ?_))
  exact bodyPost_ret (res3_25 (cs := ec 0 false 0 ⟨#[]⟩ 0) rfl (setRow_heap _ _ _ _ _ _ HR02.out) info25 _ (.string ⟨#[]⟩) (.int .i64 e) rfl rfl rfl) rfl ⟨rfl, HB2.out.setRow (Nat.le_refl _) _⟩
set_option maxRecDepth 100000 in
theorem rread_4_no (s : ByteArray) (h0 : 0 < s.size) (hk : s[0] = 4) (x : Int) (rest : ByteArray) (e : Int) (hc : ∀ W, Calls Tryz.prog 30 #[.string (s.extract 1 s.size)] W fun e' w' => e' = .returned (.tuple #[.int .u64 x, .string rest, .int .i64 e]) ∧ Bel W w') (he : e = 0) (hm : ¬ mayV 4 false 0 ⟨#[]⟩ x) (w : World) :
    Calls Tryz.prog 32 #[.string s] w fun e' w' => e' = .returned (rv ((0, false, 0, ⟨#[]⟩, 0), ⟨#[]⟩, 30)) ∧ Bel w w' := by
  subst he
  have HM := hide (fun W => rmay_no hm W)
  clear hm
  have hk1 : ((s[0]).toNat : Int) = 4 := byte_eq (n := 4) (by omega) hk
  have hne : s.toList.isEmpty = false := ba_nil_ne (by omega)
  have i1 : (1 : Int) ≤ (s.size : Int) := by omega
  have HC := hide hc
  clear hk hc
  go_enter Tryz.func32, Tryz.ntmps32
  go_wp2_with (first | (go_at_call 30; refine (HC.out _).mono ?_; rintro e' w1 ⟨rfl, hb1⟩; have HR0 := hide (hb1.row (two_first w _ _)); have HR1 := hide (hb1.row (two_second w _ _)); have HB1 := hide ((((Bel.refl w).alloc _).alloc _).trans hb1); have hz := free_row (p := 4) HR1.out; have hcl : w1.cell? ⟨w.heap.size + 1, 4, none⟩ = some (.int .u64 0) := (by rw [cell_of_row _ _ _ _ _ _ HR1.out]; rfl); have HR2 := hide (row_set (p := 4) (v := .int .u64 x) HR1.out); have HR02 := hide (row_far (p := 4) (v := .int .u64 x) (c := w.heap.size + 1) HR0.out (by omega)); have HB2 : Hid (Bel w (w1.setCell ⟨w.heap.size + 1, 4, none⟩ (.int .u64 x))) := hide (Below.setCell HB1.out (show w.heap.size ≤ w.heap.size + 1 by omega) _); clear hb1) | (refine wpList_load_row rfl 25 _ rfl (w.heap.size + 1) rfl 25 (ec 4 false 0 ⟨#[]⟩ x) (0, 0) _ HR2.out Tryz.underlying25 rfl info25 ?_) | (go_at_call 65; refine (HM.out _).mono ?_; rintro e' w2 ⟨rfl, hb2⟩; have HR3 := hide (hb2.row HR2.out); have HR03 := hide (hb2.row HR02.out); have HB3 := hide (HB2.out.trans hb2); clear hb2) | (refine wpList_store_row rfl 25 _ _ rfl w.heap.size (ec 0 false 0 ⟨#[]⟩ 0) rfl rfl 25 _ HR03.out info25 rfl (ec_one _ _ _ _ _) ?_))
  exact bodyPost_ret (res3_25 (cs := ec 0 false 0 ⟨#[]⟩ 0) rfl (setRow_heap _ _ _ _ _ _ HR03.out) info25 _ (.string ⟨#[]⟩) (.int .i64 30) rfl rfl rfl) rfl ⟨rfl, HB3.out.setRow (Nat.le_refl _) _⟩
set_option maxRecDepth 100000 in
theorem rread_4_ok (s : ByteArray) (h0 : 0 < s.size) (hk : s[0] = 4) (x : Int) (rest : ByteArray) (e : Int) (hc : ∀ W, Calls Tryz.prog 30 #[.string (s.extract 1 s.size)] W fun e' w' => e' = .returned (.tuple #[.int .u64 x, .string rest, .int .i64 e]) ∧ Bel W w') (he : e = 0) (hu : 0 ≤ x) (hm : mayV 4 false 0 ⟨#[]⟩ x) (w : World) :
    Calls Tryz.prog 32 #[.string s] w fun e' w' => e' = .returned (rv ((4, false, 0, ⟨#[]⟩, x), rest, 0)) ∧ Bel w w' := by
  subst he
  have HM := hide (fun W => rmay_yes hm hu W)
  clear hm hu
  have hk1 : ((s[0]).toNat : Int) = 4 := byte_eq (n := 4) (by omega) hk
  have hne : s.toList.isEmpty = false := ba_nil_ne (by omega)
  have i1 : (1 : Int) ≤ (s.size : Int) := by omega
  have HC := hide hc
  clear hk hc
  go_enter Tryz.func32, Tryz.ntmps32
  go_wp2_with (first | (go_at_call 30; refine (HC.out _).mono ?_; rintro e' w1 ⟨rfl, hb1⟩; have HR0 := hide (hb1.row (two_first w _ _)); have HR1 := hide (hb1.row (two_second w _ _)); have HB1 := hide ((((Bel.refl w).alloc _).alloc _).trans hb1); have hz := free_row (p := 4) HR1.out; have hcl : w1.cell? ⟨w.heap.size + 1, 4, none⟩ = some (.int .u64 0) := (by rw [cell_of_row _ _ _ _ _ _ HR1.out]; rfl); have HR2 := hide (row_set (p := 4) (v := .int .u64 x) HR1.out); have HR02 := hide (row_far (p := 4) (v := .int .u64 x) (c := w.heap.size + 1) HR0.out (by omega)); have HB2 : Hid (Bel w (w1.setCell ⟨w.heap.size + 1, 4, none⟩ (.int .u64 x))) := hide (Below.setCell HB1.out (show w.heap.size ≤ w.heap.size + 1 by omega) _); clear hb1) | (refine wpList_load_row rfl 25 _ rfl (w.heap.size + 1) rfl 25 (ec 4 false 0 ⟨#[]⟩ x) (0, 0) _ HR2.out Tryz.underlying25 rfl info25 ?_) | (go_at_call 65; refine (HM.out _).mono ?_; rintro e' w2 ⟨rfl, hb2⟩; have HR3 := hide (hb2.row HR2.out); have HR03 := hide (hb2.row HR02.out); have HB3 := hide (HB2.out.trans hb2); clear hb2) | (refine wpList_load_row rfl 25 _ rfl (w.heap.size + 1) rfl 25 (ec 4 false 0 ⟨#[]⟩ x) (0, 0) _ HR3.out Tryz.underlying25 rfl info25 ?_) | (refine wpList_store_row rfl 25 _ _ rfl w.heap.size (ec 4 false 0 ⟨#[]⟩ x) rfl rfl 25 _ HR03.out info25 rfl (ec_one _ _ _ _ _) ?_))
  exact bodyPost_ret (res3_25 (cs := ec 4 false 0 ⟨#[]⟩ x) rfl (setRow_heap _ _ _ _ _ _ HR03.out) info25 _ (.string rest) (.int .i64 0) rfl rfl rfl) rfl ⟨rfl, HB3.out.setRow (Nat.le_refl _) _⟩
theorem rread_4 (s : ByteArray) (h0 : 0 < s.size) (hk : s[0] = 4) (x : Int) (rest : ByteArray) (e : Int) (hc : ∀ W, Calls Tryz.prog 30 #[.string (s.extract 1 s.size)] W fun e' w' => e' = .returned (.tuple #[.int .u64 x, .string rest, .int .i64 e]) ∧ Bel W w') (hu : 0 ≤ x) (w : World) :
    Calls Tryz.prog 32 #[.string s] w fun e' w' => e' = .returned (rv (fin 4 false 0 ⟨#[]⟩ x rest e)) ∧ Bel w w' := by
  by_cases he : e = 0
  · by_cases hm : mayV 4 false 0 ⟨#[]⟩ x
    · rw [fin_ok he hm]; exact rread_4_ok s h0 hk x rest e hc he hu hm w
    · rw [fin_no he hm]; exact rread_4_no s h0 hk x rest e hc he hm w
  · rw [fin_bad he]; exact rread_4_bad s h0 hk x rest e hc (ne_beq he) w
set_option maxRecDepth 100000 in
theorem rread_1_short (s : ByteArray) (h0 : 0 < s.size) (hk : s[0] = 1) (hs : (s.extract 1 s.size).size = 0) (w : World) :
    Calls Tryz.prog 32 #[.string s] w fun e' w' => e' = .returned (rv ((0, false, 0, ⟨#[]⟩, 0), ⟨#[]⟩, 20)) ∧ Bel w w' := by
  have hk1 : ((s[0]).toNat : Int) = 1 := byte_eq (n := 1) (by omega) hk
  have hne : s.toList.isEmpty = false := ba_nil_ne (by omega)
  have i1 : (1 : Int) ≤ (s.size : Int) := by omega
  have hr := ba_nil hs
  clear hk hs
  go_enter Tryz.func32, Tryz.ntmps32
  go_wp2_with fail
  exact bodyPost_ret (res3_25 (cs := ec 0 false 0 ⟨#[]⟩ 0) rfl (two_first w _ _) info25 _ (.string ⟨#[]⟩) (.int .i64 20) rfl rfl rfl) rfl ⟨rfl, ((Bel.refl _).alloc _).alloc _⟩
set_option maxRecDepth 100000 in
theorem rread_1_form (s r : ByteArray) (hr : s.extract 1 s.size = r) (h0 : 0 < s.size) (hk : s[0] = 1) (hs : 0 < r.size) (h1 : 1 < (r[0]).toNat) (w : World) :
    Calls Tryz.prog 32 #[.string s] w fun e' w' => e' = .returned (rv ((0, false, 0, ⟨#[]⟩, 0), ⟨#[]⟩, 21)) ∧ Bel w w' := by
  have hk1 : ((s[0]).toNat : Int) = 1 := byte_eq (n := 1) (by omega) hk
  have hne : s.toList.isEmpty = false := ba_nil_ne (by omega)
  have hne2 : r.toList.isEmpty = false := ba_nil_ne (by omega)
  have i1 : (1 : Int) ≤ (s.size : Int) := by omega
  have i2 : (1 : Int) < ((r[0]).toNat : Int) := by omega
  clear hk h1
  go_enter Tryz.func32, Tryz.ntmps32
  go_wp2_with fail
  exact bodyPost_ret (res3_25 (cs := ec 0 false 0 ⟨#[]⟩ 0) rfl (two_first w _ _) info25 _ (.string ⟨#[]⟩) (.int .i64 21) rfl rfl rfl) rfl ⟨rfl, ((Bel.refl _).alloc _).alloc _⟩
set_option maxRecDepth 100000 in
theorem rread_1_ok (s r : ByteArray) (hr : s.extract 1 s.size = r) (h0 : 0 < s.size) (hk : s[0] = 1) (hs : 0 < r.size) (h1 : ¬ 1 < (r[0]).toNat) (w : World) :
    Calls Tryz.prog 32 #[.string s] w fun e' w' => e' = .returned (rv ((1, decide ((r[0]).toNat = 1), 0, ⟨#[]⟩, 0), r.extract 1 r.size, 0)) ∧ Bel w w' := by
  have hk1 : ((s[0]).toNat : Int) = 1 := byte_eq (n := 1) (by omega) hk
  have hne : s.toList.isEmpty = false := ba_nil_ne (by omega)
  have hne2 : r.toList.isEmpty = false := ba_nil_ne (by omega)
  have i1 : (1 : Int) ≤ (s.size : Int) := by omega
  have i3 : (1 : Int) ≤ (r.size : Int) := by omega
  have i2 : ((r[0]).toNat : Int) ≤ 1 := by omega
  have hd : (((r[0]).toNat : Int) == 1) = decide ((r[0]).toNat = 1) := by
    by_cases hq : (r[0]).toNat = 1
    · rw [hq]; rfl
    · rw [decide_eq_false hq, beq_eq_false_iff_ne]; omega
  generalize decide ((r[0]).toNat = 1) = t at *
  have HM := hide (fun W => rmay_1 t W)
  unfold ev at HM
  clear hk h1
  go_enter Tryz.func32, Tryz.ntmps32
  go_wp2_with (first | (go_at_call 65; refine (HM.out _).mono ?_; rintro e' w2 ⟨rfl, hb2⟩; have HR3 := hide (hb2.row (two_second w _ _)); have HR03 := hide (hb2.row (two_first w _ _)); have HB3 := hide ((((Bel.refl w).alloc _).alloc _).trans hb2); clear hb2) | (refine wpList_load_row rfl 25 _ rfl (w.heap.size + 1) rfl 25 (ec 1 t 0 ⟨#[]⟩ 0) (0, 0) _ HR3.out Tryz.underlying25 rfl info25 ?_) | (refine wpList_store_row rfl 25 _ _ rfl w.heap.size (ec 1 t 0 ⟨#[]⟩ 0) rfl rfl 25 _ HR03.out info25 rfl (ec_one _ _ _ _ _) ?_))
  exact bodyPost_ret (res3_25 (cs := ec 1 t 0 ⟨#[]⟩ 0) rfl (setRow_heap _ _ _ _ _ _ HR03.out) info25 _ (.string (r.extract 1 r.size)) (.int .i64 0) rfl rfl rfl) rfl ⟨rfl, HB3.out.setRow (Nat.le_refl _) _⟩
set_option maxRecDepth 100000 in
theorem rread_none (s : ByteArray) (h0 : 0 < s.size) (n1 : s[0] ≠ 1) (n2 : s[0] ≠ 2) (n3 : s[0] ≠ 3) (n4 : s[0] ≠ 4) (w : World) :
    Calls Tryz.prog 32 #[.string s] w fun e' w' => e' = .returned (rv ((0, false, 0, ⟨#[]⟩, 0), ⟨#[]⟩, 30)) ∧ Bel w w' := by
  have k1 : (((s[0]).toNat : Int) == 1) = false := byte_ne (n := 1) (by omega) n1
  have k2 : (((s[0]).toNat : Int) == 2) = false := byte_ne (n := 2) (by omega) n2
  have k3 : (((s[0]).toNat : Int) == 3) = false := byte_ne (n := 3) (by omega) n3
  have k4 : (((s[0]).toNat : Int) == 4) = false := byte_ne (n := 4) (by omega) n4
  have hne : s.toList.isEmpty = false := ba_nil_ne (by omega)
  have i1 : (1 : Int) ≤ (s.size : Int) := by omega
  clear n1 n2 n3 n4
  go_enter Tryz.func32, Tryz.ntmps32
  go_wp2_with fail
  exact bodyPost_ret (res3_25 (cs := ec 0 false 0 ⟨#[]⟩ 0) rfl (two_first w _ _) info25 _ (.string ⟨#[]⟩) (.int .i64 30) rfl rfl rfl) rfl ⟨rfl, ((Bel.refl _).alloc _).alloc _⟩
set_option maxRecDepth 100000 in
theorem rread_empty (w : World) :
    Calls Tryz.prog 32 #[.string ⟨#[]⟩] w fun e' w' => e' = .returned (rv ((0, false, 0, ⟨#[]⟩, 0), ⟨#[]⟩, 20)) ∧ Bel w w' := by
  go_enter Tryz.func32, Tryz.ntmps32
  go_wp2_with fail
  exact bodyPost_ret (res3_25 (cs := ec 0 false 0 ⟨#[]⟩ 0) rfl (heap_alloc_new w _) info25 _ (.string ⟨#[]⟩) (.int .i64 20) rfl rfl rfl) rfl ⟨rfl, (Bel.refl _).alloc _⟩
theorem rread_any (s : ByteArray) (hm : s.size ≤ 150000000000000) (w : World) :
    Calls Tryz.prog 32 #[.string s] w fun e w' => e = .returned (rv (rVal s)) ∧ Bel w w' := by
  by_cases h0 : 0 < s.size
  · have hr : (s.extract 1 s.size).size ≤ 150000000000000 := by simp; omega
    unfold rVal
    rw [dif_pos h0]
    by_cases h1 : s[0] = 1
    · rw [if_pos h1]
      by_cases hs : 0 < (s.extract 1 s.size).size
      · by_cases h2 : 1 < ((s.extract 1 s.size)[0]).toNat
        · have e : rTru (s.extract 1 s.size) = (false, ⟨#[]⟩, 21) := by unfold rTru; rw [dif_pos hs, if_pos h2]
          rw [e, fin_bad (by decide)]
          exact rread_1_form s _ rfl h0 h1 hs h2 w
        · have e : rTru (s.extract 1 s.size) = (decide (((s.extract 1 s.size)[0]).toNat = 1), (s.extract 1 s.size).extract 1 (s.extract 1 s.size).size, 0) := by unfold rTru; rw [dif_pos hs, if_neg h2]
          rw [e, fin_ok rfl (Or.inl ⟨rfl, rfl, rfl, rfl⟩)]
          exact rread_1_ok s _ rfl h0 h1 hs h2 w
      · have e : rTru (s.extract 1 s.size) = (false, ⟨#[]⟩, 20) := by unfold rTru; rw [dif_neg hs]
        rw [e, fin_bad (by decide)]
        exact rread_1_short s h0 h1 (by omega) w
    by_cases h2 : s[0] = 2
    · rw [if_neg h1, if_pos h2]; exact rread_2 s h0 h2 _ _ _ (fun W => refReadInt_any _ hr W) trivial w
    by_cases h3 : s[0] = 3
    · rw [if_neg h1, if_neg h2, if_pos h3]; exact rread_3 s h0 h3 _ _ _ (fun W => refReadKey_any _ hr W) trivial w
    by_cases h4 : s[0] = 4
    · rw [if_neg h1, if_neg h2, if_neg h3, if_pos h4]; exact rread_4 s h0 h4 _ _ _ (fun W => refReadNum_any _ hr W) (by omega) w
    · rw [if_neg h1, if_neg h2, if_neg h3, if_neg h4]; exact rread_none s h0 h1 h2 h3 h4 w
  · unfold rVal
    rw [dif_neg h0, ba_nil (show s.size = 0 by omega)]
    exact rread_empty w
end Go.Proofs.YtgghcfmpfneehaaGreatDoor
