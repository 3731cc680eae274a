/- What the document's ReadText returns; for every text. -/
import Derived.Test.YtgghcfmpfneehaaGreatDoorValU
namespace Go.Proofs.YtgghcfmpfneehaaGreatDoor
open Go.RowKit
/-- The document's answer to the text l. -/
def okD (l : List UInt8) (k : Int) (b : Bool) (n : Int) (s : ByteArray) (u e : Int) : Prop :=
  (e = 0 ∧ mayV k b n s u ∧ inR n u ∧ ltr k b n s u = l) ∨
  (e = 30 ∧ k = 0 ∧ b = false ∧ n = 0 ∧ s = ⟨#[]⟩ ∧ u = 0 ∧ ∀ k' b' n' s' u', mayV k' b' n' s' u' → inR n' u' → ltr k' b' n' s' u' ≠ l)
theorem okD_bool {l : List UInt8} {b : Bool} (h : l = tf b) : okD l 1 b 0 ⟨#[]⟩ 0 0 := Or.inl ⟨rfl, Or.inl ⟨rfl, rfl, rfl, rfl⟩, ⟨by omega, by omega, by omega, by omega⟩, h.symm⟩
theorem okD_int {l : List UInt8} {x : Int} (h : okI l x true) : okD l 2 false x ⟨#[]⟩ 0 0 := Or.inl ⟨rfl, Or.inr (Or.inl ⟨rfl, rfl, rfl, rfl⟩), ⟨h.1, h.2.1, by omega, by omega⟩, h.2.2.1 rfl⟩
theorem okD_uid {l : List UInt8} {x : Int} (h : okUid l x) (h0 : 0 < x) : okD l 4 false 0 ⟨#[]⟩ x 0 := Or.inl ⟨rfl, Or.inr (Or.inr (Or.inr ⟨rfl, rfl, rfl, rfl, by omega⟩)), ⟨by omega, by omega, h.1, h.2.1⟩, h.2.2.1 h0⟩
theorem okD_text {l t : List UInt8} (h : okQ l t true) (hs : t.length ≤ 4096) : okD l 3 false 0 ⟨t.toArray⟩ 0 0 := Or.inl ⟨rfl, Or.inr (Or.inr (Or.inl ⟨rfl, rfl, rfl, rfl, by show t.toArray.size ≤ _; simpa using hs⟩)), ⟨by omega, by omega, by omega, by omega⟩, h.2.1 rfl⟩
theorem okD_none {l t : List UInt8} {x y : Int} {b : Bool} (n1 : ∀ b, l ≠ tf b) (hi : okI l x false) (hu : okUid l y) (h0 : ¬ 0 < y) (hq : okQ l t b) (hb : b = false ∨ 4096 < t.length) : okD l 0 false 0 ⟨#[]⟩ 0 30 := by
  refine Or.inr ⟨rfl, rfl, rfl, rfl, rfl, rfl, ?_⟩
  intro k' b' n' s' u' hm hr he
  rcases hm with ⟨rfl, rfl, rfl, rfl⟩ | ⟨rfl, rfl, rfl, rfl⟩ | ⟨rfl, rfl, rfl, rfl, h⟩ | ⟨rfl, rfl, rfl, rfl, h⟩
  · exact n1 b' he.symm
  · have := (hi.2.2.2 n' hr.1 hr.2.1 he).2
    cases this
  · obtain ⟨h1, h2⟩ := hq.2.2 s'.data.toList he
    rcases hb with hb | hb
    · rw [hb] at h2; cases h2
    · rw [h1, ba_len] at hb; omega
  · obtain ⟨m, rfl⟩ : ∃ m : Nat, u' = (m : Int) := ⟨u'.toNat, by have := hr.2.2.1; omega⟩
    have := hu.2.2.2 m (by omega) (by have := hr.2.2.2; omega) he
    omega
theorem two_f25 (w : World) (c : Array Value) (o : Obj) : ((w.alloc (.cells c 25)).alloc o).heap[w.heap.size]? = some (.cells c 25) :=
  Bel.row ((Bel.refl _).alloc o) (heap_alloc_new w _)
theorem two_s25 (w : World) (o : Obj) (c : Array Value) : ((w.alloc o).alloc (.cells c 25)).heap[w.heap.size + 1]? = some (.cells c 25) := by
  have h := heap_alloc_new (w.alloc o) (.cells c 25)
  rw [show (w.alloc o).heap.size = w.heap.size + 1 by simp] at h
  exact h
/-- An answer of the document's ReadText. -/
def docR (l : List UInt8) (w : World) (e : Ending) (w' : World) : Prop := ∃ k b n t u x, e = .returned (.tuple #[ev k b n t u, .int .i64 x]) ∧ Bel w w' ∧ okD l k b n t u x
theorem row_other2 {W : World} {g : Nat} {cs : Array Value} {k : Nat} {o : Obj} (h : k ≠ g) (hr : W.heap[k]? = some o) : (W.setRow g cs).heap[k]? = some o := by
  rw [← hr]; exact setRow_other W g k cs h
set_option maxHeartbeats 4000000 in
set_option maxRecDepth 100000 in
theorem readText_doc (s : ByteArray) (hm : s.size ≤ 150000000000000) (w : World) : Calls Tryz.prog 37 #[.string s] w fun e w' => docR s.data.toList w e w' := by
  go_enter Tryz.func37, Tryz.ntmps37
  go_wp2_with fail
  refine (integer_doc s hm _).mono ?_
  rintro e w1 ⟨x, ib, rfl, hb1, hI⟩
  have HI := hide hI
  have HB1 := hide hb1
  clear hI hb1
  go_wp2_with fail
  refine (readUid_doc s hm _).mono ?_
  rintro e w2 ⟨y, rfl, rfl, hU⟩
  have HU := hide hU
  clear hU
  go_wp2_with fail
  refine (unquoted_doc s hm _).mono ?_
  rintro e w3 ⟨t, qb, rfl, hb3, hQ⟩
  have HQ := hide hQ
  have HB3 := hide (HB1.out.trans hb3)
  have R1 := hide (HB3.out.row (two_f25 w _ _))
  have R2 := hide (HB3.out.row (two_s25 w _ _))
  have HB := hide ((((Bel.refl w).alloc _).alloc _).trans HB3.out)
  clear hQ hb3
  by_cases hT : ∃ b, s.data.toList = tf b
  · obtain ⟨b, hb⟩ := hT
    have HD := hide (okD_bool hb)
    have hs : s = ⟨(tf b).toArray⟩ := ba_ext hb
    have HM := hide (fun W => rmay_1 b W)
    have R3 := hide (setRow_heap w3 (w.heap.size + 1) _ (ec 1 b 0 ⟨#[]⟩ 0) 25 (0, 0) R2.out)
    have R4 := hide (row_other2 (g := w.heap.size + 1) (cs := ec 1 b 0 ⟨#[]⟩ 0) (k := w.heap.size) (by omega) R1.out)
    have HB4 := hide (HB.out.setRow (show w.heap.size ≤ w.heap.size + 1 by omega) (ec 1 b 0 ⟨#[]⟩ 0))
    unfold ev at HM
    cases b
    · have e1 : (s.toList == [116, 114, 117, 101]) = false := by rw [hs, ByteArray.toList_eq]; decide
      have e2 : (s.toList == [102, 97, 108, 115, 101]) = true := by rw [hs, ByteArray.toList_eq]; decide
      clear hs hb
      go_wp2_with (first | (refine wpList_store_row rfl 25 _ _ rfl (w.heap.size + 1) (ec 1 false 0 ⟨#[]⟩ 0) rfl rfl 25 _ R2.out info25 rfl (ec_one _ _ _ _ _) ?_) | (refine wpList_load_row rfl 25 _ rfl (w.heap.size + 1) rfl 25 (ec 1 false 0 ⟨#[]⟩ 0) (0, 0) _ R3.out Tryz.underlying25 rfl info25 ?_) | (go_at_call 65; refine (HM.out _).mono ?_; rintro e w5 ⟨rfl, hb5⟩; have R5 := hide (hb5.row R3.out); have R6 := hide (hb5.row R4.out); have HB6 := hide (HB4.out.trans hb5)) | (refine wpList_load_row rfl 25 _ rfl (w.heap.size + 1) rfl 25 (ec 1 false 0 ⟨#[]⟩ 0) (0, 0) _ R5.out Tryz.underlying25 rfl info25 ?_) | (refine wpList_store_row rfl 25 _ _ rfl w.heap.size (ec 1 false 0 ⟨#[]⟩ 0) rfl rfl 25 _ R6.out info25 rfl (ec_one _ _ _ _ _) ?_))
      exact bodyPost_ret (res2_25 (cs := ec 1 false 0 ⟨#[]⟩ 0) rfl (setRow_heap _ _ _ _ _ _ R6.out) info25 _ (.int .i64 0) rfl rfl) rfl ⟨1, false, 0, ⟨#[]⟩, 0, 0, rfl, HB6.out.setRow (Nat.le_refl _) _, HD.out⟩
    · have e1 : (s.toList == [116, 114, 117, 101]) = true := by rw [hs, ByteArray.toList_eq]; decide
      clear hs hb
      go_wp2_with (first | (refine wpList_store_row rfl 25 _ _ rfl (w.heap.size + 1) (ec 1 true 0 ⟨#[]⟩ 0) rfl rfl 25 _ R2.out info25 rfl (ec_one _ _ _ _ _) ?_) | (refine wpList_load_row rfl 25 _ rfl (w.heap.size + 1) rfl 25 (ec 1 true 0 ⟨#[]⟩ 0) (0, 0) _ R3.out Tryz.underlying25 rfl info25 ?_) | (go_at_call 65; refine (HM.out _).mono ?_; rintro e w5 ⟨rfl, hb5⟩; have R5 := hide (hb5.row R3.out); have R6 := hide (hb5.row R4.out); have HB6 := hide (HB4.out.trans hb5)) | (refine wpList_load_row rfl 25 _ rfl (w.heap.size + 1) rfl 25 (ec 1 true 0 ⟨#[]⟩ 0) (0, 0) _ R5.out Tryz.underlying25 rfl info25 ?_) | (refine wpList_store_row rfl 25 _ _ rfl w.heap.size (ec 1 true 0 ⟨#[]⟩ 0) rfl rfl 25 _ R6.out info25 rfl (ec_one _ _ _ _ _) ?_))
      exact bodyPost_ret (res2_25 (cs := ec 1 true 0 ⟨#[]⟩ 0) rfl (setRow_heap _ _ _ _ _ _ R6.out) info25 _ (.int .i64 0) rfl rfl) rfl ⟨1, true, 0, ⟨#[]⟩, 0, 0, rfl, HB6.out.setRow (Nat.le_refl _) _, HD.out⟩
  have n1 : ∀ b, s.data.toList ≠ tf b := fun b hb => hT ⟨b, hb⟩
  have e1 : (s.toList == [116, 114, 117, 101]) = false := list_ne (n1 true)
  have e2 : (s.toList == [102, 97, 108, 115, 101]) = false := list_ne (n1 false)
  have N1 := hide n1
  clear hT n1
  cases ib with
  | true =>
    have HD := hide (okD_int HI.out)
    have HM := hide (fun W => rmay_2 x W)
    have R3 := hide (setRow_heap w3 (w.heap.size + 1) _ (ec 2 false x ⟨#[]⟩ 0) 25 (0, 0) R2.out)
    have R4 := hide (row_other2 (g := w.heap.size + 1) (cs := ec 2 false x ⟨#[]⟩ 0) (k := w.heap.size) (by omega) R1.out)
    have HB4 := hide (HB.out.setRow (show w.heap.size ≤ w.heap.size + 1 by omega) (ec 2 false x ⟨#[]⟩ 0))
    unfold ev at HM
    go_wp2_with (first | (refine wpList_store_row rfl 25 _ _ rfl (w.heap.size + 1) (ec 2 false x ⟨#[]⟩ 0) rfl rfl 25 _ R2.out info25 rfl (ec_one _ _ _ _ _) ?_) | (refine wpList_load_row rfl 25 _ rfl (w.heap.size + 1) rfl 25 (ec 2 false x ⟨#[]⟩ 0) (0, 0) _ R3.out Tryz.underlying25 rfl info25 ?_) | (go_at_call 65; refine (HM.out _).mono ?_; rintro e w5 ⟨rfl, hb5⟩; have R5 := hide (hb5.row R3.out); have R6 := hide (hb5.row R4.out); have HB6 := hide (HB4.out.trans hb5)) | (refine wpList_load_row rfl 25 _ rfl (w.heap.size + 1) rfl 25 (ec 2 false x ⟨#[]⟩ 0) (0, 0) _ R5.out Tryz.underlying25 rfl info25 ?_) | (refine wpList_store_row rfl 25 _ _ rfl w.heap.size (ec 2 false x ⟨#[]⟩ 0) rfl rfl 25 _ R6.out info25 rfl (ec_one _ _ _ _ _) ?_))
    exact bodyPost_ret (res2_25 (cs := ec 2 false x ⟨#[]⟩ 0) rfl (setRow_heap _ _ _ _ _ _ R6.out) info25 _ (.int .i64 0) rfl rfl) rfl ⟨2, false, x, ⟨#[]⟩, 0, 0, rfl, HB6.out.setRow (Nat.le_refl _) _, HD.out⟩
  | false =>
    by_cases hy : 0 < y
    · have HD := hide (okD_uid HU.out hy)
      have HM := hide (fun W => rmay_4 y hy W)
      have R3 := hide (setRow_heap w3 (w.heap.size + 1) _ (ec 4 false 0 ⟨#[]⟩ y) 25 (0, 0) R2.out)
      have R4 := hide (row_other2 (g := w.heap.size + 1) (cs := ec 4 false 0 ⟨#[]⟩ y) (k := w.heap.size) (by omega) R1.out)
      have HB4 := hide (HB.out.setRow (show w.heap.size ≤ w.heap.size + 1 by omega) (ec 4 false 0 ⟨#[]⟩ y))
      unfold ev at HM
      go_wp2_with (first | (refine wpList_store_row rfl 25 _ _ rfl (w.heap.size + 1) (ec 4 false 0 ⟨#[]⟩ y) rfl rfl 25 _ R2.out info25 rfl (ec_one _ _ _ _ _) ?_) | (refine wpList_load_row rfl 25 _ rfl (w.heap.size + 1) rfl 25 (ec 4 false 0 ⟨#[]⟩ y) (0, 0) _ R3.out Tryz.underlying25 rfl info25 ?_) | (go_at_call 65; refine (HM.out _).mono ?_; rintro e w5 ⟨rfl, hb5⟩; have R5 := hide (hb5.row R3.out); have R6 := hide (hb5.row R4.out); have HB6 := hide (HB4.out.trans hb5)) | (refine wpList_load_row rfl 25 _ rfl (w.heap.size + 1) rfl 25 (ec 4 false 0 ⟨#[]⟩ y) (0, 0) _ R5.out Tryz.underlying25 rfl info25 ?_) | (refine wpList_store_row rfl 25 _ _ rfl w.heap.size (ec 4 false 0 ⟨#[]⟩ y) rfl rfl 25 _ R6.out info25 rfl (ec_one _ _ _ _ _) ?_))
      exact bodyPost_ret (res2_25 (cs := ec 4 false 0 ⟨#[]⟩ y) rfl (setRow_heap _ _ _ _ _ _ R6.out) info25 _ (.int .i64 0) rfl rfl) rfl ⟨4, false, 0, ⟨#[]⟩, y, 0, rfl, HB6.out.setRow (Nat.le_refl _) _, HD.out⟩
    · have y0 : y ≤ 0 := by omega
      cases qb with
      | true =>
        have R3 := hide (setRow_heap w3 (w.heap.size + 1) _ (ec 3 false 0 ⟨t.toArray⟩ 0) 25 (0, 0) R2.out)
        have R4 := hide (row_other2 (g := w.heap.size + 1) (cs := ec 3 false 0 ⟨t.toArray⟩ 0) (k := w.heap.size) (by omega) R1.out)
        have HB4 := hide (HB.out.setRow (show w.heap.size ≤ w.heap.size + 1 by omega) (ec 3 false 0 ⟨t.toArray⟩ 0))
        by_cases ht : t.length ≤ 4096
        · have HD := hide (okD_text HQ.out ht)
          have HM := hide (fun W => rmay_3 ⟨t.toArray⟩ (by show ((t.toArray.size : Nat) : Int) ≤ 4096; simp; omega) W)
          unfold ev at HM
          clear hy ht
          go_wp2_with (first | (refine wpList_store_row rfl 25 _ _ rfl (w.heap.size + 1) (ec 3 false 0 ⟨t.toArray⟩ 0) rfl rfl 25 _ R2.out info25 rfl (ec_one _ _ _ _ _) ?_) | (refine wpList_load_row rfl 25 _ rfl (w.heap.size + 1) rfl 25 (ec 3 false 0 ⟨t.toArray⟩ 0) (0, 0) _ R3.out Tryz.underlying25 rfl info25 ?_) | (go_at_call 65; refine (HM.out _).mono ?_; rintro e w5 ⟨rfl, hb5⟩; have R5 := hide (hb5.row R3.out); have R6 := hide (hb5.row R4.out); have HB6 := hide (HB4.out.trans hb5)) | (refine wpList_load_row rfl 25 _ rfl (w.heap.size + 1) rfl 25 (ec 3 false 0 ⟨t.toArray⟩ 0) (0, 0) _ R5.out Tryz.underlying25 rfl info25 ?_) | (refine wpList_store_row rfl 25 _ _ rfl w.heap.size (ec 3 false 0 ⟨t.toArray⟩ 0) rfl rfl 25 _ R6.out info25 rfl (ec_one _ _ _ _ _) ?_))
          exact bodyPost_ret (res2_25 (cs := ec 3 false 0 ⟨t.toArray⟩ 0) rfl (setRow_heap _ _ _ _ _ _ R6.out) info25 _ (.int .i64 0) rfl rfl) rfl ⟨3, false, 0, ⟨t.toArray⟩, 0, 0, rfl, HB6.out.setRow (Nat.le_refl _) _, HD.out⟩
        · have HD := hide (okD_none N1.out HI.out HU.out hy HQ.out (Or.inr (by omega)))
          have HM := hide (fun W => rmay_3l ⟨t.toArray⟩ (by show (4096 : Int) < ((t.toArray.size : Nat) : Int); simp; omega) W)
          unfold ev at HM
          clear hy ht
          go_wp2_with (first | (refine wpList_store_row rfl 25 _ _ rfl (w.heap.size + 1) (ec 3 false 0 ⟨t.toArray⟩ 0) rfl rfl 25 _ R2.out info25 rfl (ec_one _ _ _ _ _) ?_) | (refine wpList_load_row rfl 25 _ rfl (w.heap.size + 1) rfl 25 (ec 3 false 0 ⟨t.toArray⟩ 0) (0, 0) _ R3.out Tryz.underlying25 rfl info25 ?_) | (go_at_call 65; refine (HM.out _).mono ?_; rintro e w5 ⟨rfl, hb5⟩; have R6 := hide (hb5.row R4.out); have HB6 := hide (HB4.out.trans hb5)) | (refine wpList_store_row rfl 25 _ _ rfl w.heap.size (ec 0 false 0 ⟨#[]⟩ 0) rfl rfl 25 _ R6.out info25 rfl (ec_one _ _ _ _ _) ?_))
          exact bodyPost_ret (res2_25 (cs := ec 0 false 0 ⟨#[]⟩ 0) rfl (setRow_heap _ _ _ _ _ _ R6.out) info25 _ (.int .i64 30) rfl rfl) rfl ⟨0, false, 0, ⟨#[]⟩, 0, 30, rfl, HB6.out.setRow (Nat.le_refl _) _, HD.out⟩
      | false =>
        have HD := hide (okD_none N1.out HI.out HU.out hy HQ.out (Or.inl rfl))
        have HM := hide (fun W => rmay_0 0 false 0 ⟨#[]⟩ 0 rfl rfl rfl rfl W)
        unfold ev at HM
        clear hy
        go_wp2_with (first | (refine wpList_load_row rfl 25 _ rfl (w.heap.size + 1) rfl 25 (ec 0 false 0 ⟨#[]⟩ 0) (0, 0) _ R2.out Tryz.underlying25 rfl info25 ?_) | (go_at_call 65; refine (HM.out _).mono ?_; rintro e w5 ⟨rfl, hb5⟩; have R6 := hide (hb5.row R1.out); have HB6 := hide (HB.out.trans hb5)) | (refine wpList_store_row rfl 25 _ _ rfl w.heap.size (ec 0 false 0 ⟨#[]⟩ 0) rfl rfl 25 _ R6.out info25 rfl (ec_one _ _ _ _ _) ?_))
        exact bodyPost_ret (res2_25 (cs := ec 0 false 0 ⟨#[]⟩ 0) rfl (setRow_heap _ _ _ _ _ _ R6.out) info25 _ (.int .i64 30) rfl rfl) rfl ⟨0, false, 0, ⟨#[]⟩, 0, 30, rfl, HB6.out.setRow (Nat.le_refl _) _, HD.out⟩
/-- The program's answer is the document's. -/
theorem same_answer {l : List UInt8} {k : Int} {b : Bool} {n : Int} {s : ByteArray} {u e : Int} {k' : Int} {b' : Bool} {n' : Int} {s' : ByteArray} {u' e' : Int} (h : okT l k b n s u e) (h' : okD l k' b' n' s' u' e') : k = k' ∧ b = b' ∧ n = n' ∧ s = s' ∧ u = u' ∧ e = e' := by
  rcases h with ⟨rfl, hm, hr, hl, hq⟩ | ⟨rfl, rfl, rfl, rfl, rfl, rfl, hq⟩
  · rcases h' with ⟨rfl, hm', hr', hl'⟩ | ⟨rfl, rfl, rfl, rfl, rfl, rfl, hq'⟩
    · obtain ⟨h1, h2, h3, h4, h5⟩ := hq _ _ _ _ _ hm' hr' hl'
      exact ⟨h1, h2, h3, h4, h5, rfl⟩
    · exact absurd hl (hq' _ _ _ _ _ hm hr)
  · rcases h' with ⟨rfl, hm', hr', hl'⟩ | ⟨rfl, rfl, rfl, rfl, rfl, rfl, hq'⟩
    · exact absurd hl' (hq _ _ _ _ _ hm' hr')
    · exact ⟨rfl, rfl, rfl, rfl, rfl, rfl⟩
end Go.Proofs.YtgghcfmpfneehaaGreatDoor
