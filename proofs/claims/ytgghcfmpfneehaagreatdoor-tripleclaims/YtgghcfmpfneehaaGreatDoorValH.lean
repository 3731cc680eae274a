/- What the program's likely and ReadText return; for every text. -/
import Derived.Test.YtgghcfmpfneehaaGreatDoorValG
import Derived.Laws.CopyOwn
namespace Go.Proofs.YtgghcfmpfneehaaGreatDoor
open Go.RowKit
/-- The first byte's number; 0 of none. -/
def h0 (l : List UInt8) : Nat := match l with | [] => 0 | c :: _ => c.toNat
theorem h0_tf (b : Bool) : h0 (tf b) = 116 ∨ h0 (tf b) = 102 := by cases b <;> simp [tf, h0]
theorem h0_itoa (n : Int) : h0 (Lib.itoa n) = 45 ∨ (48 ≤ h0 (Lib.itoa n) ∧ h0 (Lib.itoa n) ≤ 57) := by
  unfold Lib.itoa
  split
  · exact Or.inl rfl
  · obtain ⟨c, r, h, h1, h2⟩ := dec_head n.toNat
    rw [h]; exact Or.inr ⟨h1, h2⟩
theorem itoa_no_x (n : Int) (r : List UInt8) : Lib.itoa n ≠ 48 :: 120 :: r := by
  intro h
  unfold Lib.itoa at h
  split at h
  · simp at h
  · have := dec_digit n.toNat 120 (by rw [h]; simp)
    simp at this
/-- v is the value whose literal l is, if there is one. -/
def okL (l : List UInt8) (k : Int) (b : Bool) (n : Int) (s : ByteArray) (u : Int) : Prop :=
  -9223372036854775808 ≤ n ∧ n < 9223372036854775808 ∧ 0 ≤ u ∧ u < 18446744073709551616 ∧ s.size ≤ l.length ∧
  ∀ k' b' n' s' u', mayV k' b' n' s' u' → -9223372036854775808 ≤ n' → n' < 9223372036854775808 → 0 ≤ u' → u' < 18446744073709551616 → ltr k' b' n' s' u' = l → k = k' ∧ b = b' ∧ n = n' ∧ s = s' ∧ u = u'
theorem okL_bool (l : List UInt8) (b : Bool) (hl : l = tf b) : okL l 1 b 0 ⟨#[]⟩ 0 := by
  refine ⟨by omega, by omega, by omega, by omega, Nat.zero_le _, ?_⟩
  intro k' b' n' s' u' hm _ _ _ _ he
  have hb := h0_tf b
  subst hl
  rcases hm with ⟨rfl, rfl, rfl, rfl⟩ | ⟨rfl, rfl, rfl, rfl⟩ | ⟨rfl, rfl, rfl, rfl, h⟩ | ⟨rfl, rfl, rfl, rfl, h⟩
  · refine ⟨rfl, ?_, rfl, rfl, rfl⟩
    simp only [ltr] at he
    cases b <;> cases b' <;> simp [tf] at he ⊢
  · have e : Lib.itoa n' = tf b := he
    have := h0_itoa n'; rw [e] at this; omega
  · have e : quo s'.data.toList = tf b := he
    rw [← e] at hb; simp [quo, h0] at hb
  · have e : 48 :: 120 :: hexL u'.toNat = tf b := he
    rw [← e] at hb; simp [h0] at hb
theorem okL_uid (l r : List UInt8) (x : Int) (hl : l = 48 :: 120 :: r) (hx : okR 18446744073709551615 r x) : okL l 4 false 0 ⟨#[]⟩ x := by
  refine ⟨by omega, by omega, hx.1, by have := hx.2.1; omega, Nat.zero_le _, ?_⟩
  intro k' b' n' s' u' hm _ _ hu0 hu1 he
  subst hl
  rcases hm with ⟨rfl, rfl, rfl, rfl⟩ | ⟨rfl, rfl, rfl, rfl⟩ | ⟨rfl, rfl, rfl, rfl, h⟩ | ⟨rfl, rfl, rfl, rfl, h⟩
  · have e : tf b' = 48 :: 120 :: r := he
    have := h0_tf b'; rw [e] at this; simp [h0] at this
  · exact absurd he (itoa_no_x n' r)
  · have e : quo s'.data.toList = 48 :: 120 :: r := he
    simp [quo] at e
  · have e : 48 :: 120 :: hexL u'.toNat = 48 :: 120 :: r := he
    injection e with _ e
    injection e with _ e
    refine ⟨rfl, rfl, rfl, rfl, ?_⟩
    subst e
    have := hx.2.2 (hexL_ne _) (hexL_hx _) (by rw [hexV_hexL]; omega)
    rw [this, hexV_hexL]; omega
theorem okL_text (l m out : List UInt8) (hl : l = 34 :: m) (hsz : out.length ≤ l.length) (ho : ∀ t, m.dropLast = escs t → out = t) : okL l 3 false 0 ⟨out.toArray⟩ 0 := by
  refine ⟨by omega, by omega, by omega, by omega, by show out.toArray.size ≤ _; simpa using hsz, ?_⟩
  intro k' b' n' s' u' hm _ _ hu0 hu1 he
  subst hl
  rcases hm with ⟨rfl, rfl, rfl, rfl⟩ | ⟨rfl, rfl, rfl, rfl⟩ | ⟨rfl, rfl, rfl, rfl, h⟩ | ⟨rfl, rfl, rfl, rfl, h⟩
  · have e : tf b' = 34 :: m := he
    have := h0_tf b'; rw [e] at this; simp [h0] at this
  · have e : Lib.itoa n' = 34 :: m := he
    have := h0_itoa n'; rw [e] at this; simp [h0] at this
  · have e : quo s'.data.toList = 34 :: m := he
    unfold quo at e
    injection e with _ e
    refine ⟨rfl, rfl, rfl, ?_, rfl⟩
    have := ho s'.data.toList (by rw [← e]; simp)
    subst this
    rfl
  · have e : 48 :: 120 :: hexL u'.toNat = 34 :: m := he
    simp at e
theorem okL_int (l : List UInt8) (v : Int) (v0 : -9223372036854775808 ≤ v) (v1 : v < 9223372036854775808) (n1 : ∀ b, l ≠ tf b) (n2 : ∀ r, l ≠ 48 :: 120 :: r) (n3 : ¬ (2 ≤ l.length ∧ h0 l = 34)) (hv : ∀ n : Int, -9223372036854775808 ≤ n → n < 9223372036854775808 → l = Lib.itoa n → v = n) : okL l 2 false v ⟨#[]⟩ 0 := by
  refine ⟨v0, v1, by omega, by omega, Nat.zero_le _, ?_⟩
  intro k' b' n' s' u' hm h1 h2 hu0 hu1 he
  rcases hm with ⟨rfl, rfl, rfl, rfl⟩ | ⟨rfl, rfl, rfl, rfl⟩ | ⟨rfl, rfl, rfl, rfl, h⟩ | ⟨rfl, rfl, rfl, rfl, h⟩
  · exact absurd he.symm (n1 b')
  · exact ⟨rfl, rfl, hv n' h1 h2 he.symm, rfl, rfl⟩
  · exfalso
    apply n3
    rw [← he]
    exact ⟨by simp [ltr, quo], rfl⟩
  · exact absurd he.symm (n2 _)
theorem info25 : (Tryz.prog.info? 25).map (·.size) = some 5 := by kernel_rfl
/-- A value's five cells. -/
def ec (k : Int) (b : Bool) (n : Int) (s : ByteArray) (u : Int) : Array Value := #[.int .u8 k, .bool b, .int .i64 n, .string s, .int .u64 u]
theorem Bel.setRow {a b : World} (h : Bel a b) {g : Nat} (hp : a.heap.size ≤ g) (cs : Array Value) : Bel a (b.setRow g cs) :=
  below_setRow h hp cs
theorem ec_one (k : Int) (b : Bool) (n : Int) (s : ByteArray) (u : Int) : (ec k b n s u).all (·.oneCell') = true := by simp [ec, Value.oneCell']
theorem res25 {w W : World} {k : Int} {b : Bool} {n : Int} {s : ByteArray} {u : Int} {old : Array Value} (h : W.heap[w.heap.size]? = some (.cells old 25)) (tmps : Array Value) (hp : tmps.getD 2 undef = .pointer (some ⟨w.heap.size, 0, none⟩)) :
    (results Tryz.f68 tmps).run Tryz.prog (W.setRow w.heap.size (ec k b n s u)) = .ok (ev k b n s u) (W.setRow w.heap.size (ec k b n s u)) :=
  results_cell_row (p := 2) (ty := 25) rfl _ _ w.heap.size 25 _ (0, 0) _ hp (setRow_heap _ _ _ _ _ _ h) Tryz.underlying25 rfl info25
theorem list_ne {s : ByteArray} {l : List UInt8} (h : s.data.toList ≠ l) : (s.toList == l) = false := by
  rw [ByteArray.toList_eq]; simpa using h
theorem prefix_no {s : ByteArray} (n2 : ∀ r, s.data.toList ≠ 48 :: 120 :: r) : Lib.hasPrefix s.data.toList [48, 120] = false := by
  unfold Lib.hasPrefix
  match h : s.data.toList with
  | [] => rfl
  | [a] => simp [List.isPrefixOf]
  | a :: b :: r =>
    have := n2 r
    rw [h] at this
    simp [List.isPrefixOf] at this ⊢
    intro ha hb
    exact this ha.symm hb.symm
set_option maxRecDepth 100000 in
theorem likely_int (s : ByteArray) (hm : s.size ≤ 150000000000000) (h2 : s.size < 2) (w : World) (hG : Gl w) (n1 : ∀ b, s.data.toList ≠ tf b) (n2 : ∀ r, s.data.toList ≠ 48 :: 120 :: r) :
    Calls Tryz.prog 68 #[.string s] w fun e w' => ∃ k b n t u, e = .returned (ev k b n t u) ∧ Bel w w' ∧ okL s.data.toList k b n t u := by
  have i2 : (s.size : Int) < 2 := by omega
  have e1 : (s.toList == [116, 114, 117, 101]) = false := list_ne (n1 true)
  have e2 : (s.toList == [102, 97, 108, 115, 101]) = false := list_ne (n1 false)
  have e3 := prefix_no n2
  have HI := hide (fun v v0 v1 hv => okL_int s.data.toList v v0 v1 n1 n2 (fun h => by have := h.1; rw [ba_len] at this; omega) hv)
  clear n1 n2
  go_enter Tryz.func68, Tryz.ntmps68
  go_wp2_with (first | (go_at_call 100; refine (Tryz.strings_HasPrefix _ _ _).mono ?_; rintro e w1 ⟨rfl, rfl⟩) | (go_at_call 103; refine (parseInt_any s hm _ (hG.next ((Bel.refl _).alloc _))).mono ?_; rintro e w' ⟨v, ve, rfl, hb, v0, v1, hv⟩; have HR := hide (hb.row (heap_alloc_new w _)); have HV := hide (HI.out v v0 v1 hv); clear v0 v1 hv) | (refine wpList_store_row rfl 25 _ _ rfl w.heap.size (ec 2 false v ⟨#[]⟩ 0) rfl rfl 25 _ HR.out info25 rfl (ec_one _ _ _ _ _) ?_))
  exact bodyPost_ret (res25 HR.out _ rfl) rfl ⟨_, _, _, _, _, rfl, (((Bel.refl _).alloc _).trans hb).setRow (Nat.le_refl _) _, HV.out⟩
set_option maxRecDepth 100000 in
theorem likely_int2 (s : ByteArray) (hm : s.size ≤ 150000000000000) (h2 : 2 ≤ s.size) (h34 : s[0] ≠ 34) (w : World) (hG : Gl w) (n1 : ∀ b, s.data.toList ≠ tf b) (n2 : ∀ r, s.data.toList ≠ 48 :: 120 :: r) :
    Calls Tryz.prog 68 #[.string s] w fun e w' => ∃ k b n t u, e = .returned (ev k b n t u) ∧ Bel w w' ∧ okL s.data.toList k b n t u := by
  have i2 : (2 : Int) ≤ (s.size : Int) := by omega
  have e1 : (s.toList == [116, 114, 117, 101]) = false := list_ne (n1 true)
  have e2 : (s.toList == [102, 97, 108, 115, 101]) = false := list_ne (n1 false)
  have e3 := prefix_no n2
  have e4 : (((s[0]).toNat : Int) == 34) = false := byte_ne (n := 34) (by omega) h34
  have HI := hide (fun v v0 v1 hv => okL_int s.data.toList v v0 v1 n1 n2 (fun h => by
    have h1 := h.2
    rw [list_two s h2] at h1
    exact h34 (UInt8.toNat_inj.1 h1)) hv)
  clear n1 n2 h34
  go_enter Tryz.func68, Tryz.ntmps68
  go_wp2_with (first | (go_at_call 100; refine (Tryz.strings_HasPrefix _ _ _).mono ?_; rintro e w1 ⟨rfl, rfl⟩) | (go_at_call 103; refine (parseInt_any s hm _ (hG.next ((Bel.refl _).alloc _))).mono ?_; rintro e w' ⟨v, ve, rfl, hb, v0, v1, hv⟩; have HR := hide (hb.row (heap_alloc_new w _)); have HV := hide (HI.out v v0 v1 hv); clear v0 v1 hv) | (refine wpList_store_row rfl 25 _ _ rfl w.heap.size (ec 2 false v ⟨#[]⟩ 0) rfl rfl 25 _ HR.out info25 rfl (ec_one _ _ _ _ _) ?_))
  exact bodyPost_ret (res25 HR.out _ rfl) rfl ⟨_, _, _, _, _, rfl, (((Bel.refl _).alloc _).trans hb).setRow (Nat.le_refl _) _, HV.out⟩
set_option maxRecDepth 100000 in
theorem likely_uid (s : ByteArray) (hm : s.size ≤ 150000000000000) (r : List UInt8) (hs : s.data.toList = 48 :: 120 :: r) (w : World) (hG : Gl w) :
    Calls Tryz.prog 68 #[.string s] w fun e w' => ∃ k b n t u, e = .returned (ev k b n t u) ∧ Bel w w' ∧ okL s.data.toList k b n t u := by
  have hl : 2 ≤ s.size := by rw [← ba_len, hs]; simp
  have i2 : (2 : Int) ≤ (s.size : Int) := by omega
  have e1 : (s.toList == [116, 114, 117, 101]) = false := list_ne (by rw [hs]; simp)
  have e2 : (s.toList == [102, 97, 108, 115, 101]) = false := list_ne (by rw [hs]; simp)
  have e3 : Lib.hasPrefix s.data.toList [48, 120] = true := by rw [hs]; simp [Lib.hasPrefix, List.isPrefixOf]
  have er : (s.extract 2 s.size).data.toList = r := by rw [ba_rest, hs]; rfl
  have HI := hide (fun x hx => okL_uid s.data.toList r x hs hx)
  have HC := hide (fun W hW => parseUint_pub 18446744073709551615 64 (s.extract 2 s.size) (by simp; omega) (fun W => parseUint_all64 _ (by simp; omega) W) W hW)
  rw [er] at HC
  clear hs er
  go_enter Tryz.func68, Tryz.ntmps68
  go_wp2_with (first | (go_at_call 100; refine (Tryz.strings_HasPrefix _ _ _).mono ?_; rintro e w1 ⟨rfl, rfl⟩) | (go_at_call 101; refine (HC.out _ (hG.next ((Bel.refl _).alloc _))).mono ?_; rintro e w' ⟨v, ve, rfl, hb, hv⟩; have HR := hide (hb.row (heap_alloc_new w _)); have HV := hide (HI.out v hv); clear hv) | (refine wpList_store_row rfl 25 _ _ rfl w.heap.size (ec 4 false 0 ⟨#[]⟩ v) rfl rfl 25 _ HR.out info25 rfl (ec_one _ _ _ _ _) ?_))
  exact bodyPost_ret (res25 HR.out _ rfl) rfl ⟨_, _, _, _, _, rfl, (((Bel.refl _).alloc _).trans hb).setRow (Nat.le_refl _) _, HV.out⟩
theorem drop_last (s : ByteArray) : (s.extract 1 (s.size - 1)).data.toList = (s.data.toList.drop 1).dropLast := by
  rw [ba_extract, List.dropLast_eq_take]
  simp
set_option maxRecDepth 100000 in
theorem likely_text (s : ByteArray) (hm : s.size ≤ 150000000000000) (h2 : 2 ≤ s.size) (h34 : s[0] = 34) (w : World) (hG : Gl w) :
    Calls Tryz.prog 68 #[.string s] w fun e w' => ∃ k b n t u, e = .returned (ev k b n t u) ∧ Bel w w' ∧ okL s.data.toList k b n t u := by
  have hs := list_two s h2
  rw [h34] at hs
  have i2 : (2 : Int) ≤ (s.size : Int) := by omega
  have e1 : (s.toList == [116, 114, 117, 101]) = false := list_ne (by rw [hs]; simp)
  have e2 : (s.toList == [102, 97, 108, 115, 101]) = false := list_ne (by rw [hs]; simp)
  have e3 := prefix_no (s := s) (by intro r; rw [hs]; simp)
  have e4 : ((s[0]).toNat : Int) = 34 := byte_eq (n := 34) (by omega) h34
  have hd1 := drop_cons s 0 (by omega)
  rw [List.drop_zero, h34] at hd1
  have HI : Hid (∀ out : List UInt8, out.length ≤ (s.extract 1 (s.size - 1)).size → (∀ t, (s.extract 1 (s.size - 1)).data.toList = escs t → out = t) → okL s.data.toList 3 false 0 ⟨out.toArray⟩ 0) := hide (fun out hl ho => okL_text s.data.toList (s.data.toList.drop 1) out hd1 (by simp at hl; rw [ba_len]; omega) (fun t ht => ho t (by rw [drop_last s]; exact ht)))
  have HC := hide (fun W hW => unquoted_any (s.extract 1 (s.size - 1)) (by simp; omega) W hW)
  have en : ((s.size : Int) - 1).toNat = s.size - 1 := by omega
  have f0 : IntKind.i64.wrap ((s.size : Int) - 1) = (s.size : Int) - 1 := by rw [IntKind.wrap_i64]; omega
  have f1 : (1 : Int) ≤ (s.size : Int) - 1 := by omega
  have f2 : (s.size : Int) - 1 ≤ (s.size : Int) := by omega
  clear hs hd1 h34
  go_enter Tryz.func68, Tryz.ntmps68
  go_wp2_with (first | (go_at_call 100; refine (Tryz.strings_HasPrefix _ _ _).mono ?_; rintro e w1 ⟨rfl, rfl⟩) | (go_at_call 102; refine (HC.out _ (hG.next ((Bel.refl _).alloc _))).mono ?_; rintro e w' ⟨v, rfl, hb, hv1, hv2⟩; have HR := hide (hb.row (heap_alloc_new w _)); have HV := hide (HI.out v hv1 hv2); clear hv1 hv2) | (refine wpList_store_row rfl 25 _ _ rfl w.heap.size (ec 3 false 0 ⟨v.toArray⟩ 0) rfl rfl 25 _ HR.out info25 rfl (ec_one _ _ _ _ _) ?_))
  exact bodyPost_ret (res25 HR.out _ rfl) rfl ⟨_, _, _, _, _, rfl, (((Bel.refl _).alloc _).trans hb).setRow (Nat.le_refl _) _, HV.out⟩
set_option maxRecDepth 100000 in
theorem likely_bool (b : Bool) (w : World) :
    Calls Tryz.prog 68 #[.string ⟨(tf b).toArray⟩] w fun e w' => ∃ k b' n t u, e = .returned (ev k b' n t u) ∧ Bel w w' ∧ okL (tf b) k b' n t u := by
  have HB := hide (okL_bool (tf b) b rfl)
  cases b
  · go_enter Tryz.func68, Tryz.ntmps68
    go_wp2_with fail
    exact bodyPost_ret (v := ev 1 false 0 ⟨#[]⟩ 0) (by simp [results, Tryz.results68, go_sem]; rfl) rfl ⟨_, _, _, _, _, rfl, (Bel.refl _).alloc _, HB.out⟩
  · go_enter Tryz.func68, Tryz.ntmps68
    go_wp2_with fail
    exact bodyPost_ret (v := ev 1 true 0 ⟨#[]⟩ 0) (by simp [results, Tryz.results68, go_sem]; rfl) rfl ⟨_, _, _, _, _, rfl, (Bel.refl _).alloc _, HB.out⟩
theorem likely_any (s : ByteArray) (hm : s.size ≤ 150000000000000) (w : World) (hG : Gl w) :
    Calls Tryz.prog 68 #[.string s] w fun e w' => ∃ k b n t u, e = .returned (ev k b n t u) ∧ Bel w w' ∧ okL s.data.toList k b n t u := by
  by_cases h1 : ∃ b, s.data.toList = tf b
  · obtain ⟨b, hb⟩ := h1
    have hs : s = ⟨(tf b).toArray⟩ := ba_ext hb
    rw [hs]
    exact likely_bool b w
  by_cases h2 : ∃ r, s.data.toList = 48 :: 120 :: r
  · obtain ⟨r, hr⟩ := h2
    exact likely_uid s hm r hr w hG
  have n1 : ∀ b, s.data.toList ≠ tf b := fun b h => h1 ⟨b, h⟩
  have n2 : ∀ r, s.data.toList ≠ 48 :: 120 :: r := fun r h => h2 ⟨r, h⟩
  by_cases h3 : 2 ≤ s.size
  · by_cases h34 : s[0] = 34
    · exact likely_text s hm h3 h34 w hG
    · exact likely_int2 s hm h3 h34 w hG n1 n2
  · exact likely_int s hm (by omega) w hG n1 n2
end Go.Proofs.YtgghcfmpfneehaaGreatDoor
