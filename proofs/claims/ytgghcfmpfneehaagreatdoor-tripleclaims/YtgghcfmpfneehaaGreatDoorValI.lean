/- What the program's ReadText returns; for every text. -/
import Derived.Test.YtgghcfmpfneehaaGreatDoorValH
namespace Go.Proofs.YtgghcfmpfneehaaGreatDoor
open Go.RowKit
/-- The numbers of a value lie in their kinds. -/
def inR (n u : Int) : Prop := -9223372036854775808 ≤ n ∧ n < 9223372036854775808 ∧ 0 ≤ u ∧ u < 18446744073709551616
/-- The answer to the text l: the one value whose literal l is; or, if there is none, the fault. -/
def okT (l : List UInt8) (k : Int) (b : Bool) (n : Int) (s : ByteArray) (u e : Int) : Prop :=
  (e = 0 ∧ mayV k b n s u ∧ inR n u ∧ ltr k b n s u = l ∧ ∀ k' b' n' s' u', mayV k' b' n' s' u' → inR n' u' → ltr k' b' n' s' u' = l → k = k' ∧ b = b' ∧ n = n' ∧ s = s' ∧ u = u') ∨
  (e = 30 ∧ k = 0 ∧ b = false ∧ n = 0 ∧ s = ⟨#[]⟩ ∧ u = 0 ∧ ∀ k' b' n' s' u', mayV k' b' n' s' u' → inR n' u' → ltr k' b' n' s' u' ≠ l)
theorem okL.uniq {l : List UInt8} {k : Int} {b : Bool} {n : Int} {s : ByteArray} {u : Int} (h : okL l k b n s u) : ∀ k' b' n' s' u', mayV k' b' n' s' u' → inR n' u' → ltr k' b' n' s' u' = l → k = k' ∧ b = b' ∧ n = n' ∧ s = s' ∧ u = u' :=
  fun k' b' n' s' u' h1 h2 h3 => h.2.2.2.2.2 k' b' n' s' u' h1 h2.1 h2.2.1 h2.2.2.1 h2.2.2.2 h3
theorem okL.inR {l : List UInt8} {k : Int} {b : Bool} {n : Int} {s : ByteArray} {u : Int} (h : okL l k b n s u) : inR n u := ⟨h.1, h.2.1, h.2.2.1, h.2.2.2.1⟩
theorem okT_no {l : List UInt8} {k : Int} {b : Bool} {n : Int} {s : ByteArray} {u : Int} (h : okL l k b n s u) (hn : ¬ (mayV k b n s u ∧ ltr k b n s u = l)) : okT l 0 false 0 ⟨#[]⟩ 0 30 := by
  refine Or.inr ⟨rfl, rfl, rfl, rfl, rfl, rfl, ?_⟩
  intro k' b' n' s' u' h1 h2 h3
  obtain ⟨rfl, rfl, rfl, rfl, rfl⟩ := h.uniq k' b' n' s' u' h1 h2 h3
  exact hn ⟨h1, h3⟩
theorem res2_25 {fn : Func} (hr : fn.results = #[.cell 2 25, .tmp 3]) {W : World} {B : Nat} {cs : Array Value} (hg : W.heap[B]? = some (.cells cs 25)) (hs : (Tryz.prog.info? 25).map (·.size) = some cs.size) (tmps : Array Value) (x : Value) (hp : tmps.getD 2 undef = .pointer (some ⟨B, 0, none⟩)) (hx : tmps.getD 3 undef = x) :
    (results fn tmps).run Tryz.prog W = .ok (.tuple #[.agg cs, x]) W := by
  have hp' : tmps[2]?.getD undef = .pointer (some ⟨B, 0, none⟩) := by simpa using hp
  have hx' : tmps[3]?.getD undef = x := by simpa using hx
  simp [results, hr, hp', hx', asAddr, run_loadVar_row W B 25 25 cs (0, 0) _ hg Tryz.underlying25 rfl hs]
set_option maxHeartbeats 1000000 in
set_option maxRecDepth 100000 in
theorem readText_any (s : ByteArray) (hm : s.size ≤ 150000000000000) (w : World) (hG : Gl w) :
    Calls Tryz.prog 35 #[.string s] w fun e w' => ∃ k b n t u x, e = .returned (.tuple #[ev k b n t u, .int .i64 x]) ∧ Bel w w' ∧ okT s.data.toList k b n t u x := by
  have HG := hide hG
  clear hG
  go_enter Tryz.func35, Tryz.ntmps35
  go_wp2_with fail
  refine (likely_any s hm _ (HG.out.next ((Bel.refl _).alloc _))).mono ?_
  rintro e w1 ⟨k, b, n, t, u, rfl, hb1, hL⟩
  have HL := hide hL
  have HR1 := hide (hb1.row (heap_alloc_new w _))
  have HB1 := hide (((Bel.refl w).alloc _).trans hb1)
  clear hL hb1
  by_cases hmay : mayV k b n t u
  · have HM := hide hmay
    have HC := hide (fun W hW => text_yes hmay HL.out.inR.1 HL.out.inR.2.1 HL.out.inR.2.2.1 HL.out.inR.2.2.2 W hW)
    clear hmay
    unfold ev at HC ⊢
    go_wp2_with fail
    refine (HC.out _ (HG.out.next (HB1.out.trans ((Bel.refl _).alloc _)))).mono ?_
    rintro e w2 ⟨rfl, hb2⟩
    have HR2 := hide (hb2.row (heap_alloc_new w1 _))
    have HR3 := hide ((((Bel.refl _).alloc _).trans hb2).row HR1.out)
    have HB2 := hide (HB1.out.trans (((Bel.refl _).alloc _).trans hb2))
    clear hb2
    by_cases heq : ltr k b n t u = s.data.toList
    · have HT := hide (show okT s.data.toList k b n t u 0 from Or.inl ⟨rfl, HM.out, HL.out.inR, heq, HL.out.uniq⟩)
      have hs : (⟨(ltr k b n t u).toArray⟩ : ByteArray) = s := ba_ext heq
      rw [hs]
      clear heq hs
      go_wp2_with (first | (refine wpList_load_row rfl 25 _ rfl w1.heap.size rfl 25 (ec k b n t u) (0, 0) _ HR2.out Tryz.underlying25 rfl info25 ?_) | (refine wpList_store_row rfl 25 _ _ rfl w.heap.size (ec k b n t u) rfl rfl 25 _ HR3.out info25 rfl (ec_one _ _ _ _ _) ?_))
      exact bodyPost_ret (res2_25 (cs := ec k b n t u) rfl (setRow_heap _ _ _ _ _ _ HR3.out) info25 _ (.int .i64 0) rfl rfl) rfl ⟨k, b, n, t, u, 0, rfl, HB2.out.setRow (Nat.le_refl _) _, HT.out⟩
    · have HT := hide (okT_no HL.out (fun h => heq h.2))
      have hq : ((⟨(ltr k b n t u).toArray⟩ : ByteArray).toList == s.toList) = false := by
        rw [ByteArray.toList_eq, ByteArray.toList_eq]; simpa using heq
      have hq2 : (ltr k b n t u == s.toList) = false := by
        rw [ByteArray.toList_eq]; simpa using heq
      clear heq
      go_wp2_with (refine wpList_store_row rfl 25 _ _ rfl w.heap.size (ec 0 false 0 ⟨#[]⟩ 0) rfl rfl 25 _ HR3.out info25 rfl (ec_one _ _ _ _ _) ?_)
      exact bodyPost_ret (res2_25 (cs := ec 0 false 0 ⟨#[]⟩ 0) rfl (setRow_heap _ _ _ _ _ _ HR3.out) info25 _ (.int .i64 30) rfl rfl) rfl ⟨0, false, 0, ⟨#[]⟩, 0, 30, rfl, HB2.out.setRow (Nat.le_refl _) _, HT.out⟩
  · have HT := hide (okT_no HL.out (fun h => hmay h.1))
    have HC := hide (fun W => text_no hmay W)
    clear hmay
    unfold ev at HC ⊢
    go_wp2_with fail
    refine (HC.out _).mono ?_
    rintro e w2 ⟨rfl, hb2⟩
    have HR3 := hide ((((Bel.refl _).alloc _).trans hb2).row HR1.out)
    have HB2 := hide (HB1.out.trans (((Bel.refl _).alloc _).trans hb2))
    clear hb2
    go_wp2_with (refine wpList_store_row rfl 25 _ _ rfl w.heap.size (ec 0 false 0 ⟨#[]⟩ 0) rfl rfl 25 _ HR3.out info25 rfl (ec_one _ _ _ _ _) ?_)
    exact bodyPost_ret (res2_25 (cs := ec 0 false 0 ⟨#[]⟩ 0) rfl (setRow_heap _ _ _ _ _ _ HR3.out) info25 _ (.int .i64 30) rfl rfl) rfl ⟨0, false, 0, ⟨#[]⟩, 0, 30, rfl, HB2.out.setRow (Nat.le_refl _) _, HT.out⟩
end Go.Proofs.YtgghcfmpfneehaaGreatDoor
