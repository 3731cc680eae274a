/- joined, behind, Copy, may. -/
import Derived.Test.YtkpallbnmckbaaaCnt
import Derived.StillTailTactics
namespace Go.Proofs.Ytkpallbnmckbaaa
open Go.RowKit
set_option maxRecDepth 100000 in
set_option maxHeartbeats 2000000 in
theorem joined_any {w : World} {lv rv : Option Nat} {l1 l2 : List C} (x : C) (h1 : Tree w lv l1) (h2 : Tree w rv l2) (hl : l1.length + l2.length ≤ 1000000) :
    Calls Try.prog 41 #[pt lv, vC x, pt rv] w fun e w' => ∃ b, e = .returned (pt (some b)) ∧ Bel w w' ∧ Tree w' (some b) (l1 ++ x :: l2) := by
  have hfu := Try.follows
  obtain ⟨k, t, d, v⟩ := x
  show Calls Try.prog 41 #[pt lv, .agg #[.string k, .int .u64 t, .bool d, .string v], pt rv] w _
  obtain ⟨W, hW⟩ : ∃ W, W = (w.alloc (.cells #[.string k, .int .u64 t, .bool d, .string v] 38)).drew := ⟨_, rfl⟩
  have hbW : Bel w W := by rw [hW]; exact ((Bel.refl w).alloc _).drew
  have hrow : W.heap[w.heap.size]? = some (.cells #[.string k, .int .u64 t, .bool d, .string v] 38) := by rw [hW]; exact at_new w _
  have c0 : W.cell? ⟨w.heap.size, 0, none⟩ = some (.string k) := cell_of hrow
  have c1 : W.cell? ⟨w.heap.size, 1, none⟩ = some (.int .u64 t) := cell_of hrow
  have c2 : W.cell? ⟨w.heap.size, 2, none⟩ = some (.bool d) := cell_of hrow
  have c3 : W.cell? ⟨w.heap.size, 3, none⟩ = some (.string v) := cell_of hrow
  have h38 := hide (count_any (h1.bel hbW))
  have h38' := hide (count_any (h2.bel hbW))
  have HFIN : Hid (∀ n : Nat, n = l1.length + 1 + l2.length → Tree (W.alloc (.cells #[.string k, .int .u64 t, .bool d, .string v, pt lv, pt rv, .int .i64 n] 69)) (some W.heap.size) (l1 ++ (k, t, d, v) :: l2)) := hide (fun n hn => Tree.mk (x := (k, t, d, v)) (at_new W _) (by rw [hn]; simp; omega) ((h1.bel hbW).bel ((Bel.refl _).alloc _)) ((h2.bel hbW).bel ((Bel.refl _).alloc _)))
  have HW := hide hW
  have HB := hide hbW
  generalize hn1 : l1.length = n1 at *
  generalize hn2 : l2.length = n2 at *
  unfold pt at *
  clear hW hrow h1 h2 hn1 hn2 hbW
  go_enter Try.func41, Try.ntmps41
  go_wp2_with fail
  refine wp_region_still_tail 10 hfu (by kernel_rfl) ?_
  change wpStill _ _ (World.drew _) (fun a' => wpList _ _ _ _ a' (World.drew _)) _ _
  simp only [List.take_succ_cons, List.take_zero, List.drop_succ_cons, List.drop_zero]
  rw [← unhide HW]
  repeat still_step
  still_call (unhide h38)
  repeat still_step
  still_call (unhide h38')
  repeat still_step
  refine wpStill_nil ?_
  go_wp2_with fail
  go_ret
  have := HFIN.out (n1 + 1 + n2) rfl
  refine ⟨W.heap.size, rfl, HB.out.trans ((Bel.refl _).alloc _), ?_⟩
  exact this
theorem behind_any (k : ByteArray) (w : World) : Calls Try.prog 32 #[.string k] w fun e w' => e = .returned (vC (k, 0, false, ⟨#[]⟩)) ∧ Bel w w' := by
  go_enter Try.func32, Try.ntmps32
  go_wp2_with fail
  refine bodyPost_ret (v := .agg #[.string k, .int .u64 0, .bool false, .string ⟨#[]⟩]) (by simp [results, Try.results32, go_sem]) rfl ⟨rfl, ?_⟩
  exact (Bel.refl _).alloc _
theorem copy_nil (w : World) : Calls Try.prog 23 #[.pointer none] w fun e w' => e = .returned (.pointer none) ∧ w' = w := by
  go_enter Try.func23, Try.ntmps23
  go_wp2_with (go_at_call 24; refine (gone_nil _).mono ?_; rintro e w1 ⟨rfl, rfl⟩)
  go_ret
  exact ⟨rfl, rfl⟩
theorem copy_any {w : World} {p : Nat} {v : Option Nat} (h : Cl w p v) : Calls Try.prog 23 #[.pointer (some ⟨p, 0, none⟩)] w fun e w' => e = .returned (.pointer (some ⟨w.heap.size, 0, none⟩)) ∧ w' = w.alloc (.cells #[.bool true, pt v] 57) := by
  have h1 : w.cell? ⟨p, 1, none⟩ = some (pt v) := cell_of h
  have C := hide (gone_any h)
  unfold pt at *
  clear h
  go_enter Try.func23, Try.ntmps23
  go_wp2_with (go_at_call 24; refine (C.out).mono ?_; rintro e w1 ⟨rfl, rfl⟩)
  go_ret
  exact ⟨rfl, rfl⟩
set_option maxRecDepth 100000 in
theorem may_any (x : C) (w : World) : Calls Try.prog 25 #[vC x] w fun e w' => e = .returned (.int .i64 (mayC x)) ∧ Bel w w' := by
  obtain ⟨k, t, d, v⟩ := x
  show Calls Try.prog 25 #[.agg #[.string k, .int .u64 t, .bool d, .string v]] w _
  have HB : Hid (Bel w (w.alloc (.cells #[.string k, .int .u64 t, .bool d, .string v] 38))) := hide ((Bel.refl w).alloc _)
  have HE : Hid (mayC (k, t, d, v) = if 8192 < k.size ∨ 65536 < v.size then 4 else if k.data.toList.isEmpty = true ∨ t = 0 ∨ (d = true ∧ v.data.toList.isEmpty = false) then 2 else 0) := hide rfl
  by_cases h1 : 8192 < k.size
  · have HE' : Hid (mayC (k, t, d, v) = 4) := hide (by rw [HE.out, if_pos (Or.inl h1)])
    have h1' : (8192 : Int) < (k.size : Int) := by omega
    go_enter Try.func25, Try.ntmps25
    go_wp2_with fail
    go_ret
    exact ⟨by rw [HE'.out]; rfl, HB.out⟩
  · by_cases h2 : 65536 < v.size
    · have HE' : Hid (mayC (k, t, d, v) = 4) := hide (by rw [HE.out, if_pos (Or.inr h2)])
      have h1' : ¬ (8192 : Int) < (k.size : Int) := by omega
      have h2' : (65536 : Int) < (v.size : Int) := by omega
      go_enter Try.func25, Try.ntmps25
      go_wp2_with fail
      go_ret
      exact ⟨by rw [HE'.out]; rfl, HB.out⟩
    · have HE1 : Hid (mayC (k, t, d, v) = if k.data.toList.isEmpty = true ∨ t = 0 ∨ (d = true ∧ v.data.toList.isEmpty = false) then 2 else 0) := hide (by rw [HE.out, if_neg (by omega)])
      have h1' : ¬ (8192 : Int) < (k.size : Int) := by omega
      have h2' : ¬ (65536 : Int) < (v.size : Int) := by omega
      clear HE h1 h2
      rcases hk : k.data.toList.isEmpty with _ | _
      · by_cases ht : t = 0
        · have HE' : Hid (mayC (k, t, d, v) = 2) := hide (by rw [HE1.out, if_pos (Or.inr (Or.inl ht))])
          subst ht
          have hk' : k.toList.isEmpty = false := by rw [Lib.toList_data]; exact hk
          go_enter Try.func25, Try.ntmps25
          go_wp2_with fail
          go_ret
          exact ⟨by rw [HE'.out]; rfl, HB.out⟩
        · have ht' : (t == 0) = false := by simpa using ht
          have hk' : k.toList.isEmpty = false := by rw [Lib.toList_data]; exact hk
          cases d with
          | false =>
            have HE' : Hid (mayC (k, t, false, v) = 0) := hide (by rw [HE1.out, if_neg (by simp [hk, ht])])
            clear hk ht
            go_enter Try.func25, Try.ntmps25
            go_wp2_with fail
            go_ret
            exact ⟨by rw [HE'.out]; rfl, HB.out⟩
          | true =>
            rcases hv : v.data.toList.isEmpty with _ | _
            · have HE' : Hid (mayC (k, t, true, v) = 2) := hide (by rw [HE1.out, if_pos (Or.inr (Or.inr ⟨rfl, hv⟩))])
              have hv' : v.toList.isEmpty = false := by rw [Lib.toList_data]; exact hv
              clear hk ht hv
              go_enter Try.func25, Try.ntmps25
              go_wp2_with fail
              go_ret
              exact ⟨by rw [HE'.out]; rfl, HB.out⟩
            · have HE' : Hid (mayC (k, t, true, v) = 0) := hide (by rw [HE1.out, if_neg (by simp [hk, ht, hv])])
              have hv' : v.toList.isEmpty = true := by rw [Lib.toList_data]; exact hv
              clear hk ht hv
              go_enter Try.func25, Try.ntmps25
              go_wp2_with fail
              go_ret
              exact ⟨by rw [HE'.out]; rfl, HB.out⟩
      · have HE' : Hid (mayC (k, t, d, v) = 2) := hide (by rw [HE1.out, if_pos (Or.inl hk)])
        have hk' : k.toList.isEmpty = true := by rw [Lib.toList_data]; exact hk
        clear hk
        go_enter Try.func25, Try.ntmps25
        go_wp2_with fail
        go_ret
        exact ⟨by rw [HE'.out]; rfl, HB.out⟩
end Go.Proofs.Ytkpallbnmckbaaa
