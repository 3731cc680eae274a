/- A disk that is not there: what its methods answer. -/
import Derived.Test.YtgimciacapfbfaaGreatDoorAli
namespace Go.Proofs.YtgimciacapfbfaaGreatDoor
open Go.RowKit Go.Maps Go.WideMaps
theorem find_row {w w1 : World} {v : Value} {n : Nat} {xs : List Value} {o1 : Array Value} {o2 : Obj} (hv : w.ownsRow 0 9 1 v n xs) (hgrow : ((w.alloc (.cells o1 70)).alloc o2).grownBy w1 v.ownBlock) : w1.heap[w.heap.size]? = some (.cells o1 70) ∧ Ch (fun i => v.ownBlock = some i) w w1 := by
  refine ⟨?_, (((Ch.refl _ w).alloc _).alloc _).grown hgrow (fun i hi => Or.inl hi)⟩
  rw [hgrow.block w.heap.size (by simp; omega) (fun e => by have := (hv.lt _ e.symm).2; omega)]
  exact ((Bel.refl _).alloc _).row (at_new w _)
theorem one_row {W : World} {g : Nat} {m : List UInt8} (h : W.heap[g]? = some (.cells #[.string ⟨m.toArray⟩] 9)) : W.ownsRow 0 9 1 (.slice (some ⟨g, 0, none⟩) 1 1) [m].length ([m].map fun x => .string ⟨x.toArray⟩) :=
  ⟨rfl, Or.inr ⟨g, 1, _, rfl, Nat.zero_le _, h, Nat.le_refl _, by decide, rfl, rfl⟩⟩
theorem at_new3 (w : World) (o o' o'' : Obj) : (((w.alloc o).alloc o').alloc o'').heap[w.heap.size + 1 + 1]? = some o'' := by
  have := at_new2 (w.alloc o) o' o''
  have e : (w.alloc o).heap.size = w.heap.size + 1 := by simp
  rw [e] at this
  exact this
theorem fresh_ch {M : Nat → Prop} {w W W' : World} (h : Bel w W) (c : Ch M W W') (hm : ∀ i, M i → w.heap.size ≤ i) : Bel w W' := Below.trans h (c.below h.size hm)
set_option maxRecDepth 100000 in
set_option maxHeartbeats 1000000 in
theorem find_nil (n : List UInt8) (v : Value) (os : List (List UInt8)) (w : World) (hv : w.ownsRow 0 9 1 v os.length (os.map fun x => .string ⟨x.toArray⟩)) (hol : os.length ≤ 100) :
    Calls Tryz.prog 44 #[.pointer none, .string ⟨n.toArray⟩, v] w fun e w' => e = .returned (.tuple #[.agg #[.string ⟨#[]⟩], .int .i64 1]) ∧ Ch (fun i => v.ownBlock = some i) w w' := by
  obtain ⟨i0, hi, hz0, hz1, hz2⟩ := Tryz.i9
  have HV := hide hv
  clear hv
  go_enter Tryz.func44, Tryz.ntmps44
  go_wp2_with (first
    | (at_builtin; refine wpList_append_lies _ rfl _ _ 22 rfl 0 9 i0 (.string ⟨#[]⟩) 1 16 Tryz.underlying22 hi hz0 hz1 hz2 rfl (by decide) v os.length _ rfl ((HV.out.alloc _).alloc _) ⟨w.heap.size + 1, 0, none⟩ 1 1 [.string ⟨n.toArray⟩] rfl rfl (World.news_of_block (at_new2 w _ _)) (by simp [Value.oneCell']) (by decide) (by unfold maxLen; omega) (by omega) (Nat.zero_le _) (w.heap.size + 2) (by simp) ?_; intro g cap w1 hown hgrow hat hlt; have hb := hide (find_row (unhide HV) hgrow); have c1 : w1.cell? ⟨w.heap.size, 0, none⟩ = some (.string ⟨#[]⟩) := cell_of (unhide hb).1; have f1 := free_row (p := 0) (unhide hb).1)
    | (go_at_call 29; refine (fault_nil _ _).mono ?_; rintro e w2 ⟨rfl, rfl⟩)
    | go_in)
  refine ret69 (g := w.heap.size) (b := []) rfl rfl rfl (row_set (unhide hb).1) ⟨rfl, (unhide hb).2.set (Or.inr (Nat.le_refl _)) _⟩
set_option maxRecDepth 100000 in
theorem read_nil (n : List UInt8) (w : World) : Calls Tryz.prog 21 #[.pointer none, .string ⟨n.toArray⟩] w fun e w' => e = .returned (.tuple #[.string ⟨#[]⟩, .int .i64 1]) ∧ Bel w w' := by
  have hf := hide (find_nil n (.slice none 0 0) [] w (World.ownsRow_nil _ _ _ _) (by simp))
  go_enter Tryz.func21, Tryz.ntmps21
  go_wp2_with (go_at_call 44; refine (unhide hf).mono ?_; rintro e w1 ⟨rfl, hc⟩)
  go_ret2
  exact ⟨rfl, hc.nil.alloc _⟩
set_option maxRecDepth 100000 in
theorem app_nil (n t : List UInt8) (w : World) : Calls Tryz.prog 52 #[.pointer none, .string ⟨n.toArray⟩, .string ⟨t.toArray⟩] w fun e w' => e = .returned (.int .i64 1) ∧ Bel w w' := by
  go_enter Tryz.func52, Tryz.ntmps52
  go_wp2_with (go_at_call 29; refine (fault_nil _ _).mono ?_; rintro e w2 ⟨rfl, rfl⟩)
  go_ret
  exact ⟨rfl, ((Bel.refl w).alloc _).alloc _⟩
set_option maxRecDepth 100000 in
theorem tr_nil (n : List UInt8) (k : Int) (w : World) : Calls Tryz.prog 40 #[.pointer none, .string ⟨n.toArray⟩, .int .i64 k] w fun e w' => e = .returned (.int .i64 1) ∧ Bel w w' := by
  have hf := hide (fun W => find_nil n (.slice none 0 0) [] W (World.ownsRow_nil _ _ _ _) (by simp))
  go_enter Tryz.func40, Tryz.ntmps40
  go_wp2_with (go_at_call 44; refine ((unhide hf) _).mono ?_; rintro e w1 ⟨rfl, hc⟩)
  go_ret
  exact ⟨rfl, ((((Bel.refl w).alloc _).alloc _).trans hc.nil).alloc _⟩
set_option maxRecDepth 100000 in
theorem rm_nil (n : List UInt8) (w : World) : Calls Tryz.prog 36 #[.pointer none, .string ⟨n.toArray⟩] w fun e w' => e = .returned (.int .i64 1) ∧ Bel w w' := by
  have hf := hide (fun W => find_nil n (.slice none 0 0) [] W (World.ownsRow_nil _ _ _ _) (by simp))
  go_enter Tryz.func36, Tryz.ntmps36
  go_wp2_with (go_at_call 44; refine ((unhide hf) _).mono ?_; rintro e w1 ⟨rfl, hc⟩)
  go_ret
  exact ⟨rfl, (((Bel.refl w).alloc _).trans hc.nil).alloc _⟩
set_option maxRecDepth 100000 in
theorem sync_nil (w : World) : Calls Tryz.prog 28 #[.pointer none] w fun e w' => e = .returned (.int .i64 1) ∧ Bel w w' := by
  go_enter Tryz.func28, Tryz.ntmps28
  go_wp2_with (go_at_call 29; refine (fault_nil _ _).mono ?_; rintro e w2 ⟨rfl, rfl⟩)
  go_ret
  exact ⟨rfl, Bel.refl _⟩
set_option maxRecDepth 100000 in
theorem crash_nil (k t : Int) (w : World) : Calls Tryz.prog 10 #[.pointer none, .int .i64 k, .int .i64 t] w fun e w' => e = .returned (.int .i64 1) ∧ Bel w w' := by
  go_enter Tryz.func10, Tryz.ntmps10
  go_wp2_with (go_at_call 29; refine (fault_nil _ _).mono ?_; rintro e w2 ⟨rfl, rfl⟩)
  go_ret
  exact ⟨rfl, Bel.refl _⟩
set_option maxRecDepth 100000 in
theorem names_nil (w : World) : Calls Tryz.prog 61 #[.pointer none] w fun e w' => e = .returned (.slice none 0 0) ∧ Bel w w' := by
  go_enter Tryz.func61, Tryz.ntmps61
  go_wp2_with (go_at_call 29; refine (fault_nil _ _).mono ?_; rintro e w2 ⟨rfl, rfl⟩)
  go_ret
  exact ⟨rfl, Bel.refl _⟩
set_option maxRecDepth 100000 in
theorem loose_nil (w : World) : Calls Tryz.prog 11 #[.pointer none] w fun e w' => e = .returned (.int .i64 0) ∧ Bel w w' := by
  go_enter Tryz.func11, Tryz.ntmps11
  go_wp2_with (go_at_call 29; refine (fault_nil _ _).mono ?_; rintro e w2 ⟨rfl, rfl⟩)
  go_ret
  exact ⟨rfl, Bel.refl _⟩
set_option maxRecDepth 100000 in
theorem copy_nil (w : World) : Calls Tryz.prog 15 #[.pointer none] w fun e w' => e = .returned (.pointer none) ∧ Bel w w' := by
  go_enter Tryz.func15, Tryz.ntmps15
  go_wp2_with (go_at_call 29; refine (fault_nil _ _).mono ?_; rintro e w2 ⟨rfl, rfl⟩)
  go_ret
  exact ⟨rfl, Bel.refl _⟩
theorem calls_by {P : Program} {f : FuncId} {args : Array Value} {w : World} {p : BelBy w} {v : Value}
    (h : Calls P f args p.W fun e w' => e = .returned v ∧ Bel p.W w') : Calls P f args p.W fun e w'' => e = .returned v ∧ ∃ p' : BelBy w, w'' = p'.W :=
  h.mono fun _ w' ⟨he, hb⟩ => ⟨he, ⟨w', p.h.trans hb⟩, rfl⟩
theorem fault_nil' (v : Value) (w : World) : Calls Tryz.prog 29 #[.pointer none, v] w fun e w' => e = .returned (.int .i64 1) ∧ Bel w w' := (fault_nil v w).mono fun _ w' ⟨he, hw⟩ => ⟨he, by rw [hw]; exact Bel.refl _⟩
set_option maxRecDepth 100000 in
set_option maxHeartbeats 1000000 in
theorem same_nil (w : World) : Calls Tryz.prog 16 #[.pointer none, .pointer none] w fun e w' => e = .returned (.bool false) ∧ Bel w w' := by
  have hfu := Tryz.follows
  have hC := hide (fun v W => fault_nil' v W)
  go_enter Tryz.func16, Tryz.ntmps16
  go_wp2_with fail
  have hne := BelBy.some w
  refine wp_region_bel hfu (by kernel_rfl) ?_
  repeat (go_big_quiet_step (first | (go_at_call 29; refine calls_by ((unhide hC) _ _))))
  refine wpQuiet_nil ?_
  rintro W2 ⟨p2, rfl⟩
  go_wp2_with fail
  go_ret
  exact ⟨rfl, p2.h⟩
end Go.Proofs.YtgimciacapfbfaaGreatDoor
