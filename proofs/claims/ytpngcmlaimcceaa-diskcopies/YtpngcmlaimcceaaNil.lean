/- A disk that is not there: what its methods answer. -/
import Derived.Test.YtpngcmlaimcceaaAli
namespace Go.Proofs.Ytpngcmlaimcceaa
open Go.RowKit Go.Maps Go.WideMaps
theorem find_row {w w1 : World} {v : Value} {n : Nat} {xs : List Value} {o1 : Array Value} {o2 : Obj} (hv : w.ownsRow 0 9 1 v n xs) (hgrow : ((w.alloc (.cells o1 69)).alloc o2).grownBy w1 v.ownBlock) : w1.heap[w.heap.size]? = some (.cells o1 69) ∧ Ch (fun i => v.ownBlock = some i) w w1 := by
  refine ⟨?_, (((Ch.refl _ w).alloc _).alloc _).grown hgrow (fun i hi => Or.inl hi)⟩
  rw [hgrow.block w.heap.size (by simp; omega) (fun e => by have := (hv.lt _ e.symm).2; omega)]
  exact ((Bel.refl _).alloc _).row (at_new w _)
theorem one_row {W : World} {g : Nat} {m : List UInt8} (h : W.heap[g]? = some (.cells #[.string ⟨m.toArray⟩] 9)) : W.ownsRow 0 9 1 (.slice (some ⟨g, 0, none⟩) 1 1) [m].length ([m].map fun x => .string ⟨x.toArray⟩) :=
  ⟨rfl, Or.inr ⟨g, 1, _, rfl, Nat.zero_le _, h, Nat.le_refl _, by decide, rfl, rfl⟩⟩
theorem at_new3 (w : World) (o o' o'' : Obj) : (((w.alloc o).alloc o').alloc o'').heap[w.heap.size + 1 + 1]? = some o'' := by
  have := at_new2 (w.alloc o) o' o''
  have e : (w.alloc o).heap.size = w.heap.size + 1 := by simp
  rw [e] at this
  exact this
theorem fresh_ch {M : Nat → Prop} {w W W' : World} (h : Bel w W) (c : Ch M W W') (hm : ∀ i, M i → w.heap.size ≤ i) : Bel w W' := Below.trans h (c.below h.size hm)
set_option maxRecDepth 100000 in
set_option maxHeartbeats 1000000 in
theorem find_nil (n : List UInt8) (v : Value) (os : List (List UInt8)) (w : World) (hv : w.ownsRow 0 9 1 v os.length (os.map fun x => .string ⟨x.toArray⟩)) (hol : os.length ≤ 100) :
    Calls Try.prog 43 #[.pointer none, .string ⟨n.toArray⟩, v] w fun e w' => e = .returned (.tuple #[.agg #[.string ⟨#[]⟩], .int .i64 1]) ∧ Ch (fun i => v.ownBlock = some i) w w' := by
  obtain ⟨i0, hi, hz0, hz1, hz2⟩ := Try.i9
  have HV := hide hv
  clear hv
  go_enter Try.func43, Try.ntmps43
  go_wp2_with (first
    | (at_builtin; refine wpList_append_lies _ rfl _ _ 52 rfl 0 9 i0 (.string ⟨#[]⟩) 1 16 Try.underlying52 hi hz0 hz1 hz2 rfl (by decide) v os.length _ rfl ((HV.out.alloc _).alloc _) ⟨w.heap.size + 1, 0, none⟩ 1 1 [.string ⟨n.toArray⟩] rfl rfl (World.news_of_block (at_new2 w _ _)) (by simp [Value.oneCell']) (by decide) (by unfold maxLen; omega) (by omega) (Nat.zero_le _) (w.heap.size + 2) (by simp) ?_; intro g cap w1 hown hgrow hat hlt; have hb := hide (find_row (unhide HV) hgrow); have c1 : w1.cell? ⟨w.heap.size, 0, none⟩ = some (.string ⟨#[]⟩) := cell_of (unhide hb).1; have f1 := free_row (p := 0) (unhide hb).1)
    | (go_at_call 32; refine (fault_nil _ _).mono ?_; rintro e w2 ⟨rfl, rfl⟩)
    | go_in)
  refine ret69 (g := w.heap.size) (b := []) rfl rfl rfl (row_set (unhide hb).1) ⟨rfl, (unhide hb).2.set (Or.inr (Nat.le_refl _)) _⟩
set_option maxRecDepth 100000 in
theorem read_nil (n : List UInt8) (w : World) : Calls Try.prog 23 #[.pointer none, .string ⟨n.toArray⟩] w fun e w' => e = .returned (.tuple #[.string ⟨#[]⟩, .int .i64 1]) ∧ Bel w w' := by
  have hf := hide (find_nil n (.slice none 0 0) [] w (World.ownsRow_nil _ _ _ _) (by simp))
  go_enter Try.func23, Try.ntmps23
  go_wp2_with (go_at_call 43; refine (unhide hf).mono ?_; rintro e w1 ⟨rfl, hc⟩)
  go_ret2
  exact ⟨rfl, hc.nil.alloc _⟩
set_option maxRecDepth 100000 in
theorem app_nil (n t : List UInt8) (w : World) : Calls Try.prog 21 #[.pointer none, .string ⟨n.toArray⟩, .string ⟨t.toArray⟩] w fun e w' => e = .returned (.int .i64 1) ∧ Bel w w' := by
  go_enter Try.func21, Try.ntmps21
  go_wp2_with (go_at_call 32; refine (fault_nil _ _).mono ?_; rintro e w2 ⟨rfl, rfl⟩)
  go_ret
  exact ⟨rfl, ((Bel.refl w).alloc _).alloc _⟩
set_option maxRecDepth 100000 in
theorem wr_nil (n t : List UInt8) (w : World) : Calls Try.prog 19 #[.pointer none, .string ⟨n.toArray⟩, .string ⟨t.toArray⟩] w fun e w' => e = .returned (.int .i64 1) ∧ Bel w w' := by
  go_enter Try.func19, Try.ntmps19
  go_wp2_with (go_at_call 32; refine (fault_nil _ _).mono ?_; rintro e w2 ⟨rfl, rfl⟩)
  go_ret
  exact ⟨rfl, ((Bel.refl w).alloc _).alloc _⟩
set_option maxRecDepth 100000 in
theorem tr_nil (n : List UInt8) (k : Int) (w : World) : Calls Try.prog 24 #[.pointer none, .string ⟨n.toArray⟩, .int .i64 k] w fun e w' => e = .returned (.int .i64 1) ∧ Bel w w' := by
  have hf := hide (fun W => find_nil n (.slice none 0 0) [] W (World.ownsRow_nil _ _ _ _) (by simp))
  go_enter Try.func24, Try.ntmps24
  go_wp2_with (go_at_call 43; refine ((unhide hf) _).mono ?_; rintro e w1 ⟨rfl, hc⟩)
  go_ret
  exact ⟨rfl, ((((Bel.refl w).alloc _).alloc _).trans hc.nil).alloc _⟩
set_option maxRecDepth 100000 in
theorem rm_nil (n : List UInt8) (w : World) : Calls Try.prog 26 #[.pointer none, .string ⟨n.toArray⟩] w fun e w' => e = .returned (.int .i64 1) ∧ Bel w w' := by
  have hf := hide (fun W => find_nil n (.slice none 0 0) [] W (World.ownsRow_nil _ _ _ _) (by simp))
  go_enter Try.func26, Try.ntmps26
  go_wp2_with (go_at_call 43; refine ((unhide hf) _).mono ?_; rintro e w1 ⟨rfl, hc⟩)
  go_ret
  exact ⟨rfl, (((Bel.refl w).alloc _).trans hc.nil).alloc _⟩
set_option maxRecDepth 100000 in
theorem ren_nil (n m : List UInt8) (w : World) : Calls Try.prog 25 #[.pointer none, .string ⟨n.toArray⟩, .string ⟨m.toArray⟩] w fun e w' => e = .returned (.int .i64 1) ∧ Bel w w' := by
  have hf := hide (fun W g (h : W.heap[g]? = some (.cells #[.string ⟨m.toArray⟩] 9)) => find_nil n (.slice (some ⟨g, 0, none⟩) 1 1) [m] W (one_row h) (by simp))
  go_enter Try.func25, Try.ntmps25
  go_wp2_with (go_at_call 43; refine ((unhide hf) _ _ (at_new3 w _ _ _)).mono ?_; rintro e w1 ⟨rfl, hc⟩)
  go_ret
  exact ⟨rfl, (fresh_ch ((((Bel.refl w).alloc _).alloc _).alloc _) hc (fun i hi => by cases hi; simp; omega)).alloc _⟩
set_option maxRecDepth 100000 in
theorem sync_nil (w : World) : Calls Try.prog 20 #[.pointer none] w fun e w' => e = .returned (.int .i64 1) ∧ Bel w w' := by
  go_enter Try.func20, Try.ntmps20
  go_wp2_with (go_at_call 32; refine (fault_nil _ _).mono ?_; rintro e w2 ⟨rfl, rfl⟩)
  go_ret
  exact ⟨rfl, Bel.refl _⟩
set_option maxRecDepth 100000 in
theorem crash_nil (k t : Int) (w : World) : Calls Try.prog 22 #[.pointer none, .int .i64 k, .int .i64 t] w fun e w' => e = .returned (.int .i64 1) ∧ Bel w w' := by
  go_enter Try.func22, Try.ntmps22
  go_wp2_with (go_at_call 32; refine (fault_nil _ _).mono ?_; rintro e w2 ⟨rfl, rfl⟩)
  go_ret
  exact ⟨rfl, Bel.refl _⟩
set_option maxRecDepth 100000 in
theorem names_nil (w : World) : Calls Try.prog 27 #[.pointer none] w fun e w' => e = .returned (.slice none 0 0) ∧ Bel w w' := by
  go_enter Try.func27, Try.ntmps27
  go_wp2_with (go_at_call 32; refine (fault_nil _ _).mono ?_; rintro e w2 ⟨rfl, rfl⟩)
  go_ret
  exact ⟨rfl, Bel.refl _⟩
set_option maxRecDepth 100000 in
theorem used_nil (w : World) : Calls Try.prog 10 #[.pointer none] w fun e w' => e = .returned (.int .i64 0) ∧ Bel w w' := by
  go_enter Try.func10, Try.ntmps10
  go_wp2_with (go_at_call 32; refine (fault_nil _ _).mono ?_; rintro e w2 ⟨rfl, rfl⟩)
  go_ret
  exact ⟨rfl, Bel.refl _⟩
set_option maxRecDepth 100000 in
theorem loose_nil (w : World) : Calls Try.prog 12 #[.pointer none] w fun e w' => e = .returned (.int .i64 0) ∧ Bel w w' := by
  go_enter Try.func12, Try.ntmps12
  go_wp2_with (go_at_call 32; refine (fault_nil _ _).mono ?_; rintro e w2 ⟨rfl, rfl⟩)
  go_ret
  exact ⟨rfl, Bel.refl _⟩
set_option maxRecDepth 100000 in
theorem copy_nil (w : World) : Calls Try.prog 15 #[.pointer none] w fun e w' => e = .returned (.pointer none) ∧ Bel w w' := by
  go_enter Try.func15, Try.ntmps15
  go_wp2_with (go_at_call 32; refine (fault_nil _ _).mono ?_; rintro e w2 ⟨rfl, rfl⟩)
  go_ret
  exact ⟨rfl, Bel.refl _⟩
theorem calls_by {P : Program} {f : FuncId} {args : Array Value} {w : World} {p : BelBy w} {v : Value}
    (h : Calls P f args p.W fun e w' => e = .returned v ∧ Bel p.W w') : Calls P f args p.W fun e w'' => e = .returned v ∧ ∃ p' : BelBy w, w'' = p'.W :=
  h.mono fun _ w' ⟨he, hb⟩ => ⟨he, ⟨w', p.h.trans hb⟩, rfl⟩
theorem fault_nil' (v : Value) (w : World) : Calls Try.prog 32 #[.pointer none, v] w fun e w' => e = .returned (.int .i64 1) ∧ Bel w w' := (fault_nil v w).mono fun _ w' ⟨he, hw⟩ => ⟨he, by rw [hw]; exact Bel.refl _⟩
set_option maxRecDepth 100000 in
set_option maxHeartbeats 1000000 in
theorem same_nil (w : World) : Calls Try.prog 17 #[.pointer none, .pointer none] w fun e w' => e = .returned (.bool false) ∧ Bel w w' := by
  have hfu := Try.follows
  have hC := hide (fun v W => fault_nil' v W)
  go_enter Try.func17, Try.ntmps17
  go_wp2_with fail
  have hne := BelBy.some w
  refine wp_region_bel hfu (by kernel_rfl) ?_
  repeat (go_big_quiet_step (first | (go_at_call 32; refine calls_by ((unhide hC) _ _))))
  refine wpQuiet_nil ?_
  rintro W2 ⟨p2, rfl⟩
  go_wp2_with fail
  go_ret
  exact ⟨rfl, p2.h⟩
set_option maxRecDepth 100000 in
set_option maxHeartbeats 1000000 in
theorem nil_law (n t : List UInt8) (k m : Int) (w : World) : Calls Try.prog 6 #[.string ⟨n.toArray⟩, .string ⟨t.toArray⟩, .int .i64 k, .int .i64 m] w fun e w' => e = .returned (.bool true) ∧ Bel w w' := by
  go_enter Try.func6, Try.ntmps6
  go_wp2_with (first
    | (go_at_call 23; refine (read_nil n _).mono ?_; rintro e w1 ⟨rfl, hb1⟩)
    | (go_at_call 21; refine (app_nil n t _).mono ?_; rintro e w2 ⟨rfl, hb2⟩)
    | (go_at_call 19; refine (wr_nil n t _).mono ?_; rintro e w3 ⟨rfl, hb3⟩)
    | (go_at_call 24; refine (tr_nil n k _).mono ?_; rintro e w4 ⟨rfl, hb4⟩)
    | (go_at_call 25; refine (ren_nil n t _).mono ?_; rintro e w5 ⟨rfl, hb5⟩)
    | (go_at_call 26; refine (rm_nil n _).mono ?_; rintro e w6 ⟨rfl, hb6⟩)
    | (go_at_call 20; refine (sync_nil _).mono ?_; rintro e w7 ⟨rfl, hb7⟩)
    | (go_at_call 22; refine (crash_nil k m _).mono ?_; rintro e w8 ⟨rfl, hb8⟩)
    | (go_at_call 27; refine (names_nil _).mono ?_; rintro e w9 ⟨rfl, hb9⟩)
    | (go_at_call 10; refine (used_nil _).mono ?_; rintro e w10 ⟨rfl, hb10⟩)
    | (go_at_call 12; refine (loose_nil _).mono ?_; rintro e w11 ⟨rfl, hb11⟩)
    | (go_at_call 15; refine (copy_nil _).mono ?_; rintro e w12 ⟨rfl, hb12⟩)
    | (go_at_call 17; refine (same_nil _).mono ?_; rintro e w13 ⟨rfl, hb13⟩)
    | (go_at_call 14; refine (alive_any _).mono ?_; rintro e w14 ⟨rfl, hb14⟩))
  go_ret
  exact ⟨rfl, hb1.trans (hb2.trans (hb3.trans (hb4.trans (hb5.trans (hb6.trans (hb7.trans (hb8.trans (hb9.trans (hb10.trans (hb11.trans (hb12.trans (hb13.trans hb14))))))))))))⟩
end Go.Proofs.Ytpngcmlaimcceaa
