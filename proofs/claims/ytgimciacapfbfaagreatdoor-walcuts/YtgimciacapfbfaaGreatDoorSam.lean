/- Two disks held against each other: the program's Same. -/
import Derived.Test.YtgimciacapfbfaaGreatDoorEqu
import Derived.Test.YtgimciacapfbfaaGreatDoorPtr
namespace Go.Proofs.YtgimciacapfbfaaGreatDoor
open Go.RowKit Go.Maps Go.WideMaps
theorem same_w {f : FuncId} {args : Array Value} {W : World} {v : Value} (h : Calls Tryz.prog f args W fun e w' => e = .returned v ∧ w' = W) : Calls Tryz.prog f args W fun e w' => e = .returned v ∧ Bel W w' := h.mono fun _ _ ⟨he, hw⟩ => ⟨he, by rw [hw]; exact Bel.refl _⟩
/-- Do two disks look the same? -/
def smP (d x : PD) : Bool := decide (d.ops.length = x.ops.length) && (decide (d.seen = x.seen) && decide (d.synced = x.synced))
set_option maxRecDepth 100000 in
set_option maxHeartbeats 4000000 in
theorem same_any {C C' : Nat} {w : World} {p q : Nat} {d x : PD} {M B M' B' : Nat → Prop} (h1 : Dk C w p d M B) (h2 : Dk C' w q x M' B') :
    Calls Tryz.prog 16 #[.pointer (some ⟨p, 0, none⟩), .pointer (some ⟨q, 0, none⟩)] w fun e w' => e = .returned (.bool (smP d x)) ∧ Bel w w' := by
  have hfu := Tryz.follows
  have f1 := h1.fine
  have f2 := h2.fine
  have k1 := h1.val.head
  have k2 := h2.val.head
  obtain ⟨bs, bk, v, cs, hc, _, _⟩ := h1.co
  obtain ⟨bs', bk', v', cs', hc', _, _⟩ := h2.co
  obtain ⟨a4, c4, rfl⟩ : ∃ a c, v = .slice a d.ops.length c := by obtain ⟨a, c, h, _⟩ := own_shape hc.lo; exact ⟨a, c, h⟩
  obtain ⟨a5, c5, rfl⟩ : ∃ a c, v' = .slice a x.ops.length c := by obtain ⟨a, c, h, _⟩ := own_shape hc'.lo; exact ⟨a, c, h⟩
  have hne := BelBy.some w
  have u1 := hide (fun r : BelBy w => same_w (fault_co (hc.bel r.h)))
  have u2 := hide (fun r : BelBy w => same_w (fault_co (hc'.bel r.h)))
  have u3 := hide (fun r : BelBy w => equal_any bs bs' d.seen x.seen r.W (hc.bel r.h).ms (hc'.bel r.h).ms f1.srt f2.srt f1.names)
  have u4 := hide (fun r : BelBy w => equal_any bk bk' d.synced x.synced r.W (hc.bel r.h).my (hc'.bel r.h).my k1.srt k2.srt k1.names)
  have x2 : ∀ r : BelBy w, r.W.cell? ⟨p, 2, none⟩ = some (.map (some bs)) := fun r => cell_of (i := 2) (r.h.row hc.row)
  have x3 : ∀ r : BelBy w, r.W.cell? ⟨p, 3, none⟩ = some (.map (some bk)) := fun r => cell_of (i := 3) (r.h.row hc.row)
  have x4 : ∀ r : BelBy w, r.W.cell? ⟨p, 4, none⟩ = some (.slice a4 d.ops.length c4) := fun r => cell_of (i := 4) (r.h.row hc.row)
  have y2 : ∀ r : BelBy w, r.W.cell? ⟨q, 2, none⟩ = some (.map (some bs')) := fun r => cell_of (i := 2) (r.h.row hc'.row)
  have y3 : ∀ r : BelBy w, r.W.cell? ⟨q, 3, none⟩ = some (.map (some bk')) := fun r => cell_of (i := 3) (r.h.row hc'.row)
  have y4 : ∀ r : BelBy w, r.W.cell? ⟨q, 4, none⟩ = some (.slice a5 x.ops.length c5) := fun r => cell_of (i := 4) (r.h.row hc'.row)
  clear hc hc' h1 h2 f1 f2 k1 k2
  by_cases e1 : d.ops.length = x.ops.length
  · have e1' : (d.ops.length : Int) = (x.ops.length : Int) := by omega
    have er : smP d x = (decide (d.seen = x.seen) && decide (d.synced = x.synced)) := by unfold smP; rw [decide_eq_true e1]; rfl
    rw [er]
    clear e1 er
    cases e2 : decide (d.seen = x.seen)
    · rw [e2] at u3
      go_enter Tryz.func16, Tryz.ntmps16
      go_wp2_with fail
      refine wp_region_bel hfu (by kernel_rfl) ?_
      repeat (go_big_quiet_step (first | (go_at_call 29; with_reducible refine calls_by ((unhide u1) _)) | (go_at_call 29; with_reducible refine calls_by ((unhide u2) _)) | (go_at_call 35; with_reducible refine calls_by ((unhide u3) _))))
      refine wpQuiet_nil ?_
      rintro W2 ⟨p2, rfl⟩
      go_wp2_with fail
      go_ret
      exact ⟨rfl, p2.h⟩
    · rw [e2] at u3
      cases e3 : decide (d.synced = x.synced)
      · rw [e3] at u4
        go_enter Tryz.func16, Tryz.ntmps16
        go_wp2_with fail
        refine wp_region_bel hfu (by kernel_rfl) ?_
        repeat (go_big_quiet_step (first | (go_at_call 29; with_reducible refine calls_by ((unhide u1) _)) | (go_at_call 29; with_reducible refine calls_by ((unhide u2) _)) | (go_at_call 35; with_reducible refine calls_by ((unhide u3) _)) | (go_at_call 35; with_reducible refine calls_by ((unhide u4) _))))
        refine wpQuiet_nil ?_
        rintro W2 ⟨p2, rfl⟩
        go_wp2_with fail
        go_ret
        exact ⟨rfl, p2.h⟩
      · rw [e3] at u4
        go_enter Tryz.func16, Tryz.ntmps16
        go_wp2_with fail
        refine wp_region_bel hfu (by kernel_rfl) ?_
        repeat (go_big_quiet_step (first | (go_at_call 29; with_reducible refine calls_by ((unhide u1) _)) | (go_at_call 29; with_reducible refine calls_by ((unhide u2) _)) | (go_at_call 35; with_reducible refine calls_by ((unhide u3) _)) | (go_at_call 35; with_reducible refine calls_by ((unhide u4) _))))
        refine wpQuiet_nil ?_
        rintro W2 ⟨p2, rfl⟩
        go_wp2_with fail
        go_ret
        exact ⟨rfl, p2.h⟩
  · have e1' : ¬ (d.ops.length : Int) = (x.ops.length : Int) := by omega
    have er : smP d x = false := by unfold smP; rw [decide_eq_false e1]; rfl
    rw [er]
    have e1b : ((d.ops.length : Int) == (x.ops.length : Int)) = false := beq_eq_false_iff_ne.2 e1'
    clear e1 e1' er
    go_enter Tryz.func16, Tryz.ntmps16
    go_wp2_with fail
    refine wp_region_bel hfu (by kernel_rfl) ?_
    repeat (go_big_quiet_step (first | (go_at_call 29; with_reducible refine calls_by ((unhide u1) _)) | (go_at_call 29; with_reducible refine calls_by ((unhide u2) _))))
    refine wpQuiet_nil ?_
    rintro W2 ⟨p2, rfl⟩
    go_wp2_with fail
    go_ret
    exact ⟨rfl, p2.h⟩
end Go.Proofs.YtgimciacapfbfaaGreatDoor
