/- isType, marksFit and Schema again: the world is left with draws and new blocks alone. -/
import Derived.Test.YtgghcfmpfneehabDoorTriH
import Derived.Shelf.SlSortCmp.QuietGrown
namespace Go.Proofs.YtgghcfmpfneehabDoor
open Go.RowKit Go.Sort
/-- The world has grown by draws and by blocks alone. -/
def Gr (w w' : World) : Prop := ∃ n os, w' = grow (w.drewN n) os
theorem Gr.refl (w : World) : Gr w w := ⟨0, #[], by rw [grow_empty]; rfl⟩
theorem Gr.trans {a b c : World} (h : Gr a b) (k : Gr b c) : Gr a c := by
  obtain ⟨n, os, rfl⟩ := h
  obtain ⟨m, ps, rfl⟩ := k
  exact ⟨n + m, os ++ ps, by show grow (grow ((a.drewN n).drewN m) os) ps = _; rw [grow_grow, World.drewN_drewN]⟩
theorem Gr.alloc {w W : World} (h : Gr w W) (o : Obj) : Gr w (W.alloc o) := by
  obtain ⟨q, os, rfl⟩ := h
  exact ⟨q, os ++ #[o], by rw [alloc_eq_grow, grow_grow]⟩
theorem Gr.drew {w W : World} (h : Gr w W) : Gr w W.drew := by
  obtain ⟨q, os, rfl⟩ := h
  exact ⟨q + 1, os, rfl⟩
theorem Gr.bel {w W : World} (h : Gr w W) : Bel w W := by
  obtain ⟨q, os, rfl⟩ := h
  refine ⟨rfl, rfl, rfl, ?_, fun i hi => ?_⟩
  · rw [size_grow]; exact Nat.le_add_right _ _
  · exact heap_grow_old _ _ hi
set_option maxRecDepth 100000 in
theorem marks_gr (p : ByteArray) (t : Int) (l x tm od rv ct : Bool) (w : World) : Calls Tryd.prog 19 #[sc p t l x tm od rv ct] w fun e w' => e = .returned (.bool (mkF t tm od rv)) ∧ Gr w w' := by
  unfold sc
  cases tm <;> cases od <;> cases rv
  all_goals
    go_enter Tryd.func19, Tryd.ntmps19
    go_wp2_with fail
  all_goals go_ret
  all_goals
    refine ⟨?_, (Gr.refl _).alloc _⟩
    simp_all [mkF]
set_option maxHeartbeats 1000000 in
set_option maxRecDepth 100000 in
theorem schema_gr (p : ByteArray) (t : Int) (l x tm od rv ct : Bool) (w : World) : Calls Tryd.prog 9 #[sc p t l x tm od rv ct] w fun e w' => e = .returned (.int .i64 (eS p t tm od rv)) ∧ Gr w w' := by
  have hP := hide (fun W => pred_any p W)
  have hT := hide (fun W => isType_any t W)
  have hM := hide (fun W => marks_gr p t l x tm od rv ct W)
  have hF := hide (fun a b W => first2 a b W)
  have HE := hide (show eS p t tm od rv = fstE [eP p, eM t tm od rv] from rfl)
  generalize eS p t tm od rv = E at HE ⊢
  generalize eP p = P at HE hP
  unfold sc at hM ⊢
  rcases Bool.eq_false_or_eq_true (isT t) with h1 | h1
  · rcases Bool.eq_false_or_eq_true (mkF t tm od rv) with h2 | h2
    all_goals rw [h1] at hT
    all_goals rw [h2] at hM
    · rw [eM_yes h1 h2] at HE
      clear h1 h2
      go_enter Tryd.func9, Tryd.ntmps9
      go_wp2_with fail
      have h8 := C8.new p t l x tm od rv ct w
      have hb0 : Gr w (w.alloc (.cells #[.string p, .int .u8 t, .bool l, .bool x, .bool tm, .bool od, .bool rv, .bool ct] 24)) := (Gr.refl _).alloc _
      generalize w.alloc (.cells #[.string p, .int .u8 t, .bool l, .bool x, .bool tm, .bool od, .bool rv, .bool ct] 24) = W1 at h8 hb0 ⊢
      generalize w.heap.size = B at *
      have h9 := h8.next (Bel.refl _).drew
      clear h8
      go_region_held3 (fun W => W.cell? ⟨B, 0, none⟩ = some (.string p) ∧ W.cell? ⟨B, 1, none⟩ = some (.int .u8 t) ∧ W.cell? ⟨B, 2, none⟩ = some (.bool l) ∧ W.cell? ⟨B, 3, none⟩ = some (.bool x) ∧ W.cell? ⟨B, 4, none⟩ = some (.bool tm) ∧ W.cell? ⟨B, 5, none⟩ = some (.bool od) ∧ W.cell? ⟨B, 6, none⟩ = some (.bool rv) ∧ W.cell? ⟨B, 7, none⟩ = some (.bool ct)) (first | assumption | exact C8.next (by assumption) (by first | exact Gr.bel (by assumption) | exact (Bel.refl _).alloc _)) ((first | (go_at_call 14; refine (hP.out _).mono ?_; rintro e w' ⟨rfl, rfl⟩) | (go_at_call 18; refine (hT.out _).mono ?_; rintro e w' ⟨rfl, rfl⟩) | (go_at_call 19; refine (hM.out _).mono ?_; rintro e w' ⟨rfl, hb⟩) | (go_at_call 11; refine (unless_yes 43 _).mono ?_; rintro e w' ⟨rfl, rfl⟩) | (go_at_call 8; refine (hF.out _ _ _).mono ?_; rintro e w' ⟨rfl, rfl⟩)))
      all_goals
        go_wp2
        go_ret
        rw [HE.out]
        exact ⟨rfl, (hb0.drew.trans (by assumption)).alloc _⟩
    · rw [eM_no2 h2] at HE
      clear h1 h2
      go_enter Tryd.func9, Tryd.ntmps9
      go_wp2_with fail
      have h8 := C8.new p t l x tm od rv ct w
      have hb0 : Gr w (w.alloc (.cells #[.string p, .int .u8 t, .bool l, .bool x, .bool tm, .bool od, .bool rv, .bool ct] 24)) := (Gr.refl _).alloc _
      generalize w.alloc (.cells #[.string p, .int .u8 t, .bool l, .bool x, .bool tm, .bool od, .bool rv, .bool ct] 24) = W1 at h8 hb0 ⊢
      generalize w.heap.size = B at *
      have h9 := h8.next (Bel.refl _).drew
      clear h8
      go_region_held3 (fun W => W.cell? ⟨B, 0, none⟩ = some (.string p) ∧ W.cell? ⟨B, 1, none⟩ = some (.int .u8 t) ∧ W.cell? ⟨B, 2, none⟩ = some (.bool l) ∧ W.cell? ⟨B, 3, none⟩ = some (.bool x) ∧ W.cell? ⟨B, 4, none⟩ = some (.bool tm) ∧ W.cell? ⟨B, 5, none⟩ = some (.bool od) ∧ W.cell? ⟨B, 6, none⟩ = some (.bool rv) ∧ W.cell? ⟨B, 7, none⟩ = some (.bool ct)) (first | assumption | exact C8.next (by assumption) (by first | exact Gr.bel (by assumption) | exact (Bel.refl _).alloc _)) ((first | (go_at_call 14; refine (hP.out _).mono ?_; rintro e w' ⟨rfl, rfl⟩) | (go_at_call 18; refine (hT.out _).mono ?_; rintro e w' ⟨rfl, rfl⟩) | (go_at_call 19; refine (hM.out _).mono ?_; rintro e w' ⟨rfl, hb⟩) | (go_at_call 11; refine (unless_no 43 _).mono ?_; rintro e w' ⟨rfl, rfl⟩) | (go_at_call 8; refine (hF.out _ _ _).mono ?_; rintro e w' ⟨rfl, rfl⟩)))
      all_goals
        go_wp2
        go_ret
        rw [HE.out]
        exact ⟨rfl, (hb0.drew.trans (by assumption)).alloc _⟩
  · rw [h1] at hT
    rw [eM_no1 h1] at HE
    clear h1 hM
    go_enter Tryd.func9, Tryd.ntmps9
    go_wp2_with fail
    have h8 := C8.new p t l x tm od rv ct w
    have hb0 : Gr w (w.alloc (.cells #[.string p, .int .u8 t, .bool l, .bool x, .bool tm, .bool od, .bool rv, .bool ct] 24)) := (Gr.refl _).alloc _
    generalize w.alloc (.cells #[.string p, .int .u8 t, .bool l, .bool x, .bool tm, .bool od, .bool rv, .bool ct] 24) = W1 at h8 hb0 ⊢
    generalize w.heap.size = B at *
    have h9 := h8.next (Bel.refl _).drew
    clear h8
    rw [show Op.load 24 (Operand.tmp 1) = ldS from rfl]
    go_region_held3 (fun W => W.cell? ⟨B, 0, none⟩ = some (.string p) ∧ W.cell? ⟨B, 1, none⟩ = some (.int .u8 t) ∧ W.cell? ⟨B, 2, none⟩ = some (.bool l) ∧ W.cell? ⟨B, 3, none⟩ = some (.bool x) ∧ W.cell? ⟨B, 4, none⟩ = some (.bool tm) ∧ W.cell? ⟨B, 5, none⟩ = some (.bool od) ∧ W.cell? ⟨B, 6, none⟩ = some (.bool rv) ∧ W.cell? ⟨B, 7, none⟩ = some (.bool ct)) (first | assumption | exact C8.next (by assumption) (by first | exact Gr.bel (by assumption) | exact (Bel.refl _).alloc _)) ((first | (go_at_call 14; refine (hP.out _).mono ?_; rintro e w' ⟨rfl, rfl⟩) | (go_at_call 18; refine (hT.out _).mono ?_; rintro e w' ⟨rfl, rfl⟩) | (go_at_call 19; refine (hM.out _).mono ?_; rintro e w' ⟨rfl, hb⟩) | (go_at_call 11; refine (unless_no 43 _).mono ?_; rintro e w' ⟨rfl, rfl⟩) | (go_at_call 8; refine (first2d _ _ _).mono ?_; rintro e w' ⟨rfl, rfl⟩)))
    all_goals
      go_wp2
      go_ret
      rw [HE.out]
      exact ⟨rfl, (hb0.alloc _).drew⟩
end Go.Proofs.YtgghcfmpfneehabDoor
