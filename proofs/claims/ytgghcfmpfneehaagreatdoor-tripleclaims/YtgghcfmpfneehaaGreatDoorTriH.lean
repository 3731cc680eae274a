/- What isType, marksFit and Schema return; the document's Schema. -/
import Derived.Test.YtgghcfmpfneehaaGreatDoorTriF
namespace Go.Proofs.YtgghcfmpfneehaaGreatDoor
open Go.RowKit
/-- A schema as the program holds it. -/
def sc (p : ByteArray) (t : Int) (l x tm od rv ct : Bool) : Value := .agg #[.string p, .int .u8 t, .bool l, .bool x, .bool tm, .bool od, .bool rv, .bool ct]
def isT (t : Int) : Bool := t == 1 || t == 2 || t == 3 || t == 4
def mkF (t : Int) (tm od rv : Bool) : Bool := (!tm || t == 3) && (!od || t == 2) && (!rv || t == 4)
def eM (t : Int) (tm od rv : Bool) : Int := if isT t && mkF t tm od rv then 0 else 43
def eS (p : ByteArray) (t : Int) (tm od rv : Bool) : Int := fstE [eP p, eM t tm od rv]
def C8 (B : Nat) (p : ByteArray) (t : Int) (l x tm od rv ct : Bool) (W : World) : Prop :=
  W.cell? ⟨B, 0, none⟩ = some (.string p) ∧ W.cell? ⟨B, 1, none⟩ = some (.int .u8 t) ∧ W.cell? ⟨B, 2, none⟩ = some (.bool l) ∧ W.cell? ⟨B, 3, none⟩ = some (.bool x) ∧ W.cell? ⟨B, 4, none⟩ = some (.bool tm) ∧ W.cell? ⟨B, 5, none⟩ = some (.bool od) ∧ W.cell? ⟨B, 6, none⟩ = some (.bool rv) ∧ W.cell? ⟨B, 7, none⟩ = some (.bool ct)
theorem C8.next {B : Nat} {p : ByteArray} {t : Int} {l x tm od rv ct : Bool} {W W' : World} (h : C8 B p t l x tm od rv ct W) (hb : Bel W W') : C8 B p t l x tm od rv ct W' :=
  ⟨hb.cell h.1, hb.cell h.2.1, hb.cell h.2.2.1, hb.cell h.2.2.2.1, hb.cell h.2.2.2.2.1, hb.cell h.2.2.2.2.2.1, hb.cell h.2.2.2.2.2.2.1, hb.cell h.2.2.2.2.2.2.2⟩
theorem C8.new (p : ByteArray) (t : Int) (l x tm od rv ct : Bool) (W : World) : C8 W.heap.size p t l x tm od rv ct (W.alloc (.cells #[.string p, .int .u8 t, .bool l, .bool x, .bool tm, .bool od, .bool rv, .bool ct] 91)) :=
  ⟨cell_new _ _ _ _, cell_new _ _ _ _, cell_new _ _ _ _, cell_new _ _ _ _, cell_new _ _ _ _, cell_new _ _ _ _, cell_new _ _ _ _, cell_new _ _ _ _⟩
set_option maxRecDepth 100000 in
theorem isType_any (t : Int) (w : World) : Calls Tryz.prog 107 #[.int .u8 t] w fun e w' => e = .returned (.bool (isT t)) ∧ w' = w := by
  go_enter Tryz.func107, Tryz.ntmps107
  go_wp2_with fail
  all_goals go_ret
  all_goals
    refine ⟨?_, rfl⟩
    simp_all [isT]
set_option maxRecDepth 100000 in
theorem marks_any (p : ByteArray) (t : Int) (l x tm od rv ct : Bool) (w : World) : Calls Tryz.prog 108 #[sc p t l x tm od rv ct] w fun e w' => e = .returned (.bool (mkF t tm od rv)) ∧ Bel w w' := by
  unfold sc
  cases tm <;> cases od <;> cases rv
  all_goals
    go_enter Tryz.func108, Tryz.ntmps108
    go_wp2_with fail
  all_goals go_ret
  all_goals
    refine ⟨?_, (Bel.refl _).alloc _⟩
    simp_all [mkF]
theorem first2d (x y : Int) (W : World) : Calls Tryz.prog 36 #[.slice (some ⟨W.heap.size, 0, none⟩) 2 2] (W.alloc (.cells #[.int .i64 x, .int .i64 y] 30)).drew fun e w' => e = .returned (.int .i64 (fstE [x, y])) ∧ w' = (W.alloc (.cells #[.int .i64 x, .int .i64 y] 30)).drew :=
  first_any _ [x, y] (by simp) 2 2 rfl _ (fun j hj => by
    rw [show (W.alloc (.cells #[.int .i64 x, .int .i64 y] 30)).drew.cell? ⟨W.heap.size, j, none⟩ = (#[.int .i64 x, .int .i64 y] : Array Value)[j]? from cell_new W _ _ j]
    match j, hj with
    | 0, _ => rfl
    | 1, _ => rfl)
/-- The load of the schema that stands behind a guard. -/
def ldS : Op := Op.load 91 (Operand.tmp 1)
theorem eM_yes {t : Int} {tm od rv : Bool} (h1 : isT t = true) (h2 : mkF t tm od rv = true) : eM t tm od rv = 0 := by simp [eM, h1, h2]
theorem eM_no1 {t : Int} {tm od rv : Bool} (h1 : isT t = false) : eM t tm od rv = 43 := by simp [eM, h1]
theorem eM_no2 {t : Int} {tm od rv : Bool} (h2 : mkF t tm od rv = false) : eM t tm od rv = 43 := by simp [eM, h2]
set_option maxHeartbeats 1000000 in
set_option maxRecDepth 100000 in
theorem schema_any (p : ByteArray) (t : Int) (l x tm od rv ct : Bool) (w : World) : Calls Tryz.prog 76 #[sc p t l x tm od rv ct] w fun e w' => e = .returned (.int .i64 (eS p t tm od rv)) ∧ Bel w w' := by
  have hP := hide (fun W => pred_any p W)
  have hT := hide (fun W => isType_any t W)
  have hM := hide (fun W => marks_any p t l x tm od rv ct W)
  have hF := hide (fun a b W => first2 a b W)
  have HE := hide (show eS p t tm od rv = fstE [eP p, eM t tm od rv] from rfl)
  generalize eS p t tm od rv = E at HE ⊢
  generalize eP p = P at HE hP
  unfold sc at hM ⊢
  rcases Bool.eq_false_or_eq_true (isT t) with h1 | h1
  · rcases Bool.eq_false_or_eq_true (mkF t tm od rv) with h2 | h2
    all_goals rw [h1] at hT
    all_goals rw [h2] at hM
    · rw [eM_yes h1 h2] at HE
      clear h1 h2
      go_enter Tryz.func76, Tryz.ntmps76
      go_wp2_with fail
      have h8 := C8.new p t l x tm od rv ct w
      have hb0 : Bel w (w.alloc (.cells #[.string p, .int .u8 t, .bool l, .bool x, .bool tm, .bool od, .bool rv, .bool ct] 91)) := (Bel.refl _).alloc _
      generalize w.alloc (.cells #[.string p, .int .u8 t, .bool l, .bool x, .bool tm, .bool od, .bool rv, .bool ct] 91) = W1 at h8 hb0 ⊢
      generalize w.heap.size = B at *
      have h9 := h8.next (Bel.refl _).drew
      clear h8
      go_region_held3 (fun W => W.cell? ⟨B, 0, none⟩ = some (.string p) ∧ W.cell? ⟨B, 1, none⟩ = some (.int .u8 t) ∧ W.cell? ⟨B, 2, none⟩ = some (.bool l) ∧ W.cell? ⟨B, 3, none⟩ = some (.bool x) ∧ W.cell? ⟨B, 4, none⟩ = some (.bool tm) ∧ W.cell? ⟨B, 5, none⟩ = some (.bool od) ∧ W.cell? ⟨B, 6, none⟩ = some (.bool rv) ∧ W.cell? ⟨B, 7, none⟩ = some (.bool ct)) (first | assumption | exact C8.next (by assumption) (by first | assumption | exact (Bel.refl _).alloc _)) ((first | (go_at_call 40; refine (hP.out _).mono ?_; rintro e w' ⟨rfl, rfl⟩) | (go_at_call 107; refine (hT.out _).mono ?_; rintro e w' ⟨rfl, rfl⟩) | (go_at_call 108; refine (hM.out _).mono ?_; rintro e w' ⟨rfl, hb⟩) | (go_at_call 61; refine (unless_yes 43 _).mono ?_; rintro e w' ⟨rfl, rfl⟩) | (go_at_call 36; refine (hF.out _ _ _).mono ?_; rintro e w' ⟨rfl, rfl⟩)))
      all_goals
        go_wp2
        go_ret
        rw [HE.out]
        exact ⟨rfl, (hb0.drew.trans (by assumption)).alloc _⟩
    · rw [eM_no2 h2] at HE
      clear h1 h2
      go_enter Tryz.func76, Tryz.ntmps76
      go_wp2_with fail
      have h8 := C8.new p t l x tm od rv ct w
      have hb0 : Bel w (w.alloc (.cells #[.string p, .int .u8 t, .bool l, .bool x, .bool tm, .bool od, .bool rv, .bool ct] 91)) := (Bel.refl _).alloc _
      generalize w.alloc (.cells #[.string p, .int .u8 t, .bool l, .bool x, .bool tm, .bool od, .bool rv, .bool ct] 91) = W1 at h8 hb0 ⊢
      generalize w.heap.size = B at *
      have h9 := h8.next (Bel.refl _).drew
      clear h8
      go_region_held3 (fun W => W.cell? ⟨B, 0, none⟩ = some (.string p) ∧ W.cell? ⟨B, 1, none⟩ = some (.int .u8 t) ∧ W.cell? ⟨B, 2, none⟩ = some (.bool l) ∧ W.cell? ⟨B, 3, none⟩ = some (.bool x) ∧ W.cell? ⟨B, 4, none⟩ = some (.bool tm) ∧ W.cell? ⟨B, 5, none⟩ = some (.bool od) ∧ W.cell? ⟨B, 6, none⟩ = some (.bool rv) ∧ W.cell? ⟨B, 7, none⟩ = some (.bool ct)) (first | assumption | exact C8.next (by assumption) (by first | assumption | exact (Bel.refl _).alloc _)) ((first | (go_at_call 40; refine (hP.out _).mono ?_; rintro e w' ⟨rfl, rfl⟩) | (go_at_call 107; refine (hT.out _).mono ?_; rintro e w' ⟨rfl, rfl⟩) | (go_at_call 108; refine (hM.out _).mono ?_; rintro e w' ⟨rfl, hb⟩) | (go_at_call 61; refine (unless_no 43 _).mono ?_; rintro e w' ⟨rfl, rfl⟩) | (go_at_call 36; refine (hF.out _ _ _).mono ?_; rintro e w' ⟨rfl, rfl⟩)))
      all_goals
        go_wp2
        go_ret
        rw [HE.out]
        exact ⟨rfl, (hb0.drew.trans (by assumption)).alloc _⟩
  · rw [h1] at hT
    rw [eM_no1 h1] at HE
    clear h1 hM
    go_enter Tryz.func76, Tryz.ntmps76
    go_wp2_with fail
    have h8 := C8.new p t l x tm od rv ct w
    have hb0 : Bel w (w.alloc (.cells #[.string p, .int .u8 t, .bool l, .bool x, .bool tm, .bool od, .bool rv, .bool ct] 91)) := (Bel.refl _).alloc _
    generalize w.alloc (.cells #[.string p, .int .u8 t, .bool l, .bool x, .bool tm, .bool od, .bool rv, .bool ct] 91) = W1 at h8 hb0 ⊢
    generalize w.heap.size = B at *
    have h9 := h8.next (Bel.refl _).drew
    clear h8
    rw [show Op.load 91 (Operand.tmp 1) = ldS from rfl]
    go_region_held3 (fun W => W.cell? ⟨B, 0, none⟩ = some (.string p) ∧ W.cell? ⟨B, 1, none⟩ = some (.int .u8 t) ∧ W.cell? ⟨B, 2, none⟩ = some (.bool l) ∧ W.cell? ⟨B, 3, none⟩ = some (.bool x) ∧ W.cell? ⟨B, 4, none⟩ = some (.bool tm) ∧ W.cell? ⟨B, 5, none⟩ = some (.bool od) ∧ W.cell? ⟨B, 6, none⟩ = some (.bool rv) ∧ W.cell? ⟨B, 7, none⟩ = some (.bool ct)) (first | assumption | exact C8.next (by assumption) (by first | assumption | exact (Bel.refl _).alloc _)) ((first | (go_at_call 40; refine (hP.out _).mono ?_; rintro e w' ⟨rfl, rfl⟩) | (go_at_call 107; refine (hT.out _).mono ?_; rintro e w' ⟨rfl, rfl⟩) | (go_at_call 108; refine (hM.out _).mono ?_; rintro e w' ⟨rfl, hb⟩) | (go_at_call 61; refine (unless_no 43 _).mono ?_; rintro e w' ⟨rfl, rfl⟩) | (go_at_call 36; refine (first2d _ _ _).mono ?_; rintro e w' ⟨rfl, rfl⟩)))
    all_goals
      go_wp2
      go_ret
      rw [HE.out]
      exact ⟨rfl, (hb0.alloc _).drew⟩
end Go.Proofs.YtgghcfmpfneehaaGreatDoor
