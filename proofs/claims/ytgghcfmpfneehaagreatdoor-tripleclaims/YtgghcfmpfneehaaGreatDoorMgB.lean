/- A row of schemas as it is read; the order of claim's search; BinarySearchFunc over such a row. isType, marksFit and Schema again: the world is left with draws and new blocks alone. Where a row of schemas is wrong first: wrongSchema. What a write claims by a schema, plain; when two writes claim one thing. A region that draws its order, whose own operations read alone and whose callees leave what was there: one walk. What claim answers. -/
import Derived.Test.YtgghcfmpfneehaaGreatDoorValR
import Derived.Test.YtgghcfmpfneehaaGreatDoorShelfB
import Derived.Lib.Bytealg
import Derived.Test.YtgghcfmpfneehaaGreatDoorTriH
import Derived.Shelf.SlSortCmp.QuietGrown
import Derived.BigQuiet
import Derived.Test.YtgghcfmpfneehaaGreatDoorTriC
import Derived.Test.YtgghcfmpfneehaaGreatDoorValA
import Derived.Test.YtgghcfmpfneehaaGreatDoorTriJ
namespace Go.Proofs.YtgghcfmpfneehaaGreatDoor
open Go.RowKit
theorem cmpB_eq (a b : List UInt8) : Lib.compareBytes a b = 0 ↔ a = b := by
  induction a generalizing b with
  | nil => cases b <;> simp [Lib.compareBytes]
  | cons x a ih =>
    cases b with
    | nil => simp [Lib.compareBytes]
    | cons y b =>
      unfold Lib.compareBytes
      by_cases h1 : x < y
      · have : x ≠ y := fun e => by subst e; have := UInt8.lt_iff_toNat_lt.1 h1; omega
        simp [h1, this]
      · by_cases h2 : y < x
        · have : x ≠ y := fun e => by subst e; have := UInt8.lt_iff_toNat_lt.1 h2; omega
          simp [h1, h2, this]
        · have : x = y := by
            apply UInt8.toNat_inj.1
            have := mt UInt8.lt_iff_toNat_lt.2 h1
            have := mt UInt8.lt_iff_toNat_lt.2 h2
            omega
          simp [this, ih]
theorem cmpB_lt' (a b : List UInt8) : Lib.compareBytes a b < 0 ↔ a < b := by
  induction a generalizing b with
  | nil => cases b <;> simp [Lib.compareBytes]
  | cons x a ih =>
    cases b with
    | nil => simp [Lib.compareBytes]
    | cons y b =>
      unfold Lib.compareBytes
      rw [List.cons_lt_cons_iff]
      by_cases h1 : x < y
      · simp [h1]
      · by_cases h2 : y < x
        · have : x ≠ y := fun e => by subst e; have := UInt8.lt_iff_toNat_lt.1 h2; omega
          simp [h1, h2, this]
        · have : x = y := by
            apply UInt8.toNat_inj.1
            have := mt UInt8.lt_iff_toNat_lt.2 h1
            have := mt UInt8.lt_iff_toNat_lt.2 h2
            omega
          simp [this, ih]
/-- A schema: its name, its type, its six marks. -/
abbrev Sm := ByteArray × Int × Bool × Bool × Bool × Bool × Bool × Bool
/-- Its cells. -/
def cl8 (S : Sm) : List Value := [.string S.1, .int .u8 S.2.1, .bool S.2.2.1, .bool S.2.2.2.1, .bool S.2.2.2.2.1, .bool S.2.2.2.2.2.1, .bool S.2.2.2.2.2.2.1, .bool S.2.2.2.2.2.2.2]
/-- A row of schemas as it is read. -/
def Row8 (W : World) (g off : Nat) (L : List Sm) : Prop := ∀ j (h : j < L.length) c v, (cl8 L[j])[c]? = some v → W.cell? ⟨g, off + j * 8 + c, none⟩ = some v
theorem Row8.next {W W' : World} {g off : Nat} {L : List Sm} (h : Row8 W g off L) (hb : Bel W W') : Row8 W' g off L := fun j hj c v hv => hb.cell (h j hj c v hv)
theorem Row8.cells {W : World} {g off : Nat} {L : List Sm} (h : Row8 W g off L) {j : Nat} (hj : j < L.length) {p : ByteArray} {t : Int} {l x tm od rv ct : Bool} (e : L[j] = (p, t, l, x, tm, od, rv, ct)) :
    W.cell? ⟨g, off + j * 8, none⟩ = some (.string p) ∧ W.cell? ⟨g, off + j * 8 + 1, none⟩ = some (.int .u8 t) ∧ W.cell? ⟨g, off + j * 8 + 2, none⟩ = some (.bool l) ∧ W.cell? ⟨g, off + j * 8 + 3, none⟩ = some (.bool x) ∧ W.cell? ⟨g, off + j * 8 + 4, none⟩ = some (.bool tm) ∧ W.cell? ⟨g, off + j * 8 + 5, none⟩ = some (.bool od) ∧ W.cell? ⟨g, off + j * 8 + 6, none⟩ = some (.bool rv) ∧ W.cell? ⟨g, off + j * 8 + 7, none⟩ = some (.bool ct) :=
  ⟨h j hj 0 _ (by rw [e]; rfl), h j hj 1 _ (by rw [e]; rfl), h j hj 2 _ (by rw [e]; rfl), h j hj 3 _ (by rw [e]; rfl), h j hj 4 _ (by rw [e]; rfl), h j hj 5 _ (by rw [e]; rfl), h j hj 6 _ (by rw [e]; rfl), h j hj 7 _ (by rw [e]; rfl)⟩
/-- How a schema stands to a name. -/
def cS (S : Sm) (q : ByteArray) : Int := Lib.compareBytes S.1.data.toList q.data.toList
set_option maxRecDepth 100000 in
theorem cl1_any (p : ByteArray) (t : Int) (l x tm od rv ct : Bool) (q : ByteArray) (w : World) : Calls Tryz.prog 78 #[.agg #[.string p, .int .u8 t, .bool l, .bool x, .bool tm, .bool od, .bool rv, .bool ct], .string q] w fun e w' => e = .returned (.int .i64 (cS (p, t, l, x, tm, od, rv, ct) q)) ∧ Bel w w' := by
  have hC := hide (fun W => Tryz.strings_Compare p q W)
  have HE := hide (show cS (p, t, l, x, tm, od, rv, ct) q = Lib.compareBytes p.data.toList q.data.toList from rfl)
  generalize cS (p, t, l, x, tm, od, rv, ct) q = E at HE ⊢
  rw [← HE.out] at hC
  go_enter Tryz.func78, Tryz.ntmps78
  go_wp2_with (go_at_call 79; refine (hC.out _).mono ?_; rintro e w1 ⟨rfl, rfl⟩)
  go_ret
  exact ⟨rfl, (Bel.refl _).alloc _⟩
/-- What the search answers. -/
def bsR (L : List Sm) (q : ByteArray) (i : Nat) (f : Bool) : Prop := i ≤ L.length ∧ (∀ k, k + 1 = i → ∀ h : k < L.length, cS L[k] q < 0) ∧ (∀ h : i < L.length, 0 ≤ cS L[i] q) ∧ (f = true ↔ ∃ h : i < L.length, cS L[i] q = 0)
set_option maxHeartbeats 1000000 in
set_option maxRecDepth 100000 in
theorem bs_any (a : Option Addr) (g off cap : Nat) (L : List Sm) (ha : L.length ≠ 0 → a = some ⟨g, off, none⟩) (q : ByteArray) (w : World) (hl : L.length ≤ 1000000) (hrow : Row8 w g off L) :
    Calls Tryz.prog 77 #[.slice a L.length cap, .string q, .func (.func 78) #[] #[]] w fun e w' => ∃ (i : Nat) (f : Bool), e = .returned (.tuple #[.int .i64 i, .bool f]) ∧ Bel w w' ∧ bsR L q i f := by
  obtain ⟨n, hn⟩ : ∃ n, L.length = n := ⟨_, rfl⟩
  rw [hn] at hl ha ⊢
  have HA := hide ha
  clear ha
  have Hn := hide hn
  have HR := hide hrow
  clear hn hrow
  go_enter Tryz.func77, Tryz.ntmps77
  go_wp2_with fail
  go_loopw [9, 10, 11] (fun vi vj _ W => ∃ i j : Nat, i ≤ j ∧ j ≤ n ∧ vi = .int .i64 i ∧ vj = .int .i64 j ∧ Bel w W ∧ Hid ((∀ k, k + 1 = i → ∀ h : k < L.length, cS L[k] q < 0) ∧ (∀ h : j < L.length, 0 ≤ cS L[j] q))) (fun vi vj _ _ => (intOf vj - intOf vi).toNat)
  case atStart => exact ⟨0, n, Nat.zero_le _, Nat.le_refl _, rfl, rfl, Bel.refl _, hide ⟨fun k hk => by omega, fun h => by have := Hn.out; omega⟩⟩
  case round =>
    obtain ⟨i, j, hij, hjn, rfl, rfl, hb, HI⟩ := hrel
    have HB := hide hb
    clear hb
    by_cases hlt : i < j
    · obtain ⟨h, hh⟩ : ∃ h : Nat, (i + j) / 2 = h := ⟨_, rfl⟩
      have hi1 : ((i : Int) + (j : Int)) / 2 = (h : Int) := by omega
      have hhl : h < L.length := by have := Hn.out; omega
      have hhn : h < n := by omega
      have ea := HA.out (by omega)
      subst ea
      obtain ⟨p, t, l, x, tm, od, rv, ct, he⟩ : ∃ p t l x tm od rv ct, L[h] = ((p, t, l, x, tm, od, rv, ct) : Sm) := ⟨_, _, _, _, _, _, _, _, rfl⟩
      have hC := hide (fun W => cl1_any p t l x tm od rv ct q W)
      rw [← he] at hC
      obtain ⟨c0, c1, c2, c3, c4, c5, c6, c7⟩ := (HR.out.next HB.out).cells hhl he
      obtain ⟨E, hE⟩ : ∃ E, cS L[h] q = E := ⟨_, rfl⟩
      rw [hE] at hC
      have HE := hide hE
      clear hE he
      have Hh := hide hh
      by_cases hE0 : E < 0
      · go_wp2_with (first | (go_at_call 78; refine (hC.out _).mono ?_; rintro e w1 ⟨rfl, hb1⟩) | go_in)
        refine ⟨⟨h + 1, j, by omega, hjn, by go_num, rfl, HB.out.trans hb1, hide ⟨fun k hk hkl => ?_, HI.out.2⟩⟩, ?_⟩
        · obtain rfl : k = h := by omega
          rw [HE.out]; exact hE0
        · simp [intOf]; omega
      · go_wp2_with (first | (go_at_call 78; refine (hC.out _).mono ?_; rintro e w1 ⟨rfl, hb1⟩) | go_in)
        refine ⟨⟨i, h, by omega, by omega, rfl, rfl, HB.out.trans hb1, hide ⟨HI.out.1, fun _ => by rw [HE.out]; exact hE0⟩⟩, ?_⟩
        simp [intOf]; omega
    · obtain rfl : i = j := by omega
      by_cases hn : i < n
      · have hhl : i < L.length := by have := Hn.out; omega
        have ea := HA.out (by omega)
        subst ea
        obtain ⟨p, t, l, x, tm, od, rv, ct, he⟩ : ∃ p t l x tm od rv ct, L[i] = ((p, t, l, x, tm, od, rv, ct) : Sm) := ⟨_, _, _, _, _, _, _, _, rfl⟩
        have hC := hide (fun W => cl1_any p t l x tm od rv ct q W)
        rw [← he] at hC
        obtain ⟨c0, c1, c2, c3, c4, c5, c6, c7⟩ := (HR.out.next HB.out).cells hhl he
        obtain ⟨E, hE⟩ : ∃ E, cS L[i] q = E := ⟨_, rfl⟩
        rw [hE] at hC
        have HE := hide hE
        clear hE he
        go_wp2_with (first | (go_at_call 78; refine (hC.out _).mono ?_; rintro e w1 ⟨rfl, hb1⟩) | go_in)
        go_ret2
        refine ⟨i, E == 0, rfl, HB.out.trans hb1, by have := Hn.out; omega, HI.out.1, HI.out.2, ?_⟩
        rw [beq_iff_eq]
        exact ⟨fun e => ⟨hhl, by rw [HE.out]; exact e⟩, fun ⟨_, e⟩ => by rw [HE.out] at e; exact e⟩
      · go_wp2_with fail
        go_ret2
        refine ⟨i, false, rfl, HB.out, by have := Hn.out; omega, HI.out.1, HI.out.2, ?_⟩
        exact ⟨(fun e => by cases e), (fun ⟨h, _⟩ => by have := Hn.out; omega)⟩
end Go.Proofs.YtgghcfmpfneehaaGreatDoor
namespace Go.Proofs.YtgghcfmpfneehaaGreatDoor
open Go.RowKit Go.Sort
/-- The world has grown by draws and by blocks alone. -/
def Gr (w w' : World) : Prop := ∃ n os, w' = grow (w.drewN n) os
theorem Gr.refl (w : World) : Gr w w := ⟨0, #[], by rw [grow_empty]; rfl⟩
theorem Gr.trans {a b c : World} (h : Gr a b) (k : Gr b c) : Gr a c := by
  obtain ⟨n, os, rfl⟩ := h
  obtain ⟨m, ps, rfl⟩ := k
  exact ⟨n + m, os ++ ps, by show grow (grow ((a.drewN n).drewN m) os) ps = _; rw [grow_grow, World.drewN_drewN]⟩
theorem Gr.alloc {w W : World} (h : Gr w W) (o : Obj) : Gr w (W.alloc o) := by
  obtain ⟨q, os, rfl⟩ := h
  exact ⟨q, os ++ #[o], by rw [alloc_eq_grow, grow_grow]⟩
theorem Gr.drew {w W : World} (h : Gr w W) : Gr w W.drew := by
  obtain ⟨q, os, rfl⟩ := h
  exact ⟨q + 1, os, rfl⟩
theorem Gr.bel {w W : World} (h : Gr w W) : Bel w W := by
  obtain ⟨q, os, rfl⟩ := h
  refine ⟨rfl, rfl, rfl, ?_, fun i hi => ?_⟩
  · rw [size_grow]; exact Nat.le_add_right _ _
  · exact heap_grow_old _ _ hi
set_option maxRecDepth 100000 in
theorem marks_gr (p : ByteArray) (t : Int) (l x tm od rv ct : Bool) (w : World) : Calls Tryz.prog 108 #[sc p t l x tm od rv ct] w fun e w' => e = .returned (.bool (mkF t tm od rv)) ∧ Gr w w' := by
  unfold sc
  cases tm <;> cases od <;> cases rv
  all_goals
    go_enter Tryz.func108, Tryz.ntmps108
    go_wp2_with fail
  all_goals go_ret
  all_goals
    refine ⟨?_, (Gr.refl _).alloc _⟩
    simp_all [mkF]
set_option maxHeartbeats 1000000 in
set_option maxRecDepth 100000 in
theorem schema_gr (p : ByteArray) (t : Int) (l x tm od rv ct : Bool) (w : World) : Calls Tryz.prog 76 #[sc p t l x tm od rv ct] w fun e w' => e = .returned (.int .i64 (eS p t tm od rv)) ∧ Gr w w' := by
  have hP := hide (fun W => pred_any p W)
  have hT := hide (fun W => isType_any t W)
  have hM := hide (fun W => marks_gr p t l x tm od rv ct W)
  have hF := hide (fun a b W => first2 a b W)
  have HE := hide (show eS p t tm od rv = fstE [eP p, eM t tm od rv] from rfl)
  generalize eS p t tm od rv = E at HE ⊢
  generalize eP p = P at HE hP
  unfold sc at hM ⊢
  rcases Bool.eq_false_or_eq_true (isT t) with h1 | h1
  · rcases Bool.eq_false_or_eq_true (mkF t tm od rv) with h2 | h2
    all_goals rw [h1] at hT
    all_goals rw [h2] at hM
    · rw [eM_yes h1 h2] at HE
      clear h1 h2
      go_enter Tryz.func76, Tryz.ntmps76
      go_wp2_with fail
      have h8 := C8.new p t l x tm od rv ct w
      have hb0 : Gr w (w.alloc (.cells #[.string p, .int .u8 t, .bool l, .bool x, .bool tm, .bool od, .bool rv, .bool ct] 91)) := (Gr.refl _).alloc _
      generalize w.alloc (.cells #[.string p, .int .u8 t, .bool l, .bool x, .bool tm, .bool od, .bool rv, .bool ct] 91) = W1 at h8 hb0 ⊢
      generalize w.heap.size = B at *
      have h9 := h8.next (Bel.refl _).drew
      clear h8
      go_region_held3 (fun W => W.cell? ⟨B, 0, none⟩ = some (.string p) ∧ W.cell? ⟨B, 1, none⟩ = some (.int .u8 t) ∧ W.cell? ⟨B, 2, none⟩ = some (.bool l) ∧ W.cell? ⟨B, 3, none⟩ = some (.bool x) ∧ W.cell? ⟨B, 4, none⟩ = some (.bool tm) ∧ W.cell? ⟨B, 5, none⟩ = some (.bool od) ∧ W.cell? ⟨B, 6, none⟩ = some (.bool rv) ∧ W.cell? ⟨B, 7, none⟩ = some (.bool ct)) (first | assumption | exact C8.next (by assumption) (by first | exact Gr.bel (by assumption) | exact (Bel.refl _).alloc _)) ((first | (go_at_call 40; refine (hP.out _).mono ?_; rintro e w' ⟨rfl, rfl⟩) | (go_at_call 107; refine (hT.out _).mono ?_; rintro e w' ⟨rfl, rfl⟩) | (go_at_call 108; refine (hM.out _).mono ?_; rintro e w' ⟨rfl, hb⟩) | (go_at_call 61; refine (unless_yes 43 _).mono ?_; rintro e w' ⟨rfl, rfl⟩) | (go_at_call 36; refine (hF.out _ _ _).mono ?_; rintro e w' ⟨rfl, rfl⟩)))
      all_goals
        go_wp2
        go_ret
        rw [HE.out]
        exact ⟨rfl, (hb0.drew.trans (by assumption)).alloc _⟩
    · rw [eM_no2 h2] at HE
      clear h1 h2
      go_enter Tryz.func76, Tryz.ntmps76
      go_wp2_with fail
      have h8 := C8.new p t l x tm od rv ct w
      have hb0 : Gr w (w.alloc (.cells #[.string p, .int .u8 t, .bool l, .bool x, .bool tm, .bool od, .bool rv, .bool ct] 91)) := (Gr.refl _).alloc _
      generalize w.alloc (.cells #[.string p, .int .u8 t, .bool l, .bool x, .bool tm, .bool od, .bool rv, .bool ct] 91) = W1 at h8 hb0 ⊢
      generalize w.heap.size = B at *
      have h9 := h8.next (Bel.refl _).drew
      clear h8
      go_region_held3 (fun W => W.cell? ⟨B, 0, none⟩ = some (.string p) ∧ W.cell? ⟨B, 1, none⟩ = some (.int .u8 t) ∧ W.cell? ⟨B, 2, none⟩ = some (.bool l) ∧ W.cell? ⟨B, 3, none⟩ = some (.bool x) ∧ W.cell? ⟨B, 4, none⟩ = some (.bool tm) ∧ W.cell? ⟨B, 5, none⟩ = some (.bool od) ∧ W.cell? ⟨B, 6, none⟩ = some (.bool rv) ∧ W.cell? ⟨B, 7, none⟩ = some (.bool ct)) (first | assumption | exact C8.next (by assumption) (by first | exact Gr.bel (by assumption) | exact (Bel.refl _).alloc _)) ((first | (go_at_call 40; refine (hP.out _).mono ?_; rintro e w' ⟨rfl, rfl⟩) | (go_at_call 107; refine (hT.out _).mono ?_; rintro e w' ⟨rfl, rfl⟩) | (go_at_call 108; refine (hM.out _).mono ?_; rintro e w' ⟨rfl, hb⟩) | (go_at_call 61; refine (unless_no 43 _).mono ?_; rintro e w' ⟨rfl, rfl⟩) | (go_at_call 36; refine (hF.out _ _ _).mono ?_; rintro e w' ⟨rfl, rfl⟩)))
      all_goals
        go_wp2
        go_ret
        rw [HE.out]
        exact ⟨rfl, (hb0.drew.trans (by assumption)).alloc _⟩
  · rw [h1] at hT
    rw [eM_no1 h1] at HE
    clear h1 hM
    go_enter Tryz.func76, Tryz.ntmps76
    go_wp2_with fail
    have h8 := C8.new p t l x tm od rv ct w
    have hb0 : Gr w (w.alloc (.cells #[.string p, .int .u8 t, .bool l, .bool x, .bool tm, .bool od, .bool rv, .bool ct] 91)) := (Gr.refl _).alloc _
    generalize w.alloc (.cells #[.string p, .int .u8 t, .bool l, .bool x, .bool tm, .bool od, .bool rv, .bool ct] 91) = W1 at h8 hb0 ⊢
    generalize w.heap.size = B at *
    have h9 := h8.next (Bel.refl _).drew
    clear h8
    rw [show Op.load 91 (Operand.tmp 1) = ldS from rfl]
    go_region_held3 (fun W => W.cell? ⟨B, 0, none⟩ = some (.string p) ∧ W.cell? ⟨B, 1, none⟩ = some (.int .u8 t) ∧ W.cell? ⟨B, 2, none⟩ = some (.bool l) ∧ W.cell? ⟨B, 3, none⟩ = some (.bool x) ∧ W.cell? ⟨B, 4, none⟩ = some (.bool tm) ∧ W.cell? ⟨B, 5, none⟩ = some (.bool od) ∧ W.cell? ⟨B, 6, none⟩ = some (.bool rv) ∧ W.cell? ⟨B, 7, none⟩ = some (.bool ct)) (first | assumption | exact C8.next (by assumption) (by first | exact Gr.bel (by assumption) | exact (Bel.refl _).alloc _)) ((first | (go_at_call 40; refine (hP.out _).mono ?_; rintro e w' ⟨rfl, rfl⟩) | (go_at_call 107; refine (hT.out _).mono ?_; rintro e w' ⟨rfl, rfl⟩) | (go_at_call 108; refine (hM.out _).mono ?_; rintro e w' ⟨rfl, hb⟩) | (go_at_call 61; refine (unless_no 43 _).mono ?_; rintro e w' ⟨rfl, rfl⟩) | (go_at_call 36; refine (first2d _ _ _).mono ?_; rintro e w' ⟨rfl, rfl⟩)))
    all_goals
      go_wp2
      go_ret
      rw [HE.out]
      exact ⟨rfl, (hb0.alloc _).drew⟩
end Go.Proofs.YtgghcfmpfneehaaGreatDoor
namespace Go.Proofs.YtgghcfmpfneehaaGreatDoor
open Go.RowKit Go.Sort
/-- The fault of a schema. -/
def eSm (S : Sm) : Int := eS S.1 S.2.1 S.2.2.2.2.1 S.2.2.2.2.2.1 S.2.2.2.2.2.2.1
/-- A row of schemas is wrong at a place. -/
def badS (L : List Sm) (i : Nat) : Prop := i = 256 ∨ (∃ h : i < L.length, eSm L[i] ≠ 0) ∨ ∃ k, k + 1 = i ∧ ∃ (h : k < L.length) (h' : i < L.length), Op.bytesLess L[k].1.toList L[i].1.toList = false
def wsR (L : List Sm) (at' : Nat) (f : Bool) : Prop := (f = true ∧ at' < L.length ∧ badS L at' ∧ ∀ j, j < at' → ¬ badS L j) ∨ (f = false ∧ at' = 0 ∧ ∀ j, j < L.length → ¬ badS L j)
set_option maxHeartbeats 1000000 in
set_option maxRecDepth 100000 in
theorem ws_any (a : Option Addr) (g off cap : Nat) (L : List Sm) (ha : L.length ≠ 0 → a = some ⟨g, off, none⟩) (w : World) (hl : L.length ≤ 1000000) (hrow : Row8 w g off L) (hg : L.length ≠ 0 → g < w.heap.size) :
    Calls Tryz.prog 41 #[.slice a L.length cap] w fun e w' => ∃ (i : Nat) (f : Bool), e = .returned (.tuple #[.int .i64 i, .bool f]) ∧ Bel w w' ∧ wsR L i f := by
  obtain ⟨n, hn⟩ : ∃ n, L.length = n := ⟨_, rfl⟩
  rw [hn] at hl ha hg ⊢
  have HA := hide ha
  have HG := hide hg
  clear ha hg
  have Hn := hide hn
  have HR := hide hrow
  clear hn hrow
  go_enter Tryz.func41, Tryz.ntmps41
  go_wp2_with fail
  go_loopw [4, 5, 8] (fun _ _ vi W => ∃ i : Nat, i ≤ n ∧ vi = .int .i64 i ∧ Bel w W ∧ Hid (∀ j, j < i → ¬ badS L j)) (fun _ _ vi _ => n - (intOf vi).toNat)
  case atStart => exact ⟨0, Nat.zero_le _, rfl, Bel.refl _, hide fun j hj => by omega⟩
  case round =>
    obtain ⟨i, hin, rfl, hb, HI⟩ := hrel
    have HB := hide hb
    clear hb
    by_cases hlt : i < n
    · have hil : i < L.length := by have := Hn.out; omega
      have ea := HA.out (by omega)
      subst ea
      obtain ⟨p, t, l, x, tm, od, rv, ct, he⟩ : ∃ p t l x tm od rv ct, L[i] = ((p, t, l, x, tm, od, rv, ct) : Sm) := ⟨_, _, _, _, _, _, _, _, rfl⟩
      obtain ⟨c0, c1, c2, c3, c4, c5, c6, c7⟩ := (HR.out.next HB.out).cells hil he
      have hS := hide (fun W => schema_gr p t l x tm od rv ct W)
      unfold sc at hS
      have hE : eSm L[i] = eS p t tm od rv := by rw [he]; rfl
      have Hp : Hid (L[i].1 = p) := hide (by rw [he])
      clear he
      rw [← hE] at hS
      clear hE
      go_wp2_with fail
      have hfol : Tryz.prog.follows .mixedOrders = true := by kernel_rfl
      have h8 := C8.new p t l x tm od rv ct wr
      have hb1 : Bel wr (wr.alloc (.cells #[.string p, .int .u8 t, .bool l, .bool x, .bool tm, .bool od, .bool rv, .bool ct] 91)) := (Bel.refl _).alloc _
      have hB : wr.heap.size < (wr.alloc (.cells #[.string p, .int .u8 t, .bool l, .bool x, .bool tm, .bool od, .bool rv, .bool ct] 91)).heap.size := by simp
      have hgl : g < wr.heap.size := Nat.lt_of_lt_of_le (HG.out (by omega)) HB.out.size
      clear c0 c1 c2 c3 c4 c5 c6 c7
      generalize wr.alloc (.cells #[.string p, .int .u8 t, .bool l, .bool x, .bool tm, .bool od, .bool rv, .bool ct] 91) = W1 at h8 hb1 hB ⊢
      have HB1 := hide (HB.out.trans hb1)
      have hg1 : g < W1.heap.size := Nat.lt_of_lt_of_le hgl hb1.size
      clear hb1 hgl
      generalize wr.heap.size = B at h8 hB ⊢
      obtain ⟨d0, d1, d2, d3, d4, d5, d6, d7⟩ := h8
      have g0 := fun n os => cell_grown hB d0 n os
      have g1 := fun n os => cell_grown hB d1 n os
      have g2 := fun n os => cell_grown hB d2 n os
      have g3 := fun n os => cell_grown hB d3 n os
      have g4 := fun n os => cell_grown hB d4 n os
      have g5 := fun n os => cell_grown hB d5 n os
      have g6 := fun n os => cell_grown hB d6 n os
      have g7 := fun n os => cell_grown hB d7 n os
      clear d0 d1 d2 d3 d4 d5 d6 d7
      by_cases h256 : i = 256
      · subst h256
        refine wp_region_quiet_grown hfol (by kernel_rfl) ?_
        repeat (go_big_quiet_step (first | (go_at_call 76; refine Calls.grown_of (hS.out _))))
        refine wpQuiet_nil ?_
        intro _ hw'
        obtain ⟨⟨nq, osq⟩, hw''⟩ := hw'
        subst hw''
        clear g0 g1 g2 g3 g4 g5 g6 g7
        have HB2 := hide (HB1.out.trans (Gr.bel ⟨nq, osq, rfl⟩))
        generalize grow (W1.drewN nq) osq = W2 at HB2 ⊢
        go_wp2_with fail
        go_ret2
        exact ⟨256, true, rfl, HB2.out, Or.inl ⟨rfl, hil, Or.inl rfl, HI.out⟩⟩
      · have h256' : ((i : Int) == 256) = false := by rw [beq_eq_false_iff_ne]; omega
        obtain ⟨E, hE⟩ : ∃ E, eSm L[i] = E := ⟨_, rfl⟩
        rw [hE] at hS
        have HE := hide hE
        have H256 := hide h256
        clear hE h256
        by_cases hE0 : E = 0
        · subst hE0
          by_cases hi0 : i = 0
          · subst hi0
            refine wp_region_quiet_grown hfol (by kernel_rfl) ?_
            repeat (go_big_quiet_step (first | (go_at_call 76; refine Calls.grown_of (hS.out _))))
            refine wpQuiet_nil ?_
            intro _ hw'
            obtain ⟨⟨nq, osq⟩, hw''⟩ := hw'
            subst hw''
            clear g0 g1 g2 g3 g4 g5 g6 g7
            have HB2 := hide (HB1.out.trans (Gr.bel ⟨nq, osq, rfl⟩))
            generalize grow (W1.drewN nq) osq = W2 at HB2 ⊢
            go_wp2_with fail
            refine ⟨⟨1, hlt, by go_num, HB2.out, hide fun j hj => ?_⟩, by simp [intOf]; omega⟩
            obtain rfl : j = 0 := by omega
            rintro (h | ⟨_, h⟩ | ⟨k, hk, _⟩)
            · omega
            · exact h HE.out
            · omega
          · obtain ⟨m, hm⟩ : ∃ m, m + 1 = i := ⟨i - 1, by omega⟩
            have hml : m < L.length := by omega
            have hmn : m < n := by omega
            have im : ((i : Int) - 1) = (m : Int) := by omega
            have ipos : 0 < i := by omega
            have Hm := hide hm
            clear hm hi0
            obtain ⟨p', t', l', x', tm', od', rv', ct', he'⟩ : ∃ p t l x tm od rv ct, L[m] = ((p, t, l, x, tm, od, rv, ct) : Sm) := ⟨_, _, _, _, _, _, _, _, rfl⟩
            have e0 := ((HR.out.next HB1.out).cells hml he').1
            have q0 := fun n os => cell_grown hg1 e0 n os
            have Hp' : Hid (L[m].1 = p') := hide (by rw [he'])
            clear he' e0
            obtain ⟨bl, hbl⟩ : ∃ bl, Op.bytesLess p'.toList p.toList = bl := ⟨_, rfl⟩
            have HBL := hide hbl
            cases bl
            · refine wp_region_quiet_grown hfol (by kernel_rfl) ?_
              repeat (go_big_quiet_step (first | (go_at_call 76; refine Calls.grown_of (hS.out _))))
              refine wpQuiet_nil ?_
              intro _ hw'
              obtain ⟨⟨nq, osq⟩, hw''⟩ := hw'
              subst hw''
              clear g0 g1 g2 g3 g4 g5 g6 g7 q0
              have HB2 := hide (HB1.out.trans (Gr.bel ⟨nq, osq, rfl⟩))
              generalize grow (W1.drewN nq) osq = W2 at HB2 ⊢
              go_wp2_with fail
              go_ret2
              exact ⟨i, true, rfl, HB2.out, Or.inl ⟨rfl, hil, Or.inr (Or.inr ⟨m, Hm.out, hml, hil, by rw [Hp'.out, Hp.out]; exact HBL.out⟩), HI.out⟩⟩
            · refine wp_region_quiet_grown hfol (by kernel_rfl) ?_
              repeat (go_big_quiet_step (first | (go_at_call 76; refine Calls.grown_of (hS.out _))))
              refine wpQuiet_nil ?_
              intro _ hw'
              obtain ⟨⟨nq, osq⟩, hw''⟩ := hw'
              subst hw''
              clear g0 g1 g2 g3 g4 g5 g6 g7 q0
              have HB2 := hide (HB1.out.trans (Gr.bel ⟨nq, osq, rfl⟩))
              generalize grow (W1.drewN nq) osq = W2 at HB2 ⊢
              go_wp2_with fail
              refine ⟨⟨i + 1, by omega, by go_num, HB2.out, hide fun j hj => ?_⟩, by simp [intOf]; omega⟩
              by_cases hji : j = i
              · subst hji
                rintro (h | ⟨_, h⟩ | ⟨k, hk, h1, h2, h⟩)
                · exact H256.out h
                · exact h HE.out
                · obtain rfl : k = m := by have := Hm.out; omega
                  rw [Hp'.out, Hp.out, HBL.out] at h
                  cases h
              · exact HI.out j (by omega)
        · have hE' : (E != 0) = true := by rw [bne_iff_ne]; exact hE0
          refine wp_region_quiet_grown hfol (by kernel_rfl) ?_
          repeat (go_big_quiet_step (first | (go_at_call 76; refine Calls.grown_of (hS.out _))))
          refine wpQuiet_nil ?_
          intro _ hw'
          obtain ⟨⟨nq, osq⟩, hw''⟩ := hw'
          subst hw''
          clear g0 g1 g2 g3 g4 g5 g6 g7
          have HB2 := hide (HB1.out.trans (Gr.bel ⟨nq, osq, rfl⟩))
          generalize grow (W1.drewN nq) osq = W2 at HB2 ⊢
          go_wp2_with fail
          go_ret2
          exact ⟨i, true, rfl, HB2.out, Or.inl ⟨rfl, hil, Or.inr (Or.inl ⟨hil, by rw [HE.out]; exact hE0⟩), HI.out⟩⟩
    · go_wp2_with fail
      go_ret2
      refine ⟨0, false, rfl, HB.out, Or.inr ⟨rfl, rfl, fun j hj => HI.out j (by have := Hn.out; omega)⟩⟩
end Go.Proofs.YtgghcfmpfneehaaGreatDoor
namespace Go.Proofs.YtgghcfmpfneehaaGreatDoor
open Go.RowKit
/-- What a write claims by a schema that is a list or not. -/
def clmS (ls : Bool) (u : Nat) (q : ByteArray) (k : Int) (b : Bool) (n : Int) (s : ByteArray) (v : Int) : List UInt8 := key q.data.toList ++ num u ++ if ls then byt k b n s v else []
theorem num_front {u u' : Nat} (hu : u < 2 ^ 64) (hu' : u' < 2 ^ 64) {x x' : List UInt8} (h : num u ++ x = num u' ++ x') : u = u' ∧ x = x' := by
  have h1 := rNum_back u hu ⟨x.toArray⟩
  have h2 := rNum_back u' hu' ⟨x'.toArray⟩
  have e : (⟨(num u).toArray⟩ : ByteArray) ++ ⟨x.toArray⟩ = ⟨(num u').toArray⟩ ++ ⟨x'.toArray⟩ := by
    apply ba_ext
    simpa [ba_app] using h
  rw [e, h2] at h1
  simp only [Prod.mk.injEq] at h1
  refine ⟨h1.1.symm, ?_⟩
  have := congrArg (fun s : ByteArray => s.data.toList) h1.2.1
  simpa using this.symm
theorem byt_one {k : Int} {b : Bool} {n : Int} {s : ByteArray} {v : Int} {k' : Int} {b' : Bool} {n' : Int} {s' : ByteArray} {v' : Int} (h : mayV k b n s v) (hr : inR n v) (h' : mayV k' b' n' s' v') (hr' : inR n' v') (e : byt k b n s v = byt k' b' n' s' v') : k = k' ∧ b = b' ∧ n = n' ∧ s = s' ∧ v = v' := by
  have h1 := rVal_back h hr ⟨#[]⟩
  have h2 := rVal_back h' hr' ⟨#[]⟩
  rw [e, h2] at h1
  simp only [Prod.mk.injEq] at h1
  exact ⟨h1.1.1.symm, h1.1.2.1.symm, h1.1.2.2.1.symm, h1.1.2.2.2.1.symm, h1.1.2.2.2.2.symm⟩
theorem clmS_one (ls : Bool) (q : ByteArray) {u u' : Nat} (hu : u < 2 ^ 64) (hu' : u' < 2 ^ 64) {k : Int} {b : Bool} {n : Int} {s : ByteArray} {v : Int} {k' : Int} {b' : Bool} {n' : Int} {s' : ByteArray} {v' : Int} (h : mayV k b n s v) (hr : inR n v) (h' : mayV k' b' n' s' v') (hr' : inR n' v') :
    clmS ls u q k b n s v = clmS ls u' q k' b' n' s' v' ↔ (u = u' ∧ (ls = true → k = k' ∧ b = b' ∧ n = n' ∧ s = s' ∧ v = v')) := by
  unfold clmS
  rw [List.append_assoc, List.append_assoc]
  constructor
  · intro e
    obtain ⟨e1, e2⟩ := num_front hu hu' (List.append_cancel_left e)
    refine ⟨e1, fun hl => ?_⟩
    rw [if_pos hl, if_pos hl] at e2
    exact byt_one h hr h' hr' e2
  · rintro ⟨rfl, e⟩
    cases ls
    · rfl
    · obtain ⟨rfl, rfl, rfl, rfl, rfl⟩ := e rfl
      rfl
end Go.Proofs.YtgghcfmpfneehaaGreatDoor
namespace Go.Proofs.YtgghcfmpfneehaaGreatDoor
open Go.RowKit
/-- A world in which all that was there stands. -/
structure BelBy (w : World) where
  W : World
  h : Bel w W
theorem BelBy.some (w : World) : Nonempty (BelBy w) := ⟨⟨w, Bel.refl _⟩⟩
theorem wp_region_bel {P : Program} {id : Nat} {Q : Exit → Act → World → Prop} {a : Act} {w : World} {l : List Oper} (hm : P.follows .mixedOrders = true) (hB : Region.lexB .any l.toArray = true)
    (h : wpQuiet P l.toArray (fun w' => ∃ p : BelBy w, w' = p.W) (fun a' => ∀ w', (∃ p : BelBy w, w' = p.W) → Q .normal a' w') l a) : (Code.region id l.toArray true).wp P Q a w :=
  wp_region_quiet (C := fun w' => ∃ p : BelBy w, w' = p.W) hm hB ⟨⟨w.drew, (Bel.refl _).drew⟩, rfl⟩ (by simpa using h)
theorem cell_bel {w : World} {k i : Nat} {v : Value} (h : w.cell? ⟨k, i, none⟩ = some v) (p : BelBy w) : p.W.cell? ⟨k, i, none⟩ = some v := p.h.cell h
theorem calls_by {P : Program} {f : FuncId} {args : Array Value} {w : World} {p : BelBy w} {v : Value}
    (h : Calls P f args p.W fun e w' => e = .returned v ∧ Bel p.W w') : Calls P f args p.W fun e w'' => e = .returned v ∧ ∃ p' : BelBy w, w'' = p'.W :=
  h.mono fun _ w' ⟨he, hb⟩ => ⟨he, ⟨w', p.h.trans hb⟩, rfl⟩
end Go.Proofs.YtgghcfmpfneehaaGreatDoor
namespace Go.Proofs.YtgghcfmpfneehaaGreatDoor
open Go.RowKit Go.Sort
/-- A write. -/
abbrev Wm := Bool × Nat × ByteArray × Int × Bool × Int × ByteArray × Int
/-- The fault of a write by a schema. -/
def eFm (S : Sm) (u : Int) (q : ByteArray) (k : Int) (b : Bool) (n : Int) (s : ByteArray) (v : Int) : Int := eF S.1 S.2.1 S.2.2.2.2.1 S.2.2.2.2.2.1 S.2.2.2.2.2.2.1 u q k b n s v
/-- What claim answers: the text, the fault. -/
def clmR (L : List Sm) (u : Nat) (q : ByteArray) (k : Int) (b : Bool) (n : Int) (s : ByteArray) (v : Int) (x : List UInt8) (e : Int) : Prop :=
  (eT u q k b n s v ≠ 0 ∧ x = [] ∧ e = eT u q k b n s v) ∨ (eT u q k b n s v = 0 ∧ ∃ i f, bsR L q i f ∧ ((f = false ∧ x = [] ∧ e = 5) ∨ (f = true ∧ ∃ h : i < L.length, (eFm L[i] u q k b n s v ≠ 0 ∧ x = [] ∧ e = eFm L[i] u q k b n s v) ∨ (eFm L[i] u q k b n s v = 0 ∧ x = clmS L[i].2.2.1 u q k b n s v ∧ e = 0))))
set_option maxHeartbeats 1000000 in
set_option maxRecDepth 100000 in
theorem claim_any (a : Option Addr) (g off cap : Nat) (L : List Sm) (ha : L.length ≠ 0 → a = some ⟨g, off, none⟩) (d : Bool) (u : Nat) (hu : u < 2 ^ 64) (q : ByteArray) (k : Int) (b : Bool) (n : Int) (s : ByteArray) (v : Int) (hr : inR n v) (w : World) (hl : L.length ≤ 1000000) (hrow : Row8 w g off L) :
    Calls Tryz.prog 42 #[.slice a L.length cap, wr d u q k b n s v] w fun e w' => ∃ x er, e = .returned (.tuple #[.string ⟨x.toArray⟩, .int .i64 er]) ∧ Bel w w' ∧ clmR L u q k b n s v x er := by
  have hC := hide (fun W => may_any u q k b n s v (by omega) W)
  obtain ⟨E, hE⟩ : ∃ E, eT u q k b n s v = E := ⟨_, rfl⟩
  rw [hE] at hC
  have HE := hide hE
  have hBS := hide (fun W (h : Row8 W g off L) => bs_any a g off cap L ha q W hl h)
  obtain ⟨ln, hln⟩ : ∃ ln, L.length = ln := ⟨_, rfl⟩
  rw [hln] at hl ha hBS ⊢
  have HA := hide ha
  clear ha
  have Hn := hide hln
  have HR := hide hrow
  clear hln hrow hE
  unfold et at hC
  unfold wr
  have h8 := hide (S8.new d u q k b n s v w)
  have hb0 : Bel w (w.alloc (.cells #[.bool d, .int .u64 u, .string q, .int .u8 k, .bool b, .int .i64 n, .string s, .int .u64 v] 29)) := (Bel.refl _).alloc _
  by_cases hE0 : E = 0
  · subst hE0
    go_enter Tryz.func42, Tryz.ntmps42
    go_wp2_with (first | (go_at_call 29; refine (hC.out _).mono ?_; rintro e w1 ⟨rfl, hb1⟩; obtain ⟨c0, c1, c2, c3, c4, c5, c6, c7⟩ := h8.out.next hb1))
    go_at_call 77
    refine (hBS.out _ ((HR.out.next hb0).next hb1)).mono ?_
    rintro e w2 ⟨i, f, rfl, hb2, HBS⟩
    cases f
    · clear hBS
      go_wp2_with fail
      go_ret2
      refine ⟨[], 5, rfl, (hb0.trans hb1).trans hb2, Or.inr ⟨HE.out, i, false, HBS, Or.inl ⟨rfl, rfl, rfl⟩⟩⟩
    · clear hBS
      go_wp2_with fail
      have hil : i < L.length := (HBS.2.2.2.1 rfl).1
      have hin : i < ln := by rw [← Hn.out]; exact hil
      have ea := HA.out (by omega)
      subst ea
      obtain ⟨p, t, l, x, tm, od, rv, ct, he⟩ : ∃ p t l x tm od rv ct, L[i] = ((p, t, l, x, tm, od, rv, ct) : Sm) := ⟨_, _, _, _, _, _, _, _, rfl⟩
      have hb3 := (hb0.trans hb1).trans hb2
      have h9 := (h8.out.next hb1).next hb2
      have h10 := (HR.out.next hb3).cells hil he
      have hF := hide (fun W => fits_any p t l x tm od rv ct d u q k b n s v (by omega) W)
      unfold sc wr at hF
      obtain ⟨F, hF'⟩ : ∃ F, eF p t tm od rv u q k b n s v = F := ⟨_, rfl⟩
      rw [hF'] at hF
      have HF : Hid (eFm L[i] u q k b n s v = F) := hide (by rw [he]; exact hF')
      have HL : Hid (L[i].2.2.1 = l) := hide (by rw [he])
      have HBS' := hide HBS
      have hgb : w.heap.size < w2.heap.size := Nat.lt_of_lt_of_le (by simp) ((hb1.trans hb2).size)
      clear c0 c1 c2 c3 c4 c5 c6 c7 h8 hC HBS hF' he hb0 hb1 hb2
      generalize w.heap.size = B at *
      have hfol : Tryz.prog.follows .mixedOrders = true := by kernel_rfl
      obtain ⟨d0, d1, d2, d3, d4, d5, d6, d7⟩ := h10
      have h9' := h9
      obtain ⟨c0, c1, c2, c3, c4, c5, c6, c7⟩ := h9'
      have D0 := cell_bel d0
      have D1 := cell_bel d1
      have D2 := cell_bel d2
      have D3 := cell_bel d3
      have D4 := cell_bel d4
      have D5 := cell_bel d5
      have D6 := cell_bel d6
      have D7 := cell_bel d7
      have C0 := cell_bel c0
      have C1 := cell_bel c1
      have C2 := cell_bel c2
      have C3 := cell_bel c3
      have C4 := cell_bel c4
      have C5 := cell_bel c5
      have C6 := cell_bel c6
      have C7 := cell_bel c7
      clear d0 d1 d3 d4 d5 d6 d7 c0 c1 c2 c3 c4 c5 c6 c7
      have hne := BelBy.some w2
      refine wp_region_bel hfol (by kernel_rfl) ?_
      repeat (go_big_quiet_step (first | (go_at_call 80; refine calls_by (hF.out _))))
      refine wpQuiet_nil ?_
      intro w3 hw'
      obtain ⟨⟨_, hb4⟩, hw''⟩ := hw'
      subst hw''
      clear D0 D1 D2 D3 D4 D5 D6 D7 C0 C1 C2 C3 C4 C5 C6 C7
      have HB4 := hide (hb3.trans hb4)
      have d2' := hb4.cell d2
      have h11 := h9.next hb4
      clear hF h9 d2 hb3 hb4 hne
      by_cases hF0 : F = 0
      · subst hF0
        have hps := name_short (eT_zero HE.out).2.1
        have hK := hide (fun W => key_any q (by have := key_small q (by omega); omega) W)
        have hN := hide (fun W => num_any u hu W)
        have hq1 : (num u).length ≤ 9 := num_len u hu
        have hq2 : (key q.data.toList).length ≤ 10000 := key_small q (by omega)
        have hV := hide (fun W => bytes_yes (eT_zero HE.out).2.2 hr.1 hr.2.1 hr.2.2.1 hr.2.2.2 W)
        have hq3 : (byt k b n s v).length ≤ 20000 := byt_len (eT_zero HE.out).2.2 hr
        have HX : Hid (∀ ls, clmS ls u q k b n s v = key q.data.toList ++ num u ++ if ls then byt k b n s v else []) := hide (fun _ => rfl)
        generalize num u = N at *
        generalize key q.data.toList = K at *
        generalize byt k b n s v = V at *
        unfold ev at hV
        have q1 : ¬ (9223372036854775807 < K.length + N.length) := by omega
        have q2 : ¬ (9223372036854775807 < K.length + N.length + V.length) := by omega
        clear hps hq1 hq2 hq3 hr
        go_wp2_with fail
        obtain ⟨c0, c1, c2, c3, c4, c5, c6, c7⟩ := h11
        have C1 := cell_bel c1
        have C2 := cell_bel c2
        have hne := BelBy.some w3
        refine wp_region_bel hfol (by kernel_rfl) ?_
        repeat (go_big_quiet_step (first | (go_at_call 81; refine calls_by (hK.out _)) | (go_at_call 51; refine calls_by (hN.out _))))
        refine wpQuiet_nil ?_
        intro w4 hw'
        obtain ⟨⟨_, hb5⟩, hw''⟩ := hw'
        subst hw''
        clear C1 C2 hne
        have HB5 := hide (HB4.out.trans hb5)
        have d2 := hb5.cell d2'
        replace c3 := hb5.cell c3
        replace c4 := hb5.cell c4
        replace c5 := hb5.cell c5
        replace c6 := hb5.cell c6
        replace c7 := hb5.cell c7
        clear c0 c1 c2 d2' hb5
        cases l
        · go_wp2_with fail
          go_ret2
          refine ⟨K ++ N, 0, ?_, HB5.out, Or.inr ⟨HE.out, i, true, HBS'.out, Or.inr ⟨rfl, hil, Or.inr ⟨HF.out, ?_, rfl⟩⟩⟩⟩
          · exact congrArg (fun t => Ending.returned (Value.tuple #[Value.string t, Value.int .i64 0])) (show (⟨K.toArray⟩ ++ ⟨N.toArray⟩ : ByteArray) = ⟨(K ++ N).toArray⟩ from by apply ba_ext; simp)
          · rw [HL.out, HX.out]; simp
        · go_wp2_with (first | (go_at_call 50; refine (hV.out _).mono ?_; rintro e w5 ⟨rfl, hb6⟩))
          go_ret2
          refine ⟨K ++ N ++ V, 0, ?_, HB5.out.trans hb6, Or.inr ⟨HE.out, i, true, HBS'.out, Or.inr ⟨rfl, hil, Or.inr ⟨HF.out, ?_, rfl⟩⟩⟩⟩
          · exact congrArg (fun t => Ending.returned (Value.tuple #[Value.string t, Value.int .i64 0])) (show (⟨K.toArray⟩ ++ ⟨N.toArray⟩ ++ ⟨V.toArray⟩ : ByteArray) = ⟨(K ++ N ++ V).toArray⟩ from by apply ba_ext; simp)
          · rw [HL.out, HX.out]; simp
      · have hF' : (F != 0) = true := by rw [bne_iff_ne]; exact hF0
        go_wp2_with fail
        go_ret2
        exact ⟨[], F, rfl, HB4.out, Or.inr ⟨HE.out, i, true, HBS'.out, Or.inr ⟨rfl, hil, Or.inl ⟨by rw [HF.out]; exact hF0, rfl, HF.out.symm⟩⟩⟩⟩
  · have hE' : (E != 0) = true := by rw [bne_iff_ne]; exact hE0
    go_enter Tryz.func42, Tryz.ntmps42
    go_wp2_with (first | (go_at_call 29; refine (hC.out _).mono ?_; rintro e w1 ⟨rfl, hb1⟩))
    go_ret2
    exact ⟨[], E, rfl, hb0.trans hb1, Or.inl ⟨by rw [HE.out]; exact hE0, rfl, HE.out.symm⟩⟩
end Go.Proofs.YtgghcfmpfneehaaGreatDoor
