/- Two of the document's disks held against each other: its SameFiles and Same. -/
import Derived.Test.YtpngcmlaimcceaaSta
namespace Go.Proofs.Ytpngcmlaimcceaa
open Go.RowKit Go.Maps Go.WideMaps
theorem take_all {a b : Fs} (hl : a.length = b.length) (h : ∀ j (h1 : j < a.length) (h2 : j < b.length), a[j] = b[j]) : a = b := List.ext_getElem hl h
set_option maxRecDepth 100000 in
set_option maxHeartbeats 2000000 in
theorem dsamef_any (a b : Fs) (va vb : Value) (w : World) (hra : Rf w va a) (hrb : Rf w vb b) (hla : a.length ≤ 1000000) :
    Calls Try.prog 36 #[va, vb] w fun e w' => e = .returned (.bool (decide (a = b))) ∧ Bel w w' := by
  have hfu := Try.follows
  obtain ⟨aa, ca, ga, rfl, _, ha, hcla⟩ := hra.shape
  obtain ⟨ab, cb, gb, rfl, _, hb, hclb⟩ := hrb.shape
  have HA := hide ha
  have HB := hide hb
  have HCA := hide hcla
  have HCB := hide hclb
  have HGA : Hid (a.length ≠ 0 → ga < w.heap.size) := fun h0 => by have := ha h0; subst this; exact (World.ownsRow.lt hra ga rfl).2
  have HGB : Hid (b.length ≠ 0 → gb < w.heap.size) := fun h0 => by have := hb h0; subst this; exact (World.ownsRow.lt hrb gb rfl).2
  clear ha hb hcla hclb hra hrb
  by_cases hl : a.length = b.length
  · have hli : (a.length : Int) = (b.length : Int) := by omega
    have HL := hide hl
    clear hl
    go_enter Try.func36, Try.ntmps36
    go_wp2_with fail
    go_loopw [5] (fun vi wr => ∃ k : Nat, k ≤ a.length ∧ vi = .int .i64 k ∧ Hid (Bel w wr ∧ ∀ j (h1 : j < a.length) (h2 : j < b.length), j < k → a[j] = b[j])) (fun vi _ => a.length - (intOf vi).toNat)
    case atStart => exact ⟨0, Nat.zero_le _, rfl, hide ⟨Bel.refl w, fun j _ _ hj => absurd hj (by omega)⟩⟩
    case round =>
      obtain ⟨k, hk, rfl, HO⟩ := hrel
      by_cases hlt : k < a.length
      · have hltb : k < b.length := by have := HL.out; omega
        obtain rfl := HA.out (by omega)
        obtain rfl := HB.out (by omega)
        have hga := HGA.out (by omega)
        have hgb := HGB.out (by omega)
        have x0 := ((unhide HO).1.cell hga).trans ((unhide HCA) k hlt).1
        have x1 := ((unhide HO).1.cell hga).trans ((unhide HCA) k hlt).2
        have y0 := ((unhide HO).1.cell hgb).trans ((unhide HCB) k hltb).1
        have y1 := ((unhide HO).1.cell hgb).trans ((unhide HCB) k hltb).2
        have hki : (k : Int) < (b.length : Int) := by omega
        by_cases he : a[k] = b[k]
        · have HE : Hid (∀ j (h1 : j < a.length) (h2 : j < b.length), j < k + 1 → a[j] = b[j]) := fun j h1 h2 hj => by
            rcases Nat.lt_or_ge j k with h' | h'
            · exact (unhide HO).2 j h1 h2 h'
            · have : j = k := by omega
              subst this; exact he
          rw [he] at x0 x1
          have HBL := hide (unhide HO).1
          clear HO he
          generalize b[k].1 = p1 at x0 y0
          generalize b[k].2 = p2 at x1 y1
          go_wp2_with fail
          refine wp_region_still_lit hfu (by kernel_rfl) ?_
          change wpStill _ _ (World.drew _) (fun a' => (_ : Exit → Act → World → Prop) Exit.normal a' (World.drew _)) _ _
          repeat still_step
          refine wpStill_nil ?_
          go_wp2_with fail
          go_roundw
          case rel => exact ⟨k + 1, by omega, by go_num, hide ⟨(unhide HBL).drew, unhide HE⟩⟩
          case measure => simp [intOf]; omega
        · have hbad : Hid (a ≠ b) := fun e => he (by subst e; rfl)
          have HBL := hide (unhide HO).1
          clear HO
          have hsp : ¬ (a[k].1 = b[k].1 ∧ a[k].2 = b[k].2) := fun h => he (Prod.ext h.1 h.2)
          clear he
          generalize a[k].1 = p1 at x0 hsp
          generalize a[k].2 = p2 at x1 hsp
          generalize b[k].1 = q1 at y0 hsp
          generalize b[k].2 = q2 at y1 hsp
          by_cases e1 : p1 = q1
          · subst e1
            have he : ¬ p2 = q2 := fun h => hsp ⟨rfl, h⟩
            clear hsp
            have hs : ((⟨p2.toArray⟩ : ByteArray).toList == (⟨q2.toArray⟩ : ByteArray).toList) = false := by rw [str_same]; simp [he]
            have hs2 : (p2 == q2) = false := by simpa using he
            go_wp2_with fail
            refine wp_region_still_lit hfu (by kernel_rfl) ?_
            change wpStill _ _ (World.drew _) (fun a' => (_ : Exit → Act → World → Prop) Exit.normal a' (World.drew _)) _ _
            repeat still_step
            refine wpStill_nil ?_
            go_wp2_with fail
            go_ret
            exact ⟨by rw [decide_eq_false (unhide hbad)]; rfl, (unhide HBL).drew⟩
          · have he : ¬ p1 = q1 := e1
            clear hsp e1
            have hs : ((⟨p1.toArray⟩ : ByteArray).toList == (⟨q1.toArray⟩ : ByteArray).toList) = false := by rw [str_same]; simp [he]
            have hs2 : (p1 == q1) = false := by simpa using he
            go_wp2_with fail
            refine wp_region_still_lit hfu (by kernel_rfl) ?_
            change wpStill _ _ (World.drew _) (fun a' => (_ : Exit → Act → World → Prop) Exit.normal a' (World.drew _)) _ _
            repeat still_step
            refine wpStill_nil ?_
            go_wp2_with fail
            go_ret
            exact ⟨by rw [decide_eq_false (unhide hbad)]; rfl, (unhide HBL).drew⟩
      · have hfin : Hid (a = b) := take_all HL.out (fun j h1 h2 => (unhide HO).2 j h1 h2 (by omega))
        have HBL := hide (unhide HO).1
        clear HO
        have hki : ¬ (k : Int) < (b.length : Int) := by omega
        go_wp2_with fail
        go_ret
        exact ⟨by rw [decide_eq_true (unhide hfin)]; rfl, unhide HBL⟩
  · have hbad : Hid (a ≠ b) := fun e => hl (by rw [e])
    have hli : ¬ (a.length : Int) = (b.length : Int) := by omega
    clear hl
    go_enter Try.func36, Try.ntmps36
    go_wp2_with fail
    go_ret
    exact ⟨by rw [decide_eq_false (unhide hbad)]; rfl, Bel.refl w⟩
/-- Do two of the document's disks look the same? -/
def smD (d x : PD) : Bool := decide (d.seen = x.seen) && (decide (d.synced = x.synced) && decide (d.ops.length = x.ops.length))
set_option maxRecDepth 100000 in
set_option maxHeartbeats 4000000 in
theorem dsame_any {C C' : Nat} {w : World} {p q : Nat} {d x : PD} {M B M' B' : Nat → Prop} (h1 : Dx C w p d M B) (h2 : Dx C' w q x M' B') :
    Calls Try.prog 18 #[.pointer (some ⟨p, 0, none⟩), .pointer (some ⟨q, 0, none⟩)] w fun e w' => e = .returned (.bool (smD d x)) ∧ Bel w w' := by
  have hfu := Try.follows
  have f1 := h1.fine
  have k1 := h1.val.head
  obtain ⟨vk, vo, vn, hc, _⟩ := h1.co
  obtain ⟨vk', vo', vn', hc', _⟩ := h2.co
  obtain ⟨a4, c4, rfl⟩ : ∃ a c, vo = .slice a d.ops.length c := by obtain ⟨a, c, h, _⟩ := own_shape hc.ops; exact ⟨a, c, h⟩
  obtain ⟨a5, c5, rfl⟩ : ∃ a c, vo' = .slice a x.ops.length c := by obtain ⟨a, c, h, _⟩ := own_shape hc'.ops; exact ⟨a, c, h⟩
  obtain ⟨a6, c6, rfl⟩ : ∃ a c, vk = .slice a d.synced.length c := by obtain ⟨a, c, h, _⟩ := own_shape hc.kept; exact ⟨a, c, h⟩
  obtain ⟨a7, c7, rfl⟩ : ∃ a c, vk' = .slice a x.synced.length c := by obtain ⟨a, c, h, _⟩ := own_shape hc'.kept; exact ⟨a, c, h⟩
  obtain ⟨a8, c8, rfl⟩ : ∃ a c, vn = .slice a d.seen.length c := by obtain ⟨a, c, h, _⟩ := own_shape hc.now; exact ⟨a, c, h⟩
  obtain ⟨a9, c9, rfl⟩ : ∃ a c, vn' = .slice a x.seen.length c := by obtain ⟨a, c, h, _⟩ := own_shape hc'.now; exact ⟨a, c, h⟩
  have hne := BelBy.some w
  have u3 := hide (fun r : BelBy w => dsamef_any d.seen x.seen _ _ r.W (hc.now.bel r.h) (hc'.now.bel r.h) (by have := f1.len; omega))
  have u4 := hide (fun r : BelBy w => dsamef_any d.synced x.synced _ _ r.W (hc.kept.bel r.h) (hc'.kept.bel r.h) (by have := k1.len; omega))
  have x1 : ∀ r : BelBy w, r.W.cell? ⟨p, 1, none⟩ = some (.slice a6 d.synced.length c6) := fun r => cell_of (i := 1) (r.h.row hc.row)
  have x2 : ∀ r : BelBy w, r.W.cell? ⟨p, 2, none⟩ = some (.slice a4 d.ops.length c4) := fun r => cell_of (i := 2) (r.h.row hc.row)
  have x3 : ∀ r : BelBy w, r.W.cell? ⟨p, 3, none⟩ = some (.slice a8 d.seen.length c8) := fun r => cell_of (i := 3) (r.h.row hc.row)
  have y1 : ∀ r : BelBy w, r.W.cell? ⟨q, 1, none⟩ = some (.slice a7 x.synced.length c7) := fun r => cell_of (i := 1) (r.h.row hc'.row)
  have y2 : ∀ r : BelBy w, r.W.cell? ⟨q, 2, none⟩ = some (.slice a5 x.ops.length c5) := fun r => cell_of (i := 2) (r.h.row hc'.row)
  have y3 : ∀ r : BelBy w, r.W.cell? ⟨q, 3, none⟩ = some (.slice a9 x.seen.length c9) := fun r => cell_of (i := 3) (r.h.row hc'.row)
  clear hc hc' h1 h2 f1 k1
  cases e2 : decide (d.seen = x.seen)
  · have er : smD d x = false := by unfold smD; rw [e2]; rfl
    rw [er]
    rw [e2] at u3
    clear er
    go_enter Try.func18, Try.ntmps18
    go_wp2_with fail
    refine wp_region_bel hfu (by kernel_rfl) ?_
    repeat (go_big_quiet_step (first | (go_at_call 36; with_reducible refine calls_by ((unhide u3) _)) | (go_at_call 36; with_reducible refine calls_by ((unhide u4) _))))
    refine wpQuiet_nil ?_
    rintro W2 ⟨p2, rfl⟩
    go_wp2_with fail
    go_ret
    exact ⟨rfl, p2.h⟩
  · rw [e2] at u3
    cases e3 : decide (d.synced = x.synced)
    · have er : smD d x = false := by unfold smD; rw [e2, e3]; rfl
      rw [er]
      rw [e3] at u4
      clear er
      go_enter Try.func18, Try.ntmps18
      go_wp2_with fail
      refine wp_region_bel hfu (by kernel_rfl) ?_
      repeat (go_big_quiet_step (first | (go_at_call 36; with_reducible refine calls_by ((unhide u3) _)) | (go_at_call 36; with_reducible refine calls_by ((unhide u4) _))))
      refine wpQuiet_nil ?_
      rintro W2 ⟨p2, rfl⟩
      go_wp2_with fail
      go_ret
      exact ⟨rfl, p2.h⟩
    · rw [e3] at u4
      by_cases e1 : d.ops.length = x.ops.length
      · have er : smD d x = true := by unfold smD; rw [e2, e3, decide_eq_true e1]; rfl
        rw [er]
        have e1' : (d.ops.length : Int) = (x.ops.length : Int) := by omega
        clear e1 er
        go_enter Try.func18, Try.ntmps18
        go_wp2_with fail
        refine wp_region_bel hfu (by kernel_rfl) ?_
        repeat (go_big_quiet_step (first | (go_at_call 36; with_reducible refine calls_by ((unhide u3) _)) | (go_at_call 36; with_reducible refine calls_by ((unhide u4) _))))
        refine wpQuiet_nil ?_
        rintro W2 ⟨p2, rfl⟩
        go_wp2_with fail
        go_ret
        exact ⟨rfl, p2.h⟩
      · have er : smD d x = false := by unfold smD; rw [e2, e3, decide_eq_false e1]; rfl
        rw [er]
        have e1b : ((d.ops.length : Int) == (x.ops.length : Int)) = false := beq_eq_false_iff_ne.2 (by omega)
        clear e1 er
        go_enter Try.func18, Try.ntmps18
        go_wp2_with fail
        refine wp_region_bel hfu (by kernel_rfl) ?_
        repeat (go_big_quiet_step (first | (go_at_call 36; with_reducible refine calls_by ((unhide u3) _)) | (go_at_call 36; with_reducible refine calls_by ((unhide u4) _))))
        refine wpQuiet_nil ?_
        rintro W2 ⟨p2, rfl⟩
        go_wp2_with fail
        go_ret
        exact ⟨rfl, p2.h⟩
end Go.Proofs.Ytpngcmlaimcceaa
