/- Both disks look the same: the law's stands. -/
import Derived.Test.YtpngcmlaimcceaaPai
import Derived.Test.YtpngcmlaimcceaaNam
import Derived.Test.YtpngcmlaimcceaaNil
namespace Go.Proofs.Ytpngcmlaimcceaa
open Go.RowKit Go.Maps Go.WideMaps Go.Sort
theorem nms_len (l : Fs) : (nms l).length = l.length := by unfold nms; simp
theorem get_at {l : Fs} (hs : srt l) {k : Nat} (hk : k < l.length) : hasF l l[k].1 = true ∧ get l l[k].1 = l[k].2 := by
  have hh : hasF l l[k].1 = true := List.any_eq_true.2 ⟨l[k], List.getElem_mem hk, by simp⟩
  refine ⟨hh, ?_⟩
  have := one_of hs (get_mem hh) (List.getElem_mem hk) rfl
  exact congrArg Prod.snd this
theorem bad_of {n : List UInt8} (h : okN n) : badN n = false := by
  unfold badN
  exact decide_eq_false (fun h' => h'.elim h.1 (fun h2 => by have := h.2; omega))
theorem rd_at {d : PD} {C : Nat} (hF : Fine C d.seen) {k : Nat} (hk : k < d.seen.length) : d.rd d.seen[k].1 = (d.seen[k].2, 0) := by
  obtain ⟨h1, h2⟩ := get_at hF.srt hk
  unfold PD.rd
  rw [bad_of (hF.names _ (List.getElem_mem hk)), if_neg (by simp), h1, if_pos rfl, h2]
theorem same_w {f : FuncId} {args : Array Value} {W : World} {v : Value} (h : Calls Try.prog f args W fun e w' => e = .returned v ∧ w' = W) : Calls Try.prog f args W fun e w' => e = .returned v ∧ Bel W w' := h.mono fun _ _ ⟨he, hw⟩ => ⟨he, by rw [hw]; exact Bel.refl _⟩
set_option maxRecDepth 100000 in
set_option maxHeartbeats 4000000 in
theorem stands_any {C : Nat} {G : Nat → Prop} {w : World} {pd px : Nat} {d : PD} (h : Pr C G w pd px d d) (hC : C ≤ 1099511627776) :
    Calls Try.prog 13 #[.pointer (some ⟨pd, 0, none⟩), .pointer (some ⟨px, 0, none⟩)] w fun e w' => e = .returned (.bool true) ∧ Bel w w' := by
  have hfu := Try.follows
  obtain ⟨M1, B1, M2, B2, h1, h2, _⟩ := h.ex
  have hF := h1.fine
  have hlen : d.seen.length ≤ 4096 := hF.len
  have hnm := hide (names_any h1)
  rw [nms_len] at hnm
  obtain ⟨vk, vo, vn, g1, _⟩ := h2.co
  obtain ⟨an, cn, gn, hvn, _, hag, hcl⟩ := g1.now.shape
  obtain ⟨ao, co, hvo, _, _⟩ := own_shape g1.ops
  subst hvn hvo
  have HX := hide g1
  have H1 := hide h1
  have H2 := hide h2
  have HF := hide hF
  have HAG := hide hag
  have HCL := hide hcl
  have hgl : d.seen.length ≠ 0 → gn < w.heap.size := fun hn => by have := hag hn; subst this; exact (World.ownsRow.lt g1.now gn rfl).2
  have HGL := hide hgl
  clear h h1 h2 g1 hag hcl hF hgl
  go_enter Try.func13, Try.ntmps13
  go_wp2_with fail
  refine (unhide hnm).mono ?_
  rintro e w1 ⟨⟨g, cap, rfl, hrow⟩, hb1⟩
  have HROW := hide hrow
  clear hrow
  go_wp2_with fail
  have hne := BelBy.some w1
  have c3 := fun q : BelBy w1 => (cell_of (i := 3) ((hb1.trans q.h).row (unhide HX).row))
  have c2 := fun q : BelBy w1 => (cell_of (i := 2) ((hb1.trans q.h).row (unhide HX).row))
  have c3' : ∀ q : BelBy w1, q.W.cell? ⟨px, 3, none⟩ = some (.slice an d.seen.length cn) := c3
  have c2' : ∀ q : BelBy w1, q.W.cell? ⟨px, 2, none⟩ = some (.slice ao d.ops.length co) := c2
  clear c3 c2
  have u10 := hide (fun q : BelBy w1 => same_w (used_any ((unhide H1).bel (hb1.trans q.h))))
  have u11 := hide (fun q : BelBy w1 => same_w (dused_any ((unhide H2).bel (hb1.trans q.h)) hC))
  have u12 := hide (fun q : BelBy w1 => same_w (loose_any ((unhide H1).bel (hb1.trans q.h))))
  refine wp_region_bel hfu (by kernel_rfl) ?_
  repeat (go_big_quiet_step (first | (go_at_call 10; refine calls_by ((unhide u10) _)) | (go_at_call 11; refine calls_by ((unhide u11) _)) | (go_at_call 12; refine calls_by ((unhide u12) _))))
  refine wpQuiet_nil ?_
  rintro W2 ⟨p2, rfl⟩
  have hb2 := p2.h
  generalize p2.W = W2 at hb2
  clear u10 u11 u12 c3' c2' hne
  go_wp2_with fail
  go_loopw [6, 7, 8] (fun vi _ _ wr => ∃ k : Nat, k ≤ d.seen.length ∧ vi = .int .i64 k ∧ Hid (Bel w1 wr)) (fun vi _ _ _ => d.seen.length - (intOf vi).toNat)
  case atStart => exact ⟨0, Nat.zero_le _, rfl, hb2⟩
  case round =>
    obtain ⟨k, hk, rfl, HO⟩ := hrel
    by_cases hlt : k < d.seen.length
    · obtain rfl := HAG.out (by omega)
      have hgw := HGL.out (by omega)
      have x0 : wr.cell? ⟨g, k, none⟩ = some (.string ⟨d.seen[k].1.toArray⟩) := by
        have := row_at (unhide HROW) (w' := wr) (fun j hj => (unhide HO).block j ((unhide HROW).lt j hj).2)
        rw [this.cellAt k (by omega), List.getElem?_map]
        unfold nms
        rw [List.getElem?_map, List.getElem?_eq_getElem hlt]
        rfl
      have hx0 := hide x0
      have hnl : (d.seen[k].1).length ≤ maxLen := by have := ((unhide HF).names _ (List.getElem_mem hlt)).2; unfold maxLen; omega
      have hrd := hide (read_any ((unhide H1).bel (hb1.trans (unhide HO))) d.seen[k].1 hnl)
      rw [rd_at (unhide HF) hlt] at hrd
      have e1 := ((unhide HCL) k hlt).1
      have e2 := ((unhide HCL) k hlt).2
      generalize d.seen[k].1 = xn at x0 hx0 hnl hrd e1
      generalize d.seen[k].2 = xb at hrd e2
      have E1 := hide e1
      have E2 := hide e2
      clear e1 e2
      go_wp2_with (go_at_call 23; refine (unhide hrd).mono ?_; rintro e w5 ⟨rfl, hb5⟩)
      have hwl : Bel w w5 := (hb1.trans (unhide HO)).trans hb5
      have hne := BelBy.some w5
      have hglt : g < wr.heap.size := Nat.lt_of_lt_of_le ((unhide HROW).lt g rfl).2 (unhide HO).size
      have y0 : ∀ q : BelBy w5, q.W.cell? ⟨g, k, none⟩ = some (.string ⟨xn.toArray⟩) := fun q => ((hb5.trans q.h).cell hglt).trans (unhide hx0)
      have y3 : ∀ q : BelBy w5, q.W.cell? ⟨px, 3, none⟩ = some (.slice (some ⟨gn, 0, none⟩) d.seen.length cn) := fun q => cell_of ((hwl.trans q.h).row (unhide HX).row)
      have y1 : ∀ q : BelBy w5, q.W.cell? ⟨gn, k * 2, none⟩ = some (.string ⟨xn.toArray⟩) := fun q => ((hwl.trans q.h).cell hgw).trans (unhide E1)
      have y2 : ∀ q : BelBy w5, q.W.cell? ⟨gn, k * 2 + 1, none⟩ = some (.string ⟨xb.toArray⟩) := fun q => ((hwl.trans q.h).cell hgw).trans (unhide E2)
      have hki : (k : Int) < (d.seen.length : Int) := by omega
      clear x0
      refine wp_region_bel hfu (by kernel_rfl) ?_
      repeat (go_big_quiet_step (fail))
      refine wpQuiet_nil ?_
      rintro W6 ⟨p6, rfl⟩
      have hb6 := hide (((unhide HO).trans hb5).trans p6.h)
      generalize p6.W = W6 at hb6
      clear y0 y1 y2 y3 hne
      go_wp2_with fail
      go_roundw
      case rel => exact ⟨k + 1, by omega, by go_num, hb6⟩
      case measure => simp [intOf]; omega
    · go_wp2_with fail
      go_ret
      exact ⟨rfl, hb1.trans (unhide HO)⟩
end Go.Proofs.Ytpngcmlaimcceaa
