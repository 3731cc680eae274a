/- Trim. -/
import Derived.Test.YtkpallbnmckbaaaTrc
import Derived.Test.YtkpallbnmckbaaaWkn
import Derived.Test.YtkpallbnmckbaaaGrw
namespace Go.Proofs.Ytkpallbnmckbaaa
open Go.RowKit
theorem en31 : En 31 := fun _ _ => by kernel_rfl
theorem trim_vis (w : World) (bl B Lb : Nat) (below : Int) : Vis w B 31 #[.pointer (some ⟨bl, 0, none⟩), .pointer (some ⟨B, 0, none⟩), .pointer (some ⟨Lb, 0, none⟩)] (TrJ w bl B Lb below) (fun s => s.1) (trS below) (fun s => s.2.length) 900000 where
  en := en31
  bnd := fun s W h => N4.of h.hB
  old := fun s W h => h.bel
  bel := fun s W W' h hb => h.next hb
  hq := fun s x => by unfold trS; simp only; split <;> simp
  go := fun s k t d v W h hl => trc_any k t d v W h hl
theorem Cs.storeq {w : World} {p : Nat} {v : Option Nat} {q : Option Addr} {l : List C} (hc : Cl w p v) (ht : TV w (.pointer q) l) (hs : Srt l) : Cs (w.setCell ⟨p, 1, none⟩ (.pointer q)) p l := by
  obtain ⟨o, e, ht⟩ := ht
  rw [e]
  refine ⟨⟨o, ?_, ht.at (fun k c hk => ?_)⟩, hs⟩
  · have := row_set (p := 1) (v := pt o) hc
    exact this
  · rw [Below.heap_setCell _ _ _ _ (fun e => ?_)]
    · exact hk
    · have e' : k = p := e
      subst e'
      rw [hc] at hk
      cases hk
theorem at_new3 (w : World) (o o' o'' : Obj) : (((w.alloc o).alloc o').alloc o'').heap[w.heap.size + 1 + 1]? = some o'' := by
  have := at_new2 (w.alloc o) o' o''
  rw [show (w.alloc o).heap.size = w.heap.size + 1 by simp] at this
  exact this
theorem tr_start (w : World) (below : Int) : TrJ w w.heap.size (w.heap.size + 1 + 1) (w.heap.size + 1) below (beh ⟨#[]⟩, []) (((w.alloc (.cells #[.int .u64 below] 27)).alloc (.cells #[.slice none 0 0] 25)).alloc (.cells #[.string ⟨#[]⟩, .int .u64 0, .bool false, .string ⟨#[]⟩] 38)) :=
  ⟨(((Bel.refl w).alloc _).alloc _).alloc _, (((Bel.refl _).alloc _).alloc _).row (at_new w _), at_new3 w _ _ _, ⟨.slice none 0 0, ((Bel.refl _).alloc _).row (at_new2 w _ _), OR.nil _ _, by simp [Value.ownBlock]⟩, by omega, by omega⟩
theorem trm_same {below : Int} {l : List C} (h : l.length ≤ (trm below l).length) : trm below l = l := (trF_sub below l []).eq_of_length (by have := trm_len below l; unfold trm at *; omega)
set_option maxRecDepth 100000 in
set_option maxHeartbeats 4000000 in
theorem trim_any {w : World} {p : Nat} {l : List C} (below : Int) (h : Cs w p l) (hg : Good l) (hl : l.length ≤ 80000) :
    Calls Try.prog 12 #[.pointer (some ⟨p, 0, none⟩), .int .u64 below] w fun e w' => e = .returned (.int .i64 ((l.length - (trm below l).length : Nat) : Int)) ∧ Cs w' p (trm below l) ∧ Ch (fun i => i = p) w w' := by
  have hfu := Try.follows
  obtain ⟨v, hc, ht⟩ := h.see
  obtain ⟨W0, hW0⟩ : ∃ W0, W0 = ((w.alloc (.cells #[.int .u64 below] 27)).alloc (.cells #[.slice none 0 0] 25)).alloc (.cells #[.string ⟨#[]⟩, .int .u64 0, .bool false, .string ⟨#[]⟩] 38) := ⟨_, rfl⟩
  have hb0 : Bel w W0 := by rw [hW0]; exact (((Bel.refl w).alloc _).alloc _).alloc _
  have hJ0 := tr_start w below
  rw [← hW0] at hJ0
  obtain ⟨b', hw⟩ := tr_all below h.srt hg
  have C29 := hide (tree_any (show Cl W0 p v from hb0.row hc))
  have C30 := hide (walk_any (trim_vis w w.heap.size (w.heap.size + 1 + 1) (w.heap.size + 1) below) (beh ⟨#[]⟩, []) W0 ht.tv h.srt hJ0 (by simp; omega))
  rw [hw] at C30
  have H := hide h
  have HC := hide hc
  have hlen := trm_len below l
  have HS := hide (trm_srt h.srt below)
  have HEQ : Hid (l.length ≤ (trm below l).length → trm below l = l) := hide trm_same
  generalize trm below l = r at *
  have HW0 := hide hW0
  clear h hc ht hb0 hJ0 hw hg hW0
  generalize pt v = pv at C29 C30
  go_enter Try.func12, Try.ntmps12
  go_wp2_with fail
  rw [← unhide HW0]
  refine (C29.out).mono ?_
  rintro e w1 ⟨rfl, hw1⟩
  rw [hw1]
  clear hw1
  go_wp2_with (go_at_call 30; refine (C30.out).mono ?_; rintro e w2 ⟨rfl, hJ2⟩)
  have hb2 := hJ2.bel
  have hcl2 : Cl w2.drew p v := hb2.row (unhide HC)
  have C20 := hide (lenC_any ((unhide H).bel hb2.drew))
  obtain ⟨vl, hv, hor, hvB⟩ := hJ2.row
  obtain ⟨al, cpl, gl, rfl, hal, hrow⟩ := hor.shape
  have hcap : r.length ≤ cpl := by
    rcases hor.2 with ⟨e, h0⟩ | ⟨_, _, _, e, _, _, hn, _⟩
    · have : r.length = 0 := h0; omega
    · injection e with _ e2 e3
      rw [e3]; exact hn
  have c1 : w2.drew.cell? ⟨w.heap.size + 1, 0, none⟩ = some (.slice al r.length cpl) := hv.cell
  have HC2 := hide hcl2
  have HB2 := hide hb2
  have C33 := hide (grown_any (L := r) (w := w2.drew) (cap := cpl) (by omega) (hrow.bel (Bel.refl _).drew) hal hcap)
  clear hJ2 hv hor hvB hrow hcl2 hb2 hal
  have hsz : wrap64 ((l.length : Int) - (r.length : Int)) = ((l.length - r.length : Nat) : Int) := by unfold wrap64; omega
  have hsz' : IntKind.i64.wrap ((l.length : Int) - (r.length : Int)) = ((l.length - r.length : Nat) : Int) := by rw [wrapI (by omega) (by omega)]; omega
  by_cases hw : l.length ≤ r.length
  · have HE := hide (HEQ.out hw)
    have hz : ¬ (0 : Int) < ((l.length - r.length : Nat) : Int) := by omega
    generalize hwn : l.length - r.length = wn at *
    have HWN := hide hwn.symm
    clear hwn
    generalize hll : l.length = ll at hlen hw hsz hsz' C20
    generalize hrl : r.length = rl at hlen hw hsz hsz' c1 C33
    clear hll hrl
    refine wp_region_still_lit hfu (by kernel_rfl) ?_
    change wpStill _ _ (World.drew w2) (fun a' => (_ : Exit → Act → World → Prop) Exit.normal a' (World.drew w2)) _ _
    have HD := hide (Bel.refl w2).drew
    generalize w2.drew = W2 at *
    repeat still_step
    still_call (unhide C20)
    repeat still_step
    refine wpStill_nil ?_
    go_wp2_with fail
    go_ret
    rw [← HWN.out]
    refine ⟨rfl, ?_, ?_⟩
    · rw [HE.out]; exact (unhide H).bel ((unhide HB2).trans (unhide HD))
    · exact ((unhide HB2).trans (unhide HD)).ch _
  · have hz : (0 : Int) < ((l.length - r.length : Nat) : Int) := by omega
    generalize hwn : l.length - r.length = wn at *
    have HWN := hide hwn.symm
    clear hwn
    generalize hll : l.length = ll at hlen hw hsz hsz' C20
    generalize hrl : r.length = rl at hlen hw hsz hsz' c1 C33
    clear hll hrl
    refine wp_region_still_lit hfu (by kernel_rfl) ?_
    change wpStill _ _ (World.drew w2) (fun a' => (_ : Exit → Act → World → Prop) Exit.normal a' (World.drew w2)) _ _
    have HD := hide (Bel.refl w2).drew
    generalize w2.drew = W2 at *
    repeat still_step
    still_call (unhide C20)
    repeat still_step
    refine wpStill_nil ?_
    go_wp2_with (go_at_call 33; refine (C33.out).mono ?_; rintro e w3 ⟨q, rfl, hb3, ht3⟩; have k1 : w3.cell? ⟨p, 1, none⟩ = some (pt v) := cell_of (hb3.row (unhide HC2)); have k2 : w3.frozen? ⟨p, 1, none⟩ = false := free_row (hb3.row (unhide HC2)); have HCS := hide (Cs.storeq (show Cl w3 p v from hb3.row (unhide HC2)) ht3 (unhide HS)); have HCH := hide ((((unhide HB2).trans (unhide HD)).trans hb3).ch (fun i => i = p)); clear hb3 ht3)
    go_ret
    rw [← HWN.out]
    exact ⟨rfl, unhide HCS, (unhide HCH).set (Or.inl rfl) _⟩
set_option maxRecDepth 100000 in
set_option maxHeartbeats 2000000 in
theorem trim_nil (below : Int) (w : World) : Calls Try.prog 12 #[.pointer none, .int .u64 below] w fun e w' => e = .returned (.int .i64 0) ∧ Bel w w' := by
  have hfu := Try.follows
  obtain ⟨W0, hW0⟩ : ∃ W0, W0 = ((w.alloc (.cells #[.int .u64 below] 27)).alloc (.cells #[.slice none 0 0] 25)).alloc (.cells #[.string ⟨#[]⟩, .int .u64 0, .bool false, .string ⟨#[]⟩] 38) := ⟨_, rfl⟩
  have HB := hide (show Bel w W0 by rw [hW0]; exact (((Bel.refl w).alloc _).alloc _).alloc _)
  have hJ0 := tr_start w below
  rw [← hW0] at hJ0
  obtain ⟨vl, hv, hor, hvB⟩ := hJ0.row
  have hq : W0.heap[w.heap.size + 1]? = some (.cells #[.slice none 0 0] 25) := by rw [hW0]; exact ((Bel.refl _).alloc _).row (at_new2 w _ _)
  have c1 : W0.drew.cell? ⟨w.heap.size + 1, 0, none⟩ = some (.slice none 0 0) := cell_of hq
  have HW0 := hide hW0
  have C20 := hide (len_nil W0.drew)
  clear hW0 hJ0 hv hor hvB hq
  go_enter Try.func12, Try.ntmps12
  go_wp2_with fail
  rw [← unhide HW0]
  refine (tree_nil W0).mono ?_
  rintro e w1 ⟨rfl, hw1⟩
  rw [hw1]
  clear hw1
  go_wp2_with (go_at_call 30; refine (walk_nil _ _ _).mono ?_; rintro e w2 ⟨rfl, hw2⟩; rw [hw2]; clear hw2)
  refine wp_region_still_lit hfu (by kernel_rfl) ?_
  change wpStill _ _ (World.drew W0) (fun a' => (_ : Exit → Act → World → Prop) Exit.normal a' (World.drew W0)) _ _
  have HD := hide (Bel.refl W0).drew
  generalize W0.drew = W2 at *
  repeat still_step
  still_call (unhide C20)
  repeat still_step
  refine wpStill_nil ?_
  go_wp2_with fail
  go_ret
  exact ⟨rfl, (unhide HB).trans (unhide HD)⟩
end Go.Proofs.Ytkpallbnmckbaaa
