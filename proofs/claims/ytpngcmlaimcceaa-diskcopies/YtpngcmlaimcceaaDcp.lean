/- The document's Copy. -/
import Derived.Test.YtpngcmlaimcceaaCln
import Derived.Deep.RegionHeldLaw
namespace Go.Proofs.Ytpngcmlaimcceaa
open Go.RowKit Go.Maps Go.WideMaps
/-- A row of nothing that was made behind w. -/
structure Em (w W : World) (H : Nat) (e : TypeId) : Prop where
  ge : w.heap.size ≤ H
  row : W.heap[H]? = some (.cells #[] e)
theorem Em.new {w W : World} {H : Nat} {e : TypeId} (hs : w.heap.size ≤ W.heap.size) (hH : W.heap.size = H) : Em w (W.alloc (.cells #[] e)) H e := by
  subst hH
  exact ⟨hs, at_new W _⟩
theorem Em.alloc {w W : World} {H : Nat} {e : TypeId} {o : Obj} (h : Em w W H e) : Em w (W.alloc o) H e := ⟨h.ge, by rw [(MapKept.heap_alloc W o).2 H (lt_of_some h.row)]; exact h.row⟩
theorem Em.drew {w W : World} {H : Nat} {e : TypeId} (h : Em w W H e) : Em w W.drew H e := ⟨h.ge, h.row⟩
theorem cell_dr {w : World} {p i : Nat} {v : Value} (h : w.cell? ⟨p, i, none⟩ = some v) : w.drew.cell? ⟨p, i, none⟩ = some v := h
theorem Em.app {w W w' : World} {H H' : Nat} {e : TypeId} (h : Em w W H e) (hg : W.grownBy w' (some H')) (hne : H ≠ H') : Em w w' H e := ⟨h.ge, by rw [hg.block H (lt_of_some h.row) (by simpa using hne)]; exact h.row⟩
theorem own_next {W0 W w' : World} {b H g n cap size : Nat} {e : TypeId} {xs : List Value} (h : W0.ownsRow b e size (.slice (some ⟨g, 0, none⟩) n cap) n xs) (hb : Bel W0 W) (hg : W.grownBy w' (some H)) (hne : g ≠ H) : w'.ownsRow b e size (.slice (some ⟨g, 0, none⟩) n cap) n xs := by
  have hl := (h.lt g rfl).2
  exact row_at h (fun k hk => by cases hk; rw [hg.block g (Nat.lt_of_lt_of_le hl hb.size) (by simpa using hne)]; exact hb.block g hl)
theorem step_copy {ops : Array Oper} {E : Prop} {o : Oper} {a : Act} {K : Act → World → Prop} {Q : Exit → Act → World → Prop} {W : World} (hgd : o.guard = none) (s x : Operand) (t e : TypeId) (ho : o.op = .call { callee := .builtin .append, args := #[s, x], argTypes := #[t, t] })
    (i : TypeInfo) (z : Value) (size bytes : Nat) (ht : Try.prog.underlying t = some (.slice e)) (hi : Try.prog.info? e = some i) (hz : i.zero = some z) (hsize : i.size = size) (hby : i.bytes = bytes) (hzs : z.cells.size = size) (hsz : 0 < size)
    (w : World) (H : Nat) (hs : a.eval s = .slice (some ⟨H, 0, none⟩) 0 0) (hE : Em w W H e) (v : Value) (n : Nat) (xs : List Value) (hx : a.eval x = v) (hr : W.ownsRow 0 e size v n xs) (h1 : ∀ u ∈ xs, u.oneCell' = true)
    (hn : n ≤ 100000) (hbytes : n * bytes ≤ 140737488355328)
    (hK : ∀ g cap w', w'.ownsRow w.heap.size e size (.slice (some ⟨g, 0, none⟩) n cap) n xs → W.grownBy w' (some H) → (g = H ∨ g = W.heap.size) → g < w'.heap.size → K (a.put o.dst (.slice (some ⟨g, 0, none⟩) n cap)) w') : if Region.wanted o (yielded ops a.tmps) = true then Oper.wp Try.prog o a W K Q else E := by
  have hw : Region.wanted o (yielded ops a.tmps) = true := by simp [Region.wanted, hgd]
  rw [if_pos hw]
  exact oper_copy s x t e ho i z size bytes ht hi hz hsize hby hzs hsz w.heap.size H hE.ge hE.row hs v n xs hx hr h1 hn hbytes hK
theorem ocs_one : ∀ (l : List Op5), ∀ u ∈ ocs l, u.oneCell' = true
  | [] => by simp [ocs]
  | o :: r => by
    intro u hu
    unfold ocs at hu
    simp only [List.mem_cons] at hu
    rcases hu with rfl | rfl | rfl | rfl | h
    · rfl
    · rfl
    · rfl
    · rfl
    · exact ocs_one r u h
theorem ops_bel {w W : World} {p : Nat} {vk vo vn : Value} {room : Int} {seen synced : Fs} {ops : List Op5} (h : Dc w p vk vo vn room seen synced ops) (hb : Bel w W) : W.ownsRow 0 60 4 vo ops.length (ocs ops) := row_at h.ops (fun k hk => hb.block k (World.ownsRow.lt h.ops k hk).2)
theorem bel_of {w W w' : World} {H : Nat} (hb : Bel w W) (hg : W.grownBy w' (some H)) (hH : w.heap.size ≤ H) : Bel w w' := Below.grown hb hg hb.size (fun k hk => by cases hk; exact hH)
theorem dx_copy {C : Nat} {w w3 w4 : World} {p : Nat} {d : PD} {M B : Nat → Prop} {g1 g2 g3 c1 c2 c3 : Nat} (h : Dx C w p d M B) (hk : w3.ownsRow w.heap.size 66 2 (.slice (some ⟨g1, 0, none⟩) d.synced.length c1) d.synced.length (fcs d.synced)) (ho : w3.ownsRow w.heap.size 60 4 (.slice (some ⟨g2, 0, none⟩) d.ops.length c2) d.ops.length (ocs d.ops)) (hn : w3.ownsRow w.heap.size 66 2 (.slice (some ⟨g3, 0, none⟩) d.seen.length c3) d.seen.length (fcs d.seen)) (hb : Bel w w3)
    (hw4 : w4 = w3.alloc (.cells #[.int .i64 d.room, .slice (some ⟨g1, 0, none⟩) d.synced.length c1, .slice (some ⟨g2, 0, none⟩) d.ops.length c2, .slice (some ⟨g3, 0, none⟩) d.seen.length c3] 34)) :
    Dx C w4 w3.heap.size d (fun i => i = w3.heap.size ∨ i = g2) (fun i => i = g1 ∨ i = g3) ∧ w.heap.size ≤ g1 ∧ w.heap.size ≤ g2 ∧ w.heap.size ≤ g3 ∧ Bel w w4 := by
  have hb34 : Bel w3 w4 := by rw [hw4]; exact (Bel.refl _).alloc _
  have hs4 : w4.heap.size = w3.heap.size + 1 := by rw [hw4]; simp
  have l1 := hk.lt g1 rfl
  have l2 := ho.lt g2 rfl
  have l3 := hn.lt g3 rfl
  have up : ∀ {e size n v} {xs : List Value}, w3.ownsRow w.heap.size e size v n xs → w4.ownsRow 0 e size v n xs := fun {e size n v xs} hh => own_since (row_at hh (fun k hk => hb34.block k (hh.lt k hk).2)) (Nat.zero_le _)
  have b1 : ∃ cur, w3.heap[g1]? = some (.cells cur 66 (0, 0)) := by
    rcases hk.2 with ⟨h', _⟩ | ⟨g, cap, cur, h', _, h2, _⟩
    · cases h'
    · cases h'; exact ⟨cur, h2⟩
  have b2 : ∃ cur, w3.heap[g2]? = some (.cells cur 60 (0, 0)) := by
    rcases ho.2 with ⟨h', _⟩ | ⟨g, cap, cur, h', _, h2, _⟩
    · cases h'
    · cases h'; exact ⟨cur, h2⟩
  have b3 : ∃ cur, w3.heap[g3]? = some (.cells cur 66 (0, 0)) := by
    rcases hn.2 with ⟨h', _⟩ | ⟨g, cap, cur, h', _, h2, _⟩
    · cases h'
    · cases h'; exact ⟨cur, h2⟩
  have n12 : g2 ≠ g1 := fun e => by obtain ⟨u, hu⟩ := b1; obtain ⟨u', hu'⟩ := b2; rw [e, hu] at hu'; cases hu'
  have n23 : g2 ≠ g3 := fun e => by obtain ⟨u, hu⟩ := b3; obtain ⟨u', hu'⟩ := b2; rw [e, hu] at hu'; cases hu'
  refine ⟨⟨⟨_, _, _, ⟨by rw [hw4]; exact at_new w3 _, up hk, up hn, up ho, fun e => ?_, fun e => ?_, fun e => ?_⟩, Or.inl rfl, fun k hk => by cases hk; exact Or.inr rfl, fun k hk => by cases hk; exact Or.inl rfl, fun k hk => by cases hk; exact Or.inr rfl⟩, h.seen, h.val, ?_, ?_, ?_, h.room⟩, l1.1, l2.1, l3.1, hb.trans hb34⟩
  · have e' : g1 = w3.heap.size := Option.some.inj e; omega
  · have e' : g3 = w3.heap.size := Option.some.inj e; omega
  · have e' : g2 = w3.heap.size := Option.some.inj e; omega
  · rintro i (rfl | rfl) (h' | h')
    · omega
    · omega
    · exact n12 h'
    · exact n23 h'
  · rintro i (rfl | rfl) <;> omega
  · rintro i (rfl | rfl) <;> omega
set_option maxRecDepth 100000 in
set_option maxHeartbeats 8000000 in
theorem dcopy_any {C : Nat} {w : World} {p : Nat} {d : PD} {M B : Nat → Prop} (h : Dx C w p d M B) (hol : d.ops.length ≤ 100000) :
    Calls Try.prog 16 #[.pointer (some ⟨p, 0, none⟩)] w fun e w' => ∃ pc M' B', e = .returned (.pointer (some ⟨pc, 0, none⟩)) ∧ Dx C w' pc d M' B' ∧ (∀ i, M' i → w.heap.size ≤ i) ∧ (∀ i, B' i → w.heap.size ≤ i) ∧ Bel w w' := by
  obtain ⟨i6, hi6, hz60, hz61, hz62⟩ := Try.i66
  obtain ⟨i0, hi0, hz00, hz01, hz02⟩ := Try.i60
  have hF := h.fine
  have hF0 := h.val.head
  have hls : d.seen.length ≤ 100000 := by have := hF.len; omega
  have hly : d.synced.length ≤ 100000 := by have := hF0.len; omega
  obtain ⟨vk, vo, vn, hc, _⟩ := h.co
  obtain ⟨ao, co, rfl⟩ : ∃ a c, vo = .slice a d.ops.length c := by obtain ⟨a, c, h, _⟩ := own_shape hc.ops; exact ⟨a, c, h⟩
  obtain ⟨ak, ck, rfl⟩ : ∃ a c, vk = .slice a d.synced.length c := by obtain ⟨a, c, h, _⟩ := own_shape hc.kept; exact ⟨a, c, h⟩
  obtain ⟨an, cn, rfl⟩ : ∃ a c, vn = .slice a d.seen.length c := by obtain ⟨a, c, h, _⟩ := own_shape hc.now; exact ⟨a, c, h⟩
  have hrow := hide hc.row
  have HC := hide hc
  have H := hide h
  have s0 : w.drew.cell? ⟨p, 0, none⟩ = some (.int .i64 d.room) := cell_of (unhide hrow)
  have s1 : w.drew.cell? ⟨p, 1, none⟩ = some (.slice ak d.synced.length ck) := cell_of (unhide hrow)
  have s2 : w.drew.cell? ⟨p, 2, none⟩ = some (.slice ao d.ops.length co) := cell_of (unhide hrow)
  have s3 : w.drew.cell? ⟨p, 3, none⟩ = some (.slice an d.seen.length cn) := cell_of (unhide hrow)
  have hb0 : Bel w w.drew := (Bel.refl w).drew
  clear hc h hF hF0
  go_enter Try.func16, Try.ntmps16
  go_wp2_with fail
  go_region_held_law (fun W => W.cell? ⟨p, 0, none⟩ = some (.int .i64 d.room) ∧ W.cell? ⟨p, 1, none⟩ = some (.slice ak d.synced.length ck) ∧ W.cell? ⟨p, 2, none⟩ = some (.slice ao d.ops.length co) ∧ W.cell? ⟨p, 3, none⟩ = some (.slice an d.seen.length cn))
    (first | exact ⟨s0, s1, s2, s3⟩ | (refine ⟨?_, ?_, ?_, ?_⟩ <;> repeat (first | assumption | refine cell_dr ?_ | refine cell_al ?_)))
    ((first
      | (refine step_copy rfl _ _ 31 66 rfl i6 _ 2 32 Try.underlying31 hi6 hz60 hz61 hz62 rfl (by decide) w _ rfl (by repeat (first | (refine Em.new ?_ ?_ <;> (first | omega | exact Nat.le_refl _ | (simp; done) | (simp; omega))) | refine Em.drew ?_ | refine Em.alloc ?_)) (.slice ak d.synced.length ck) d.synced.length (fcs d.synced) rfl ((unhide HC).kept.bel (by repeat (first | assumption | exact Bel.refl _ | refine Bel.drew ?_ | refine Bel.alloc ?_ _))) (fcs_one d.synced) hly (by omega) ?_; intro g1 c1 w1 hown1 hg1 hat1 hlt1; have hb1 : Bel w w1 := bel_of (by repeat (first | assumption | exact Bel.refl _ | refine Bel.drew ?_ | refine Bel.alloc ?_ _)) hg1 (by first | omega | exact Nat.le_refl _ | (simp; done) | (simp; omega) | omega); have zz1 := hg1.size; (try simp at hat1); (try simp at zz1); have rr1 := hb1.row (unhide hrow); have y10 : w1.cell? ⟨p, 0, none⟩ = some (.int .i64 d.room) := cell_of rr1; have y11 : w1.cell? ⟨p, 1, none⟩ = some (.slice ak d.synced.length ck) := cell_of rr1; have y12 : w1.cell? ⟨p, 2, none⟩ = some (.slice ao d.ops.length co) := cell_of rr1; have y13 : w1.cell? ⟨p, 3, none⟩ = some (.slice an d.seen.length cn) := cell_of rr1; clear rr1; have HG1 := hide hg1; have HOWN1 := hide hown1; clear hg1 hown1)
      | (refine step_copy rfl _ _ 32 60 rfl i0 _ 4 48 Try.underlying32 hi0 hz00 hz01 hz02 rfl (by decide) w _ rfl (by repeat (first | (refine Em.new ?_ ?_ <;> (first | omega | exact Nat.le_refl _ | (simp; done) | (simp; omega))) | refine Em.drew ?_ | refine Em.alloc ?_ | (refine Em.app ?_ (unhide HG1) ?_; rotate_left; omega))) (.slice ao d.ops.length co) d.ops.length (ocs d.ops) rfl (ops_bel (unhide HC) (by repeat (first | assumption | exact Bel.refl _ | refine Bel.drew ?_ | refine Bel.alloc ?_ _))) (ocs_one d.ops) hol (by omega) ?_; intro g2 c2 w2 hown2 hg2 hat2 hlt2; have hb2 : Bel w w2 := bel_of (by repeat (first | assumption | exact Bel.refl _ | refine Bel.drew ?_ | refine Bel.alloc ?_ _)) hg2 (by first | omega | exact Nat.le_refl _ | (simp; done) | (simp; omega) | omega); have zz2 := hg2.size; (try simp at hat2); (try simp at zz2); have rr2 := hb2.row (unhide hrow); have y20 : w2.cell? ⟨p, 0, none⟩ = some (.int .i64 d.room) := cell_of rr2; have y21 : w2.cell? ⟨p, 1, none⟩ = some (.slice ak d.synced.length ck) := cell_of rr2; have y22 : w2.cell? ⟨p, 2, none⟩ = some (.slice ao d.ops.length co) := cell_of rr2; have y23 : w2.cell? ⟨p, 3, none⟩ = some (.slice an d.seen.length cn) := cell_of rr2; clear rr2; have HT21 := hide (own_next (unhide HOWN1) (by repeat (first | assumption | exact Bel.refl _ | refine Bel.drew ?_ | refine Bel.alloc ?_ _)) hg2 (by omega)); have HG2 := hide hg2; have HOWN2 := hide hown2; clear hg2 hown2)
      | (refine step_copy rfl _ _ 31 66 rfl i6 _ 2 32 Try.underlying31 hi6 hz60 hz61 hz62 rfl (by decide) w _ rfl (by repeat (first | (refine Em.new ?_ ?_ <;> (first | omega | exact Nat.le_refl _ | (simp; done) | (simp; omega))) | refine Em.drew ?_ | refine Em.alloc ?_ | (refine Em.app ?_ (unhide HG1) ?_; rotate_left; omega) | (refine Em.app ?_ (unhide HG2) ?_; rotate_left; omega))) (.slice an d.seen.length cn) d.seen.length (fcs d.seen) rfl ((unhide HC).now.bel (by repeat (first | assumption | exact Bel.refl _ | refine Bel.drew ?_ | refine Bel.alloc ?_ _))) (fcs_one d.seen) hls (by omega) ?_; intro g3 c3 w3 hown3 hg3 hat3 hlt3; have hb3 : Bel w w3 := bel_of (by repeat (first | assumption | exact Bel.refl _ | refine Bel.drew ?_ | refine Bel.alloc ?_ _)) hg3 (by first | omega | exact Nat.le_refl _ | (simp; done) | (simp; omega) | omega); have zz3 := hg3.size; (try simp at hat3); (try simp at zz3); have rr3 := hb3.row (unhide hrow); have y30 : w3.cell? ⟨p, 0, none⟩ = some (.int .i64 d.room) := cell_of rr3; have y31 : w3.cell? ⟨p, 1, none⟩ = some (.slice ak d.synced.length ck) := cell_of rr3; have y32 : w3.cell? ⟨p, 2, none⟩ = some (.slice ao d.ops.length co) := cell_of rr3; have y33 : w3.cell? ⟨p, 3, none⟩ = some (.slice an d.seen.length cn) := cell_of rr3; clear rr3; have HT31 := hide (own_next (unhide HT21) (by repeat (first | assumption | exact Bel.refl _ | refine Bel.drew ?_ | refine Bel.alloc ?_ _)) hg3 (by omega)); have HT32 := hide (own_next (unhide HOWN2) (by repeat (first | assumption | exact Bel.refl _ | refine Bel.drew ?_ | refine Bel.alloc ?_ _)) hg3 (by omega)); have HG3 := hide hg3; have HOWN3 := hide hown3; clear hg3 hown3)))
  all_goals
    go_wp2_with fail
    go_ret
    obtain ⟨r1, r2, r3, r4, r5⟩ := dx_copy (unhide H) (unhide HT31) (unhide HT32) (unhide HOWN3) hb3 rfl
    exact ⟨_, _, _, rfl, r1, fun i hi => by rcases hi with rfl | rfl; exact hb3.size; exact r3, fun i hi => by rcases hi with rfl | rfl; exact r2; exact r4, r5⟩
end Go.Proofs.Ytpngcmlaimcceaa
