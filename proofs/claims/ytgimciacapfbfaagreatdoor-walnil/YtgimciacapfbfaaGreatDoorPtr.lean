/- The program's Trunc, Rename, Remove. -/
import Derived.Test.YtgimciacapfbfaaGreatDoorFns
import Derived.Test.YtgimciacapfbfaaGreatDoorNil
namespace Go.Proofs.YtgimciacapfbfaaGreatDoor
open Go.RowKit Go.Maps Go.WideMaps
theorem find_d {C : Nat} {w W : World} {p : Nat} {d : PD} {M B : Nat → Prop} (h : Dk C w p d M B) (n : List UInt8) (hn : n.length ≤ maxLen) (hb : Bel w W) {s : List UInt8} {r : Nat} (e : d.rd n = (s, r)) :
    Calls Tryz.prog 44 #[.pointer (some ⟨p, 0, none⟩), .string ⟨n.toArray⟩, .slice none 0 0] W fun e w' => e = .returned (.tuple #[.agg #[.string ⟨s.toArray⟩], .int .i64 r]) ∧ Bel W w' := by
  obtain ⟨bs, c, h1, h2, h3⟩ := (h.bel hb).c2
  have := find_any p bs d.seen c n (.slice none 0 0) [] W h1 h2 h3 (World.ownsRow_nil _ _ _ _) (by simp [Value.ownBlock]) hn (by simp) (by simp)
  rw [List.nil_append, findR_rd, e] at this
  exact this.mono fun _ _ ⟨h4, h5⟩ => ⟨h4, h5.nil⟩
theorem rd_cases (d : PD) (n : List UInt8) : (badN n = true ∧ d.rd n = ([], 2)) ∨ (badN n = false ∧ hasF d.seen n = false ∧ d.rd n = ([], 5)) ∨ (badN n = false ∧ hasF d.seen n = true ∧ d.rd n = (get d.seen n, 0)) := by
  unfold PD.rd
  cases badN n
  · cases hasF d.seen n
    · exact Or.inr (Or.inl ⟨rfl, rfl, rfl⟩)
    · exact Or.inr (Or.inr ⟨rfl, rfl, rfl⟩)
  · exact Or.inl ⟨rfl, rfl⟩
set_option maxRecDepth 100000 in
set_option maxHeartbeats 1000000 in
theorem trunc_any {C : Nat} {w : World} {p : Nat} {d : PD} {M B : Nat → Prop} (h : Dk C w p d M B) (n : List UInt8) (k : Int) (hn : n.length ≤ maxLen) (hol : d.ops.length ≤ 1000000) (hC : C ≤ 1099511627776) :
    Calls Tryz.prog 40 #[.pointer (some ⟨p, 0, none⟩), .string ⟨n.toArray⟩, .int .i64 k] w fun e w' => e = .returned (.int .i64 (d.tr n k).1) ∧ Aft C w p M B (d.tr n k).2 w' := by
  obtain ⟨W, hW⟩ : ∃ W, W = (w.alloc (.cells #[.string ⟨n.toArray⟩] 9)).alloc (.cells #[.int .i64 k] 3) := ⟨_, rfl⟩
  have hbW : Bel w W := by rw [hW]; exact ((Bel.refl w).alloc _).alloc _
  have r0 : W.heap[w.heap.size]? = some (.cells #[.string ⟨n.toArray⟩] 9) := by rw [hW]; exact ((Bel.refl _).alloc _).row (at_new w _)
  have r1 : W.heap[w.heap.size + 1]? = some (.cells #[.int .i64 k] 3) := by rw [hW]; exact at_new2 w _ _
  have hsz : W.heap.size = w.heap.size + 1 + 1 := by rw [hW]; simp
  have HSZ := hide hsz
  have R0 := hide r0
  have R1 := hide r1
  have HW := hide hW
  have H := hide h
  rcases rd_cases d n with ⟨hb, hr⟩ | ⟨hb, hh, hr⟩ | ⟨hb, hh, hr⟩
  · have hf := hide (find_d h n hn hbW hr)
    have hres : Hid (d.tr n k = (2, d)) := by unfold PD.tr; rw [hb, if_pos rfl]; rfl
    clear hb hr h hW r0 r1 hsz
    go_enter Tryz.func40, Tryz.ntmps40
    go_wp2_with (first | (go_at_call 44; rw [← unhide HW]; refine (unhide hf).mono ?_; rintro e w1 ⟨rfl, hc⟩))
    go_ret
    rw [unhide hres]
    exact ⟨rfl, (unhide H).aft ((hbW.trans hc).alloc _)⟩
  · have hf := hide (find_d h n hn hbW hr)
    have hres : Hid (d.tr n k = (5, d)) := by unfold PD.tr; rw [hb, if_neg (by simp), hh, if_neg (by simp)]; rfl
    clear hb hr h hh hW r0 r1 hsz
    go_enter Tryz.func40, Tryz.ntmps40
    go_wp2_with (first | (go_at_call 44; rw [← unhide HW]; refine (unhide hf).mono ?_; rintro e w1 ⟨rfl, hc⟩))
    go_ret
    rw [unhide hres]
    exact ⟨rfl, (unhide H).aft ((hbW.trans hc).alloc _)⟩
  · have hf := hide (find_d h n hn hbW hr)
    have hgl : (get d.seen n).length ≤ 1099511627776 := by have := get_le d.seen n; have := h.fine.tot; omega
    have HB := hide hb
    have HH := hide hh
    clear hb hr h hh hW r0 r1 hsz
    by_cases hk0 : k < 0
    · have hres : Hid (d.tr n k = (2, d)) := by unfold PD.tr; rw [unhide HB, if_neg (by simp), unhide HH, if_pos rfl, if_pos (Or.inl hk0)]; rfl
      go_enter Tryz.func40, Tryz.ntmps40
      go_wp2_with (first | (go_at_call 44; rw [← unhide HW]; refine (unhide hf).mono ?_; rintro e w1 ⟨rfl, hc⟩; have y1 : ∀ o, (w1.alloc o).cell? ⟨w.heap.size + 1, 0, none⟩ = some (.int .i64 k) := fun o => cell_of (((Bel.refl _).alloc o).row (hc.row (unhide R1)))))
      go_ret
      rw [unhide hres]
      exact ⟨rfl, (unhide H).aft ((hbW.trans hc).alloc _)⟩
    · by_cases hk1 : ((get d.seen n).length : Int) < k
      · have hres : Hid (d.tr n k = (2, d)) := by unfold PD.tr; rw [unhide HB, if_neg (by simp), unhide HH, if_pos rfl, if_pos (Or.inr hk1)]; rfl
        go_enter Tryz.func40, Tryz.ntmps40
        go_wp2_with (first | (go_at_call 44; rw [← unhide HW]; refine (unhide hf).mono ?_; rintro e w1 ⟨rfl, hc⟩; have y1 : ∀ o, (w1.alloc o).cell? ⟨w.heap.size + 1, 0, none⟩ = some (.int .i64 k) := fun o => cell_of (((Bel.refl _).alloc o).row (hc.row (unhide R1)))))
        all_goals
          go_ret
          rw [unhide hres]
          exact ⟨rfl, (unhide H).aft ((hbW.trans hc).alloc _)⟩
      · obtain ⟨kk, rfl⟩ : ∃ kk : Nat, k = kk := ⟨k.toNat, by omega⟩
        have hres : Hid (d.tr n kk = (0, (d.done (.tr n kk)).2)) := by unfold PD.tr; rw [unhide HB, if_neg (by simp), unhide HH, if_pos rfl, if_neg (by omega)]; rfl
        have hok : Hid (ok5 d.seen (.tr n kk)) := ⟨okN_of (unhide HB), unhide HH, by omega⟩
        have hwk : wrap64 ((kk : Int) - ((get d.seen n).length : Int)) = (kk : Int) - ((get d.seen n).length : Int) := by unfold wrap64; omega
        go_enter Tryz.func40, Tryz.ntmps40
        go_wp2_with (first | (go_at_call 44; rw [← unhide HW]; refine (unhide hf).mono ?_; rintro e w1 ⟨rfl, hc⟩; have y1 : ∀ o, (w1.alloc o).cell? ⟨w.heap.size + 1, 0, none⟩ = some (.int .i64 (kk : Int)) := fun o => cell_of (((Bel.refl _).alloc o).row (hc.row (unhide R1)))))
        obtain ⟨W2, hW2⟩ : ∃ W2, W2 = w1.alloc (.cells #[.string ⟨(get d.seen n).toArray⟩] 70) := ⟨_, rfl⟩
        rw [← hW2]
        have hb2 : Bel W W2 := by rw [hW2]; exact hc.alloc _
        have hbw2 := hbW.trans hb2
        have hin : w.heap.size + 1 < W2.heap.size := by have := hb2.size; have := unhide HSZ; omega
        refine (done_any ((unhide H).more hbw2) (.tr n kk) _ _ ⟨w.heap.size, w.heap.size + 1, ⟨Or.inr ⟨Nat.le_refl _, by omega⟩, hb2.row (unhide R0)⟩, ⟨Or.inr ⟨by omega, hin⟩, hb2.row (unhide R1)⟩, rfl⟩ (unhide hok) (tr_fine (unhide H).fine (unhide hok)) (tot_tr (unhide H).fine.srt (unhide hok).2.2).symm hol (by show C + 0 ≤ _; omega)).mono ?_
        rintro e w5 ⟨rfl, haf⟩
        clear hW2
        go_wp2_with fail
        go_ret
        rw [unhide hres]
        exact ⟨rfl, haf.less hbw2⟩
set_option maxRecDepth 100000 in
set_option maxHeartbeats 1000000 in
theorem remove_any {C : Nat} {w : World} {p : Nat} {d : PD} {M B : Nat → Prop} (h : Dk C w p d M B) (n : List UInt8) (hn : n.length ≤ maxLen) (hol : d.ops.length ≤ 1000000) (hC : C ≤ 1099511627776) :
    Calls Tryz.prog 36 #[.pointer (some ⟨p, 0, none⟩), .string ⟨n.toArray⟩] w fun e w' => e = .returned (.int .i64 (d.rm n).1) ∧ Aft C w p M B (d.rm n).2 w' := by
  obtain ⟨W, hW⟩ : ∃ W, W = w.alloc (.cells #[.string ⟨n.toArray⟩] 9) := ⟨_, rfl⟩
  have hbW : Bel w W := by rw [hW]; exact (Bel.refl w).alloc _
  have r0 : W.heap[w.heap.size]? = some (.cells #[.string ⟨n.toArray⟩] 9) := by rw [hW]; exact at_new w _
  have hsz : W.heap.size = w.heap.size + 1 := by rw [hW]; simp
  have HSZ := hide hsz
  have R0 := hide r0
  have HW := hide hW
  have H := hide h
  rcases rd_cases d n with ⟨hb, hr⟩ | ⟨hb, hh, hr⟩ | ⟨hb, hh, hr⟩
  · have hf := hide (find_d h n hn hbW hr)
    have hres : Hid (d.rm n = (2, d)) := by unfold PD.rm; rw [hb, if_pos rfl]; rfl
    clear hb hr h hW r0 hsz
    go_enter Tryz.func36, Tryz.ntmps36
    go_wp2_with (first | (go_at_call 44; rw [← unhide HW]; refine (unhide hf).mono ?_; rintro e w1 ⟨rfl, hc⟩))
    go_ret
    rw [unhide hres]
    exact ⟨rfl, (unhide H).aft ((hbW.trans hc).alloc _)⟩
  · have hf := hide (find_d h n hn hbW hr)
    have hres : Hid (d.rm n = (5, d)) := by unfold PD.rm; rw [hb, if_neg (by simp), hh, if_neg (by simp)]; rfl
    clear hb hr h hh hW r0 hsz
    go_enter Tryz.func36, Tryz.ntmps36
    go_wp2_with (first | (go_at_call 44; rw [← unhide HW]; refine (unhide hf).mono ?_; rintro e w1 ⟨rfl, hc⟩))
    go_ret
    rw [unhide hres]
    exact ⟨rfl, (unhide H).aft ((hbW.trans hc).alloc _)⟩
  · have hf := hide (find_d h n hn hbW hr)
    have hgl : (get d.seen n).length ≤ 1099511627776 := by have := get_le d.seen n; have := h.fine.tot; omega
    have hres : Hid (d.rm n = (0, (d.done (.rm n)).2)) := by unfold PD.rm; rw [hb, if_neg (by simp), hh, if_pos rfl]; rfl
    have hok : Hid (ok5 d.seen (.rm n)) := okN_of hb
    have hwk : wrap64 (-((get d.seen n).length : Int)) = -((get d.seen n).length : Int) := by unfold wrap64; omega
    clear hb hr h hh hW r0 hsz
    go_enter Tryz.func36, Tryz.ntmps36
    go_wp2_with (first | (go_at_call 44; rw [← unhide HW]; refine (unhide hf).mono ?_; rintro e w1 ⟨rfl, hc⟩))
    obtain ⟨W2, hW2⟩ : ∃ W2, W2 = w1.alloc (.cells #[.string ⟨(get d.seen n).toArray⟩] 70) := ⟨_, rfl⟩
    rw [← hW2]
    have hb2 : Bel W W2 := by rw [hW2]; exact hc.alloc _
    have hbw2 := hbW.trans hb2
    refine (done_any ((unhide H).more hbw2) (.rm n) _ _ ⟨w.heap.size, ⟨Or.inr ⟨Nat.le_refl _, by have := hb2.size; have := unhide HSZ; omega⟩, hb2.row (unhide R0)⟩, rfl⟩ (unhide hok) (rm_fine (unhide H).fine n) (tot_rm (unhide H).fine.srt).symm hol (by show C + 0 ≤ _; omega)).mono ?_
    rintro e w5 ⟨rfl, haf⟩
    clear hW2
    go_wp2_with fail
    go_ret
    rw [unhide hres]
    exact ⟨rfl, haf.less hbw2⟩
theorem fR_two (t n : List UInt8) : fR [t, n] = if (badN n || badN t) = true then 2 else 0 := by
  unfold fR
  have e : [t, n].any badN = (badN n || badN t) := by
    show (badN t || (badN n || false)) = _
    cases badN t <;> cases badN n <;> rfl
  rw [e]
theorem find_d2 {C : Nat} {w W : World} {p g : Nat} {d : PD} {M B : Nat → Prop} (h : Dk C w p d M B) (n t : List UInt8) (hn : n.length ≤ maxLen) (ht : t.length ≤ maxLen) (hb : Bel w W) (hg : W.heap[g]? = some (.cells #[.string ⟨t.toArray⟩] 9)) (hgp : w.heap.size ≤ g) {s : List UInt8} {r : Int} (e : findR d.seen n [t, n] = (s, r)) :
    Calls Tryz.prog 44 #[.pointer (some ⟨p, 0, none⟩), .string ⟨n.toArray⟩, .slice (some ⟨g, 0, none⟩) 1 1] W fun e w' => e = .returned (.tuple #[.agg #[.string ⟨s.toArray⟩], .int .i64 r]) ∧ Ch (fun i => i = g) W w' := by
  obtain ⟨bs, c, h1, h2, h3⟩ := (h.bel hb).c2
  have hp : p ≠ g := by
    obtain ⟨bs, bk, v, cs, k1, _, k3⟩ := h.co
    have := lt_of_some k1.row
    omega
  have := find_any p bs d.seen c n (.slice (some ⟨g, 0, none⟩) 1 1) [t] W h1 h2 h3 (one_row hg) (fun e => by cases e; exact hp rfl) hn (by simpa using ht) (by simp)
  rw [show [t] ++ [n] = [t, n] from rfl, e] at this
  exact this.mono fun _ _ ⟨h4, h5⟩ => ⟨h4, h5.mono (fun i hi => by cases hi; rfl)⟩
end Go.Proofs.YtgimciacapfbfaaGreatDoor
