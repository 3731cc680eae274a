/- seated, others. -/
import Derived.Test.YthipgcojbhcdgaaMaj
namespace Go.Proofs.Ythipgcojbhcdgaa
open Go.RowKit Go.Maps Go.Sort
set_option maxRecDepth 100000 in
theorem seated_any {W : World} {n : Nat} {s : PP} {x : Px} (h : Sl E3 W x.aM (mem n)) (hn : n ≤ 64) : Calls Try.prog 17 #[.agg (pc n s x)] W fun e w' => e = .returned (.bool (decide (s.id ∈ mem n))) ∧ Bel W w' := by
  have HC : Hid (∀ w1, Bel W w1 → Calls Try.prog 38 #[.slice x.aM n x.cM, .int .i64 s.id] w1 fun e w' => e = .returned (.bool (decide (s.id ∈ mem n))) ∧ w' = w1) := hide (fun w1 hb => by
    have := contains_any (h.bel hb) x.cM s.id (by rw [mem_len]; omega)
    rwa [mem_len] at this)
  clear h hn
  go_enter Try.func17, Try.ntmps17
  go_wp2_with (first
    | (refine bx_box rfl 32 _ rfl (pc n s x) rfl ?_; intro b w0 hr0 hs0 hb0; obtain ⟨y0, y1, y2, y3, y4, y5, y6, y7, y8, y9, y10, y11, y12, y13, y14, y15, y16, y17⟩ := Bx.of hr0; have HB0 := hide hb0; clear hr0 hs0 hb0)
    | (go_at_call 38; refine ((unhide HC) _ (unhide HB0)).mono ?_; rintro e w9 ⟨rfl, hw9⟩; rw [hw9]; clear hw9))
  go_ret
  exact ⟨rfl, unhide HB0⟩
set_option maxRecDepth 100000 in
theorem notme_any {W : World} {b : Nat} {id : Int} (h : W.cell? ⟨b, 0, none⟩ = some (.int .i64 id)) (y : Int) : Calls Try.prog 66 #[.int .i64 y, .pointer (some ⟨b, 0, none⟩)] W fun e w' => e = .returned (.bool (y == id)) ∧ w' = W := by
  go_enter Try.func66, Try.ntmps66
  go_wp2_with fail
  go_ret
  exact ⟨rfl, rfl⟩
theorem En52 : ∀ args w, (callFunc 66 args).run Try.prog w = .ok (.enter 66 args) w := enters_of Try.func66 (by kernel_rfl) rfl
theorem delete_any {B : Nat} {w : World} {b g n cap : Nat} {id : Int} {cs : Array Value} {l : List Int} (hr : w.heap[b]? = some (.cells cs 32)) (hid : cs[0]? = some (.int .i64 id)) (hO : E3.O B w (.slice (some ⟨g, 0, none⟩) n cap) l) (hn : l.length = n) (hl : n ≤ 1000000) : Calls Try.prog 65 #[.slice (some ⟨g, 0, none⟩) n cap, .func (.func 66) #[] #[.pointer (some ⟨b, 0, none⟩)]] w fun e w' => e = .returned (.slice (some ⟨g, 0, none⟩) (l.filter fun x => !(x == id)).length cap) ∧ E3.O B w' (.slice (some ⟨g, 0, none⟩) (l.filter fun x => !(x == id)).length cap) (l.filter fun x => !(x == id)) ∧ Ch (fun i => i = g) w w' := by
  obtain ⟨hH, hcap, hg, hB⟩ := own_holdsE hO
  have hbg : b ≠ g := fun e => by
    obtain ⟨c, hc⟩ := hO.block (k := g) rfl
    rw [← e, hr] at hc
    injection (Option.some.inj hc) with _ h2
    exact absurd h2 (by decide)
  have hc : w.cell? ⟨b, 0, none⟩ = some (.int .i64 id) := (cell_of hr).trans hid
  have h := Try.slices_DeleteFunc (Value.int .i64) (fun x => rfl) (fun x => x == id) 66 #[.pointer (some ⟨b, 0, none⟩)] En52 (0 : Int) (fun w => by go_simp) g 0 cap l.toArray w ?_ ?_ hH (by simp; omega) (by simpa using hcap)
  · rw [show l.toArray.size = n by simpa using hn] at h
    refine h.mono ?_
    rintro e w' ⟨rfl, q, hw'⟩
    have hfl : (l.filter fun x => !(x == id)).length ≤ n := by rw [← hn]; exact List.length_filter_le _ _
    have ho3 := own_putE (q := q) (m := (l.filter fun x => !(x == id)).length) (G := (l.filter fun x => !(x == id)) ++ List.replicate (n - (l.filter fun x => !(x == id)).length) 0) #[] hO hn (by simp; omega) hfl
    rw [List.take_left, grow_none, ← hw'] at ho3
    exact ⟨rfl, ho3, by rw [hw', ← grow_none (putRow _ _ _ _ _)]; exact ch_putE #[]⟩
  · intro W x hb
    have hcW : W.cell? ⟨b, 0, none⟩ = some (.int .i64 id) := Bel.cell hb hc
    refine (notme_any hcW x).mono ?_
    rintro e w' ⟨rfl, hw⟩
    exact ⟨rfl, 0, by rw [hw]; rfl⟩
  · intro n os dk x hdk
    have hcW : (sortWorld (Value.int .i64) w g 0 n dk os).cell? ⟨b, 0, none⟩ = some (.int .i64 id) := (cell_of ((ch_putE (w := w) (g := g) (q := n) (G := dk) os).row hr hbg)).trans hid
    refine (notme_any hcW x).mono ?_
    rintro e w' ⟨rfl, hw⟩
    exact ⟨rfl, 0, by rw [hw]; rfl⟩
set_option maxRecDepth 100000 in
set_option maxHeartbeats 1000000 in
theorem others_any {W : World} {n : Nat} {s : PP} {x : Px} (h : Sl E3 W x.aM (mem n)) (hn : n ≤ 64) (h1 : 1 ≤ n) : Calls Try.prog 39 #[.agg (pc n s x)] W fun e w' => ∃ a' c', e = .returned (.slice a' (oth n s.id).length c') ∧ Sl E3 w' a' (oth n s.id) ∧ Bel W w' := by
  have HC : Hid (∀ w1, Bel W w1 → Calls Try.prog 34 #[.slice x.aM n x.cM] w1 fun e w' => ∃ a' c', e = .returned (.slice a' n c') ∧ E3.O w1.heap.size w' (.slice a' n c') (mem n) ∧ Bel w1 w') := hide (fun w1 hb => clone3 (mem_len n) (h.bel hb) (by omega))
  clear h
  go_enter Try.func39, Try.ntmps39
  go_wp2_with (first
    | (refine bx_box rfl 32 _ rfl (pc n s x) rfl ?_; intro b w0 hr0 hs0 hb0; obtain ⟨y0, y1, y2, y3, y4, y5, y6, y7, y8, y9, y10, y11, y12, y13, y14, y15, y16, y17⟩ := Bx.of hr0; have HR0 := hide hr0; have HB0 := hide hb0; clear hr0 hs0 hb0)
    | (go_at_call 34; refine ((unhide HC) _ (unhide HB0)).mono ?_; rintro e w1 ⟨a1, c1, rfl, ho1, hb1⟩; have HO1 := hide (And.intro ho1 hb1); have HR1 := hide (hb1.row (unhide HR0)); clear ho1 hb1))
  obtain ⟨g, rfl⟩ : ∃ g, a1 = some ⟨g, 0, none⟩ := by
    obtain ⟨a', c', g', e, hh, _⟩ := (unhide HO1).1.shape
    injection e with e1
    exact ⟨g', e1.trans (hh (by rw [mem_len]; omega))⟩
  refine (delete_any (unhide HR1) rfl (unhide HO1).1 (mem_len n) (by omega)).mono ?_
  rintro e w2 ⟨rfl, ho2, hc2⟩
  have HF := hide (And.intro (Sl.of ho2).1 (bel_off ((unhide HB0).trans (unhide HO1).2) hc2 (Nat.le_trans (unhide HB0).size ((unhide HO1).1.lt (k := g) rfl).1)))
  clear ho2 hc2
  go_wp2_with fail
  go_ret
  exact ⟨_, _, rfl, (unhide HF).1, (unhide HF).2⟩
end Go.Proofs.Ythipgcojbhcdgaa
