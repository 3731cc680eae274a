/- A disk that the call itself makes: the calls one behind the other; some answers that the document fixes (alive). -/
import Derived.Test.YtpngcmlaimcceaaCrb
namespace Go.Proofs.Ytpngcmlaimcceaa
open Go.RowKit Go.Maps Go.WideMaps
/-- A disk that was made behind w0. -/
def Al (w0 : World) (C p : Nat) (d : PD) (W : World) : Prop := ∃ M B, Dk C W p d M B ∧ (∀ i, M i → w0.heap.size ≤ i) ∧ Bel w0 W
theorem Al.bel {w0 : World} {C p : Nat} {d : PD} {W W' : World} (h : Al w0 C p d W) (hb : Bel W W') : Al w0 C p d W' := by
  obtain ⟨M, B, h1, h2, h3⟩ := h
  exact ⟨M, B, h1.bel hb, h2, h3.trans hb⟩
theorem Al.base {w0 : World} {C p : Nat} {d : PD} {W : World} (h : Al w0 C p d W) : Bel w0 W := by
  obtain ⟨M, B, h1, h2, h3⟩ := h
  exact h3
theorem al_aft {w0 : World} {C p : Nat} {d : PD} {W W' : World} {M B : Nat → Prop} (h2 : ∀ i, M i → w0.heap.size ≤ i) (h3 : Bel w0 W) (h : Aft C W p M B d W') : Al w0 C p d W' := by
  obtain ⟨M', B', k1, k2, k3, k4⟩ := h
  refine ⟨M', B', k1, fun i hi => (k2 i hi).elim (h2 i) (fun h => Nat.le_trans h3.size h), ?_⟩
  have := k4.below (B := w0.heap.size) h3.size h2
  exact Below.trans h3 this
theorem al_new (room : Int) (hr : room < 9223372036854775808) (C : Nat) (w0 w : World) (hb : Bel w0 w) : Calls Try.prog 7 #[.int .i64 room] w fun e w' => ∃ p, e = .returned (.pointer (some ⟨p, 0, none⟩)) ∧ Al w0 C p (PD.new room) w' := by
  refine (new_any room hr C w).mono ?_
  rintro e w' ⟨p, he, hd, hb'⟩
  exact ⟨p, he, _, _, hd, fun i hi => Nat.le_trans hb.size hi.1, hb.trans hb'⟩
theorem al_app {w0 W : World} {C p : Nat} {d : PD} (h : Al w0 C p d W) (n t : List UInt8) (hn : n.length ≤ maxLen) (hol : d.ops.length ≤ 1000000) (hC : C + 2 * t.length ≤ 1099511627776) :
    Calls Try.prog 21 #[.pointer (some ⟨p, 0, none⟩), .string ⟨n.toArray⟩, .string ⟨t.toArray⟩] W fun e w' => e = .returned (.int .i64 (d.app n t).1) ∧ Al w0 (C + t.length) p (d.app n t).2 w' := by
  obtain ⟨M, B, h1, h2, h3⟩ := h
  refine (append_any h1 n t hn hol hC).mono ?_
  rintro e w' ⟨he, ha⟩
  exact ⟨he, al_aft h2 h3 ha⟩
theorem al_wr {w0 W : World} {C p : Nat} {d : PD} (h : Al w0 C p d W) (n t : List UInt8) (hn : n.length ≤ maxLen) (hol : d.ops.length ≤ 1000000) (hC : C + 2 * t.length ≤ 1099511627776) :
    Calls Try.prog 19 #[.pointer (some ⟨p, 0, none⟩), .string ⟨n.toArray⟩, .string ⟨t.toArray⟩] W fun e w' => e = .returned (.int .i64 (d.wr n t).1) ∧ Al w0 (C + t.length) p (d.wr n t).2 w' := by
  obtain ⟨M, B, h1, h2, h3⟩ := h
  refine (write_any h1 n t hn hol hC).mono ?_
  rintro e w' ⟨he, ha⟩
  exact ⟨he, al_aft h2 h3 ha⟩
theorem al_sync {w0 W : World} {C p : Nat} {d : PD} (h : Al w0 C p d W) (hol : d.ops.length ≤ 1000000) :
    Calls Try.prog 20 #[.pointer (some ⟨p, 0, none⟩)] W fun e w' => e = .returned (.int .i64 0) ∧ Al w0 C p d.sync w' := by
  obtain ⟨M, B, h1, h2, h3⟩ := h
  refine (sync_any h1 hol).mono ?_
  rintro e w' ⟨he, ha⟩
  exact ⟨he, al_aft h2 h3 ha⟩
theorem al_crash {w0 W : World} {C p : Nat} {d : PD} (h : Al w0 C p d W) (keep torn : Int) (hol : d.ops.length ≤ 1000000) (hC : 2 * C ≤ 1099511627776) (ht : ∀ o ∈ d.ops, (txt5 o).length ≤ C) (hk1 : keep < 9223372036854775808) (ht1 : torn < 9223372036854775808) :
    Calls Try.prog 22 #[.pointer (some ⟨p, 0, none⟩), .int .i64 keep, .int .i64 torn] W fun e w' => e = .returned (.int .i64 (d.crash keep torn).1) ∧ Al w0 C p (d.crash keep torn).2 w' := by
  obtain ⟨M, B, h1, h2, h3⟩ := h
  refine (crash_any h1 keep torn hol hC ht hk1 ht1).mono ?_
  rintro e w' ⟨he, ha⟩
  exact ⟨he, al_aft h2 h3 ha⟩
theorem al_read {w0 W : World} {C p : Nat} {d : PD} (h : Al w0 C p d W) (n : List UInt8) (hn : n.length ≤ maxLen) :
    Calls Try.prog 23 #[.pointer (some ⟨p, 0, none⟩), .string ⟨n.toArray⟩] W fun e w' => e = .returned (.tuple #[.string ⟨(d.rd n).1.toArray⟩, .int .i64 ((d.rd n).2 : Nat)]) ∧ Al w0 C p d w' := by
  obtain ⟨M, B, h1, h2, h3⟩ := h
  refine (read_any h1 n hn).mono ?_
  rintro e w' ⟨he, ha⟩
  exact ⟨he, M, B, h1.bel ha, h2, h3.trans ha⟩
theorem al_loose {w0 W : World} {C p : Nat} {d : PD} (h : Al w0 C p d W) : Calls Try.prog 12 #[.pointer (some ⟨p, 0, none⟩)] W fun e w' => e = .returned (.int .i64 d.ops.length) ∧ w' = W := by
  obtain ⟨M, B, h1, h2, h3⟩ := h
  exact loose_any h1
theorem al_used {w0 W : World} {C p : Nat} {d : PD} (h : Al w0 C p d W) : Calls Try.prog 10 #[.pointer (some ⟨p, 0, none⟩)] W fun e w' => e = .returned (.int .i64 (tot d.seen)) ∧ w' = W := by
  obtain ⟨M, B, h1, h2, h3⟩ := h
  exact used_any h1
def L1 : PD := ⟨9, [([97], [120, 121, 122])], [], [.app [97] [120, 121, 122]]⟩
def L2 : PD := ⟨9, [([97], [120, 121, 122, 49, 50, 51, 52, 53, 54])], [], [.app [97] [120, 121, 122], .app [97] [49, 50, 51, 52, 53, 54]]⟩
def L3 : PD := ⟨9, [([97], [120, 121, 122, 49, 50])], [([97], [120, 121, 122, 49, 50])], []⟩
theorem l_one : (PD.new 9).app [97] [120, 121, 122] = (0, L1) := by rfl
theorem l_two : L1.app [97] [49, 50, 51, 52, 53, 54] = (0, L2) := by rfl
theorem l_three : L2.app [97] [55] = (6, L2) := by rfl
theorem l_four : L2.crash 1 2 = (0, L3) := by rfl
theorem l_five : L3.rd [97] = ([120, 121, 122, 49, 50], 0) := by rfl
theorem ml {n : List UInt8} (h : n.length ≤ 1000) : n.length ≤ maxLen := by unfold maxLen; omega
theorem al_app1 {w0 W : World} {C p : Nat} {d : PD} (h : Al w0 C p d W) (n t : List UInt8) (hn : n.length ≤ 1000) (hol : d.ops.length ≤ 1000) (hC : C + 2 * t.length ≤ 1000) {r : Nat} {d' : PD} (e : d.app n t = (r, d')) :
    Calls Try.prog 21 #[.pointer (some ⟨p, 0, none⟩), .string ⟨n.toArray⟩, .string ⟨t.toArray⟩] W fun e w' => e = .returned (.int .i64 r) ∧ Al w0 (C + t.length) p d' w' := by
  have := al_app h n t (ml hn) (by omega) (by omega)
  rw [e] at this
  exact this
set_option maxRecDepth 100000 in
set_option maxHeartbeats 1000000 in
theorem alive_any (w : World) : Calls Try.prog 14 #[] w fun e w' => e = .returned (.bool true) ∧ Bel w w' := by
  go_enter Try.func14, Try.ntmps14
  go_wp2_with fail
  refine (al_new 9 (by decide) 0 w w (Bel.refl w)).mono ?_
  rintro e w1 ⟨p, rfl, h1⟩
  have H1 := hide h1
  clear h1
  go_wp2_with fail
  refine (al_app1 (unhide H1) [97] [120, 121, 122] (by decide) (by decide) (by decide) l_one).mono ?_
  rintro e w2 ⟨rfl, h2⟩
  have H2 := hide h2
  clear h2
  go_wp2_with fail
  refine (al_app1 (unhide H2) [97] [49, 50, 51, 52, 53, 54] (by decide) (by decide) (by decide) l_two).mono ?_
  rintro e w3 ⟨rfl, h3⟩
  have H3 := hide h3
  clear h3
  go_wp2_with fail
  refine (al_app1 (unhide H3) [97] [55] (by decide) (by decide) (by decide) l_three).mono ?_
  rintro e w4 ⟨rfl, h4⟩
  have H4 := hide h4
  clear h4
  go_wp2_with fail
  refine (al_loose (unhide H4)).mono ?_
  rintro e w5 ⟨rfl, hw5⟩
  rw [hw5]
  go_wp2_with fail
  have hc := al_crash (unhide H4) 1 2 (by decide) (by decide) (by decide) (by decide) (by decide)
  rw [l_four] at hc
  refine hc.mono ?_
  rintro e w6 ⟨rfl, h6⟩
  have H6 := hide h6
  clear h6 hc
  go_wp2_with fail
  have hr := al_read (unhide H6) [97] (ml (by decide))
  rw [l_five] at hr
  refine hr.mono ?_
  rintro e w7 ⟨rfl, h7⟩
  have H7 := hide h7
  clear h7 hr
  go_wp2_with fail
  refine (al_loose (unhide H7)).mono ?_
  rintro e w8 ⟨rfl, hw8⟩
  rw [hw8]
  go_wp2_with fail
  go_ret
  exact ⟨rfl, (unhide H7).base⟩
end Go.Proofs.Ytpngcmlaimcceaa
