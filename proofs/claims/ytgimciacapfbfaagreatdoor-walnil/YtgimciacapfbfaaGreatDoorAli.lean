/- A disk that the call itself makes: the calls one behind the other; some answers that the document fixes (alive). -/
import Derived.Test.YtgimciacapfbfaaGreatDoorCrb
namespace Go.Proofs.YtgimciacapfbfaaGreatDoor
open Go.RowKit Go.Maps Go.WideMaps
/-- A disk that was made behind w0. -/
def Al (w0 : World) (C p : Nat) (d : PD) (W : World) : Prop := ∃ M B, Dk C W p d M B ∧ (∀ i, M i → w0.heap.size ≤ i) ∧ Bel w0 W
theorem Al.bel {w0 : World} {C p : Nat} {d : PD} {W W' : World} (h : Al w0 C p d W) (hb : Bel W W') : Al w0 C p d W' := by
  obtain ⟨M, B, h1, h2, h3⟩ := h
  exact ⟨M, B, h1.bel hb, h2, h3.trans hb⟩
theorem Al.base {w0 : World} {C p : Nat} {d : PD} {W : World} (h : Al w0 C p d W) : Bel w0 W := by
  obtain ⟨M, B, h1, h2, h3⟩ := h
  exact h3
theorem al_aft {w0 : World} {C p : Nat} {d : PD} {W W' : World} {M B : Nat → Prop} (h2 : ∀ i, M i → w0.heap.size ≤ i) (h3 : Bel w0 W) (h : Aft C W p M B d W') : Al w0 C p d W' := by
  obtain ⟨M', B', k1, k2, k3, k4⟩ := h
  refine ⟨M', B', k1, fun i hi => (k2 i hi).elim (h2 i) (fun h => Nat.le_trans h3.size h), ?_⟩
  have := k4.below (B := w0.heap.size) h3.size h2
  exact Below.trans h3 this
theorem al_new (room : Int) (hr : room < 9223372036854775808) (C : Nat) (w0 w : World) (hb : Bel w0 w) : Calls Tryz.prog 6 #[.int .i64 room] w fun e w' => ∃ p, e = .returned (.pointer (some ⟨p, 0, none⟩)) ∧ Al w0 C p (PD.new room) w' := by
  refine (new_any room hr C w).mono ?_
  rintro e w' ⟨p, he, hd, hb'⟩
  exact ⟨p, he, _, _, hd, fun i hi => Nat.le_trans hb.size hi.1, hb.trans hb'⟩
theorem al_app {w0 W : World} {C p : Nat} {d : PD} (h : Al w0 C p d W) (n t : List UInt8) (hn : n.length ≤ maxLen) (hol : d.ops.length ≤ 1000000) (hC : C + 2 * t.length ≤ 1099511627776) :
    Calls Tryz.prog 52 #[.pointer (some ⟨p, 0, none⟩), .string ⟨n.toArray⟩, .string ⟨t.toArray⟩] W fun e w' => e = .returned (.int .i64 (d.app n t).1) ∧ Al w0 (C + t.length) p (d.app n t).2 w' := by
  obtain ⟨M, B, h1, h2, h3⟩ := h
  refine (append_any h1 n t hn hol hC).mono ?_
  rintro e w' ⟨he, ha⟩
  exact ⟨he, al_aft h2 h3 ha⟩
theorem al_sync {w0 W : World} {C p : Nat} {d : PD} (h : Al w0 C p d W) (hol : d.ops.length ≤ 1000000) :
    Calls Tryz.prog 28 #[.pointer (some ⟨p, 0, none⟩)] W fun e w' => e = .returned (.int .i64 0) ∧ Al w0 C p d.sync w' := by
  obtain ⟨M, B, h1, h2, h3⟩ := h
  refine (sync_any h1 hol).mono ?_
  rintro e w' ⟨he, ha⟩
  exact ⟨he, al_aft h2 h3 ha⟩
theorem al_crash {w0 W : World} {C p : Nat} {d : PD} (h : Al w0 C p d W) (keep torn : Int) (hol : d.ops.length ≤ 1000000) (hC : 2 * C ≤ 1099511627776) (ht : ∀ o ∈ d.ops, (txt5 o).length ≤ C) (hk1 : keep < 9223372036854775808) (ht1 : torn < 9223372036854775808) :
    Calls Tryz.prog 10 #[.pointer (some ⟨p, 0, none⟩), .int .i64 keep, .int .i64 torn] W fun e w' => e = .returned (.int .i64 (d.crash keep torn).1) ∧ Al w0 C p (d.crash keep torn).2 w' := by
  obtain ⟨M, B, h1, h2, h3⟩ := h
  refine (crash_any h1 keep torn hol hC ht hk1 ht1).mono ?_
  rintro e w' ⟨he, ha⟩
  exact ⟨he, al_aft h2 h3 ha⟩
theorem al_read {w0 W : World} {C p : Nat} {d : PD} (h : Al w0 C p d W) (n : List UInt8) (hn : n.length ≤ maxLen) :
    Calls Tryz.prog 21 #[.pointer (some ⟨p, 0, none⟩), .string ⟨n.toArray⟩] W fun e w' => e = .returned (.tuple #[.string ⟨(d.rd n).1.toArray⟩, .int .i64 ((d.rd n).2 : Nat)]) ∧ Al w0 C p d w' := by
  obtain ⟨M, B, h1, h2, h3⟩ := h
  refine (read_any h1 n hn).mono ?_
  rintro e w' ⟨he, ha⟩
  exact ⟨he, M, B, h1.bel ha, h2, h3.trans ha⟩
theorem al_loose {w0 W : World} {C p : Nat} {d : PD} (h : Al w0 C p d W) : Calls Tryz.prog 11 #[.pointer (some ⟨p, 0, none⟩)] W fun e w' => e = .returned (.int .i64 d.ops.length) ∧ w' = W := by
  obtain ⟨M, B, h1, h2, h3⟩ := h
  exact loose_any h1
def L1 : PD := ⟨9, [([97], [120, 121, 122])], [], [.app [97] [120, 121, 122]]⟩
def L2 : PD := ⟨9, [([97], [120, 121, 122, 49, 50, 51, 52, 53, 54])], [], [.app [97] [120, 121, 122], .app [97] [49, 50, 51, 52, 53, 54]]⟩
def L3 : PD := ⟨9, [([97], [120, 121, 122, 49, 50])], [([97], [120, 121, 122, 49, 50])], []⟩
theorem l_one : (PD.new 9).app [97] [120, 121, 122] = (0, L1) := by rfl
theorem l_two : L1.app [97] [49, 50, 51, 52, 53, 54] = (0, L2) := by rfl
theorem l_three : L2.app [97] [55] = (6, L2) := by rfl
theorem l_four : L2.crash 1 2 = (0, L3) := by rfl
theorem l_five : L3.rd [97] = ([120, 121, 122, 49, 50], 0) := by rfl
theorem ml {n : List UInt8} (h : n.length ≤ 1000) : n.length ≤ maxLen := by unfold maxLen; omega
theorem al_app1 {w0 W : World} {C p : Nat} {d : PD} (h : Al w0 C p d W) (n t : List UInt8) (hn : n.length ≤ 1000) (hol : d.ops.length ≤ 1000) (hC : C + 2 * t.length ≤ 1000) {r : Nat} {d' : PD} (e : d.app n t = (r, d')) :
    Calls Tryz.prog 52 #[.pointer (some ⟨p, 0, none⟩), .string ⟨n.toArray⟩, .string ⟨t.toArray⟩] W fun e w' => e = .returned (.int .i64 r) ∧ Al w0 (C + t.length) p d' w' := by
  have := al_app h n t (ml hn) (by omega) (by omega)
  rw [e] at this
  exact this
end Go.Proofs.YtgimciacapfbfaaGreatDoor
