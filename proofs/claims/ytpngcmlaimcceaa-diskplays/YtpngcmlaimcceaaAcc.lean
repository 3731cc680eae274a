/- The program's Read, Used, Loose and New of a disk that is there. -/
import Derived.Test.YtpngcmlaimcceaaFau
namespace Go.Proofs.Ytpngcmlaimcceaa
open Go.RowKit Go.Maps Go.WideMaps
theorem Ch.nil {w w' : World} {a b : Nat} (h : Ch (fun i => (Value.slice none a b).ownBlock = some i) w w') : Bel w w' := ⟨h.os, h.tape, h.output, h.size, fun i hi => h.block i hi (fun e => by cases e)⟩
theorem fR_one (n : List UInt8) : fR [n] = if badN n then 2 else 0 := by unfold fR; simp
theorem findR_rd (d : PD) (n : List UInt8) : findR d.seen n [n] = ((d.rd n).1, ((d.rd n).2 : Int)) := by
  unfold findR PD.rd
  rw [fR_one]
  cases badN n
  · simp only [Bool.false_eq_true, if_false, if_true]
    cases hasF d.seen n <;> rfl
  · rfl
theorem Dk.c2 {C : Nat} {w : World} {p : Nat} {d : PD} {M B : Nat → Prop} (h : Dk C w p d M B) : ∃ bs c, w.heap[p]? = some (.cells c 57) ∧ c[2]? = some (.map (some bs)) ∧ Mp w bs d.seen := by
  obtain ⟨bs, bk, v, cs, h1, _⟩ := h.co
  exact ⟨bs, _, h1.row, rfl, h1.ms⟩
set_option maxRecDepth 100000 in
theorem read_any {C : Nat} {w : World} {p : Nat} {d : PD} {M B : Nat → Prop} (h : Dk C w p d M B) (n : List UInt8) (hn : n.length ≤ maxLen) :
    Calls Try.prog 23 #[.pointer (some ⟨p, 0, none⟩), .string ⟨n.toArray⟩] w fun e w' => e = .returned (.tuple #[.string ⟨(d.rd n).1.toArray⟩, .int .i64 ((d.rd n).2 : Nat)]) ∧ Bel w w' := by
  obtain ⟨bs, c, h1, h2, h3⟩ := h.c2
  have hf := hide (find_any p bs d.seen c n (.slice none 0 0) [] w h1 h2 h3 (World.ownsRow_nil _ _ _ _) (by simp [Value.ownBlock]) hn (by simp) (by simp))
  rw [List.nil_append, findR_rd] at hf
  generalize d.rd n = r at hf ⊢
  obtain ⟨r1, r2⟩ := r
  simp only at hf ⊢
  clear h1 h2 h3 h
  go_enter Try.func23, Try.ntmps23
  go_wp2_with (go_at_call 43; refine (unhide hf).mono ?_; rintro e w1 ⟨rfl, hc⟩)
  go_ret2
  exact ⟨rfl, hc.nil.alloc _⟩
theorem fault_d {C : Nat} {w : World} {p : Nat} {d : PD} {M B : Nat → Prop} (h : Dk C w p d M B) : Calls Try.prog 32 #[.pointer (some ⟨p, 0, none⟩), .slice none 0 0] w fun e w' => e = .returned (.int .i64 0) ∧ w' = w := by
  obtain ⟨bs, c, h1, h2, _⟩ := h.c2
  exact fault_any p bs 0 none [] 0 0 rfl (by omega) w ((cell_of h1).trans h2) (fun h => absurd rfl h) (fun j hj => absurd hj (by simp)) (by simp)
theorem fault_n {C : Nat} {w W : World} {p : Nat} {d : PD} {M B : Nat → Prop} (h : Dk C w p d M B) (n : List UInt8) (hn : n.length ≤ maxLen) {g : Nat} (hb : Bel w W) (hg : W.heap[g]? = some (.cells #[.string ⟨n.toArray⟩] 9)) :
    Calls Try.prog 32 #[.pointer (some ⟨p, 0, none⟩), .slice (some ⟨g, 0, none⟩) 1 1] W fun e w' => e = .returned (.int .i64 (if badN n then 2 else 0)) ∧ w' = W := by
  obtain ⟨bs, c, h1, h2, _⟩ := (h.bel hb).c2
  have := fault_any p bs g (some ⟨g, 0, none⟩) [n] 1 1 rfl (by omega) W ((cell_of h1).trans h2) (fun _ => rfl) (fun j hj => by
    obtain rfl : j = 0 := by simp at hj; omega
    exact cell_of hg) (by simpa using hn)
  rw [fR_one] at this
  exact this
set_option maxRecDepth 100000 in
theorem used_any {C : Nat} {w : World} {p : Nat} {d : PD} {M B : Nat → Prop} (h : Dk C w p d M B) :
    Calls Try.prog 10 #[.pointer (some ⟨p, 0, none⟩)] w fun e w' => e = .returned (.int .i64 (tot d.seen)) ∧ w' = w := by
  have hf := hide (fault_d h)
  obtain ⟨bs, bk, v, cs, h1, _⟩ := h.co
  have hc : w.cell? ⟨p, 1, none⟩ = some (.int .i64 (tot d.seen)) := cell_of h1.row
  clear h h1
  go_enter Try.func10, Try.ntmps10
  go_wp2_with (go_at_call 32; refine (unhide hf).mono ?_; rintro e w1 ⟨rfl, rfl⟩)
  go_ret
  exact ⟨rfl, rfl⟩
theorem own_shape {w : World} {v : Value} {n : Nat} {e : TypeId} {size : Nat} {cs : List Value} (h : w.ownsRow 0 e size v n cs) : ∃ a cap, v = .slice a n cap ∧ n ≤ cap ∧ (n ≠ 0 → ∃ g, a = some ⟨g, 0, none⟩) := by
  rcases h.2 with ⟨rfl, rfl⟩ | ⟨g, cap, cur, rfl, _, _, h3, _⟩
  · exact ⟨none, 0, rfl, Nat.le_refl _, fun h => absurd rfl h⟩
  · exact ⟨_, cap, rfl, h3, fun _ => ⟨g, rfl⟩⟩
set_option maxRecDepth 100000 in
theorem loose_any {C : Nat} {w : World} {p : Nat} {d : PD} {M B : Nat → Prop} (h : Dk C w p d M B) :
    Calls Try.prog 12 #[.pointer (some ⟨p, 0, none⟩)] w fun e w' => e = .returned (.int .i64 d.ops.length) ∧ w' = w := by
  have hf := hide (fault_d h)
  obtain ⟨bs, bk, v, cs, h1, _⟩ := h.co
  obtain ⟨a, cap, rfl, _, _⟩ := own_shape h1.lo
  have hc : w.cell? ⟨p, 4, none⟩ = some (.slice a d.ops.length cap) := cell_of h1.row
  clear h h1
  go_enter Try.func12, Try.ntmps12
  go_wp2_with (go_at_call 32; refine (unhide hf).mono ?_; rintro e w1 ⟨rfl, rfl⟩)
  go_ret
  exact ⟨rfl, rfl⟩
theorem fine_nil (C : Nat) : Fine C [] := ⟨List.Pairwise.nil, Nat.zero_le _, by simp, by simp⟩
/-- A new disk, plain. -/
def PD.new (room : Int) : PD := ⟨room.toNat, [], [], []⟩
theorem new_dk (w w' : World) (r : Int) (q : Nat) (hq : r = (q : Int)) (hr : q < 9223372036854775808) (C : Nat) (hw : w' = ((w.alloc (.map #[] 0)).alloc (.map #[] 0)).alloc (.cells #[.int .i64 r, .int .i64 0, .map (some w.heap.size), .map (some (w.heap.size + 1)), .slice none 0 0] 57)) :
    Dk C w' (w.heap.size + 1 + 1) ⟨q, [], [], []⟩ (fun i => w.heap.size ≤ i ∧ i < w'.heap.size) (fun _ => False) ∧ Bel w w' := by
  subst hq
  have e1 : (w.alloc (.map #[] 0)).heap.size = w.heap.size + 1 := by simp
  have e2 : ((w.alloc (.map #[] 0)).alloc (.map #[] 0)).heap.size = w.heap.size + 1 + 1 := by simp
  have es : w'.heap.size = w.heap.size + 3 := by rw [hw]; simp
  have hrow : w'.heap[w.heap.size + 1 + 1]? = some (.cells #[.int .i64 (q : Int), .int .i64 0, .map (some w.heap.size), .map (some (w.heap.size + 1)), .slice none 0 0] 57) := by
    rw [hw]
    have := at_new ((w.alloc (.map #[] 0)).alloc (.map #[] 0)) (.cells #[.int .i64 (q : Int), .int .i64 0, .map (some w.heap.size), .map (some (w.heap.size + 1)), .slice none 0 0] 57)
    rw [e2] at this
    exact this
  have m1 : Mp w' w.heap.size [] := by
    rw [hw]
    exact Mp.bel (Mp.bel (World.ownsMap_made w Try.prog 9 fileE) ((Bel.refl _).alloc _)) ((Bel.refl _).alloc _)
  have m2 : Mp w' (w.heap.size + 1) [] := by
    rw [hw]
    have := World.ownsMap_made (w.alloc (.map #[] 0)) Try.prog 9 fileE
    rw [e1] at this
    exact Mp.bel this ((Bel.refl _).alloc _)
  refine ⟨⟨⟨w.heap.size, w.heap.size + 1, .slice none 0 0, [], ⟨hrow, m1, m2, World.ownsRow_nil _ _ _ _, by omega, by simp [Value.ownBlock], fun _ => rfl⟩, rfl, ?_⟩, rfl, fine_nil C, fun _ _ h => h, fun i hi => hi.2, fun _ h => h.elim, hr⟩, ?_⟩
  · rintro i (rfl | rfl | rfl | hi)
    · exact ⟨by omega, by omega⟩
    · exact ⟨by omega, by omega⟩
    · exact ⟨by omega, by omega⟩
    · cases hi
  · rw [hw]; exact (((Bel.refl w).alloc _).alloc _).alloc _
set_option maxRecDepth 100000 in
theorem new_any (room : Int) (hr : room < 9223372036854775808) (C : Nat) (w : World) :
    Calls Try.prog 7 #[.int .i64 room] w fun e w' => ∃ p, e = .returned (.pointer (some ⟨p, 0, none⟩)) ∧ Dk C w' p (PD.new room) (fun i => w.heap.size ≤ i ∧ i < w'.heap.size) (fun _ => False) ∧ Bel w w' := by
  have hmm := @run_makeMap Try.prog
  go_enter Try.func7, Try.ntmps7
  go_wp2_with fail
  · go_ret
    refine ⟨_, rfl, ?_⟩
    have e : PD.new room = ⟨0, [], [], []⟩ := by unfold PD.new; rw [show room.toNat = 0 by omega]
    rw [e]
    exact new_dk w _ 0 0 rfl (by omega) C rfl
  · go_ret
    refine ⟨_, rfl, ?_⟩
    exact new_dk w _ room room.toNat (by omega) (by omega) C rfl
end Go.Proofs.Ytpngcmlaimcceaa
