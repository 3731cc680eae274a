/- A write's bytes, by the program. -/
import Derived.Test.YtgghcfmpfneehaaGreatDoorTriD
import Derived.Test.YtgghcfmpfneehaaGreatDoorCodT
import Derived.Test.YtgghcfmpfneehaaGreatDoorValR
import Derived.Deep.RegionHeld
namespace Go.Proofs.YtgghcfmpfneehaaGreatDoor
open Go.RowKit
/-- A write as the program holds it. -/
def wr (d : Bool) (u : Int) (p : ByteArray) (k : Int) (b : Bool) (n : Int) (s : ByteArray) (v : Int) : Value := .agg #[.bool d, .int .u64 u, .string p, .int .u8 k, .bool b, .int .i64 n, .string s, .int .u64 v]
def S8 (B : Nat) (d : Bool) (u : Int) (p : ByteArray) (k : Int) (b : Bool) (n : Int) (s : ByteArray) (v : Int) (W : World) : Prop :=
  W.cell? ⟨B, 0, none⟩ = some (.bool d) ∧ W.cell? ⟨B, 1, none⟩ = some (.int .u64 u) ∧ W.cell? ⟨B, 2, none⟩ = some (.string p) ∧ W.cell? ⟨B, 3, none⟩ = some (.int .u8 k) ∧ W.cell? ⟨B, 4, none⟩ = some (.bool b) ∧ W.cell? ⟨B, 5, none⟩ = some (.int .i64 n) ∧ W.cell? ⟨B, 6, none⟩ = some (.string s) ∧ W.cell? ⟨B, 7, none⟩ = some (.int .u64 v)
theorem S8.next {B : Nat} {d : Bool} {u : Int} {p : ByteArray} {k : Int} {b : Bool} {n : Int} {s : ByteArray} {v : Int} {W W' : World} (h : S8 B d u p k b n s v W) (hb : Bel W W') : S8 B d u p k b n s v W' :=
  ⟨hb.cell h.1, hb.cell h.2.1, hb.cell h.2.2.1, hb.cell h.2.2.2.1, hb.cell h.2.2.2.2.1, hb.cell h.2.2.2.2.2.1, hb.cell h.2.2.2.2.2.2.1, hb.cell h.2.2.2.2.2.2.2⟩
theorem S8.alloc {B : Nat} {d : Bool} {u : Int} {p : ByteArray} {k : Int} {b : Bool} {n : Int} {s : ByteArray} {v : Int} {W : World} (h : S8 B d u p k b n s v W) (o : Obj) : S8 B d u p k b n s v (W.alloc o) := h.next ((Bel.refl _).alloc o)
theorem S8.drew {B : Nat} {d : Bool} {u : Int} {p : ByteArray} {k : Int} {b : Bool} {n : Int} {s : ByteArray} {v : Int} {W : World} (h : S8 B d u p k b n s v W) : S8 B d u p k b n s v W.drew := h.next (Bel.refl _).drew
theorem S8.new (d : Bool) (u : Int) (p : ByteArray) (k : Int) (b : Bool) (n : Int) (s : ByteArray) (v : Int) (W : World) : S8 W.heap.size d u p k b n s v (W.alloc (.cells #[.bool d, .int .u64 u, .string p, .int .u8 k, .bool b, .int .i64 n, .string s, .int .u64 v] 29)) :=
  ⟨cell_new _ _ _ _, cell_new _ _ _ _, cell_new _ _ _ _, cell_new _ _ _ _, cell_new _ _ _ _, cell_new _ _ _ _, cell_new _ _ _ _, cell_new _ _ _ _⟩
/-- The bytes of a write. -/
def wby (d : Bool) (u : Int) (p : ByteArray) (k : Int) (b : Bool) (n : Int) (s : ByteArray) (v : Int) : List UInt8 := bt d :: (num u.toNat ++ (num p.size ++ p.data.toList) ++ byt k b n s v)
set_option maxRecDepth 100000 in
theorem wbytes_no (d : Bool) (u : Int) (p : ByteArray) (k : Int) (b : Bool) (n : Int) (s : ByteArray) (v : Int) (hu0 : 0 ≤ u) (h : eT u p k b n s v ≠ 0) (w : World) :
    Calls Tryz.prog 18 #[wr d u p k b n s v] w fun e w' => e = .returned (.tuple #[.string ⟨#[]⟩, .int .i64 (eT u p k b n s v)]) ∧ Bel w w' := by
  have hC := hide (fun W => may_any u p k b n s v hu0 W)
  generalize eT u p k b n s v = E at h hC ⊢
  have hE : (E != 0) = true := by simpa using h
  clear h
  unfold et at hC
  unfold wr
  go_enter Tryz.func18, Tryz.ntmps18
  go_wp2_with (go_at_call 29; refine (hC.out _).mono ?_; rintro e w' ⟨rfl, hb⟩)
  go_ret2
  exact ⟨rfl, ((Bel.refl _).alloc _).trans hb⟩
theorem wby_cat {c : UInt8} {N V WB : List UInt8} {T : ByteArray} (h : WB = c :: (N ++ T.data.toList ++ V)) : (⟨#[c]⟩ ++ ⟨N.toArray⟩ ++ T ++ ⟨V.toArray⟩ : ByteArray) = ⟨WB.toArray⟩ := by
  apply ba_ext
  simp [h]
theorem conv_thenD {c : UInt8} {x : Int} (hx : (c.toNat : Int) = x) {W W' : World} (hb : Bel (W.alloc (.cells #[.int .u8 x] 5)) W') : (convert 98 9 (.slice (some ⟨W.heap.size, 0, none⟩) 1 1)).run Tryz.prog W' = .ok (.string ⟨#[c]⟩) W' := by
  subst hx
  exact conv_at c _ _ (hb.row (heap_alloc_new W _))
set_option maxHeartbeats 1000000 in
set_option maxRecDepth 100000 in
theorem wbytes_yes (d : Bool) (u : Nat) (hu : u < 2 ^ 64) (p : ByteArray) (k : Int) (b : Bool) (n : Int) (s : ByteArray) (v : Int) (n0 : -9223372036854775808 ≤ n) (n1 : n < 9223372036854775808) (v0 : 0 ≤ v) (v1 : v < 18446744073709551616) (h : eT u p k b n s v = 0) (w : World) :
    Calls Tryz.prog 18 #[wr d u p k b n s v] w fun e w' => e = .returned (.tuple #[.string ⟨(wby d u p k b n s v).toArray⟩, .int .i64 0]) ∧ Bel w w' := by
  obtain ⟨h1, h2, h3⟩ := eT_zero h
  have hps := name_short h2
  have hC := hide (fun W => may_any u p k b n s v (by omega) W)
  rw [h] at hC
  have hV := hide (fun W => bytes_yes h3 n0 n1 v0 v1 W)
  have hN := hide (fun W => num_any u hu W)
  have hT := hide (fun W => ctext_any p (by omega) W)
  have HW := hide (show wby d u p k b n s v = bt d :: (num u ++ (ctx p).data.toList ++ byt k b n s v) by simp [wby, ctx])
  have hq1 : (num u).length ≤ 9 := num_len u hu
  have hq2 : (ctx p).size ≤ 73 := by
    have := num_len p.size (by omega)
    unfold ctx
    rw [ByteArray.size_append, show (⟨(num p.size).toArray⟩ : ByteArray).size = (num p.size).length from List.size_toArray]
    omega
  have hq3 : (byt k b n s v).length ≤ 20000 := byt_len h3 ⟨n0, n1, v0, v1⟩
  generalize wby d u p k b n s v = WB at HW ⊢
  generalize num u = N at HW hN hq1
  generalize ctx p = T at HW hT hq2
  generalize byt k b n s v = V at HW hV hq3
  have q1 : ¬ (9223372036854775807 < 1 + N.length) := by omega
  have q2 : ¬ (9223372036854775807 < 1 + N.length + T.size) := by omega
  have q3 : ¬ (9223372036854775807 < 1 + N.length + T.size + V.length) := by omega
  have hcv1 := conv_new1 (bt d)
  have hcv2 := conv_new1' (bt d)
  have hd : ((bt d).toNat : Int) = if d then 1 else 0 := by cases d <;> rfl
  have h8 := hide (S8.new d u p k b n s v w)
  have hb0 : Bel w (w.alloc (.cells #[.bool d, .int .u64 u, .string p, .int .u8 k, .bool b, .int .i64 n, .string s, .int .u64 v] 29)) := (Bel.refl _).alloc _
  clear h h1 h2 h3 hps hq1 hq2 hq3
  unfold ev at hV
  unfold et at hC
  unfold wr
  cases d
  · simp only [Bool.false_eq_true, if_false] at hd
    rw [hd] at hcv1 hcv2
    go_enter Tryz.func18, Tryz.ntmps18
    go_wp2_with (first | (go_at_call 29; refine (hC.out _).mono ?_; rintro e w1 ⟨rfl, hb1⟩; obtain ⟨c0, c1, c2, c3, c4, c5, c6, c7⟩ := h8.out.next hb1) | (go_at_call 50; refine (hV.out _).mono ?_; rintro e w2 ⟨rfl, hb2⟩))
    have h9 := (h8.out.next hb1).next hb2
    have hb3 := (hb0.trans hb1).trans hb2
    clear h8 hb0 hb1 hb2 c0 c1 c2 c3 c4 c5 c6 c7
    generalize w.heap.size = B at *
    have h9' := h9.drew
    clear h9
    go_region_held (fun W => W.cell? ⟨B, 0, none⟩ = some (.bool false) ∧ W.cell? ⟨B, 1, none⟩ = some (.int .u64 u) ∧ W.cell? ⟨B, 2, none⟩ = some (.string p) ∧ W.cell? ⟨B, 3, none⟩ = some (.int .u8 k) ∧ W.cell? ⟨B, 4, none⟩ = some (.bool b) ∧ W.cell? ⟨B, 5, none⟩ = some (.int .i64 n) ∧ W.cell? ⟨B, 6, none⟩ = some (.string s) ∧ W.cell? ⟨B, 7, none⟩ = some (.int .u64 v)) (first | assumption | exact S8.next (by assumption) (by assumption) | exact S8.alloc (by assumption) _) (((first | (go_at_call 51; refine (hN.out _).mono ?_; rintro e w'' ⟨rfl, hb⟩) | (go_at_call 52; refine (hT.out _).mono ?_; rintro e w'' ⟨rfl, hb⟩)); first | (have hc3 : (convert 98 9 (.slice (some ⟨w2.heap.size, 0, none⟩) 1 1)).run Tryz.prog w'' = .ok (.string ⟨#[0]⟩) w'' := conv_thenD (W := w2.drew) rfl hb) | (have hc3 := conv_thenD (c := 0) rfl hb) | (have hc3 : (convert 98 9 (.slice (some ⟨w2.heap.size, 0, none⟩) 1 1)).run Tryz.prog w'' = .ok (.string ⟨#[0]⟩) w'' := conv_thenD (W := w2.drew) rfl (Bel.trans (by assumption) hb)) | (have hc3 := conv_thenD (c := 0) rfl (Bel.trans (by assumption) hb)) | skip))
    all_goals
      go_wp2
      go_ret2
      refine ⟨?_, ?_⟩
      · exact congrArg (fun t => Ending.returned (Value.tuple #[Value.string t, Value.int .i64 0])) (wby_cat HW.out)
      · first
        | exact ((hb3.alloc _).drew.trans (by assumption)).trans (by assumption)
        | exact ((hb3.drew.trans (by assumption)).alloc _).trans (by assumption)
        | exact ((hb3.drew.trans (by assumption)).trans (by assumption)).alloc _
  · simp only [if_true] at hd
    rw [hd] at hcv1 hcv2
    go_enter Tryz.func18, Tryz.ntmps18
    go_wp2_with (first | (go_at_call 29; refine (hC.out _).mono ?_; rintro e w1 ⟨rfl, hb1⟩; obtain ⟨c0, c1, c2, c3, c4, c5, c6, c7⟩ := h8.out.next hb1) | (go_at_call 50; refine (hV.out _).mono ?_; rintro e w2 ⟨rfl, hb2⟩))
    have h9 := (h8.out.next hb1).next hb2
    have hb3 := (hb0.trans hb1).trans hb2
    clear h8 hb0 hb1 hb2 c0 c1 c2 c3 c4 c5 c6 c7
    generalize w.heap.size = B at *
    have h9' := h9.drew
    clear h9
    go_region_held (fun W => W.cell? ⟨B, 0, none⟩ = some (.bool true) ∧ W.cell? ⟨B, 1, none⟩ = some (.int .u64 u) ∧ W.cell? ⟨B, 2, none⟩ = some (.string p) ∧ W.cell? ⟨B, 3, none⟩ = some (.int .u8 k) ∧ W.cell? ⟨B, 4, none⟩ = some (.bool b) ∧ W.cell? ⟨B, 5, none⟩ = some (.int .i64 n) ∧ W.cell? ⟨B, 6, none⟩ = some (.string s) ∧ W.cell? ⟨B, 7, none⟩ = some (.int .u64 v)) (first | assumption | exact S8.next (by assumption) (by assumption) | exact S8.alloc (by assumption) _) (((first | (go_at_call 51; refine (hN.out _).mono ?_; rintro e w'' ⟨rfl, hb⟩) | (go_at_call 52; refine (hT.out _).mono ?_; rintro e w'' ⟨rfl, hb⟩)); first | (have hc3 : (convert 98 9 (.slice (some ⟨w2.heap.size, 0, none⟩) 1 1)).run Tryz.prog w'' = .ok (.string ⟨#[1]⟩) w'' := conv_thenD (W := w2.drew) rfl hb) | (have hc3 := conv_thenD (c := 1) rfl hb) | (have hc3 : (convert 98 9 (.slice (some ⟨w2.heap.size, 0, none⟩) 1 1)).run Tryz.prog w'' = .ok (.string ⟨#[1]⟩) w'' := conv_thenD (W := w2.drew) rfl (Bel.trans (by assumption) hb)) | (have hc3 := conv_thenD (c := 1) rfl (Bel.trans (by assumption) hb)) | skip))
    all_goals
      go_wp2
      go_ret2
      refine ⟨?_, ?_⟩
      · exact congrArg (fun t => Ending.returned (Value.tuple #[Value.string t, Value.int .i64 0])) (wby_cat HW.out)
      · first
        | exact ((hb3.alloc _).drew.trans (by assumption)).trans (by assumption)
        | exact ((hb3.drew.trans (by assumption)).alloc _).trans (by assumption)
        | exact ((hb3.drew.trans (by assumption)).trans (by assumption)).alloc _
end Go.Proofs.YtgghcfmpfneehaaGreatDoor
