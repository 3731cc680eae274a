/- A write's bytes and its line, by the document. -/
import Derived.Test.YtgghcfmpfneehaaGreatDoorTriF
import Derived.Test.YtgghcfmpfneehaaGreatDoorValL
namespace Go.Proofs.YtgghcfmpfneehaaGreatDoor
open Go.RowKit
theorem txt_cat {c : UInt8} {N V WB : List UInt8} {p : ByteArray} (h : WB = c :: 32 :: N ++ 32 :: p.data.toList ++ 32 :: V) : (⟨#[c, 32]⟩ ++ ⟨N.toArray⟩ ++ ⟨#[32]⟩ ++ p ++ ⟨#[32]⟩ ++ ⟨V.toArray⟩ : ByteArray) = ⟨WB.toArray⟩ := by
  apply ba_ext
  simp [h]
set_option maxHeartbeats 1000000 in
set_option maxRecDepth 100000 in
theorem refWtext (d : Bool) (u : Nat) (hu : u < 18446744073709551616) (p : ByteArray) (k : Int) (b : Bool) (n : Int) (s : ByteArray) (v : Int) (n0 : -9223372036854775808 ≤ n) (n1 : n < 9223372036854775808) (v0 : 0 ≤ v) (v1 : v < 18446744073709551616) (h : eT u p k b n s v = 0) (w : World) :
    Calls Tryz.prog 39 #[wr d u p k b n s v] w fun e w' => e = .returned (.string ⟨(wtx d u p k b n s v).toArray⟩) ∧ Bel w w' := by
  obtain ⟨h1, h2, h3⟩ := eT_zero h
  have hps := name_short h2
  have hV := hide (fun W => rtext_yes h3 n0 n1 v0 v1 W)
  have hN := hide (fun W => uid_doc u hu W)
  have HW := hide (show wtx d u p k b n s v = sgn d :: 32 :: (48 :: 120 :: hexL u) ++ 32 :: p.data.toList ++ 32 :: ltr k b n s v from rfl)
  have hq1 : (48 :: 120 :: hexL u).length ≤ 100 := by
    have := hexL_len 15 u (by omega)
    simp only [List.length_cons]; omega
  have hq3 : (ltr k b n s v).length ≤ 20000 := ltr_len h3 ⟨n0, n1, v0, v1⟩
  generalize wtx d u p k b n s v = WB at HW ⊢
  generalize (48 :: 120 :: hexL u) = N at HW hN hq1
  generalize ltr k b n s v = V at HW hV hq3
  have q1 : ¬ (9223372036854775807 < 2 + N.length) := by omega
  have q2 : ¬ (9223372036854775807 < 2 + N.length + 1) := by omega
  have q3 : ¬ (9223372036854775807 < 2 + N.length + 1 + p.size) := by omega
  have q4 : ¬ (9223372036854775807 < 2 + N.length + 1 + p.size + 1) := by omega
  have q5 : ¬ (9223372036854775807 < 2 + N.length + 1 + p.size + 1 + V.length) := by omega
  have h8 := S8.new d u p k b n s v w
  have hb0 : Bel w (w.alloc (.cells #[.bool d, .int .u64 u, .string p, .int .u8 k, .bool b, .int .i64 n, .string s, .int .u64 v] 29)) := (Bel.refl _).alloc _
  clear h h1 h2 h3 hps hq1 hq3
  unfold ev at hV
  unfold wr
  cases d
  all_goals
    go_enter Tryz.func39, Tryz.ntmps39
    go_wp2_with fail
  · generalize w.alloc (.cells #[.bool false, .int .u64 u, .string p, .int .u8 k, .bool b, .int .i64 n, .string s, .int .u64 v] 29) = W1 at h8 hb0 ⊢
    generalize w.heap.size = B at *
    have h9 := h8.drew
    clear h8
    go_region_held3 (fun W => W.cell? ⟨B, 0, none⟩ = some (.bool false) ∧ W.cell? ⟨B, 1, none⟩ = some (.int .u64 u) ∧ W.cell? ⟨B, 2, none⟩ = some (.string p) ∧ W.cell? ⟨B, 3, none⟩ = some (.int .u8 k) ∧ W.cell? ⟨B, 4, none⟩ = some (.bool b) ∧ W.cell? ⟨B, 5, none⟩ = some (.int .i64 n) ∧ W.cell? ⟨B, 6, none⟩ = some (.string s) ∧ W.cell? ⟨B, 7, none⟩ = some (.int .u64 v)) (first | assumption | exact S8.next (by assumption) (by assumption)) ((first | (go_at_call 72; refine (hN.out _).mono ?_; rintro e w'' ⟨rfl, rfl⟩) | (go_at_call 73; refine (hV.out _).mono ?_; rintro e w'' ⟨rfl, hb⟩)))
    all_goals
      go_wp2
      go_ret
      refine ⟨?_, hb0.drew.trans (by assumption)⟩
      exact congrArg (fun t => Ending.returned (Value.string t)) (txt_cat HW.out)
  · generalize w.alloc (.cells #[.bool true, .int .u64 u, .string p, .int .u8 k, .bool b, .int .i64 n, .string s, .int .u64 v] 29) = W1 at h8 hb0 ⊢
    generalize w.heap.size = B at *
    have h9 := h8.drew
    clear h8
    go_region_held3 (fun W => W.cell? ⟨B, 0, none⟩ = some (.bool true) ∧ W.cell? ⟨B, 1, none⟩ = some (.int .u64 u) ∧ W.cell? ⟨B, 2, none⟩ = some (.string p) ∧ W.cell? ⟨B, 3, none⟩ = some (.int .u8 k) ∧ W.cell? ⟨B, 4, none⟩ = some (.bool b) ∧ W.cell? ⟨B, 5, none⟩ = some (.int .i64 n) ∧ W.cell? ⟨B, 6, none⟩ = some (.string s) ∧ W.cell? ⟨B, 7, none⟩ = some (.int .u64 v)) (first | assumption | exact S8.next (by assumption) (by assumption)) ((first | (go_at_call 72; refine (hN.out _).mono ?_; rintro e w'' ⟨rfl, rfl⟩) | (go_at_call 73; refine (hV.out _).mono ?_; rintro e w'' ⟨rfl, hb⟩)))
    all_goals
      go_wp2
      go_ret
      refine ⟨?_, hb0.drew.trans (by assumption)⟩
      exact congrArg (fun t => Ending.returned (Value.string t)) (txt_cat HW.out)
end Go.Proofs.YtgghcfmpfneehaaGreatDoor
