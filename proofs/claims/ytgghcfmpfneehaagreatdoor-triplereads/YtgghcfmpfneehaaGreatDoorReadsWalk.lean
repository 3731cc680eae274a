/- The law TripleReads answers true: for every two texts. -/
import Derived.Test.YtgghcfmpfneehaaGreatDoorRfC
import Derived.Test.YtgghcfmpfneehaaGreatDoorRdE
import Derived.Test.YtgghcfmpfneehaaGreatDoorTriG
namespace Go.Proofs.YtgghcfmpfneehaaGreatDoor
open Go.RowKit
set_option maxHeartbeats 4000000 in
set_option maxRecDepth 100000 in
theorem reads_law (S T : ByteArray) (hS : S.size ≤ 140737488351232) (hT : T.size ≤ 140737488351232) (w : World) (hG : Gl w) :
    Calls Tryz.prog 3 #[.string S, .string T] w fun e w' => e = .returned (.bool true) ∧ Bel w w' := by
  have HG := hide hG
  have C1 := hide (read_w S (by omega))
  have C2 := hide (refRead_w S (by omega))
  have C3 := hide (readText_w T (by omega))
  have C4 := hide (readText_d T (by omega))
  generalize rWr S = X at C1 C2
  obtain ⟨⟨d, u, p, k, b, n, s, v⟩, r, x⟩ := X
  unfold av wv wr at C1 C2
  simp only at C1 C2
  clear hG hS hT
  go_enter Tryz.func3, Tryz.ntmps3
  go_wp2_with fail
  refine (C1.out _).mono ?_
  rintro e w1 ⟨rfl, hb1⟩
  go_wp2_with fail
  refine (C2.out _).mono ?_
  rintro e w2 ⟨rfl, hb2⟩
  have Hb2 := hide ((hb1.alloc (.cells #[.bool d, .int .u64 (u : Int), .string p, .int .u8 k, .bool b, .int .i64 n, .string s, .int .u64 v] 29)).trans hb2)
  have HA := hide ((S8.new d (u : Int) p k b n s v w1).next hb2)
  have HB := hide (S8.new d (u : Int) p k b n s v w2)
  clear hb1 hb2 C1 C2
  go_wp2_with fail
  refine (C3.out _ (HG.out.next (Hb2.out.alloc _))).mono ?_
  rintro e w3 ⟨d2, u2, p2, k2, b2, n2, s2, v2, x2, rfl, hb3, ok1⟩
  have O1 := hide ok1
  clear ok1 C3
  unfold wr
  go_wp2_with fail
  refine (C4.out _).mono ?_
  rintro e w4 ⟨d3, u3, p3, k3, b3, n3, s3, v3, x3, rfl, hb4, ok2⟩
  obtain ⟨rfl, rfl, rfl, rfl, rfl, rfl, rfl, rfl, rfl⟩ := one_answer O1.out ok2
  clear ok2 O1 C4
  unfold wr
  have hz := (hb3.alloc (.cells #[.bool d2, .int .u64 (u2 : Int), .string p2, .int .u8 k2, .bool b2, .int .i64 n2, .string s2, .int .u64 v2] 29)).trans hb4
  have hz2 := hz.alloc (.cells #[.bool d2, .int .u64 (u2 : Int), .string p2, .int .u8 k2, .bool b2, .int .i64 n2, .string s2, .int .u64 v2] 29)
  obtain ⟨a0, a1, a2, a3, a4, a5, a6, a7⟩ := (HA.out.alloc (.cells #[.bool d, .int .u64 (u : Int), .string p, .int .u8 k, .bool b, .int .i64 n, .string s, .int .u64 v] 29)).next hz2
  obtain ⟨c0, c1, c2, c3, c4, c5, c6, c7⟩ := HB.out.next hz2
  obtain ⟨e0, e1, e2, e3, e4, e5, e6, e7⟩ := ((S8.new d2 (u2 : Int) p2 k2 b2 n2 s2 v2 w3).next hb4).alloc (.cells #[.bool d2, .int .u64 (u2 : Int), .string p2, .int .u8 k2, .bool b2, .int .i64 n2, .string s2, .int .u64 v2] 29)
  obtain ⟨f0, f1, f2, f3, f4, f5, f6, f7⟩ := S8.new d2 (u2 : Int) p2 k2 b2 n2 s2 v2 w4
  have Hz := hide ((Hb2.out.alloc (.cells #[.bool d, .int .u64 (u : Int), .string p, .int .u8 k, .bool b, .int .i64 n, .string s, .int .u64 v] 29)).trans hz2)
  clear hb3 hb4 hz hz2 HA HB Hb2
  go_wp2_with fail
  refine (alive_any _ (HG.out.next Hz.out)).mono ?_
  rintro e w9 ⟨rfl, hb9⟩
  go_wp2_with fail
  go_ret
  exact ⟨rfl, Hz.out.trans hb9⟩
end Go.Proofs.YtgghcfmpfneehaaGreatDoor
