/- The law ValueReads walked: for every two texts it answers true, and what was there is as it was. -/
import Derived.Test.YtomnajoflcjnfaaDoorValV
import Derived.Test.YtomnajoflcjnfaaDoorValM
import Derived.Test.YtomnajoflcjnfaaDoorValO
import Derived.Test.YtomnajoflcjnfaaDoorValJ
namespace Go.Proofs.YtomnajoflcjnfaaDoor
open Go.RowKit
set_option linter.unusedVariables false
set_option maxHeartbeats 4000000 in
set_option maxRecDepth 100000 in
theorem reads_law (S T : ByteArray) (hS : S.size ≤ 140737488351232) (hT : T.size ≤ 140737488351232) (w : World) (hG : Gl w) :
    Calls Tryd.prog 4 #[.string S, .string T] w fun e w' => e = .returned (.bool true) ∧ Bel w w' := by
  have HG := hide hG
  have C15 := hide (fun W => read_any S (by omega) W)
  have C16 := hide (fun W => rread_any S (by omega) W)
  have C17 := hide (fun W hW => readText_any T (by omega) W hW)
  have C18 := hide (fun W => readText_doc T (by omega) W)
  have C12 := hide (fun W hW => alive_any W hW)
  obtain ⟨⟨⟨kv, bv, nv, tv, uv⟩, rest, ev0⟩, hv⟩ : ∃ v, v = rVal S := ⟨_, rfl⟩
  rw [← hv] at C15 C16
  unfold rv at C15 C16
  simp only at C15 C16
  clear hG hv
  unfold docR at C18
  unfold ev at C15 C16 C17 C18
  go_enter Tryd.func4, Tryd.ntmps4
  go_wp2_with fail
  refine (C15.out _).mono ?_
  rintro e w1 ⟨rfl, hb1⟩
  have HA1 := hide (S5.first kv bv nv tv uv w1)
  have HB1 := hide (hb1.alloc (.cells #[.int .u8 kv, .bool bv, .int .i64 nv, .string tv, .int .u64 uv] 25))
  clear hb1
  go_wp2_with fail
  refine (C16.out _).mono ?_
  rintro e w2 ⟨rfl, hb2⟩
  have HA2 := hide ((HA1.out.next hb2).alloc (.cells #[.int .u8 kv, .bool bv, .int .i64 nv, .string tv, .int .u64 uv] 25))
  have HC2 := hide (S5.first kv bv nv tv uv w2)
  have HB2 := hide ((HB1.out.trans hb2).alloc (.cells #[.int .u8 kv, .bool bv, .int .i64 nv, .string tv, .int .u64 uv] 25))
  clear hb2
  go_wp2_with fail
  refine (C17.out _ (HG.out.next HB2.out)).mono ?_
  rintro e w3 ⟨k, b, n, t, u, x, rfl, hb3, hok⟩
  have HO := hide hok
  have HD3 := hide (S5.first k b n t u w3)
  have HB3 := hide ((HB2.out.trans hb3).alloc (.cells #[.int .u8 k, .bool b, .int .i64 n, .string t, .int .u64 u] 25))
  have HA3 := hide ((HA2.out.next hb3).alloc (.cells #[.int .u8 k, .bool b, .int .i64 n, .string t, .int .u64 u] 25))
  have HC3 := hide ((HC2.out.next hb3).alloc (.cells #[.int .u8 k, .bool b, .int .i64 n, .string t, .int .u64 u] 25))
  clear hb3 hok
  go_wp2_with fail
  refine (C18.out _).mono ?_
  rintro e w4 ⟨k', b', n', t', u', x', rfl, hb4, hok'⟩
  obtain ⟨rfl, rfl, rfl, rfl, rfl, rfl⟩ := same_answer HO.out hok'
  have HD4 := hide ((HD3.out.next hb4).alloc (.cells #[.int .u8 k, .bool b, .int .i64 n, .string t, .int .u64 u] 25))
  have HE4 := hide (S5.first k b n t u w4)
  have HB4 := hide ((HB3.out.trans hb4).alloc (.cells #[.int .u8 k, .bool b, .int .i64 n, .string t, .int .u64 u] 25))
  have HA4 := hide ((HA3.out.next hb4).alloc (.cells #[.int .u8 k, .bool b, .int .i64 n, .string t, .int .u64 u] 25))
  have HC4 := hide ((HC3.out.next hb4).alloc (.cells #[.int .u8 k, .bool b, .int .i64 n, .string t, .int .u64 u] 25))
  clear hb4 hok'
  obtain ⟨a0, a1, a2, a3, a4⟩ := HA4.out
  obtain ⟨c0, c1, c2, c3, c4⟩ := HC4.out
  obtain ⟨d0, d1, d2, d3, d4⟩ := HD4.out
  obtain ⟨e0, e1, e2, e3, e4⟩ := HE4.out
  go_wp2_with fail
  refine (C12.out _ (HG.out.next HB4.out)).mono ?_
  rintro e w5 ⟨rfl, hb5⟩
  go_wp2_with fail
  go_ret
  exact ⟨rfl, HB4.out.trans hb5⟩
end Go.Proofs.YtomnajoflcjnfaaDoor
