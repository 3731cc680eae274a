/- One call of both. -/
import Derived.Test.YtbcgikkdhfbphaaDoh
import Derived.Test.YtbcgikkdhfbphaaOpn
namespace Go.Proofs.Ytbcgikkdhfbphaa
open Go.RowKit Go.Maps
theorem wf_le {n : Int} (h : (Lit.int .i64 n).wf = true) : n ≤ 9223372036854775807 := by
  simp [Lit.wf, IntKind.min, IntKind.max, IntKind.signed, IntKind.bits] at h
  omega
theorem does_any {C : Nat} {w W : World} {p q : Nat} {s : PN} {Z : Nat → Prop} (h : Pr C W p q s s Z) (hC : C ≤ 800000) (tb : Tb s) (st : Stp) (hok : st.ok w) (hb : Bel w W) (hZ : ∀ i, Z i → w.heap.size ≤ i) : Calls Try.prog 11 #[.pointer (some ⟨p, 0, none⟩), .pointer (some ⟨q, 0, none⟩), .agg #[.int .i64 st.op, .int .i64 st.a, .int .i64 st.b, .int .i64 st.n, .string st.tx, .slice st.sa st.side.length st.cap]] W fun e w' => e = .returned (.bool true) ∧ DoR C W p q Z w' := by
  have hn := wf_le hok.wn
  have ht := hok.tx
  by_cases o0 : st.op = 0
  · rw [o0]; exact does_send h hC tb _ _ _ _ (by omega) _ _ _
  by_cases o1 : st.op = 1
  · rw [o1]; exact does_take h hC tb _ _ _ hn _ _ _ _
  by_cases o2 : st.op = 2
  · rw [o2]; exact does_drop h hC tb _ _ _ hn _ _ _ _
  by_cases o3 : st.op = 3
  · rw [o3]; exact does_doub h hC tb _ _ _ hn _ _ _ _
  by_cases o4 : st.op = 4
  · rw [o4]; exact does_peek h tb _ _ _ hn _ _ _ _
  by_cases o5 : st.op = 5
  · rw [o5]
    refine does_part h tb _ _ _ _ _ _ _ (l := st.side) (RI.bel hok.ri hb) hok.sl (fun h0 k hk => ?_)
    have hlt := hok.lt k hk h0
    have := hb.size
    exact ⟨fun hz => by have := hZ k hz; omega, by omega⟩
  by_cases o6 : st.op = 6
  · rw [o6]; exact does_tick h tb _ _ _ hn _ _ _ _
  by_cases o7 : st.op = 7
  · rw [o7]; exact does_draw h tb _ _ _ hn _ _ _ _
  exact does_else h hC tb _ _ _ _ (by omega) _ _ _ _
end Go.Proofs.Ytbcgikkdhfbphaa
