/- A value as an argument, opened and shut. -/
import Derived.Test.YtomnajoflcjnfaaDoorLaidW
import Derived.Test.YtomnajoflcjnfaaDoorTie
import Derived.Test.YtomnajoflcjnfaaDoorCards
import Derived.ShutString
import Derived.SizedLaws
import Derived.SevenTiedAt
namespace Go.Proofs.YtomnajoflcjnfaaDoor
open Go.ChangeShapes Go.WideShapes Go.ChangeAt Go.RowKit
open Go.ChangeMaps (open_string shut_string)
section
variable {H : Type} {enc : TypeId × Value → H} {w : World} {base : Nat} {sp : Nat → Bool} {held : Bool}
/-- What a value reads as. -/
def dv (k : Int) (b : Bool) (n : Int) (s : ByteArray) (u : Int) : DataW H := .agg [.lit (.int .u8 k), .lit (.bool b), .lit (.int .i64 n), .lit (.string s.data.toList), .lit (.int .u64 u)]
set_option maxRecDepth 100000 in
theorem open_val {r : Reach} {b0 : Nat} {v : Value} {d : DataW H} {ps : List MemPlace} (hval : Value.okWide Tryd.prog w r b0 25 v) (hd : DataW.Trod enc Tryd.prog w base sp held 25 v d ps) :
    ∃ k b n s u, v = ev k b n s u ∧ d = dv k b n s u ∧ ps = [] ∧ (Lit.int .u8 k).wf = true ∧ (Lit.int .i64 n).wf = true ∧ (Lit.int .u64 u).wf = true ∧ s.size ≤ maxLen := by
  obtain ⟨cs, rfl, hsz⟩ := okWide_struct Tryd.underlying25 hval
  obtain ⟨fuel, hf⟩ := hd
  obtain ⟨xs, n, _, hx, hl, hlen, hq⟩ := DataW.trod_struct Tryd.underlying25 hf
  have c25 : Tryd.prog.cellsOf 25 = 5 := by kernel_rfl
  have c22 : Tryd.prog.cellsOf 22 = 1 := by kernel_rfl
  have c4 : Tryd.prog.cellsOf 4 = 1 := by kernel_rfl
  have c2 : Tryd.prog.cellsOf 2 = 1 := by kernel_rfl
  have c9 : Tryd.prog.cellsOf 9 = 1 := by kernel_rfl
  have c23 : Tryd.prog.cellsOf 23 = 1 := by kernel_rfl
  rw [c25] at hsz
  obtain ⟨l⟩ := cs
  match l, hsz with
  | [a0, a1, a2, a3, a4], _ =>
    match xs, hlen with
    | [y0, y1, y2, y3, y4], _ =>
      have h0 : DataW.trod enc Tryd.prog w base sp held n 22 (([a0, a1, a2, a3, a4].drop 0).take (Tryd.prog.cellsOf 22)) = some y0 := hq 0 _ rfl
      rw [c22] at h0
      have h1 : DataW.trod enc Tryd.prog w base sp held n 4 (([a0, a1, a2, a3, a4].drop 1).take (Tryd.prog.cellsOf 4)) = some y1 := hq 1 _ rfl
      rw [c4] at h1
      have h2 : DataW.trod enc Tryd.prog w base sp held n 2 (([a0, a1, a2, a3, a4].drop 2).take (Tryd.prog.cellsOf 2)) = some y2 := hq 2 _ rfl
      rw [c2] at h2
      have h3 : DataW.trod enc Tryd.prog w base sp held n 9 (([a0, a1, a2, a3, a4].drop 3).take (Tryd.prog.cellsOf 9)) = some y3 := hq 3 _ rfl
      rw [c9] at h3
      have h4 : DataW.trod enc Tryd.prog w base sp held n 23 (([a0, a1, a2, a3, a4].drop 4).take (Tryd.prog.cellsOf 23)) = some y4 := hq 4 _ rfl
      rw [c23] at h4
      obtain ⟨k, e0, rfl, w0⟩ := DataW.trod_int Tryd.underlying22 h0
      obtain ⟨b, e1, rfl⟩ := DataW.trod_bool Tryd.underlying4 h1
      obtain ⟨m, e2, rfl, w2⟩ := DataW.trod_int Tryd.underlying2 h2
      obtain ⟨s, e3, rfl, w3⟩ := DataW.trod_string Tryd.underlying9 h3
      obtain ⟨u, e4, rfl, w4⟩ := DataW.trod_int Tryd.underlying23 h4
      simp at e0 e1 e2 e3 e4
      subst e0 e1 e2 e3 e4
      simp only [Prod.mk.injEq] at hx
      exact ⟨k, b, m, s, u, rfl, by rw [hx.1]; rfl, by rw [hx.2]; rfl, w0, w2, w4, w3⟩
set_option maxRecDepth 100000 in
theorem shut_val {k : Int} {b : Bool} {n : Int} {s : ByteArray} {u : Int} (w0 : (Lit.int .u8 k).wf = true) (w2 : (Lit.int .i64 n).wf = true) (w4 : (Lit.int .u64 u).wf = true) (w3 : s.size ≤ maxLen) :
    DataW.Trod enc Tryd.prog w base sp held 25 (ev k b n s u) (dv k b n s u) [] := by
  have c25 : Tryd.prog.cellsOf 25 = 5 := by kernel_rfl
  have c22 : Tryd.prog.cellsOf 22 = 1 := by kernel_rfl
  have c4 : Tryd.prog.cellsOf 4 = 1 := by kernel_rfl
  have c2 : Tryd.prog.cellsOf 2 = 1 := by kernel_rfl
  have c9 : Tryd.prog.cellsOf 9 = 1 := by kernel_rfl
  have c23 : Tryd.prog.cellsOf 23 = 1 := by kernel_rfl
  refine ⟨2, ?_⟩
  have := trod_struct_mk (enc := enc) (w := w) (base := base) (spare := sp) (held := held) (n := 1) (cs := [.int .u8 k, .bool b, .int .i64 n, .string s, .int .u64 u]) (xs := [(.lit (.int .u8 k), []), (.lit (.bool b), []), (.lit (.int .i64 n), []), (.lit (.string s.data.toList), []), (.lit (.int .u64 u), [])]) Tryd.underlying25 (by rw [c25]; rfl)
    (by simp [c22, c4, c2, c9, c23, DataW.trod, Tryd.underlying22, Tryd.underlying4, Tryd.underlying2, Tryd.underlying9, Tryd.underlying23, w0, w2, w3, w4])
  show DataW.trod enc Tryd.prog w base sp held 2 25 [.int .u8 k, .bool b, .int .i64 n, .string s, .int .u64 u] = some (.agg [.lit (.int .u8 k), .lit (.bool b), .lit (.int .i64 n), .lit (.string s.data.toList), .lit (.int .u64 u)], [])
  simpa using this
end
end Go.Proofs.YtomnajoflcjnfaaDoor
