/- Values, triples, writes and schemas as arguments: opened and shut. -/
import Derived.Test.YtgghcfmpfneehaaGreatDoorLaidW
import Derived.Test.YtgghcfmpfneehaaGreatDoorTie
import Derived.Test.YtgghcfmpfneehaaGreatDoorCards
import Derived.ShutString
import Derived.SizedLaws
import Derived.SevenTiedAt
namespace Go.Proofs.YtgghcfmpfneehaaGreatDoor
open Go.ChangeShapes Go.WideShapes Go.ChangeAt Go.RowKit
open Go.ChangeMaps (open_string shut_string)
section
variable {H : Type} {enc : TypeId × Value → H} {w : World} {base : Nat} {sp : Nat → Bool} {held : Bool}
/-- What a value reads as. -/
def d_val (k : Int) (b : Bool) (n : Int) (s : ByteArray) (v : Int) : DataW H := .agg [.lit (.int .u8 k), .lit (.bool b), .lit (.int .i64 n), .lit (.string s.data.toList), .lit (.int .u64 v)]
def a_val (k : Int) (b : Bool) (n : Int) (s : ByteArray) (v : Int) : Value := .agg #[.int .u8 k, .bool b, .int .i64 n, .string s, .int .u64 v]
set_option maxRecDepth 100000 in
theorem t_val {fuel : Nat} {cl : List Value} {y : DataW H × List MemPlace} (hsz : cl.length = 5) (hf : DataW.trod enc Tryz.prog w base sp held fuel 25 cl = some y) :
    ∃ k b n s v, cl = [.int .u8 k, .bool b, .int .i64 n, .string s, .int .u64 v] ∧ y = (d_val k b n s v, []) ∧ (Lit.int .u8 k).wf = true ∧ (Lit.int .i64 n).wf = true ∧ s.size ≤ maxLen ∧ (Lit.int .u64 v).wf = true := by
  obtain ⟨xs, n0, _, hx, hl, hlen, hq⟩ := DataW.trod_struct Tryz.underlying25 hf
  have c23 : Tryz.prog.cellsOf 23 = 1 := by kernel_rfl
  have c4 : Tryz.prog.cellsOf 4 = 1 := by kernel_rfl
  have c2 : Tryz.prog.cellsOf 2 = 1 := by kernel_rfl
  have c9 : Tryz.prog.cellsOf 9 = 1 := by kernel_rfl
  have c22 : Tryz.prog.cellsOf 22 = 1 := by kernel_rfl
  match cl, hsz with
  | [a0, a1, a2, a3, a4], _ =>
    match xs, hlen with
    | [y0, y1, y2, y3, y4], _ =>
      have h0 : DataW.trod enc Tryz.prog w base sp held n0 23 (([a0, a1, a2, a3, a4].drop 0).take (Tryz.prog.cellsOf 23)) = some y0 := hq 0 _ rfl
      rw [c23] at h0
      have h1 : DataW.trod enc Tryz.prog w base sp held n0 4 (([a0, a1, a2, a3, a4].drop 1).take (Tryz.prog.cellsOf 4)) = some y1 := hq 1 _ rfl
      rw [c4] at h1
      have h2 : DataW.trod enc Tryz.prog w base sp held n0 2 (([a0, a1, a2, a3, a4].drop 2).take (Tryz.prog.cellsOf 2)) = some y2 := hq 2 _ rfl
      rw [c2] at h2
      have h3 : DataW.trod enc Tryz.prog w base sp held n0 9 (([a0, a1, a2, a3, a4].drop 3).take (Tryz.prog.cellsOf 9)) = some y3 := hq 3 _ rfl
      rw [c9] at h3
      have h4 : DataW.trod enc Tryz.prog w base sp held n0 22 (([a0, a1, a2, a3, a4].drop 4).take (Tryz.prog.cellsOf 22)) = some y4 := hq 4 _ rfl
      rw [c22] at h4
      obtain ⟨k, e0, rfl, wk⟩ := DataW.trod_int Tryz.underlying23 h0
      obtain ⟨b, e1, rfl⟩ := DataW.trod_bool Tryz.underlying4 h1
      obtain ⟨n, e2, rfl, wn⟩ := DataW.trod_int Tryz.underlying2 h2
      obtain ⟨s, e3, rfl, ws⟩ := DataW.trod_string Tryz.underlying9 h3
      obtain ⟨v, e4, rfl, wv⟩ := DataW.trod_int Tryz.underlying22 h4
      simp at e0 e1 e2 e3 e4
      subst e0
      subst e1
      subst e2
      subst e3
      subst e4
      exact ⟨k, b, n, s, v, rfl, by rw [hx]; rfl, wk, wn, ws, wv⟩
set_option maxRecDepth 100000 in
theorem open_val {r : Reach} {b0 : Nat} {vv : Value} {dd : DataW H} {ps : List MemPlace} (hval : Value.okWide Tryz.prog w r b0 25 vv) (hd : DataW.Trod enc Tryz.prog w base sp held 25 vv dd ps) :
    ∃ k b n s v, vv = a_val k b n s v ∧ dd = d_val k b n s v ∧ ps = [] ∧ (Lit.int .u8 k).wf = true ∧ (Lit.int .i64 n).wf = true ∧ s.size ≤ maxLen ∧ (Lit.int .u64 v).wf = true := by
  obtain ⟨cs, rfl, hsz⟩ := okWide_struct Tryz.underlying25 hval
  obtain ⟨fuel, hf⟩ := hd
  have cc : Tryz.prog.cellsOf 25 = 5 := by kernel_rfl
  rw [cc] at hsz
  obtain ⟨cl⟩ := cs
  obtain ⟨k, b, n, s, v, rfl, e, hw⟩ := t_val hsz hf
  injection e with e1 e2
  exact ⟨k, b, n, s, v, rfl, e1, e2, hw⟩
set_option maxRecDepth 100000 in
theorem s_val {k : Int} {b : Bool} {n : Int} {s : ByteArray} {v : Int} (wk : (Lit.int .u8 k).wf = true) (wn : (Lit.int .i64 n).wf = true) (ws : s.size ≤ maxLen) (wv : (Lit.int .u64 v).wf = true) : DataW.trod enc Tryz.prog w base sp held 2 25 [.int .u8 k, .bool b, .int .i64 n, .string s, .int .u64 v] = some (d_val k b n s v, []) := by
  have c23 : Tryz.prog.cellsOf 23 = 1 := by kernel_rfl
  have c4 : Tryz.prog.cellsOf 4 = 1 := by kernel_rfl
  have c2 : Tryz.prog.cellsOf 2 = 1 := by kernel_rfl
  have c9 : Tryz.prog.cellsOf 9 = 1 := by kernel_rfl
  have c22 : Tryz.prog.cellsOf 22 = 1 := by kernel_rfl
  have cc : Tryz.prog.cellsOf 25 = 5 := by kernel_rfl
  have := trod_struct_mk (enc := enc) (w := w) (base := base) (spare := sp) (held := held) (n := 1) (cs := [.int .u8 k, .bool b, .int .i64 n, .string s, .int .u64 v]) (xs := [(.lit (.int .u8 k), []), (.lit (.bool b), []), (.lit (.int .i64 n), []), (.lit (.string s.data.toList), []), (.lit (.int .u64 v), [])]) Tryz.underlying25 (by rw [cc]; rfl)
    (by simp [c23, c4, c2, c9, c22, DataW.trod, Tryz.underlying2, Tryz.underlying22, Tryz.underlying23, Tryz.underlying4, Tryz.underlying9, wk, wn, ws, wv])
  simpa [d_val] using this
theorem shut_val {k : Int} {b : Bool} {n : Int} {s : ByteArray} {v : Int} (wk : (Lit.int .u8 k).wf = true) (wn : (Lit.int .i64 n).wf = true) (ws : s.size ≤ maxLen) (wv : (Lit.int .u64 v).wf = true) : DataW.Trod enc Tryz.prog w base sp held 25 (a_val k b n s v) (d_val k b n s v) [] := ⟨2, s_val wk wn ws wv⟩
/-- What a triple reads as. -/
def d_tri (u : Int) (p : ByteArray) (k : Int) (b : Bool) (n : Int) (s : ByteArray) (v : Int) : DataW H := .agg [.lit (.int .u64 u), .lit (.string p.data.toList), .agg [.lit (.int .u8 k), .lit (.bool b), .lit (.int .i64 n), .lit (.string s.data.toList), .lit (.int .u64 v)]]
def a_tri (u : Int) (p : ByteArray) (k : Int) (b : Bool) (n : Int) (s : ByteArray) (v : Int) : Value := .agg #[.int .u64 u, .string p, .int .u8 k, .bool b, .int .i64 n, .string s, .int .u64 v]
set_option maxRecDepth 100000 in
theorem t_tri {fuel : Nat} {cl : List Value} {y : DataW H × List MemPlace} (hsz : cl.length = 7) (hf : DataW.trod enc Tryz.prog w base sp held fuel 27 cl = some y) :
    ∃ u p k b n s v, cl = [.int .u64 u, .string p, .int .u8 k, .bool b, .int .i64 n, .string s, .int .u64 v] ∧ y = (d_tri u p k b n s v, []) ∧ (Lit.int .u64 u).wf = true ∧ p.size ≤ maxLen ∧ (Lit.int .u8 k).wf = true ∧ (Lit.int .i64 n).wf = true ∧ s.size ≤ maxLen ∧ (Lit.int .u64 v).wf = true := by
  obtain ⟨xs, n0, _, hx, hl, hlen, hq⟩ := DataW.trod_struct Tryz.underlying27 hf
  have c22 : Tryz.prog.cellsOf 22 = 1 := by kernel_rfl
  have c9 : Tryz.prog.cellsOf 9 = 1 := by kernel_rfl
  have c25 : Tryz.prog.cellsOf 25 = 5 := by kernel_rfl
  match cl, hsz with
  | [a0, a1, a2, a3, a4, a5, a6], _ =>
    match xs, hlen with
    | [y0, y1, y2], _ =>
      have h0 : DataW.trod enc Tryz.prog w base sp held n0 22 (([a0, a1, a2, a3, a4, a5, a6].drop 0).take (Tryz.prog.cellsOf 22)) = some y0 := hq 0 _ rfl
      rw [c22] at h0
      have h1 : DataW.trod enc Tryz.prog w base sp held n0 9 (([a0, a1, a2, a3, a4, a5, a6].drop 1).take (Tryz.prog.cellsOf 9)) = some y1 := hq 1 _ rfl
      rw [c9] at h1
      have h2 : DataW.trod enc Tryz.prog w base sp held n0 25 (([a0, a1, a2, a3, a4, a5, a6].drop 2).take (Tryz.prog.cellsOf 25)) = some y2 := hq 2 _ rfl
      rw [c25] at h2
      obtain ⟨u, e0, rfl, wu⟩ := DataW.trod_int Tryz.underlying22 h0
      obtain ⟨p, e1, rfl, wp⟩ := DataW.trod_string Tryz.underlying9 h1
      obtain ⟨k, b, n, s, v, e2, rfl, wk, wn, ws, wv⟩ := t_val (by rfl) h2
      simp at e0 e1 e2
      subst e0
      subst e1
      obtain ⟨rfl, rfl, rfl, rfl, rfl⟩ := e2
      exact ⟨u, p, k, b, n, s, v, rfl, by rw [hx]; rfl, wu, wp, wk, wn, ws, wv⟩
set_option maxRecDepth 100000 in
theorem open_tri {r : Reach} {b0 : Nat} {vv : Value} {dd : DataW H} {ps : List MemPlace} (hval : Value.okWide Tryz.prog w r b0 27 vv) (hd : DataW.Trod enc Tryz.prog w base sp held 27 vv dd ps) :
    ∃ u p k b n s v, vv = a_tri u p k b n s v ∧ dd = d_tri u p k b n s v ∧ ps = [] ∧ (Lit.int .u64 u).wf = true ∧ p.size ≤ maxLen ∧ (Lit.int .u8 k).wf = true ∧ (Lit.int .i64 n).wf = true ∧ s.size ≤ maxLen ∧ (Lit.int .u64 v).wf = true := by
  obtain ⟨cs, rfl, hsz⟩ := okWide_struct Tryz.underlying27 hval
  obtain ⟨fuel, hf⟩ := hd
  have cc : Tryz.prog.cellsOf 27 = 7 := by kernel_rfl
  rw [cc] at hsz
  obtain ⟨cl⟩ := cs
  obtain ⟨u, p, k, b, n, s, v, rfl, e, hw⟩ := t_tri hsz hf
  injection e with e1 e2
  exact ⟨u, p, k, b, n, s, v, rfl, e1, e2, hw⟩
set_option maxRecDepth 100000 in
theorem s_tri {u : Int} {p : ByteArray} {k : Int} {b : Bool} {n : Int} {s : ByteArray} {v : Int} (wu : (Lit.int .u64 u).wf = true) (wp : p.size ≤ maxLen) (wk : (Lit.int .u8 k).wf = true) (wn : (Lit.int .i64 n).wf = true) (ws : s.size ≤ maxLen) (wv : (Lit.int .u64 v).wf = true) : DataW.trod enc Tryz.prog w base sp held 3 27 [.int .u64 u, .string p, .int .u8 k, .bool b, .int .i64 n, .string s, .int .u64 v] = some (d_tri u p k b n s v, []) := by
  have c22 : Tryz.prog.cellsOf 22 = 1 := by kernel_rfl
  have c9 : Tryz.prog.cellsOf 9 = 1 := by kernel_rfl
  have c25 : Tryz.prog.cellsOf 25 = 5 := by kernel_rfl
  have cc : Tryz.prog.cellsOf 27 = 7 := by kernel_rfl
  have hs := s_val (enc := enc) (w := w) (base := base) (sp := sp) (held := held) (k := k) (b := b) (n := n) (s := s) (v := v) wk wn ws wv
  have hlu : DataW.trod enc Tryz.prog w base sp held 2 22 [.int .u64 u] = some (.lit (.int .u64 u), []) := by simp [DataW.trod, Tryz.underlying22, wu]
  have hlp : DataW.trod enc Tryz.prog w base sp held 2 9 [.string p] = some (.lit (.string p.data.toList), []) := by simp [DataW.trod, Tryz.underlying9, wp]
  have := trod_struct_mk (enc := enc) (w := w) (base := base) (spare := sp) (held := held) (n := 2) (cs := [.int .u64 u, .string p, .int .u8 k, .bool b, .int .i64 n, .string s, .int .u64 v]) (xs := [(.lit (.int .u64 u), []), (.lit (.string p.data.toList), []), (d_val k b n s v, [])]) Tryz.underlying27 (by rw [cc]; rfl)
    (by simp [c22, c9, c25, hs, hlu, hlp])
  simpa [d_tri, d_val] using this
theorem shut_tri {u : Int} {p : ByteArray} {k : Int} {b : Bool} {n : Int} {s : ByteArray} {v : Int} (wu : (Lit.int .u64 u).wf = true) (wp : p.size ≤ maxLen) (wk : (Lit.int .u8 k).wf = true) (wn : (Lit.int .i64 n).wf = true) (ws : s.size ≤ maxLen) (wv : (Lit.int .u64 v).wf = true) : DataW.Trod enc Tryz.prog w base sp held 27 (a_tri u p k b n s v) (d_tri u p k b n s v) [] := ⟨3, s_tri wu wp wk wn ws wv⟩
/-- What a write reads as. -/
def d_wri (d : Bool) (u : Int) (p : ByteArray) (k : Int) (b : Bool) (n : Int) (s : ByteArray) (v : Int) : DataW H := .agg [.lit (.bool d), .agg [.lit (.int .u64 u), .lit (.string p.data.toList), .agg [.lit (.int .u8 k), .lit (.bool b), .lit (.int .i64 n), .lit (.string s.data.toList), .lit (.int .u64 v)]]]
def a_wri (d : Bool) (u : Int) (p : ByteArray) (k : Int) (b : Bool) (n : Int) (s : ByteArray) (v : Int) : Value := .agg #[.bool d, .int .u64 u, .string p, .int .u8 k, .bool b, .int .i64 n, .string s, .int .u64 v]
set_option maxRecDepth 100000 in
theorem t_wri {fuel : Nat} {cl : List Value} {y : DataW H × List MemPlace} (hsz : cl.length = 8) (hf : DataW.trod enc Tryz.prog w base sp held fuel 29 cl = some y) :
    ∃ d u p k b n s v, cl = [.bool d, .int .u64 u, .string p, .int .u8 k, .bool b, .int .i64 n, .string s, .int .u64 v] ∧ y = (d_wri d u p k b n s v, []) ∧ (Lit.int .u64 u).wf = true ∧ p.size ≤ maxLen ∧ (Lit.int .u8 k).wf = true ∧ (Lit.int .i64 n).wf = true ∧ s.size ≤ maxLen ∧ (Lit.int .u64 v).wf = true := by
  obtain ⟨xs, n0, _, hx, hl, hlen, hq⟩ := DataW.trod_struct Tryz.underlying29 hf
  have c4 : Tryz.prog.cellsOf 4 = 1 := by kernel_rfl
  have c27 : Tryz.prog.cellsOf 27 = 7 := by kernel_rfl
  match cl, hsz with
  | [a0, a1, a2, a3, a4, a5, a6, a7], _ =>
    match xs, hlen with
    | [y0, y1], _ =>
      have h0 : DataW.trod enc Tryz.prog w base sp held n0 4 (([a0, a1, a2, a3, a4, a5, a6, a7].drop 0).take (Tryz.prog.cellsOf 4)) = some y0 := hq 0 _ rfl
      rw [c4] at h0
      have h1 : DataW.trod enc Tryz.prog w base sp held n0 27 (([a0, a1, a2, a3, a4, a5, a6, a7].drop 1).take (Tryz.prog.cellsOf 27)) = some y1 := hq 1 _ rfl
      rw [c27] at h1
      obtain ⟨d, e0, rfl⟩ := DataW.trod_bool Tryz.underlying4 h0
      obtain ⟨u, p, k, b, n, s, v, e1, rfl, wu, wp, wk, wn, ws, wv⟩ := t_tri (by rfl) h1
      simp at e0 e1
      subst e0
      obtain ⟨rfl, rfl, rfl, rfl, rfl, rfl, rfl⟩ := e1
      exact ⟨d, u, p, k, b, n, s, v, rfl, by rw [hx]; rfl, wu, wp, wk, wn, ws, wv⟩
set_option maxRecDepth 100000 in
theorem open_wri {r : Reach} {b0 : Nat} {vv : Value} {dd : DataW H} {ps : List MemPlace} (hval : Value.okWide Tryz.prog w r b0 29 vv) (hd : DataW.Trod enc Tryz.prog w base sp held 29 vv dd ps) :
    ∃ d u p k b n s v, vv = a_wri d u p k b n s v ∧ dd = d_wri d u p k b n s v ∧ ps = [] ∧ (Lit.int .u64 u).wf = true ∧ p.size ≤ maxLen ∧ (Lit.int .u8 k).wf = true ∧ (Lit.int .i64 n).wf = true ∧ s.size ≤ maxLen ∧ (Lit.int .u64 v).wf = true := by
  obtain ⟨cs, rfl, hsz⟩ := okWide_struct Tryz.underlying29 hval
  obtain ⟨fuel, hf⟩ := hd
  have cc : Tryz.prog.cellsOf 29 = 8 := by kernel_rfl
  rw [cc] at hsz
  obtain ⟨cl⟩ := cs
  obtain ⟨d, u, p, k, b, n, s, v, rfl, e, hw⟩ := t_wri hsz hf
  injection e with e1 e2
  exact ⟨d, u, p, k, b, n, s, v, rfl, e1, e2, hw⟩
set_option maxRecDepth 100000 in
theorem s_wri {d : Bool} {u : Int} {p : ByteArray} {k : Int} {b : Bool} {n : Int} {s : ByteArray} {v : Int} (wu : (Lit.int .u64 u).wf = true) (wp : p.size ≤ maxLen) (wk : (Lit.int .u8 k).wf = true) (wn : (Lit.int .i64 n).wf = true) (ws : s.size ≤ maxLen) (wv : (Lit.int .u64 v).wf = true) : DataW.trod enc Tryz.prog w base sp held 4 29 [.bool d, .int .u64 u, .string p, .int .u8 k, .bool b, .int .i64 n, .string s, .int .u64 v] = some (d_wri d u p k b n s v, []) := by
  have c4 : Tryz.prog.cellsOf 4 = 1 := by kernel_rfl
  have c27 : Tryz.prog.cellsOf 27 = 7 := by kernel_rfl
  have cc : Tryz.prog.cellsOf 29 = 8 := by kernel_rfl
  have hs := s_tri (enc := enc) (w := w) (base := base) (sp := sp) (held := held) (u := u) (p := p) (k := k) (b := b) (n := n) (s := s) (v := v) wu wp wk wn ws wv
  have hld : DataW.trod enc Tryz.prog w base sp held 3 4 [.bool d] = some (.lit (.bool d), []) := by simp [DataW.trod, Tryz.underlying4]
  have := trod_struct_mk (enc := enc) (w := w) (base := base) (spare := sp) (held := held) (n := 3) (cs := [.bool d, .int .u64 u, .string p, .int .u8 k, .bool b, .int .i64 n, .string s, .int .u64 v]) (xs := [(.lit (.bool d), []), (d_tri u p k b n s v, [])]) Tryz.underlying29 (by rw [cc]; rfl)
    (by simp [c4, c27, hs, hld])
  simpa [d_wri, d_tri, d_val] using this
theorem shut_wri {d : Bool} {u : Int} {p : ByteArray} {k : Int} {b : Bool} {n : Int} {s : ByteArray} {v : Int} (wu : (Lit.int .u64 u).wf = true) (wp : p.size ≤ maxLen) (wk : (Lit.int .u8 k).wf = true) (wn : (Lit.int .i64 n).wf = true) (ws : s.size ≤ maxLen) (wv : (Lit.int .u64 v).wf = true) : DataW.Trod enc Tryz.prog w base sp held 29 (a_wri d u p k b n s v) (d_wri d u p k b n s v) [] := ⟨4, s_wri wu wp wk wn ws wv⟩
/-- What a schema reads as. -/
def d_sch (q : ByteArray) (t : Int) (l : Bool) (x : Bool) (tm : Bool) (od : Bool) (rv : Bool) (ct : Bool) : DataW H := .agg [.lit (.string q.data.toList), .lit (.int .u8 t), .lit (.bool l), .lit (.bool x), .lit (.bool tm), .lit (.bool od), .lit (.bool rv), .lit (.bool ct)]
def a_sch (q : ByteArray) (t : Int) (l : Bool) (x : Bool) (tm : Bool) (od : Bool) (rv : Bool) (ct : Bool) : Value := .agg #[.string q, .int .u8 t, .bool l, .bool x, .bool tm, .bool od, .bool rv, .bool ct]
set_option maxRecDepth 100000 in
theorem t_sch {fuel : Nat} {cl : List Value} {y : DataW H × List MemPlace} (hsz : cl.length = 8) (hf : DataW.trod enc Tryz.prog w base sp held fuel 91 cl = some y) :
    ∃ q t l x tm od rv ct, cl = [.string q, .int .u8 t, .bool l, .bool x, .bool tm, .bool od, .bool rv, .bool ct] ∧ y = (d_sch q t l x tm od rv ct, []) ∧ q.size ≤ maxLen ∧ (Lit.int .u8 t).wf = true := by
  obtain ⟨xs, n0, _, hx, hl, hlen, hq⟩ := DataW.trod_struct Tryz.underlying91 hf
  have c9 : Tryz.prog.cellsOf 9 = 1 := by kernel_rfl
  have c23 : Tryz.prog.cellsOf 23 = 1 := by kernel_rfl
  have c4 : Tryz.prog.cellsOf 4 = 1 := by kernel_rfl
  match cl, hsz with
  | [a0, a1, a2, a3, a4, a5, a6, a7], _ =>
    match xs, hlen with
    | [y0, y1, y2, y3, y4, y5, y6, y7], _ =>
      have h0 : DataW.trod enc Tryz.prog w base sp held n0 9 (([a0, a1, a2, a3, a4, a5, a6, a7].drop 0).take (Tryz.prog.cellsOf 9)) = some y0 := hq 0 _ rfl
      rw [c9] at h0
      have h1 : DataW.trod enc Tryz.prog w base sp held n0 23 (([a0, a1, a2, a3, a4, a5, a6, a7].drop 1).take (Tryz.prog.cellsOf 23)) = some y1 := hq 1 _ rfl
      rw [c23] at h1
      have h2 : DataW.trod enc Tryz.prog w base sp held n0 4 (([a0, a1, a2, a3, a4, a5, a6, a7].drop 2).take (Tryz.prog.cellsOf 4)) = some y2 := hq 2 _ rfl
      rw [c4] at h2
      have h3 : DataW.trod enc Tryz.prog w base sp held n0 4 (([a0, a1, a2, a3, a4, a5, a6, a7].drop 3).take (Tryz.prog.cellsOf 4)) = some y3 := hq 3 _ rfl
      rw [c4] at h3
      have h4 : DataW.trod enc Tryz.prog w base sp held n0 4 (([a0, a1, a2, a3, a4, a5, a6, a7].drop 4).take (Tryz.prog.cellsOf 4)) = some y4 := hq 4 _ rfl
      rw [c4] at h4
      have h5 : DataW.trod enc Tryz.prog w base sp held n0 4 (([a0, a1, a2, a3, a4, a5, a6, a7].drop 5).take (Tryz.prog.cellsOf 4)) = some y5 := hq 5 _ rfl
      rw [c4] at h5
      have h6 : DataW.trod enc Tryz.prog w base sp held n0 4 (([a0, a1, a2, a3, a4, a5, a6, a7].drop 6).take (Tryz.prog.cellsOf 4)) = some y6 := hq 6 _ rfl
      rw [c4] at h6
      have h7 : DataW.trod enc Tryz.prog w base sp held n0 4 (([a0, a1, a2, a3, a4, a5, a6, a7].drop 7).take (Tryz.prog.cellsOf 4)) = some y7 := hq 7 _ rfl
      rw [c4] at h7
      obtain ⟨q, e0, rfl, wq⟩ := DataW.trod_string Tryz.underlying9 h0
      obtain ⟨t, e1, rfl, wt⟩ := DataW.trod_int Tryz.underlying23 h1
      obtain ⟨l, e2, rfl⟩ := DataW.trod_bool Tryz.underlying4 h2
      obtain ⟨x, e3, rfl⟩ := DataW.trod_bool Tryz.underlying4 h3
      obtain ⟨tm, e4, rfl⟩ := DataW.trod_bool Tryz.underlying4 h4
      obtain ⟨od, e5, rfl⟩ := DataW.trod_bool Tryz.underlying4 h5
      obtain ⟨rv, e6, rfl⟩ := DataW.trod_bool Tryz.underlying4 h6
      obtain ⟨ct, e7, rfl⟩ := DataW.trod_bool Tryz.underlying4 h7
      simp at e0 e1 e2 e3 e4 e5 e6 e7
      subst e0
      subst e1
      subst e2
      subst e3
      subst e4
      subst e5
      subst e6
      subst e7
      exact ⟨q, t, l, x, tm, od, rv, ct, rfl, by rw [hx]; rfl, wq, wt⟩
set_option maxRecDepth 100000 in
theorem open_sch {r : Reach} {b0 : Nat} {vv : Value} {dd : DataW H} {ps : List MemPlace} (hval : Value.okWide Tryz.prog w r b0 91 vv) (hd : DataW.Trod enc Tryz.prog w base sp held 91 vv dd ps) :
    ∃ q t l x tm od rv ct, vv = a_sch q t l x tm od rv ct ∧ dd = d_sch q t l x tm od rv ct ∧ ps = [] ∧ q.size ≤ maxLen ∧ (Lit.int .u8 t).wf = true := by
  obtain ⟨cs, rfl, hsz⟩ := okWide_struct Tryz.underlying91 hval
  obtain ⟨fuel, hf⟩ := hd
  have cc : Tryz.prog.cellsOf 91 = 8 := by kernel_rfl
  rw [cc] at hsz
  obtain ⟨cl⟩ := cs
  obtain ⟨q, t, l, x, tm, od, rv, ct, rfl, e, hw⟩ := t_sch hsz hf
  injection e with e1 e2
  exact ⟨q, t, l, x, tm, od, rv, ct, rfl, e1, e2, hw⟩
set_option maxRecDepth 100000 in
theorem s_sch {q : ByteArray} {t : Int} {l : Bool} {x : Bool} {tm : Bool} {od : Bool} {rv : Bool} {ct : Bool} (wq : q.size ≤ maxLen) (wt : (Lit.int .u8 t).wf = true) : DataW.trod enc Tryz.prog w base sp held 2 91 [.string q, .int .u8 t, .bool l, .bool x, .bool tm, .bool od, .bool rv, .bool ct] = some (d_sch q t l x tm od rv ct, []) := by
  have c9 : Tryz.prog.cellsOf 9 = 1 := by kernel_rfl
  have c23 : Tryz.prog.cellsOf 23 = 1 := by kernel_rfl
  have c4 : Tryz.prog.cellsOf 4 = 1 := by kernel_rfl
  have cc : Tryz.prog.cellsOf 91 = 8 := by kernel_rfl
  have := trod_struct_mk (enc := enc) (w := w) (base := base) (spare := sp) (held := held) (n := 1) (cs := [.string q, .int .u8 t, .bool l, .bool x, .bool tm, .bool od, .bool rv, .bool ct]) (xs := [(.lit (.string q.data.toList), []), (.lit (.int .u8 t), []), (.lit (.bool l), []), (.lit (.bool x), []), (.lit (.bool tm), []), (.lit (.bool od), []), (.lit (.bool rv), []), (.lit (.bool ct), [])]) Tryz.underlying91 (by rw [cc]; rfl)
    (by simp [c9, c23, c4, DataW.trod, Tryz.underlying23, Tryz.underlying4, Tryz.underlying9, wq, wt])
  simpa [d_sch] using this
theorem shut_sch {q : ByteArray} {t : Int} {l : Bool} {x : Bool} {tm : Bool} {od : Bool} {rv : Bool} {ct : Bool} (wq : q.size ≤ maxLen) (wt : (Lit.int .u8 t).wf = true) : DataW.Trod enc Tryz.prog w base sp held 91 (a_sch q t l x tm od rv ct) (d_sch q t l x tm od rv ct) [] := ⟨2, s_sch wq wt⟩
end
end Go.Proofs.YtgghcfmpfneehaaGreatDoor
