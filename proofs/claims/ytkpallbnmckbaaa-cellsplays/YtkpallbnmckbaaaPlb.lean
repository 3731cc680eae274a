/- CellsPlays: how the program's cells and the document's stand in memory, and what each call makes of them. -/
import Derived.Test.YtkpallbnmckbaaaDcq
import Derived.Test.YtkpallbnmckbaaaDcw
import Derived.Test.YtkpallbnmckbaaaTiw
import Derived.Test.YtkpallbnmckbaaaNlw
namespace Go.Proofs.Ytkpallbnmckbaaa
open Go.RowKit Go.Shelf
/-- The program's cells and the document's are the same. -/
structure Pm (w : World) (p : Nat) (l : List C) (x : Value) (W : World) : Prop where
  bel : Bel w W
  cs : Cs W p l
  sv : SV W x l
  good : Good l
  lo : w.heap.size ≤ p
theorem Pm.next {w : World} {p : Nat} {l : List C} {x : Value} {W W' : World} (h : Pm w p l x W) (hb : Bel W W') : Pm w p l x W' := ⟨h.bel.trans hb, h.cs.bel hb, h.sv.bel hb, h.good, h.lo⟩
theorem Row.ch {W W' : World} {p g off : Nat} {l L : List C} (h : Row W g off L) (hc : Cs W p l) (hch : Ch (fun i => i = p) W W') : Row W' g off L := by
  by_cases h0 : L.length = 0
  · intro j hj; omega
  · obtain ⟨v, h1, _⟩ := hc.see
    exact h.at (hch.block g (h.lt h0) (Cl.off h1 h h0))
theorem SV.ch {W W' : World} {p : Nat} {l L : List C} {v : Value} (h : SV W v L) (hc : Cs W p l) (hch : Ch (fun i => i = p) W W') : SV W' v L := by
  rcases h with h | ⟨g, off, cap, h0, h1, h2⟩
  · exact Or.inl h
  · exact Or.inr ⟨g, off, cap, h0, h1.ch hc hch, h2⟩
theorem SV.shape {W : World} {v : Value} {L : List C} (h : SV W v L) : ∃ a cap, v = .slice a L.length cap := by
  rcases h with ⟨rfl, rfl⟩ | ⟨g, off, cap, rfl, _, _⟩
  · exact ⟨none, 0, rfl⟩
  · exact ⟨_, cap, rfl⟩
theorem Cs.ne {W : World} {p b : Nat} {l : List C} (h : Cs W p l) {c : Array Value} {t : TypeId} (hb : W.heap[b]? = some (.cells c t)) (ht : t ≠ 57) : b ≠ p := by
  obtain ⟨v, h1, _⟩ := h.see
  exact ne_type hb h1 ht
theorem Pm.put {w : World} {p : Nat} {l L : List C} {x : Value} {W : World} (h : Pm w p l x W) {a : Option Addr} {cap g off : Nat} (hr : Row w g off L) (ha : L.length ≠ 0 → a = some ⟨g, off, none⟩) (hl : l.length + L.length ≤ 80000) (hL : ∀ x ∈ L, 0 ≤ x.t) :
    Calls Try.prog 9 #[.pointer (some ⟨p, 0, none⟩), .slice a L.length cap] W fun e w' => e = .returned (.tuple #[.int .i64 (putA L).1, .int .i64 (putA L).2]) ∧ Ch (fun i => i = p) W w' ∧
      Calls Try.prog 10 #[x, .slice a L.length cap] w' fun e w2 => ∃ v', e = .returned (.tuple #[v', .int .i64 (putA L).1, .int .i64 (putA L).2]) ∧ Bel w' w2 ∧ Pm w p (putL l L) v' w2 := by
  have hrW := hr.bel h.bel
  refine (put_any (cap := cap) h.cs hrW ha hl).mono ?_
  rintro e w' ⟨rfl, hc, hch⟩
  refine ⟨rfl, hch, ?_⟩
  refine (dput_any (cap := cap) (h.sv.ch h.cs hch) (hrW.ch h.cs hch) ha (by omega)).mono ?_
  rintro e w2 ⟨v', rfl, hb, hs⟩
  exact ⟨v', rfl, hb, (hch.after h.bel h.lo).trans hb, hc.bel hb, hs, putL_good h.good hL, h.lo⟩
theorem Pm.trim {w : World} {p : Nat} {l : List C} {x : Value} {W : World} (h : Pm w p l x W) (t : Int) (hl : l.length ≤ 80000) :
    Calls Try.prog 11 #[x, .int .u64 t] W fun e w' => ∃ v', e = .returned v' ∧ Bel W w' ∧ SV w' v' (trm t l) ∧
      Calls Try.prog 12 #[.pointer (some ⟨p, 0, none⟩), .int .u64 t] w' fun e w2 => e = .returned (.int .i64 ((l.length - (trm t l).length : Nat) : Int)) ∧ Ch (fun i => i = p) w' w2 ∧ Pm w p (trm t l) v' w2 := by
  refine (dtrim_any t h.sv.rv h.cs.srt (by omega)).mono ?_
  rintro e w' ⟨v', rfl, hb, hs⟩
  refine ⟨v', rfl, hb, hs, ?_⟩
  have h' := h.next hb
  refine (trim_any t h'.cs h.good hl).mono ?_
  rintro e w2 ⟨rfl, hc, hch⟩
  exact ⟨rfl, hch, hch.after h'.bel h.lo, hc, hs.ch h'.cs hch, trm_good h.good t, h.lo⟩
theorem Pm.get {w : World} {p : Nat} {l : List C} {x : Value} {W : World} (h : Pm w p l x W) (key : ByteArray) (t : Int) : Calls Try.prog 13 #[.pointer (some ⟨p, 0, none⟩), .string key, .int .u64 t] W fun e w' => e = .returned (.tuple #[.agg #[.string (gC (getP l key t)).k, .int .u64 (gC (getP l key t)).t, .bool (gC (getP l key t)).d, .string (gC (getP l key t)).v], .bool (gB (getP l key t))]) ∧ Bel W w' := by
  have := get_any key t h.cs
  rw [getV_eq] at this
  exact this
theorem Pm.dget {w : World} {p : Nat} {l : List C} {x : Value} {W : World} (h : Pm w p l x W) (hl : l.length ≤ 80000) (key : ByteArray) (t : Int) : Calls Try.prog 14 #[x, .string key, .int .u64 t] W fun e w' => e = .returned (.tuple #[.agg #[.string (gC (getP l key t)).k, .int .u64 (gC (getP l key t)).t, .bool (gC (getP l key t)).d, .string (gC (getP l key t)).v], .bool (gB (getP l key t))]) ∧ Bel W w' := by
  have := dget_any key t h.sv.rv (by omega)
  rw [dG_get h.cs.srt, getV_eq] at this
  exact this
theorem Pm.all {w : World} {p : Nat} {l : List C} {x : Value} {W : World} (h : Pm w p l x W) (hl : l.length ≤ 80000) : Calls Try.prog 19 #[.pointer (some ⟨p, 0, none⟩)] W fun e w' => ∃ lb, e = .returned (.func (.func 37) #[] lb) ∧ Bel W w' ∧ It w' 4 900000 37 lb l ∧ Pm w p l x w' := by
  refine (all_any (.pointer (some ⟨p, 0, none⟩)) rfl W).mono ?_
  rintro e w' ⟨rfl, rfl⟩
  have hb := (Bel.refl W).alloc (.cells #[.pointer (some ⟨p, 0, none⟩)] 23)
  exact ⟨_, rfl, hb, allC_it (h.cs.bel hb) h.good (by omega) (at_new W _), h.next hb⟩
theorem Pm.scan {w : World} {p : Nat} {l : List C} {x : Value} {W : World} (h : Pm w p l x W) (hl : l.length ≤ 80000) (a b : ByteArray) (t : Int) : Calls Try.prog 15 #[.pointer (some ⟨p, 0, none⟩), .string a, .string b, .int .u64 t] W fun e w' => ∃ lb, e = .returned (.func (.func 35) #[] lb) ∧ Bel W w' ∧ It w' 4 900000 35 lb (scanP l a b t) ∧ Pm w p l x w' := by
  refine (scan_any (.pointer (some ⟨p, 0, none⟩)) rfl a b t W).mono ?_
  rintro e w' ⟨rfl, rfl⟩
  have hb : Bel W ((((W.alloc (.cells #[.pointer (some ⟨p, 0, none⟩)] 23)).alloc (.cells #[.string a] 9)).alloc (.cells #[.string b] 9)).alloc (.cells #[.int .u64 t] 27)) := ((((Bel.refl _).alloc _).alloc _).alloc _).alloc _
  refine ⟨_, rfl, hb, ?_, h.next hb⟩
  have hc := h.cs.bel hb
  obtain ⟨v, h1, h2⟩ := hc.see
  have := scan_it (w := (((W.alloc (.cells #[.pointer (some ⟨p, 0, none⟩)] 23)).alloc (.cells #[.string a] 9)).alloc (.cells #[.string b] 9)).alloc (.cells #[.int .u64 t] 27)) (bc := W.heap.size) (bfrom := W.heap.size + 1) (bto := W.heap.size + 1 + 1) (bt := W.heap.size + 1 + 1 + 1) (q := some ⟨p, 0, none⟩) (tv := pt v) (l := l) (a := a) (b := b) (t := t)
    (((((Bel.refl _).alloc _).alloc _).alloc _).row (at_new W _)) ((((Bel.refl _).alloc _).alloc _).row (at_new2 W _ _)) (((Bel.refl _).alloc _).row (at_new3 W _ _ _)) (by
      have := at_new3 (W.alloc (.cells #[.pointer (some ⟨p, 0, none⟩)] 23)) (.cells #[.string a] 9) (.cells #[.string b] 9) (.cells #[.int .u64 t] 27)
      rw [show (W.alloc (.cells #[.pointer (some ⟨p, 0, none⟩)] 23)).heap.size = W.heap.size + 1 by simp] at this
      exact this) (fun W hb => tree_any (show Cl W p v from hb.row h1)) h2.tv hc.srt (by omega)
  exact this
theorem Pm.took {w : World} {p : Nat} {l xs : List C} {x : Value} {W : World} (h : Pm w p l x W) {gf : Nat} {lb : Array Value} (en : En gf) (hit : It W 4 900000 gf lb xs) : Calls Try.prog 17 #[.func (.func gf) #[] lb, .int .i64 (-1)] W fun e w' => ∃ v, e = .returned v ∧ Bel W w' ∧ RV w' v xs ∧ Pm w p l x w' := by
  refine (took_any en hit).mono ?_
  rintro e w' ⟨v, rfl, ho, hb⟩
  exact ⟨v, rfl, hb, ho.rv, h.next hb⟩
theorem Pm.dscan {w : World} {p : Nat} {l : List C} {x : Value} {W : World} (h : Pm w p l x W) (hl : l.length ≤ 80000) (a b : ByteArray) (t : Int) : Calls Try.prog 18 #[x, .string a, .string b, .int .u64 t] W fun e w' => ∃ v, e = .returned v ∧ Bel W w' ∧ RV w' v (scanP l a b t) ∧ Pm w p l x w' := by
  refine (dscan_any a b t h.sv.rv (by omega)).mono ?_
  rintro e w' ⟨v, rfl, hb, hs⟩
  rw [scan_doc h.cs.srt h.good] at hs
  exact ⟨v, rfl, hb, hs.rv, h.next hb⟩
theorem scF_sub (a b : ByteArray) (t : Int) (r : List C) : ∀ pre, (scF a b t pre r).length ≤ r.length := by
  induction r with
  | nil => intro _; exact Nat.le_refl _
  | cons x r ih =>
    intro pre
    have := ih (pre ++ [x])
    unfold scF
    split <;> simp <;> omega
theorem Pm.scan_len {w : World} {p : Nat} {l : List C} {x : Value} {W : World} (h : Pm w p l x W) (a b : ByteArray) (t : Int) : (scanP l a b t).length ≤ l.length := by
  rw [scanP_scF h.cs.srt h.good]; exact scF_sub a b t l []
theorem Pm.same {w : World} {p : Nat} {l xs : List C} {x v1 v2 : Value} {W : World} (h : Pm w p l x W) (h1 : RV W v1 xs) (h2 : RV W v2 xs) (hl : xs.length ≤ 80000) : Calls Try.prog 16 #[v1, v2] W fun e w' => e = .returned (.bool true) ∧ Bel W w' ∧ Pm w p l x w' := by
  refine (same_any h1 h2 (by omega)).mono ?_
  rintro e w' ⟨rfl, hb⟩
  exact ⟨rfl, hb, h.next hb⟩
theorem Pm.len {w : World} {p : Nat} {l : List C} {x : Value} {W : World} (h : Pm w p l x W) {n : Nat} (hn : l.length = n) : Calls Try.prog 20 #[.pointer (some ⟨p, 0, none⟩)] W fun e w' => e = .returned (.int .i64 n) ∧ w' = W := by
  subst hn; exact lenC_any h.cs
/-- A step, as it lies in memory. -/
structure Stp where
  op : Int
  a : Option Addr
  n : Nat
  cap : Nat
  fr : ByteArray
  to : ByteArray
  t : Int
/-- What a step's row of cells is. -/
def Stp.ok (w : World) (s : Stp) : Prop := ∃ (L : List C) (g off : Nat), s.n = L.length ∧ (L.length ≠ 0 → s.a = some ⟨g, off, none⟩) ∧ Row w g off L ∧ ∀ x ∈ L, 0 ≤ x.t
def RowS (w : World) (g off : Nat) (S : List Stp) : Prop := ∀ j (h : j < S.length), w.cell? ⟨g, off + j * 5, none⟩ = some (.int .i64 S[j].op) ∧ w.cell? ⟨g, off + j * 5 + 1, none⟩ = some (.slice S[j].a S[j].n S[j].cap) ∧ w.cell? ⟨g, off + j * 5 + 2, none⟩ = some (.string S[j].fr) ∧ w.cell? ⟨g, off + j * 5 + 3, none⟩ = some (.string S[j].to) ∧ w.cell? ⟨g, off + j * 5 + 4, none⟩ = some (.int .u64 S[j].t)
theorem RowS.bel {w w' : World} {g off : Nat} {S : List Stp} (h : RowS w g off S) (hb : Bel w w') : RowS w' g off S := fun j hj => ⟨hb.cell (h j hj).1, hb.cell (h j hj).2.1, hb.cell (h j hj).2.2.1, hb.cell (h j hj).2.2.2.1, hb.cell (h j hj).2.2.2.2⟩
end Go.Proofs.Ytkpallbnmckbaaa
