/- Scan: an iterator over what is seen at a time. -/
import Derived.Test.YtkpallbnmckbaaaScc
import Derived.Test.YtkpallbnmckbaaaWkn
namespace Go.Proofs.Ytkpallbnmckbaaa
open Go.RowKit Go.Shelf
theorem en36 : En 36 := fun _ _ => by kernel_rfl
theorem en35 : En 35 := fun _ _ => by kernel_rfl
theorem scan_any (v : Value) (hv : v.oneCell' = true) (a b : ByteArray) (t : Int) (w : World) : Calls Try.prog 15 #[v, .string a, .string b, .int .u64 t] w fun e w' => e = .returned (.func (.func 35) #[] #[.pointer (some ⟨w.heap.size + 1, 0, none⟩), .pointer (some ⟨w.heap.size + 1 + 1 + 1, 0, none⟩), .pointer (some ⟨w.heap.size, 0, none⟩), .pointer (some ⟨w.heap.size + 1 + 1, 0, none⟩)]) ∧ w' = (((w.alloc (.cells #[v] 23)).alloc (.cells #[.string a] 9)).alloc (.cells #[.string b] 9)).alloc (.cells #[.int .u64 t] 27) := by
  go_enter Try.func15, Try.ntmps15
  go_wp2_with fail
  go_ret
  exact ⟨rfl, rfl⟩
/-- What Scan tells. -/
def scanP (l : List C) (a b : ByteArray) (t : Int) : List C := (wlk (fun s => s.1) (scS b t) ((a, t, false, ⟨#[]⟩), []) l).1.2
theorem scan_vis {w : World} {J : (Nat → Prop) → List C → World → Prop} {X : Nat → Prop} {B yb lp bto bt : Nat} {to : ByteArray} {t : Int} (hY : Yl w 4 900000 lp J) (hXB : X B) (hXy : X yb) (hto : w.heap[bto]? = some (.cells #[.string to] 9)) (htt : w.heap[bt]? = some (.cells #[.int .u64 t] 27)) :
    Vis w B 36 #[.pointer (some ⟨bto, 0, none⟩), .pointer (some ⟨bt, 0, none⟩), .pointer (some ⟨B, 0, none⟩), .pointer (some ⟨yb, 0, none⟩)] (ScJ J X B yb lp) (fun s => s.1) (scS to t) (fun s => s.2.length) 900000 where
  en := en36
  bnd := fun s W h => N4.of h.hB
  old := fun s W h => hY.old _ _ _ h.j
  bel := fun s W W' h hb => h.next hY hb
  hq := fun s x => by
    unfold scS
    split
    · simp
    · split
      · simp
      · simp only
        split <;> simp
  go := fun s k t' d v W h hl => scc_any hY hXB hXy hto htt s k t' d v W h hl
set_option maxRecDepth 100000 in
set_option maxHeartbeats 2000000 in
theorem scan_it {w : World} {bc bfrom bto bt : Nat} {q : Option Addr} {tv : Value} {l : List C} {a b : ByteArray} {t : Int} (hc : w.heap[bc]? = some (.cells #[.pointer q] 23)) (hfr : w.heap[bfrom]? = some (.cells #[.string a] 9)) (hto : w.heap[bto]? = some (.cells #[.string b] 9)) (htt : w.heap[bt]? = some (.cells #[.int .u64 t] 27))
    (h29 : ∀ W, Bel w W → Calls Try.prog 29 #[.pointer q] W fun e w' => e = .returned tv ∧ w' = W) (ht : TV w tv l) (hs : Srt l) (hl : l.length ≤ 900000) :
    It w 4 900000 35 #[.pointer (some ⟨bfrom, 0, none⟩), .pointer (some ⟨bt, 0, none⟩), .pointer (some ⟨bc, 0, none⟩), .pointer (some ⟨bto, 0, none⟩)] (scanP l a b t) := by
  intro lp J W hb hY hJ
  have hJ1 := hY.own _ _ W (.cells #[.func (.yield lp) #[] #[]] 66) hJ
  have hJ2 := hY.own _ _ _ (.cells #[.string a, .int .u64 t, .bool false, .string ⟨#[]⟩] 38) hJ1
  rw [show (W.alloc (.cells #[.func (.yield lp) #[] #[]] 66)).heap.size = W.heap.size + 1 by simp] at hJ2
  have hb2 : Bel w ((W.alloc (.cells #[.func (.yield lp) #[] #[]] 66)).alloc (.cells #[.string a, .int .u64 t, .bool false, .string ⟨#[]⟩] 38)) := (hb.trans ((Bel.refl _).alloc _)).trans ((Bel.refl _).alloc _)
  have c1 : ∀ o, (W.alloc o).cell? ⟨bfrom, 0, none⟩ = some (.string a) := fun o => cell_of ((hb.trans ((Bel.refl _).alloc o)).row hfr)
  have c2 : ∀ o, (W.alloc o).cell? ⟨bt, 0, none⟩ = some (.int .u64 t) := fun o => cell_of ((hb.trans ((Bel.refl _).alloc o)).row htt)
  have c3 : ∀ o o', ((W.alloc o).alloc o').cell? ⟨bc, 0, none⟩ = some (.pointer q) := fun o o' => cell_of (((hb.trans ((Bel.refl _).alloc o)).trans ((Bel.refl _).alloc o')).row hc)
  have C29 := hide (h29 _ hb2)
  have hSJ : ScJ J (fun k => (False ∨ k = W.heap.size) ∨ k = W.heap.size + 1) (W.heap.size + 1) W.heap.size lp ((a, t, false, ⟨#[]⟩), []) ((W.alloc (.cells #[.func (.yield lp) #[] #[]] 66)).alloc (.cells #[.string a, .int .u64 t, .bool false, .string ⟨#[]⟩] 38)) := ⟨hJ2, at_new2 W _ _, ((Bel.refl _).alloc _).row (at_new W _)⟩
  have C30 := hide (walk_any (scan_vis hY (B := W.heap.size + 1) (yb := W.heap.size) (Or.inr rfl) (Or.inl (Or.inr rfl)) hto htt) ((a, t, false, ⟨#[]⟩), []) _ ht hs hSJ (by simpa using hl))
  clear hJ hJ1 hJ2 hY hb hb2 h29 ht hs hl hc hfr hto htt hSJ
  refine callsIn_of_wp Try.func35 rfl trivial ?_
  simp only [Try.ntmps35, List.size_toArray, List.length_cons, List.length_nil, Nat.reduceAdd, Nat.reduceSub, Array.replicate_succ, Array.replicate_zero, List.push_toArray, List.append_toArray, List.nil_append, List.cons_append]
  gi_wp2_with (first
    | (refine ⟨trivial, ?_⟩; gi_at_call 29; refine (callsIn_wide.2 (C29.out)).mono ?_; rintro e w1 ⟨rfl, hw1⟩; rw [hw1]; clear hw1)
    | (refine ⟨trivial, ?_⟩; gi_at_call 30; refine (callsIn_wide.2 (C30.out)).mono ?_; rintro e w2 ⟨rfl, hj2⟩))
  exact bodyPost_end (results_none rfl _ _ _) rfl ⟨⟨_, rfl⟩, _, hj2.j⟩
end Go.Proofs.Ytkpallbnmckbaaa
