/- What first and unless return; whether a triple may be, by the program and by the document. -/
import Derived.Test.YtgghcfmpfneehaaGreatDoorTriB
namespace Go.Proofs.YtgghcfmpfneehaaGreatDoor
open Go.RowKit
/-- The first of the faults that is one. -/
def fstE : List Int → Int
  | [] => 0
  | x :: r => if x = 0 then fstE r else x
theorem fstE_drop {l : List Int} {k : Nat} (h : ∀ j, j < k → l[j]? = some 0) : fstE l = fstE (l.drop k) := by
  induction k with
  | zero => rfl
  | succ k ih =>
    rw [ih (fun j hj => h j (by omega))]
    have h1 := h k (by omega)
    have h2 : k < l.length := by
      apply Decidable.byContradiction; intro hn
      rw [List.getElem?_eq_none (by omega)] at h1; cases h1
    rw [List.drop_eq_getElem_cons h2]
    have h3 : l[k] = 0 := by rw [List.getElem?_eq_getElem h2] at h1; exact Option.some.inj h1
    rw [h3]; simp [fstE]
set_option maxRecDepth 100000 in
theorem first_any (B : Nat) (l : List Int) (hl : l.length ≤ 8) (n cap : Nat) (hn : n = l.length) (w : World) (h : ∀ j (hj : j < l.length), w.cell? ⟨B, j, none⟩ = some (.int .i64 l[j])) :
    Calls Tryz.prog 36 #[.slice (some ⟨B, 0, none⟩) n cap] w fun e w' => e = .returned (.int .i64 (fstE l)) ∧ w' = w := by
  have H := hide h
  clear h
  have hn8 : n ≤ 8 := by omega
  have Hn := hide hn
  clear hn hl
  go_enter Tryz.func36, Tryz.ntmps36
  go_wp2_with fail
  go_loop [4, 7] (fun _ i => ∃ k : Nat, k ≤ n ∧ i = .int .i64 k ∧ Hid (∀ j, j < k → l[j]? = some 0)) (fun _ i => n - (intOf i).toNat)
  case atStart => exact ⟨0, Nat.zero_le _, rfl, hide (fun j hj => absurd hj (Nat.not_lt_zero _))⟩
  case round =>
    obtain ⟨k, hk, rfl, Ha⟩ := hrel
    by_cases hlt : k < n
    · have hll : k < l.length := by rw [← Hn.out]; exact hlt
      obtain ⟨x, hx⟩ : ∃ x, l[k] = x := ⟨_, rfl⟩
      have hc := H.out k hll
      rw [hx] at hc
      have HX := hide hx
      have HL := hide hll
      clear hx
      by_cases hx0 : x = 0
      · subst hx0
        go_wp2_with fail
        go_round
        case rel => exact ⟨k + 1, by omega, by go_num, hide (fun j hj => by
          by_cases e : j = k
          · subst e; rw [List.getElem?_eq_getElem HL.out, HX.out]
          · exact Ha.out j (by omega))⟩
        case measure => simp [intOf]; omega
      · have hne : (x != 0) = true := by simpa using hx0
        clear hx0
        go_wp2_with fail
        go_ret
        refine ⟨?_, rfl⟩
        rw [fstE_drop Ha.out, List.drop_eq_getElem_cons HL.out, HX.out]
        simp at hne
        simp [fstE, hne]
    · go_wp2_with fail
      go_ret
      refine ⟨?_, rfl⟩
      rw [fstE_drop Ha.out, List.drop_eq_nil_of_le (by rw [← Hn.out]; omega)]
      rfl
set_option maxRecDepth 100000 in
theorem unless_any (b : Bool) (x : Int) (w : World) : Calls Tryz.prog 61 #[.bool b, .int .i64 x] w fun e w' => e = .returned (.int .i64 (if b then 0 else x)) ∧ w' = w := by
  cases b
  · go_enter Tryz.func61, Tryz.ntmps61
    go_wp2
    go_ret
    exact ⟨rfl, rfl⟩
  · go_enter Tryz.func61, Tryz.ntmps61
    go_wp2
    go_ret
    exact ⟨rfl, rfl⟩
def mayQ (k : Int) (b : Bool) (n : Int) (s : ByteArray) (u : Int) : Decidable (mayV k b n s u) := by unfold mayV; exact inferInstance
/-- The fault of a value, of a triple. -/
def eV (k : Int) (b : Bool) (n : Int) (s : ByteArray) (v : Int) : Int := @ite Int (mayV k b n s v) (mayQ k b n s v) 0 30
def eU (u : Int) : Int := if 0 < u then 0 else 41
def eT (u : Int) (p : ByteArray) (k : Int) (b : Bool) (n : Int) (s : ByteArray) (v : Int) : Int := fstE [eU u, eP p, eV k b n s v]
theorem eV_yes {k : Int} {b : Bool} {n : Int} {s : ByteArray} {v : Int} (h : mayV k b n s v) : eV k b n s v = 0 := by unfold eV; rw [if_pos h]
theorem eV_no {k : Int} {b : Bool} {n : Int} {s : ByteArray} {v : Int} (h : ¬ mayV k b n s v) : eV k b n s v = 30 := by unfold eV; rw [if_neg h]
/-- A triple as the program holds it. -/
def et (u : Int) (p : ByteArray) (k : Int) (b : Bool) (n : Int) (s : ByteArray) (v : Int) : Value := .agg #[.int .u64 u, .string p, .int .u8 k, .bool b, .int .i64 n, .string s, .int .u64 v]
def tc (u : Int) (p : ByteArray) (k : Int) (b : Bool) (n : Int) (s : ByteArray) (v : Int) : Array Value := #[.int .u64 u, .string p, .int .u8 k, .bool b, .int .i64 n, .string s, .int .u64 v]
def S7 (B : Nat) (u : Int) (p : ByteArray) (k : Int) (b : Bool) (n : Int) (s : ByteArray) (v : Int) (W : World) : Prop :=
  W.cell? ⟨B, 0, none⟩ = some (.int .u64 u) ∧ W.cell? ⟨B, 1, none⟩ = some (.string p) ∧ W.cell? ⟨B, 2, none⟩ = some (.int .u8 k) ∧ W.cell? ⟨B, 3, none⟩ = some (.bool b) ∧ W.cell? ⟨B, 4, none⟩ = some (.int .i64 n) ∧ W.cell? ⟨B, 5, none⟩ = some (.string s) ∧ W.cell? ⟨B, 6, none⟩ = some (.int .u64 v)
theorem S7.next {B : Nat} {u : Int} {p : ByteArray} {k : Int} {b : Bool} {n : Int} {s : ByteArray} {v : Int} {W W' : World} (h : S7 B u p k b n s v W) (hb : Bel W W') : S7 B u p k b n s v W' :=
  ⟨hb.cell h.1, hb.cell h.2.1, hb.cell h.2.2.1, hb.cell h.2.2.2.1, hb.cell h.2.2.2.2.1, hb.cell h.2.2.2.2.2.1, hb.cell h.2.2.2.2.2.2⟩
theorem S7.new (u : Int) (p : ByteArray) (k : Int) (b : Bool) (n : Int) (s : ByteArray) (v : Int) (W : World) : S7 W.heap.size u p k b n s v (W.alloc (.cells #[.int .u64 u, .string p, .int .u8 k, .bool b, .int .i64 n, .string s, .int .u64 v] 27)).drew :=
  ⟨cell_new _ _ _ _, cell_new _ _ _ _, cell_new _ _ _ _, cell_new _ _ _ _, cell_new _ _ _ _, cell_new _ _ _ _, cell_new _ _ _ _⟩
theorem vmay_any (k : Int) (b : Bool) (n : Int) (s : ByteArray) (v : Int) (w : World) : Calls Tryz.prog 60 #[ev k b n s v] w fun e w' => e = .returned (.int .i64 (eV k b n s v)) ∧ Bel w w' := by
  rcases mayQ k b n s v with h | h
  · rw [eV_no h]; exact may_no h w
  · rw [eV_yes h]; exact may_yes h w
theorem first3 (x y z : Int) (W : World) : Calls Tryz.prog 36 #[.slice (some ⟨W.heap.size, 0, none⟩) 3 3] (W.alloc (.cells #[.int .i64 x, .int .i64 y, .int .i64 z] 30)) fun e w' => e = .returned (.int .i64 (fstE [x, y, z])) ∧ w' = W.alloc (.cells #[.int .i64 x, .int .i64 y, .int .i64 z] 30) :=
  first_any _ [x, y, z] (by simp) 3 3 rfl _ (fun j hj => by
    rw [show (W.alloc (.cells #[.int .i64 x, .int .i64 y, .int .i64 z] 30)).cell? ⟨W.heap.size, j, none⟩ = (#[.int .i64 x, .int .i64 y, .int .i64 z] : Array Value)[j]? from cell_new W _ _ j]
    match j, hj with
    | 0, _ => rfl
    | 1, _ => rfl
    | 2, _ => rfl)
theorem unless_yes (x : Int) (w : World) : Calls Tryz.prog 61 #[.bool true, .int .i64 x] w fun e w' => e = .returned (.int .i64 0) ∧ w' = w := unless_any true x w
theorem unless_no (x : Int) (w : World) : Calls Tryz.prog 61 #[.bool false, .int .i64 x] w fun e w' => e = .returned (.int .i64 x) ∧ w' = w := unless_any false x w
set_option maxRecDepth 100000 in
theorem may_any (u : Int) (p : ByteArray) (k : Int) (b : Bool) (n : Int) (s : ByteArray) (v : Int) (hu0 : 0 ≤ u) (w : World) :
    Calls Tryz.prog 29 #[et u p k b n s v] w fun e w' => e = .returned (.int .i64 (eT u p k b n s v)) ∧ Bel w w' := by
  have hC := hide (fun W => vmay_any k b n s v W)
  have hP := hide (fun W => pred_any p W)
  have hF := hide (fun x y z W => first3 x y z W)
  have HE := hide (show eT u p k b n s v = fstE [eU u, eP p, eV k b n s v] from rfl)
  generalize eT u p k b n s v = E at HE ⊢
  generalize eV k b n s v = V at HE hC
  generalize eP p = P at HE hP
  unfold ev at hC
  unfold et
  by_cases hu : 0 < u
  · have hU := hide (fun W => unless_yes 41 W)
    rw [show eU u = 0 from if_pos hu] at HE
    go_enter Tryz.func29, Tryz.ntmps29
    go_wp2_with fail
    go_region_held3 (fun W => W.cell? ⟨w.heap.size, 0, none⟩ = some (.int .u64 u) ∧ W.cell? ⟨w.heap.size, 1, none⟩ = some (.string p) ∧ W.cell? ⟨w.heap.size, 2, none⟩ = some (.int .u8 k) ∧ W.cell? ⟨w.heap.size, 3, none⟩ = some (.bool b) ∧ W.cell? ⟨w.heap.size, 4, none⟩ = some (.int .i64 n) ∧ W.cell? ⟨w.heap.size, 5, none⟩ = some (.string s) ∧ W.cell? ⟨w.heap.size, 6, none⟩ = some (.int .u64 v)) (first | assumption | exact S7.new _ _ _ _ _ _ _ _ | exact S7.next (by assumption) (by first | assumption | exact (Bel.refl _).alloc _)) ((first | (go_at_call 61; refine (hU.out _).mono ?_; rintro e w' ⟨rfl, rfl⟩) | (go_at_call 40; refine (hP.out _).mono ?_; rintro e w' ⟨rfl, rfl⟩) | (go_at_call 60; refine (hC.out _).mono ?_; rintro e w' ⟨rfl, hb⟩) | (go_at_call 36; refine (hF.out _ _ _ _).mono ?_; rintro e w' ⟨rfl, rfl⟩)))
    go_wp2
    go_ret
    rw [HE.out]
    exact ⟨rfl, (((Bel.refl _).alloc _).drew.trans hb).alloc _⟩
  · have hU := hide (fun W => unless_no 41 W)
    rw [show eU u = 41 from if_neg hu] at HE
    obtain rfl : u = 0 := by omega
    clear hu hu0
    go_enter Tryz.func29, Tryz.ntmps29
    go_wp2_with fail
    go_region_held3 (fun W => W.cell? ⟨w.heap.size, 0, none⟩ = some (.int .u64 0) ∧ W.cell? ⟨w.heap.size, 1, none⟩ = some (.string p) ∧ W.cell? ⟨w.heap.size, 2, none⟩ = some (.int .u8 k) ∧ W.cell? ⟨w.heap.size, 3, none⟩ = some (.bool b) ∧ W.cell? ⟨w.heap.size, 4, none⟩ = some (.int .i64 n) ∧ W.cell? ⟨w.heap.size, 5, none⟩ = some (.string s) ∧ W.cell? ⟨w.heap.size, 6, none⟩ = some (.int .u64 v)) (first | assumption | exact S7.new _ _ _ _ _ _ _ _ | exact S7.next (by assumption) (by first | assumption | exact (Bel.refl _).alloc _)) ((first | (go_at_call 61; refine (hU.out _).mono ?_; rintro e w' ⟨rfl, rfl⟩) | (go_at_call 40; refine (hP.out _).mono ?_; rintro e w' ⟨rfl, rfl⟩) | (go_at_call 60; refine (hC.out _).mono ?_; rintro e w' ⟨rfl, hb⟩) | (go_at_call 36; refine (hF.out _ _ _ _).mono ?_; rintro e w' ⟨rfl, rfl⟩)))
    go_wp2
    go_ret
    rw [HE.out]
    exact ⟨rfl, (((Bel.refl _).alloc _).drew.trans hb).alloc _⟩
theorem eT_u {u : Int} {p : ByteArray} {k : Int} {b : Bool} {n : Int} {s : ByteArray} {v : Int} (h : ¬ 0 < u) : eT u p k b n s v = 41 := by
  simp [eT, fstE, eU, h]
theorem eT_p {u : Int} {p : ByteArray} {k : Int} {b : Bool} {n : Int} {s : ByteArray} {v : Int} (h : 0 < u) (hp : isName p.data.toList = false) : eT u p k b n s v = 40 := by
  simp [eT, fstE, eU, h, eP_no hp]
theorem eT_v {u : Int} {p : ByteArray} {k : Int} {b : Bool} {n : Int} {s : ByteArray} {v : Int} (h : 0 < u) (hp : isName p.data.toList = true) (hv : ¬ mayV k b n s v) : eT u p k b n s v = 30 := by
  simp [eT, fstE, eU, h, eP_yes hp, eV_no hv]
theorem eT_ok {u : Int} {p : ByteArray} {k : Int} {b : Bool} {n : Int} {s : ByteArray} {v : Int} (h : 0 < u) (hp : isName p.data.toList = true) (hv : mayV k b n s v) : eT u p k b n s v = 0 := by
  simp [eT, fstE, eU, h, eP_yes hp, eV_yes hv]
/-- A triple may be, or the first fault is told. -/
theorem eT_cases (u : Int) (p : ByteArray) (k : Int) (b : Bool) (n : Int) (s : ByteArray) (v : Int) :
    (¬ 0 < u ∧ eT u p k b n s v = 41) ∨ (0 < u ∧ isName p.data.toList = false ∧ eT u p k b n s v = 40) ∨ (0 < u ∧ isName p.data.toList = true ∧ ¬ mayV k b n s v ∧ eT u p k b n s v = 30) ∨ (0 < u ∧ isName p.data.toList = true ∧ mayV k b n s v ∧ eT u p k b n s v = 0) := by
  by_cases h : 0 < u
  · cases hp : isName p.data.toList with
    | false => exact Or.inr (Or.inl ⟨h, rfl, eT_p h hp⟩)
    | true =>
      rcases mayQ k b n s v with hv | hv
      · exact Or.inr (Or.inr (Or.inl ⟨h, rfl, hv, eT_v h hp hv⟩))
      · exact Or.inr (Or.inr (Or.inr ⟨h, rfl, hv, eT_ok h hp hv⟩))
  · exact Or.inl ⟨h, eT_u h⟩
theorem eT_zero {u : Int} {p : ByteArray} {k : Int} {b : Bool} {n : Int} {s : ByteArray} {v : Int} (h : eT u p k b n s v = 0) : 0 < u ∧ isName p.data.toList = true ∧ mayV k b n s v := by
  rcases eT_cases u p k b n s v with ⟨_, e⟩ | ⟨_, _, e⟩ | ⟨_, _, _, e⟩ | ⟨h1, h2, h3, _⟩
  · rw [h] at e; cases e
  · rw [h] at e; cases e
  · rw [h] at e; cases e
  · exact ⟨h1, h2, h3⟩
end Go.Proofs.YtgghcfmpfneehaaGreatDoor
