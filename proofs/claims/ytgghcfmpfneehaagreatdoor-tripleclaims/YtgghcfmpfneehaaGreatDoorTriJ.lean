/- Whether a write fits a schema, by the program and by the document. -/
import Derived.Test.YtgghcfmpfneehaaGreatDoorTriH
namespace Go.Proofs.YtgghcfmpfneehaaGreatDoor
open Go.RowKit
def eB (b : Bool) (x : Int) : Int := if b then 0 else x
/-- The fault of a write by a schema. -/
def eF (p : ByteArray) (t : Int) (tm od rv : Bool) (u : Int) (q : ByteArray) (k : Int) (b : Bool) (n : Int) (s : ByteArray) (v : Int) : Int := fstE [eS p t tm od rv, eT u q k b n s v, eB (q.toList == p.toList) 2, eB (k == t) 42]
theorem unless_eB (b : Bool) (x : Int) (w : World) : Calls Tryz.prog 61 #[.bool b, .int .i64 x] w fun e w' => e = .returned (.int .i64 (eB b x)) ∧ w' = w := unless_any b x w
theorem first4 (x y z v : Int) (W : World) : Calls Tryz.prog 36 #[.slice (some ⟨W.heap.size, 0, none⟩) 4 4] (W.alloc (.cells #[.int .i64 x, .int .i64 y, .int .i64 z, .int .i64 v] 30)) fun e w' => e = .returned (.int .i64 (fstE [x, y, z, v])) ∧ w' = W.alloc (.cells #[.int .i64 x, .int .i64 y, .int .i64 z, .int .i64 v] 30) :=
  first_any _ [x, y, z, v] (by simp) 4 4 rfl _ (fun j hj => by
    rw [show (W.alloc (.cells #[.int .i64 x, .int .i64 y, .int .i64 z, .int .i64 v] 30)).cell? ⟨W.heap.size, j, none⟩ = (#[.int .i64 x, .int .i64 y, .int .i64 z, .int .i64 v] : Array Value)[j]? from cell_new W _ _ j]
    match j, hj with
    | 0, _ => rfl
    | 1, _ => rfl
    | 2, _ => rfl
    | 3, _ => rfl)
theorem S8.at (d : Bool) (u : Int) (p : ByteArray) (k : Int) (b : Bool) (n : Int) (s : ByteArray) (v : Int) (w : World) (o : Obj) : S8 (w.heap.size + 1) d u p k b n s v ((w.alloc o).alloc (.cells #[.bool d, .int .u64 u, .string p, .int .u8 k, .bool b, .int .i64 n, .string s, .int .u64 v] 29)) := by
  have h := S8.new d u p k b n s v (w.alloc o)
  rw [show (w.alloc o).heap.size = w.heap.size + 1 by simp] at h
  exact h
theorem CS.next {B B2 : Nat} {p : ByteArray} {t : Int} {l x tm od rv ct : Bool} {d : Bool} {u : Int} {q : ByteArray} {k : Int} {b : Bool} {n : Int} {s : ByteArray} {v : Int} {W W' : World} (h : C8 B p t l x tm od rv ct W ∧ S8 B2 d u q k b n s v W) (hb : Bel W W') : C8 B p t l x tm od rv ct W' ∧ S8 B2 d u q k b n s v W' := ⟨h.1.next hb, h.2.next hb⟩
set_option maxHeartbeats 1000000 in
set_option maxRecDepth 100000 in
theorem fits_any (p : ByteArray) (t : Int) (l x tm od rv ct : Bool) (d : Bool) (u : Int) (q : ByteArray) (k : Int) (b : Bool) (n : Int) (s : ByteArray) (v : Int) (hu0 : 0 ≤ u) (w : World) :
    Calls Tryz.prog 80 #[sc p t l x tm od rv ct, wr d u q k b n s v] w fun e w' => e = .returned (.int .i64 (eF p t tm od rv u q k b n s v)) ∧ Bel w w' := by
  have hS := hide (fun W => schema_any p t l x tm od rv ct W)
  have hC := hide (fun W => may_any u q k b n s v hu0 W)
  have hF := hide (fun x y z v W => first4 x y z v W)
  have hU := hide (fun (b : Bool) x W => unless_eB b x W)
  have HE := hide (show eF p t tm od rv u q k b n s v = fstE [eS p t tm od rv, eT u q k b n s v, eB (q.toList == p.toList) 2, eB (k == t) 42] from rfl)
  generalize eF p t tm od rv u q k b n s v = E at HE ⊢
  generalize eS p t tm od rv = E1 at HE hS
  generalize eT u q k b n s v = E2 at HE hC
  obtain ⟨bp, hbp⟩ : ∃ bp, (q.toList == p.toList) = bp := ⟨_, rfl⟩
  obtain ⟨bk, hbk⟩ : ∃ bk, (k == t) = bk := ⟨_, rfl⟩
  rw [hbp, hbk] at HE
  unfold sc at hS ⊢
  unfold et at hC
  unfold wr
  go_enter Tryz.func80, Tryz.ntmps80
  go_wp2_with fail
  have h8 := (C8.new p t l x tm od rv ct w).next ((Bel.refl _).alloc (.cells #[.bool d, .int .u64 u, .string q, .int .u8 k, .bool b, .int .i64 n, .string s, .int .u64 v] 29))
  have h9 := S8.at d u q k b n s v w (.cells #[.string p, .int .u8 t, .bool l, .bool x, .bool tm, .bool od, .bool rv, .bool ct] 91)
  have hb0 : Bel w ((w.alloc (.cells #[.string p, .int .u8 t, .bool l, .bool x, .bool tm, .bool od, .bool rv, .bool ct] 91)).alloc (.cells #[.bool d, .int .u64 u, .string q, .int .u8 k, .bool b, .int .i64 n, .string s, .int .u64 v] 29)) := ((Bel.refl _).alloc _).alloc _
  generalize (w.alloc (.cells #[.string p, .int .u8 t, .bool l, .bool x, .bool tm, .bool od, .bool rv, .bool ct] 91)).alloc (.cells #[.bool d, .int .u64 u, .string q, .int .u8 k, .bool b, .int .i64 n, .string s, .int .u64 v] 29) = W1 at h8 h9 hb0 ⊢
  generalize w.heap.size + 1 = B2 at *
  generalize w.heap.size = B at *
  have hh : C8 B p t l x tm od rv ct W1.drew ∧ S8 B2 d u q k b n s v W1.drew := ⟨h8.next (Bel.refl _).drew, h9.drew⟩
  clear h8 h9
  go_region_held3 (fun W => (W.cell? ⟨B, 0, none⟩ = some (.string p) ∧ W.cell? ⟨B, 1, none⟩ = some (.int .u8 t) ∧ W.cell? ⟨B, 2, none⟩ = some (.bool l) ∧ W.cell? ⟨B, 3, none⟩ = some (.bool x) ∧ W.cell? ⟨B, 4, none⟩ = some (.bool tm) ∧ W.cell? ⟨B, 5, none⟩ = some (.bool od) ∧ W.cell? ⟨B, 6, none⟩ = some (.bool rv) ∧ W.cell? ⟨B, 7, none⟩ = some (.bool ct)) ∧ (W.cell? ⟨B2, 0, none⟩ = some (.bool d) ∧ W.cell? ⟨B2, 1, none⟩ = some (.int .u64 u) ∧ W.cell? ⟨B2, 2, none⟩ = some (.string q) ∧ W.cell? ⟨B2, 3, none⟩ = some (.int .u8 k) ∧ W.cell? ⟨B2, 4, none⟩ = some (.bool b) ∧ W.cell? ⟨B2, 5, none⟩ = some (.int .i64 n) ∧ W.cell? ⟨B2, 6, none⟩ = some (.string s) ∧ W.cell? ⟨B2, 7, none⟩ = some (.int .u64 v))) (first | assumption | exact CS.next (by assumption) (by first | assumption | exact (Bel.refl _).alloc _)) ((first | (go_at_call 76; refine (hS.out _).mono ?_; rintro e w' ⟨rfl, hb⟩) | (go_at_call 29; refine (hC.out _).mono ?_; rintro e w' ⟨rfl, hb⟩) | (go_at_call 61; refine (hU.out _ _ _).mono ?_; rintro e w' ⟨rfl, rfl⟩) | (go_at_call 36; refine (hF.out _ _ _ _ _).mono ?_; rintro e w' ⟨rfl, rfl⟩)))
  all_goals
    go_wp2
    go_ret
    rw [HE.out]
    exact ⟨rfl, ((hb0.drew.trans (by assumption)).trans (by assumption)).alloc _⟩
end Go.Proofs.YtgghcfmpfneehaaGreatDoor
