/- The law TripleSchemas answers true: for every schema and every write. -/
import Derived.Test.YtgghcfmpfneehaaDoorTriK
import Derived.Test.YtgghcfmpfneehaaDoorTriG
namespace Go.Proofs.YtgghcfmpfneehaaDoor
open Go.RowKit
theorem CSG.next {B B2 : Nat} {p : ByteArray} {t : Int} {l x tm od rv ct : Bool} {d : Bool} {u : Int} {q : ByteArray} {k : Int} {b : Bool} {n : Int} {s : ByteArray} {v : Int} {W W' : World} (h : (C8 B p t l x tm od rv ct W ∧ S8 B2 d u q k b n s v W) ∧ Gl W) (hb : Bel W W') : (C8 B p t l x tm od rv ct W' ∧ S8 B2 d u q k b n s v W') ∧ Gl W' := ⟨CS.next h.1 hb, h.2.next hb⟩
set_option maxHeartbeats 1000000 in
set_option maxRecDepth 100000 in
theorem schemas_law (p : ByteArray) (t : Int) (l x tm od rv ct : Bool) (d : Bool) (u : Int) (q : ByteArray) (k : Int) (b : Bool) (n : Int) (s : ByteArray) (v : Int) (hu0 : 0 ≤ u) (hv0 : 0 ≤ v) (w : World) (hG : Gl w) :
    Calls Tryd.prog 5 #[sc p t l x tm od rv ct, wr d u q k b n s v] w fun e w' => e = .returned (.bool true) ∧ Bel w w' := by
  have C1 := hide (fun W => schema_any p t l x tm od rv ct W)
  have C2 := hide (fun W => refSchema_any p t l x tm od rv ct W)
  have C3 := hide (fun W => fits_any p t l x tm od rv ct d u q k b n s v hu0 W)
  have C4 := hide (fun W => refFits_any p t l x tm od rv ct d u q k b n s v hu0 hv0 W)
  have C5 := hide (fun W hW => alive_any W hW)
  generalize eS p t tm od rv = E1 at C1 C2
  generalize eF p t tm od rv u q k b n s v = E2 at C3 C4
  have HG := hide hG
  clear hG
  unfold sc wr at C3 C4
  unfold sc at C1 C2
  unfold sc wr
  go_enter Tryd.func5, Tryd.ntmps5
  go_wp2_with fail
  have h8 := (C8.new p t l x tm od rv ct w).next ((Bel.refl _).alloc (.cells #[.bool d, .int .u64 u, .string q, .int .u8 k, .bool b, .int .i64 n, .string s, .int .u64 v] 29))
  have h9 := S8.at d u q k b n s v w (.cells #[.string p, .int .u8 t, .bool l, .bool x, .bool tm, .bool od, .bool rv, .bool ct] 45)
  have hb0 : Bel w ((w.alloc (.cells #[.string p, .int .u8 t, .bool l, .bool x, .bool tm, .bool od, .bool rv, .bool ct] 45)).alloc (.cells #[.bool d, .int .u64 u, .string q, .int .u8 k, .bool b, .int .i64 n, .string s, .int .u64 v] 29)) := ((Bel.refl _).alloc _).alloc _
  generalize (w.alloc (.cells #[.string p, .int .u8 t, .bool l, .bool x, .bool tm, .bool od, .bool rv, .bool ct] 45)).alloc (.cells #[.bool d, .int .u64 u, .string q, .int .u8 k, .bool b, .int .i64 n, .string s, .int .u64 v] 29) = W1 at h8 h9 hb0 ⊢
  generalize w.heap.size + 1 = B2 at *
  generalize w.heap.size = B at *
  have hh : (C8 B p t l x tm od rv ct W1.drew ∧ S8 B2 d u q k b n s v W1.drew) ∧ Gl W1.drew := ⟨⟨h8.next (Bel.refl _).drew, h9.drew⟩, HG.out.next hb0.drew⟩
  have hb1 : Bel w W1.drew := hb0.drew
  clear h8 h9 HG hb0
  go_region_held3 (fun W => ((W.cell? ⟨B, 0, none⟩ = some (.string p) ∧ W.cell? ⟨B, 1, none⟩ = some (.int .u8 t) ∧ W.cell? ⟨B, 2, none⟩ = some (.bool l) ∧ W.cell? ⟨B, 3, none⟩ = some (.bool x) ∧ W.cell? ⟨B, 4, none⟩ = some (.bool tm) ∧ W.cell? ⟨B, 5, none⟩ = some (.bool od) ∧ W.cell? ⟨B, 6, none⟩ = some (.bool rv) ∧ W.cell? ⟨B, 7, none⟩ = some (.bool ct)) ∧ (W.cell? ⟨B2, 0, none⟩ = some (.bool d) ∧ W.cell? ⟨B2, 1, none⟩ = some (.int .u64 u) ∧ W.cell? ⟨B2, 2, none⟩ = some (.string q) ∧ W.cell? ⟨B2, 3, none⟩ = some (.int .u8 k) ∧ W.cell? ⟨B2, 4, none⟩ = some (.bool b) ∧ W.cell? ⟨B2, 5, none⟩ = some (.int .i64 n) ∧ W.cell? ⟨B2, 6, none⟩ = some (.string s) ∧ W.cell? ⟨B2, 7, none⟩ = some (.int .u64 v))) ∧ Gl W) (first | assumption | exact CSG.next (by assumption) (by assumption)) ((first | (go_at_call 17; refine (C1.out _).mono ?_; rintro e w' ⟨rfl, hb⟩) | (go_at_call 18; refine (C2.out _).mono ?_; rintro e w' ⟨rfl, hb⟩) | (go_at_call 19; refine (C3.out _).mono ?_; rintro e w' ⟨rfl, hb⟩) | (go_at_call 20; refine (C4.out _).mono ?_; rintro e w' ⟨rfl, hb⟩) | (go_at_call 12; refine (C5.out _ (And.right (by assumption))).mono ?_; rintro e w' ⟨rfl, hb⟩)))
  go_wp2
  go_ret
  exact ⟨rfl, ((((hb1.trans (by assumption)).trans (by assumption)).trans (by assumption)).trans (by assumption)).trans (by assumption)⟩
theorem schemas_card (q : ByteArray) (t : Int) (l x tm od rv ct : Bool) (d : Bool) (u : Int) (p : ByteArray) (k : Int) (b : Bool) (n : Int) (s : ByteArray) (v : Int) (hu : 0 ≤ u ∧ u < 18446744073709551616) (hr : inR n v) (w : World) (hG : Gl w) :
    Calls Tryd.prog 5 #[sc q t l x tm od rv ct, wr d u p k b n s v] w fun e w' => e = .returned (.bool true) ∧ Bel w w' := schemas_law q t l x tm od rv ct d u p k b n s v hu.1 hr.2.2.1 w hG
end Go.Proofs.YtgghcfmpfneehaaDoor
