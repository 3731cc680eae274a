/- What the program's and the document's Frame return; for every text. -/
import Derived.Test.YtahbhalfilcmiaaWalksC
import Derived.Deep.WholeRow
import Derived.Lib.BufferWrite
import Derived.Laws.CopyOwn
import Derived.Deep.RegionHeld3
namespace Go.Proofs.Ytahbhalfilcmiaa
open Go.RowKit
theorem sum_any (a b : ByteArray) (ha : a.size ≤ maxLen) (hb : b.size ≤ maxLen) (w : World) :
    Calls Try.prog 40 #[.string a, .string b] w fun e w' => e = .returned (.int .u32 ((more 0#32 (a.data.toList ++ b.data.toList)).toNat : Int)) ∧ w' = w := by
  have h2 := hide (more_append 0#32 a.data.toList b.data.toList)
  go_enter Try.func40, Try.ntmps40
  go_wp2_with fail
  refine (of_any a ha _).mono ?_
  rintro e w1 ⟨rfl, rfl⟩
  go_wp2_with fail
  refine (more_any _ _ rfl b hb _).mono ?_
  rintro e w2 ⟨rfl, rfl⟩
  go_wp2_with fail
  go_ret
  rw [← h2.out]
  exact ⟨rfl, rfl⟩
theorem copy_row (W : World) (g o n cap : Nat) (L t : List UInt8) (ty : TypeId) (hrow : W.heap[g]? = some (.cells (vs L) ty)) (hfit : o + t.length ≤ L.length) (hle : t.length ≤ n) :
    (Builtin.copy_ #[55, 9] 3 #[.slice (some ⟨g, o, none⟩) n cap, .string ⟨t.toArray⟩]).run Try.prog W = .ok (goInt t.length) (W.setRow g (vs (L.take o ++ t ++ L.drop (o + t.length)))) := by
  have h := Lib.run_copy_row_string (P := Try.prog) W 55 9 3 5 g o n cap ⟨t.toArray⟩ (vs L) ty Try.underlying55 (by kernel_rfl) hrow hle (by rw [vs_size]; exact hfit)
  rw [h]
  have e : (ByteArray.mk t.toArray).size = t.length := rfl
  rw [e]
  congr 2
  simp [vs, Lib.byteCells]
  intro a _; rfl
def z8 : Array Value := #[.int .u8 0, .int .u8 0, .int .u8 0, .int .u8 0, .int .u8 0, .int .u8 0, .int .u8 0, .int .u8 0]
theorem z8_eq : z8 = vs (List.replicate 8 0) := rfl
def sumOf (s : ByteArray) : Nat := (more 0#32 (hf s.size 4 ++ s.data.toList)).toNat
def headL (s : ByteArray) : List UInt8 := hf s.size 4 ++ hf (sumOf s) 4
theorem headL_len (s : ByteArray) : (headL s).length = 8 := by simp [headL, hf_len]
theorem info53 (l : List UInt8) (h : l.length = 8) : (Try.prog.info? 53).map (·.size) = some (vs l).size := by
  rw [vs_size, h]; kernel_rfl
theorem vs_all (l : List UInt8) : (vs l).all (·.oneCell') = true := by
  simp [vs, vb, Value.oneCell']
theorem Bel.setRow {a b : World} (h : Bel a b) {g : Nat} (hp : a.heap.size ≤ g) (cs : Array Value) : Bel a (b.setRow g cs) :=
  below_setRow h hp cs
theorem setRow_far (W : World) (g k : Nat) (cs : Array Value) (h : k ≠ g) : (W.setRow g cs).heap[k]? = W.heap[k]? := setRow_other W g k cs h
theorem two_z8 (w : World) : ((w.alloc (.cells z8 53)).alloc (.cells z8 53)).heap[w.heap.size + 1]? = some (.cells z8 53) := by
  have h := heap_alloc_new (w.alloc (.cells z8 53)) (.cells z8 53)
  rw [show (w.alloc (.cells z8 53)).heap.size = w.heap.size + 1 by simp] at h
  exact h
theorem half_one (a : List UInt8) (h : a.length = 4) : (List.replicate 8 (0 : UInt8)).take 0 ++ a ++ (List.replicate 8 (0 : UInt8)).drop (0 + a.length) = a ++ List.replicate 4 0 := by
  rw [h]; simp
theorem half_two (a b : List UInt8) (ha : a.length = 4) (hb : b.length = 4) : (a ++ List.replicate 4 (0 : UInt8)).take 4 ++ b ++ (a ++ List.replicate 4 (0 : UInt8)).drop (4 + b.length) = a ++ b := by
  rw [hb, List.take_append_of_le_length (by omega), List.take_of_length_le (by omega)]; simp [ha]
theorem step_copy_row {ops : Array Oper} {o : Oper} {a : Act} {W : World} {K : Act → World → Prop} {Q : Exit → Act → World → Prop} {E : Prop} {g off n cap : Nat} {L t R : List UInt8} {ty : TypeId} (hrow : W.heap[g]? = some (.cells (vs L) ty)) (hfit : off + t.length ≤ L.length) (hle : t.length ≤ n) (hR : L.take off ++ t ++ L.drop (off + t.length) = R) (h4 : t.length = 4)
    (hg : o.guard = none) (d x : Operand) (hop : o.op = Op.call { callee := Callee.builtin Builtin.copy, args := #[d, x], argTypes := #[55, 9] })
    (hty : o.type = 3) (hd : a.eval d = .slice (some ⟨g, off, none⟩) n cap) (hx : a.eval x = .string ⟨t.toArray⟩)
    (hK : K (a.put o.dst (.int .i64 4)) (W.setRow g (vs R))) :
    if Region.wanted o (yielded ops a.tmps) = true then Oper.wp Try.prog o a W K Q else E := by
  have hw : Region.wanted o (yielded ops a.tmps) = true := by simp [Region.wanted, hg]
  rw [if_pos hw]
  have hrun := copy_row W g off n cap L t ty hrow hfit hle
  rw [hR, h4] at hrun
  unfold Oper.wp
  simp [execOp, hop, hty, resolve, invoke, builtin, hd, hx, hrun, Result.andThen]
  exact hK
set_option maxHeartbeats 300000 in
theorem head_any (s : ByteArray) (hm : s.size ≤ 16777216) (w : World) :
    Calls Try.prog 32 #[.string s] w fun e w' => e = .returned (.agg (vs (headL s))) ∧ Bel w w' := by
  have c40 := fun W => sum_any ⟨(hf s.size 4).toArray⟩ s (by show (hf s.size 4).toArray.size ≤ _; simp [hf_len, maxLen]) (by unfold maxLen; omega) W
  have hsl : sumOf s < 4294967296 := (more 0#32 (hf s.size 4 ++ s.data.toList)).isLt
  rw [show (more 0#32 ((ByteArray.mk (hf s.size 4).toArray).data.toList ++ s.data.toList)).toNat = sumOf s from rfl] at c40
  have hhead : headL s = hf s.size 4 ++ hf (sumOf s) 4 := rfl
  have hl := headL_len s
  generalize headL s = HL at *
  generalize sumOf s = c at *
  have hw64 : IntKind.u64.wrap (c : Int) = (c : Int) := by rw [IntKind.wrap_u64]; omega
  have Hsl := hide hsl
  clear hsl
  have C40 := hide c40
  have Hh := hide hhead
  have Hl := hide hl
  clear c40 hhead hl
  go_enter Try.func32, Try.ntmps32
  go_wp2_with fail
  refine (highFirst_any s.size 4 (by omega) _).mono ?_
  rintro e w1 ⟨rfl, hb1⟩
  have r1 : w1.heap[w.heap.size + 1]? = some (.cells (vs (List.replicate 8 0)) 53) := hb1.row (two_z8 w)
  have r0 : w1.heap[w.heap.size]? = some (.cells (vs (List.replicate 8 0)) 53) := by
    refine hb1.row ?_
    rw [Below.heap_alloc _ _ _ (by simp)]
    exact heap_alloc_new w _
  have h4 := hf_len s.size 4
  have hcp := copy_row w1 (w.heap.size + 1) 0 8 8 (List.replicate 8 0) (hf s.size 4) 53 r1 (by simp [hf_len]) (by simp [hf_len])
  rw [half_one _ h4, h4] at hcp
  have r2 := setRow_heap w1 _ _ (vs (hf s.size 4 ++ List.replicate 4 0)) 53 (0, 0) r1
  have b2 : Bel w (w1.setRow (w.heap.size + 1) (vs (hf s.size 4 ++ List.replicate 4 0))) :=
    ((((Bel.refl w).alloc _).alloc _).trans hb1).setRow (by omega) _
  have r20 := (setRow_far w1 (w.heap.size + 1) w.heap.size (vs (hf s.size 4 ++ List.replicate 4 0)) (by omega)).trans r0
  generalize w1.setRow (w.heap.size + 1) _ = w2 at *
  have R2 := hide r2
  have R20 := hide r20
  have B2 := hide b2
  clear r1 r0 r2 b2 hb1 r20 h4
  go_wp2_with fail
  go_region_held3 (fun _ => True) (trivial) ((first
    | (go_at_call 40; refine (C40.out _).mono ?_; rintro e w3 ⟨rfl, rfl⟩)
    | (go_at_call 36; refine (highFirst_any c 4 (by omega) _).mono ?_; rintro e w3 ⟨rfl, hb3⟩)
    | (refine step_copy_row (n := 4) (cap := 4) (off := 4) (hb3.row R2.out) (by simp [hf_len]) (by simp [hf_len]) (half_two _ _ (hf_len _ _) (hf_len _ _)) (hf_len _ _) (by rfl) _ _ (by rfl) (by rfl) (by rfl) (by rfl) ?_)))
  have r5 := setRow_heap w3 _ _ (vs (hf s.size 4 ++ hf c 4)) 53 (0, 0) (hb3.row R2.out)
  have r50 := (setRow_far w3 (w.heap.size + 1) w.heap.size (vs (hf s.size 4 ++ hf c 4)) (by omega)).trans (hb3.row R20.out)
  have b5 : Bel w (w3.setRow (w.heap.size + 1) (vs (hf s.size 4 ++ hf c 4))) := (B2.out.drew.trans hb3).setRow (by omega) _
  rw [← Hh.out] at r5 r50 b5 ⊢
  generalize w3.setRow (w.heap.size + 1) (vs HL) = w5 at *
  have hi := info53 HL Hl.out
  have hone := vs_all HL
  have hz : (vs (List.replicate 8 0)).size = (vs HL).size := by rw [vs_size, vs_size, Hl.out]; rfl
  have R5 := hide r5
  have R50 := hide r50
  have B5 := hide b5
  clear r5 r50 b5
  go_wp2_with (first | (refine wpList_load_row rfl 53 _ rfl (w.heap.size + 1) rfl 53 (vs HL) (0, 0) _ R5.out Try.underlying53 rfl hi ?_) | (refine wpList_store_row rfl 53 _ _ rfl w.heap.size (vs HL) rfl rfl 53 (vs (List.replicate 8 0)) R50.out hi hz hone ?_))
  exact bodyPost_ret (v := .agg (vs HL)) (results_cell_row (p := 2) (ty := 53) rfl _ _ w.heap.size 53 _ (0, 0) _ rfl (setRow_heap _ _ _ _ _ _ R50.out) Try.underlying53 rfl hi) rfl ⟨rfl, B5.out.setRow (Nat.le_refl _) _⟩
def rFr (s : ByteArray) : ByteArray × Int := if 16777216 < s.size then (⟨#[]⟩, 4) else (⟨(headL s).toArray⟩ ++ s, 0)
theorem frame_any (s : ByteArray) (hm : s.size ≤ 150000000000000) (w : World) :
    Calls Try.prog 10 #[.string s] w fun e w' => e = .returned (.tuple #[.string (rFr s).1, .int .i64 (rFr s).2]) ∧ Bel w w' := by
  by_cases hl : 16777216 < s.size
  · rw [show rFr s = (⟨#[]⟩, 4) by unfold rFr; rw [if_pos hl]]
    go_enter Try.func10, Try.ntmps10
    go_wp2
    go_ret2
    exact ⟨rfl, Bel.refl _⟩
  · rw [show rFr s = (⟨(headL s).toArray⟩ ++ s, 0) by unfold rFr; rw [if_neg hl]]
    have h8 := headL_len s
    have c32 := hide (fun W => head_any s (by omega) W)
    generalize headL s = HL at *
    have hi := info53 HL h8
    have hone := vs_all HL
    have hz : z8.size = (vs HL).size := by rw [vs_size, h8]; rfl
    have hq : ¬ (9223372036854775807 < HL.length + s.size) := by omega
    have Hi := hide hi
    have Hone := hide hone
    have Hz := hide hz
    have H8 := hide h8
    clear hi hone hz h8
    go_enter Try.func10, Try.ntmps10
    go_wp2_with fail
    refine (c32.out _).mono ?_
    rintro e w1 ⟨rfl, hb1⟩
    have r1 := heap_alloc_new w1 (.cells z8 53)
    have r2 := setRow_heap (w1.alloc (.cells z8 53)) _ _ (vs HL) 53 (0, 0) r1
    have hcv := conv_row ((w1.alloc (.cells z8 53)).setRow w1.heap.size (vs HL)) w1.heap.size 8 8 HL #[] (0, 0) 53 H8.out.symm (by rw [Array.append_empty]; exact r2)
    have b2 : Bel w ((w1.alloc (.cells z8 53)).setRow w1.heap.size (vs HL)) := (hb1.alloc _).setRow hb1.size _
    have R1 := hide r1
    have B2 := hide b2
    clear r1 r2 b2
    unfold z8 at hcv
    go_wp2_with (refine wpList_store_row rfl 53 _ _ rfl w1.heap.size (vs HL) rfl rfl 53 z8 R1.out Hi.out Hz.out Hone.out ?_)
    go_ret2
    exact ⟨rfl, B2.out⟩
theorem refFrame_any (s : ByteArray) (hm : s.size ≤ 150000000000000) (w : World) :
    Calls Try.prog 11 #[.string s] w fun e w' => e = .returned (.tuple #[.string (rFr s).1, .int .i64 (rFr s).2]) ∧ Bel w w' := by
  by_cases hl : 16777216 < s.size
  · rw [show rFr s = (⟨#[]⟩, 4) by unfold rFr; rw [if_pos hl]]
    go_enter Try.func11, Try.ntmps11
    go_wp2
    go_ret2
    exact ⟨rfl, Bel.refl _⟩
  · rw [show rFr s = (⟨(headL s).toArray⟩ ++ s, 0) by unfold rFr; rw [if_neg hl]]
    have h4 : (ByteArray.mk (hf s.size 4).toArray).size = 4 := by show (hf s.size 4).toArray.size = 4; simp [hf_len]
    have c34 : ∀ W, Calls Try.prog 34 #[.string (⟨(hf s.size 4).toArray⟩ ++ s)] W fun e w' => e = .returned (.int .u32 (sumOf s : Int)) ∧ w' = W := fun W => by
      have h := refOf_any (⟨(hf s.size 4).toArray⟩ ++ s) (by rw [ByteArray.size_append, h4]; unfold maxLen; omega) W
      rw [show ((⟨(hf s.size 4).toArray⟩ ++ s : ByteArray).data.toList) = hf s.size 4 ++ s.data.toList by rw [ByteArray.data_append, Array.toList_append]] at h
      exact h
    have hsl : sumOf s < 4294967296 := (more 0#32 (hf s.size 4 ++ s.data.toList)).isLt
    have he : (⟨(headL s).toArray⟩ : ByteArray) ++ s = ⟨(hf s.size 4).toArray⟩ ++ ⟨(hf (sumOf s) 4).toArray⟩ ++ s := by
      rw [ByteArray.mk_append_mk]; rfl
    generalize headL s = HL at *
    generalize sumOf s = c at *
    have hw64 : IntKind.u64.wrap (c : Int) = (c : Int) := by rw [IntKind.wrap_u64]; omega
    have q1 : ¬ (9223372036854775807 < (hf s.size 4).length + s.size) := by rw [hf_len]; omega
    have q2 : ¬ (9223372036854775807 < (hf s.size 4).length + (hf c 4).length) := by rw [hf_len, hf_len]; omega
    have q3 : ¬ (9223372036854775807 < (hf s.size 4).length + (hf c 4).length + s.size) := by rw [hf_len, hf_len]; omega
    have C34 := hide c34
    have He := hide he
    clear hsl c34 he h4
    go_enter Try.func11, Try.ntmps11
    go_wp2_with fail
    refine (fixed_any s.size 4 (by omega) _).mono ?_
    rintro e w1 ⟨rfl, hb1⟩
    go_wp2_with fail
    refine (C34.out _).mono ?_
    rintro e w2 ⟨rfl, rfl⟩
    go_wp2_with fail
    refine (fixed_any c 4 (by omega) _).mono ?_
    rintro e w3 ⟨rfl, hb3⟩
    go_wp2_with fail
    go_ret2
    rw [He.out]
    exact ⟨by rw [ByteArray.mk_append_mk]; rfl, hb1.trans hb3⟩
end Go.Proofs.Ytahbhalfilcmiaa
