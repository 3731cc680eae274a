/- Plain and small facts for the law on joined texts: a masked int, a row of bytes 0 and its text, a row behind a world that has only grown. -/
import Derived.Test.YtncgfcmjeojocaaAlive
import Derived.Test.YtncgfcmjeojocaaLinear
import Derived.Deep.OwnRows
namespace Go.Proofs.Ytncgfcmjeojocaa
open Go.RowKit

theorem i64_mask (z : Int) (m : Nat) (hm : m < 9223372036854775808) : ∃ k : Nat, k ≤ m ∧ bits .and .i64 z (m : Int) = (k : Int) := by
  refine ⟨(BitVec.ofInt 64 z &&& BitVec.ofInt 64 (m : Int)).toNat, ?_, ?_⟩
  · rw [BitVec.toNat_and, ofInt_u64 m (by omega)]; exact Nat.and_le_right
  · show IntKind.i64.wrap ((BitVec.ofInt 64 z &&& BitVec.ofInt 64 (m : Int)).toNat : Int) = _
    have h : (BitVec.ofInt 64 z &&& BitVec.ofInt 64 (m : Int)).toNat ≤ m := by
      rw [BitVec.toNat_and, ofInt_u64 m (by omega)]; exact Nat.and_le_right
    exact wrap_i64_small _ (by omega) (by omega)
theorem Try.info5 : (Try.prog.info? 5).map (fun i => (i.zero, i.size, i.bytes)) = some (some (.int .u8 0), 1, 1) := by kernel_rfl
def zc (k : Nat) : Array Value := madeCells #[.int .u8 0] k
theorem zc_eq (k : Nat) : zc k = ((List.replicate k (0 : Int)).map (Value.int .u8)).toArray := by
  unfold zc madeCells
  apply Array.ext
  · simp
  · intro i h1 h2
    simp [Nat.mod_one]
theorem addr_add0 (b j : Nat) : (⟨b, 0, none⟩ : Addr).add j = ⟨b, j, none⟩ := by unfold Addr.add; split <;> simp_all
theorem push_zeros : ∀ (k : Nat) (l : List UInt8), (List.replicate k (0 : Int)).foldl (fun (r : ByteArray) n => r.push (UInt8.ofNat n.toNat)) ⟨l.toArray⟩ = ⟨(l ++ List.replicate k (0 : UInt8)).toArray⟩ := by
  intro k
  induction k with
  | zero => intro l; simp
  | succ k ih =>
    intro l
    rw [List.replicate_succ, List.foldl_cons]
    have e : (ByteArray.mk l.toArray).push (UInt8.ofNat (0 : Int).toNat) = ⟨(l ++ [0]).toArray⟩ := by
      show ByteArray.mk (l.toArray.push 0) = _
      simp
    rw [e, ih, List.append_assoc]; rfl
theorem conv_zeros (b k : Nat) (W : World) (h : W.heap[b]? = some (.cells (zc k) 5)) :
    (convert 36 9 (.slice (some ⟨b, 0, none⟩) k k)).run Try.prog W = .ok (.string ⟨(List.replicate k (0 : UInt8)).toArray⟩) W := by
  refine (run_convert_bytes_string _ 36 9 5 _ _ _ Try.underlying36 Try.underlying5 Try.underlying9).trans ?_
  rw [run_bytesToString (ns := List.replicate k (0 : Int))]
  · congr 2
    exact push_zeros k []
  · have h' := run_loadCells_list (P := Try.prog) W ⟨b, 0, none⟩ (zc k).toList (fun j v hv => by
      rw [addr_add0, cell_of_row _ _ j _ _ _ h]
      simpa using hv)
    rw [show (zc k).toList.length = k by rw [zc_eq]; simp] at h'
    rw [h', zc_eq]
theorem grown_row {W W' : World} (h : Grown W W') {b : Nat} {c : Array Value} {t : TypeId} {fr : Nat × Nat} (hr : W.heap[b]? = some (.cells c t fr)) : W'.heap[b]? = some (.cells c t fr) := by
  have h3 := h.1.2.2 b (row_lt hr)
  have hlt : b < W'.heap.size := Nat.lt_of_lt_of_le (row_lt hr) h.2.2
  rw [hr] at h3
  cases hq : W'.heap[b]? with
  | none => simp at hq; omega
  | some o =>
    rw [hq] at h3
    cases o with
    | cells c' t' fr' =>
      obtain ⟨rfl, rfl, _, hj⟩ := h3
      have : c' = c := Array.ext_getElem? (fun i => hj i (fun f => f))
      rw [this]
    | _ => simp at h3
theorem held_next {w W W' : World} {b k : Nat} (h : W.heap[b]? = some (.cells (zc k) 5) ∧ Grown w W) (hg : Grown W W') : W'.heap[b]? = some (.cells (zc k) 5) ∧ Grown w W' :=
  ⟨grown_row hg h.1, grown_trans' h.2 hg⟩
theorem append_list (a b : ByteArray) : (a ++ b).data.toList = a.data.toList ++ b.data.toList := by
  rw [ByteArray.data_append, Array.toList_append]
theorem calls_same {f : Nat} {args : Array Value} {w : World} {v v' : Value} (h : Calls Try.prog f args w fun e w' => e = .returned v ∧ w' = w) (e : v = v') : Calls Try.prog f args w fun e w' => e = .returned v' ∧ w' = w := e ▸ h
theorem calls_grown {f : Nat} {args : Array Value} {w : World} {v v' : Value} (h : Calls Try.prog f args w fun e w' => e = .returned v ∧ GB w w') (e : v = v') : Calls Try.prog f args w fun e w' => e = .returned v' ∧ Grown w w' :=
  h.mono fun _ _ h' => ⟨e ▸ h'.1, h'.2.1⟩

end Go.Proofs.Ytncgfcmjeojocaa
