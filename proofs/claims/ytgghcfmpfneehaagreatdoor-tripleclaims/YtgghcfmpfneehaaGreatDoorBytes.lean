/- Plain mathematics of numbers as bytes, the highest first, and of rows of bytes in memory; no Go function in it. -/
import Derived.Test.YtgghcfmpfneehaaGreatDoorRows
import Derived.Laws.BitsAllLaws
import Derived.WalkKit
import Derived.WalkLawsBesides
import Derived.WalkSpells
import Derived.Deep.OwnRows
import Derived.Laws.IdiomStrings
namespace Go.Proofs.YtgghcfmpfneehaaGreatDoor
open Go.RowKit
theorem hide {p : Prop} (h : p) : Hid p := h
theorem unhide {p : Prop} (h : Hid p) : p := h
theorem Tryz.info5 : (Tryz.prog.info? 5).map (fun i => (i.zero, i.size, i.bytes)) = some (some (.int .u8 0), 1, 1) := by kernel_rfl

def hb (x k : Nat) : UInt8 := UInt8.ofNat (x / 2 ^ (8 * k))
def hf (x : Nat) : Nat → List UInt8
  | 0 => []
  | k + 1 => hb x k :: hf x k
theorem hf_len (x k : Nat) : (hf x k).length = k := by
  induction k with
  | zero => rfl
  | succ k ih => simp [hf, ih]
theorem hb_int (x k : Nat) : (x : Int) / 2 ^ (8 * k) % 256 = ((hb x k).toNat : Int) := by
  unfold hb; rw [UInt8.toNat_ofNat']; simp
def vb (c : UInt8) : Value := .int .u8 (c.toNat : Int)
def vs (l : List UInt8) : Array Value := (l.map vb).toArray
theorem vs_size (l : List UInt8) : (vs l).size = l.length := by simp [vs]
theorem vs_get (l : List UInt8) (p : Nat) (h : p < l.length) : (vs l)[p]? = some (vb l[p]) := by
  unfold vs; simp [h]
theorem vs_set (l : List UInt8) (p : Nat) (c : UInt8) : (vs l).setIfInBounds p (vb c) = vs (l.set p c) := by
  unfold vs; simp [List.map_set]
def fl (x n k : Nat) : List UInt8 := List.replicate (n - k) 0 ++ hf x k
theorem fl_len (x n k : Nat) (h : k ≤ n) : (fl x n k).length = n := by
  unfold fl; simp [hf_len]; omega
theorem fl_set (x n k : Nat) (h : k < n) : (fl x n k).set (n - 1 - k) (hb x k) = fl x n (k + 1) := by
  unfold fl
  have e : n - k = (n - (k + 1)) + 1 := by omega
  rw [e, List.replicate_succ', List.append_assoc, List.set_append_right _ _ (by simp; omega)]
  simp [show n - 1 - k - (n - (k + 1)) = 0 by omega, hf]
theorem fl_zero (x n : Nat) : fl x n 0 = List.replicate n 0 := by unfold fl; simp [hf]
theorem fl_full (x n : Nat) : fl x n n = hf x n := by unfold fl; simp
theorem made_zeros (k : Nat) : madeCells #[.int .u8 0] k = vs (List.replicate k 0) := by
  unfold madeCells vs
  apply Array.ext
  · simp
  · intro i h1 h2
    simp [Nat.mod_one, vb]
theorem addr_add0 (b j : Nat) : (⟨b, 0, none⟩ : Addr).add j = ⟨b, j, none⟩ := by unfold Addr.add; split <;> simp_all
theorem row_set {W : World} {b p : Nat} {c : Array Value} {t : TypeId} {fr : Nat × Nat} {v : Value} (h : W.heap[b]? = some (.cells c t fr)) : (W.setCell ⟨b, p, none⟩ v).heap[b]? = some (.cells (c.setIfInBounds p v) t fr) := by
  rw [setCell_eq_setRow W b p c t fr v h]
  exact setRow_heap W b c _ t fr h
theorem free_row {W : World} {b p : Nat} {c : Array Value} {t : TypeId} (h : W.heap[b]? = some (.cells c t)) : W.frozen? ⟨b, p, none⟩ = false := by
  unfold World.frozen?
  simp only [h]
  simp
theorem conv_row (W : World) (b n cap : Nat) (l : List UInt8) (rest : Array Value) (fr : Nat × Nat) (t : TypeId) (hn : n = l.length) (h : W.heap[b]? = some (.cells (vs l ++ rest) t fr)) :
    (convert 98 9 (.slice (some ⟨b, 0, none⟩) n cap)).run Tryz.prog W = .ok (.string ⟨l.toArray⟩) W := by
  subst hn
  refine run_convert_bytes_back W 98 9 5 _ cap l Tryz.underlying98 Tryz.underlying5 Tryz.underlying9 (fun j hj => ?_)
  rw [addr_add0, cell_of_row _ _ _ _ _ _ h, Array.getElem?_append_left (by rw [vs_size]; exact hj), vs_get _ _ hj]
  simp [vb]
def Bel (w w' : World) : Prop := Below w.heap.size w w'
theorem Bel.refl (w : World) : Bel w w := Below.refl _ _
theorem Bel.trans {a b c : World} (h : Bel a b) (k : Bel b c) : Bel a c := Below.trans h (Below.mono k h.size)
theorem Bel.drew {a b : World} (h : Bel a b) : Bel a b.drew := Below.drew h
theorem Bel.alloc {a b : World} (h : Bel a b) (o : Obj) : Bel a (b.alloc o) := Below.alloc h h.size o
theorem Bel.kept {a b : World} (h : Bel a b) : a.keptBut b (fun _ => False) := Below.frame h _
theorem Bel.row {a b : World} (h : Bel a b) {k : Nat} {o : Obj} (hr : a.heap[k]? = some o) : b.heap[k]? = some o := by
  rw [h.block k (by rcases Nat.lt_or_ge k a.heap.size with h' | h'; exact h'; simp [h'] at hr)]; exact hr
end Go.Proofs.YtgghcfmpfneehaaGreatDoor
