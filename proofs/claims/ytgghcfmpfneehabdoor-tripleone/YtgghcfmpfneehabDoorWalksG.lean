/- What the program's and the document's ReadKey return; for every text. -/
import Derived.Test.YtgghcfmpfneehabDoorOwn
import Derived.Deep.RegionHeld3
namespace Go.Proofs.YtgghcfmpfneehabDoor
open Go.RowKit
def kRun : List UInt8 → List UInt8 → Bool → Nat → List UInt8 × Nat × Int
  | [], _, _, _ => ([], 0, 20)
  | c :: l, out, false, p => if c = 0 then kRun l out true (p + 1) else kRun l (out ++ [c]) false (p + 1)
  | c :: l, out, true, p => if c = 255 then kRun l (out ++ [0]) false (p + 1) else if c = 1 then (out, p + 1, 0) else ([], 0, 21)
def rKey (s : ByteArray) : ByteArray × ByteArray × Int :=
  (⟨(kRun s.data.toList [] false 0).1.toArray⟩, if (kRun s.data.toList [] false 0).2.2 = 0 then s.extract (kRun s.data.toList [] false 0).2.1 s.size else ⟨#[]⟩, (kRun s.data.toList [] false 0).2.2)
theorem rKey_ok {s : ByteArray} {out : List UInt8} {p : Nat} (h : kRun s.data.toList [] false 0 = (out, p, 0)) : rKey s = (⟨out.toArray⟩, s.extract p s.size, 0) := by
  unfold rKey; rw [h]; simp
theorem rKey_bad {s : ByteArray} {x : Int} (h : kRun s.data.toList [] false 0 = ([], 0, x)) (hx : x ≠ 0) : rKey s = (⟨#[]⟩, ⟨#[]⟩, x) := by
  unfold rKey; rw [h]; simp [hx]
theorem drop_cons (s : ByteArray) (k : Nat) (h : k < s.size) : s.data.toList.drop k = s[k] :: s.data.toList.drop (k + 1) := by
  rw [List.drop_eq_getElem_cons (by simpa using h)]; rfl
theorem drop_none (s : ByteArray) (k : Nat) (h : s.size ≤ k) : s.data.toList.drop k = [] := List.drop_eq_nil_of_le (by simpa using h)
theorem byte_eq {c : UInt8} {n : Nat} (hn : n < 256) (h : c = UInt8.ofNat n) : ((c.toNat : Nat) : Int) = (n : Int) := by
  rw [h, UInt8.toNat_ofNat']; omega
theorem byte_ne {c : UInt8} {n : Nat} (hn : n < 256) (h : c ≠ UInt8.ofNat n) : (((c.toNat : Nat) : Int) == (n : Int)) = false := by
  rw [beq_eq_false_iff_ne]; intro e; apply h
  apply UInt8.toNat_inj.1
  rw [UInt8.toNat_ofNat']; omega
theorem key_end (s : ByteArray) (k : Nat) (out : List UInt8) (r : ByteArray × ByteArray × Int) (hr : r = (⟨out.toArray⟩, s.extract (k + 1) s.size, 0)) (w w' : World) (hb : Bel w w') :
    Ending.returned (.tuple #[.string ⟨out.toArray⟩, .string (s.extract ((k : Int) + 1).toNat s.size), .int .i64 0]) = Ending.returned (.tuple #[.string r.1, .string r.2.1, .int .i64 r.2.2]) ∧ Bel w w' := by
  have e : ((k : Int) + 1).toNat = k + 1 := by omega
  rw [e, hr]; exact ⟨rfl, hb⟩
theorem key_end2 (s : ByteArray) (k : Nat) (out : List UInt8) (r : ByteArray × ByteArray × Int) (hr : r = (⟨out.toArray⟩, s.extract (k + 1 + 1) s.size, 0)) (w w' : World) (hb : Bel w w') :
    Ending.returned (.tuple #[.string ⟨out.toArray⟩, .string (s.extract ((k : Int) + 1 + 1).toNat s.size), .int .i64 0]) = Ending.returned (.tuple #[.string r.1, .string r.2.1, .int .i64 r.2.2]) ∧ Bel w w' := by
  have e : ((k : Int) + 1 + 1).toNat = k + 1 + 1 := by omega
  rw [e, hr]; exact ⟨rfl, hb⟩
end Go.Proofs.YtgghcfmpfneehabDoor
