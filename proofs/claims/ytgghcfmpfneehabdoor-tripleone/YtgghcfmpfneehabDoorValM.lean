/- What the program's and the document's Read return; for every text. -/
import Derived.Test.YtgghcfmpfneehabDoorValI
import Derived.Test.YtgghcfmpfneehabDoorValK
namespace Go.Proofs.YtgghcfmpfneehabDoor
open Go.RowKit
def mayD (k : Int) (b : Bool) (n : Int) (s : ByteArray) (u : Int) : Decidable (mayV k b n s u) := by unfold mayV; exact inferInstance
/-- The end of reading: the value, if there was no fault and it may be. -/
def fin (k : Int) (b : Bool) (n : Int) (s : ByteArray) (u : Int) (rest : ByteArray) (e : Int) : (Int × Bool × Int × ByteArray × Int) × ByteArray × Int :=
  if e = 0 then @ite _ (mayV k b n s u) (mayD k b n s u) ((k, b, n, s, u), rest, 0) ((0, false, 0, ⟨#[]⟩, 0), ⟨#[]⟩, 30) else ((0, false, 0, ⟨#[]⟩, 0), ⟨#[]⟩, e)
theorem fin_bad {k : Int} {b : Bool} {n : Int} {s : ByteArray} {u : Int} {rest : ByteArray} {e : Int} (h : e ≠ 0) : fin k b n s u rest e = ((0, false, 0, ⟨#[]⟩, 0), ⟨#[]⟩, e) := by unfold fin; rw [if_neg h]
theorem fin_no {k : Int} {b : Bool} {n : Int} {s : ByteArray} {u : Int} {rest : ByteArray} {e : Int} (h : e = 0) (hm : ¬ mayV k b n s u) : fin k b n s u rest e = ((0, false, 0, ⟨#[]⟩, 0), ⟨#[]⟩, 30) := by unfold fin; rw [if_pos h, if_neg hm]
theorem fin_ok {k : Int} {b : Bool} {n : Int} {s : ByteArray} {u : Int} {rest : ByteArray} {e : Int} (h : e = 0) (hm : mayV k b n s u) : fin k b n s u rest e = ((k, b, n, s, u), rest, 0) := by unfold fin; rw [if_pos h, if_pos hm]
/-- The truth at the front. -/
def rTru (s : ByteArray) : Bool × ByteArray × Int :=
  if h : 0 < s.size then (if 1 < (s[0]).toNat then (false, ⟨#[]⟩, 21) else (decide ((s[0]).toNat = 1), s.extract 1 s.size, 0)) else (false, ⟨#[]⟩, 20)
/-- The value at the front. -/
def rVal (s : ByteArray) : (Int × Bool × Int × ByteArray × Int) × ByteArray × Int :=
  if h : 0 < s.size then
    (if s[0] = 1 then fin 1 (rTru (s.extract 1 s.size)).1 0 ⟨#[]⟩ 0 (rTru (s.extract 1 s.size)).2.1 (rTru (s.extract 1 s.size)).2.2
     else if s[0] = 2 then fin 2 false (rInt (s.extract 1 s.size)).1 ⟨#[]⟩ 0 (rInt (s.extract 1 s.size)).2.1 (rInt (s.extract 1 s.size)).2.2
     else if s[0] = 3 then fin 3 false 0 (rKey (s.extract 1 s.size)).1 0 (rKey (s.extract 1 s.size)).2.1 (rKey (s.extract 1 s.size)).2.2
     else if s[0] = 4 then fin 4 false 0 ⟨#[]⟩ ((rNum (s.extract 1 s.size)).1 : Int) (rNum (s.extract 1 s.size)).2.1 (rNum (s.extract 1 s.size)).2.2
     else ((0, false, 0, ⟨#[]⟩, 0), ⟨#[]⟩, 30))
  else ((0, false, 0, ⟨#[]⟩, 0), ⟨#[]⟩, 20)
/-- An answer of Read as the program holds it. -/
def rv (x : (Int × Bool × Int × ByteArray × Int) × ByteArray × Int) : Value := .tuple #[ev x.1.1 x.1.2.1 x.1.2.2.1 x.1.2.2.2.1 x.1.2.2.2.2, .string x.2.1, .int .i64 x.2.2]
theorem res3_25 {fn : Func} (hr : fn.results = #[.cell 2 27, .tmp 3, .tmp 4]) {W : World} {B : Nat} {cs : Array Value} (hg : W.heap[B]? = some (.cells cs 27)) (hs : (Tryd.prog.info? 27).map (·.size) = some cs.size) (tmps : Array Value) (x y : Value) (hp : tmps.getD 2 undef = .pointer (some ⟨B, 0, none⟩)) (hx : tmps.getD 3 undef = x) (hy : tmps.getD 4 undef = y) :
    (results fn tmps).run Tryd.prog W = .ok (.tuple #[.agg cs, x, y]) W := by
  have hp' : tmps[2]?.getD undef = .pointer (some ⟨B, 0, none⟩) := by simpa using hp
  have hx' : tmps[3]?.getD undef = x := by simpa using hx
  have hy' : tmps[4]?.getD undef = y := by simpa using hy
  simp [results, hr, hp', hx', hy', asAddr, run_loadVar_row W B 27 27 cs (0, 0) _ hg Tryd.underlying27 rfl hs]
end Go.Proofs.YtgghcfmpfneehabDoor
