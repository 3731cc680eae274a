/- Scan, plain. -/
import Derived.Test.YtkpallbnmckbaaaTrp
namespace Go.Proofs.Ytkpallbnmckbaaa
/-- Whether a key is at or above an end. -/
def past (to : ByteArray) (k : ByteArray) : Bool := !to.data.toList.isEmpty && !Op.bytesLess k.data.toList to.data.toList
/-- One step of Scan: the bound and what was told so far. -/
def scS (to : ByteArray) (t : Int) (s : C × List C) (x : C) : (C × List C) × Bool :=
  if past to x.k = true then (s, false) else if t < x.t then (((x.k, t, false, ⟨#[]⟩), s.2), true) else ((beh x.k, if x.d = true then s.2 else s.2 ++ [x]), true)
end Go.Proofs.Ytkpallbnmckbaaa
