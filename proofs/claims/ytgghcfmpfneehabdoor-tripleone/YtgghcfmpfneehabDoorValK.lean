/- What the document's May, Bytes, Number, Hex, Uid, quoted and Text return; for every value. -/
import Derived.Test.YtgghcfmpfneehabDoorValE
import Derived.Test.YtgghcfmpfneehabDoorOne
namespace Go.Proofs.YtgghcfmpfneehabDoor
open Go.RowKit
theorem cat_byte (c : UInt8) (l : List UInt8) : (⟨#[c]⟩ : ByteArray) ++ ⟨l.toArray⟩ = ⟨(c :: l).toArray⟩ := ByteArray.mk_append_mk [c] l
end Go.Proofs.YtgghcfmpfneehabDoor
