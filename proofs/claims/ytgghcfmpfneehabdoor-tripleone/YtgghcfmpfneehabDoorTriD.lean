/- Whether a triple may be, by the document; a write's bytes, by the program and by the document. -/
import Derived.Test.YtgghcfmpfneehabDoorTriC
import Derived.Test.YtgghcfmpfneehabDoorValK
namespace Go.Proofs.YtgghcfmpfneehabDoor
open Go.RowKit
end Go.Proofs.YtgghcfmpfneehabDoor
