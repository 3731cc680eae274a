/- Proved: by any calls a net has the messages, ticks and draws that the document's has, and a copy stands for itself; for every input, no condition ('Rows.NetPlaysSaid'). -/
import Derived.Test.YtbcgikkdhfbphaaNetPlaysFrame
import Derived.Test.YtbcgikkdhfbphaaCpp
import Derived.Test.YtbcgikkdhfbphaaCpe
namespace Go.Proofs.Ytbcgikkdhfbphaa
theorem netPlays_holds : Rows.NetPlaysSaid := netPlays.proved (fun _ _ _ _ _ h hC => copyP h hC) copyD
end Go.Proofs.Ytbcgikkdhfbphaa
