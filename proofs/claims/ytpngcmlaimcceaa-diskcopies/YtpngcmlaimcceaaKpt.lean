/- What was there is kept. -/
import Derived.Test.YtpngcmlaimcceaaWld
namespace Go.Proofs.Ytpngcmlaimcceaa
open Go.RowKit
theorem Bel.kept {a b : World} (h : Bel a b) : a.keptBut b (fun _ => False) := Below.frame h _
end Go.Proofs.Ytpngcmlaimcceaa
