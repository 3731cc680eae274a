/- A member of nothing. -/
import Derived.Test.YthekbhliokcpcaaGreatHpe
namespace Go.Proofs.YthekbhliokcpcaaGreat
open Go.RowKit Go.Maps
/-- A member of nothing. -/
def g0 : GP := ⟨0, [], 0, 0, 0, 0, 0, 0, [], ⟨#[]⟩, [], 0, 0, 0, [], [], 0, []⟩
def y0 : Px := ⟨none, 0, none, 0, none, 0, none, 0, none, 0, none, 0⟩
theorem Tryz.zeroP (w : World) : (zeroValue 31).run Tryz.prog w = .ok (.agg (gc g0 y0)) w := by
  unfold gc g0 y0
  go_simp
end Go.Proofs.YthekbhliokcpcaaGreat
