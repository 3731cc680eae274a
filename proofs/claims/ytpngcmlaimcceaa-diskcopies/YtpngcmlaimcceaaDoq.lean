/- Where Do stands, in whatever world in which all that was there stands. -/
import Derived.Test.YtpngcmlaimcceaaDoe
import Derived.Test.YtpngcmlaimcceaaNil
namespace Go.Proofs.Ytpngcmlaimcceaa
theorem Dq.on {w : World} {p : Nat} {vk vo vn : Value} {room : Int} {c0 c1 c2 c3 : Value} {W W' : World} (h : Dq w p vk vo vn room c0 c1 c2 c3 W) (hb : Bel W W') : Dq w p vk vo vn room c0 c1 c2 c3 W' := ⟨h.1.trans hb, hb.row h.row, hb.row h.box⟩
end Go.Proofs.Ytpngcmlaimcceaa
