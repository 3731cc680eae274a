/- The walk of the law on what is read: it returns true, for every text within the form's own reach. -/
import Derived.Test.YtahbhalfilcmiaaAlive
import Derived.Test.YtahbhalfilcmiaaWalksG
import Derived.Test.YtahbhalfilcmiaaWalksJ
namespace Go.Proofs.Ytahbhalfilcmiaa
open Go.RowKit
theorem reads_walk (s : ByteArray) (hm : s.size ≤ 150000000000000) (w : World) :
    Calls Try.prog 4 #[.string s] w fun e w' => e = .returned (.bool true) ∧ Bel w w' := by
  have c20 := hide (fun W => readNum_any s hm W)
  have c21 := hide (fun W => refReadNum_any s hm W)
  have c22 := hide (fun W => readInt_any s hm W)
  have c23 := hide (fun W => refReadInt_any s hm W)
  have c24 := hide (fun W => readText_any s hm W)
  have c25 := hide (fun W => refReadText_any s hm W)
  have c26 := hide (fun W => readKey_any s hm W)
  have c27 := hide (fun W => refReadKey_any s hm W)
  have c28 := hide (fun W => readFrame_any s hm W)
  have c29 := hide (fun W => refReadFrame_any s hm W)
  generalize rNum s = r1 at *
  generalize rInt s = r2 at *
  generalize rText s = r3 at *
  generalize rKey s = r4 at *
  generalize rFrame s = r5 at *
  obtain ⟨a1, a2, a3⟩ := r1
  obtain ⟨b1, b2, b3⟩ := r2
  obtain ⟨d1, d2, d3⟩ := r3
  obtain ⟨f1, f2, f3⟩ := r4
  obtain ⟨g1, g2, g3⟩ := r5
  simp only at c20 c21 c22 c23 c24 c25 c26 c27 c28 c29
  clear hm
  go_enter Try.func4, Try.ntmps4
  go_wp2_with fail
  refine (c20.out _).mono ?_
  rintro e w1 ⟨rfl, b1⟩
  go_wp2_with fail
  refine (c21.out _).mono ?_
  rintro e w2 ⟨rfl, b2⟩
  go_wp2_with fail
  refine (c22.out _).mono ?_
  rintro e w3 ⟨rfl, b3⟩
  go_wp2_with fail
  refine (c23.out _).mono ?_
  rintro e w4 ⟨rfl, b4⟩
  go_wp2_with fail
  refine (c24.out _).mono ?_
  rintro e w5 ⟨rfl, b5⟩
  go_wp2_with fail
  refine (c25.out _).mono ?_
  rintro e w6 ⟨rfl, b6⟩
  go_wp2_with fail
  refine (c26.out _).mono ?_
  rintro e w7 ⟨rfl, b7⟩
  go_wp2_with fail
  refine (c27.out _).mono ?_
  rintro e w8 ⟨rfl, b8⟩
  go_wp2_with fail
  refine (c28.out _).mono ?_
  rintro e w9 ⟨rfl, b9⟩
  go_wp2_with fail
  refine (c29.out _).mono ?_
  rintro e w10 ⟨rfl, b10⟩
  go_wp2_with fail
  refine (alive_any _).mono ?_
  rintro e w11 ⟨rfl, b11⟩
  go_wp2
  go_ret
  exact ⟨rfl, ((((((((((b1.trans b2).trans b3).trans b4).trans b5).trans b6).trans b7).trans b8).trans b9).trans b10).trans b11)⟩
end Go.Proofs.Ytahbhalfilcmiaa
