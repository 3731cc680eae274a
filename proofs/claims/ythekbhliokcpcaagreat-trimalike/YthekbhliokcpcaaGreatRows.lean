/-
  No cell of these rows narrows 'for every input' (looked for: loops, veiled, ifaces, maps, wideKeys, modest, calm, conditions, laid).
  DERIVED. THE GIVEN ROWS OF THIS SEAT. 4 by the template 'for every input the law returns true; each argument reads behind the call as it read before'; 0 by the template 'total and deterministic' (their statements: YthekbhliokcpcaaGreatTotals.lean).
  GIVEN WITH THE SEED: the statements are not yours to turn. If you find one false, say at which input.
  Laid BY PROGRAM, IN A SANDBOX (cutbox-rows.mjs): the forced cells as the released guide's own fill.sh prints them over the translation a6324576f2f757da… (all of the seat's roots in one cut). By AI agents, Wed Nov 11 2026. No macro, syntax, notation, axiom, sorry.
-/
import Derived.Test.YthekbhliokcpcaaGreatChecked
import GoSem.Claim
import GoSem.ClaimJoined
import GoSem.ClaimMapViews
import Derived.JoinedTies
import Derived.KernelRfl
namespace Go.Proofs.YthekbhliokcpcaaGreat
/- THE CELL 'sum', in the pinned program and in every row, IS THE sha256 OF THE DUMP (.gsa) THAT YthekbhliokcpcaaGreatProg.lean LOADS. Nothing in Lean hashes anything: it is a label: what it is worth is what the hold of that sum in a sandbox is worth. -/
noncomputable def Tryz.pinned : Pinned := { name := "ythekbhliokcpcaagreat", sum := "a6324576f2f757da0cb0e1a5203a70549ced82a95601488ee44f7a7b7bd0650e", checked := Tryz.checked }
namespace Rows
def none {H : Type} : Left H := { results := [], args := [] }

/-- 'tesseralaw12.KeepFolds': WHATEVER THE INPUT: true; the input reads as it did. -/
def keepFoldsSpec : ChangeSpec := { name := "keepFolds", fn := fun _ => fun
  | [d1, d2, d3, d4] => { results := [.lit (.bool true)], args := [d1, d2, d3, d4] }
  | _ => none }
def keepFoldsRow : OpenClaim := { program := "ythekbhliokcpcaagreat", sum := "a6324576f2f757da0cb0e1a5203a70549ced82a95601488ee44f7a7b7bd0650e", func := "tessera/tesseralaw12.KeepFolds", spec := "keepFolds", inPlace := ["internal/abi.NoEscape"], unfollowed := true, recurses := true, apart := false }
def KeepFoldsSaid : Prop := keepFoldsRow.holds Tryz.pinned (OpenSpec.ofChange keepFoldsSpec)

/-- ITS FALSE NEIGHBOUR: 'it returns false'. Refute it at one input. -/
def keepFoldsWrong : ChangeSpec := { name := "keepFolds", fn := fun _ => fun
  | [d1, d2, d3, d4] => { results := [.lit (.bool false)], args := [d1, d2, d3, d4] }
  | _ => none }
def KeepFoldsWrongFalsely : Prop := keepFoldsRow.holds Tryz.pinned (OpenSpec.ofChange keepFoldsWrong)

/-- 'tesseralaw13.TrimAlike': WHATEVER THE INPUT: true; the input reads as it did. -/
def trimAlikeSpec : ChangeSpec := { name := "trimAlike", fn := fun _ => fun
  | [d1, d2] => { results := [.lit (.bool true)], args := [d1, d2] }
  | _ => none }
def trimAlikeRow : OpenClaim := { program := "ythekbhliokcpcaagreat", sum := "a6324576f2f757da0cb0e1a5203a70549ced82a95601488ee44f7a7b7bd0650e", func := "tessera/tesseralaw13.TrimAlike", spec := "trimAlike", inPlace := ["slices.overlaps[int]"], unfollowed := true, recurses := true, apart := false }
def TrimAlikeSaid : Prop := trimAlikeRow.holds Tryz.pinned (OpenSpec.ofChange trimAlikeSpec)

/-- ITS FALSE NEIGHBOUR: 'it returns false'. Refute it at one input. -/
def trimAlikeWrong : ChangeSpec := { name := "trimAlike", fn := fun _ => fun
  | [d1, d2] => { results := [.lit (.bool false)], args := [d1, d2] }
  | _ => none }
def TrimAlikeWrongFalsely : Prop := trimAlikeRow.holds Tryz.pinned (OpenSpec.ofChange trimAlikeWrong)

/-- 'tesseralaw14.SeatsAlike': WHATEVER THE INPUT: true; the input reads as it did. -/
def seatsAlikeSpec : ChangeSpec := { name := "seatsAlike", fn := fun _ => fun
  | [d1, d2, d3] => { results := [.lit (.bool true)], args := [d1, d2, d3] }
  | _ => none }
def seatsAlikeRow : OpenClaim := { program := "ythekbhliokcpcaagreat", sum := "a6324576f2f757da0cb0e1a5203a70549ced82a95601488ee44f7a7b7bd0650e", func := "tessera/tesseralaw14.SeatsAlike", spec := "seatsAlike", inPlace := ["slices.overlaps[int]"], unfollowed := true, recurses := true, apart := false }
def SeatsAlikeSaid : Prop := seatsAlikeRow.holds Tryz.pinned (OpenSpec.ofChange seatsAlikeSpec)

/-- ITS FALSE NEIGHBOUR: 'it returns false'. Refute it at one input. -/
def seatsAlikeWrong : ChangeSpec := { name := "seatsAlike", fn := fun _ => fun
  | [d1, d2, d3] => { results := [.lit (.bool false)], args := [d1, d2, d3] }
  | _ => none }
def SeatsAlikeWrongFalsely : Prop := seatsAlikeRow.holds Tryz.pinned (OpenSpec.ofChange seatsAlikeWrong)

/-- 'tesseralaw14.SeatsCommon': WHATEVER THE INPUT: true; the input reads as it did. -/
def seatsCommonSpec : ChangeSpec := { name := "seatsCommon", fn := fun _ => fun
  | [d1, d2, d3, d4] => { results := [.lit (.bool true)], args := [d1, d2, d3, d4] }
  | _ => none }
def seatsCommonRow : OpenClaim := { program := "ythekbhliokcpcaagreat", sum := "a6324576f2f757da0cb0e1a5203a70549ced82a95601488ee44f7a7b7bd0650e", func := "tessera/tesseralaw14.SeatsCommon", spec := "seatsCommon", inPlace := ["slices.overlaps[int]"], unfollowed := true, recurses := true, apart := false }
def SeatsCommonSaid : Prop := seatsCommonRow.holds Tryz.pinned (OpenSpec.ofChange seatsCommonSpec)

/-- ITS FALSE NEIGHBOUR: 'it returns false'. Refute it at one input. -/
def seatsCommonWrong : ChangeSpec := { name := "seatsCommon", fn := fun _ => fun
  | [d1, d2, d3, d4] => { results := [.lit (.bool false)], args := [d1, d2, d3, d4] }
  | _ => none }
def SeatsCommonWrongFalsely : Prop := seatsCommonRow.holds Tryz.pinned (OpenSpec.ofChange seatsCommonWrong)

/- THE SECOND FORM. 'bulk': how many values and letters a reading holds, each counted each time it is reached (what is shared counts as often as it is met; a slice's spare places count too). A statement '..UptoSaid' is the law's where the arguments, and the package variables that the reading takes, are together of bulk at most 1048576: NARROWER than '..Said'. Prove '..Said' where nothing that the law and all that it calls make is longer than what came in: it says more and counts as full. Else prove '..UptoSaid'. A law counts once. -/
mutual
def uptoBulk {H : Type} : DataW H → Nat
  | .lit (.string bytes) => bytes.length + 1
  | .lit _ => 1
  | .nil => 1
  | .ptr d => uptoBulk d + 1
  | .slice elems spare => uptoBulkAll elems + uptoBulkAll spare + 1
  | .agg parts => uptoBulkAll parts + 1
  | .iface _ d => uptoBulk d + 1
  | .map entries => uptoBulkEntries entries + 1
  | .held _ => 1
def uptoBulkAll {H : Type} : List (DataW H) → Nat
  | [] => 0
  | d :: r => uptoBulk d + uptoBulkAll r
def uptoBulkEntries {H : Type} : List (Lit × DataW H) → Nat
  | [] => 0
  | x :: r => uptoBulkEntry x + uptoBulkEntries r
def uptoBulkEntry {H : Type} : Lit × DataW H → Nat
  | (.string bytes, d) => bytes.length + uptoBulk d + 1
  | (_, d) => uptoBulk d + 1
 end
def uptoSmall : (H : Type) → List (DataW H) → Bool := fun _ ds => decide (uptoBulkAll ds ≤ 1048576)
def OpenSpec.upto (s : _root_.Go.ChangeSpec) : _root_.Go.OpenSpec := { _root_.Go.OpenSpec.ofChange s with cond := some uptoSmall }

/-- 'tesseralaw12.KeepFolds', WHERE WHAT IT READS IS OF BULK AT MOST 1048576: true; the input reads as it did. -/
def keepFoldsUptoRow : OpenClaim := { program := "ythekbhliokcpcaagreat", sum := "a6324576f2f757da0cb0e1a5203a70549ced82a95601488ee44f7a7b7bd0650e", func := "tessera/tesseralaw12.KeepFolds", spec := "keepFolds", inPlace := ["internal/abi.NoEscape"], unfollowed := true, recurses := true, apart := false, narrowed := true }
def KeepFoldsUptoSaid : Prop := keepFoldsUptoRow.holds Tryz.pinned (OpenSpec.upto keepFoldsSpec)

/-- 'tesseralaw13.TrimAlike', WHERE WHAT IT READS IS OF BULK AT MOST 1048576: true; the input reads as it did. -/
def trimAlikeUptoRow : OpenClaim := { program := "ythekbhliokcpcaagreat", sum := "a6324576f2f757da0cb0e1a5203a70549ced82a95601488ee44f7a7b7bd0650e", func := "tessera/tesseralaw13.TrimAlike", spec := "trimAlike", inPlace := ["slices.overlaps[int]"], unfollowed := true, recurses := true, apart := false, narrowed := true }
def TrimAlikeUptoSaid : Prop := trimAlikeUptoRow.holds Tryz.pinned (OpenSpec.upto trimAlikeSpec)

/-- 'tesseralaw14.SeatsAlike', WHERE WHAT IT READS IS OF BULK AT MOST 1048576: true; the input reads as it did. -/
def seatsAlikeUptoRow : OpenClaim := { program := "ythekbhliokcpcaagreat", sum := "a6324576f2f757da0cb0e1a5203a70549ced82a95601488ee44f7a7b7bd0650e", func := "tessera/tesseralaw14.SeatsAlike", spec := "seatsAlike", inPlace := ["slices.overlaps[int]"], unfollowed := true, recurses := true, apart := false, narrowed := true }
def SeatsAlikeUptoSaid : Prop := seatsAlikeUptoRow.holds Tryz.pinned (OpenSpec.upto seatsAlikeSpec)

/-- 'tesseralaw14.SeatsCommon', WHERE WHAT IT READS IS OF BULK AT MOST 1048576: true; the input reads as it did. -/
def seatsCommonUptoRow : OpenClaim := { program := "ythekbhliokcpcaagreat", sum := "a6324576f2f757da0cb0e1a5203a70549ced82a95601488ee44f7a7b7bd0650e", func := "tessera/tesseralaw14.SeatsCommon", spec := "seatsCommon", inPlace := ["slices.overlaps[int]"], unfollowed := true, recurses := true, apart := false, narrowed := true }
def SeatsCommonUptoSaid : Prop := seatsCommonUptoRow.holds Tryz.pinned (OpenSpec.upto seatsCommonSpec)

end Rows
end Go.Proofs.YthekbhliokcpcaaGreat
