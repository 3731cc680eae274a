/-
  No cell of these rows narrows 'for every input' (looked for: loops, veiled, ifaces, maps, wideKeys, modest, calm, conditions, laid).
  DERIVED. THE GIVEN ROWS OF THIS SEAT. 3 by the template 'for every input the law returns true; each argument reads behind the call as it read before'; 0 by the template 'total and deterministic' (their statements: YthipgcojbhcdgaaGreatTotals.lean).
  GIVEN WITH THE SEED: the statements are not yours to turn. If you find one false, say at which input.
  Laid BY PROGRAM, IN A SANDBOX (cutbox-rows.mjs): the forced cells as the released guide's own fill.sh prints them over the translation bf9a740b3f2ebdcf… (all of the seat's roots in one cut). By AI agents, Wed Nov 11 2026. No macro, syntax, notation, axiom, sorry.
-/
import Derived.Test.YthipgcojbhcdgaaGreatChecked
import GoSem.Claim
import GoSem.ClaimJoined
import GoSem.ClaimMapViews
import Derived.JoinedTies
import Derived.KernelRfl
namespace Go.Proofs.YthipgcojbhcdgaaGreat
/- THE CELL 'sum', in the pinned program and in every row, IS THE sha256 OF THE DUMP (.gsa) THAT YthipgcojbhcdgaaGreatProg.lean LOADS. Nothing in Lean hashes anything: it is a label: what it is worth is what the hold of that sum in a sandbox is worth. -/
noncomputable def Tryz.pinned : Pinned := { name := "ythipgcojbhcdgaagreat", sum := "bf9a740b3f2ebdcf5c2b151dc45b4c98badfc447167b3d97b5b1c143c3c6e0fb", checked := Tryz.checked }
namespace Rows
def none {H : Type} : Left H := { results := [], args := [] }

/-- 'tesseralaw10.VoteBytes': WHATEVER THE INPUT: true; the input reads as it did. -/
def voteBytesSpec : ChangeSpec := { name := "voteBytes", fn := fun _ => fun
  | [d1, d2] => { results := [.lit (.bool true)], args := [d1, d2] }
  | _ => none }
def voteBytesRow : OpenClaim := { program := "ythipgcojbhcdgaagreat", sum := "bf9a740b3f2ebdcf5c2b151dc45b4c98badfc447167b3d97b5b1c143c3c6e0fb", func := "tessera/tesseralaw10.VoteBytes", spec := "voteBytes", inPlace := ["internal/abi.NoEscape"], unfollowed := true, recurses := true, apart := false }
def VoteBytesSaid : Prop := voteBytesRow.holds Tryz.pinned (OpenSpec.ofChange voteBytesSpec)

/-- ITS FALSE NEIGHBOUR: 'it returns false'. Refute it at one input. -/
def voteBytesWrong : ChangeSpec := { name := "voteBytes", fn := fun _ => fun
  | [d1, d2] => { results := [.lit (.bool false)], args := [d1, d2] }
  | _ => none }
def VoteBytesWrongFalsely : Prop := voteBytesRow.holds Tryz.pinned (OpenSpec.ofChange voteBytesWrong)

/-- 'tesseralaw11.LogsAlike': WHATEVER THE INPUT: true; the input reads as it did. -/
def logsAlikeSpec : ChangeSpec := { name := "logsAlike", fn := fun _ => fun
  | [d1, d2] => { results := [.lit (.bool true)], args := [d1, d2] }
  | _ => none }
def logsAlikeRow : OpenClaim := { program := "ythipgcojbhcdgaagreat", sum := "bf9a740b3f2ebdcf5c2b151dc45b4c98badfc447167b3d97b5b1c143c3c6e0fb", func := "tessera/tesseralaw11.LogsAlike", spec := "logsAlike", inPlace := ["slices.overlaps[int]"], unfollowed := true, recurses := true, apart := false }
def LogsAlikeSaid : Prop := logsAlikeRow.holds Tryz.pinned (OpenSpec.ofChange logsAlikeSpec)

/-- ITS FALSE NEIGHBOUR: 'it returns false'. Refute it at one input. -/
def logsAlikeWrong : ChangeSpec := { name := "logsAlike", fn := fun _ => fun
  | [d1, d2] => { results := [.lit (.bool false)], args := [d1, d2] }
  | _ => none }
def LogsAlikeWrongFalsely : Prop := logsAlikeRow.holds Tryz.pinned (OpenSpec.ofChange logsAlikeWrong)

/-- 'tesseralaw11.LogsGo': WHATEVER THE INPUT: true; the input reads as it did. -/
def logsGoSpec : ChangeSpec := { name := "logsGo", fn := fun _ => fun
  | [d1, d2] => { results := [.lit (.bool true)], args := [d1, d2] }
  | _ => none }
def logsGoRow : OpenClaim := { program := "ythipgcojbhcdgaagreat", sum := "bf9a740b3f2ebdcf5c2b151dc45b4c98badfc447167b3d97b5b1c143c3c6e0fb", func := "tessera/tesseralaw11.LogsGo", spec := "logsGo", inPlace := ["slices.overlaps[int]"], unfollowed := true, recurses := true, apart := false }
def LogsGoSaid : Prop := logsGoRow.holds Tryz.pinned (OpenSpec.ofChange logsGoSpec)

/-- ITS FALSE NEIGHBOUR: 'it returns false'. Refute it at one input. -/
def logsGoWrong : ChangeSpec := { name := "logsGo", fn := fun _ => fun
  | [d1, d2] => { results := [.lit (.bool false)], args := [d1, d2] }
  | _ => none }
def LogsGoWrongFalsely : Prop := logsGoRow.holds Tryz.pinned (OpenSpec.ofChange logsGoWrong)

/- THE SECOND FORM. 'bulk': how many values and letters a reading holds, each counted each time it is reached (what is shared counts as often as it is met; a slice's spare places count too). A statement '..UptoSaid' is the law's where the arguments, and the package variables that the reading takes, are together of bulk at most 1048576: NARROWER than '..Said'. Prove '..Said' where nothing that the law and all that it calls make is longer than what came in: it says more and counts as full. Else prove '..UptoSaid'. A law counts once. -/
mutual
def uptoBulk {H : Type} : DataW H → Nat
  | .lit (.string bytes) => bytes.length + 1
  | .lit _ => 1
  | .nil => 1
  | .ptr d => uptoBulk d + 1
  | .slice elems spare => uptoBulkAll elems + uptoBulkAll spare + 1
  | .agg parts => uptoBulkAll parts + 1
  | .iface _ d => uptoBulk d + 1
  | .map entries => uptoBulkEntries entries + 1
  | .held _ => 1
def uptoBulkAll {H : Type} : List (DataW H) → Nat
  | [] => 0
  | d :: r => uptoBulk d + uptoBulkAll r
def uptoBulkEntries {H : Type} : List (Lit × DataW H) → Nat
  | [] => 0
  | x :: r => uptoBulkEntry x + uptoBulkEntries r
def uptoBulkEntry {H : Type} : Lit × DataW H → Nat
  | (.string bytes, d) => bytes.length + uptoBulk d + 1
  | (_, d) => uptoBulk d + 1
 end
def uptoSmall : (H : Type) → List (DataW H) → Bool := fun _ ds => decide (uptoBulkAll ds ≤ 1048576)
def OpenSpec.upto (s : _root_.Go.ChangeSpec) : _root_.Go.OpenSpec := { _root_.Go.OpenSpec.ofChange s with cond := some uptoSmall }

/-- 'tesseralaw10.VoteBytes', WHERE WHAT IT READS IS OF BULK AT MOST 1048576: true; the input reads as it did. -/
def voteBytesUptoRow : OpenClaim := { program := "ythipgcojbhcdgaagreat", sum := "bf9a740b3f2ebdcf5c2b151dc45b4c98badfc447167b3d97b5b1c143c3c6e0fb", func := "tessera/tesseralaw10.VoteBytes", spec := "voteBytes", inPlace := ["internal/abi.NoEscape"], unfollowed := true, recurses := true, apart := false, narrowed := true }
def VoteBytesUptoSaid : Prop := voteBytesUptoRow.holds Tryz.pinned (OpenSpec.upto voteBytesSpec)

/-- 'tesseralaw11.LogsAlike', WHERE WHAT IT READS IS OF BULK AT MOST 1048576: true; the input reads as it did. -/
def logsAlikeUptoRow : OpenClaim := { program := "ythipgcojbhcdgaagreat", sum := "bf9a740b3f2ebdcf5c2b151dc45b4c98badfc447167b3d97b5b1c143c3c6e0fb", func := "tessera/tesseralaw11.LogsAlike", spec := "logsAlike", inPlace := ["slices.overlaps[int]"], unfollowed := true, recurses := true, apart := false, narrowed := true }
def LogsAlikeUptoSaid : Prop := logsAlikeUptoRow.holds Tryz.pinned (OpenSpec.upto logsAlikeSpec)

/-- 'tesseralaw11.LogsGo', WHERE WHAT IT READS IS OF BULK AT MOST 1048576: true; the input reads as it did. -/
def logsGoUptoRow : OpenClaim := { program := "ythipgcojbhcdgaagreat", sum := "bf9a740b3f2ebdcf5c2b151dc45b4c98badfc447167b3d97b5b1c143c3c6e0fb", func := "tessera/tesseralaw11.LogsGo", spec := "logsGo", inPlace := ["slices.overlaps[int]"], unfollowed := true, recurses := true, apart := false, narrowed := true }
def LogsGoUptoSaid : Prop := logsGoUptoRow.holds Tryz.pinned (OpenSpec.upto logsGoSpec)

end Rows
end Go.Proofs.YthipgcojbhcdgaaGreat
