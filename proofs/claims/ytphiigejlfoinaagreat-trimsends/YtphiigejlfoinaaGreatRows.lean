/-
  No cell of these rows narrows 'for every input' (looked for: loops, veiled, ifaces, maps, wideKeys, modest, calm, conditions, laid).
  DERIVED. THE GIVEN ROWS OF THIS SEAT. 4 by the template 'for every input the law returns true; each argument reads behind the call as it read before'; 0 by the template 'total and deterministic' (their statements: YtphiigejlfoinaaGreatTotals.lean).
  GIVEN WITH THE SEED: the statements are not yours to turn. If you find one false, say at which input.
  Laid BY PROGRAM, IN A SANDBOX (cutbox-rows.mjs): the forced cells as the released guide's own fill.sh prints them over the translation c330692518bb6b28… (all of the seat's roots in one cut). By AI agents, Wed Nov 11 2026. No macro, syntax, notation, axiom, sorry.
-/
import Derived.Test.YtphiigejlfoinaaGreatChecked
import GoSem.Claim
import GoSem.ClaimJoined
import GoSem.ClaimMapViews
import Derived.JoinedTies
import Derived.KernelRfl
namespace Go.Proofs.YtphiigejlfoinaaGreat
/- THE CELL 'sum', in the pinned program and in every row, IS THE sha256 OF THE DUMP (.gsa) THAT YtphiigejlfoinaaGreatProg.lean LOADS. Nothing in Lean hashes anything: it is a label: what it is worth is what the hold of that sum in a sandbox is worth. -/
noncomputable def Tryz.pinned : Pinned := { name := "ytphiigejlfoinaagreat", sum := "c330692518bb6b28393d7e608ba0ee6ca7b85ceaf02f3917763f9df983a73c35", checked := Tryz.checked }
namespace Rows
def none {H : Type} : Left H := { results := [], args := [] }

/-- 'tesseralaw12.KeepFolds': WHATEVER THE INPUT: true; the input reads as it did. -/
def keepFoldsSpec : ChangeSpec := { name := "keepFolds", fn := fun _ => fun
  | [d1, d2, d3, d4] => { results := [.lit (.bool true)], args := [d1, d2, d3, d4] }
  | _ => none }
def keepFoldsRow : OpenClaim := { program := "ytphiigejlfoinaagreat", sum := "c330692518bb6b28393d7e608ba0ee6ca7b85ceaf02f3917763f9df983a73c35", func := "tessera/tesseralaw12.KeepFolds", spec := "keepFolds", inPlace := ["internal/abi.NoEscape"], unfollowed := true, recurses := true, apart := false }
def KeepFoldsSaid : Prop := keepFoldsRow.holds Tryz.pinned (OpenSpec.ofChange keepFoldsSpec)

/-- ITS FALSE NEIGHBOUR: 'it returns false'. Refute it at one input. -/
def keepFoldsWrong : ChangeSpec := { name := "keepFolds", fn := fun _ => fun
  | [d1, d2, d3, d4] => { results := [.lit (.bool false)], args := [d1, d2, d3, d4] }
  | _ => none }
def KeepFoldsWrongFalsely : Prop := keepFoldsRow.holds Tryz.pinned (OpenSpec.ofChange keepFoldsWrong)

/-- 'tesseralaw13.TrimLong': WHATEVER THE INPUT: true; the input reads as it did. -/
def trimLongSpec : ChangeSpec := { name := "trimLong", fn := fun _ => fun
  | [d] => { results := [.lit (.bool true)], args := [d] }
  | _ => none }
def trimLongRow : OpenClaim := { program := "ytphiigejlfoinaagreat", sum := "c330692518bb6b28393d7e608ba0ee6ca7b85ceaf02f3917763f9df983a73c35", func := "tessera/tesseralaw13.TrimLong", spec := "trimLong", unfollowed := true, recurses := true, apart := false }
def TrimLongSaid : Prop := trimLongRow.holds Tryz.pinned (OpenSpec.ofChange trimLongSpec)

/-- ITS FALSE NEIGHBOUR: 'it returns false'. Refute it at one input. -/
def trimLongWrong : ChangeSpec := { name := "trimLong", fn := fun _ => fun
  | [d] => { results := [.lit (.bool false)], args := [d] }
  | _ => none }
def TrimLongWrongFalsely : Prop := trimLongRow.holds Tryz.pinned (OpenSpec.ofChange trimLongWrong)

/-- 'tesseralaw13.TrimAlike': WHATEVER THE INPUT: true; the input reads as it did. -/
def trimAlikeSpec : ChangeSpec := { name := "trimAlike", fn := fun _ => fun
  | [d1, d2] => { results := [.lit (.bool true)], args := [d1, d2] }
  | _ => none }
def trimAlikeRow : OpenClaim := { program := "ytphiigejlfoinaagreat", sum := "c330692518bb6b28393d7e608ba0ee6ca7b85ceaf02f3917763f9df983a73c35", func := "tessera/tesseralaw13.TrimAlike", spec := "trimAlike", inPlace := ["slices.overlaps[int]"], unfollowed := true, recurses := true, apart := false }
def TrimAlikeSaid : Prop := trimAlikeRow.holds Tryz.pinned (OpenSpec.ofChange trimAlikeSpec)

/-- ITS FALSE NEIGHBOUR: 'it returns false'. Refute it at one input. -/
def trimAlikeWrong : ChangeSpec := { name := "trimAlike", fn := fun _ => fun
  | [d1, d2] => { results := [.lit (.bool false)], args := [d1, d2] }
  | _ => none }
def TrimAlikeWrongFalsely : Prop := trimAlikeRow.holds Tryz.pinned (OpenSpec.ofChange trimAlikeWrong)

/-- 'tesseralaw13.TrimSends': WHATEVER THE INPUT: true; the input reads as it did. -/
def trimSendsSpec : ChangeSpec := { name := "trimSends", fn := fun _ => fun
  | [d1, d2] => { results := [.lit (.bool true)], args := [d1, d2] }
  | _ => none }
def trimSendsRow : OpenClaim := { program := "ytphiigejlfoinaagreat", sum := "c330692518bb6b28393d7e608ba0ee6ca7b85ceaf02f3917763f9df983a73c35", func := "tessera/tesseralaw13.TrimSends", spec := "trimSends", unfollowed := true, recurses := true, apart := false }
def TrimSendsSaid : Prop := trimSendsRow.holds Tryz.pinned (OpenSpec.ofChange trimSendsSpec)

/-- ITS FALSE NEIGHBOUR: 'it returns false'. Refute it at one input. -/
def trimSendsWrong : ChangeSpec := { name := "trimSends", fn := fun _ => fun
  | [d1, d2] => { results := [.lit (.bool false)], args := [d1, d2] }
  | _ => none }
def TrimSendsWrongFalsely : Prop := trimSendsRow.holds Tryz.pinned (OpenSpec.ofChange trimSendsWrong)

/- THE SECOND FORM. 'bulk': how many values and letters a reading holds, each counted each time it is reached (what is shared counts as often as it is met; a slice's spare places count too). A statement '..UptoSaid' is the law's where the arguments, and the package variables that the reading takes, are together of bulk at most 1048576: NARROWER than '..Said'. Prove '..Said' where nothing that the law and all that it calls make is longer than what came in: it says more and counts as full. Else prove '..UptoSaid'. A law counts once. -/
mutual
def uptoBulk {H : Type} : DataW H → Nat
  | .lit (.string bytes) => bytes.length + 1
  | .lit _ => 1
  | .nil => 1
  | .ptr d => uptoBulk d + 1
  | .slice elems spare => uptoBulkAll elems + uptoBulkAll spare + 1
  | .agg parts => uptoBulkAll parts + 1
  | .iface _ d => uptoBulk d + 1
  | .map entries => uptoBulkEntries entries + 1
  | .held _ => 1
def uptoBulkAll {H : Type} : List (DataW H) → Nat
  | [] => 0
  | d :: r => uptoBulk d + uptoBulkAll r
def uptoBulkEntries {H : Type} : List (Lit × DataW H) → Nat
  | [] => 0
  | x :: r => uptoBulkEntry x + uptoBulkEntries r
def uptoBulkEntry {H : Type} : Lit × DataW H → Nat
  | (.string bytes, d) => bytes.length + uptoBulk d + 1
  | (_, d) => uptoBulk d + 1
 end
def uptoSmall : (H : Type) → List (DataW H) → Bool := fun _ ds => decide (uptoBulkAll ds ≤ 1048576)
def OpenSpec.upto (s : _root_.Go.ChangeSpec) : _root_.Go.OpenSpec := { _root_.Go.OpenSpec.ofChange s with cond := some uptoSmall }

/-- 'tesseralaw12.KeepFolds', WHERE WHAT IT READS IS OF BULK AT MOST 1048576: true; the input reads as it did. -/
def keepFoldsUptoRow : OpenClaim := { program := "ytphiigejlfoinaagreat", sum := "c330692518bb6b28393d7e608ba0ee6ca7b85ceaf02f3917763f9df983a73c35", func := "tessera/tesseralaw12.KeepFolds", spec := "keepFolds", inPlace := ["internal/abi.NoEscape"], unfollowed := true, recurses := true, apart := false, narrowed := true }
def KeepFoldsUptoSaid : Prop := keepFoldsUptoRow.holds Tryz.pinned (OpenSpec.upto keepFoldsSpec)

/-- 'tesseralaw13.TrimLong', WHERE WHAT IT READS IS OF BULK AT MOST 1048576: true; the input reads as it did. -/
def trimLongUptoRow : OpenClaim := { program := "ytphiigejlfoinaagreat", sum := "c330692518bb6b28393d7e608ba0ee6ca7b85ceaf02f3917763f9df983a73c35", func := "tessera/tesseralaw13.TrimLong", spec := "trimLong", unfollowed := true, recurses := true, apart := false, narrowed := true }
def TrimLongUptoSaid : Prop := trimLongUptoRow.holds Tryz.pinned (OpenSpec.upto trimLongSpec)

/-- 'tesseralaw13.TrimAlike', WHERE WHAT IT READS IS OF BULK AT MOST 1048576: true; the input reads as it did. -/
def trimAlikeUptoRow : OpenClaim := { program := "ytphiigejlfoinaagreat", sum := "c330692518bb6b28393d7e608ba0ee6ca7b85ceaf02f3917763f9df983a73c35", func := "tessera/tesseralaw13.TrimAlike", spec := "trimAlike", inPlace := ["slices.overlaps[int]"], unfollowed := true, recurses := true, apart := false, narrowed := true }
def TrimAlikeUptoSaid : Prop := trimAlikeUptoRow.holds Tryz.pinned (OpenSpec.upto trimAlikeSpec)

/-- 'tesseralaw13.TrimSends', WHERE WHAT IT READS IS OF BULK AT MOST 1048576: true; the input reads as it did. -/
def trimSendsUptoRow : OpenClaim := { program := "ytphiigejlfoinaagreat", sum := "c330692518bb6b28393d7e608ba0ee6ca7b85ceaf02f3917763f9df983a73c35", func := "tessera/tesseralaw13.TrimSends", spec := "trimSends", unfollowed := true, recurses := true, apart := false, narrowed := true }
def TrimSendsUptoSaid : Prop := trimSendsUptoRow.holds Tryz.pinned (OpenSpec.upto trimSendsSpec)

end Rows
end Go.Proofs.YtphiigejlfoinaaGreat
