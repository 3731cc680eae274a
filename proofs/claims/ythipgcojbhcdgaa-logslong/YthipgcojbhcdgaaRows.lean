/-
  No cell of these rows narrows 'for every input' (looked for: loops, veiled, ifaces, maps, wideKeys, modest, calm, conditions, laid).
  DERIVED. THE GIVEN ROWS OF THIS SEAT. 2 by the template 'for every input the law returns true; each argument reads behind the call as it read before'; 0 by the template 'total and deterministic' (their statements: YthipgcojbhcdgaaTotals.lean).
  GIVEN WITH THE SEED: the statements are not yours to turn. If you find one false, say at which input.
  Laid BY PROGRAM, IN A SANDBOX (cutbox-rows.mjs): the forced cells as the released guide's own fill.sh prints them over the translation 1f8a6fb58ae9e9fd… (all of the seat's roots in one cut). By AI agents, Wed Nov 11 2026. No macro, syntax, notation, axiom, sorry.
-/
import Derived.Test.YthipgcojbhcdgaaChecked
import GoSem.Claim
import GoSem.ClaimJoined
import GoSem.ClaimMapViews
import Derived.JoinedTies
import Derived.KernelRfl
namespace Go.Proofs.Ythipgcojbhcdgaa
/- THE CELL 'sum', in the pinned program and in every row, IS THE sha256 OF THE DUMP (.gsa) THAT YthipgcojbhcdgaaProg.lean LOADS. Nothing in Lean hashes anything: it is a label: what it is worth is what the hold of that sum in a sandbox is worth. -/
noncomputable def Try.pinned : Pinned := { name := "ythipgcojbhcdgaa", sum := "1f8a6fb58ae9e9fd09674a8d736c5e41510769166f70fb6c927469dce47d1681", checked := Try.checked }
namespace Rows
def none {H : Type} : Left H := { results := [], args := [] }

/-- 'tesseralaw10.VoteOneLeader': WHATEVER THE INPUT: true; the input reads as it did. -/
def voteOneLeaderSpec : ChangeSpec := { name := "voteOneLeader", fn := fun _ => fun
  | [d1, d2] => { results := [.lit (.bool true)], args := [d1, d2] }
  | _ => none }
def voteOneLeaderRow : OpenClaim := { program := "ythipgcojbhcdgaa", sum := "1f8a6fb58ae9e9fd09674a8d736c5e41510769166f70fb6c927469dce47d1681", func := "tessera/tesseralaw10.VoteOneLeader", spec := "voteOneLeader", unfollowed := true, recurses := true, apart := false }
def VoteOneLeaderSaid : Prop := voteOneLeaderRow.holds Try.pinned (OpenSpec.ofChange voteOneLeaderSpec)

/-- ITS FALSE NEIGHBOUR: 'it returns false'. Refute it at one input. -/
def voteOneLeaderWrong : ChangeSpec := { name := "voteOneLeader", fn := fun _ => fun
  | [d1, d2] => { results := [.lit (.bool false)], args := [d1, d2] }
  | _ => none }
def VoteOneLeaderWrongFalsely : Prop := voteOneLeaderRow.holds Try.pinned (OpenSpec.ofChange voteOneLeaderWrong)

/-- 'tesseralaw11.LogsLong': WHATEVER THE INPUT: true; the input reads as it did. -/
def logsLongSpec : ChangeSpec := { name := "logsLong", fn := fun _ => fun
  | [d] => { results := [.lit (.bool true)], args := [d] }
  | _ => none }
def logsLongRow : OpenClaim := { program := "ythipgcojbhcdgaa", sum := "1f8a6fb58ae9e9fd09674a8d736c5e41510769166f70fb6c927469dce47d1681", func := "tessera/tesseralaw11.LogsLong", spec := "logsLong", unfollowed := true, recurses := true, apart := false }
def LogsLongSaid : Prop := logsLongRow.holds Try.pinned (OpenSpec.ofChange logsLongSpec)

/-- ITS FALSE NEIGHBOUR: 'it returns false'. Refute it at one input. -/
def logsLongWrong : ChangeSpec := { name := "logsLong", fn := fun _ => fun
  | [d] => { results := [.lit (.bool false)], args := [d] }
  | _ => none }
def LogsLongWrongFalsely : Prop := logsLongRow.holds Try.pinned (OpenSpec.ofChange logsLongWrong)

/- THE SECOND FORM. 'bulk': how many values and letters a reading holds, each counted each time it is reached (what is shared counts as often as it is met; a slice's spare places count too). A statement '..UptoSaid' is the law's where the arguments, and the package variables that the reading takes, are together of bulk at most 1048576: NARROWER than '..Said'. Prove '..Said' where nothing that the law and all that it calls make is longer than what came in: it says more and counts as full. Else prove '..UptoSaid'. A law counts once. -/
mutual
def uptoBulk {H : Type} : DataW H → Nat
  | .lit (.string bytes) => bytes.length + 1
  | .lit _ => 1
  | .nil => 1
  | .ptr d => uptoBulk d + 1
  | .slice elems spare => uptoBulkAll elems + uptoBulkAll spare + 1
  | .agg parts => uptoBulkAll parts + 1
  | .iface _ d => uptoBulk d + 1
  | .map entries => uptoBulkEntries entries + 1
  | .held _ => 1
def uptoBulkAll {H : Type} : List (DataW H) → Nat
  | [] => 0
  | d :: r => uptoBulk d + uptoBulkAll r
def uptoBulkEntries {H : Type} : List (Lit × DataW H) → Nat
  | [] => 0
  | x :: r => uptoBulkEntry x + uptoBulkEntries r
def uptoBulkEntry {H : Type} : Lit × DataW H → Nat
  | (.string bytes, d) => bytes.length + uptoBulk d + 1
  | (_, d) => uptoBulk d + 1
 end
def uptoSmall : (H : Type) → List (DataW H) → Bool := fun _ ds => decide (uptoBulkAll ds ≤ 1048576)
def OpenSpec.upto (s : _root_.Go.ChangeSpec) : _root_.Go.OpenSpec := { _root_.Go.OpenSpec.ofChange s with cond := some uptoSmall }

/-- 'tesseralaw10.VoteOneLeader', WHERE WHAT IT READS IS OF BULK AT MOST 1048576: true; the input reads as it did. -/
def voteOneLeaderUptoRow : OpenClaim := { program := "ythipgcojbhcdgaa", sum := "1f8a6fb58ae9e9fd09674a8d736c5e41510769166f70fb6c927469dce47d1681", func := "tessera/tesseralaw10.VoteOneLeader", spec := "voteOneLeader", unfollowed := true, recurses := true, apart := false, narrowed := true }
def VoteOneLeaderUptoSaid : Prop := voteOneLeaderUptoRow.holds Try.pinned (OpenSpec.upto voteOneLeaderSpec)

/-- 'tesseralaw11.LogsLong', WHERE WHAT IT READS IS OF BULK AT MOST 1048576: true; the input reads as it did. -/
def logsLongUptoRow : OpenClaim := { program := "ythipgcojbhcdgaa", sum := "1f8a6fb58ae9e9fd09674a8d736c5e41510769166f70fb6c927469dce47d1681", func := "tessera/tesseralaw11.LogsLong", spec := "logsLong", unfollowed := true, recurses := true, apart := false, narrowed := true }
def LogsLongUptoSaid : Prop := logsLongUptoRow.holds Try.pinned (OpenSpec.upto logsLongSpec)

end Rows
end Go.Proofs.Ythipgcojbhcdgaa
