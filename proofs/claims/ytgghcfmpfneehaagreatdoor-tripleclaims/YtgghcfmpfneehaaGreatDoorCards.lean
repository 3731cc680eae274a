/-
  DERIVED. GIVEN WITH THE SEED: THE CARDS: each row of YtgghcfmpfneehaaGreatDoorRows.lean that lists a variable, with what it lists TIED to the program's text (the seventh form; the later family's looks); each row that meets fmt, with fmt's text TOLD by the authors' own Lean function (tested against real Go, not proved from fmt's source: count such statements apart). THE CARD IS WHAT COUNTS. Prove the row's statement (the work); the ties are given (YtgghcfmpfneehaaGreatDoorTie.lean); close each card by the builder's one call (the guide's Derived/Test/ToyasCard.lean, 'card_holds'). Laid BY PROGRAM, IN A SANDBOX (cutbox-door.mjs). By AI agents, Wed Nov 11 2026. No macro, syntax, notation, axiom, sorry.
-/
import Derived.Test.YtgghcfmpfneehaaGreatDoorRows
import GoSem.ClaimSeven
namespace Go.Proofs.YtgghcfmpfneehaaGreatDoor
namespace Rows

/-- THE TIED CARD OF 'tesseralaw04.TripleReads'. -/
def tripleReadsCard : Claim7 := { stood := { row := tripleReadsRow, standIns := [], harness := (true, "58364912f57f87adc3b4fb5eaf7280ee1730c4f3f00607b66fa557e37f16d734"), looks := true }, kinds := [], alts := [], laidByText := true, laidKinds := [.data, .data, .data, .data, .sentinel, .sentinel, .pinned], laidTests := true, laidLooks := .later }
def TripleReadsCardSaid : Prop := Claim7.holds Tryz.pinned (.plain (OpenSpec.ofChange tripleReadsSpec)) tripleReadsCard

/-- THE TIED CARD OF 'tesseralaw04.TripleClaims'. -/
def tripleClaimsCard : Claim7 := { stood := { row := tripleClaimsRow, standIns := [], harness := (true, "58364912f57f87adc3b4fb5eaf7280ee1730c4f3f00607b66fa557e37f16d734"), looks := true }, kinds := [], alts := [], laidByText := true, laidKinds := [.data, .data, .data], laidTests := true, laidLooks := .later }
def TripleClaimsCardSaid : Prop := Claim7.holds Tryz.pinned (.plain (OpenSpec.ofChange tripleClaimsSpec)) tripleClaimsCard

/-- THE TIED CARD OF 'tesseralaw04.TripleBack'. -/
def tripleBackCard : Claim7 := { stood := { row := tripleBackRow, standIns := [], harness := (true, "58364912f57f87adc3b4fb5eaf7280ee1730c4f3f00607b66fa557e37f16d734"), looks := true }, kinds := [], alts := [], laidByText := true, laidKinds := [.data, .data, .data, .data, .sentinel, .sentinel, .pinned], laidTests := true, laidLooks := .later }
def TripleBackCardSaid : Prop := Claim7.holds Tryz.pinned (.plain (OpenSpec.ofChange tripleBackSpec)) tripleBackCard

/-- THE SECOND FORM's CARD OF 'tesseralaw04.TripleReads'. -/
def tripleReadsUptoCard : Claim7 := { stood := { row := tripleReadsUptoRow, standIns := [], harness := (true, "58364912f57f87adc3b4fb5eaf7280ee1730c4f3f00607b66fa557e37f16d734"), looks := true }, kinds := [], alts := [], laidByText := true, laidKinds := [.data, .data, .data, .data, .sentinel, .sentinel, .pinned], laidTests := true, laidLooks := .later }
def TripleReadsUptoCardSaid : Prop := Claim7.holds Tryz.pinned (.plain (OpenSpec.upto tripleReadsSpec)) tripleReadsUptoCard

/-- THE SECOND FORM's CARD OF 'tesseralaw04.TripleClaims'. -/
def tripleClaimsUptoCard : Claim7 := { stood := { row := tripleClaimsUptoRow, standIns := [], harness := (true, "58364912f57f87adc3b4fb5eaf7280ee1730c4f3f00607b66fa557e37f16d734"), looks := true }, kinds := [], alts := [], laidByText := true, laidKinds := [.data, .data, .data], laidTests := true, laidLooks := .later }
def TripleClaimsUptoCardSaid : Prop := Claim7.holds Tryz.pinned (.plain (OpenSpec.upto tripleClaimsSpec)) tripleClaimsUptoCard

/-- THE SECOND FORM's CARD OF 'tesseralaw04.TripleBack'. -/
def tripleBackUptoCard : Claim7 := { stood := { row := tripleBackUptoRow, standIns := [], harness := (true, "58364912f57f87adc3b4fb5eaf7280ee1730c4f3f00607b66fa557e37f16d734"), looks := true }, kinds := [], alts := [], laidByText := true, laidKinds := [.data, .data, .data, .data, .sentinel, .sentinel, .pinned], laidTests := true, laidLooks := .later }
def TripleBackUptoCardSaid : Prop := Claim7.holds Tryz.pinned (.plain (OpenSpec.upto tripleBackSpec)) tripleBackUptoCard
end Rows
end Go.Proofs.YtgghcfmpfneehaaGreatDoor
