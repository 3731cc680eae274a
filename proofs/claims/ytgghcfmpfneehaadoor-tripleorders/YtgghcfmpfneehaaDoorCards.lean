/-
  DERIVED. GIVEN WITH THE SEED: THE CARDS: each row of YtgghcfmpfneehaaDoorRows.lean that lists a variable, with what it lists TIED to the program's text (the seventh form; the later family's looks); each row that meets fmt, with fmt's text TOLD by the authors' own Lean function (tested against real Go, not proved from fmt's source: count such statements apart). THE CARD IS WHAT COUNTS. Prove the row's statement (the work); the ties are given (YtgghcfmpfneehaaDoorTie.lean); close each card by the builder's one call (the guide's Derived/Test/ToyasCard.lean, 'card_holds'). Laid BY PROGRAM, IN A SANDBOX (cutbox-door.mjs). By AI agents, Wed Nov 11 2026. No macro, syntax, notation, axiom, sorry.
-/
import Derived.Test.YtgghcfmpfneehaaDoorRows
import GoSem.ClaimSeven
namespace Go.Proofs.YtgghcfmpfneehaaDoor
namespace Rows

/-- THE TIED CARD OF 'tesseralaw04.TripleForms'. -/
def tripleFormsCard : Claim7 := { stood := { row := tripleFormsRow, standIns := [], harness := (true, "b898c05f6cfc5cb288b6301b960eeea34fc45522b7ea732dc429d892f0c21cc7"), looks := false }, kinds := [], alts := [], laidByText := true, laidKinds := [.data, .data, .data], laidTests := true, laidLooks := .later }
def TripleFormsCardSaid : Prop := Claim7.holds Tryd.pinned (.plain (OpenSpec.ofChange tripleFormsSpec)) tripleFormsCard

/-- THE TIED CARD OF 'tesseralaw04.TripleOrders'. -/
def tripleOrdersCard : Claim7 := { stood := { row := tripleOrdersRow, standIns := [], harness := (true, "b898c05f6cfc5cb288b6301b960eeea34fc45522b7ea732dc429d892f0c21cc7"), looks := false }, kinds := [], alts := [], laidByText := true, laidKinds := [.data, .data, .data], laidTests := true, laidLooks := .later }
def TripleOrdersCardSaid : Prop := Claim7.holds Tryd.pinned (.plain (OpenSpec.ofChange tripleOrdersSpec)) tripleOrdersCard

/-- THE TIED CARD OF 'tesseralaw04.TripleSchemas'. -/
def tripleSchemasCard : Claim7 := { stood := { row := tripleSchemasRow, standIns := [], harness := (true, "b898c05f6cfc5cb288b6301b960eeea34fc45522b7ea732dc429d892f0c21cc7"), looks := false }, kinds := [], alts := [], laidByText := true, laidKinds := [.data, .data, .data], laidTests := true, laidLooks := .later }
def TripleSchemasCardSaid : Prop := Claim7.holds Tryd.pinned (.plain (OpenSpec.ofChange tripleSchemasSpec)) tripleSchemasCard

/-- THE SECOND FORM's CARD OF 'tesseralaw04.TripleForms'. -/
def tripleFormsUptoCard : Claim7 := { stood := { row := tripleFormsUptoRow, standIns := [], harness := (true, "b898c05f6cfc5cb288b6301b960eeea34fc45522b7ea732dc429d892f0c21cc7"), looks := false }, kinds := [], alts := [], laidByText := true, laidKinds := [.data, .data, .data], laidTests := true, laidLooks := .later }
def TripleFormsUptoCardSaid : Prop := Claim7.holds Tryd.pinned (.plain (OpenSpec.upto tripleFormsSpec)) tripleFormsUptoCard

/-- THE SECOND FORM's CARD OF 'tesseralaw04.TripleOrders'. -/
def tripleOrdersUptoCard : Claim7 := { stood := { row := tripleOrdersUptoRow, standIns := [], harness := (true, "b898c05f6cfc5cb288b6301b960eeea34fc45522b7ea732dc429d892f0c21cc7"), looks := false }, kinds := [], alts := [], laidByText := true, laidKinds := [.data, .data, .data], laidTests := true, laidLooks := .later }
def TripleOrdersUptoCardSaid : Prop := Claim7.holds Tryd.pinned (.plain (OpenSpec.upto tripleOrdersSpec)) tripleOrdersUptoCard

/-- THE SECOND FORM's CARD OF 'tesseralaw04.TripleSchemas'. -/
def tripleSchemasUptoCard : Claim7 := { stood := { row := tripleSchemasUptoRow, standIns := [], harness := (true, "b898c05f6cfc5cb288b6301b960eeea34fc45522b7ea732dc429d892f0c21cc7"), looks := false }, kinds := [], alts := [], laidByText := true, laidKinds := [.data, .data, .data], laidTests := true, laidLooks := .later }
def TripleSchemasUptoCardSaid : Prop := Claim7.holds Tryd.pinned (.plain (OpenSpec.upto tripleSchemasSpec)) tripleSchemasUptoCard
end Rows
end Go.Proofs.YtgghcfmpfneehaaDoor
