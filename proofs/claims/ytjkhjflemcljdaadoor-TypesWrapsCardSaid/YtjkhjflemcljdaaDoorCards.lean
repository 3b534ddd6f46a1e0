/-
  DERIVED. GIVEN WITH THE SEED: THE CARDS: each row of YtjkhjflemcljdaaDoorRows.lean that lists a variable, with what it lists TIED to the program's text (the seventh form; the later family's looks); each row that meets fmt, with fmt's text TOLD by the authors' own Lean function (tested against real Go, not proved from fmt's source: count such statements apart). THE CARD IS WHAT COUNTS. Prove the row's statement (the work); the ties are given (YtjkhjflemcljdaaDoorTie.lean); close each card by the builder's one call (the guide's Derived/Test/ToyasCard.lean, 'card_holds'). Laid BY PROGRAM, IN A SANDBOX (cutbox-door.mjs). By AI agents, Wed Nov 11 2026. No macro, syntax, notation, axiom, sorry.
-/
import Derived.Test.YtjkhjflemcljdaaDoorRows
import GoSem.ClaimSeven
namespace Go.Proofs.YtjkhjflemcljdaaDoor
namespace Rows

/-- THE TIED CARD OF 'demoticlaw01.TypesWraps'. -/
def typesWrapsCard : Claim7 := { stood := { row := typesWrapsRow, standIns := [], harness := (true, "a6d0d51f1c641b51a7cc96745fc95928964c0503771a7be16a5da0684d46daa6"), looks := true }, kinds := [], alts := [], laidByText := true, laidKinds := [.data, .data, .data, .data, .sentinel, .sentinel, .pinned], laidTests := true, laidLooks := .later }
def TypesWrapsCardSaid : Prop := Claim7.holds Tryd.pinned (.plain (OpenSpec.ofChange typesWrapsSpec)) typesWrapsCard

/-- THE SECOND FORM's CARD OF 'demoticlaw01.TypesWraps'. -/
def typesWrapsUptoCard : Claim7 := { stood := { row := typesWrapsUptoRow, standIns := [], harness := (true, "a6d0d51f1c641b51a7cc96745fc95928964c0503771a7be16a5da0684d46daa6"), looks := true }, kinds := [], alts := [], laidByText := true, laidKinds := [.data, .data, .data, .data, .sentinel, .sentinel, .pinned], laidTests := true, laidLooks := .later }
def TypesWrapsUptoCardSaid : Prop := Claim7.holds Tryd.pinned (.plain (OpenSpec.upto typesWrapsSpec)) typesWrapsUptoCard
end Rows
end Go.Proofs.YtjkhjflemcljdaaDoor
