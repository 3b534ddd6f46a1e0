/-
  DERIVED. GIVEN WITH THE SEED: THE CARDS: each row of YtgimdkgjfenafaaGreatDoorRows.lean that lists a variable, with what it lists TIED to the program's text (the seventh form; the later family's looks); each row that meets fmt, with fmt's text TOLD by the authors' own Lean function (tested against real Go, not proved from fmt's source: count such statements apart). THE CARD IS WHAT COUNTS. Prove the row's statement (the work); the ties are given (YtgimdkgjfenafaaGreatDoorTie.lean); close each card by the builder's one call (the guide's Derived/Test/ToyasCard.lean, 'card_holds'). Laid BY PROGRAM, IN A SANDBOX (cutbox-door.mjs). By AI agents, Wed Nov 11 2026. No macro, syntax, notation, axiom, sorry.
-/
import Derived.Test.YtgimdkgjfenafaaGreatDoorRows
import GoSem.ClaimSeven
namespace Go.Proofs.YtgimdkgjfenafaaGreatDoor
namespace Rows

/-- THE TIED CARD OF 'demoticlaw05.DialectChecks'. -/
def dialectChecksCard : Claim7 := { stood := { row := dialectChecksRow, standIns := [], harness := (true, "951c2711b5bb923eb89dc9bb80833e7564326100211928a4a9657d3e9175a04f"), looks := true }, kinds := [], alts := [], laidByText := true, laidKinds := [.data, .data, .data, .data, .sentinel, .sentinel, .pinned], laidTests := true, laidLooks := .later }
def DialectChecksCardSaid : Prop := Claim7.holds Tryz.pinned (.plain (OpenSpec.ofChange dialectChecksSpec)) dialectChecksCard

/-- THE TIED CARD OF 'demoticlaw05.DialectFinds'. -/
def dialectFindsCard : Claim7 := { stood := { row := dialectFindsRow, standIns := [], harness := (true, "951c2711b5bb923eb89dc9bb80833e7564326100211928a4a9657d3e9175a04f"), looks := true }, kinds := [], alts := [], laidByText := true, laidKinds := [.data, .data, .data, .data, .sentinel, .sentinel, .pinned], laidTests := true, laidLooks := .later }
def DialectFindsCardSaid : Prop := Claim7.holds Tryz.pinned (.plain (OpenSpec.ofChange dialectFindsSpec)) dialectFindsCard

/-- THE TIED CARD OF 'demoticlaw05.DialectMatches'. -/
def dialectMatchesCard : Claim7 := { stood := { row := dialectMatchesRow, standIns := [], harness := (true, "951c2711b5bb923eb89dc9bb80833e7564326100211928a4a9657d3e9175a04f"), looks := true }, kinds := [], alts := [], laidByText := true, laidKinds := [.data, .data, .data, .data, .sentinel, .sentinel, .pinned], laidTests := true, laidLooks := .later }
def DialectMatchesCardSaid : Prop := Claim7.holds Tryz.pinned (.plain (OpenSpec.ofChange dialectMatchesSpec)) dialectMatchesCard

/-- THE TIED CARD OF 'demoticlaw05.DialectInfers'. -/
def dialectInfersCard : Claim7 := { stood := { row := dialectInfersRow, standIns := [], harness := (true, "951c2711b5bb923eb89dc9bb80833e7564326100211928a4a9657d3e9175a04f"), looks := true }, kinds := [], alts := [], laidByText := true, laidKinds := [.data, .data, .data, .data, .sentinel, .sentinel, .pinned], laidTests := true, laidLooks := .later }
def DialectInfersCardSaid : Prop := Claim7.holds Tryz.pinned (.plain (OpenSpec.ofChange dialectInfersSpec)) dialectInfersCard

/-- THE TIED CARD OF 'demoticlaw05.DialectFits'. -/
def dialectFitsCard : Claim7 := { stood := { row := dialectFitsRow, standIns := [], harness := (true, "951c2711b5bb923eb89dc9bb80833e7564326100211928a4a9657d3e9175a04f"), looks := true }, kinds := [], alts := [], laidByText := true, laidKinds := [.data, .data, .data, .data, .sentinel, .sentinel, .pinned], laidTests := true, laidLooks := .later }
def DialectFitsCardSaid : Prop := Claim7.holds Tryz.pinned (.plain (OpenSpec.ofChange dialectFitsSpec)) dialectFitsCard

/-- THE TIED CARD OF 'demoticlaw05.DialectHas'. -/
def dialectHasCard : Claim7 := { stood := { row := dialectHasRow, standIns := [], harness := (true, "951c2711b5bb923eb89dc9bb80833e7564326100211928a4a9657d3e9175a04f"), looks := true }, kinds := [], alts := [], laidByText := true, laidKinds := [.data, .data, .data, .data, .sentinel, .sentinel, .pinned], laidTests := true, laidLooks := .later }
def DialectHasCardSaid : Prop := Claim7.holds Tryz.pinned (.plain (OpenSpec.ofChange dialectHasSpec)) dialectHasCard

/-- THE TIED CARD OF 'demoticlaw05.DialectEffects'. -/
def dialectEffectsCard : Claim7 := { stood := { row := dialectEffectsRow, standIns := [], harness := (true, "951c2711b5bb923eb89dc9bb80833e7564326100211928a4a9657d3e9175a04f"), looks := true }, kinds := [], alts := [], laidByText := true, laidKinds := [.data, .data, .data, .data, .sentinel, .sentinel, .pinned], laidTests := true, laidLooks := .later }
def DialectEffectsCardSaid : Prop := Claim7.holds Tryz.pinned (.plain (OpenSpec.ofChange dialectEffectsSpec)) dialectEffectsCard

/-- THE TIED CARD OF 'demoticlaw05.DialectTyped'. -/
def dialectTypedCard : Claim7 := { stood := { row := dialectTypedRow, standIns := [], harness := (true, "951c2711b5bb923eb89dc9bb80833e7564326100211928a4a9657d3e9175a04f"), looks := true }, kinds := [], alts := [], laidByText := true, laidKinds := [.data, .data, .data, .data, .sentinel, .sentinel, .pinned], laidTests := true, laidLooks := .later }
def DialectTypedCardSaid : Prop := Claim7.holds Tryz.pinned (.plain (OpenSpec.ofChange dialectTypedSpec)) dialectTypedCard

/-- THE TIED CARD OF 'demoticlaw05.DialectInner'. -/
def dialectInnerCard : Claim7 := { stood := { row := dialectInnerRow, standIns := [], harness := (true, "951c2711b5bb923eb89dc9bb80833e7564326100211928a4a9657d3e9175a04f"), looks := true }, kinds := [], alts := [], laidByText := true, laidKinds := [.data, .data, .data, .data, .sentinel, .sentinel, .pinned], laidTests := true, laidLooks := .later }
def DialectInnerCardSaid : Prop := Claim7.holds Tryz.pinned (.plain (OpenSpec.ofChange dialectInnerSpec)) dialectInnerCard

/-- THE SECOND FORM's CARD OF 'demoticlaw05.DialectChecks'. -/
def dialectChecksUptoCard : Claim7 := { stood := { row := dialectChecksUptoRow, standIns := [], harness := (true, "951c2711b5bb923eb89dc9bb80833e7564326100211928a4a9657d3e9175a04f"), looks := true }, kinds := [], alts := [], laidByText := true, laidKinds := [.data, .data, .data, .data, .sentinel, .sentinel, .pinned], laidTests := true, laidLooks := .later }
def DialectChecksUptoCardSaid : Prop := Claim7.holds Tryz.pinned (.plain (OpenSpec.upto dialectChecksSpec)) dialectChecksUptoCard

/-- THE SECOND FORM's CARD OF 'demoticlaw05.DialectFinds'. -/
def dialectFindsUptoCard : Claim7 := { stood := { row := dialectFindsUptoRow, standIns := [], harness := (true, "951c2711b5bb923eb89dc9bb80833e7564326100211928a4a9657d3e9175a04f"), looks := true }, kinds := [], alts := [], laidByText := true, laidKinds := [.data, .data, .data, .data, .sentinel, .sentinel, .pinned], laidTests := true, laidLooks := .later }
def DialectFindsUptoCardSaid : Prop := Claim7.holds Tryz.pinned (.plain (OpenSpec.upto dialectFindsSpec)) dialectFindsUptoCard

/-- THE SECOND FORM's CARD OF 'demoticlaw05.DialectMatches'. -/
def dialectMatchesUptoCard : Claim7 := { stood := { row := dialectMatchesUptoRow, standIns := [], harness := (true, "951c2711b5bb923eb89dc9bb80833e7564326100211928a4a9657d3e9175a04f"), looks := true }, kinds := [], alts := [], laidByText := true, laidKinds := [.data, .data, .data, .data, .sentinel, .sentinel, .pinned], laidTests := true, laidLooks := .later }
def DialectMatchesUptoCardSaid : Prop := Claim7.holds Tryz.pinned (.plain (OpenSpec.upto dialectMatchesSpec)) dialectMatchesUptoCard

/-- THE SECOND FORM's CARD OF 'demoticlaw05.DialectInfers'. -/
def dialectInfersUptoCard : Claim7 := { stood := { row := dialectInfersUptoRow, standIns := [], harness := (true, "951c2711b5bb923eb89dc9bb80833e7564326100211928a4a9657d3e9175a04f"), looks := true }, kinds := [], alts := [], laidByText := true, laidKinds := [.data, .data, .data, .data, .sentinel, .sentinel, .pinned], laidTests := true, laidLooks := .later }
def DialectInfersUptoCardSaid : Prop := Claim7.holds Tryz.pinned (.plain (OpenSpec.upto dialectInfersSpec)) dialectInfersUptoCard

/-- THE SECOND FORM's CARD OF 'demoticlaw05.DialectFits'. -/
def dialectFitsUptoCard : Claim7 := { stood := { row := dialectFitsUptoRow, standIns := [], harness := (true, "951c2711b5bb923eb89dc9bb80833e7564326100211928a4a9657d3e9175a04f"), looks := true }, kinds := [], alts := [], laidByText := true, laidKinds := [.data, .data, .data, .data, .sentinel, .sentinel, .pinned], laidTests := true, laidLooks := .later }
def DialectFitsUptoCardSaid : Prop := Claim7.holds Tryz.pinned (.plain (OpenSpec.upto dialectFitsSpec)) dialectFitsUptoCard

/-- THE SECOND FORM's CARD OF 'demoticlaw05.DialectHas'. -/
def dialectHasUptoCard : Claim7 := { stood := { row := dialectHasUptoRow, standIns := [], harness := (true, "951c2711b5bb923eb89dc9bb80833e7564326100211928a4a9657d3e9175a04f"), looks := true }, kinds := [], alts := [], laidByText := true, laidKinds := [.data, .data, .data, .data, .sentinel, .sentinel, .pinned], laidTests := true, laidLooks := .later }
def DialectHasUptoCardSaid : Prop := Claim7.holds Tryz.pinned (.plain (OpenSpec.upto dialectHasSpec)) dialectHasUptoCard

/-- THE SECOND FORM's CARD OF 'demoticlaw05.DialectEffects'. -/
def dialectEffectsUptoCard : Claim7 := { stood := { row := dialectEffectsUptoRow, standIns := [], harness := (true, "951c2711b5bb923eb89dc9bb80833e7564326100211928a4a9657d3e9175a04f"), looks := true }, kinds := [], alts := [], laidByText := true, laidKinds := [.data, .data, .data, .data, .sentinel, .sentinel, .pinned], laidTests := true, laidLooks := .later }
def DialectEffectsUptoCardSaid : Prop := Claim7.holds Tryz.pinned (.plain (OpenSpec.upto dialectEffectsSpec)) dialectEffectsUptoCard

/-- THE SECOND FORM's CARD OF 'demoticlaw05.DialectTyped'. -/
def dialectTypedUptoCard : Claim7 := { stood := { row := dialectTypedUptoRow, standIns := [], harness := (true, "951c2711b5bb923eb89dc9bb80833e7564326100211928a4a9657d3e9175a04f"), looks := true }, kinds := [], alts := [], laidByText := true, laidKinds := [.data, .data, .data, .data, .sentinel, .sentinel, .pinned], laidTests := true, laidLooks := .later }
def DialectTypedUptoCardSaid : Prop := Claim7.holds Tryz.pinned (.plain (OpenSpec.upto dialectTypedSpec)) dialectTypedUptoCard

/-- THE SECOND FORM's CARD OF 'demoticlaw05.DialectInner'. -/
def dialectInnerUptoCard : Claim7 := { stood := { row := dialectInnerUptoRow, standIns := [], harness := (true, "951c2711b5bb923eb89dc9bb80833e7564326100211928a4a9657d3e9175a04f"), looks := true }, kinds := [], alts := [], laidByText := true, laidKinds := [.data, .data, .data, .data, .sentinel, .sentinel, .pinned], laidTests := true, laidLooks := .later }
def DialectInnerUptoCardSaid : Prop := Claim7.holds Tryz.pinned (.plain (OpenSpec.upto dialectInnerSpec)) dialectInnerUptoCard
end Rows
end Go.Proofs.YtgimdkgjfenafaaGreatDoor
