/-
  DERIVED. GIVEN WITH THE SEED: THE CARDS: each row of YtoilnommhkmioaaDoorRows.lean that lists a variable, with what it lists TIED to the program's text (the seventh form; the later family's looks); each row that meets fmt, with fmt's text TOLD by the authors' own Lean function (tested against real Go, not proved from fmt's source: count such statements apart). THE CARD IS WHAT COUNTS. Prove the row's statement (the work); the ties are given (YtoilnommhkmioaaDoorTie.lean); close each card by the builder's one call (the guide's Derived/Test/ToyasCard.lean, 'card_holds'). Laid BY PROGRAM, IN A SANDBOX (cutbox-door.mjs). By AI agents, Wed Nov 11 2026. No macro, syntax, notation, axiom, sorry.
-/
import Derived.Test.YtoilnommhkmioaaDoorRows
import GoSem.ClaimSeven
namespace Go.Proofs.YtoilnommhkmioaaDoor
namespace Rows

/-- THE TIED CARD OF 'witnesslaw7.NodeSorts'. -/
def nodeSortsCard : Claim7 := { stood := { row := nodeSortsRow, standIns := [], harness := (true, "e0d7fcd91ead3d5dbfec08e6425b2726b925e9dc844450f09956d94bde415501"), looks := false }, kinds := [], alts := [], laidByText := true, laidKinds := [.data], laidTests := true, laidLooks := .later }
def NodeSortsCardSaid : Prop := Claim7.holds Tryd.pinned (.plain (OpenSpec.ofChange nodeSortsSpec)) nodeSortsCard

/-- THE TIED CARD OF 'witnesslaw7.NodeTexts'. -/
def nodeTextsCard : Claim7 := { stood := { row := nodeTextsRow, standIns := [], harness := (true, "e0d7fcd91ead3d5dbfec08e6425b2726b925e9dc844450f09956d94bde415501"), looks := false }, kinds := [], alts := [], laidByText := true, laidKinds := [.data], laidTests := true, laidLooks := .later }
def NodeTextsCardSaid : Prop := Claim7.holds Tryd.pinned (.plain (OpenSpec.ofChange nodeTextsSpec)) nodeTextsCard

/-- THE SECOND FORM's CARD OF 'witnesslaw7.NodeSorts'. -/
def nodeSortsUptoCard : Claim7 := { stood := { row := nodeSortsUptoRow, standIns := [], harness := (true, "e0d7fcd91ead3d5dbfec08e6425b2726b925e9dc844450f09956d94bde415501"), looks := false }, kinds := [], alts := [], laidByText := true, laidKinds := [.data], laidTests := true, laidLooks := .later }
def NodeSortsUptoCardSaid : Prop := Claim7.holds Tryd.pinned (.plain (OpenSpec.upto nodeSortsSpec)) nodeSortsUptoCard

/-- THE SECOND FORM's CARD OF 'witnesslaw7.NodeTexts'. -/
def nodeTextsUptoCard : Claim7 := { stood := { row := nodeTextsUptoRow, standIns := [], harness := (true, "e0d7fcd91ead3d5dbfec08e6425b2726b925e9dc844450f09956d94bde415501"), looks := false }, kinds := [], alts := [], laidByText := true, laidKinds := [.data], laidTests := true, laidLooks := .later }
def NodeTextsUptoCardSaid : Prop := Claim7.holds Tryd.pinned (.plain (OpenSpec.upto nodeTextsSpec)) nodeTextsUptoCard
end Rows
end Go.Proofs.YtoilnommhkmioaaDoor
