/-
  DERIVED. GIVEN WITH THE SEED: THE CARDS: each row of YticpenbebokjdaaDoorRows.lean that lists a variable, with what it lists TIED to the program's text (the seventh form; the later family's looks); each row that meets fmt, with fmt's text TOLD by the authors' own Lean function (tested against real Go, not proved from fmt's source: count such statements apart). THE CARD IS WHAT COUNTS. Prove the row's statement (the work); the ties are given (YticpenbebokjdaaDoorTie.lean); close each card by the builder's one call (the guide's Derived/Test/ToyasCard.lean, 'card_holds'). Laid BY PROGRAM, IN A SANDBOX (cutbox-door.mjs). By AI agents, Wed Nov 11 2026. No macro, syntax, notation, axiom, sorry.
-/
import Derived.Test.YticpenbebokjdaaDoorRows
import GoSem.ClaimSeven
namespace Go.Proofs.YticpenbebokjdaaDoor
namespace Rows

/-- THE TIED CARD OF 'counterfoillaw10.NodeKnown'. -/
def nodeKnownCard : Claim7 := { stood := { row := nodeKnownRow, standIns := [], harness := (true, "b25d4c9f092a284ba9455636db1c6186351f325ea651ad5a9c6d9ebf45b8b516"), looks := false }, kinds := [], alts := [], laidByText := true, laidKinds := [.data, .pinned], laidTests := true, laidLooks := .later }
def NodeKnownCardSaid : Prop := Claim7.holds Tryd.pinned (.plain (OpenSpec.ofChange nodeKnownSpec)) nodeKnownCard

/-- THE TIED CARD OF 'counterfoillaw10.NodePuts'. -/
def nodePutsCard : Claim7 := { stood := { row := nodePutsRow, standIns := [], harness := (true, "b25d4c9f092a284ba9455636db1c6186351f325ea651ad5a9c6d9ebf45b8b516"), looks := false }, kinds := [], alts := [], laidByText := true, laidKinds := [.data, .pinned], laidTests := true, laidLooks := .later }
def NodePutsCardSaid : Prop := Claim7.holds Tryd.pinned (.plain (OpenSpec.ofChange nodePutsSpec)) nodePutsCard

/-- THE TIED CARD OF 'counterfoillaw10.NodeTakes'. -/
def nodeTakesCard : Claim7 := { stood := { row := nodeTakesRow, standIns := [], harness := (true, "b25d4c9f092a284ba9455636db1c6186351f325ea651ad5a9c6d9ebf45b8b516"), looks := false }, kinds := [], alts := [], laidByText := true, laidKinds := [.data, .pinned], laidTests := true, laidLooks := .later }
def NodeTakesCardSaid : Prop := Claim7.holds Tryd.pinned (.plain (OpenSpec.ofChange nodeTakesSpec)) nodeTakesCard

/-- THE TIED CARD OF 'counterfoillaw10.NodeBack'. -/
def nodeBackCard : Claim7 := { stood := { row := nodeBackRow, standIns := [], harness := (true, "b25d4c9f092a284ba9455636db1c6186351f325ea651ad5a9c6d9ebf45b8b516"), looks := false }, kinds := [], alts := [], laidByText := true, laidKinds := [.data, .pinned], laidTests := true, laidLooks := .later }
def NodeBackCardSaid : Prop := Claim7.holds Tryd.pinned (.plain (OpenSpec.ofChange nodeBackSpec)) nodeBackCard

/-- THE TIED CARD OF 'counterfoillaw10.NodeRoom'. -/
def nodeRoomCard : Claim7 := { stood := { row := nodeRoomRow, standIns := [], harness := (true, "b25d4c9f092a284ba9455636db1c6186351f325ea651ad5a9c6d9ebf45b8b516"), looks := false }, kinds := [], alts := [], laidByText := true, laidKinds := [.data, .pinned], laidTests := true, laidLooks := .later }
def NodeRoomCardSaid : Prop := Claim7.holds Tryd.pinned (.plain (OpenSpec.ofChange nodeRoomSpec)) nodeRoomCard

/-- THE TIED CARD OF 'counterfoillaw10.NodeSizes'. -/
def nodeSizesCard : Claim7 := { stood := { row := nodeSizesRow, standIns := [], harness := (true, "b25d4c9f092a284ba9455636db1c6186351f325ea651ad5a9c6d9ebf45b8b516"), looks := false }, kinds := [], alts := [], laidByText := true, laidKinds := [.data, .pinned], laidTests := true, laidLooks := .later }
def NodeSizesCardSaid : Prop := Claim7.holds Tryd.pinned (.plain (OpenSpec.ofChange nodeSizesSpec)) nodeSizesCard

/-- THE SECOND FORM's CARD OF 'counterfoillaw10.NodeKnown'. -/
def nodeKnownUptoCard : Claim7 := { stood := { row := nodeKnownUptoRow, standIns := [], harness := (true, "b25d4c9f092a284ba9455636db1c6186351f325ea651ad5a9c6d9ebf45b8b516"), looks := false }, kinds := [], alts := [], laidByText := true, laidKinds := [.data, .pinned], laidTests := true, laidLooks := .later }
def NodeKnownUptoCardSaid : Prop := Claim7.holds Tryd.pinned (.plain (OpenSpec.upto nodeKnownSpec)) nodeKnownUptoCard

/-- THE SECOND FORM's CARD OF 'counterfoillaw10.NodePuts'. -/
def nodePutsUptoCard : Claim7 := { stood := { row := nodePutsUptoRow, standIns := [], harness := (true, "b25d4c9f092a284ba9455636db1c6186351f325ea651ad5a9c6d9ebf45b8b516"), looks := false }, kinds := [], alts := [], laidByText := true, laidKinds := [.data, .pinned], laidTests := true, laidLooks := .later }
def NodePutsUptoCardSaid : Prop := Claim7.holds Tryd.pinned (.plain (OpenSpec.upto nodePutsSpec)) nodePutsUptoCard

/-- THE SECOND FORM's CARD OF 'counterfoillaw10.NodeTakes'. -/
def nodeTakesUptoCard : Claim7 := { stood := { row := nodeTakesUptoRow, standIns := [], harness := (true, "b25d4c9f092a284ba9455636db1c6186351f325ea651ad5a9c6d9ebf45b8b516"), looks := false }, kinds := [], alts := [], laidByText := true, laidKinds := [.data, .pinned], laidTests := true, laidLooks := .later }
def NodeTakesUptoCardSaid : Prop := Claim7.holds Tryd.pinned (.plain (OpenSpec.upto nodeTakesSpec)) nodeTakesUptoCard

/-- THE SECOND FORM's CARD OF 'counterfoillaw10.NodeBack'. -/
def nodeBackUptoCard : Claim7 := { stood := { row := nodeBackUptoRow, standIns := [], harness := (true, "b25d4c9f092a284ba9455636db1c6186351f325ea651ad5a9c6d9ebf45b8b516"), looks := false }, kinds := [], alts := [], laidByText := true, laidKinds := [.data, .pinned], laidTests := true, laidLooks := .later }
def NodeBackUptoCardSaid : Prop := Claim7.holds Tryd.pinned (.plain (OpenSpec.upto nodeBackSpec)) nodeBackUptoCard

/-- THE SECOND FORM's CARD OF 'counterfoillaw10.NodeRoom'. -/
def nodeRoomUptoCard : Claim7 := { stood := { row := nodeRoomUptoRow, standIns := [], harness := (true, "b25d4c9f092a284ba9455636db1c6186351f325ea651ad5a9c6d9ebf45b8b516"), looks := false }, kinds := [], alts := [], laidByText := true, laidKinds := [.data, .pinned], laidTests := true, laidLooks := .later }
def NodeRoomUptoCardSaid : Prop := Claim7.holds Tryd.pinned (.plain (OpenSpec.upto nodeRoomSpec)) nodeRoomUptoCard

/-- THE SECOND FORM's CARD OF 'counterfoillaw10.NodeSizes'. -/
def nodeSizesUptoCard : Claim7 := { stood := { row := nodeSizesUptoRow, standIns := [], harness := (true, "b25d4c9f092a284ba9455636db1c6186351f325ea651ad5a9c6d9ebf45b8b516"), looks := false }, kinds := [], alts := [], laidByText := true, laidKinds := [.data, .pinned], laidTests := true, laidLooks := .later }
def NodeSizesUptoCardSaid : Prop := Claim7.holds Tryd.pinned (.plain (OpenSpec.upto nodeSizesSpec)) nodeSizesUptoCard
end Rows
end Go.Proofs.YticpenbebokjdaaDoor
