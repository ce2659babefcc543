/-
  DERIVED. GIVEN WITH THE SEED: THE CARDS: each row of YtgachdaphdjddaaDoorRows.lean that lists a variable, with what it lists TIED to the program's text (the seventh form; the later family's looks); each row that meets fmt, with fmt's text TOLD by the authors' own Lean function (tested against real Go, not proved from fmt's source: count such statements apart). THE CARD IS WHAT COUNTS. Prove the row's statement (the work); the ties are given (YtgachdaphdjddaaDoorTie.lean); close each card by the builder's one call (the guide's Derived/Test/ToyasCard.lean, 'card_holds'). Laid BY PROGRAM, IN A SANDBOX (cutbox-door.mjs). By AI agents, Wed Nov 11 2026. No macro, syntax, notation, axiom, sorry.
-/
import Derived.Test.YtgachdaphdjddaaDoorRows
import GoSem.ClaimSeven
namespace Go.Proofs.YtgachdaphdjddaaDoor
namespace Rows

/-- THE TIED CARD OF 'postillionlaw4.SegNames'. -/
def segNamesCard : Claim7 := { stood := { row := segNamesRow, standIns := [], harness := (true, "8ebad08e1b7d511f26fcf8b53f0d9c74152c11e1d2c534a2c2d00606c4d8e6b4"), looks := false }, kinds := [], alts := [], laidByText := true, laidKinds := [.data, .data, .data], laidTests := true, laidLooks := .later }
def SegNamesCardSaid : Prop := Claim7.holds Tryd.pinned (.plain (OpenSpec.ofChange segNamesSpec)) segNamesCard

/-- THE TIED CARD OF 'postillionlaw4.SegRolls'. -/
def segRollsCard : Claim7 := { stood := { row := segRollsRow, standIns := [], harness := (true, "8ebad08e1b7d511f26fcf8b53f0d9c74152c11e1d2c534a2c2d00606c4d8e6b4"), looks := false }, kinds := [], alts := [], laidByText := true, laidKinds := [.data, .data, .data], laidTests := true, laidLooks := .later }
def SegRollsCardSaid : Prop := Claim7.holds Tryd.pinned (.plain (OpenSpec.ofChange segRollsSpec)) segRollsCard

/-- THE TIED CARD OF 'postillionlaw4.SegRoom'. -/
def segRoomCard : Claim7 := { stood := { row := segRoomRow, standIns := [], harness := (true, "8ebad08e1b7d511f26fcf8b53f0d9c74152c11e1d2c534a2c2d00606c4d8e6b4"), looks := false }, kinds := [], alts := [], laidByText := true, laidKinds := [.data, .data, .data], laidTests := true, laidLooks := .later }
def SegRoomCardSaid : Prop := Claim7.holds Tryd.pinned (.plain (OpenSpec.ofChange segRoomSpec)) segRoomCard

/-- THE SECOND FORM's CARD OF 'postillionlaw4.SegNames'. -/
def segNamesUptoCard : Claim7 := { stood := { row := segNamesUptoRow, standIns := [], harness := (true, "8ebad08e1b7d511f26fcf8b53f0d9c74152c11e1d2c534a2c2d00606c4d8e6b4"), looks := false }, kinds := [], alts := [], laidByText := true, laidKinds := [.data, .data, .data], laidTests := true, laidLooks := .later }
def SegNamesUptoCardSaid : Prop := Claim7.holds Tryd.pinned (.plain (OpenSpec.upto segNamesSpec)) segNamesUptoCard

/-- THE SECOND FORM's CARD OF 'postillionlaw4.SegRolls'. -/
def segRollsUptoCard : Claim7 := { stood := { row := segRollsUptoRow, standIns := [], harness := (true, "8ebad08e1b7d511f26fcf8b53f0d9c74152c11e1d2c534a2c2d00606c4d8e6b4"), looks := false }, kinds := [], alts := [], laidByText := true, laidKinds := [.data, .data, .data], laidTests := true, laidLooks := .later }
def SegRollsUptoCardSaid : Prop := Claim7.holds Tryd.pinned (.plain (OpenSpec.upto segRollsSpec)) segRollsUptoCard

/-- THE SECOND FORM's CARD OF 'postillionlaw4.SegRoom'. -/
def segRoomUptoCard : Claim7 := { stood := { row := segRoomUptoRow, standIns := [], harness := (true, "8ebad08e1b7d511f26fcf8b53f0d9c74152c11e1d2c534a2c2d00606c4d8e6b4"), looks := false }, kinds := [], alts := [], laidByText := true, laidKinds := [.data, .data, .data], laidTests := true, laidLooks := .later }
def SegRoomUptoCardSaid : Prop := Claim7.holds Tryd.pinned (.plain (OpenSpec.upto segRoomSpec)) segRoomUptoCard
end Rows
end Go.Proofs.YtgachdaphdjddaaDoor
