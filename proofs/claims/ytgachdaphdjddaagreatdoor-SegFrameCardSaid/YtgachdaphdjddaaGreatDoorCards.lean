/-
  DERIVED. GIVEN WITH THE SEED: THE CARDS: each row of YtgachdaphdjddaaGreatDoorRows.lean that lists a variable, with what it lists TIED to the program's text (the seventh form; the later family's looks); each row that meets fmt, with fmt's text TOLD by the authors' own Lean function (tested against real Go, not proved from fmt's source: count such statements apart). THE CARD IS WHAT COUNTS. Prove the row's statement (the work); the ties are given (YtgachdaphdjddaaGreatDoorTie.lean); close each card by the builder's one call (the guide's Derived/Test/ToyasCard.lean, 'card_holds'). Laid BY PROGRAM, IN A SANDBOX (cutbox-door.mjs). By AI agents, Wed Nov 11 2026. No macro, syntax, notation, axiom, sorry.
-/
import Derived.Test.YtgachdaphdjddaaGreatDoorRows
import GoSem.ClaimSeven
namespace Go.Proofs.YtgachdaphdjddaaGreatDoor
namespace Rows

/-- THE TIED CARD OF 'postillionlaw4.SegFrame'. -/
def segFrameCard : Claim7 := { stood := { row := segFrameRow, standIns := [], harness := (true, "5ae108203463d50cab96f23aa860794ac370102ef318b6be231e9fbb63834992"), looks := false }, kinds := [], alts := [], laidByText := true, laidKinds := [.data, .data, .data], laidTests := true, laidLooks := .later }
def SegFrameCardSaid : Prop := Claim7.holds Tryz.pinned (.plain (OpenSpec.ofChange segFrameSpec)) segFrameCard

/-- THE TIED CARD OF 'postillionlaw4.SegLong'. -/
def segLongCard : Claim7 := { stood := { row := segLongRow, standIns := [], harness := (true, "5ae108203463d50cab96f23aa860794ac370102ef318b6be231e9fbb63834992"), looks := false }, kinds := [], alts := [], laidByText := true, laidKinds := [.data, .data, .data], laidTests := true, laidLooks := .later }
def SegLongCardSaid : Prop := Claim7.holds Tryz.pinned (.plain (OpenSpec.ofChange segLongSpec)) segLongCard

/-- THE TIED CARD OF 'postillionlaw4.SegFrom'. -/
def segFromCard : Claim7 := { stood := { row := segFromRow, standIns := [], harness := (true, "5ae108203463d50cab96f23aa860794ac370102ef318b6be231e9fbb63834992"), looks := false }, kinds := [], alts := [], laidByText := true, laidKinds := [.data, .data, .data], laidTests := true, laidLooks := .later }
def SegFromCardSaid : Prop := Claim7.holds Tryz.pinned (.plain (OpenSpec.ofChange segFromSpec)) segFromCard

/-- THE TIED CARD OF 'postillionlaw4.SegSpoilt'. -/
def segSpoiltCard : Claim7 := { stood := { row := segSpoiltRow, standIns := [], harness := (true, "5ae108203463d50cab96f23aa860794ac370102ef318b6be231e9fbb63834992"), looks := false }, kinds := [], alts := [], laidByText := true, laidKinds := [.data, .data, .data], laidTests := true, laidLooks := .later }
def SegSpoiltCardSaid : Prop := Claim7.holds Tryz.pinned (.plain (OpenSpec.ofChange segSpoiltSpec)) segSpoiltCard

/-- THE TIED CARD OF 'postillionlaw4.SegTorn'. -/
def segTornCard : Claim7 := { stood := { row := segTornRow, standIns := [], harness := (true, "5ae108203463d50cab96f23aa860794ac370102ef318b6be231e9fbb63834992"), looks := false }, kinds := [], alts := [], laidByText := true, laidKinds := [.data, .data, .data], laidTests := true, laidLooks := .later }
def SegTornCardSaid : Prop := Claim7.holds Tryz.pinned (.plain (OpenSpec.ofChange segTornSpec)) segTornCard

/-- THE TIED CARD OF 'postillionlaw4.SegNone'. -/
def segNoneCard : Claim7 := { stood := { row := segNoneRow, standIns := [], harness := (true, "5ae108203463d50cab96f23aa860794ac370102ef318b6be231e9fbb63834992"), looks := false }, kinds := [], alts := [], laidByText := true, laidKinds := [.data, .data, .data], laidTests := true, laidLooks := .later }
def SegNoneCardSaid : Prop := Claim7.holds Tryz.pinned (.plain (OpenSpec.ofChange segNoneSpec)) segNoneCard

/-- THE TIED CARD OF 'postillionlaw4.SegBytes'. -/
def segBytesCard : Claim7 := { stood := { row := segBytesRow, standIns := [], harness := (true, "5ae108203463d50cab96f23aa860794ac370102ef318b6be231e9fbb63834992"), looks := false }, kinds := [], alts := [], laidByText := true, laidKinds := [.data, .data, .data], laidTests := true, laidLooks := .later }
def SegBytesCardSaid : Prop := Claim7.holds Tryz.pinned (.plain (OpenSpec.ofChange segBytesSpec)) segBytesCard

/-- THE TIED CARD OF 'postillionlaw4.SegTwice'. -/
def segTwiceCard : Claim7 := { stood := { row := segTwiceRow, standIns := [], harness := (true, "5ae108203463d50cab96f23aa860794ac370102ef318b6be231e9fbb63834992"), looks := false }, kinds := [], alts := [], laidByText := true, laidKinds := [.data, .data, .data], laidTests := true, laidLooks := .later }
def SegTwiceCardSaid : Prop := Claim7.holds Tryz.pinned (.plain (OpenSpec.ofChange segTwiceSpec)) segTwiceCard

/-- THE TIED CARD OF 'postillionlaw4.SegMiddle'. -/
def segMiddleCard : Claim7 := { stood := { row := segMiddleRow, standIns := [], harness := (true, "5ae108203463d50cab96f23aa860794ac370102ef318b6be231e9fbb63834992"), looks := false }, kinds := [], alts := [], laidByText := true, laidKinds := [.data, .data, .data], laidTests := true, laidLooks := .later }
def SegMiddleCardSaid : Prop := Claim7.holds Tryz.pinned (.plain (OpenSpec.ofChange segMiddleSpec)) segMiddleCard

/-- THE TIED CARD OF 'postillionlaw4.SegOwn'. -/
def segOwnCard : Claim7 := { stood := { row := segOwnRow, standIns := [], harness := (true, "5ae108203463d50cab96f23aa860794ac370102ef318b6be231e9fbb63834992"), looks := false }, kinds := [], alts := [], laidByText := true, laidKinds := [.data, .data, .data], laidTests := true, laidLooks := .later }
def SegOwnCardSaid : Prop := Claim7.holds Tryz.pinned (.plain (OpenSpec.ofChange segOwnSpec)) segOwnCard

/-- THE SECOND FORM's CARD OF 'postillionlaw4.SegFrame'. -/
def segFrameUptoCard : Claim7 := { stood := { row := segFrameUptoRow, standIns := [], harness := (true, "5ae108203463d50cab96f23aa860794ac370102ef318b6be231e9fbb63834992"), looks := false }, kinds := [], alts := [], laidByText := true, laidKinds := [.data, .data, .data], laidTests := true, laidLooks := .later }
def SegFrameUptoCardSaid : Prop := Claim7.holds Tryz.pinned (.plain (OpenSpec.upto segFrameSpec)) segFrameUptoCard

/-- THE SECOND FORM's CARD OF 'postillionlaw4.SegLong'. -/
def segLongUptoCard : Claim7 := { stood := { row := segLongUptoRow, standIns := [], harness := (true, "5ae108203463d50cab96f23aa860794ac370102ef318b6be231e9fbb63834992"), looks := false }, kinds := [], alts := [], laidByText := true, laidKinds := [.data, .data, .data], laidTests := true, laidLooks := .later }
def SegLongUptoCardSaid : Prop := Claim7.holds Tryz.pinned (.plain (OpenSpec.upto segLongSpec)) segLongUptoCard

/-- THE SECOND FORM's CARD OF 'postillionlaw4.SegFrom'. -/
def segFromUptoCard : Claim7 := { stood := { row := segFromUptoRow, standIns := [], harness := (true, "5ae108203463d50cab96f23aa860794ac370102ef318b6be231e9fbb63834992"), looks := false }, kinds := [], alts := [], laidByText := true, laidKinds := [.data, .data, .data], laidTests := true, laidLooks := .later }
def SegFromUptoCardSaid : Prop := Claim7.holds Tryz.pinned (.plain (OpenSpec.upto segFromSpec)) segFromUptoCard

/-- THE SECOND FORM's CARD OF 'postillionlaw4.SegSpoilt'. -/
def segSpoiltUptoCard : Claim7 := { stood := { row := segSpoiltUptoRow, standIns := [], harness := (true, "5ae108203463d50cab96f23aa860794ac370102ef318b6be231e9fbb63834992"), looks := false }, kinds := [], alts := [], laidByText := true, laidKinds := [.data, .data, .data], laidTests := true, laidLooks := .later }
def SegSpoiltUptoCardSaid : Prop := Claim7.holds Tryz.pinned (.plain (OpenSpec.upto segSpoiltSpec)) segSpoiltUptoCard

/-- THE SECOND FORM's CARD OF 'postillionlaw4.SegTorn'. -/
def segTornUptoCard : Claim7 := { stood := { row := segTornUptoRow, standIns := [], harness := (true, "5ae108203463d50cab96f23aa860794ac370102ef318b6be231e9fbb63834992"), looks := false }, kinds := [], alts := [], laidByText := true, laidKinds := [.data, .data, .data], laidTests := true, laidLooks := .later }
def SegTornUptoCardSaid : Prop := Claim7.holds Tryz.pinned (.plain (OpenSpec.upto segTornSpec)) segTornUptoCard

/-- THE SECOND FORM's CARD OF 'postillionlaw4.SegNone'. -/
def segNoneUptoCard : Claim7 := { stood := { row := segNoneUptoRow, standIns := [], harness := (true, "5ae108203463d50cab96f23aa860794ac370102ef318b6be231e9fbb63834992"), looks := false }, kinds := [], alts := [], laidByText := true, laidKinds := [.data, .data, .data], laidTests := true, laidLooks := .later }
def SegNoneUptoCardSaid : Prop := Claim7.holds Tryz.pinned (.plain (OpenSpec.upto segNoneSpec)) segNoneUptoCard

/-- THE SECOND FORM's CARD OF 'postillionlaw4.SegBytes'. -/
def segBytesUptoCard : Claim7 := { stood := { row := segBytesUptoRow, standIns := [], harness := (true, "5ae108203463d50cab96f23aa860794ac370102ef318b6be231e9fbb63834992"), looks := false }, kinds := [], alts := [], laidByText := true, laidKinds := [.data, .data, .data], laidTests := true, laidLooks := .later }
def SegBytesUptoCardSaid : Prop := Claim7.holds Tryz.pinned (.plain (OpenSpec.upto segBytesSpec)) segBytesUptoCard

/-- THE SECOND FORM's CARD OF 'postillionlaw4.SegTwice'. -/
def segTwiceUptoCard : Claim7 := { stood := { row := segTwiceUptoRow, standIns := [], harness := (true, "5ae108203463d50cab96f23aa860794ac370102ef318b6be231e9fbb63834992"), looks := false }, kinds := [], alts := [], laidByText := true, laidKinds := [.data, .data, .data], laidTests := true, laidLooks := .later }
def SegTwiceUptoCardSaid : Prop := Claim7.holds Tryz.pinned (.plain (OpenSpec.upto segTwiceSpec)) segTwiceUptoCard

/-- THE SECOND FORM's CARD OF 'postillionlaw4.SegMiddle'. -/
def segMiddleUptoCard : Claim7 := { stood := { row := segMiddleUptoRow, standIns := [], harness := (true, "5ae108203463d50cab96f23aa860794ac370102ef318b6be231e9fbb63834992"), looks := false }, kinds := [], alts := [], laidByText := true, laidKinds := [.data, .data, .data], laidTests := true, laidLooks := .later }
def SegMiddleUptoCardSaid : Prop := Claim7.holds Tryz.pinned (.plain (OpenSpec.upto segMiddleSpec)) segMiddleUptoCard

/-- THE SECOND FORM's CARD OF 'postillionlaw4.SegOwn'. -/
def segOwnUptoCard : Claim7 := { stood := { row := segOwnUptoRow, standIns := [], harness := (true, "5ae108203463d50cab96f23aa860794ac370102ef318b6be231e9fbb63834992"), looks := false }, kinds := [], alts := [], laidByText := true, laidKinds := [.data, .data, .data], laidTests := true, laidLooks := .later }
def SegOwnUptoCardSaid : Prop := Claim7.holds Tryz.pinned (.plain (OpenSpec.upto segOwnSpec)) segOwnUptoCard
end Rows
end Go.Proofs.YtgachdaphdjddaaGreatDoor
