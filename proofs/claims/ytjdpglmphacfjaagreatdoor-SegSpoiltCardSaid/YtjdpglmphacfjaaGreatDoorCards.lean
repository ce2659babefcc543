/-
  DERIVED. GIVEN WITH THE SEED: THE CARDS: each row of YtjdpglmphacfjaaGreatDoorRows.lean that lists a variable, with what it lists TIED to the program's text (the seventh form; the later family's looks); each row that meets fmt, with fmt's text TOLD by the authors' own Lean function (tested against real Go, not proved from fmt's source: count such statements apart). THE CARD IS WHAT COUNTS. Prove the row's statement (the work); the ties are given (YtjdpglmphacfjaaGreatDoorTie.lean); close each card by the builder's one call (the guide's Derived/Test/ToyasCard.lean, 'card_holds'). Laid BY PROGRAM, IN A SANDBOX (cutbox-door.mjs). By AI agents, Wed Nov 11 2026. No macro, syntax, notation, axiom, sorry.
-/
import Derived.Test.YtjdpglmphacfjaaGreatDoorRows
import GoSem.ClaimSeven
namespace Go.Proofs.YtjdpglmphacfjaaGreatDoor
namespace Rows

/-- THE TIED CARD OF 'postillionlaw4.SegFrom'. -/
def segFromCard : Claim7 := { stood := { row := segFromRow, standIns := [], harness := (true, "8c7073c435edaeee645a9d4baca93abc21b283f917139dd500575179bb4060cd"), looks := false }, kinds := [], alts := [], laidByText := true, laidKinds := [.data, .data, .data], laidTests := true, laidLooks := .later }
def SegFromCardSaid : Prop := Claim7.holds Tryz.pinned (.plain (OpenSpec.ofChange segFromSpec)) segFromCard

/-- THE TIED CARD OF 'postillionlaw4.SegSpoilt'. -/
def segSpoiltCard : Claim7 := { stood := { row := segSpoiltRow, standIns := [], harness := (true, "8c7073c435edaeee645a9d4baca93abc21b283f917139dd500575179bb4060cd"), looks := false }, kinds := [], alts := [], laidByText := true, laidKinds := [.data, .data, .data], laidTests := true, laidLooks := .later }
def SegSpoiltCardSaid : Prop := Claim7.holds Tryz.pinned (.plain (OpenSpec.ofChange segSpoiltSpec)) segSpoiltCard

/-- THE TIED CARD OF 'postillionlaw4.SegTorn'. -/
def segTornCard : Claim7 := { stood := { row := segTornRow, standIns := [], harness := (true, "8c7073c435edaeee645a9d4baca93abc21b283f917139dd500575179bb4060cd"), looks := false }, kinds := [], alts := [], laidByText := true, laidKinds := [.data, .data, .data], laidTests := true, laidLooks := .later }
def SegTornCardSaid : Prop := Claim7.holds Tryz.pinned (.plain (OpenSpec.ofChange segTornSpec)) segTornCard

/-- THE TIED CARD OF 'postillionlaw4.SegTwice'. -/
def segTwiceCard : Claim7 := { stood := { row := segTwiceRow, standIns := [], harness := (true, "8c7073c435edaeee645a9d4baca93abc21b283f917139dd500575179bb4060cd"), looks := false }, kinds := [], alts := [], laidByText := true, laidKinds := [.data, .data, .data], laidTests := true, laidLooks := .later }
def SegTwiceCardSaid : Prop := Claim7.holds Tryz.pinned (.plain (OpenSpec.ofChange segTwiceSpec)) segTwiceCard

/-- THE SECOND FORM's CARD OF 'postillionlaw4.SegFrom'. -/
def segFromUptoCard : Claim7 := { stood := { row := segFromUptoRow, standIns := [], harness := (true, "8c7073c435edaeee645a9d4baca93abc21b283f917139dd500575179bb4060cd"), looks := false }, kinds := [], alts := [], laidByText := true, laidKinds := [.data, .data, .data], laidTests := true, laidLooks := .later }
def SegFromUptoCardSaid : Prop := Claim7.holds Tryz.pinned (.plain (OpenSpec.upto segFromSpec)) segFromUptoCard

/-- THE SECOND FORM's CARD OF 'postillionlaw4.SegSpoilt'. -/
def segSpoiltUptoCard : Claim7 := { stood := { row := segSpoiltUptoRow, standIns := [], harness := (true, "8c7073c435edaeee645a9d4baca93abc21b283f917139dd500575179bb4060cd"), looks := false }, kinds := [], alts := [], laidByText := true, laidKinds := [.data, .data, .data], laidTests := true, laidLooks := .later }
def SegSpoiltUptoCardSaid : Prop := Claim7.holds Tryz.pinned (.plain (OpenSpec.upto segSpoiltSpec)) segSpoiltUptoCard

/-- THE SECOND FORM's CARD OF 'postillionlaw4.SegTorn'. -/
def segTornUptoCard : Claim7 := { stood := { row := segTornUptoRow, standIns := [], harness := (true, "8c7073c435edaeee645a9d4baca93abc21b283f917139dd500575179bb4060cd"), looks := false }, kinds := [], alts := [], laidByText := true, laidKinds := [.data, .data, .data], laidTests := true, laidLooks := .later }
def SegTornUptoCardSaid : Prop := Claim7.holds Tryz.pinned (.plain (OpenSpec.upto segTornSpec)) segTornUptoCard

/-- THE SECOND FORM's CARD OF 'postillionlaw4.SegTwice'. -/
def segTwiceUptoCard : Claim7 := { stood := { row := segTwiceUptoRow, standIns := [], harness := (true, "8c7073c435edaeee645a9d4baca93abc21b283f917139dd500575179bb4060cd"), looks := false }, kinds := [], alts := [], laidByText := true, laidKinds := [.data, .data, .data], laidTests := true, laidLooks := .later }
def SegTwiceUptoCardSaid : Prop := Claim7.holds Tryz.pinned (.plain (OpenSpec.upto segTwiceSpec)) segTwiceUptoCard
end Rows
end Go.Proofs.YtjdpglmphacfjaaGreatDoor
