/-
  DERIVED. GIVEN WITH THE SEED: THE CARDS: each row of YtjgkacggjhobmaaGreatDoorRows.lean that lists a variable, with what it lists TIED to the program's text (the seventh form; the later family's looks); each row that meets fmt, with fmt's text TOLD by the authors' own Lean function (tested against real Go, not proved from fmt's source: count such statements apart). THE CARD IS WHAT COUNTS. Prove the row's statement (the work); the ties are given (YtjgkacggjhobmaaGreatDoorTie.lean); close each card by the builder's one call (the guide's Derived/Test/ToyasCard.lean, 'card_holds'). Laid BY PROGRAM, IN A SANDBOX (cutbox-door.mjs). By AI agents, Wed Nov 11 2026. No macro, syntax, notation, axiom, sorry.
-/
import Derived.Test.YtjgkacggjhobmaaGreatDoorRows
import GoSem.ClaimSeven
namespace Go.Proofs.YtjgkacggjhobmaaGreatDoor
namespace Rows

/-- THE TIED CARD OF 'spokeshavelaw4.LayoutFields'. -/
def layoutFieldsCard : Claim7 := { stood := { row := layoutFieldsRow, standIns := [], harness := (true, "3fe4ce35ed5a43c0033e0a3cd0667d2bcbb3bc75c27523a28fe10e74d10f767d"), looks := false }, kinds := [], alts := [], laidByText := true, laidKinds := [.data, .data, .data, .data, .pinned], laidTests := true, laidLooks := .later }
def LayoutFieldsCardSaid : Prop := Claim7.holds Tryz.pinned (.plain (OpenSpec.ofChange layoutFieldsSpec)) layoutFieldsCard

/-- THE TIED CARD OF 'spokeshavelaw4.LayoutNests'. -/
def layoutNestsCard : Claim7 := { stood := { row := layoutNestsRow, standIns := [], harness := (true, "3fe4ce35ed5a43c0033e0a3cd0667d2bcbb3bc75c27523a28fe10e74d10f767d"), looks := false }, kinds := [], alts := [], laidByText := true, laidKinds := [.data, .data, .data, .data, .pinned], laidTests := true, laidLooks := .later }
def LayoutNestsCardSaid : Prop := Claim7.holds Tryz.pinned (.plain (OpenSpec.ofChange layoutNestsSpec)) layoutNestsCard

/-- THE SECOND FORM's CARD OF 'spokeshavelaw4.LayoutFields'. -/
def layoutFieldsUptoCard : Claim7 := { stood := { row := layoutFieldsUptoRow, standIns := [], harness := (true, "3fe4ce35ed5a43c0033e0a3cd0667d2bcbb3bc75c27523a28fe10e74d10f767d"), looks := false }, kinds := [], alts := [], laidByText := true, laidKinds := [.data, .data, .data, .data, .pinned], laidTests := true, laidLooks := .later }
def LayoutFieldsUptoCardSaid : Prop := Claim7.holds Tryz.pinned (.plain (OpenSpec.upto layoutFieldsSpec)) layoutFieldsUptoCard

/-- THE SECOND FORM's CARD OF 'spokeshavelaw4.LayoutNests'. -/
def layoutNestsUptoCard : Claim7 := { stood := { row := layoutNestsUptoRow, standIns := [], harness := (true, "3fe4ce35ed5a43c0033e0a3cd0667d2bcbb3bc75c27523a28fe10e74d10f767d"), looks := false }, kinds := [], alts := [], laidByText := true, laidKinds := [.data, .data, .data, .data, .pinned], laidTests := true, laidLooks := .later }
def LayoutNestsUptoCardSaid : Prop := Claim7.holds Tryz.pinned (.plain (OpenSpec.upto layoutNestsSpec)) layoutNestsUptoCard
end Rows
end Go.Proofs.YtjgkacggjhobmaaGreatDoor
