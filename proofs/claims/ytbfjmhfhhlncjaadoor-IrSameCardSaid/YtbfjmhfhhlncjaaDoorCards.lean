/-
  DERIVED. GIVEN WITH THE SEED: THE CARDS: each row of YtbfjmhfhhlncjaaDoorRows.lean that lists a variable, with what it lists TIED to the program's text (the seventh form; the later family's looks); each row that meets fmt, with fmt's text TOLD by the authors' own Lean function (tested against real Go, not proved from fmt's source: count such statements apart). THE CARD IS WHAT COUNTS. Prove the row's statement (the work); the ties are given (YtbfjmhfhhlncjaaDoorTie.lean); close each card by the builder's one call (the guide's Derived/Test/ToyasCard.lean, 'card_holds'). Laid BY PROGRAM, IN A SANDBOX (cutbox-door.mjs). By AI agents, Wed Nov 11 2026. No macro, syntax, notation, axiom, sorry.
-/
import Derived.Test.YtbfjmhfhhlncjaaDoorRows
import GoSem.ClaimSeven
namespace Go.Proofs.YtbfjmhfhhlncjaaDoor
namespace Rows

/-- THE TIED CARD OF 'spokeshavelaw8.IrIns'. -/
def irInsCard : Claim7 := { stood := { row := irInsRow, standIns := [], harness := (true, "ae88e71e244f07b34e315c8089525362136a2c878cfcf103ff1adc3b3b44082b"), looks := false }, kinds := [], alts := [], laidByText := true, laidKinds := [.data], laidTests := true, laidLooks := .later }
def IrInsCardSaid : Prop := Claim7.holds Tryd.pinned (.plain (OpenSpec.ofChange irInsSpec)) irInsCard

/-- THE TIED CARD OF 'spokeshavelaw8.IrSame'. -/
def irSameCard : Claim7 := { stood := { row := irSameRow, standIns := [], harness := (true, "ae88e71e244f07b34e315c8089525362136a2c878cfcf103ff1adc3b3b44082b"), looks := false }, kinds := [], alts := [], laidByText := true, laidKinds := [.data], laidTests := true, laidLooks := .later }
def IrSameCardSaid : Prop := Claim7.holds Tryd.pinned (.plain (OpenSpec.ofChange irSameSpec)) irSameCard

/-- THE TIED CARD OF 'spokeshavelaw8.IrWords'. -/
def irWordsCard : Claim7 := { stood := { row := irWordsRow, standIns := [], harness := (true, "ae88e71e244f07b34e315c8089525362136a2c878cfcf103ff1adc3b3b44082b"), looks := false }, kinds := [], alts := [], laidByText := true, laidKinds := [.data], laidTests := true, laidLooks := .later }
def IrWordsCardSaid : Prop := Claim7.holds Tryd.pinned (.plain (OpenSpec.ofChange irWordsSpec)) irWordsCard

/-- THE TIED CARD OF 'spokeshavelaw8.IrMemory'. -/
def irMemoryCard : Claim7 := { stood := { row := irMemoryRow, standIns := [], harness := (true, "ae88e71e244f07b34e315c8089525362136a2c878cfcf103ff1adc3b3b44082b"), looks := false }, kinds := [], alts := [], laidByText := true, laidKinds := [.data], laidTests := true, laidLooks := .later }
def IrMemoryCardSaid : Prop := Claim7.holds Tryd.pinned (.plain (OpenSpec.ofChange irMemorySpec)) irMemoryCard

/-- THE TIED CARD OF 'spokeshavelaw8.IrCalls'. -/
def irCallsCard : Claim7 := { stood := { row := irCallsRow, standIns := [], harness := (true, "ae88e71e244f07b34e315c8089525362136a2c878cfcf103ff1adc3b3b44082b"), looks := false }, kinds := [], alts := [], laidByText := true, laidKinds := [.data], laidTests := true, laidLooks := .later }
def IrCallsCardSaid : Prop := Claim7.holds Tryd.pinned (.plain (OpenSpec.ofChange irCallsSpec)) irCallsCard

/-- THE SECOND FORM's CARD OF 'spokeshavelaw8.IrIns'. -/
def irInsUptoCard : Claim7 := { stood := { row := irInsUptoRow, standIns := [], harness := (true, "ae88e71e244f07b34e315c8089525362136a2c878cfcf103ff1adc3b3b44082b"), looks := false }, kinds := [], alts := [], laidByText := true, laidKinds := [.data], laidTests := true, laidLooks := .later }
def IrInsUptoCardSaid : Prop := Claim7.holds Tryd.pinned (.plain (OpenSpec.upto irInsSpec)) irInsUptoCard

/-- THE SECOND FORM's CARD OF 'spokeshavelaw8.IrSame'. -/
def irSameUptoCard : Claim7 := { stood := { row := irSameUptoRow, standIns := [], harness := (true, "ae88e71e244f07b34e315c8089525362136a2c878cfcf103ff1adc3b3b44082b"), looks := false }, kinds := [], alts := [], laidByText := true, laidKinds := [.data], laidTests := true, laidLooks := .later }
def IrSameUptoCardSaid : Prop := Claim7.holds Tryd.pinned (.plain (OpenSpec.upto irSameSpec)) irSameUptoCard

/-- THE SECOND FORM's CARD OF 'spokeshavelaw8.IrWords'. -/
def irWordsUptoCard : Claim7 := { stood := { row := irWordsUptoRow, standIns := [], harness := (true, "ae88e71e244f07b34e315c8089525362136a2c878cfcf103ff1adc3b3b44082b"), looks := false }, kinds := [], alts := [], laidByText := true, laidKinds := [.data], laidTests := true, laidLooks := .later }
def IrWordsUptoCardSaid : Prop := Claim7.holds Tryd.pinned (.plain (OpenSpec.upto irWordsSpec)) irWordsUptoCard

/-- THE SECOND FORM's CARD OF 'spokeshavelaw8.IrMemory'. -/
def irMemoryUptoCard : Claim7 := { stood := { row := irMemoryUptoRow, standIns := [], harness := (true, "ae88e71e244f07b34e315c8089525362136a2c878cfcf103ff1adc3b3b44082b"), looks := false }, kinds := [], alts := [], laidByText := true, laidKinds := [.data], laidTests := true, laidLooks := .later }
def IrMemoryUptoCardSaid : Prop := Claim7.holds Tryd.pinned (.plain (OpenSpec.upto irMemorySpec)) irMemoryUptoCard

/-- THE SECOND FORM's CARD OF 'spokeshavelaw8.IrCalls'. -/
def irCallsUptoCard : Claim7 := { stood := { row := irCallsUptoRow, standIns := [], harness := (true, "ae88e71e244f07b34e315c8089525362136a2c878cfcf103ff1adc3b3b44082b"), looks := false }, kinds := [], alts := [], laidByText := true, laidKinds := [.data], laidTests := true, laidLooks := .later }
def IrCallsUptoCardSaid : Prop := Claim7.holds Tryd.pinned (.plain (OpenSpec.upto irCallsSpec)) irCallsUptoCard
end Rows
end Go.Proofs.YtbfjmhfhhlncjaaDoor
