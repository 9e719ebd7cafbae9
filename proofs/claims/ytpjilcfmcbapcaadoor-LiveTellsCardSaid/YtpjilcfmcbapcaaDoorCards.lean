/-
  DERIVED. GIVEN WITH THE SEED: THE CARDS: each row of YtpjilcfmcbapcaaDoorRows.lean that lists a variable, with what it lists TIED to the program's text (the seventh form; the later family's looks); each row that meets fmt, with fmt's text TOLD by the authors' own Lean function (tested against real Go, not proved from fmt's source: count such statements apart). THE CARD IS WHAT COUNTS. Prove the row's statement (the work); the ties are given (YtpjilcfmcbapcaaDoorTie.lean); close each card by the builder's one call (the guide's Derived/Test/ToyasCard.lean, 'card_holds'). Laid BY PROGRAM, IN A SANDBOX (cutbox-door.mjs). By AI agents, Wed Nov 11 2026. No macro, syntax, notation, axiom, sorry.
-/
import Derived.Test.YtpjilcfmcbapcaaDoorRows
import GoSem.ClaimSeven
namespace Go.Proofs.YtpjilcfmcbapcaaDoor
namespace Rows

/-- THE TIED CARD OF 'spokeshavelaw13.LiveTells'. -/
def liveTellsCard : Claim7 := { stood := { row := liveTellsRow, standIns := [], harness := (true, "08862ed7a7c0dd568075ad06a1b64f40bcd6f0360894870f31010981e1b86634"), looks := false }, kinds := [], alts := [], laidByText := true, laidKinds := [.data], laidTests := true, laidLooks := .later }
def LiveTellsCardSaid : Prop := Claim7.holds Tryd.pinned (.plain (OpenSpec.ofChange liveTellsSpec)) liveTellsCard

/-- THE TIED CARD OF 'spokeshavelaw13.LiveRow'. -/
def liveRowCard : Claim7 := { stood := { row := liveRowRow, standIns := [], harness := (true, "08862ed7a7c0dd568075ad06a1b64f40bcd6f0360894870f31010981e1b86634"), looks := false }, kinds := [], alts := [], laidByText := true, laidKinds := [.data], laidTests := true, laidLooks := .later }
def LiveRowCardSaid : Prop := Claim7.holds Tryd.pinned (.plain (OpenSpec.ofChange liveRowSpec)) liveRowCard

/-- THE SECOND FORM's CARD OF 'spokeshavelaw13.LiveTells'. -/
def liveTellsUptoCard : Claim7 := { stood := { row := liveTellsUptoRow, standIns := [], harness := (true, "08862ed7a7c0dd568075ad06a1b64f40bcd6f0360894870f31010981e1b86634"), looks := false }, kinds := [], alts := [], laidByText := true, laidKinds := [.data], laidTests := true, laidLooks := .later }
def LiveTellsUptoCardSaid : Prop := Claim7.holds Tryd.pinned (.plain (OpenSpec.upto liveTellsSpec)) liveTellsUptoCard

/-- THE SECOND FORM's CARD OF 'spokeshavelaw13.LiveRow'. -/
def liveRowUptoCard : Claim7 := { stood := { row := liveRowUptoRow, standIns := [], harness := (true, "08862ed7a7c0dd568075ad06a1b64f40bcd6f0360894870f31010981e1b86634"), looks := false }, kinds := [], alts := [], laidByText := true, laidKinds := [.data], laidTests := true, laidLooks := .later }
def LiveRowUptoCardSaid : Prop := Claim7.holds Tryd.pinned (.plain (OpenSpec.upto liveRowSpec)) liveRowUptoCard
end Rows
end Go.Proofs.YtpjilcfmcbapcaaDoor
