/-
  DERIVED. GIVEN WITH THE SEED: THE CARDS: each row of YtkiimljdoebclaaDoorRows.lean that lists a variable, with what it lists TIED to the program's text (the seventh form; the later family's looks); each row that meets fmt, with fmt's text TOLD by the authors' own Lean function (tested against real Go, not proved from fmt's source: count such statements apart). THE CARD IS WHAT COUNTS. Prove the row's statement (the work); the ties are given (YtkiimljdoebclaaDoorTie.lean); close each card by the builder's one call (the guide's Derived/Test/ToyasCard.lean, 'card_holds'). Laid BY PROGRAM, IN A SANDBOX (cutbox-door.mjs). By AI agents, Wed Nov 11 2026. No macro, syntax, notation, axiom, sorry.
-/
import Derived.Test.YtkiimljdoebclaaDoorRows
import GoSem.ClaimSeven
namespace Go.Proofs.YtkiimljdoebclaaDoor
namespace Rows

/-- THE TIED CARD OF 'spokeshavelaw10.GraphRings'. -/
def graphRingsCard : Claim7 := { stood := { row := graphRingsRow, standIns := [], harness := (true, "d423a9b610a12a1d071ae41f01c5051e092ae2dcf8225ebd53fba9132f4051d2"), looks := true }, kinds := [], alts := [], laidByText := true, laidKinds := [.data], laidTests := true, laidLooks := .later }
def GraphRingsCardSaid : Prop := Claim7.holds Tryd.pinned (.plain (OpenSpec.ofChange graphRingsSpec)) graphRingsCard

/-- THE TIED CARD OF 'spokeshavelaw10.GraphStar'. -/
def graphStarCard : Claim7 := { stood := { row := graphStarRow, standIns := [], harness := (true, "d423a9b610a12a1d071ae41f01c5051e092ae2dcf8225ebd53fba9132f4051d2"), looks := true }, kinds := [], alts := [], laidByText := true, laidKinds := [.data], laidTests := true, laidLooks := .later }
def GraphStarCardSaid : Prop := Claim7.holds Tryd.pinned (.plain (OpenSpec.ofChange graphStarSpec)) graphStarCard

/-- THE SECOND FORM's CARD OF 'spokeshavelaw10.GraphRings'. -/
def graphRingsUptoCard : Claim7 := { stood := { row := graphRingsUptoRow, standIns := [], harness := (true, "d423a9b610a12a1d071ae41f01c5051e092ae2dcf8225ebd53fba9132f4051d2"), looks := true }, kinds := [], alts := [], laidByText := true, laidKinds := [.data], laidTests := true, laidLooks := .later }
def GraphRingsUptoCardSaid : Prop := Claim7.holds Tryd.pinned (.plain (OpenSpec.upto graphRingsSpec)) graphRingsUptoCard

/-- THE SECOND FORM's CARD OF 'spokeshavelaw10.GraphStar'. -/
def graphStarUptoCard : Claim7 := { stood := { row := graphStarUptoRow, standIns := [], harness := (true, "d423a9b610a12a1d071ae41f01c5051e092ae2dcf8225ebd53fba9132f4051d2"), looks := true }, kinds := [], alts := [], laidByText := true, laidKinds := [.data], laidTests := true, laidLooks := .later }
def GraphStarUptoCardSaid : Prop := Claim7.holds Tryd.pinned (.plain (OpenSpec.upto graphStarSpec)) graphStarUptoCard
end Rows
end Go.Proofs.YtkiimljdoebclaaDoor
