/-
  NARROWER THAN 'FOR EVERY INPUT', by the rows' own cells (each row's printed sentence says how): GraphRings: laid · GraphStar: laid.
  DERIVED. THE GIVEN ROWS OF THIS SEAT. 2 by the template 'for every input the law returns true; each argument reads behind the call as it read before'; 0 by the template 'total and deterministic' (their statements: YtkiimljdoebclaaDoorTotals.lean).
  GIVEN WITH THE SEED: the statements are not yours to turn. If you find one false, say at which input.
  Laid BY PROGRAM, IN A SANDBOX (cutbox-rows.mjs): the forced cells as the released guide's own fill.sh prints them over the translation 3639aa1aad16676f… (all of the seat's roots in one cut). By AI agents, Wed Nov 11 2026. No macro, syntax, notation, axiom, sorry.
-/
import Derived.Test.YtkiimljdoebclaaDoorChecked
import GoSem.Claim
import GoSem.ClaimJoined
import GoSem.ClaimMapViews
import Derived.JoinedTies
import Derived.KernelRfl
namespace Go.Proofs.YtkiimljdoebclaaDoor
/- THE CELL 'sum', in the pinned program and in every row, IS THE sha256 OF THE DUMP (.gsa) THAT YtkiimljdoebclaaDoorProg.lean LOADS. Nothing in Lean hashes anything: it is a label: what it is worth is what the hold of that sum in a sandbox is worth. -/
noncomputable def Tryd.pinned : Pinned := { name := "ytkiimljdoebclaadoor", sum := "3639aa1aad16676fdc485a4131f7876f5185dd93d8a15edd60aafb203956dd29", checked := Tryd.checked }
namespace Rows
def none {H : Type} : Left H := { results := [], args := [] }

/- WHAT THE LISTED PACKAGE-LEVEL VARIABLES READ AS WHEN THE CALL BEGINS. Each datum BY PROGRAM (the guide's laid-datum.mjs) off the statement by which the dump's own 'gosem.cut.vars' lays the variable. In a bare row this is a premise. The card (YtkiimljdoebclaaDoorCards.lean) ties it to the program's text. -/
def laid_spokeshave_word_widths {H : Type} : DataW H := .agg [.agg [.lit (.int .i64 8), .lit (.bool true)], .agg [.lit (.int .i64 8), .lit (.bool false)], .agg [.lit (.int .i64 16), .lit (.bool true)], .agg [.lit (.int .i64 16), .lit (.bool false)], .agg [.lit (.int .i64 32), .lit (.bool true)], .agg [.lit (.int .i64 32), .lit (.bool false)], .agg [.lit (.int .i64 64), .lit (.bool true)], .agg [.lit (.int .i64 64), .lit (.bool false)]]

/-- 'spokeshavelaw10.GraphRings': WHATEVER THE INPUT: true; the input reads as it did. -/
def graphRingsSpec : ChangeSpec := { name := "graphRings", fn := fun _ => fun
  | [d1, d2] => { results := [.lit (.bool true)], args := [d1, d2] }
  | _ => none }
def graphRingsRow : OpenClaim := { program := "ytkiimljdoebclaadoor", sum := "3639aa1aad16676fdc485a4131f7876f5185dd93d8a15edd60aafb203956dd29", func := "spokeshave/spokeshavelaw10.GraphRings", spec := "graphRings", unfollowed := true, recurses := true, named := ["spokeshave/word.widths"], apart := false, laid := [("spokeshave/word.widths", laid_spokeshave_word_widths)] }
def GraphRingsSaid : Prop := graphRingsRow.holds Tryd.pinned (OpenSpec.ofChange graphRingsSpec)

/-- ITS FALSE NEIGHBOUR: 'it returns false'. Refute it at one input. -/
def graphRingsWrong : ChangeSpec := { name := "graphRings", fn := fun _ => fun
  | [d1, d2] => { results := [.lit (.bool false)], args := [d1, d2] }
  | _ => none }
def GraphRingsWrongFalsely : Prop := graphRingsRow.holds Tryd.pinned (OpenSpec.ofChange graphRingsWrong)

/-- 'spokeshavelaw10.GraphStar': WHATEVER THE INPUT: true; the input reads as it did. -/
def graphStarSpec : ChangeSpec := { name := "graphStar", fn := fun _ => fun
  | [d1, d2, d3] => { results := [.lit (.bool true)], args := [d1, d2, d3] }
  | _ => none }
def graphStarRow : OpenClaim := { program := "ytkiimljdoebclaadoor", sum := "3639aa1aad16676fdc485a4131f7876f5185dd93d8a15edd60aafb203956dd29", func := "spokeshave/spokeshavelaw10.GraphStar", spec := "graphStar", unfollowed := true, recurses := true, named := ["spokeshave/word.widths"], apart := false, laid := [("spokeshave/word.widths", laid_spokeshave_word_widths)] }
def GraphStarSaid : Prop := graphStarRow.holds Tryd.pinned (OpenSpec.ofChange graphStarSpec)

/-- ITS FALSE NEIGHBOUR: 'it returns false'. Refute it at one input. -/
def graphStarWrong : ChangeSpec := { name := "graphStar", fn := fun _ => fun
  | [d1, d2, d3] => { results := [.lit (.bool false)], args := [d1, d2, d3] }
  | _ => none }
def GraphStarWrongFalsely : Prop := graphStarRow.holds Tryd.pinned (OpenSpec.ofChange graphStarWrong)

/- THE SECOND FORM. 'bulk': how many values and letters a reading holds, each counted each time it is reached (what is shared counts as often as it is met; a slice's spare places count too). A statement '..UptoSaid' is the law's where the arguments, and the package variables that the reading takes, are together of bulk at most 1048576: NARROWER than '..Said'. Prove '..Said' where nothing that the law and all that it calls make is longer than what came in: it says more and counts as full. Else prove '..UptoSaid'. A law counts once. -/
mutual
def uptoBulk {H : Type} : DataW H → Nat
  | .lit (.string bytes) => bytes.length + 1
  | .lit _ => 1
  | .nil => 1
  | .ptr d => uptoBulk d + 1
  | .slice elems spare => uptoBulkAll elems + uptoBulkAll spare + 1
  | .agg parts => uptoBulkAll parts + 1
  | .iface _ d => uptoBulk d + 1
  | .map entries => uptoBulkEntries entries + 1
  | .held _ => 1
def uptoBulkAll {H : Type} : List (DataW H) → Nat
  | [] => 0
  | d :: r => uptoBulk d + uptoBulkAll r
def uptoBulkEntries {H : Type} : List (Lit × DataW H) → Nat
  | [] => 0
  | x :: r => uptoBulkEntry x + uptoBulkEntries r
def uptoBulkEntry {H : Type} : Lit × DataW H → Nat
  | (.string bytes, d) => bytes.length + uptoBulk d + 1
  | (_, d) => uptoBulk d + 1
 end
def uptoSmall : (H : Type) → List (DataW H) → Bool := fun _ ds => decide (uptoBulkAll ds ≤ 1048576)
def OpenSpec.upto (s : _root_.Go.ChangeSpec) : _root_.Go.OpenSpec := { _root_.Go.OpenSpec.ofChange s with cond := some uptoSmall }

/-- 'spokeshavelaw10.GraphRings', WHERE WHAT IT READS IS OF BULK AT MOST 1048576: true; the input reads as it did. -/
def graphRingsUptoRow : OpenClaim := { program := "ytkiimljdoebclaadoor", sum := "3639aa1aad16676fdc485a4131f7876f5185dd93d8a15edd60aafb203956dd29", func := "spokeshave/spokeshavelaw10.GraphRings", spec := "graphRings", unfollowed := true, recurses := true, named := ["spokeshave/word.widths"], apart := false, laid := [("spokeshave/word.widths", laid_spokeshave_word_widths)], narrowed := true }
def GraphRingsUptoSaid : Prop := graphRingsUptoRow.holds Tryd.pinned (OpenSpec.upto graphRingsSpec)

/-- 'spokeshavelaw10.GraphStar', WHERE WHAT IT READS IS OF BULK AT MOST 1048576: true; the input reads as it did. -/
def graphStarUptoRow : OpenClaim := { program := "ytkiimljdoebclaadoor", sum := "3639aa1aad16676fdc485a4131f7876f5185dd93d8a15edd60aafb203956dd29", func := "spokeshave/spokeshavelaw10.GraphStar", spec := "graphStar", unfollowed := true, recurses := true, named := ["spokeshave/word.widths"], apart := false, laid := [("spokeshave/word.widths", laid_spokeshave_word_widths)], narrowed := true }
def GraphStarUptoSaid : Prop := graphStarUptoRow.holds Tryd.pinned (OpenSpec.upto graphStarSpec)

end Rows
end Go.Proofs.YtkiimljdoebclaaDoor
