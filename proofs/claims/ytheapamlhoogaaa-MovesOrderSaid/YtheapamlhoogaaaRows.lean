/-
  No cell of these rows narrows 'for every input' (looked for: loops, veiled, ifaces, maps, wideKeys, modest, calm, conditions, laid).
  DERIVED. THE GIVEN ROWS OF THIS SEAT. 3 by the template 'for every input the law returns true; each argument reads behind the call as it read before'; 0 by the template 'total and deterministic' (their statements: YtheapamlhoogaaaTotals.lean).
  GIVEN WITH THE SEED: the statements are not yours to turn. If you find one false, say at which input.
  Laid BY PROGRAM, IN A SANDBOX (cutbox-rows.mjs): the forced cells as the released guide's own fill.sh prints them over the translation 01a8c170ef2735a1… (all of the seat's roots in one cut). By AI agents, Wed Nov 11 2026. No macro, syntax, notation, axiom, sorry.
-/
import Derived.Test.YtheapamlhoogaaaChecked
import GoSem.Claim
import GoSem.ClaimJoined
import GoSem.ClaimMapViews
import Derived.JoinedTies
import Derived.KernelRfl
namespace Go.Proofs.Ytheapamlhoogaaa
/- THE CELL 'sum', in the pinned program and in every row, IS THE sha256 OF THE DUMP (.gsa) THAT YtheapamlhoogaaaProg.lean LOADS. Nothing in Lean hashes anything: it is a label: what it is worth is what the hold of that sum in a sandbox is worth. -/
noncomputable def Try.pinned : Pinned := { name := "ytheapamlhoogaaa", sum := "01a8c170ef2735a1a6bcfc876061e1886a78582a0d63b720f24f4b078f8448b0", checked := Try.checked }
namespace Rows
def none {H : Type} : Left H := { results := [], args := [] }

/-- 'spokeshavelaw21.MovesOrder': WHATEVER THE INPUT: true; the input reads as it did. -/
def movesOrderSpec : ChangeSpec := { name := "movesOrder", fn := fun _ => fun
  | [d1, d2] => { results := [.lit (.bool true)], args := [d1, d2] }
  | _ => none }
def movesOrderRow : OpenClaim := { program := "ytheapamlhoogaaa", sum := "01a8c170ef2735a1a6bcfc876061e1886a78582a0d63b720f24f4b078f8448b0", func := "spokeshave/spokeshavelaw21.MovesOrder", spec := "movesOrder", unfollowed := true, recurses := true, apart := false }
def MovesOrderSaid : Prop := movesOrderRow.holds Try.pinned (OpenSpec.ofChange movesOrderSpec)

/-- ITS FALSE NEIGHBOUR: 'it returns false'. Refute it at one input. -/
def movesOrderWrong : ChangeSpec := { name := "movesOrder", fn := fun _ => fun
  | [d1, d2] => { results := [.lit (.bool false)], args := [d1, d2] }
  | _ => none }
def MovesOrderWrongFalsely : Prop := movesOrderRow.holds Try.pinned (OpenSpec.ofChange movesOrderWrong)

/-- 'spokeshavelaw21.MovesRings': WHATEVER THE INPUT: true; the input reads as it did. -/
def movesRingsSpec : ChangeSpec := { name := "movesRings", fn := fun _ => fun
  | [d1, d2] => { results := [.lit (.bool true)], args := [d1, d2] }
  | _ => none }
def movesRingsRow : OpenClaim := { program := "ytheapamlhoogaaa", sum := "01a8c170ef2735a1a6bcfc876061e1886a78582a0d63b720f24f4b078f8448b0", func := "spokeshave/spokeshavelaw21.MovesRings", spec := "movesRings", unfollowed := true, recurses := true, apart := false }
def MovesRingsSaid : Prop := movesRingsRow.holds Try.pinned (OpenSpec.ofChange movesRingsSpec)

/-- ITS FALSE NEIGHBOUR: 'it returns false'. Refute it at one input. -/
def movesRingsWrong : ChangeSpec := { name := "movesRings", fn := fun _ => fun
  | [d1, d2] => { results := [.lit (.bool false)], args := [d1, d2] }
  | _ => none }
def MovesRingsWrongFalsely : Prop := movesRingsRow.holds Try.pinned (OpenSpec.ofChange movesRingsWrong)

/-- 'spokeshavelaw21.MovesTurns': WHATEVER THE INPUT: true; the input reads as it did. -/
def movesTurnsSpec : ChangeSpec := { name := "movesTurns", fn := fun _ => fun
  | [d1, d2] => { results := [.lit (.bool true)], args := [d1, d2] }
  | _ => none }
def movesTurnsRow : OpenClaim := { program := "ytheapamlhoogaaa", sum := "01a8c170ef2735a1a6bcfc876061e1886a78582a0d63b720f24f4b078f8448b0", func := "spokeshave/spokeshavelaw21.MovesTurns", spec := "movesTurns", unfollowed := true, recurses := true, apart := false }
def MovesTurnsSaid : Prop := movesTurnsRow.holds Try.pinned (OpenSpec.ofChange movesTurnsSpec)

/-- ITS FALSE NEIGHBOUR: 'it returns false'. Refute it at one input. -/
def movesTurnsWrong : ChangeSpec := { name := "movesTurns", fn := fun _ => fun
  | [d1, d2] => { results := [.lit (.bool false)], args := [d1, d2] }
  | _ => none }
def MovesTurnsWrongFalsely : Prop := movesTurnsRow.holds Try.pinned (OpenSpec.ofChange movesTurnsWrong)

/- THE SECOND FORM. 'bulk': how many values and letters a reading holds, each counted each time it is reached (what is shared counts as often as it is met; a slice's spare places count too). A statement '..UptoSaid' is the law's where the arguments, and the package variables that the reading takes, are together of bulk at most 1048576: NARROWER than '..Said'. Prove '..Said' where nothing that the law and all that it calls make is longer than what came in: it says more and counts as full. Else prove '..UptoSaid'. A law counts once. -/
mutual
def uptoBulk {H : Type} : DataW H → Nat
  | .lit (.string bytes) => bytes.length + 1
  | .lit _ => 1
  | .nil => 1
  | .ptr d => uptoBulk d + 1
  | .slice elems spare => uptoBulkAll elems + uptoBulkAll spare + 1
  | .agg parts => uptoBulkAll parts + 1
  | .iface _ d => uptoBulk d + 1
  | .map entries => uptoBulkEntries entries + 1
  | .held _ => 1
def uptoBulkAll {H : Type} : List (DataW H) → Nat
  | [] => 0
  | d :: r => uptoBulk d + uptoBulkAll r
def uptoBulkEntries {H : Type} : List (Lit × DataW H) → Nat
  | [] => 0
  | x :: r => uptoBulkEntry x + uptoBulkEntries r
def uptoBulkEntry {H : Type} : Lit × DataW H → Nat
  | (.string bytes, d) => bytes.length + uptoBulk d + 1
  | (_, d) => uptoBulk d + 1
 end
def uptoSmall : (H : Type) → List (DataW H) → Bool := fun _ ds => decide (uptoBulkAll ds ≤ 1048576)
def OpenSpec.upto (s : _root_.Go.ChangeSpec) : _root_.Go.OpenSpec := { _root_.Go.OpenSpec.ofChange s with cond := some uptoSmall }

/-- 'spokeshavelaw21.MovesOrder', WHERE WHAT IT READS IS OF BULK AT MOST 1048576: true; the input reads as it did. -/
def movesOrderUptoRow : OpenClaim := { program := "ytheapamlhoogaaa", sum := "01a8c170ef2735a1a6bcfc876061e1886a78582a0d63b720f24f4b078f8448b0", func := "spokeshave/spokeshavelaw21.MovesOrder", spec := "movesOrder", unfollowed := true, recurses := true, apart := false, narrowed := true }
def MovesOrderUptoSaid : Prop := movesOrderUptoRow.holds Try.pinned (OpenSpec.upto movesOrderSpec)

/-- 'spokeshavelaw21.MovesRings', WHERE WHAT IT READS IS OF BULK AT MOST 1048576: true; the input reads as it did. -/
def movesRingsUptoRow : OpenClaim := { program := "ytheapamlhoogaaa", sum := "01a8c170ef2735a1a6bcfc876061e1886a78582a0d63b720f24f4b078f8448b0", func := "spokeshave/spokeshavelaw21.MovesRings", spec := "movesRings", unfollowed := true, recurses := true, apart := false, narrowed := true }
def MovesRingsUptoSaid : Prop := movesRingsUptoRow.holds Try.pinned (OpenSpec.upto movesRingsSpec)

/-- 'spokeshavelaw21.MovesTurns', WHERE WHAT IT READS IS OF BULK AT MOST 1048576: true; the input reads as it did. -/
def movesTurnsUptoRow : OpenClaim := { program := "ytheapamlhoogaaa", sum := "01a8c170ef2735a1a6bcfc876061e1886a78582a0d63b720f24f4b078f8448b0", func := "spokeshave/spokeshavelaw21.MovesTurns", spec := "movesTurns", unfollowed := true, recurses := true, apart := false, narrowed := true }
def MovesTurnsUptoSaid : Prop := movesTurnsUptoRow.holds Try.pinned (OpenSpec.upto movesTurnsSpec)

end Rows
end Go.Proofs.Ytheapamlhoogaaa
