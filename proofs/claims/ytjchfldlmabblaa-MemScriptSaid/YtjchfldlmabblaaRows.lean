/-
  No cell of these rows narrows 'for every input' (looked for: loops, veiled, ifaces, maps, wideKeys, modest, calm, conditions, laid).
  DERIVED. THE GIVEN ROWS OF THIS SEAT. 3 by the template 'for every input the law returns true; each argument reads behind the call as it read before'; 0 by the template 'total and deterministic' (their statements: YtjchfldlmabblaaTotals.lean).
  GIVEN WITH THE SEED: the statements are not yours to turn. If you find one false, say at which input.
  Laid BY PROGRAM, IN A SANDBOX (cutbox-rows.mjs): the forced cells as the released guide's own fill.sh prints them over the translation 34d526fe480557d1… (all of the seat's roots in one cut). By AI agents, Wed Nov 11 2026. No macro, syntax, notation, axiom, sorry.
-/
import Derived.Test.YtjchfldlmabblaaChecked
import GoSem.Claim
import GoSem.ClaimJoined
import GoSem.ClaimMapViews
import Derived.JoinedTies
import Derived.KernelRfl
namespace Go.Proofs.Ytjchfldlmabblaa
/- THE CELL 'sum', in the pinned program and in every row, IS THE sha256 OF THE DUMP (.gsa) THAT YtjchfldlmabblaaProg.lean LOADS. Nothing in Lean hashes anything: it is a label: what it is worth is what the hold of that sum in a sandbox is worth. -/
noncomputable def Try.pinned : Pinned := { name := "ytjchfldlmabblaa", sum := "34d526fe480557d19a1e730bc266840edb0838276dd7bba47a981b9eea8a5f47", checked := Try.checked }
namespace Rows
def none {H : Type} : Left H := { results := [], args := [] }

/-- 'spokeshavelaw6.MemScript': WHATEVER THE INPUT: true; the input reads as it did. -/
def memScriptSpec : ChangeSpec := { name := "memScript", fn := fun _ => fun
  | [d] => { results := [.lit (.bool true)], args := [d] }
  | _ => none }
def memScriptRow : OpenClaim := { program := "ytjchfldlmabblaa", sum := "34d526fe480557d19a1e730bc266840edb0838276dd7bba47a981b9eea8a5f47", func := "spokeshave/spokeshavelaw6.MemScript", spec := "memScript", unfollowed := true, recurses := true, plainKeys := false, apart := false }
def MemScriptSaid : Prop := memScriptRow.holds Try.pinned (OpenSpec.ofChange memScriptSpec)

/-- ITS FALSE NEIGHBOUR: 'it returns false'. Refute it at one input. -/
def memScriptWrong : ChangeSpec := { name := "memScript", fn := fun _ => fun
  | [d] => { results := [.lit (.bool false)], args := [d] }
  | _ => none }
def MemScriptWrongFalsely : Prop := memScriptRow.holds Try.pinned (OpenSpec.ofChange memScriptWrong)

/-- 'spokeshavelaw6.MemCells': WHATEVER THE INPUT: true; the input reads as it did. -/
def memCellsSpec : ChangeSpec := { name := "memCells", fn := fun _ => fun
  | [d1, d2] => { results := [.lit (.bool true)], args := [d1, d2] }
  | _ => none }
def memCellsRow : OpenClaim := { program := "ytjchfldlmabblaa", sum := "34d526fe480557d19a1e730bc266840edb0838276dd7bba47a981b9eea8a5f47", func := "spokeshave/spokeshavelaw6.MemCells", spec := "memCells", unfollowed := true, recurses := true, plainKeys := false, apart := false }
def MemCellsSaid : Prop := memCellsRow.holds Try.pinned (OpenSpec.ofChange memCellsSpec)

/-- ITS FALSE NEIGHBOUR: 'it returns false'. Refute it at one input. -/
def memCellsWrong : ChangeSpec := { name := "memCells", fn := fun _ => fun
  | [d1, d2] => { results := [.lit (.bool false)], args := [d1, d2] }
  | _ => none }
def MemCellsWrongFalsely : Prop := memCellsRow.holds Try.pinned (OpenSpec.ofChange memCellsWrong)

/-- 'spokeshavelaw6.MemMoves': WHATEVER THE INPUT: true; the input reads as it did. -/
def memMovesSpec : ChangeSpec := { name := "memMoves", fn := fun _ => fun
  | [d1, d2, d3] => { results := [.lit (.bool true)], args := [d1, d2, d3] }
  | _ => none }
def memMovesRow : OpenClaim := { program := "ytjchfldlmabblaa", sum := "34d526fe480557d19a1e730bc266840edb0838276dd7bba47a981b9eea8a5f47", func := "spokeshave/spokeshavelaw6.MemMoves", spec := "memMoves", unfollowed := true, recurses := true, plainKeys := false, apart := false }
def MemMovesSaid : Prop := memMovesRow.holds Try.pinned (OpenSpec.ofChange memMovesSpec)

/-- ITS FALSE NEIGHBOUR: 'it returns false'. Refute it at one input. -/
def memMovesWrong : ChangeSpec := { name := "memMoves", fn := fun _ => fun
  | [d1, d2, d3] => { results := [.lit (.bool false)], args := [d1, d2, d3] }
  | _ => none }
def MemMovesWrongFalsely : Prop := memMovesRow.holds Try.pinned (OpenSpec.ofChange memMovesWrong)

/- THE SECOND FORM. 'bulk': how many values and letters a reading holds, each counted each time it is reached (what is shared counts as often as it is met; a slice's spare places count too). A statement '..UptoSaid' is the law's where the arguments, and the package variables that the reading takes, are together of bulk at most 1048576: NARROWER than '..Said'. Prove '..Said' where nothing that the law and all that it calls make is longer than what came in: it says more and counts as full. Else prove '..UptoSaid'. A law counts once. -/
mutual
def uptoBulk {H : Type} : DataW H → Nat
  | .lit (.string bytes) => bytes.length + 1
  | .lit _ => 1
  | .nil => 1
  | .ptr d => uptoBulk d + 1
  | .slice elems spare => uptoBulkAll elems + uptoBulkAll spare + 1
  | .agg parts => uptoBulkAll parts + 1
  | .iface _ d => uptoBulk d + 1
  | .map entries => uptoBulkEntries entries + 1
  | .held _ => 1
def uptoBulkAll {H : Type} : List (DataW H) → Nat
  | [] => 0
  | d :: r => uptoBulk d + uptoBulkAll r
def uptoBulkEntries {H : Type} : List (Lit × DataW H) → Nat
  | [] => 0
  | x :: r => uptoBulkEntry x + uptoBulkEntries r
def uptoBulkEntry {H : Type} : Lit × DataW H → Nat
  | (.string bytes, d) => bytes.length + uptoBulk d + 1
  | (_, d) => uptoBulk d + 1
 end
def uptoSmall : (H : Type) → List (DataW H) → Bool := fun _ ds => decide (uptoBulkAll ds ≤ 1048576)
def OpenSpec.upto (s : _root_.Go.ChangeSpec) : _root_.Go.OpenSpec := { _root_.Go.OpenSpec.ofChange s with cond := some uptoSmall }

/-- 'spokeshavelaw6.MemScript', WHERE WHAT IT READS IS OF BULK AT MOST 1048576: true; the input reads as it did. -/
def memScriptUptoRow : OpenClaim := { program := "ytjchfldlmabblaa", sum := "34d526fe480557d19a1e730bc266840edb0838276dd7bba47a981b9eea8a5f47", func := "spokeshave/spokeshavelaw6.MemScript", spec := "memScript", unfollowed := true, recurses := true, plainKeys := false, apart := false, narrowed := true }
def MemScriptUptoSaid : Prop := memScriptUptoRow.holds Try.pinned (OpenSpec.upto memScriptSpec)

/-- 'spokeshavelaw6.MemCells', WHERE WHAT IT READS IS OF BULK AT MOST 1048576: true; the input reads as it did. -/
def memCellsUptoRow : OpenClaim := { program := "ytjchfldlmabblaa", sum := "34d526fe480557d19a1e730bc266840edb0838276dd7bba47a981b9eea8a5f47", func := "spokeshave/spokeshavelaw6.MemCells", spec := "memCells", unfollowed := true, recurses := true, plainKeys := false, apart := false, narrowed := true }
def MemCellsUptoSaid : Prop := memCellsUptoRow.holds Try.pinned (OpenSpec.upto memCellsSpec)

/-- 'spokeshavelaw6.MemMoves', WHERE WHAT IT READS IS OF BULK AT MOST 1048576: true; the input reads as it did. -/
def memMovesUptoRow : OpenClaim := { program := "ytjchfldlmabblaa", sum := "34d526fe480557d19a1e730bc266840edb0838276dd7bba47a981b9eea8a5f47", func := "spokeshave/spokeshavelaw6.MemMoves", spec := "memMoves", unfollowed := true, recurses := true, plainKeys := false, apart := false, narrowed := true }
def MemMovesUptoSaid : Prop := memMovesUptoRow.holds Try.pinned (OpenSpec.upto memMovesSpec)

end Rows
end Go.Proofs.Ytjchfldlmabblaa
