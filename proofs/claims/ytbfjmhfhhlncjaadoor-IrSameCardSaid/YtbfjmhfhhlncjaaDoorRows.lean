/-
  NARROWER THAN 'FOR EVERY INPUT', by the rows' own cells (each row's printed sentence says how): IrIns: laid · IrSame: laid · IrWords: laid · IrMemory: laid · IrCalls: laid.
  DERIVED. THE GIVEN ROWS OF THIS SEAT. 5 by the template 'for every input the law returns true; each argument reads behind the call as it read before'; 0 by the template 'total and deterministic' (their statements: YtbfjmhfhhlncjaaDoorTotals.lean).
  GIVEN WITH THE SEED: the statements are not yours to turn. If you find one false, say at which input.
  Laid BY PROGRAM, IN A SANDBOX (cutbox-rows.mjs): the forced cells as the released guide's own fill.sh prints them over the translation 378acce0bf96861d… (all of the seat's roots in one cut). By AI agents, Wed Nov 11 2026. No macro, syntax, notation, axiom, sorry.
-/
import Derived.Test.YtbfjmhfhhlncjaaDoorChecked
import GoSem.Claim
import GoSem.ClaimJoined
import GoSem.ClaimMapViews
import Derived.JoinedTies
import Derived.KernelRfl
namespace Go.Proofs.YtbfjmhfhhlncjaaDoor
/- THE CELL 'sum', in the pinned program and in every row, IS THE sha256 OF THE DUMP (.gsa) THAT YtbfjmhfhhlncjaaDoorProg.lean LOADS. Nothing in Lean hashes anything: it is a label: what it is worth is what the hold of that sum in a sandbox is worth. -/
noncomputable def Tryd.pinned : Pinned := { name := "ytbfjmhfhhlncjaadoor", sum := "378acce0bf96861d5f167ecac0b8cfae07e036c7a7d13479dbea01262da23462", checked := Tryd.checked }
namespace Rows
def none {H : Type} : Left H := { results := [], args := [] }

/- WHAT THE LISTED PACKAGE-LEVEL VARIABLES READ AS WHEN THE CALL BEGINS. Each datum BY PROGRAM (the guide's laid-datum.mjs) off the statement by which the dump's own 'gosem.cut.vars' lays the variable. In a bare row this is a premise. The card (YtbfjmhfhhlncjaaDoorCards.lean) ties it to the program's text. -/
def laid_spokeshave_word_widths {H : Type} : DataW H := .agg [.agg [.lit (.int .i64 8), .lit (.bool true)], .agg [.lit (.int .i64 8), .lit (.bool false)], .agg [.lit (.int .i64 16), .lit (.bool true)], .agg [.lit (.int .i64 16), .lit (.bool false)], .agg [.lit (.int .i64 32), .lit (.bool true)], .agg [.lit (.int .i64 32), .lit (.bool false)], .agg [.lit (.int .i64 64), .lit (.bool true)], .agg [.lit (.int .i64 64), .lit (.bool false)]]

/-- 'spokeshavelaw8.IrIns': WHATEVER THE INPUT: true; the input reads as it did. -/
def irInsSpec : ChangeSpec := { name := "irIns", fn := fun _ => fun
  | [d] => { results := [.lit (.bool true)], args := [d] }
  | _ => none }
def irInsRow : OpenClaim := { program := "ytbfjmhfhhlncjaadoor", sum := "378acce0bf96861d5f167ecac0b8cfae07e036c7a7d13479dbea01262da23462", func := "spokeshave/spokeshavelaw8.IrIns", spec := "irIns", unfollowed := true, recurses := true, named := ["spokeshave/word.widths"], apart := false, laid := [("spokeshave/word.widths", laid_spokeshave_word_widths)] }
def IrInsSaid : Prop := irInsRow.holds Tryd.pinned (OpenSpec.ofChange irInsSpec)

/-- ITS FALSE NEIGHBOUR: 'it returns false'. Refute it at one input. -/
def irInsWrong : ChangeSpec := { name := "irIns", fn := fun _ => fun
  | [d] => { results := [.lit (.bool false)], args := [d] }
  | _ => none }
def IrInsWrongFalsely : Prop := irInsRow.holds Tryd.pinned (OpenSpec.ofChange irInsWrong)

/-- 'spokeshavelaw8.IrSame': WHATEVER THE INPUT: true; the input reads as it did. -/
def irSameSpec : ChangeSpec := { name := "irSame", fn := fun _ => fun
  | [d1, d2, d3] => { results := [.lit (.bool true)], args := [d1, d2, d3] }
  | _ => none }
def irSameRow : OpenClaim := { program := "ytbfjmhfhhlncjaadoor", sum := "378acce0bf96861d5f167ecac0b8cfae07e036c7a7d13479dbea01262da23462", func := "spokeshave/spokeshavelaw8.IrSame", spec := "irSame", unfollowed := true, recurses := true, named := ["spokeshave/word.widths"], apart := false, laid := [("spokeshave/word.widths", laid_spokeshave_word_widths)] }
def IrSameSaid : Prop := irSameRow.holds Tryd.pinned (OpenSpec.ofChange irSameSpec)

/-- ITS FALSE NEIGHBOUR: 'it returns false'. Refute it at one input. -/
def irSameWrong : ChangeSpec := { name := "irSame", fn := fun _ => fun
  | [d1, d2, d3] => { results := [.lit (.bool false)], args := [d1, d2, d3] }
  | _ => none }
def IrSameWrongFalsely : Prop := irSameRow.holds Tryd.pinned (OpenSpec.ofChange irSameWrong)

/-- 'spokeshavelaw8.IrWords': WHATEVER THE INPUT: true; the input reads as it did. -/
def irWordsSpec : ChangeSpec := { name := "irWords", fn := fun _ => fun
  | [d1, d2, d3] => { results := [.lit (.bool true)], args := [d1, d2, d3] }
  | _ => none }
def irWordsRow : OpenClaim := { program := "ytbfjmhfhhlncjaadoor", sum := "378acce0bf96861d5f167ecac0b8cfae07e036c7a7d13479dbea01262da23462", func := "spokeshave/spokeshavelaw8.IrWords", spec := "irWords", unfollowed := true, recurses := true, named := ["spokeshave/word.widths"], apart := false, laid := [("spokeshave/word.widths", laid_spokeshave_word_widths)] }
def IrWordsSaid : Prop := irWordsRow.holds Tryd.pinned (OpenSpec.ofChange irWordsSpec)

/-- ITS FALSE NEIGHBOUR: 'it returns false'. Refute it at one input. -/
def irWordsWrong : ChangeSpec := { name := "irWords", fn := fun _ => fun
  | [d1, d2, d3] => { results := [.lit (.bool false)], args := [d1, d2, d3] }
  | _ => none }
def IrWordsWrongFalsely : Prop := irWordsRow.holds Tryd.pinned (OpenSpec.ofChange irWordsWrong)

/-- 'spokeshavelaw8.IrMemory': WHATEVER THE INPUT: true; the input reads as it did. -/
def irMemorySpec : ChangeSpec := { name := "irMemory", fn := fun _ => fun
  | [d1, d2, d3, d4] => { results := [.lit (.bool true)], args := [d1, d2, d3, d4] }
  | _ => none }
def irMemoryRow : OpenClaim := { program := "ytbfjmhfhhlncjaadoor", sum := "378acce0bf96861d5f167ecac0b8cfae07e036c7a7d13479dbea01262da23462", func := "spokeshave/spokeshavelaw8.IrMemory", spec := "irMemory", unfollowed := true, recurses := true, named := ["spokeshave/word.widths"], apart := false, laid := [("spokeshave/word.widths", laid_spokeshave_word_widths)] }
def IrMemorySaid : Prop := irMemoryRow.holds Tryd.pinned (OpenSpec.ofChange irMemorySpec)

/-- ITS FALSE NEIGHBOUR: 'it returns false'. Refute it at one input. -/
def irMemoryWrong : ChangeSpec := { name := "irMemory", fn := fun _ => fun
  | [d1, d2, d3, d4] => { results := [.lit (.bool false)], args := [d1, d2, d3, d4] }
  | _ => none }
def IrMemoryWrongFalsely : Prop := irMemoryRow.holds Tryd.pinned (OpenSpec.ofChange irMemoryWrong)

/-- 'spokeshavelaw8.IrCalls': WHATEVER THE INPUT: true; the input reads as it did. -/
def irCallsSpec : ChangeSpec := { name := "irCalls", fn := fun _ => fun
  | [d1, d2] => { results := [.lit (.bool true)], args := [d1, d2] }
  | _ => none }
def irCallsRow : OpenClaim := { program := "ytbfjmhfhhlncjaadoor", sum := "378acce0bf96861d5f167ecac0b8cfae07e036c7a7d13479dbea01262da23462", func := "spokeshave/spokeshavelaw8.IrCalls", spec := "irCalls", unfollowed := true, recurses := true, named := ["spokeshave/word.widths"], apart := false, laid := [("spokeshave/word.widths", laid_spokeshave_word_widths)] }
def IrCallsSaid : Prop := irCallsRow.holds Tryd.pinned (OpenSpec.ofChange irCallsSpec)

/-- ITS FALSE NEIGHBOUR: 'it returns false'. Refute it at one input. -/
def irCallsWrong : ChangeSpec := { name := "irCalls", fn := fun _ => fun
  | [d1, d2] => { results := [.lit (.bool false)], args := [d1, d2] }
  | _ => none }
def IrCallsWrongFalsely : Prop := irCallsRow.holds Tryd.pinned (OpenSpec.ofChange irCallsWrong)

/- THE SECOND FORM. 'bulk': how many values and letters a reading holds, each counted each time it is reached (what is shared counts as often as it is met; a slice's spare places count too). A statement '..UptoSaid' is the law's where the arguments, and the package variables that the reading takes, are together of bulk at most 1048576: NARROWER than '..Said'. Prove '..Said' where nothing that the law and all that it calls make is longer than what came in: it says more and counts as full. Else prove '..UptoSaid'. A law counts once. -/
mutual
def uptoBulk {H : Type} : DataW H → Nat
  | .lit (.string bytes) => bytes.length + 1
  | .lit _ => 1
  | .nil => 1
  | .ptr d => uptoBulk d + 1
  | .slice elems spare => uptoBulkAll elems + uptoBulkAll spare + 1
  | .agg parts => uptoBulkAll parts + 1
  | .iface _ d => uptoBulk d + 1
  | .map entries => uptoBulkEntries entries + 1
  | .held _ => 1
def uptoBulkAll {H : Type} : List (DataW H) → Nat
  | [] => 0
  | d :: r => uptoBulk d + uptoBulkAll r
def uptoBulkEntries {H : Type} : List (Lit × DataW H) → Nat
  | [] => 0
  | x :: r => uptoBulkEntry x + uptoBulkEntries r
def uptoBulkEntry {H : Type} : Lit × DataW H → Nat
  | (.string bytes, d) => bytes.length + uptoBulk d + 1
  | (_, d) => uptoBulk d + 1
 end
def uptoSmall : (H : Type) → List (DataW H) → Bool := fun _ ds => decide (uptoBulkAll ds ≤ 1048576)
def OpenSpec.upto (s : _root_.Go.ChangeSpec) : _root_.Go.OpenSpec := { _root_.Go.OpenSpec.ofChange s with cond := some uptoSmall }

/-- 'spokeshavelaw8.IrIns', WHERE WHAT IT READS IS OF BULK AT MOST 1048576: true; the input reads as it did. -/
def irInsUptoRow : OpenClaim := { program := "ytbfjmhfhhlncjaadoor", sum := "378acce0bf96861d5f167ecac0b8cfae07e036c7a7d13479dbea01262da23462", func := "spokeshave/spokeshavelaw8.IrIns", spec := "irIns", unfollowed := true, recurses := true, named := ["spokeshave/word.widths"], apart := false, laid := [("spokeshave/word.widths", laid_spokeshave_word_widths)], narrowed := true }
def IrInsUptoSaid : Prop := irInsUptoRow.holds Tryd.pinned (OpenSpec.upto irInsSpec)

/-- 'spokeshavelaw8.IrSame', WHERE WHAT IT READS IS OF BULK AT MOST 1048576: true; the input reads as it did. -/
def irSameUptoRow : OpenClaim := { program := "ytbfjmhfhhlncjaadoor", sum := "378acce0bf96861d5f167ecac0b8cfae07e036c7a7d13479dbea01262da23462", func := "spokeshave/spokeshavelaw8.IrSame", spec := "irSame", unfollowed := true, recurses := true, named := ["spokeshave/word.widths"], apart := false, laid := [("spokeshave/word.widths", laid_spokeshave_word_widths)], narrowed := true }
def IrSameUptoSaid : Prop := irSameUptoRow.holds Tryd.pinned (OpenSpec.upto irSameSpec)

/-- 'spokeshavelaw8.IrWords', WHERE WHAT IT READS IS OF BULK AT MOST 1048576: true; the input reads as it did. -/
def irWordsUptoRow : OpenClaim := { program := "ytbfjmhfhhlncjaadoor", sum := "378acce0bf96861d5f167ecac0b8cfae07e036c7a7d13479dbea01262da23462", func := "spokeshave/spokeshavelaw8.IrWords", spec := "irWords", unfollowed := true, recurses := true, named := ["spokeshave/word.widths"], apart := false, laid := [("spokeshave/word.widths", laid_spokeshave_word_widths)], narrowed := true }
def IrWordsUptoSaid : Prop := irWordsUptoRow.holds Tryd.pinned (OpenSpec.upto irWordsSpec)

/-- 'spokeshavelaw8.IrMemory', WHERE WHAT IT READS IS OF BULK AT MOST 1048576: true; the input reads as it did. -/
def irMemoryUptoRow : OpenClaim := { program := "ytbfjmhfhhlncjaadoor", sum := "378acce0bf96861d5f167ecac0b8cfae07e036c7a7d13479dbea01262da23462", func := "spokeshave/spokeshavelaw8.IrMemory", spec := "irMemory", unfollowed := true, recurses := true, named := ["spokeshave/word.widths"], apart := false, laid := [("spokeshave/word.widths", laid_spokeshave_word_widths)], narrowed := true }
def IrMemoryUptoSaid : Prop := irMemoryUptoRow.holds Tryd.pinned (OpenSpec.upto irMemorySpec)

/-- 'spokeshavelaw8.IrCalls', WHERE WHAT IT READS IS OF BULK AT MOST 1048576: true; the input reads as it did. -/
def irCallsUptoRow : OpenClaim := { program := "ytbfjmhfhhlncjaadoor", sum := "378acce0bf96861d5f167ecac0b8cfae07e036c7a7d13479dbea01262da23462", func := "spokeshave/spokeshavelaw8.IrCalls", spec := "irCalls", unfollowed := true, recurses := true, named := ["spokeshave/word.widths"], apart := false, laid := [("spokeshave/word.widths", laid_spokeshave_word_widths)], narrowed := true }
def IrCallsUptoSaid : Prop := irCallsUptoRow.holds Tryd.pinned (OpenSpec.upto irCallsSpec)

end Rows
end Go.Proofs.YtbfjmhfhhlncjaaDoor
