/- Great frames: what is known of some slots, without a letter for each of the others. -/
import Derived.Deep.LoopGhost
import Derived.Deep.Cut
import Derived.KernelRfl
namespace Go.Proofs.YtbfjmhfhhlncjaaDoor
open Go
set_option linter.unusedVariables false
set_option linter.unusedSimpArgs false

def FrAt (l : List Value) : List (Nat × Value) → Prop
  | [] => True
  | (k, v) :: t => l[k]? = some v ∧ FrAt l t
/-- A frame of N slots, some of which hold this. -/
def Fr (N : Nat) (ks : List (Nat × Value)) (a : Act) : Prop := ∃ l : List Value, l.length = N ∧ FrAt l ks ∧ a = ⟨l.toArray, []⟩
theorem list_eta (l : List Value) : l = (List.range l.length).map (fun k => l.getD k undef) := by
  apply List.ext_getElem?
  intro j
  by_cases hj : j < l.length
  · simp [List.getElem?_map, List.getElem?_range hj, hj]
  · rw [List.getElem?_eq_none (by omega), List.getElem?_eq_none (by simp; omega)]
end Go.Proofs.YtbfjmhfhhlncjaaDoor
