/- walk.Uses, ir.Uses. -/
import Derived.Test.YtkiimljdoebclaaDoorIrRow
namespace Go.Proofs.YtkiimljdoebclaaDoor
open Go.RowKit
set_option linter.unusedVariables false
set_option linter.unusedSimpArgs false

def opt (b : Bool) (l : List Int) : List Int := if b then l else []
theorem opt_t (l : List Int) : opt true l = l := rfl
theorem opt_f (l : List Int) : opt false l = [] := rfl
theorem opt_len (b : Bool) (z : Int) : (opt b [z]).length ≤ 1 := by cases b <;> simp [opt]
/-- The document's and the program's rows of what an instruction reads. -/
theorem ix_boxed (x : Ix) (w : World) (t : TypeId) : x.at_ (w.alloc (.cells #[.int .i64 x.op, .int .i64 x.sub, .int .i64 x.d, .int .i64 x.a, .int .i64 x.b, .int .i64 x.n, .int .i64 x.wb, .bool x.ws, x.args.v, x.to.v, x.cases_.v] t)) w.heap.size 0 := fun j v hj => by
  rw [World.cell?_alloc_at _ _ _ _ rfl, Nat.zero_add]
  rw [List.getElem?_toArray]; exact hj
theorem Own.of {w0 w w' : World} {v : Value} {l : List Int} (h : Own w w' v l) (hk : Keeps No w0 w) : Own w0 w' v l := ⟨own_mono h.o hk.size, hk.trans h.k (fun _ _ e => e)⟩
end Go.Proofs.YtkiimljdoebclaaDoor
