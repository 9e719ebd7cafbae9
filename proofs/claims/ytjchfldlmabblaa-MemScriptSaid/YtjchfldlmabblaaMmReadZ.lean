/- Read: of what is not held. -/
import Derived.Test.YtjchfldlmabblaaMmRead
namespace Go.Proofs.Ytjchfldlmabblaa
open Go.RowKit Go.Maps
set_option linter.unusedVariables false

theorem str_ne (a b : ByteArray) (h : a ≠ b) : (a.toList == b.toList) = false := by
  rw [beq_eq_false_iff_ne]
  intro e
  rw [ByteArray.toList_eq, ByteArray.toList_eq] at e
  apply h
  obtain ⟨⟨x⟩⟩ := a
  obtain ⟨⟨y⟩⟩ := b
  simp only at e
  subst e; rfl
theorem new_c (W : World) (o : Obj) : (W.alloc o).drew.heap[W.heap.size]? = some o ∧ W.heap.size ≤ W.heap.size ∧ Keeps No W (W.alloc o).drew :=
  ⟨heap_alloc_new _ _, Nat.le_refl _, ((Keeps.refl _ _).alloc _).drew⟩
theorem look_nil (o : Int) (t : ByteArray) (w : World) : (Instr.lookup 97 (.map none) (.agg #[.int .i64 o, .string t]) true).run Try.prog w = .ok (.tuple #[va v0, .bool false]) w := by kernel_rfl
end Go.Proofs.Ytjchfldlmabblaa
