/- The law IrWords: a row of instructions that grows. -/
import Derived.Test.YtbfjmhfhhlncjaaDoorIrWordsB
import Derived.Deep.AppendLies
namespace Go.Proofs.YtbfjmhfhhlncjaaDoor
open Go.RowKit
set_option linter.unusedVariables false
set_option linter.unusedSimpArgs false

theorem infoX : (Tryd.prog.info? 27).map (fun i => (i.zero, i.size, i.bytes)) = some (some (ia ⟨0, 0, 0, 0, 0, 0, 0, false, sl0, sl0, sl0⟩), 11, 136) := by kernel_rfl
theorem icells_app (a b : List Ix) : icells (a ++ b) = icells a ++ icells b := by unfold icells; rw [List.flatMap_append]
theorem icells_len (l : List Ix) : (icells l).length = l.length * 11 := by
  induction l with
  | nil => rfl
  | cons x l ih => unfold icells at *; rw [List.flatMap_cons, List.length_append, ih, ix_len, List.length_cons]; omega
theorem icells_one (l : List Ix) : ∀ u ∈ icells l, u.oneCell' = true := by
  intro u hu
  unfold icells at hu
  obtain ⟨x, _, hx⟩ := List.mem_flatMap.1 hu
  unfold Ix.cells at hx
  simp only [List.mem_cons, List.not_mem_nil, or_false] at hx
  rcases hx with rfl | rfl | rfl | rfl | rfl | rfl | rfl | rfl | rfl | rfl | rfl <;> rfl
/-- Instructions are appended, at the operation. -/
theorem wpList_appX (w : World) {ops : Array Oper} {rest : List Oper} {o : Oper} {a : Act} {Q : Exit → Act → World → Prop} (hgd : o.guard = none) (s x : Operand) (t : TypeId)
    (ho : o.op = .call { callee := .builtin .append, args := #[s, x], argTypes := #[t, t] }) (ht : Tryd.prog.underlying t = some (.slice 27))
    (B : Nat) (v : Value) (n : Nat) (l1 lx : List Ix) (m : Nat) (q : Nat) (hs : a.eval s = v) (hown : w.ownsRow B 27 11 v n (icells l1)) (hx : a.eval x = .slice (some ⟨q, 0, none⟩) m m) (hq : w.heap[q]? = some (.cells (icells lx).toArray 27 (0, 0))) (hm : lx.length = m) (hm0 : 0 < m ∧ m ≤ 1000)
    (hn : n ≤ 999999) (hB : B ≤ w.heap.size) (T : Nat) (hT : n + m = T)
    (h : ∀ g' cap w', w'.ownsRow B 27 11 (.slice (some ⟨g', 0, none⟩) T cap) T (icells (l1 ++ lx)) → w.grownBy w' v.ownBlock → wpList Tryd.prog ops Q rest (a.put o.dst (.slice (some ⟨g', 0, none⟩) T cap)) w') : wpList Tryd.prog ops Q (o :: rest) a w := by
  subst hT
  obtain ⟨i0, hi, hz0, hz1, hz2⟩ := info_parts infoX
  refine wpList_append_lies w hgd s x t ho B 27 i0 _ 11 136 ht hi hz0 hz1 hz2 rfl (by decide) v n (icells l1) hs hown ⟨q, 0, none⟩ m m (icells lx) hx (by rw [icells_len, hm]) (fun j u hu => ?_) (icells_one lx) hm0.1 (by unfold maxLen; omega) (by omega) hB _ rfl (fun g' cap w' k1 k2 k3 _ => h g' cap w' (by rw [icells_app]; exact k1) k2)
  have e : (⟨q, 0, none⟩ : Addr).add j = ⟨q, 0 + j, none⟩ := by unfold Addr.add; split <;> simp_all
  rw [e, Nat.zero_add, cell_of_row w q _ _ _ _ hq, List.getElem?_toArray]
  exact hu
end Go.Proofs.YtbfjmhfhhlncjaaDoor
