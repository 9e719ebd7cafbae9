/- Rows of numbers that grow. -/
import Derived.Test.YtkiimljdoebclaaDoorIrLeaf
import Derived.Deep.AppendLies
import Derived.OwnWalk
import Derived.Deep.DeepCutAuto
import Derived.Test.YtkiimljdoebclaaDoorMix
namespace Go.Proofs.YtkiimljdoebclaaDoor
open Go.RowKit
set_option linter.unusedVariables false
set_option linter.unusedSimpArgs false

def irow (l : List Int) : List Value := l.map (fun z => .int .i64 z)
theorem infoI : (Tryd.prog.info? 3).map (fun i => (i.zero, i.size, i.bytes)) = some (some (.int .i64 0), 1, 8) := by kernel_rfl
theorem irow_one (l : List Int) : ∀ u ∈ irow l, u.oneCell' = true := by
  intro u hu; unfold irow at hu; obtain ⟨z, _, rfl⟩ := List.mem_map.1 hu; rfl
theorem irow_app (a b : List Int) : irow (a ++ b) = irow a ++ irow b := by unfold irow; rw [List.map_append]
theorem irow_get {l : List Int} {i : Nat} {z : Int} (h : l[i]? = some z) : (irow l)[i]? = some (.int .i64 z) := by unfold irow; rw [List.getElem?_map, h]; rfl
theorem irow_of {l : List Int} {i : Nat} {u : Value} (h : (irow l)[i]? = some u) : ∃ z, l[i]? = some z ∧ u = .int .i64 z := by
  unfold irow at h; rw [List.getElem?_map] at h
  cases e : l[i]? with
  | none => rw [e] at h; cases h
  | some z => rw [e] at h; injection h with h; exact ⟨z, rfl, h.symm⟩
/-- Numbers are appended, at the operation. -/
theorem wpList_appIs (w : World) {ops : Array Oper} {rest : List Oper} {o : Oper} {a : Act} {Q : Exit → Act → World → Prop} (hgd : o.guard = none) (s x : Operand) (t : TypeId)
    (ho : o.op = .call { callee := .builtin .append, args := #[s, x], argTypes := #[t, t] }) (ht : Tryd.prog.underlying t = some (.slice 3))
    (B : Nat) (v : Value) (n : Nat) (l1 l2 : List Int) (g off m c T : Nat) (hT : n + m = T) (hs : a.eval s = v) (hown : w.ownsRow B 3 1 v n (irow l1)) (hx : a.eval x = .slice (some ⟨g, off, none⟩) m c) (hl : l2.length = m) (hm : 0 < m) (hc : ∀ (j : Nat) z, l2[j]? = some z → w.cell? ⟨g, off + j, none⟩ = some (.int .i64 z))
    (hn : n + m ≤ 1000000) (hB : B ≤ w.heap.size)
    (h : ∀ g' cap w', w'.ownsRow B 3 1 (.slice (some ⟨g', 0, none⟩) T cap) T (irow (l1 ++ l2)) → w.grownBy w' v.ownBlock → wpList Tryd.prog ops Q rest (a.put o.dst (.slice (some ⟨g', 0, none⟩) T cap)) w') : wpList Tryd.prog ops Q (o :: rest) a w := by
  subst hT
  obtain ⟨i0, hi, hz0, hz1, hz2⟩ := info_parts infoI
  refine wpList_append_lies w hgd s x t ho B 3 i0 (.int .i64 0) 1 8 ht hi hz0 hz1 hz2 rfl (by decide) v n (irow l1) hs hown ⟨g, off, none⟩ m c (irow l2) hx (by unfold irow; rw [List.length_map, hl, Nat.mul_one]) (fun j u hu => ?_) (irow_one l2) hm (by unfold maxLen; omega) (by omega) hB _ rfl (fun g' cap w' k1 k2 k3 _ => h g' cap w' (by rw [irow_app]; exact k1) k2)
  obtain ⟨z, hz, rfl⟩ := irow_of hu
  have e : (⟨g, off, none⟩ : Addr).add j = ⟨g, off + j, none⟩ := by unfold Addr.add; split <;> simp_all
  rw [e]; exact hc j z hz
theorem wpList_appI (w : World) {ops : Array Oper} {rest : List Oper} {o : Oper} {a : Act} {Q : Exit → Act → World → Prop} (hgd : o.guard = none) (s x : Operand) (t : TypeId)
    (ho : o.op = .call { callee := .builtin .append, args := #[s, x], argTypes := #[t, t] }) (ht : Tryd.prog.underlying t = some (.slice 3))
    (B : Nat) (v : Value) (n : Nat) (l1 : List Int) (z : Int) (q : Nat) (hs : a.eval s = v) (hown : w.ownsRow B 3 1 v n (irow l1)) (hx : a.eval x = .slice (some ⟨q, 0, none⟩) 1 1) (hq : w.heap[q]? = some (.cells #[.int .i64 z] 3 (0, 0)))
    (hn : n ≤ 999999) (hB : B ≤ w.heap.size)
    (h : ∀ g' cap w', w'.ownsRow B 3 1 (.slice (some ⟨g', 0, none⟩) (n + 1) cap) (n + 1) (irow (l1 ++ [z])) → w.grownBy w' v.ownBlock → wpList Tryd.prog ops Q rest (a.put o.dst (.slice (some ⟨g', 0, none⟩) (n + 1) cap)) w') : wpList Tryd.prog ops Q (o :: rest) a w :=
  by
  have hc : ∀ (j : Nat) y, [z][j]? = some y → w.cell? ⟨q, 0 + j, none⟩ = some (.int .i64 y) := fun j y hy => by
    cases j with
    | zero => obtain rfl : z = y := by simpa using hy
              unfold World.cell?; simp only; rw [hq]; rfl
    | succ j => cases hy
  have hn' : n + 1 ≤ 1000000 := by omega
  exact wpList_appIs w hgd s x t ho ht B v n l1 [z] q 0 1 1 (n + 1) rfl hs hown hx rfl (by decide) hc hn' hB h
/-- Nothing is appended. -/
theorem wpList_app0 (w : World) {ops : Array Oper} {rest : List Oper} {o : Oper} {a : Act} {Q : Exit → Act → World → Prop} (hgd : o.guard = none) (s x : Operand) (t e : TypeId)
    (ho : o.op = .call { callee := .builtin .append, args := #[s, x], argTypes := #[t, t] }) (ht : Tryd.prog.underlying t = some (.slice e)) {z : Value} {size bytes : Nat} (hinf : (Tryd.prog.info? e).map (fun i => (i.zero, i.size, i.bytes)) = some (some z, size, bytes))
    (B : Nat) (v : Value) (n : Nat) (xs : List Value) (hown : w.ownsRow B e size v n xs) (hs : a.eval s = v) (ca : Option Addr) (c : Nat) (hx : a.eval x = .slice ca 0 c) (h : wpList Tryd.prog ops Q rest (a.put o.dst v) w) : wpList Tryd.prog ops Q (o :: rest) a w := by
  obtain ⟨i0, hi, hz0, hz1, hz2⟩ := info_parts hinf
  have hrun : ∀ ty, (Builtin.append_ #[t, t] ty #[v, .slice ca 0 c]).run Tryd.prog w = .ok v w := fun ty => by
    rcases hown.2 with ⟨rfl, rfl⟩ | ⟨g, cap, cur, rfl, _, _, hnc, _⟩
    · cases ca <;> simp [Builtin.append_, run_underlying ht, sizeOf, typeInfo, hi, Builtin.lenOf, Builtin.firstCells, storeCells, loadCells, loadCellsFrom]
    · cases ca <;> simp [Builtin.append_, run_underlying ht, sizeOf, typeInfo, hi, Builtin.lenOf, Builtin.firstCells, storeCells, loadCells, loadCellsFrom, hnc]
  refine wpList_plain hgd fun K hK' => ?_
  unfold Oper.wp
  simp [execOp, ho, resolve, invoke, builtin, hs, hx, hrun, Result.andThen]
  exact hK' _ _ h
/-- A row of numbers of the call's own. -/
structure Own (w0 w : World) (v : Value) (l : List Int) : Prop where
  o : w.ownsRow w0.heap.size 3 1 v l.length (irow l)
  k : Keeps No w0 w
theorem Own.nil (w : World) : Own w w (.slice none 0 0) [] := ⟨World.ownsRow_nil _ _ _ _, Keeps.refl _ _⟩
end Go.Proofs.YtkiimljdoebclaaDoor
