/- ir.sameIns. -/
import Derived.Test.YtbfjmhfhhlncjaaDoorIrSameT
import Derived.Test.YtbfjmhfhhlncjaaDoorIrP
import Derived.Deep.LoopGhost
namespace Go.Proofs.YtbfjmhfhhlncjaaDoor
open Go.RowKit
set_option linter.unusedVariables false
set_option linter.unusedSimpArgs false

set_option maxRecDepth 100000 in
set_option maxHeartbeats 12800000 in
theorem sameIns_0 (x y : Ix) (w : World) (hx : IxOk w x) (hy : IxOk w y) (t0 : ¬ x.op = y.op) :
    Calls Tryd.prog 74 #[ia x, ia y] w fun e w' => e = .returned (.bool (x.same y)) ∧ Keeps No w w' := by
  obtain ⟨X, hX⟩ : ∃ Q, x.same y = Q := ⟨_, rfl⟩
  rw [hX]
  unfold Ix.same at hX
  have HXO := Lib.hid hx
  have HYO := Lib.hid hy
  clear hx hy
  obtain ⟨op, sub, d, a, bb, n, wb, ws, ⟨a1, n1, c1, l1⟩, ⟨a2, n2, c2, l2⟩, ⟨a3, n3, c3, l3⟩⟩ := x
  obtain ⟨op', sub', d', a', bb', n', wb', ws', ⟨a1', n1', c1', l1'⟩, ⟨a2', n2', c2', l2'⟩, ⟨a3', n3', c3', l3'⟩⟩ := y
  simp only at t0
  have HF : Hid (X = false) := Lib.hid (hX.symm.trans (decide_eq_false (fun e => t0 e.1)))
  have u0 : (op == op') = false := beq_eq_false_iff_ne.2 t0
  clear hX t0
  dsimp only [ia, Sl.v]
  go_enter Tryd.func74, Tryd.ntmps74
  go_wp2_with fail
  go_returns
  exact ⟨rb rfl HF.out.symm, ((Keeps.refl _ _).alloc _).alloc _⟩

set_option maxRecDepth 100000 in
set_option maxHeartbeats 12800000 in
theorem sameIns_1 (x y : Ix) (w : World) (hx : IxOk w x) (hy : IxOk w y) (t0 : x.op = y.op) (t1 : ¬ x.sub = y.sub) :
    Calls Tryd.prog 74 #[ia x, ia y] w fun e w' => e = .returned (.bool (x.same y)) ∧ Keeps No w w' := by
  obtain ⟨X, hX⟩ : ∃ Q, x.same y = Q := ⟨_, rfl⟩
  rw [hX]
  unfold Ix.same at hX
  have HXO := Lib.hid hx
  have HYO := Lib.hid hy
  clear hx hy
  obtain ⟨op, sub, d, a, bb, n, wb, ws, ⟨a1, n1, c1, l1⟩, ⟨a2, n2, c2, l2⟩, ⟨a3, n3, c3, l3⟩⟩ := x
  obtain ⟨op', sub', d', a', bb', n', wb', ws', ⟨a1', n1', c1', l1'⟩, ⟨a2', n2', c2', l2'⟩, ⟨a3', n3', c3', l3'⟩⟩ := y
  simp only at t0 t1
  have HF : Hid (X = false) := Lib.hid (hX.symm.trans (decide_eq_false (fun e => t1 e.2.1)))
  have u0 : (op == op') = true := beq_iff_eq.2 t0
  have u1 : (sub == sub') = false := beq_eq_false_iff_ne.2 t1
  clear hX t0 t1
  dsimp only [ia, Sl.v]
  go_enter Tryd.func74, Tryd.ntmps74
  go_wp2_with fail
  go_returns
  exact ⟨rb rfl HF.out.symm, ((Keeps.refl _ _).alloc _).alloc _⟩

set_option maxRecDepth 100000 in
set_option maxHeartbeats 12800000 in
theorem sameIns_2 (x y : Ix) (w : World) (hx : IxOk w x) (hy : IxOk w y) (t0 : x.op = y.op) (t1 : x.sub = y.sub) (t2 : ¬ x.d = y.d) :
    Calls Tryd.prog 74 #[ia x, ia y] w fun e w' => e = .returned (.bool (x.same y)) ∧ Keeps No w w' := by
  obtain ⟨X, hX⟩ : ∃ Q, x.same y = Q := ⟨_, rfl⟩
  rw [hX]
  unfold Ix.same at hX
  have HXO := Lib.hid hx
  have HYO := Lib.hid hy
  clear hx hy
  obtain ⟨op, sub, d, a, bb, n, wb, ws, ⟨a1, n1, c1, l1⟩, ⟨a2, n2, c2, l2⟩, ⟨a3, n3, c3, l3⟩⟩ := x
  obtain ⟨op', sub', d', a', bb', n', wb', ws', ⟨a1', n1', c1', l1'⟩, ⟨a2', n2', c2', l2'⟩, ⟨a3', n3', c3', l3'⟩⟩ := y
  simp only at t0 t1 t2
  have HF : Hid (X = false) := Lib.hid (hX.symm.trans (decide_eq_false (fun e => t2 e.2.2.1)))
  have u0 : (op == op') = true := beq_iff_eq.2 t0
  have u1 : (sub == sub') = true := beq_iff_eq.2 t1
  have u2 : (d == d') = false := beq_eq_false_iff_ne.2 t2
  clear hX t0 t1 t2
  dsimp only [ia, Sl.v]
  go_enter Tryd.func74, Tryd.ntmps74
  go_wp2_with fail
  go_returns
  exact ⟨rb rfl HF.out.symm, ((Keeps.refl _ _).alloc _).alloc _⟩
end Go.Proofs.YtbfjmhfhhlncjaaDoor
