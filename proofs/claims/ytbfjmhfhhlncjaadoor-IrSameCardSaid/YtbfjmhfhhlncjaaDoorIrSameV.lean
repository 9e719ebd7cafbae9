/- ir.sameIns. -/
import Derived.Test.YtbfjmhfhhlncjaaDoorIrSameT
import Derived.Test.YtbfjmhfhhlncjaaDoorIrP
import Derived.Deep.LoopGhost
namespace Go.Proofs.YtbfjmhfhhlncjaaDoor
open Go.RowKit
set_option linter.unusedVariables false
set_option linter.unusedSimpArgs false

set_option maxRecDepth 100000 in
set_option maxHeartbeats 12800000 in
theorem sameIns_3 (x y : Ix) (w : World) (hx : IxOk w x) (hy : IxOk w y) (t0 : x.op = y.op) (t1 : x.sub = y.sub) (t2 : x.d = y.d) (t3 : ¬ x.a = y.a) :
    Calls Tryd.prog 74 #[ia x, ia y] w fun e w' => e = .returned (.bool (x.same y)) ∧ Keeps No w w' := by
  obtain ⟨X, hX⟩ : ∃ Q, x.same y = Q := ⟨_, rfl⟩
  rw [hX]
  unfold Ix.same at hX
  have HXO := Lib.hid hx
  have HYO := Lib.hid hy
  clear hx hy
  obtain ⟨op, sub, d, a, bb, n, wb, ws, ⟨a1, n1, c1, l1⟩, ⟨a2, n2, c2, l2⟩, ⟨a3, n3, c3, l3⟩⟩ := x
  obtain ⟨op', sub', d', a', bb', n', wb', ws', ⟨a1', n1', c1', l1'⟩, ⟨a2', n2', c2', l2'⟩, ⟨a3', n3', c3', l3'⟩⟩ := y
  simp only at t0 t1 t2 t3
  have HF : Hid (X = false) := Lib.hid (hX.symm.trans (decide_eq_false (fun e => t3 e.2.2.2.1)))
  have u0 : (op == op') = true := beq_iff_eq.2 t0
  have u1 : (sub == sub') = true := beq_iff_eq.2 t1
  have u2 : (d == d') = true := beq_iff_eq.2 t2
  have u3 : (a == a') = false := beq_eq_false_iff_ne.2 t3
  clear hX t0 t1 t2 t3
  dsimp only [ia, Sl.v]
  go_enter Tryd.func74, Tryd.ntmps74
  go_wp2_with fail
  go_returns
  exact ⟨rb rfl HF.out.symm, ((Keeps.refl _ _).alloc _).alloc _⟩

set_option maxRecDepth 100000 in
set_option maxHeartbeats 12800000 in
theorem sameIns_4 (x y : Ix) (w : World) (hx : IxOk w x) (hy : IxOk w y) (t0 : x.op = y.op) (t1 : x.sub = y.sub) (t2 : x.d = y.d) (t3 : x.a = y.a) (t4 : ¬ x.b = y.b) :
    Calls Tryd.prog 74 #[ia x, ia y] w fun e w' => e = .returned (.bool (x.same y)) ∧ Keeps No w w' := by
  obtain ⟨X, hX⟩ : ∃ Q, x.same y = Q := ⟨_, rfl⟩
  rw [hX]
  unfold Ix.same at hX
  have HXO := Lib.hid hx
  have HYO := Lib.hid hy
  clear hx hy
  obtain ⟨op, sub, d, a, bb, n, wb, ws, ⟨a1, n1, c1, l1⟩, ⟨a2, n2, c2, l2⟩, ⟨a3, n3, c3, l3⟩⟩ := x
  obtain ⟨op', sub', d', a', bb', n', wb', ws', ⟨a1', n1', c1', l1'⟩, ⟨a2', n2', c2', l2'⟩, ⟨a3', n3', c3', l3'⟩⟩ := y
  simp only at t0 t1 t2 t3 t4
  have HF : Hid (X = false) := Lib.hid (hX.symm.trans (decide_eq_false (fun e => t4 e.2.2.2.2.1)))
  have u0 : (op == op') = true := beq_iff_eq.2 t0
  have u1 : (sub == sub') = true := beq_iff_eq.2 t1
  have u2 : (d == d') = true := beq_iff_eq.2 t2
  have u3 : (a == a') = true := beq_iff_eq.2 t3
  have u4 : (bb == bb') = false := beq_eq_false_iff_ne.2 t4
  clear hX t0 t1 t2 t3 t4
  dsimp only [ia, Sl.v]
  go_enter Tryd.func74, Tryd.ntmps74
  go_wp2_with fail
  go_returns
  exact ⟨rb rfl HF.out.symm, ((Keeps.refl _ _).alloc _).alloc _⟩

set_option maxRecDepth 100000 in
set_option maxHeartbeats 12800000 in
theorem sameIns_5 (x y : Ix) (w : World) (hx : IxOk w x) (hy : IxOk w y) (t0 : x.op = y.op) (t1 : x.sub = y.sub) (t2 : x.d = y.d) (t3 : x.a = y.a) (t4 : x.b = y.b) (t5 : ¬ x.n = y.n) :
    Calls Tryd.prog 74 #[ia x, ia y] w fun e w' => e = .returned (.bool (x.same y)) ∧ Keeps No w w' := by
  obtain ⟨X, hX⟩ : ∃ Q, x.same y = Q := ⟨_, rfl⟩
  rw [hX]
  unfold Ix.same at hX
  have HXO := Lib.hid hx
  have HYO := Lib.hid hy
  clear hx hy
  obtain ⟨op, sub, d, a, bb, n, wb, ws, ⟨a1, n1, c1, l1⟩, ⟨a2, n2, c2, l2⟩, ⟨a3, n3, c3, l3⟩⟩ := x
  obtain ⟨op', sub', d', a', bb', n', wb', ws', ⟨a1', n1', c1', l1'⟩, ⟨a2', n2', c2', l2'⟩, ⟨a3', n3', c3', l3'⟩⟩ := y
  simp only at t0 t1 t2 t3 t4 t5
  have HF : Hid (X = false) := Lib.hid (hX.symm.trans (decide_eq_false (fun e => t5 e.2.2.2.2.2.1)))
  have u0 : (op == op') = true := beq_iff_eq.2 t0
  have u1 : (sub == sub') = true := beq_iff_eq.2 t1
  have u2 : (d == d') = true := beq_iff_eq.2 t2
  have u3 : (a == a') = true := beq_iff_eq.2 t3
  have u4 : (bb == bb') = true := beq_iff_eq.2 t4
  have u5 : (n == n') = false := beq_eq_false_iff_ne.2 t5
  clear hX t0 t1 t2 t3 t4 t5
  dsimp only [ia, Sl.v]
  go_enter Tryd.func74, Tryd.ntmps74
  go_wp2_with fail
  go_returns
  exact ⟨rb rfl HF.out.symm, ((Keeps.refl _ _).alloc _).alloc _⟩
end Go.Proofs.YtbfjmhfhhlncjaaDoor
