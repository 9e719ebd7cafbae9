/- ir.sameIns. -/
import Derived.Test.YtbfjmhfhhlncjaaDoorIrSameA
import Derived.Test.YtbfjmhfhhlncjaaDoorIrP
import Derived.Deep.LoopGhost
namespace Go.Proofs.YtbfjmhfhhlncjaaDoor
open Go.RowKit
set_option linter.unusedVariables false
set_option linter.unusedSimpArgs false

def Ix.same (x y : Ix) : Bool := decide (x.op = y.op ∧ x.sub = y.sub ∧ x.d = y.d ∧ x.a = y.a ∧ x.b = y.b ∧ x.n = y.n ∧ x.wb = y.wb ∧ x.ws = y.ws ∧ x.args.l = y.args.l ∧ x.to.l = y.to.l ∧ x.cases_.l = y.cases_.l)

set_option maxRecDepth 100000 in
set_option maxHeartbeats 12800000 in
theorem sameIns_eq (x y : Ix) (w : World) (hx : IxOk w x) (hy : IxOk w y) (t0 : x.op = y.op) (t1 : x.sub = y.sub) (t2 : x.d = y.d) (t3 : x.a = y.a) (t4 : x.b = y.b) (t5 : x.n = y.n) (t6 : x.wb = y.wb) (t7 : x.ws = y.ws) :
    Calls Tryd.prog 74 #[ia x, ia y] w fun e w' => e = .returned (.bool (x.same y)) ∧ Keeps No w w' := by
  obtain ⟨X, hX⟩ : ∃ Q, x.same y = Q := ⟨_, rfl⟩
  rw [hX]
  unfold Ix.same at hX
  have HXO := Lib.hid hx
  have HYO := Lib.hid hy
  clear hx hy
  obtain ⟨op, sub, d, a, bb, n, wb, ws, ⟨a1, n1, c1, l1⟩, ⟨a2, n2, c2, l2⟩, ⟨a3, n3, c3, l3⟩⟩ := x
  obtain ⟨op', sub', d', a', bb', n', wb', ws', ⟨a1', n1', c1', l1'⟩, ⟨a2', n2', c2', l2'⟩, ⟨a3', n3', c3', l3'⟩⟩ := y
  simp only at t0 t1 t2 t3 t4 t5 t6 t7
  subst t6
  subst t7
  have u0 : (op == op') = true := beq_iff_eq.2 t0
  have u1 : (sub == sub') = true := beq_iff_eq.2 t1
  have u2 : (d == d') = true := beq_iff_eq.2 t2
  have u3 : (a == a') = true := beq_iff_eq.2 t3
  have u4 : (bb == bb') = true := beq_iff_eq.2 t4
  have u5 : (n == n') = true := beq_iff_eq.2 t5
  obtain ⟨X1, hX1⟩ : ∃ Q, decide (l1 = l1') = Q := ⟨_, rfl⟩
  obtain ⟨X2, hX2⟩ : ∃ Q, decide (l2 = l2') = Q := ⟨_, rfl⟩
  obtain ⟨X3, hX3⟩ : ∃ Q, decide (l3 = l3') = Q := ⟨_, rfl⟩
  have HX : Hid (X = (decide (l1 = l1') && (decide (l2 = l2') && decide (l3 = l3')))) := Lib.hid (by
    rw [← hX, ← Bool.decide_and, ← Bool.decide_and]
    exact decide_eq_decide.2 ⟨fun e => e.2.2.2.2.2.2.2.2, fun e => ⟨t0, t1, t2, t3, t4, t5, rfl, rfl, e⟩⟩)
  have HX1 := Lib.hid hX1
  have HX2 := Lib.hid hX2
  have HX3 := Lib.hid hX3
  have HC1 := Lib.hid (fun (W : World) (hk : Keeps No w W) => eq_ints ⟨a1, n1, c1, l1⟩ ⟨a1', n1', c1', l1'⟩ W (HXO.out.args.no hk) (HYO.out.args.no hk))
  have HC2 := Lib.hid (fun (W : World) (hk : Keeps No w W) => eq_ints ⟨a2, n2, c2, l2⟩ ⟨a2', n2', c2', l2'⟩ W (HXO.out.to.no hk) (HYO.out.to.no hk))
  have HC3 := Lib.hid (fun (W : World) (hk : Keeps No w W) => eq_nums ⟨a3, n3, c3, l3⟩ ⟨a3', n3', c3', l3'⟩ W (HXO.out.cases_.no hk) (HYO.out.cases_.no hk))
  dsimp only [Sl.v] at HC1 HC2 HC3
  rw [hX1] at HC1
  rw [hX2] at HC2
  rw [hX3] at HC3
  clear hX hX1 hX2 hX3 t0 t1 t2 t3 t4 t5
  dsimp only [ia, Sl.v]
  go_enter Tryd.func74, Tryd.ntmps74
  go_wp2_with fail
  have HK1 : Hid (Keeps No w _) := Lib.hid (((Keeps.refl No w).alloc (.cells #[.int .i64 op, .int .i64 sub, .int .i64 d, .int .i64 a, .int .i64 bb, .int .i64 n, .int .i64 wb, .bool ws, .slice a1 n1 c1, .slice a2 n2 c2, .slice a3 n3 c3] 27)).alloc (.cells #[.int .i64 op', .int .i64 sub', .int .i64 d', .int .i64 a', .int .i64 bb', .int .i64 n', .int .i64 wb, .bool ws, .slice a1' n1' c1', .slice a2' n2' c2', .slice a3' n3' c3'] 27))
  refine (HC1.out _ HK1.out).mono ?_
  rintro e w1 ⟨rfl, m1, rfl⟩
  have HK2 := Lib.hid (HK1.out.drewN (m1))
  cases X1 with
  | false =>
    have HF : Hid (X = false) := Lib.hid (by rw [HX.out, HX1.out]; simp)
    go_wp2_with fail
    go_returns
    exact ⟨rb rfl HF.out.symm, HK2.out⟩
  | true =>
    go_wp2_with fail
    refine (HC2.out _ HK2.out).mono ?_
    rintro e w2 ⟨rfl, m2, rfl⟩
    have HK3 := Lib.hid (HK1.out.drewN (m1 + m2))
    cases X2 with
    | false =>
      have HF : Hid (X = false) := Lib.hid (by rw [HX.out, HX2.out]; simp)
      go_wp2_with fail
      go_returns
      exact ⟨rb rfl HF.out.symm, HK3.out⟩
    | true =>
      go_wp2_with fail
      refine (HC3.out _ HK3.out).mono ?_
      rintro e w3 ⟨rfl, m3, rfl⟩
      have HK4 := Lib.hid (HK1.out.drewN (m1 + m2 + m3))
      cases X3 with
      | false =>
        have HF : Hid (X = false) := Lib.hid (by rw [HX.out, HX3.out]; simp)
        go_wp2_with fail
        go_returns
        exact ⟨rb rfl HF.out.symm, HK4.out⟩
      | true =>
        go_wp2_with fail
        have HF : Hid (X = true) := Lib.hid (by rw [HX.out, HX1.out, HX2.out, HX3.out]; rfl)
        go_returns
        exact ⟨rb rfl HF.out.symm, HK4.out⟩
end Go.Proofs.YtbfjmhfhhlncjaaDoor
