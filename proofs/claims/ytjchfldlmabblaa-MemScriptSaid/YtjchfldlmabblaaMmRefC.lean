/- The document's memory: Less, Distance. -/
import Derived.Test.YtjchfldlmabblaaMmRefB
namespace Go.Proofs.Ytjchfldlmabblaa
open Go.RowKit Go.Maps
set_option linter.unusedVariables false
set_option linter.unusedSimpArgs false

theorem rin_as (B : Nat) (R : Rd) (p : Vl) (X : Bool) (hX : inV R.view p = X) (w W : World) (h : RefAs B w R) (hk : Keeps No w W) :
    Calls Try.prog 38 #[.pointer (some ⟨R.r, 0, none⟩), va p] W fun e w' => e = .returned (.bool X) ∧ Keeps No W w' := by
  rw [← hX]; exact rin_any B R p W (h.no hk)
theorem one_prm (t : TypeId) (w : World) (p : Vl) {W : World} (h : Keeps No (w.alloc (.cells #[.int .i64 p.k, .int .i64 p.n, .int .i64 p.b, .int .i64 p.o] t)) W) :
    W.cell? ⟨w.heap.size, 0, none⟩ = some (.int .i64 p.k) ∧ W.cell? ⟨w.heap.size, 1, none⟩ = some (.int .i64 p.n) ∧ W.cell? ⟨w.heap.size, 2, none⟩ = some (.int .i64 p.b) ∧ W.cell? ⟨w.heap.size, 3, none⟩ = some (.int .i64 p.o) ∧ Hid (Keeps No w W) := by
  refine ⟨(KW.mk W h).cell ?_, (KW.mk W h).cell ?_, (KW.mk W h).cell ?_, (KW.mk W h).cell ?_, Lib.hid (((Keeps.refl _ _).alloc _).trans h (fun _ _ e => e))⟩ <;> (rw [World.cell?_alloc_at _ _ _ _ rfl]; rfl)
theorem two_prm (t : TypeId) (w : World) (p q : Vl) {W : World} (h : Keeps No ((w.alloc (.cells #[.int .i64 p.k, .int .i64 p.n, .int .i64 p.b, .int .i64 p.o] t)).alloc (.cells #[.int .i64 q.k, .int .i64 q.n, .int .i64 q.b, .int .i64 q.o] t)) W) :
    (W.cell? ⟨w.heap.size, 0, none⟩ = some (.int .i64 p.k) ∧ W.cell? ⟨w.heap.size, 1, none⟩ = some (.int .i64 p.n) ∧ W.cell? ⟨w.heap.size, 2, none⟩ = some (.int .i64 p.b) ∧ W.cell? ⟨w.heap.size, 3, none⟩ = some (.int .i64 p.o)) ∧
    (W.cell? ⟨w.heap.size + 1, 0, none⟩ = some (.int .i64 q.k) ∧ W.cell? ⟨w.heap.size + 1, 1, none⟩ = some (.int .i64 q.n) ∧ W.cell? ⟨w.heap.size + 1, 2, none⟩ = some (.int .i64 q.b) ∧ W.cell? ⟨w.heap.size + 1, 3, none⟩ = some (.int .i64 q.o)) ∧ Hid (Keeps No w W) ∧ ∀ o, W.frozen? ⟨w.heap.size + 1, o, none⟩ = false := by
  obtain ⟨a1, a2, a3, a4, hk⟩ := one_prm t w p (((Keeps.refl _ _).alloc _).trans h (fun _ _ e => e))
  refine ⟨⟨a1, a2, a3, a4⟩, ⟨(KW.mk W h).cell ?_, (KW.mk W h).cell ?_, (KW.mk W h).cell ?_, (KW.mk W h).cell ?_⟩, hk, fun o => (KW.mk W h).frozen (by simp) (frozen_new _ _ _ (by simp) o)⟩ <;> (rw [World.cell?_alloc_at _ _ _ _ (by simp)]; rfl)
set_option maxRecDepth 100000 in
set_option maxHeartbeats 1600000 in
theorem rless_any (B : Nat) (R : Rd) (p q : Vl) (w : World) (h : RefAs B w R) :
    Calls Try.prog 21 #[.pointer (some ⟨R.r, 0, none⟩), va p, va q] w fun e w' => e = .returned (.tuple #[.bool (lessV R.view p q).1, .bool (lessV R.view p q).2]) ∧ Keeps No w w' := by
  obtain ⟨X, hX⟩ : ∃ X, inV R.view p = X := ⟨_, rfl⟩
  obtain ⟨Y, hY⟩ : ∃ Y, inV R.view q = Y := ⟨_, rfl⟩
  have HA := Lib.hid (fun W hk => rin_as B R p X hX w W h hk)
  have HB := Lib.hid (fun W hk => rin_as B R q Y hY w W h hk)
  have HP := Lib.hid (fun W => @two_prm 42 w p q W)
  have HV : Hid (lessV R.view p q = if p.b = q.b ∧ X = true ∧ Y = true then (decide (p.o < q.o), true) else (false, false)) := Lib.hid (by unfold lessV withinV; rw [hX, hY]; by_cases e : p.b = q.b <;> cases X <;> cases Y <;> simp [e])
  rw [HV.out]
  clear h hX hY HV
  obtain ⟨pk, pn, pb, po⟩ := p
  obtain ⟨qk, qn, qb, qo⟩ := q
  simp only at HA HB HP
  cases X with
  | false =>
    rw [if_neg (by simp)]
    go_enter Try.func21, Try.ntmps21
    go_wp2_with fail
    refine (HA.out _ (by repeat (first | with_reducible exact Keeps.refl _ _ | with_reducible refine Keeps.alloc ?_ _ | with_reducible refine Keeps.drewN ?_ _ | with_reducible refine Keeps.drew ?_ | with_reducible refine Keeps.setCell ?_ (.inr (by simp)) _ | with_reducible refine Keeps.setRow ?_ (by simp) _))).mono ?_
    rintro e w1 ⟨rfl, hg1⟩
    obtain ⟨⟨a1, a2, a3, a4⟩, ⟨b1, b2, b3, b4⟩, HK1, _⟩ := HP.out w1 hg1
    clear hg1
    go_wp2_with fail
    go_returns
    exact ⟨rfl, HK1.out⟩
  | true =>
    cases Y with
    | false =>
      rw [if_neg (by simp)]
      go_enter Try.func21, Try.ntmps21
      go_wp2_with fail
      refine (HA.out _ (by repeat (first | with_reducible exact Keeps.refl _ _ | with_reducible refine Keeps.alloc ?_ _ | with_reducible refine Keeps.drewN ?_ _ | with_reducible refine Keeps.drew ?_ | with_reducible refine Keeps.setCell ?_ (.inr (by simp)) _ | with_reducible refine Keeps.setRow ?_ (by simp) _))).mono ?_
      rintro e w1 ⟨rfl, hg1⟩
      obtain ⟨⟨a1, a2, a3, a4⟩, ⟨b1, b2, b3, b4⟩, HK1, _⟩ := HP.out w1 hg1
      clear hg1
      go_wp2_with fail
      refine (HB.out _ HK1.out).mono ?_
      rintro e w2 ⟨rfl, hg2⟩
      have HK2 := Lib.hid (HK1.out.trans hg2 (fun _ _ e => e))
      clear hg2
      go_wp2_with fail
      go_returns
      exact ⟨rfl, HK2.out⟩
    | true =>
      by_cases hb : pb = qb
      · rw [if_pos ⟨hb, rfl, rfl⟩]
        subst hb
        go_enter Try.func21, Try.ntmps21
        go_wp2_with fail
        refine (HA.out _ (by repeat (first | with_reducible exact Keeps.refl _ _ | with_reducible refine Keeps.alloc ?_ _ | with_reducible refine Keeps.drewN ?_ _ | with_reducible refine Keeps.drew ?_ | with_reducible refine Keeps.setCell ?_ (.inr (by simp)) _ | with_reducible refine Keeps.setRow ?_ (by simp) _))).mono ?_
        rintro e w1 ⟨rfl, hg1⟩
        obtain ⟨⟨a1, a2, a3, a4⟩, ⟨b1, b2, b3, b4⟩, HK1, _⟩ := HP.out w1 hg1
        have HG1 := Lib.hid hg1
        clear hg1
        go_wp2_with fail
        refine (HB.out _ HK1.out).mono ?_
        rintro e w2 ⟨rfl, hg2⟩
        have hg3 := HG1.out.trans hg2 (fun _ _ e => e)
        clear a1 a2 a3 a4 b1 b2 b3 b4 HK1
        obtain ⟨⟨a1, a2, a3, a4⟩, ⟨b1, b2, b3, b4⟩, HK2, _⟩ := HP.out w2 hg3
        clear hg2 hg3
        go_wp2_with fail
        go_returns
        exact ⟨rfl, HK2.out⟩
      · have hb1 : (pb == qb) = false := beq_eq_false_iff_ne.2 hb
        have hb2 : (pb != qb) = true := bne_iff_ne.2 hb
        rw [if_neg (fun e => hb e.1)]
        go_enter Try.func21, Try.ntmps21
        go_wp2_with fail
        refine (HA.out _ (by repeat (first | with_reducible exact Keeps.refl _ _ | with_reducible refine Keeps.alloc ?_ _ | with_reducible refine Keeps.drewN ?_ _ | with_reducible refine Keeps.drew ?_ | with_reducible refine Keeps.setCell ?_ (.inr (by simp)) _ | with_reducible refine Keeps.setRow ?_ (by simp) _))).mono ?_
        rintro e w1 ⟨rfl, hg1⟩
        obtain ⟨⟨a1, a2, a3, a4⟩, ⟨b1, b2, b3, b4⟩, HK1, _⟩ := HP.out w1 hg1
        have HG1 := Lib.hid hg1
        clear hg1
        go_wp2_with fail
        refine (HB.out _ HK1.out).mono ?_
        rintro e w2 ⟨rfl, hg2⟩
        have hg3 := HG1.out.trans hg2 (fun _ _ e => e)
        clear a1 a2 a3 a4 b1 b2 b3 b4 HK1
        obtain ⟨⟨a1, a2, a3, a4⟩, ⟨b1, b2, b3, b4⟩, HK2, _⟩ := HP.out w2 hg3
        clear hg2 hg3
        go_wp2_with fail
        go_returns
        exact ⟨rfl, HK2.out⟩
theorem rless_as (B : Nat) (R : Rd) (p q : Vl) (r : Bool × Bool) (hr : lessV R.view p q = r) (w W : World) (h : RefAs B w R) (hk : Keeps No w W) :
    Calls Try.prog 21 #[.pointer (some ⟨R.r, 0, none⟩), va p, va q] W fun e w' => e = .returned (.tuple #[.bool r.1, .bool r.2]) ∧ Keeps No W w' := by
  rw [← hr]; exact rless_any B R p q W (h.no hk)
set_option maxRecDepth 100000 in
set_option maxHeartbeats 1600000 in
theorem rdist_any (B : Nat) (R : Rd) (p q : Vl) (w : World) (h : RefAs B w R) :
    Calls Try.prog 25 #[.pointer (some ⟨R.r, 0, none⟩), va p, va q] w fun e w' => e = .returned (.tuple #[.int .i64 (distV R.view p q).1, .bool (distV R.view p q).2]) ∧ Keeps No w w' := by
  obtain ⟨X, hX⟩ : ∃ X, withinV R.view p q = X := ⟨_, rfl⟩
  have HP := Lib.hid (fun W => @two_prm 42 w p q W)
  cases X with
  | false =>
    have HA := Lib.hid (fun W hk => rless_as B R p q (false, false) (by unfold lessV; rw [hX]; rfl) w W h hk)
    rw [show distV R.view p q = (0, false) by unfold distV; rw [hX]; rfl]
    clear h hX
    obtain ⟨pk, pn, pb, po⟩ := p
    obtain ⟨qk, qn, qb, qo⟩ := q
    go_enter Try.func25, Try.ntmps25
    go_wp2_with fail
    refine (HA.out _ (by repeat (first | with_reducible exact Keeps.refl _ _ | with_reducible refine Keeps.alloc ?_ _ | with_reducible refine Keeps.drewN ?_ _ | with_reducible refine Keeps.drew ?_ | with_reducible refine Keeps.setCell ?_ (.inr (by simp)) _ | with_reducible refine Keeps.setRow ?_ (by simp) _))).mono ?_
    rintro e w1 ⟨rfl, hg1⟩
    obtain ⟨⟨a1, a2, a3, a4⟩, ⟨b1, b2, b3, b4⟩, HK1, _⟩ := HP.out w1 hg1
    clear hg1
    go_wp2_with fail
    go_returns
    exact ⟨rfl, HK1.out⟩
  | true =>
    have HA := Lib.hid (fun W hk => rless_as B R p q (decide (p.o < q.o), true) (by unfold lessV; rw [hX]; rfl) w W h hk)
    rw [show distV R.view p q = (w64 (p.o - q.o), true) by unfold distV; rw [hX]; rfl]
    clear h hX
    obtain ⟨pk, pn, pb, po⟩ := p
    obtain ⟨qk, qn, qb, qo⟩ := q
    go_enter Try.func25, Try.ntmps25
    go_wp2_with fail
    refine (HA.out _ (by repeat (first | with_reducible exact Keeps.refl _ _ | with_reducible refine Keeps.alloc ?_ _ | with_reducible refine Keeps.drewN ?_ _ | with_reducible refine Keeps.drew ?_ | with_reducible refine Keeps.setCell ?_ (.inr (by simp)) _ | with_reducible refine Keeps.setRow ?_ (by simp) _))).mono ?_
    rintro e w1 ⟨rfl, hg1⟩
    obtain ⟨⟨a1, a2, a3, a4⟩, ⟨b1, b2, b3, b4⟩, HK1, _⟩ := HP.out w1 hg1
    clear hg1
    go_wp2_with fail
    go_returns
    exact ⟨rfl, HK1.out⟩
end Go.Proofs.Ytjchfldlmabblaa
