/- sure, Equal. -/
import Derived.Test.YtjchfldlmabblaaMmStoreB
namespace Go.Proofs.Ytjchfldlmabblaa
open Go.RowKit Go.Maps
set_option linter.unusedVariables false

theorem none_as (p : Vl) (N : Bool) (hN : noneV p = N) (w W : World) (hk : Keeps No w W) :
    Calls Try.prog 48 #[va p] W fun e w' => e = .returned (.bool N) ∧ Keeps No W w' := by
  rw [← hN]; exact none_any p W
set_option maxHeartbeats 1600000 in
theorem sure_any (S : Sd) (p : Vl) (w : World) (h : StoreAs w S) (hp : vlOk p) :
    Calls Try.prog 49 #[.pointer (some ⟨S.s, 0, none⟩), va p] w fun e w' => e = .returned (.bool (sureV S.view p)) ∧ Keeps No w w' := by
  obtain ⟨N, hN⟩ : ∃ N, noneV p = N := ⟨_, rfl⟩
  have HN := Lib.hid (fun W hk => none_as p N hN w W hk)
  have HP := Lib.hid (fun W => @one_param w p W)
  have c0 := h.c0
  have f := h.f
  have hs := h.lt (.inl rfl)
  have hs' : S.s ≠ w.heap.size := by omega
  have hl := fun (o1 : Obj) (n : Nat) => (h.no (((Keeps.refl No w).alloc o1).drewN n)).look hp.2.2.1
  cases hg : kget S.bs p.b with
  | none =>
    have hX : sureV S.view p = N := by unfold sureV; rw [hN, view_none hg]; simp
    rw [hX]
    simp only [hg, Option.map_none, ptrV] at hl
    clear h hX hg hN hp
    obtain ⟨pk, pn, pb, po⟩ := p
    simp only at hl
    cases N <;> (
    go_enter Try.func49, Try.ntmps49
    go_wp2_with fail
    go_quiet (fail)
    go_wp2_with fail
    have a4 : ∀ u : KW (p1 w ⟨pk, pn, pb, po⟩), u.W.cell? ⟨w.heap.size, 3, none⟩ = some (.int .i64 po) := fun u => (HP.out u.W u.h).2.2.2.1
    have a0 : ∀ u : KW (p1 w ⟨pk, pn, pb, po⟩), u.W.cell? ⟨w.heap.size, 0, none⟩ = some (.int .i64 pk) := fun u => (HP.out u.W u.h).1
    have a1 : ∀ u : KW (p1 w ⟨pk, pn, pb, po⟩), u.W.cell? ⟨w.heap.size, 1, none⟩ = some (.int .i64 pn) := fun u => (HP.out u.W u.h).2.1
    have a2 : ∀ u : KW (p1 w ⟨pk, pn, pb, po⟩), u.W.cell? ⟨w.heap.size, 2, none⟩ = some (.int .i64 pb) := fun u => (HP.out u.W u.h).2.2.1
    have hne : Nonempty (KW (p1 w ⟨pk, pn, pb, po⟩)) := ⟨KW.of _⟩
    refine wp_region_class (C := fun W => ∃ u : KW (p1 w ⟨pk, pn, pb, po⟩), W = u.W) (by kernel_rfl) (by kernel_rfl) ⟨⟨World.drew _, (by repeat (first | with_reducible exact Keeps.refl _ _ | with_reducible refine Keeps.alloc ?_ _ | with_reducible refine Keeps.drewN ?_ _ | with_reducible refine Keeps.drew ?_ | with_reducible refine Keeps.setCell ?_ (.inr (by simp)) _ | with_reducible refine Keeps.setRow ?_ (by simp) _))⟩, rfl⟩ ?_
    repeat (go_big_quiet_step (first | (go_at_call 48; with_reducible refine kw_call _ (HN.out _ (p1_k _ _ (KW.h _))))))
    refine wpQuiet_nil ?_
    rintro _ ⟨T, rfl⟩
    have HK1 := Lib.hid (p1_k _ _ T.h)
    go_wp2_with fail
    go_returns
    exact ⟨rfl, HK1.out⟩)
  | some d =>
    have HD := Lib.hid (fun W hk => ((h.b p.b d hg).1.no (w' := W) hk).c.1)
    have hX : sureV S.view p = (N || decide (p.o ≠ d.size)) := by unfold sureV; rw [hN, view_some hg]; rfl
    rw [hX]
    simp only [hg, Option.map_some, ptrV] at hl
    clear h hX hg hN hp
    obtain ⟨pk, pn, pb, po⟩ := p
    simp only at hl
    cases N <;> (
    go_enter Try.func49, Try.ntmps49
    go_wp2_with fail
    go_quiet (fail)
    go_wp2_with fail
    have a4 : ∀ u : KW (p1 w ⟨pk, pn, pb, po⟩), u.W.cell? ⟨w.heap.size, 3, none⟩ = some (.int .i64 po) := fun u => (HP.out u.W u.h).2.2.2.1
    have a0 : ∀ u : KW (p1 w ⟨pk, pn, pb, po⟩), u.W.cell? ⟨w.heap.size, 0, none⟩ = some (.int .i64 pk) := fun u => (HP.out u.W u.h).1
    have a1 : ∀ u : KW (p1 w ⟨pk, pn, pb, po⟩), u.W.cell? ⟨w.heap.size, 1, none⟩ = some (.int .i64 pn) := fun u => (HP.out u.W u.h).2.1
    have a2 : ∀ u : KW (p1 w ⟨pk, pn, pb, po⟩), u.W.cell? ⟨w.heap.size, 2, none⟩ = some (.int .i64 pb) := fun u => (HP.out u.W u.h).2.2.1
    have d1 : ∀ u : KW (p1 w ⟨pk, pn, pb, po⟩), u.W.cell? ⟨d.kb, 0, none⟩ = some (.int .i64 d.size) := fun u => HD.out u.W (p1_k _ _ u.h)
    have hne : Nonempty (KW (p1 w ⟨pk, pn, pb, po⟩)) := ⟨KW.of _⟩
    refine wp_region_class (C := fun W => ∃ u : KW (p1 w ⟨pk, pn, pb, po⟩), W = u.W) (by kernel_rfl) (by kernel_rfl) ⟨⟨World.drew _, (by repeat (first | with_reducible exact Keeps.refl _ _ | with_reducible refine Keeps.alloc ?_ _ | with_reducible refine Keeps.drewN ?_ _ | with_reducible refine Keeps.drew ?_ | with_reducible refine Keeps.setCell ?_ (.inr (by simp)) _ | with_reducible refine Keeps.setRow ?_ (by simp) _))⟩, rfl⟩ ?_
    repeat (go_big_quiet_step (first | (go_at_call 48; with_reducible refine kw_call _ (HN.out _ (p1_k _ _ (KW.h _))))))
    refine wpQuiet_nil ?_
    rintro _ ⟨T, rfl⟩
    have HK1 := Lib.hid (p1_k _ _ T.h)
    go_wp2_with fail
    all_goals (go_returns; exact ⟨rb rfl (by first | (simp; done) | (simp; rfl)), HK1.out⟩))
theorem sure_as (S : Sd) (p : Vl) (X : Bool) (hX : sureV S.view p = X) (hp : vlOk p) (w W : World) (h : StoreAs w S) (hk : Keeps No w W) :
    Calls Try.prog 49 #[.pointer (some ⟨S.s, 0, none⟩), va p] W fun e w' => e = .returned (.bool X) ∧ Keeps No W w' := by
  rw [← hX]; exact sure_any S p W (h.no hk) hp
theorem rbb {v : Value} {a b c d : Bool} (hv : v = .tuple #[.bool a, .bool b]) (h1 : a = c) (h2 : b = d) : Ending.returned v = .returned (.tuple #[.bool c, .bool d]) := by rw [hv, h1, h2]
/-- What the walk of Equal asks of its two kinds. -/
def kw4 (k : Int) : Prop := k = 1 ∨ k = 2 ∨ k = 3 ∨ (k ≠ 1 ∧ k ≠ 2 ∧ k ≠ 3)
theorem kw4_any (k : Int) : kw4 k := by unfold kw4; omega
set_option maxHeartbeats 1600000 in
theorem equal_any (S : Sd) (p q : Vl) (w : World) (h : StoreAs w S) (hp : vlOk p) (hq : vlOk q) :
    Calls Try.prog 39 #[.pointer (some ⟨S.s, 0, none⟩), va p, va q] w fun e w' => e = .returned (.tuple #[.bool (equalV S.view p q).1, .bool (equalV S.view p q).2]) ∧ Keeps No w w' := by
  have HP := Lib.hid (fun W => @two_params w p q W)
  obtain ⟨NP, hNP⟩ : ∃ N, noneV p = N := ⟨_, rfl⟩
  obtain ⟨NQ, hNQ⟩ : ∃ N, noneV q = N := ⟨_, rfl⟩
  obtain ⟨SP, hSP⟩ : ∃ N, sureV S.view p = N := ⟨_, rfl⟩
  obtain ⟨SQ, hSQ⟩ : ∃ N, sureV S.view q = N := ⟨_, rfl⟩
  have HNP := Lib.hid (fun W hk => none_as p NP hNP w W hk)
  have HNQ := Lib.hid (fun W hk => none_as q NQ hNQ w W hk)
  have HSP := Lib.hid (fun W hk => sure_as S p SP hSP hp w W h hk)
  have HSQ := Lib.hid (fun W hk => sure_as S q SQ hSQ hq w W h hk)
  obtain ⟨R, hR⟩ : ∃ R, equalV S.view p q = R := ⟨_, rfl⟩
  rw [hR]
  unfold equalV at hR
  rw [hNP, hNQ, hSP, hSQ] at hR
  clear h hp hq hNP hNQ hSP hSQ
  have hp4 := kw4_any p.k
  have hq4 := kw4_any q.k
  obtain ⟨R1, R2⟩ := R
  simp only
  obtain ⟨pk, pn, pb, po⟩ := p
  obtain ⟨qk, qn, qb, qo⟩ := q
  simp only at hp4 hq4 hR
  have a0 : ∀ u : KW (p2 w ⟨pk, pn, pb, po⟩ ⟨qk, qn, qb, qo⟩), u.W.cell? ⟨w.heap.size, 0, none⟩ = some (.int .i64 pk) := fun u => (HP.out u.W u.h).1.1
  have a1 : ∀ u : KW (p2 w ⟨pk, pn, pb, po⟩ ⟨qk, qn, qb, qo⟩), u.W.cell? ⟨w.heap.size, 1, none⟩ = some (.int .i64 pn) := fun u => (HP.out u.W u.h).1.2.1
  have a2 : ∀ u : KW (p2 w ⟨pk, pn, pb, po⟩ ⟨qk, qn, qb, qo⟩), u.W.cell? ⟨w.heap.size, 2, none⟩ = some (.int .i64 pb) := fun u => (HP.out u.W u.h).1.2.2.1
  have a3 : ∀ u : KW (p2 w ⟨pk, pn, pb, po⟩ ⟨qk, qn, qb, qo⟩), u.W.cell? ⟨w.heap.size, 3, none⟩ = some (.int .i64 po) := fun u => (HP.out u.W u.h).1.2.2.2
  have b0 : ∀ u : KW (p2 w ⟨pk, pn, pb, po⟩ ⟨qk, qn, qb, qo⟩), u.W.cell? ⟨w.heap.size + 1, 0, none⟩ = some (.int .i64 qk) := fun u => (HP.out u.W u.h).2.1.1
  have b1 : ∀ u : KW (p2 w ⟨pk, pn, pb, po⟩ ⟨qk, qn, qb, qo⟩), u.W.cell? ⟨w.heap.size + 1, 1, none⟩ = some (.int .i64 qn) := fun u => (HP.out u.W u.h).2.1.2.1
  have b2 : ∀ u : KW (p2 w ⟨pk, pn, pb, po⟩ ⟨qk, qn, qb, qo⟩), u.W.cell? ⟨w.heap.size + 1, 2, none⟩ = some (.int .i64 qb) := fun u => (HP.out u.W u.h).2.1.2.2.1
  have b3 : ∀ u : KW (p2 w ⟨pk, pn, pb, po⟩ ⟨qk, qn, qb, qo⟩), u.W.cell? ⟨w.heap.size + 1, 3, none⟩ = some (.int .i64 qo) := fun u => (HP.out u.W u.h).2.1.2.2.2
  have hne : Nonempty (KW (p2 w ⟨pk, pn, pb, po⟩ ⟨qk, qn, qb, qo⟩)) := ⟨KW.of _⟩
  unfold kw4 at hp4 hq4
  rcases hp4 with rfl | rfl | rfl | ⟨n1, n2, n3⟩
  · rcases hq4 with rfl | rfl | rfl | ⟨q1, q2, q3⟩
    · have HE : Hid (decide (pn = qn) = R1 ∧ true = R2) := Lib.hid (by simpa [*] using hR)
      clear hR HNP HNQ HSP HSQ
      go_enter Try.func39, Try.ntmps39
      go_wp2_with fail
      go_returns
      exact ⟨rbb rfl (HE.out.1 ▸ rfl) HE.out.2, (by repeat (first | with_reducible exact Keeps.refl _ _ | with_reducible refine Keeps.alloc ?_ _ | with_reducible refine Keeps.drewN ?_ _ | with_reducible refine Keeps.drew ?_ | with_reducible refine Keeps.setCell ?_ (.inr (by simp)) _ | with_reducible refine Keeps.setRow ?_ (by simp) _))⟩
    · have HE : Hid (false = R1 ∧ false = R2) := Lib.hid (by simpa [*] using hR)
      clear hR HNP HNQ HSP HSQ
      go_enter Try.func39, Try.ntmps39
      go_wp2_with fail
      go_returns
      exact ⟨rbb rfl (HE.out.1 ▸ rfl) HE.out.2, (by repeat (first | with_reducible exact Keeps.refl _ _ | with_reducible refine Keeps.alloc ?_ _ | with_reducible refine Keeps.drewN ?_ _ | with_reducible refine Keeps.drew ?_ | with_reducible refine Keeps.setCell ?_ (.inr (by simp)) _ | with_reducible refine Keeps.setRow ?_ (by simp) _))⟩
    · cases NP
      · have HE : Hid (false = R1 ∧ false = R2) := Lib.hid (by simpa [*] using hR)
        clear hR HSP HSQ
        go_enter Try.func39, Try.ntmps39
        go_wp2_with fail
        refine (HNP.out _ (by repeat (first | with_reducible exact Keeps.refl _ _ | with_reducible refine Keeps.alloc ?_ _ | with_reducible refine Keeps.drewN ?_ _ | with_reducible refine Keeps.drew ?_ | with_reducible refine Keeps.setCell ?_ (.inr (by simp)) _ | with_reducible refine Keeps.setRow ?_ (by simp) _))).mono ?_
        rintro e w1 ⟨rfl, hg1⟩
        obtain ⟨T, rfl⟩ : ∃ T : KW (p2 w ⟨1, pn, pb, po⟩ ⟨3, qn, qb, qo⟩), w1 = T.W := ⟨⟨w1, hg1⟩, rfl⟩
        have HK := Lib.hid (p2_k _ _ _ T.h)
        clear hg1
        go_wp2_with fail
        go_returns
        exact ⟨rbb rfl (HE.out.1 ▸ rfl) HE.out.2, HK.out⟩
      · have HE : Hid (false = R1 ∧ true = R2) := Lib.hid (by simpa [*] using hR)
        clear hR HSP HSQ
        go_enter Try.func39, Try.ntmps39
        go_wp2_with fail
        refine (HNP.out _ (by repeat (first | with_reducible exact Keeps.refl _ _ | with_reducible refine Keeps.alloc ?_ _ | with_reducible refine Keeps.drewN ?_ _ | with_reducible refine Keeps.drew ?_ | with_reducible refine Keeps.setCell ?_ (.inr (by simp)) _ | with_reducible refine Keeps.setRow ?_ (by simp) _))).mono ?_
        rintro e w1 ⟨rfl, hg1⟩
        obtain ⟨T, rfl⟩ : ∃ T : KW (p2 w ⟨1, pn, pb, po⟩ ⟨3, qn, qb, qo⟩), w1 = T.W := ⟨⟨w1, hg1⟩, rfl⟩
        have HK := Lib.hid (p2_k _ _ _ T.h)
        clear hg1
        go_wp2_with fail
        go_returns
        exact ⟨rbb rfl (HE.out.1 ▸ rfl) HE.out.2, HK.out⟩
    · have HE : Hid (false = R1 ∧ false = R2) := Lib.hid (by simpa [*] using hR)
      clear hR HNP HNQ HSP HSQ
      go_enter Try.func39, Try.ntmps39
      go_wp2_with fail
      go_returns
      exact ⟨rbb rfl (HE.out.1 ▸ rfl) HE.out.2, (by repeat (first | with_reducible exact Keeps.refl _ _ | with_reducible refine Keeps.alloc ?_ _ | with_reducible refine Keeps.drewN ?_ _ | with_reducible refine Keeps.drew ?_ | with_reducible refine Keeps.setCell ?_ (.inr (by simp)) _ | with_reducible refine Keeps.setRow ?_ (by simp) _))⟩
  · rcases hq4 with rfl | rfl | rfl | ⟨q1, q2, q3⟩
    · have HE : Hid (false = R1 ∧ false = R2) := Lib.hid (by simpa [*] using hR)
      clear hR HNP HNQ HSP HSQ
      go_enter Try.func39, Try.ntmps39
      go_wp2_with fail
      go_returns
      exact ⟨rbb rfl (HE.out.1 ▸ rfl) HE.out.2, (by repeat (first | with_reducible exact Keeps.refl _ _ | with_reducible refine Keeps.alloc ?_ _ | with_reducible refine Keeps.drewN ?_ _ | with_reducible refine Keeps.drew ?_ | with_reducible refine Keeps.setCell ?_ (.inr (by simp)) _ | with_reducible refine Keeps.setRow ?_ (by simp) _))⟩
    · by_cases hb : pb = qb
      · have HE : Hid (decide (po = qo) = R1 ∧ true = R2) := Lib.hid (by simpa [*] using hR)
        subst hb
        clear hR HNP HNQ HSP HSQ
        go_enter Try.func39, Try.ntmps39
        go_wp2_with fail
        go_returns
        exact ⟨rbb rfl (HE.out.1 ▸ rfl) HE.out.2, (by repeat (first | with_reducible exact Keeps.refl _ _ | with_reducible refine Keeps.alloc ?_ _ | with_reducible refine Keeps.drewN ?_ _ | with_reducible refine Keeps.drew ?_ | with_reducible refine Keeps.setCell ?_ (.inr (by simp)) _ | with_reducible refine Keeps.setRow ?_ (by simp) _))⟩
      · have hb' : (pb == qb) = false := beq_eq_false_iff_ne.2 hb
        have HE : Hid (false = R1 ∧ (SP && SQ) = R2) := Lib.hid (by simpa [*] using hR)
        clear hR HNP HNQ
        cases SP
        · go_enter Try.func39, Try.ntmps39
          go_wp2_with fail
          refine (HSP.out _ (by repeat (first | with_reducible exact Keeps.refl _ _ | with_reducible refine Keeps.alloc ?_ _ | with_reducible refine Keeps.drewN ?_ _ | with_reducible refine Keeps.drew ?_ | with_reducible refine Keeps.setCell ?_ (.inr (by simp)) _ | with_reducible refine Keeps.setRow ?_ (by simp) _))).mono ?_
          rintro e w1 ⟨rfl, hg1⟩
          obtain ⟨T, rfl⟩ : ∃ T : KW (p2 w ⟨2, pn, pb, po⟩ ⟨2, qn, qb, qo⟩), w1 = T.W := ⟨⟨w1, hg1⟩, rfl⟩
          have HK := Lib.hid (p2_k _ _ _ T.h)
          clear hg1
          go_wp2_with fail
          go_returns
          exact ⟨rbb rfl (HE.out.1 ▸ rfl) HE.out.2, HK.out⟩
        · go_enter Try.func39, Try.ntmps39
          go_wp2_with fail
          refine (HSP.out _ (by repeat (first | with_reducible exact Keeps.refl _ _ | with_reducible refine Keeps.alloc ?_ _ | with_reducible refine Keeps.drewN ?_ _ | with_reducible refine Keeps.drew ?_ | with_reducible refine Keeps.setCell ?_ (.inr (by simp)) _ | with_reducible refine Keeps.setRow ?_ (by simp) _))).mono ?_
          rintro e w1 ⟨rfl, hg1⟩
          obtain ⟨T, rfl⟩ : ∃ T : KW (p2 w ⟨2, pn, pb, po⟩ ⟨2, qn, qb, qo⟩), w1 = T.W := ⟨⟨w1, hg1⟩, rfl⟩
          have HK := Lib.hid (p2_k _ _ _ T.h)
          clear hg1
          go_wp2_with fail
          refine (HSQ.out _ HK.out).mono ?_
          rintro e w2 ⟨rfl, hg2⟩
          have HK2 := Lib.hid (HK.out.tr hg2)
          clear hg2
          go_wp2_with fail
          go_returns
          exact ⟨rbb rfl (HE.out.1 ▸ rfl) (HE.out.2 ▸ rfl), HK2.out⟩
    · cases NP
      · have HE : Hid (false = R1 ∧ false = R2) := Lib.hid (by simpa [*] using hR)
        clear hR HSP HSQ
        go_enter Try.func39, Try.ntmps39
        go_wp2_with fail
        refine (HNP.out _ (by repeat (first | with_reducible exact Keeps.refl _ _ | with_reducible refine Keeps.alloc ?_ _ | with_reducible refine Keeps.drewN ?_ _ | with_reducible refine Keeps.drew ?_ | with_reducible refine Keeps.setCell ?_ (.inr (by simp)) _ | with_reducible refine Keeps.setRow ?_ (by simp) _))).mono ?_
        rintro e w1 ⟨rfl, hg1⟩
        obtain ⟨T, rfl⟩ : ∃ T : KW (p2 w ⟨2, pn, pb, po⟩ ⟨3, qn, qb, qo⟩), w1 = T.W := ⟨⟨w1, hg1⟩, rfl⟩
        have HK := Lib.hid (p2_k _ _ _ T.h)
        clear hg1
        go_wp2_with fail
        go_returns
        exact ⟨rbb rfl (HE.out.1 ▸ rfl) HE.out.2, HK.out⟩
      · have HE : Hid (false = R1 ∧ true = R2) := Lib.hid (by simpa [*] using hR)
        clear hR HSP HSQ
        go_enter Try.func39, Try.ntmps39
        go_wp2_with fail
        refine (HNP.out _ (by repeat (first | with_reducible exact Keeps.refl _ _ | with_reducible refine Keeps.alloc ?_ _ | with_reducible refine Keeps.drewN ?_ _ | with_reducible refine Keeps.drew ?_ | with_reducible refine Keeps.setCell ?_ (.inr (by simp)) _ | with_reducible refine Keeps.setRow ?_ (by simp) _))).mono ?_
        rintro e w1 ⟨rfl, hg1⟩
        obtain ⟨T, rfl⟩ : ∃ T : KW (p2 w ⟨2, pn, pb, po⟩ ⟨3, qn, qb, qo⟩), w1 = T.W := ⟨⟨w1, hg1⟩, rfl⟩
        have HK := Lib.hid (p2_k _ _ _ T.h)
        clear hg1
        go_wp2_with fail
        go_returns
        exact ⟨rbb rfl (HE.out.1 ▸ rfl) HE.out.2, HK.out⟩
    · have HE : Hid (false = R1 ∧ false = R2) := Lib.hid (by simpa [*] using hR)
      clear hR HNP HNQ HSP HSQ
      go_enter Try.func39, Try.ntmps39
      go_wp2_with fail
      go_returns
      exact ⟨rbb rfl (HE.out.1 ▸ rfl) HE.out.2, (by repeat (first | with_reducible exact Keeps.refl _ _ | with_reducible refine Keeps.alloc ?_ _ | with_reducible refine Keeps.drewN ?_ _ | with_reducible refine Keeps.drew ?_ | with_reducible refine Keeps.setCell ?_ (.inr (by simp)) _ | with_reducible refine Keeps.setRow ?_ (by simp) _))⟩
  · rcases hq4 with rfl | rfl | rfl | ⟨q1, q2, q3⟩
    · cases NQ
      · have HE : Hid (false = R1 ∧ false = R2) := Lib.hid (by simpa [*] using hR)
        clear hR HSP HSQ
        go_enter Try.func39, Try.ntmps39
        go_wp2_with fail
        refine (HNQ.out _ (by repeat (first | with_reducible exact Keeps.refl _ _ | with_reducible refine Keeps.alloc ?_ _ | with_reducible refine Keeps.drewN ?_ _ | with_reducible refine Keeps.drew ?_ | with_reducible refine Keeps.setCell ?_ (.inr (by simp)) _ | with_reducible refine Keeps.setRow ?_ (by simp) _))).mono ?_
        rintro e w1 ⟨rfl, hg1⟩
        obtain ⟨T, rfl⟩ : ∃ T : KW (p2 w ⟨3, pn, pb, po⟩ ⟨1, qn, qb, qo⟩), w1 = T.W := ⟨⟨w1, hg1⟩, rfl⟩
        have HK := Lib.hid (p2_k _ _ _ T.h)
        clear hg1
        go_wp2_with fail
        go_returns
        exact ⟨rbb rfl (HE.out.1 ▸ rfl) HE.out.2, HK.out⟩
      · have HE : Hid (false = R1 ∧ true = R2) := Lib.hid (by simpa [*] using hR)
        clear hR HSP HSQ
        go_enter Try.func39, Try.ntmps39
        go_wp2_with fail
        refine (HNQ.out _ (by repeat (first | with_reducible exact Keeps.refl _ _ | with_reducible refine Keeps.alloc ?_ _ | with_reducible refine Keeps.drewN ?_ _ | with_reducible refine Keeps.drew ?_ | with_reducible refine Keeps.setCell ?_ (.inr (by simp)) _ | with_reducible refine Keeps.setRow ?_ (by simp) _))).mono ?_
        rintro e w1 ⟨rfl, hg1⟩
        obtain ⟨T, rfl⟩ : ∃ T : KW (p2 w ⟨3, pn, pb, po⟩ ⟨1, qn, qb, qo⟩), w1 = T.W := ⟨⟨w1, hg1⟩, rfl⟩
        have HK := Lib.hid (p2_k _ _ _ T.h)
        clear hg1
        go_wp2_with fail
        go_returns
        exact ⟨rbb rfl (HE.out.1 ▸ rfl) HE.out.2, HK.out⟩
    · cases NQ
      · have HE : Hid (false = R1 ∧ false = R2) := Lib.hid (by simpa [*] using hR)
        clear hR HSP HSQ
        go_enter Try.func39, Try.ntmps39
        go_wp2_with fail
        refine (HNQ.out _ (by repeat (first | with_reducible exact Keeps.refl _ _ | with_reducible refine Keeps.alloc ?_ _ | with_reducible refine Keeps.drewN ?_ _ | with_reducible refine Keeps.drew ?_ | with_reducible refine Keeps.setCell ?_ (.inr (by simp)) _ | with_reducible refine Keeps.setRow ?_ (by simp) _))).mono ?_
        rintro e w1 ⟨rfl, hg1⟩
        obtain ⟨T, rfl⟩ : ∃ T : KW (p2 w ⟨3, pn, pb, po⟩ ⟨2, qn, qb, qo⟩), w1 = T.W := ⟨⟨w1, hg1⟩, rfl⟩
        have HK := Lib.hid (p2_k _ _ _ T.h)
        clear hg1
        go_wp2_with fail
        go_returns
        exact ⟨rbb rfl (HE.out.1 ▸ rfl) HE.out.2, HK.out⟩
      · have HE : Hid (false = R1 ∧ true = R2) := Lib.hid (by simpa [*] using hR)
        clear hR HSP HSQ
        go_enter Try.func39, Try.ntmps39
        go_wp2_with fail
        refine (HNQ.out _ (by repeat (first | with_reducible exact Keeps.refl _ _ | with_reducible refine Keeps.alloc ?_ _ | with_reducible refine Keeps.drewN ?_ _ | with_reducible refine Keeps.drew ?_ | with_reducible refine Keeps.setCell ?_ (.inr (by simp)) _ | with_reducible refine Keeps.setRow ?_ (by simp) _))).mono ?_
        rintro e w1 ⟨rfl, hg1⟩
        obtain ⟨T, rfl⟩ : ∃ T : KW (p2 w ⟨3, pn, pb, po⟩ ⟨2, qn, qb, qo⟩), w1 = T.W := ⟨⟨w1, hg1⟩, rfl⟩
        have HK := Lib.hid (p2_k _ _ _ T.h)
        clear hg1
        go_wp2_with fail
        go_returns
        exact ⟨rbb rfl (HE.out.1 ▸ rfl) HE.out.2, HK.out⟩
    · have HE : Hid (decide (pn = qn) = R1 ∧ true = R2) := Lib.hid (by simpa [*] using hR)
      clear hR HNP HNQ HSP HSQ
      go_enter Try.func39, Try.ntmps39
      go_wp2_with fail
      go_returns
      exact ⟨rbb rfl (HE.out.1 ▸ rfl) HE.out.2, (by repeat (first | with_reducible exact Keeps.refl _ _ | with_reducible refine Keeps.alloc ?_ _ | with_reducible refine Keeps.drewN ?_ _ | with_reducible refine Keeps.drew ?_ | with_reducible refine Keeps.setCell ?_ (.inr (by simp)) _ | with_reducible refine Keeps.setRow ?_ (by simp) _))⟩
    · cases NQ
      · have HE : Hid (false = R1 ∧ false = R2) := Lib.hid (by simpa [*] using hR)
        clear hR HSP HSQ
        go_enter Try.func39, Try.ntmps39
        go_wp2_with fail
        refine (HNQ.out _ (by repeat (first | with_reducible exact Keeps.refl _ _ | with_reducible refine Keeps.alloc ?_ _ | with_reducible refine Keeps.drewN ?_ _ | with_reducible refine Keeps.drew ?_ | with_reducible refine Keeps.setCell ?_ (.inr (by simp)) _ | with_reducible refine Keeps.setRow ?_ (by simp) _))).mono ?_
        rintro e w1 ⟨rfl, hg1⟩
        obtain ⟨T, rfl⟩ : ∃ T : KW (p2 w ⟨3, pn, pb, po⟩ ⟨qk, qn, qb, qo⟩), w1 = T.W := ⟨⟨w1, hg1⟩, rfl⟩
        have HK := Lib.hid (p2_k _ _ _ T.h)
        clear hg1
        go_wp2_with fail
        go_returns
        exact ⟨rbb rfl (HE.out.1 ▸ rfl) HE.out.2, HK.out⟩
      · have HE : Hid (false = R1 ∧ true = R2) := Lib.hid (by simpa [*] using hR)
        clear hR HSP HSQ
        go_enter Try.func39, Try.ntmps39
        go_wp2_with fail
        refine (HNQ.out _ (by repeat (first | with_reducible exact Keeps.refl _ _ | with_reducible refine Keeps.alloc ?_ _ | with_reducible refine Keeps.drewN ?_ _ | with_reducible refine Keeps.drew ?_ | with_reducible refine Keeps.setCell ?_ (.inr (by simp)) _ | with_reducible refine Keeps.setRow ?_ (by simp) _))).mono ?_
        rintro e w1 ⟨rfl, hg1⟩
        obtain ⟨T, rfl⟩ : ∃ T : KW (p2 w ⟨3, pn, pb, po⟩ ⟨qk, qn, qb, qo⟩), w1 = T.W := ⟨⟨w1, hg1⟩, rfl⟩
        have HK := Lib.hid (p2_k _ _ _ T.h)
        clear hg1
        go_wp2_with fail
        go_returns
        exact ⟨rbb rfl (HE.out.1 ▸ rfl) HE.out.2, HK.out⟩
  · rcases hq4 with rfl | rfl | rfl | ⟨q1, q2, q3⟩
    · have HE : Hid (false = R1 ∧ false = R2) := Lib.hid (by simpa [*] using hR)
      clear hR HNP HNQ HSP HSQ
      go_enter Try.func39, Try.ntmps39
      go_wp2_with fail
      go_returns
      exact ⟨rbb rfl (HE.out.1 ▸ rfl) HE.out.2, (by repeat (first | with_reducible exact Keeps.refl _ _ | with_reducible refine Keeps.alloc ?_ _ | with_reducible refine Keeps.drewN ?_ _ | with_reducible refine Keeps.drew ?_ | with_reducible refine Keeps.setCell ?_ (.inr (by simp)) _ | with_reducible refine Keeps.setRow ?_ (by simp) _))⟩
    · have HE : Hid (false = R1 ∧ false = R2) := Lib.hid (by simpa [*] using hR)
      clear hR HNP HNQ HSP HSQ
      go_enter Try.func39, Try.ntmps39
      go_wp2_with fail
      go_returns
      exact ⟨rbb rfl (HE.out.1 ▸ rfl) HE.out.2, (by repeat (first | with_reducible exact Keeps.refl _ _ | with_reducible refine Keeps.alloc ?_ _ | with_reducible refine Keeps.drewN ?_ _ | with_reducible refine Keeps.drew ?_ | with_reducible refine Keeps.setCell ?_ (.inr (by simp)) _ | with_reducible refine Keeps.setRow ?_ (by simp) _))⟩
    · cases NP
      · have HE : Hid (false = R1 ∧ false = R2) := Lib.hid (by simpa [*] using hR)
        clear hR HSP HSQ
        go_enter Try.func39, Try.ntmps39
        go_wp2_with fail
        refine (HNP.out _ (by repeat (first | with_reducible exact Keeps.refl _ _ | with_reducible refine Keeps.alloc ?_ _ | with_reducible refine Keeps.drewN ?_ _ | with_reducible refine Keeps.drew ?_ | with_reducible refine Keeps.setCell ?_ (.inr (by simp)) _ | with_reducible refine Keeps.setRow ?_ (by simp) _))).mono ?_
        rintro e w1 ⟨rfl, hg1⟩
        obtain ⟨T, rfl⟩ : ∃ T : KW (p2 w ⟨pk, pn, pb, po⟩ ⟨3, qn, qb, qo⟩), w1 = T.W := ⟨⟨w1, hg1⟩, rfl⟩
        have HK := Lib.hid (p2_k _ _ _ T.h)
        clear hg1
        go_wp2_with fail
        go_returns
        exact ⟨rbb rfl (HE.out.1 ▸ rfl) HE.out.2, HK.out⟩
      · have HE : Hid (false = R1 ∧ true = R2) := Lib.hid (by simpa [*] using hR)
        clear hR HSP HSQ
        go_enter Try.func39, Try.ntmps39
        go_wp2_with fail
        refine (HNP.out _ (by repeat (first | with_reducible exact Keeps.refl _ _ | with_reducible refine Keeps.alloc ?_ _ | with_reducible refine Keeps.drewN ?_ _ | with_reducible refine Keeps.drew ?_ | with_reducible refine Keeps.setCell ?_ (.inr (by simp)) _ | with_reducible refine Keeps.setRow ?_ (by simp) _))).mono ?_
        rintro e w1 ⟨rfl, hg1⟩
        obtain ⟨T, rfl⟩ : ∃ T : KW (p2 w ⟨pk, pn, pb, po⟩ ⟨3, qn, qb, qo⟩), w1 = T.W := ⟨⟨w1, hg1⟩, rfl⟩
        have HK := Lib.hid (p2_k _ _ _ T.h)
        clear hg1
        go_wp2_with fail
        go_returns
        exact ⟨rbb rfl (HE.out.1 ▸ rfl) HE.out.2, HK.out⟩
    · have HE : Hid (false = R1 ∧ false = R2) := Lib.hid (by simpa [*] using hR)
      clear hR HNP HNQ HSP HSQ
      go_enter Try.func39, Try.ntmps39
      go_wp2_with fail
      go_returns
      exact ⟨rbb rfl (HE.out.1 ▸ rfl) HE.out.2, (by repeat (first | with_reducible exact Keeps.refl _ _ | with_reducible refine Keeps.alloc ?_ _ | with_reducible refine Keeps.drewN ?_ _ | with_reducible refine Keeps.drew ?_ | with_reducible refine Keeps.setCell ?_ (.inr (by simp)) _ | with_reducible refine Keeps.setRow ?_ (by simp) _))⟩
end Go.Proofs.Ytjchfldlmabblaa
