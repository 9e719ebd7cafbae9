/- The document's memory: Equal. -/
import Derived.Test.YtjchfldlmabblaaMmRefE
namespace Go.Proofs.Ytjchfldlmabblaa
open Go.RowKit Go.Maps
set_option linter.unusedVariables false
set_option linter.unusedSimpArgs false

theorem rend_as (B : Nat) (R : Rd) (p : Vl) (X : Bool) (hX : sureV R.view p = X) (w W : World) (h : RefAs B w R) (hk : Keeps No w W) :
    Calls Try.prog 41 #[.pointer (some ⟨R.r, 0, none⟩), va p] W fun e w' => e = .returned (.bool (!X)) ∧ Keeps No W w' := by
  rw [← hX]; exact rend_any B R p W (h.no hk)
abbrev r2 (w : World) (p q : Vl) : World := (w.alloc (.cells #[.int .i64 p.k, .int .i64 p.n, .int .i64 p.b, .int .i64 p.o] 42)).alloc (.cells #[.int .i64 q.k, .int .i64 q.n, .int .i64 q.b, .int .i64 q.o] 42)
theorem r2_k (w : World) (p q : Vl) {W : World} (h : Keeps No (r2 w p q) W) : Keeps No w W := (((Keeps.refl _ _).alloc _).alloc _).trans h (fun _ _ e => e)
theorem none_k {p : Vl} (h : noneV p = true) : p.k = 2 := by unfold noneV at h; simp at h; exact h.1.1
set_option maxRecDepth 100000 in
set_option maxHeartbeats 6400000 in
theorem requal_any (B : Nat) (R : Rd) (p q : Vl) (w : World) (h : RefAs B w R) :
    Calls Try.prog 23 #[.pointer (some ⟨R.r, 0, none⟩), va p, va q] w fun e w' => e = .returned (.tuple #[.bool (equalV R.view p q).1, .bool (equalV R.view p q).2]) ∧ Keeps No w w' := by
  have HP := Lib.hid (fun W => @two_prm 42 w p q W)
  obtain ⟨NP, hNP⟩ : ∃ N, noneV p = N := ⟨_, rfl⟩
  obtain ⟨NQ, hNQ⟩ : ∃ N, noneV q = N := ⟨_, rfl⟩
  obtain ⟨SP, hSP⟩ : ∃ N, sureV R.view p = N := ⟨_, rfl⟩
  obtain ⟨SQ, hSQ⟩ : ∃ N, sureV R.view q = N := ⟨_, rfl⟩
  have hkp : NP = true → p.k = 2 := fun e => none_k (hNP.trans e)
  have hkq : NQ = true → q.k = 2 := fun e => none_k (hNQ.trans e)
  have HNP := Lib.hid (fun W hk => rnone_as p NP hNP w W hk)
  have HNQ := Lib.hid (fun W hk => rnone_as q NQ hNQ w W hk)
  have HSP := Lib.hid (fun W hk => rend_as B R p SP hSP w W h hk)
  have HSQ := Lib.hid (fun W hk => rend_as B R q SQ hSQ w W h hk)
  obtain ⟨E, hR⟩ : ∃ E, equalV R.view p q = E := ⟨_, rfl⟩
  rw [hR]
  unfold equalV at hR
  rw [hNP, hNQ, hSP, hSQ] at hR
  clear h hNP hNQ hSP hSQ
  have hp4 := kw4_any p.k
  have hq4 := kw4_any q.k
  obtain ⟨R1, R2⟩ := E
  simp only
  obtain ⟨pk, pn, pb, po⟩ := p
  obtain ⟨qk, qn, qb, qo⟩ := q
  simp only at hp4 hq4 hR hkp hkq
  have hne : Nonempty (KW (r2 w ⟨pk, pn, pb, po⟩ ⟨qk, qn, qb, qo⟩)) := ⟨KW.of _⟩
  have a0 : ∀ u : KW (r2 w ⟨pk, pn, pb, po⟩ ⟨qk, qn, qb, qo⟩), u.W.cell? ⟨w.heap.size, 0, none⟩ = some (.int .i64 pk) := fun u => (HP.out u.W u.h).1.1
  have a1 : ∀ u : KW (r2 w ⟨pk, pn, pb, po⟩ ⟨qk, qn, qb, qo⟩), u.W.cell? ⟨w.heap.size, 1, none⟩ = some (.int .i64 pn) := fun u => (HP.out u.W u.h).1.2.1
  have a2 : ∀ u : KW (r2 w ⟨pk, pn, pb, po⟩ ⟨qk, qn, qb, qo⟩), u.W.cell? ⟨w.heap.size, 2, none⟩ = some (.int .i64 pb) := fun u => (HP.out u.W u.h).1.2.2.1
  have a3 : ∀ u : KW (r2 w ⟨pk, pn, pb, po⟩ ⟨qk, qn, qb, qo⟩), u.W.cell? ⟨w.heap.size, 3, none⟩ = some (.int .i64 po) := fun u => (HP.out u.W u.h).1.2.2.2
  have b0 : ∀ u : KW (r2 w ⟨pk, pn, pb, po⟩ ⟨qk, qn, qb, qo⟩), u.W.cell? ⟨w.heap.size + 1, 0, none⟩ = some (.int .i64 qk) := fun u => (HP.out u.W u.h).2.1.1
  have b1 : ∀ u : KW (r2 w ⟨pk, pn, pb, po⟩ ⟨qk, qn, qb, qo⟩), u.W.cell? ⟨w.heap.size + 1, 1, none⟩ = some (.int .i64 qn) := fun u => (HP.out u.W u.h).2.1.2.1
  have b2 : ∀ u : KW (r2 w ⟨pk, pn, pb, po⟩ ⟨qk, qn, qb, qo⟩), u.W.cell? ⟨w.heap.size + 1, 2, none⟩ = some (.int .i64 qb) := fun u => (HP.out u.W u.h).2.1.2.2.1
  have b3 : ∀ u : KW (r2 w ⟨pk, pn, pb, po⟩ ⟨qk, qn, qb, qo⟩), u.W.cell? ⟨w.heap.size + 1, 3, none⟩ = some (.int .i64 qo) := fun u => (HP.out u.W u.h).2.1.2.2.2
  unfold kw4 at hp4 hq4
  rcases hp4 with rfl | rfl | rfl | ⟨n1, n2, n3⟩
  · rcases hq4 with rfl | rfl | rfl | ⟨q1, q2, q3⟩
    · have HE : Hid (decide (pn = qn) = R1 ∧ true = R2) := Lib.hid (by simpa [*] using hR)
      clear hR hkp hkq
      go_enter Try.func23, Try.ntmps23
      go_wp2_with fail
      go_returns
      exact ⟨rbb rfl (by rw [← HE.out.1]; try rfl) (by rw [← HE.out.2]; try rfl), (by repeat (first | with_reducible exact Keeps.refl _ _ | with_reducible refine Keeps.alloc ?_ _ | with_reducible refine Keeps.drewN ?_ _ | with_reducible refine Keeps.drew ?_ | with_reducible refine Keeps.setCell ?_ (.inr (by simp)) _ | with_reducible refine Keeps.setRow ?_ (by simp) _))⟩
    · have HE : Hid (false = R1 ∧ false = R2) := Lib.hid (by simpa [*] using hR)
      clear hR hkp hkq
      go_enter Try.func23, Try.ntmps23
      go_wp2_with fail
      go_returns
      exact ⟨rbb rfl (by rw [← HE.out.1]; try rfl) (by rw [← HE.out.2]; try rfl), (by repeat (first | with_reducible exact Keeps.refl _ _ | with_reducible refine Keeps.alloc ?_ _ | with_reducible refine Keeps.drewN ?_ _ | with_reducible refine Keeps.drew ?_ | with_reducible refine Keeps.setCell ?_ (.inr (by simp)) _ | with_reducible refine Keeps.setRow ?_ (by simp) _))⟩
    · obtain rfl : NP = false := (by cases NP with | false => rfl | true => exact absurd (hkp rfl) (by omega))
      have HE : Hid (false = R1 ∧ false = R2) := Lib.hid (by simpa [*] using hR)
      clear hR hkp hkq
      go_enter Try.func23, Try.ntmps23
      go_wp2_with fail
      refine (HNP.out _ (by repeat (first | with_reducible exact Keeps.refl _ _ | with_reducible refine Keeps.alloc ?_ _ | with_reducible refine Keeps.drewN ?_ _ | with_reducible refine Keeps.drew ?_ | with_reducible refine Keeps.setCell ?_ (.inr (by simp)) _ | with_reducible refine Keeps.setRow ?_ (by simp) _))).mono ?_
      rintro e w1 ⟨rfl, hg1⟩
      obtain ⟨T1, rfl⟩ : ∃ T : KW (r2 w ⟨1, pn, pb, po⟩ ⟨3, qn, qb, qo⟩), w1 = T.W := ⟨⟨w1, hg1⟩, rfl⟩
      have HK1 := Lib.hid (r2_k _ _ _ T1.h)
      clear hg1
      go_wp2_with fail
      go_returns
      exact ⟨rbb rfl (by rw [← HE.out.1]; try rfl) (by rw [← HE.out.2]; try rfl), HK1.out⟩
    · have HE : Hid (false = R1 ∧ false = R2) := Lib.hid (by simpa [*] using hR)
      clear hR hkp hkq
      go_enter Try.func23, Try.ntmps23
      go_wp2_with fail
      go_returns
      exact ⟨rbb rfl (by rw [← HE.out.1]; try rfl) (by rw [← HE.out.2]; try rfl), (by repeat (first | with_reducible exact Keeps.refl _ _ | with_reducible refine Keeps.alloc ?_ _ | with_reducible refine Keeps.drewN ?_ _ | with_reducible refine Keeps.drew ?_ | with_reducible refine Keeps.setCell ?_ (.inr (by simp)) _ | with_reducible refine Keeps.setRow ?_ (by simp) _))⟩
  · rcases hq4 with rfl | rfl | rfl | ⟨q1, q2, q3⟩
    · have HE : Hid (false = R1 ∧ false = R2) := Lib.hid (by simpa [*] using hR)
      clear hR hkp hkq
      go_enter Try.func23, Try.ntmps23
      go_wp2_with fail
      go_returns
      exact ⟨rbb rfl (by rw [← HE.out.1]; try rfl) (by rw [← HE.out.2]; try rfl), (by repeat (first | with_reducible exact Keeps.refl _ _ | with_reducible refine Keeps.alloc ?_ _ | with_reducible refine Keeps.drewN ?_ _ | with_reducible refine Keeps.drew ?_ | with_reducible refine Keeps.setCell ?_ (.inr (by simp)) _ | with_reducible refine Keeps.setRow ?_ (by simp) _))⟩
    · by_cases hb : pb = qb
      · have HE : Hid (decide (po = qo) = R1 ∧ true = R2) := Lib.hid (by simpa [*] using hR)
        subst hb
        clear hR hkp hkq
        go_enter Try.func23, Try.ntmps23
        go_wp2_with fail
        go_returns
        exact ⟨rbb rfl (by rw [← HE.out.1]; try rfl) (by rw [← HE.out.2]; try rfl), (by repeat (first | with_reducible exact Keeps.refl _ _ | with_reducible refine Keeps.alloc ?_ _ | with_reducible refine Keeps.drewN ?_ _ | with_reducible refine Keeps.drew ?_ | with_reducible refine Keeps.setCell ?_ (.inr (by simp)) _ | with_reducible refine Keeps.setRow ?_ (by simp) _))⟩
      · have hb' : (pb == qb) = false := beq_eq_false_iff_ne.2 hb
        have HE : Hid (false = R1 ∧ (SP && SQ) = R2) := Lib.hid (by simpa [*] using hR)
        clear hR hkp hkq
        cases SP with
        | false =>
          go_enter Try.func23, Try.ntmps23
          go_wp2_with fail
          refine (HSP.out _ (by repeat (first | with_reducible exact Keeps.refl _ _ | with_reducible refine Keeps.alloc ?_ _ | with_reducible refine Keeps.drewN ?_ _ | with_reducible refine Keeps.drew ?_ | with_reducible refine Keeps.setCell ?_ (.inr (by simp)) _ | with_reducible refine Keeps.setRow ?_ (by simp) _))).mono ?_
          rintro e w1 ⟨rfl, hg1⟩
          obtain ⟨T1, rfl⟩ : ∃ T : KW (r2 w ⟨2, pn, pb, po⟩ ⟨2, qn, qb, qo⟩), w1 = T.W := ⟨⟨w1, hg1⟩, rfl⟩
          have HK1 := Lib.hid (r2_k _ _ _ T1.h)
          clear hg1
          go_wp2_with fail
          go_returns
          exact ⟨rbb rfl (by rw [← HE.out.1]; try rfl) (by rw [← HE.out.2]; rfl), HK1.out⟩
        | true =>
          cases SQ <;> (
          go_enter Try.func23, Try.ntmps23
          go_wp2_with fail
          refine (HSP.out _ (by repeat (first | with_reducible exact Keeps.refl _ _ | with_reducible refine Keeps.alloc ?_ _ | with_reducible refine Keeps.drewN ?_ _ | with_reducible refine Keeps.drew ?_ | with_reducible refine Keeps.setCell ?_ (.inr (by simp)) _ | with_reducible refine Keeps.setRow ?_ (by simp) _))).mono ?_
          rintro e w1 ⟨rfl, hg1⟩
          obtain ⟨T1, rfl⟩ : ∃ T : KW (r2 w ⟨2, pn, pb, po⟩ ⟨2, qn, qb, qo⟩), w1 = T.W := ⟨⟨w1, hg1⟩, rfl⟩
          have HK1 := Lib.hid (r2_k _ _ _ T1.h)
          clear hg1
          go_wp2_with fail
          refine (HSQ.out _ HK1.out).mono ?_
          rintro e w2 ⟨rfl, hg2⟩
          obtain ⟨T2, rfl⟩ : ∃ T : KW (r2 w ⟨2, pn, pb, po⟩ ⟨2, qn, qb, qo⟩), w2 = T.W := ⟨⟨w2, T1.h.trans hg2 (fun _ _ e => e)⟩, rfl⟩
          have HK2 := Lib.hid (r2_k _ _ _ T2.h)
          clear hg2
          go_wp2_with fail
          go_returns
          exact ⟨rbb rfl (by rw [← HE.out.1]; try rfl) (by rw [← HE.out.2]; rfl), HK2.out⟩)
    · cases NP with
      | true =>
        have HE : Hid (false = R1 ∧ true = R2) := Lib.hid (by simpa [*] using hR)
        clear hR hkp hkq
        go_enter Try.func23, Try.ntmps23
        go_wp2_with fail
        refine (HNP.out _ (by repeat (first | with_reducible exact Keeps.refl _ _ | with_reducible refine Keeps.alloc ?_ _ | with_reducible refine Keeps.drewN ?_ _ | with_reducible refine Keeps.drew ?_ | with_reducible refine Keeps.setCell ?_ (.inr (by simp)) _ | with_reducible refine Keeps.setRow ?_ (by simp) _))).mono ?_
        rintro e w1 ⟨rfl, hg1⟩
        obtain ⟨T1, rfl⟩ : ∃ T : KW (r2 w ⟨2, pn, pb, po⟩ ⟨3, qn, qb, qo⟩), w1 = T.W := ⟨⟨w1, hg1⟩, rfl⟩
        have HK1 := Lib.hid (r2_k _ _ _ T1.h)
        clear hg1
        go_wp2_with fail
        go_returns
        exact ⟨rbb rfl (by rw [← HE.out.1]; try rfl) (by rw [← HE.out.2]; try rfl), HK1.out⟩
      | false =>
        have HE : Hid (false = R1 ∧ false = R2) := Lib.hid (by simpa [*] using hR)
        clear hR hkp hkq
        go_enter Try.func23, Try.ntmps23
        go_wp2_with fail
        refine (HNP.out _ (by repeat (first | with_reducible exact Keeps.refl _ _ | with_reducible refine Keeps.alloc ?_ _ | with_reducible refine Keeps.drewN ?_ _ | with_reducible refine Keeps.drew ?_ | with_reducible refine Keeps.setCell ?_ (.inr (by simp)) _ | with_reducible refine Keeps.setRow ?_ (by simp) _))).mono ?_
        rintro e w1 ⟨rfl, hg1⟩
        obtain ⟨T1, rfl⟩ : ∃ T : KW (r2 w ⟨2, pn, pb, po⟩ ⟨3, qn, qb, qo⟩), w1 = T.W := ⟨⟨w1, hg1⟩, rfl⟩
        have HK1 := Lib.hid (r2_k _ _ _ T1.h)
        clear hg1
        go_wp2_with fail
        go_returns
        exact ⟨rbb rfl (by rw [← HE.out.1]; try rfl) (by rw [← HE.out.2]; try rfl), HK1.out⟩
    · have HE : Hid (false = R1 ∧ false = R2) := Lib.hid (by simpa [*] using hR)
      clear hR hkp hkq
      go_enter Try.func23, Try.ntmps23
      go_wp2_with fail
      go_returns
      exact ⟨rbb rfl (by rw [← HE.out.1]; try rfl) (by rw [← HE.out.2]; try rfl), (by repeat (first | with_reducible exact Keeps.refl _ _ | with_reducible refine Keeps.alloc ?_ _ | with_reducible refine Keeps.drewN ?_ _ | with_reducible refine Keeps.drew ?_ | with_reducible refine Keeps.setCell ?_ (.inr (by simp)) _ | with_reducible refine Keeps.setRow ?_ (by simp) _))⟩
  · rcases hq4 with rfl | rfl | rfl | ⟨q1, q2, q3⟩
    · obtain rfl : NQ = false := (by cases NQ with | false => rfl | true => exact absurd (hkq rfl) (by omega))
      have HE : Hid (false = R1 ∧ false = R2) := Lib.hid (by simpa [*] using hR)
      clear hR hkp hkq
      go_enter Try.func23, Try.ntmps23
      go_wp2_with fail
      refine (HNQ.out _ (by repeat (first | with_reducible exact Keeps.refl _ _ | with_reducible refine Keeps.alloc ?_ _ | with_reducible refine Keeps.drewN ?_ _ | with_reducible refine Keeps.drew ?_ | with_reducible refine Keeps.setCell ?_ (.inr (by simp)) _ | with_reducible refine Keeps.setRow ?_ (by simp) _))).mono ?_
      rintro e w1 ⟨rfl, hg1⟩
      obtain ⟨T1, rfl⟩ : ∃ T : KW (r2 w ⟨3, pn, pb, po⟩ ⟨1, qn, qb, qo⟩), w1 = T.W := ⟨⟨w1, hg1⟩, rfl⟩
      have HK1 := Lib.hid (r2_k _ _ _ T1.h)
      clear hg1
      go_wp2_with fail
      go_returns
      exact ⟨rbb rfl (by rw [← HE.out.1]; try rfl) (by rw [← HE.out.2]; try rfl), HK1.out⟩
    · cases NQ with
      | true =>
        have HE : Hid (false = R1 ∧ true = R2) := Lib.hid (by simpa [*] using hR)
        clear hR hkp hkq
        go_enter Try.func23, Try.ntmps23
        go_wp2_with fail
        refine (HNQ.out _ (by repeat (first | with_reducible exact Keeps.refl _ _ | with_reducible refine Keeps.alloc ?_ _ | with_reducible refine Keeps.drewN ?_ _ | with_reducible refine Keeps.drew ?_ | with_reducible refine Keeps.setCell ?_ (.inr (by simp)) _ | with_reducible refine Keeps.setRow ?_ (by simp) _))).mono ?_
        rintro e w1 ⟨rfl, hg1⟩
        obtain ⟨T1, rfl⟩ : ∃ T : KW (r2 w ⟨3, pn, pb, po⟩ ⟨2, qn, qb, qo⟩), w1 = T.W := ⟨⟨w1, hg1⟩, rfl⟩
        have HK1 := Lib.hid (r2_k _ _ _ T1.h)
        clear hg1
        go_wp2_with fail
        go_returns
        exact ⟨rbb rfl (by rw [← HE.out.1]; try rfl) (by rw [← HE.out.2]; try rfl), HK1.out⟩
      | false =>
        have HE : Hid (false = R1 ∧ false = R2) := Lib.hid (by simpa [*] using hR)
        clear hR hkp hkq
        go_enter Try.func23, Try.ntmps23
        go_wp2_with fail
        refine (HNQ.out _ (by repeat (first | with_reducible exact Keeps.refl _ _ | with_reducible refine Keeps.alloc ?_ _ | with_reducible refine Keeps.drewN ?_ _ | with_reducible refine Keeps.drew ?_ | with_reducible refine Keeps.setCell ?_ (.inr (by simp)) _ | with_reducible refine Keeps.setRow ?_ (by simp) _))).mono ?_
        rintro e w1 ⟨rfl, hg1⟩
        obtain ⟨T1, rfl⟩ : ∃ T : KW (r2 w ⟨3, pn, pb, po⟩ ⟨2, qn, qb, qo⟩), w1 = T.W := ⟨⟨w1, hg1⟩, rfl⟩
        have HK1 := Lib.hid (r2_k _ _ _ T1.h)
        clear hg1
        go_wp2_with fail
        go_returns
        exact ⟨rbb rfl (by rw [← HE.out.1]; try rfl) (by rw [← HE.out.2]; try rfl), HK1.out⟩
    · obtain rfl : NQ = false := (by cases NQ with | false => rfl | true => exact absurd (hkq rfl) (by omega))
      obtain rfl : NP = false := (by cases NP with | false => rfl | true => exact absurd (hkp rfl) (by omega))
      have HE : Hid (decide (pn = qn) = R1 ∧ true = R2) := Lib.hid (by simpa [*] using hR)
      clear hR hkp hkq
      go_enter Try.func23, Try.ntmps23
      go_wp2_with fail
      refine (HNQ.out _ (by repeat (first | with_reducible exact Keeps.refl _ _ | with_reducible refine Keeps.alloc ?_ _ | with_reducible refine Keeps.drewN ?_ _ | with_reducible refine Keeps.drew ?_ | with_reducible refine Keeps.setCell ?_ (.inr (by simp)) _ | with_reducible refine Keeps.setRow ?_ (by simp) _))).mono ?_
      rintro e w1 ⟨rfl, hg1⟩
      obtain ⟨T1, rfl⟩ : ∃ T : KW (r2 w ⟨3, pn, pb, po⟩ ⟨3, qn, qb, qo⟩), w1 = T.W := ⟨⟨w1, hg1⟩, rfl⟩
      have HK1 := Lib.hid (r2_k _ _ _ T1.h)
      clear hg1
      go_wp2_with fail
      refine (HNP.out _ HK1.out).mono ?_
      rintro e w2 ⟨rfl, hg2⟩
      obtain ⟨T2, rfl⟩ : ∃ T : KW (r2 w ⟨3, pn, pb, po⟩ ⟨3, qn, qb, qo⟩), w2 = T.W := ⟨⟨w2, T1.h.trans hg2 (fun _ _ e => e)⟩, rfl⟩
      have HK2 := Lib.hid (r2_k _ _ _ T2.h)
      clear hg2
      go_wp2_with fail
      go_returns
      exact ⟨rbb rfl (by rw [← HE.out.1]; try rfl) (by rw [← HE.out.2]; try rfl), HK2.out⟩
    · obtain rfl : NQ = false := (by cases NQ with | false => rfl | true => exact absurd (hkq rfl) (by omega))
      have HE : Hid (false = R1 ∧ false = R2) := Lib.hid (by simpa [*] using hR)
      clear hR hkp hkq
      go_enter Try.func23, Try.ntmps23
      go_wp2_with fail
      refine (HNQ.out _ (by repeat (first | with_reducible exact Keeps.refl _ _ | with_reducible refine Keeps.alloc ?_ _ | with_reducible refine Keeps.drewN ?_ _ | with_reducible refine Keeps.drew ?_ | with_reducible refine Keeps.setCell ?_ (.inr (by simp)) _ | with_reducible refine Keeps.setRow ?_ (by simp) _))).mono ?_
      rintro e w1 ⟨rfl, hg1⟩
      obtain ⟨T1, rfl⟩ : ∃ T : KW (r2 w ⟨3, pn, pb, po⟩ ⟨qk, qn, qb, qo⟩), w1 = T.W := ⟨⟨w1, hg1⟩, rfl⟩
      have HK1 := Lib.hid (r2_k _ _ _ T1.h)
      clear hg1
      go_wp2_with fail
      go_returns
      exact ⟨rbb rfl (by rw [← HE.out.1]; try rfl) (by rw [← HE.out.2]; try rfl), HK1.out⟩
  · rcases hq4 with rfl | rfl | rfl | ⟨q1, q2, q3⟩
    · have HE : Hid (false = R1 ∧ false = R2) := Lib.hid (by simpa [*] using hR)
      clear hR hkp hkq
      go_enter Try.func23, Try.ntmps23
      go_wp2_with fail
      go_returns
      exact ⟨rbb rfl (by rw [← HE.out.1]; try rfl) (by rw [← HE.out.2]; try rfl), (by repeat (first | with_reducible exact Keeps.refl _ _ | with_reducible refine Keeps.alloc ?_ _ | with_reducible refine Keeps.drewN ?_ _ | with_reducible refine Keeps.drew ?_ | with_reducible refine Keeps.setCell ?_ (.inr (by simp)) _ | with_reducible refine Keeps.setRow ?_ (by simp) _))⟩
    · have HE : Hid (false = R1 ∧ false = R2) := Lib.hid (by simpa [*] using hR)
      clear hR hkp hkq
      go_enter Try.func23, Try.ntmps23
      go_wp2_with fail
      go_returns
      exact ⟨rbb rfl (by rw [← HE.out.1]; try rfl) (by rw [← HE.out.2]; try rfl), (by repeat (first | with_reducible exact Keeps.refl _ _ | with_reducible refine Keeps.alloc ?_ _ | with_reducible refine Keeps.drewN ?_ _ | with_reducible refine Keeps.drew ?_ | with_reducible refine Keeps.setCell ?_ (.inr (by simp)) _ | with_reducible refine Keeps.setRow ?_ (by simp) _))⟩
    · obtain rfl : NP = false := (by cases NP with | false => rfl | true => exact absurd (hkp rfl) (by omega))
      have HE : Hid (false = R1 ∧ false = R2) := Lib.hid (by simpa [*] using hR)
      clear hR hkp hkq
      go_enter Try.func23, Try.ntmps23
      go_wp2_with fail
      refine (HNP.out _ (by repeat (first | with_reducible exact Keeps.refl _ _ | with_reducible refine Keeps.alloc ?_ _ | with_reducible refine Keeps.drewN ?_ _ | with_reducible refine Keeps.drew ?_ | with_reducible refine Keeps.setCell ?_ (.inr (by simp)) _ | with_reducible refine Keeps.setRow ?_ (by simp) _))).mono ?_
      rintro e w1 ⟨rfl, hg1⟩
      obtain ⟨T1, rfl⟩ : ∃ T : KW (r2 w ⟨pk, pn, pb, po⟩ ⟨3, qn, qb, qo⟩), w1 = T.W := ⟨⟨w1, hg1⟩, rfl⟩
      have HK1 := Lib.hid (r2_k _ _ _ T1.h)
      clear hg1
      go_wp2_with fail
      go_returns
      exact ⟨rbb rfl (by rw [← HE.out.1]; try rfl) (by rw [← HE.out.2]; try rfl), HK1.out⟩
    · by_cases hpq : pk = qk
      · by_cases hlt : pk < 1
        · have e1 : (pk == qk) = true := beq_iff_eq.2 hpq
          have HE : Hid (false = R1 ∧ false = R2) := Lib.hid (by simpa [*] using hR)
          subst hpq
          clear hR hkp hkq
          go_enter Try.func23, Try.ntmps23
          go_wp2_with fail
          go_returns
          exact ⟨rbb rfl (by rw [← HE.out.1]; try rfl) (by rw [← HE.out.2]; try rfl), (by repeat (first | with_reducible exact Keeps.refl _ _ | with_reducible refine Keeps.alloc ?_ _ | with_reducible refine Keeps.drewN ?_ _ | with_reducible refine Keeps.drew ?_ | with_reducible refine Keeps.setCell ?_ (.inr (by simp)) _ | with_reducible refine Keeps.setRow ?_ (by simp) _))⟩
        · have hgt : 3 < pk := by omega
          have HE : Hid (false = R1 ∧ false = R2) := Lib.hid (by simpa [*] using hR)
          subst hpq
          clear hR hkp hkq
          go_enter Try.func23, Try.ntmps23
          go_wp2_with fail
          go_returns
          exact ⟨rbb rfl (by rw [← HE.out.1]; try rfl) (by rw [← HE.out.2]; try rfl), (by repeat (first | with_reducible exact Keeps.refl _ _ | with_reducible refine Keeps.alloc ?_ _ | with_reducible refine Keeps.drewN ?_ _ | with_reducible refine Keeps.drew ?_ | with_reducible refine Keeps.setCell ?_ (.inr (by simp)) _ | with_reducible refine Keeps.setRow ?_ (by simp) _))⟩
      · have e1 : (pk == qk) = false := beq_eq_false_iff_ne.2 hpq
        have HE : Hid (false = R1 ∧ false = R2) := Lib.hid (by simpa [*] using hR)
        clear hR hkp hkq
        go_enter Try.func23, Try.ntmps23
        go_wp2_with fail
        go_returns
        exact ⟨rbb rfl (by rw [← HE.out.1]; try rfl) (by rw [← HE.out.2]; try rfl), (by repeat (first | with_reducible exact Keeps.refl _ _ | with_reducible refine Keeps.alloc ?_ _ | with_reducible refine Keeps.drewN ?_ _ | with_reducible refine Keeps.drew ?_ | with_reducible refine Keeps.setCell ?_ (.inr (by simp)) _ | with_reducible refine Keeps.setRow ?_ (by simp) _))⟩
theorem requal_as (B : Nat) (R : Rd) (p q : Vl) (r : Bool × Bool) (hr : equalV R.view p q = r) (w W : World) (h : RefAs B w R) (hk : Keeps No w W) :
    Calls Try.prog 23 #[.pointer (some ⟨R.r, 0, none⟩), va p, va q] W fun e w' => e = .returned (.tuple #[.bool r.1, .bool r.2]) ∧ Keeps No W w' := by
  rw [← hr]; exact requal_any B R p q W (h.no hk)
end Go.Proofs.Ytjchfldlmabblaa
