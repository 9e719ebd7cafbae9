/- The document's memory: None, in, end. -/
import Derived.Test.YtjchfldlmabblaaMmRefA
namespace Go.Proofs.Ytjchfldlmabblaa
open Go.RowKit Go.Maps
set_option linter.unusedVariables false
set_option linter.unusedSimpArgs false

set_option maxHeartbeats 800000 in
theorem rnone_any (x : Vl) (w : World) :
    Calls Try.prog 40 #[va x] w fun e w' => e = .returned (.bool (noneV x)) ∧ Keeps No w w' := by
  obtain ⟨k, n, b, o⟩ := x
  unfold noneV
  go_enter Try.func40, Try.ntmps40
  go_wp2_with fail
  all_goals (go_returns; exact ⟨rb rfl (by simp_all; try rfl), (by repeat (first | with_reducible exact Keeps.refl _ _ | with_reducible refine Keeps.alloc ?_ _ | with_reducible refine Keeps.drewN ?_ _ | with_reducible refine Keeps.drew ?_ | with_reducible refine Keeps.setCell ?_ (.inr (by simp)) _ | with_reducible refine Keeps.setRow ?_ (by simp) _))⟩)
set_option maxRecDepth 100000 in
set_option maxHeartbeats 1600000 in
theorem rin_any (B : Nat) (R : Rd) (x : Vl) (w : World) (h : RefAs B w R) :
    Calls Try.prog 38 #[.pointer (some ⟨R.r, 0, none⟩), va x] w fun e w' => e = .returned (.bool (inV R.view x)) ∧ Keeps No w w' := by
  obtain ⟨k, n, b, o⟩ := x
  have c0 := h.c0
  by_cases hk : k = 2
  · subst hk
    cases hA : R.at b with
    | none =>
      have hr : inV R.view ⟨2, n, b, o⟩ = false := by unfold inV atV Rd.view; rw [if_pos rfl]; simp [hA]
      rw [hr]
      have HT := Lib.hid (fun (o1 : Obj) (m : Nat) => there_q B R b false (by rw [hA]; rfl) (w.alloc o1) (h.no ((Keeps.refl _ _).alloc _)) m)
      clear h hA hr
      go_enter Try.func38, Try.ntmps38
      go_wp2_with fail
      go_quiet ((go_at_call 26; exact HT.out _ _))
      try go_wp2_with fail
      go_returns
      exact ⟨rfl, (by repeat (first | with_reducible exact Keeps.refl _ _ | with_reducible refine Keeps.alloc ?_ _ | with_reducible refine Keeps.drewN ?_ _ | with_reducible refine Keeps.drew ?_ | with_reducible refine Keeps.setCell ?_ (.inr (by simp)) _ | with_reducible refine Keeps.setRow ?_ (by simp) _))⟩
    | some d =>
      obtain ⟨i, rfl, hi1, hi2, hd, ho⟩ := at_pos hA
      have hi' : (i : Int) < (R.bs.length : Int) := by omega
      have i0 : (0 : Int) ≤ (i : Int) := by omega
      obtain ⟨k0, _, _, _⟩ := h.c hd
      obtain ⟨D, hD⟩ : ∃ D, spanV d.view o = D := ⟨_, rfl⟩
      have hr : inV R.view ⟨2, n, i, o⟩ = D := by unfold inV atV Rd.view; rw [if_pos rfl]; simp only [hA, Option.map_some, Option.filter_some, hD]; cases D <;> rfl
      have HD : Hid ((decide (0 ≤ o) && decide (o ≤ d.z)) = D) := Lib.hid hD
      rw [hr]
      have HT := Lib.hid (fun (o1 : Obj) (m : Nat) => there_q B R i true (by rw [hA]; rfl) (w.alloc o1) (h.no ((Keeps.refl _ _).alloc _)) m)
      have HL := Lib.hid (h.lt (.inl rfl)).2
      have hg : R.g < w.heap.size := (h.lt (.inr (.inl rfl))).2
      have hr1 : R.r < w.heap.size := (h.lt (.inl rfl)).2
      have hg1 : R.g ≠ w.heap.size := by omega
      have hr2 : R.r ≠ w.heap.size := by omega
      clear h hA hr hd hD ho
      by_cases h0 : 0 ≤ o
      · by_cases hz : o ≤ d.z
        · obtain rfl : D = true := by rw [← HD.out]; simp [h0, hz]
          clear HD
          go_enter Try.func38, Try.ntmps38
          go_wp2_with fail
          go_quiet ((go_at_call 26; exact HT.out _ _))
          try go_wp2_with fail
          go_returns
          exact ⟨(by first | rfl | exact rb rfl (by simp [hz])), (by repeat (first | with_reducible exact Keeps.refl _ _ | with_reducible refine Keeps.alloc ?_ _ | with_reducible refine Keeps.drewN ?_ _ | with_reducible refine Keeps.drew ?_ | with_reducible refine Keeps.setCell ?_ (.inr (by simp)) _ | with_reducible refine Keeps.setRow ?_ (by simp) _))⟩
        · obtain rfl : D = false := by rw [← HD.out]; simp [h0, hz]
          clear HD
          go_enter Try.func38, Try.ntmps38
          go_wp2_with fail
          go_quiet ((go_at_call 26; exact HT.out _ _))
          try go_wp2_with fail
          go_returns
          exact ⟨(by first | rfl | exact rb rfl (by simp [hz])), (by repeat (first | with_reducible exact Keeps.refl _ _ | with_reducible refine Keeps.alloc ?_ _ | with_reducible refine Keeps.drewN ?_ _ | with_reducible refine Keeps.drew ?_ | with_reducible refine Keeps.setCell ?_ (.inr (by simp)) _ | with_reducible refine Keeps.setRow ?_ (by simp) _))⟩
      · obtain rfl : D = false := by rw [← HD.out]; simp [h0]
        have h0' : decide (0 ≤ o) = false := decide_eq_false h0
        clear HD
        go_enter Try.func38, Try.ntmps38
        go_wp2_with fail
        go_quiet ((go_at_call 26; exact HT.out _ _))
        try go_wp2_with fail
        go_returns
        exact ⟨rfl, (by repeat (first | with_reducible exact Keeps.refl _ _ | with_reducible refine Keeps.alloc ?_ _ | with_reducible refine Keeps.drewN ?_ _ | with_reducible refine Keeps.drew ?_ | with_reducible refine Keeps.setCell ?_ (.inr (by simp)) _ | with_reducible refine Keeps.setRow ?_ (by simp) _))⟩
  · have hr : inV R.view ⟨k, n, b, o⟩ = false := by unfold inV atV; rw [if_neg hk]; rfl
    rw [hr]
    have hk1 : (k == 2) = false := beq_eq_false_iff_ne.2 hk
    clear h hr
    go_enter Try.func38, Try.ntmps38
    go_wp2_with fail
    try go_quiet (fail)
    try go_wp2_with fail
    go_returns
    exact ⟨rfl, (by repeat (first | with_reducible exact Keeps.refl _ _ | with_reducible refine Keeps.alloc ?_ _ | with_reducible refine Keeps.drewN ?_ _ | with_reducible refine Keeps.drew ?_ | with_reducible refine Keeps.setCell ?_ (.inr (by simp)) _ | with_reducible refine Keeps.setRow ?_ (by simp) _))⟩
end Go.Proofs.Ytjchfldlmabblaa
