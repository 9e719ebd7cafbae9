/- word.leaves64: by Wd.leaves. -/
import Derived.Test.YtkjhdanfbmdmlaaDoorWordBinA
namespace Go.Proofs.YtkjhdanfbmdmlaaDoor
open Go.RowKit
set_option linter.unusedVariables false
set_option linter.unusedSimpArgs false

set_option maxHeartbeats 400000 in
theorem wleaves_1 (E : Bool) (a b n : Int) (ha : -9223372036854775808 ≤ a ∧ a ≤ 9223372036854775807) (hb : -9223372036854775808 ≤ b ∧ b ≤ 9223372036854775807) (hn : -9223372036854775808 ≤ n ∧ n ≤ 9223372036854775807) (w : World) (HE : Hid (Wd.leaves 1 a b n = E)) :
    Calls Tryd.prog 42 #[.int .i64 1, .int .i64 a, .int .i64 b, .int .i64 n] w fun e w' => e = .returned (.bool E) ∧ w = w' := by
  by_cases h1 : 0 ≤ b
  · have H1 := Lib.hid h1
    by_cases h2 : a ≤ n
    · have H2 := Lib.hid h2
      go_enter Tryd.func42, Tryd.ntmps42
      go_wp2
      all_goals (go_returns; refine ⟨rb rfl ?_, rfl⟩)
      all_goals (rw [← HE.out]; have j1 := H1.out; have j2 := H2.out; unfold Wd.leaves; simp; try omega)
    · have H2 := Lib.hid h2
      go_enter Tryd.func42, Tryd.ntmps42
      go_wp2
      all_goals (go_returns; refine ⟨rb rfl ?_, rfl⟩)
      all_goals (rw [← HE.out]; have j1 := H1.out; have j2 := H2.out; unfold Wd.leaves; simp; try omega)
  · have H1 := Lib.hid h1
    by_cases h2 : a ≤ n
    · have H2 := Lib.hid h2
      go_enter Tryd.func42, Tryd.ntmps42
      go_wp2
      all_goals (go_returns; refine ⟨rb rfl ?_, rfl⟩)
      all_goals (rw [← HE.out]; have j1 := H1.out; have j2 := H2.out; unfold Wd.leaves; simp; try omega)
    · have H2 := Lib.hid h2
      go_enter Tryd.func42, Tryd.ntmps42
      go_wp2
      all_goals (go_returns; refine ⟨rb rfl ?_, rfl⟩)
      all_goals (rw [← HE.out]; have j1 := H1.out; have j2 := H2.out; unfold Wd.leaves; simp; try omega)

set_option maxHeartbeats 400000 in
theorem wleaves_2 (E : Bool) (a b n : Int) (ha : -9223372036854775808 ≤ a ∧ a ≤ 9223372036854775807) (hb : -9223372036854775808 ≤ b ∧ b ≤ 9223372036854775807) (hn : -9223372036854775808 ≤ n ∧ n ≤ 9223372036854775807) (w : World) (HE : Hid (Wd.leaves 2 a b n = E)) :
    Calls Tryd.prog 42 #[.int .i64 2, .int .i64 a, .int .i64 b, .int .i64 n] w fun e w' => e = .returned (.bool E) ∧ w = w' := by
  by_cases h1 : 0 ≤ b
  · have H1 := Lib.hid h1
    by_cases h2 : n ≤ a
    · have H2 := Lib.hid h2
      go_enter Tryd.func42, Tryd.ntmps42
      go_wp2
      all_goals (go_returns; refine ⟨rb rfl ?_, rfl⟩)
      all_goals (rw [← HE.out]; have j1 := H1.out; have j2 := H2.out; unfold Wd.leaves; simp; try omega)
    · have H2 := Lib.hid h2
      go_enter Tryd.func42, Tryd.ntmps42
      go_wp2
      all_goals (go_returns; refine ⟨rb rfl ?_, rfl⟩)
      all_goals (rw [← HE.out]; have j1 := H1.out; have j2 := H2.out; unfold Wd.leaves; simp; try omega)
  · have H1 := Lib.hid h1
    by_cases h2 : n ≤ a
    · have H2 := Lib.hid h2
      go_enter Tryd.func42, Tryd.ntmps42
      go_wp2
      all_goals (go_returns; refine ⟨rb rfl ?_, rfl⟩)
      all_goals (rw [← HE.out]; have j1 := H1.out; have j2 := H2.out; unfold Wd.leaves; simp; try omega)
    · have H2 := Lib.hid h2
      go_enter Tryd.func42, Tryd.ntmps42
      go_wp2
      all_goals (go_returns; refine ⟨rb rfl ?_, rfl⟩)
      all_goals (rw [← HE.out]; have j1 := H1.out; have j2 := H2.out; unfold Wd.leaves; simp; try omega)

set_option maxHeartbeats 800000 in
theorem wleaves_o (s : Int) (hs : 3 ≤ s) (E : Bool) (a b n : Int) (ha : -9223372036854775808 ≤ a ∧ a ≤ 9223372036854775807) (hb : -9223372036854775808 ≤ b ∧ b ≤ 9223372036854775807) (hn : -9223372036854775808 ≤ n ∧ n ≤ 9223372036854775807) (w : World) (HE : Hid (Wd.leaves s a b n = E)) :
    Calls Tryd.prog 42 #[.int .i64 s, .int .i64 a, .int .i64 b, .int .i64 n] w fun e w' => e = .returned (.bool E) ∧ w = w' := by
  have n1 : ¬ s = 1 := by omega
  have n2 : ¬ s = 2 := by omega
  have N1 := Lib.hid n1
  have N2 := Lib.hid n2
  clear n1 n2
  by_cases a0 : a = 0
  · have a0b : (a == 0) = true := by simpa using a0
    have Ha0 := Lib.hid a0
    clear a0
    go_enter Tryd.func42, Tryd.ntmps42
    go_wp2
    all_goals (go_returns; refine ⟨rb rfl ?_, rfl⟩)
    all_goals (rw [← HE.out]; unfold Wd.leaves; rw [if_neg N1.out, if_neg N2.out]; simp [Ha0.out])
  · have a0b : (a == 0) = false := by simpa using a0
    have Ha0 := Lib.hid a0
    clear a0
    by_cases b0 : b = 0
    · have b0b : (b == 0) = true := by simpa using b0
      have Hb0 := Lib.hid b0
      clear b0
      go_enter Tryd.func42, Tryd.ntmps42
      go_wp2
      all_goals (go_returns; refine ⟨rb rfl ?_, rfl⟩)
      all_goals (rw [← HE.out]; unfold Wd.leaves; rw [if_neg N1.out, if_neg N2.out]; simp [Hb0.out])
    · have b0b : (b == 0) = false := by simpa using b0
      have Hb0 := Lib.hid b0
      clear b0
      by_cases a1 : a = -1
      · have a1b : (a == -1) = true := by simpa using a1
        have Ha1 := Lib.hid a1
        clear a1
        by_cases c1 : a = -9223372036854775808
        · have c1b : (a == -9223372036854775808) = true := by simpa using c1
          have Hc1 := Lib.hid c1
          clear c1
          go_enter Tryd.func42, Tryd.ntmps42
          go_wp2
          all_goals (go_returns; refine ⟨rb rfl ?_, rfl⟩)
          all_goals (rw [← HE.out]; unfold Wd.leaves; rw [if_neg N1.out, if_neg N2.out]; simp [Hb0.out, Ha1.out, Hc1.out])
        · have c1b : (a == -9223372036854775808) = false := by simpa using c1
          have Hc1 := Lib.hid c1
          clear c1
          by_cases d1 : b = -9223372036854775808
          · have d1b : (b == -9223372036854775808) = true := by simpa using d1
            have Hd1 := Lib.hid d1
            clear d1
            go_enter Tryd.func42, Tryd.ntmps42
            go_wp2
            all_goals (go_returns; refine ⟨rb rfl ?_, rfl⟩)
            all_goals (rw [← HE.out]; unfold Wd.leaves; rw [if_neg N1.out, if_neg N2.out]; simp [Hb0.out, Ha1.out, Hc1.out, Hd1.out])
          · have d1b : (b == -9223372036854775808) = false := by simpa using d1
            have Hd1 := Lib.hid d1
            clear d1
            go_enter Tryd.func42, Tryd.ntmps42
            go_wp2
            all_goals (go_returns; refine ⟨rb rfl ?_, rfl⟩)
            all_goals (rw [← HE.out]; unfold Wd.leaves; rw [if_neg N1.out, if_neg N2.out]; simp [Hb0.out, Ha1.out, Hc1.out, Hd1.out])
      · have a1b : (a == -1) = false := by simpa using a1
        have Ha1 := Lib.hid a1
        clear a1
        by_cases b1 : b = -1
        · have b1b : (b == -1) = true := by simpa using b1
          have Hb1 := Lib.hid b1
          clear b1
          by_cases c1 : a = -9223372036854775808
          · have c1b : (a == -9223372036854775808) = true := by simpa using c1
            have Hc1 := Lib.hid c1
            clear c1
            go_enter Tryd.func42, Tryd.ntmps42
            go_wp2
            all_goals (go_returns; refine ⟨rb rfl ?_, rfl⟩)
            all_goals (rw [← HE.out]; unfold Wd.leaves; rw [if_neg N1.out, if_neg N2.out]; simp [Ha0.out, Hb0.out, Ha1.out, Hb1.out, Hc1.out])
          · have c1b : (a == -9223372036854775808) = false := by simpa using c1
            have Hc1 := Lib.hid c1
            clear c1
            by_cases d1 : b = -9223372036854775808
            · have d1b : (b == -9223372036854775808) = true := by simpa using d1
              have Hd1 := Lib.hid d1
              clear d1
              go_enter Tryd.func42, Tryd.ntmps42
              go_wp2
              all_goals (go_returns; refine ⟨rb rfl ?_, rfl⟩)
              all_goals (rw [← HE.out]; unfold Wd.leaves; rw [if_neg N1.out, if_neg N2.out]; simp [Ha0.out, Hb0.out, Ha1.out, Hb1.out, Hc1.out, Hd1.out])
            · have d1b : (b == -9223372036854775808) = false := by simpa using d1
              have Hd1 := Lib.hid d1
              clear d1
              go_enter Tryd.func42, Tryd.ntmps42
              go_wp2
              all_goals (go_returns; refine ⟨rb rfl ?_, rfl⟩)
              all_goals (rw [← HE.out]; unfold Wd.leaves; rw [if_neg N1.out, if_neg N2.out]; simp [Ha0.out, Hb0.out, Ha1.out, Hb1.out, Hc1.out, Hd1.out])
        · have b1b : (b == -1) = false := by simpa using b1
          have Hb1 := Lib.hid b1
          clear b1
          have hne : ¬ b = 0 := Hb0.out
          have hwr := Wd.tdiv_wrap n b hn Hb0.out Hb1.out
          by_cases e1 : n.tdiv b = a
          · have e1b : (n.tdiv b != a) = false := by simpa using e1
            have He1 := Lib.hid e1
            clear e1
            go_enter Tryd.func42, Tryd.ntmps42
            go_wp2
            all_goals (go_returns; refine ⟨rb rfl ?_, rfl⟩)
            all_goals (rw [← HE.out]; unfold Wd.leaves; rw [if_neg N1.out, if_neg N2.out]; simp [Ha0.out, Hb0.out, Ha1.out, Hb1.out, He1.out])
          · have e1b : (n.tdiv b != a) = true := by simpa using e1
            have He1 := Lib.hid e1
            clear e1
            go_enter Tryd.func42, Tryd.ntmps42
            go_wp2
            all_goals (go_returns; refine ⟨rb rfl ?_, rfl⟩)
            all_goals (rw [← HE.out]; unfold Wd.leaves; rw [if_neg N1.out, if_neg N2.out]; simp [Ha0.out, Hb0.out, Ha1.out, Hb1.out, He1.out])

theorem wleaves (s : Int) (hs : 1 ≤ s) (E : Bool) (a b n : Int) (ha : -9223372036854775808 ≤ a ∧ a ≤ 9223372036854775807) (hb : -9223372036854775808 ≤ b ∧ b ≤ 9223372036854775807) (hn : -9223372036854775808 ≤ n ∧ n ≤ 9223372036854775807) (w : World) (HE : Hid (Wd.leaves s a b n = E)) :
    Calls Tryd.prog 42 #[.int .i64 s, .int .i64 a, .int .i64 b, .int .i64 n] w fun e w' => e = .returned (.bool E) ∧ w = w' := by
  by_cases h1 : s = 1
  · subst h1; exact wleaves_1 E a b n ha hb hn w HE
  by_cases h2 : s = 2
  · subst h2; exact wleaves_2 E a b n ha hb hn w HE
  exact wleaves_o s (by omega) E a b n ha hb hn w HE
end Go.Proofs.YtkjhdanfbmdmlaaDoor
