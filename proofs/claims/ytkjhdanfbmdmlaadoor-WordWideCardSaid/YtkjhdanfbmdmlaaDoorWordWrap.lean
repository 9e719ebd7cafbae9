/- word.Wrap and the document's own Wrap and May: by Wd.wrap, Wd.may. -/
import Derived.Test.YtkjhdanfbmdmlaaDoorBase
import Derived.Test.YtkjhdanfbmdmlaaDoorWordMath
namespace Go.Proofs.YtkjhdanfbmdmlaaDoor
open Go.RowKit
set_option linter.unusedVariables false

set_option maxHeartbeats 400000 in
theorem rmay (b : Int) (s : Bool) (w : World) :
    Calls Tryd.prog 20 #[.agg #[.int .i64 b, .bool s]] w fun e w' => e = .returned (.bool (Wd.may b)) ∧ Gr w w' := by
  by_cases h1 : b = 8
  · subst h1
    go_enter Tryd.func20, Tryd.ntmps20
    go_wp2
    all_goals (go_returns; exact ⟨rb rfl (by decide), (Gr.refl _).alloc _ _⟩)
  · by_cases h2 : b = 16
    · subst h2
      go_enter Tryd.func20, Tryd.ntmps20
      go_wp2
      all_goals (go_returns; exact ⟨rb rfl (by decide), (Gr.refl _).alloc _ _⟩)
    · by_cases h3 : b = 32
      · subst h3
        go_enter Tryd.func20, Tryd.ntmps20
        go_wp2
        all_goals (go_returns; exact ⟨rb rfl (by decide), (Gr.refl _).alloc _ _⟩)
      · have e1 : (b == 8) = false := by simpa using h1
        have e2 : (b == 16) = false := by simpa using h2
        have e3 : (b == 32) = false := by simpa using h3
        by_cases h4 : b = 64
        · subst h4
          go_enter Tryd.func20, Tryd.ntmps20
          go_wp2
          all_goals (go_returns; exact ⟨rb rfl (by decide), (Gr.refl _).alloc _ _⟩)
        · have e4 : (b == 64) = false := by simpa using h4
          have e : Wd.may b = false := by unfold Wd.may; rw [e1, e2, e3, e4]; rfl
          rw [e]
          clear e
          go_enter Tryd.func20, Tryd.ntmps20
          go_wp2
          all_goals (go_returns; exact ⟨rb rfl rfl, (Gr.refl _).alloc _ _⟩)

set_option maxHeartbeats 400000 in
theorem wwrap_8true (n : Int) (hn : -9223372036854775808 ≤ n ∧ n ≤ 9223372036854775807) (w : World) :
    Calls Tryd.prog 18 #[.agg #[.int .i64 8, .bool true], .int .i64 n] w fun e w' => e = .returned (.int .i64 (Wd.wrap 8 true n)) ∧ Gr w w' := by
  go_enter Tryd.func18, Tryd.ntmps18
  go_wp2
  all_goals (go_returns; exact ⟨ri rfl (Wd.k8t n), (Gr.refl _).alloc _ _⟩)
set_option maxHeartbeats 400000 in
theorem wwrap_8false (n : Int) (hn : -9223372036854775808 ≤ n ∧ n ≤ 9223372036854775807) (w : World) :
    Calls Tryd.prog 18 #[.agg #[.int .i64 8, .bool false], .int .i64 n] w fun e w' => e = .returned (.int .i64 (Wd.wrap 8 false n)) ∧ Gr w w' := by
  go_enter Tryd.func18, Tryd.ntmps18
  go_wp2
  all_goals (go_returns; exact ⟨ri rfl (Wd.k8f n), (Gr.refl _).alloc _ _⟩)
set_option maxHeartbeats 400000 in
theorem wwrap_16true (n : Int) (hn : -9223372036854775808 ≤ n ∧ n ≤ 9223372036854775807) (w : World) :
    Calls Tryd.prog 18 #[.agg #[.int .i64 16, .bool true], .int .i64 n] w fun e w' => e = .returned (.int .i64 (Wd.wrap 16 true n)) ∧ Gr w w' := by
  go_enter Tryd.func18, Tryd.ntmps18
  go_wp2
  all_goals (go_returns; exact ⟨ri rfl (Wd.k16t n), (Gr.refl _).alloc _ _⟩)
set_option maxHeartbeats 400000 in
theorem wwrap_16false (n : Int) (hn : -9223372036854775808 ≤ n ∧ n ≤ 9223372036854775807) (w : World) :
    Calls Tryd.prog 18 #[.agg #[.int .i64 16, .bool false], .int .i64 n] w fun e w' => e = .returned (.int .i64 (Wd.wrap 16 false n)) ∧ Gr w w' := by
  go_enter Tryd.func18, Tryd.ntmps18
  go_wp2
  all_goals (go_returns; exact ⟨ri rfl (Wd.k16f n), (Gr.refl _).alloc _ _⟩)
set_option maxHeartbeats 400000 in
theorem wwrap_32true (n : Int) (hn : -9223372036854775808 ≤ n ∧ n ≤ 9223372036854775807) (w : World) :
    Calls Tryd.prog 18 #[.agg #[.int .i64 32, .bool true], .int .i64 n] w fun e w' => e = .returned (.int .i64 (Wd.wrap 32 true n)) ∧ Gr w w' := by
  go_enter Tryd.func18, Tryd.ntmps18
  go_wp2
  all_goals (go_returns; exact ⟨ri rfl (Wd.k32t n), (Gr.refl _).alloc _ _⟩)
set_option maxHeartbeats 400000 in
theorem wwrap_32false (n : Int) (hn : -9223372036854775808 ≤ n ∧ n ≤ 9223372036854775807) (w : World) :
    Calls Tryd.prog 18 #[.agg #[.int .i64 32, .bool false], .int .i64 n] w fun e w' => e = .returned (.int .i64 (Wd.wrap 32 false n)) ∧ Gr w w' := by
  go_enter Tryd.func18, Tryd.ntmps18
  go_wp2
  all_goals (go_returns; exact ⟨ri rfl (rfl), (Gr.refl _).alloc _ _⟩)
set_option maxHeartbeats 400000 in
theorem wwrap_64true (n : Int) (hn : -9223372036854775808 ≤ n ∧ n ≤ 9223372036854775807) (w : World) :
    Calls Tryd.prog 18 #[.agg #[.int .i64 64, .bool true], .int .i64 n] w fun e w' => e = .returned (.int .i64 (Wd.wrap 64 true n)) ∧ Gr w w' := by
  go_enter Tryd.func18, Tryd.ntmps18
  go_wp2
  all_goals (go_returns; exact ⟨ri rfl (rfl), (Gr.refl _).alloc _ _⟩)
set_option maxHeartbeats 400000 in
theorem wwrap_64false (n : Int) (hn : -9223372036854775808 ≤ n ∧ n ≤ 9223372036854775807) (w : World) :
    Calls Tryd.prog 18 #[.agg #[.int .i64 64, .bool false], .int .i64 n] w fun e w' => e = .returned (.int .i64 (Wd.wrap 64 false n)) ∧ Gr w w' := by
  go_enter Tryd.func18, Tryd.ntmps18
  go_wp2
  all_goals (go_returns; exact ⟨ri rfl (rfl), (Gr.refl _).alloc _ _⟩)
set_option maxHeartbeats 400000 in
theorem wwrap_no (b : Int) (s : Bool) (hm : Wd.may b = false) (n : Int) (hn : -9223372036854775808 ≤ n ∧ n ≤ 9223372036854775807) (w : World) :
    Calls Tryd.prog 18 #[.agg #[.int .i64 b, .bool s], .int .i64 n] w fun e w' => e = .returned (.int .i64 (Wd.wrap b s n)) ∧ Gr w w' := by
  have h := hm
  unfold Wd.may at h
  simp only [Bool.or_eq_false_iff, beq_eq_false_iff_ne] at h
  obtain ⟨⟨⟨a1, a2⟩, a3⟩, a4⟩ := h
  rw [Wd.wrap_no b s n hm]
  clear hm
  cases s
  all_goals
    go_enter Tryd.func18, Tryd.ntmps18
    go_wp2
    all_goals (go_returns; exact ⟨ri rfl rfl, (Gr.refl _).alloc _ _⟩)

theorem wwrap (b : Int) (s : Bool) (n : Int) (hn : -9223372036854775808 ≤ n ∧ n ≤ 9223372036854775807) (w : World) :
    Calls Tryd.prog 18 #[.agg #[.int .i64 b, .bool s], .int .i64 n] w fun e w' => e = .returned (.int .i64 (Wd.wrap b s n)) ∧ Gr w w' := by
  rcases Wd.may_cases b with h | h | h | h | h
  · subst h; cases s; exact wwrap_8false n hn w; exact wwrap_8true n hn w
  · subst h; cases s; exact wwrap_16false n hn w; exact wwrap_16true n hn w
  · subst h; cases s; exact wwrap_32false n hn w; exact wwrap_32true n hn w
  · subst h; cases s; exact wwrap_64false n hn w; exact wwrap_64true n hn w
  · exact wwrap_no b s h n hn w

set_option maxHeartbeats 400000 in
theorem rwrap_8true (n : Int) (hn : -9223372036854775808 ≤ n ∧ n ≤ 9223372036854775807) (w : World) :
    Calls Tryd.prog 16 #[.agg #[.int .i64 8, .bool true], .int .i64 n] w fun e w' => e = .returned (.int .i64 (Wd.wrap 8 true n)) ∧ Gr w w' := by
  go_enter Tryd.func16, Tryd.ntmps16
  go_wp2
  all_goals (go_returns; exact ⟨ri rfl (Wd.r8t n), ((Gr.refl _).alloc _ _).alloc _ _⟩)
set_option maxHeartbeats 400000 in
theorem rwrap_8false (n : Int) (hn : -9223372036854775808 ≤ n ∧ n ≤ 9223372036854775807) (w : World) :
    Calls Tryd.prog 16 #[.agg #[.int .i64 8, .bool false], .int .i64 n] w fun e w' => e = .returned (.int .i64 (Wd.wrap 8 false n)) ∧ Gr w w' := by
  go_enter Tryd.func16, Tryd.ntmps16
  go_wp2
  all_goals (go_returns; exact ⟨ri rfl (Wd.r8f n), ((Gr.refl _).alloc _ _).alloc _ _⟩)
set_option maxHeartbeats 400000 in
theorem rwrap_16true (n : Int) (hn : -9223372036854775808 ≤ n ∧ n ≤ 9223372036854775807) (w : World) :
    Calls Tryd.prog 16 #[.agg #[.int .i64 16, .bool true], .int .i64 n] w fun e w' => e = .returned (.int .i64 (Wd.wrap 16 true n)) ∧ Gr w w' := by
  go_enter Tryd.func16, Tryd.ntmps16
  go_wp2
  all_goals (go_returns; exact ⟨ri rfl (Wd.r16t n), ((Gr.refl _).alloc _ _).alloc _ _⟩)
set_option maxHeartbeats 400000 in
theorem rwrap_16false (n : Int) (hn : -9223372036854775808 ≤ n ∧ n ≤ 9223372036854775807) (w : World) :
    Calls Tryd.prog 16 #[.agg #[.int .i64 16, .bool false], .int .i64 n] w fun e w' => e = .returned (.int .i64 (Wd.wrap 16 false n)) ∧ Gr w w' := by
  go_enter Tryd.func16, Tryd.ntmps16
  go_wp2
  all_goals (go_returns; exact ⟨ri rfl (Wd.r16f n), ((Gr.refl _).alloc _ _).alloc _ _⟩)
set_option maxHeartbeats 400000 in
theorem rwrap_32true (n : Int) (hn : -9223372036854775808 ≤ n ∧ n ≤ 9223372036854775807) (w : World) :
    Calls Tryd.prog 16 #[.agg #[.int .i64 32, .bool true], .int .i64 n] w fun e w' => e = .returned (.int .i64 (Wd.wrap 32 true n)) ∧ Gr w w' := by
  go_enter Tryd.func16, Tryd.ntmps16
  go_wp2
  all_goals (go_returns; exact ⟨ri rfl (Wd.r32t n), ((Gr.refl _).alloc _ _).alloc _ _⟩)
set_option maxHeartbeats 400000 in
theorem rwrap_32false (n : Int) (hn : -9223372036854775808 ≤ n ∧ n ≤ 9223372036854775807) (w : World) :
    Calls Tryd.prog 16 #[.agg #[.int .i64 32, .bool false], .int .i64 n] w fun e w' => e = .returned (.int .i64 (Wd.wrap 32 false n)) ∧ Gr w w' := by
  go_enter Tryd.func16, Tryd.ntmps16
  go_wp2
  all_goals (go_returns; exact ⟨ri rfl (Wd.r32f n), ((Gr.refl _).alloc _ _).alloc _ _⟩)
set_option maxHeartbeats 400000 in
theorem rwrap_64true (n : Int) (hn : -9223372036854775808 ≤ n ∧ n ≤ 9223372036854775807) (w : World) :
    Calls Tryd.prog 16 #[.agg #[.int .i64 64, .bool true], .int .i64 n] w fun e w' => e = .returned (.int .i64 (Wd.wrap 64 true n)) ∧ Gr w w' := by
  go_enter Tryd.func16, Tryd.ntmps16
  go_wp2
  all_goals (go_returns; exact ⟨ri rfl (rfl), ((Gr.refl _).alloc _ _).alloc _ _⟩)
set_option maxHeartbeats 400000 in
theorem rwrap_64false (n : Int) (hn : -9223372036854775808 ≤ n ∧ n ≤ 9223372036854775807) (w : World) :
    Calls Tryd.prog 16 #[.agg #[.int .i64 64, .bool false], .int .i64 n] w fun e w' => e = .returned (.int .i64 (Wd.wrap 64 false n)) ∧ Gr w w' := by
  go_enter Tryd.func16, Tryd.ntmps16
  go_wp2
  all_goals (go_returns; exact ⟨ri rfl (Wd.r64f n hn), ((Gr.refl _).alloc _ _).alloc _ _⟩)
set_option maxHeartbeats 400000 in
theorem rwrap_no (b : Int) (s : Bool) (hm : Wd.may b = false) (n : Int) (hn : -9223372036854775808 ≤ n ∧ n ≤ 9223372036854775807) (w : World) :
    Calls Tryd.prog 16 #[.agg #[.int .i64 b, .bool s], .int .i64 n] w fun e w' => e = .returned (.int .i64 (Wd.wrap b s n)) ∧ Gr w w' := by
  rw [Wd.wrap_no b s n hm]
  have HM := Lib.hid hm
  clear hm
  go_enter Tryd.func16, Tryd.ntmps16
  go_wp2_with (go_at_call 20; refine (rmay _ _ _).mono ?_; rw [HM.out]; rintro e w1 ⟨rfl, hg⟩)
  all_goals (go_returns; exact ⟨ri rfl rfl, hg.of_alloc⟩)

theorem rwrap (b : Int) (s : Bool) (n : Int) (hn : -9223372036854775808 ≤ n ∧ n ≤ 9223372036854775807) (w : World) :
    Calls Tryd.prog 16 #[.agg #[.int .i64 b, .bool s], .int .i64 n] w fun e w' => e = .returned (.int .i64 (Wd.wrap b s n)) ∧ Gr w w' := by
  rcases Wd.may_cases b with h | h | h | h | h
  · subst h; cases s; exact rwrap_8false n hn w; exact rwrap_8true n hn w
  · subst h; cases s; exact rwrap_16false n hn w; exact rwrap_16true n hn w
  · subst h; cases s; exact rwrap_32false n hn w; exact rwrap_32true n hn w
  · subst h; cases s; exact rwrap_64false n hn w; exact rwrap_64true n hn w
  · exact rwrap_no b s h n hn w

end Go.Proofs.YtkjhdanfbmdmlaaDoor
