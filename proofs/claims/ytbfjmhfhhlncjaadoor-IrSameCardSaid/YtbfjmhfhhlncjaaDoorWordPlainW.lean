/- w.Plain: it reckons what Wd.plainV says. -/
import Derived.Test.YtbfjmhfhhlncjaaDoorBase
import Derived.Test.YtbfjmhfhhlncjaaDoorWordMath
namespace Go.Proofs.YtbfjmhfhhlncjaaDoor
open Go.RowKit
set_option linter.unusedVariables false

set_option maxHeartbeats 800000 in
theorem wplain_1 (a b : Int) (ha : -9223372036854775808 ≤ a ∧ a ≤ 9223372036854775807) (hb : -9223372036854775808 ≤ b ∧ b ≤ 9223372036854775807) (w : World) :
    Calls Tryd.prog 65 #[.int .i64 1, .int .i64 a, .int .i64 b] w fun e w' => e = .returned (.tuple #[.int .i64 (Wd.plainV 1 a b), .bool (Wd.plainOk 1 a b)]) ∧ w = w' := by
  go_enter Tryd.func65, Tryd.ntmps65
  go_wp2
  all_goals (go_returns; refine ⟨rt rfl rfl ?_ ?_, rfl⟩)
  all_goals simp [Wd.plainV, Wd.plainOk]

set_option maxHeartbeats 800000 in
theorem wplain_2 (a b : Int) (ha : -9223372036854775808 ≤ a ∧ a ≤ 9223372036854775807) (hb : -9223372036854775808 ≤ b ∧ b ≤ 9223372036854775807) (w : World) :
    Calls Tryd.prog 65 #[.int .i64 2, .int .i64 a, .int .i64 b] w fun e w' => e = .returned (.tuple #[.int .i64 (Wd.plainV 2 a b), .bool (Wd.plainOk 2 a b)]) ∧ w = w' := by
  go_enter Tryd.func65, Tryd.ntmps65
  go_wp2
  all_goals (go_returns; refine ⟨rt rfl rfl ?_ ?_, rfl⟩)
  all_goals simp [Wd.plainV, Wd.plainOk]

set_option maxHeartbeats 800000 in
theorem wplain_3 (a b : Int) (ha : -9223372036854775808 ≤ a ∧ a ≤ 9223372036854775807) (hb : -9223372036854775808 ≤ b ∧ b ≤ 9223372036854775807) (w : World) :
    Calls Tryd.prog 65 #[.int .i64 3, .int .i64 a, .int .i64 b] w fun e w' => e = .returned (.tuple #[.int .i64 (Wd.plainV 3 a b), .bool (Wd.plainOk 3 a b)]) ∧ w = w' := by
  go_enter Tryd.func65, Tryd.ntmps65
  go_wp2
  all_goals (go_returns; refine ⟨rt rfl rfl ?_ ?_, rfl⟩)
  all_goals simp [Wd.plainV, Wd.plainOk]

set_option maxHeartbeats 800000 in
theorem wplain_4 (a b : Int) (ha : -9223372036854775808 ≤ a ∧ a ≤ 9223372036854775807) (hb : -9223372036854775808 ≤ b ∧ b ≤ 9223372036854775807) (w : World) :
    Calls Tryd.prog 65 #[.int .i64 4, .int .i64 a, .int .i64 b] w fun e w' => e = .returned (.tuple #[.int .i64 (Wd.plainV 4 a b), .bool (Wd.plainOk 4 a b)]) ∧ w = w' := by
  by_cases h1 : a = -9223372036854775808
  · have h1' : (a == -9223372036854775808) = true := by simpa using h1
    have H1 := Lib.hid h1
    clear h1
    by_cases h2 : b = -1
    · have h2' : (b == -1) = true := by simpa using h2
      have H2 := Lib.hid h2
      clear h2
      by_cases h0 : b = 0
      · have h0' : (b == 0) = true := by simpa using h0
        have H0 := Lib.hid h0
        clear h0
        go_enter Tryd.func65, Tryd.ntmps65
        go_wp2
        all_goals (go_returns; refine ⟨rt rfl rfl ?_ ?_, rfl⟩)
        all_goals simp [Wd.plainV, Wd.plainOk, H0.out]
      · have h0' : (b == 0) = false := by simpa using h0
        have h3 : ¬ IntKind.u64.wrap b = 0 := by rw [Wd.u64_zero b hb]; exact h0
        have h3' : (IntKind.u64.wrap b == 0) = false := by simpa using h3
        have H0 := Lib.hid h0
        go_enter Tryd.func65, Tryd.ntmps65
        go_wp2
        all_goals (go_returns; refine ⟨rt rfl rfl ?_ ?_, rfl⟩)
        all_goals simp [Wd.plainV, Wd.plainOk, H1.out, H2.out]
    · have h2' : (b == -1) = false := by simpa using h2
      have H2 := Lib.hid h2
      clear h2
      by_cases h0 : b = 0
      · have h0' : (b == 0) = true := by simpa using h0
        have H0 := Lib.hid h0
        clear h0
        go_enter Tryd.func65, Tryd.ntmps65
        go_wp2
        all_goals (go_returns; refine ⟨rt rfl rfl ?_ ?_, rfl⟩)
        all_goals simp [Wd.plainV, Wd.plainOk, H0.out]
      · have h0' : (b == 0) = false := by simpa using h0
        have h3 : ¬ IntKind.u64.wrap b = 0 := by rw [Wd.u64_zero b hb]; exact h0
        have h3' : (IntKind.u64.wrap b == 0) = false := by simpa using h3
        have H0 := Lib.hid h0
        go_enter Tryd.func65, Tryd.ntmps65
        go_wp2
        all_goals (go_returns; refine ⟨rt rfl rfl ?_ ?_, rfl⟩)
        all_goals simp [Wd.plainV, Wd.plainOk, H0.out, H1.out, H2.out]
  · have h1' : (a == -9223372036854775808) = false := by simpa using h1
    have H1 := Lib.hid h1
    clear h1
    by_cases h0 : b = 0
    · have h0' : (b == 0) = true := by simpa using h0
      have H0 := Lib.hid h0
      clear h0
      go_enter Tryd.func65, Tryd.ntmps65
      go_wp2
      all_goals (go_returns; refine ⟨rt rfl rfl ?_ ?_, rfl⟩)
      all_goals simp [Wd.plainV, Wd.plainOk, H0.out]
    · have h0' : (b == 0) = false := by simpa using h0
      have h3 : ¬ IntKind.u64.wrap b = 0 := by rw [Wd.u64_zero b hb]; exact h0
      have h3' : (IntKind.u64.wrap b == 0) = false := by simpa using h3
      have H0 := Lib.hid h0
      go_enter Tryd.func65, Tryd.ntmps65
      go_wp2
      all_goals (go_returns; refine ⟨rt rfl rfl ?_ ?_, rfl⟩)
      all_goals simp [Wd.plainV, Wd.plainOk, H0.out, H1.out]

set_option maxHeartbeats 800000 in
theorem wplain_5 (a b : Int) (ha : -9223372036854775808 ≤ a ∧ a ≤ 9223372036854775807) (hb : -9223372036854775808 ≤ b ∧ b ≤ 9223372036854775807) (w : World) :
    Calls Tryd.prog 65 #[.int .i64 5, .int .i64 a, .int .i64 b] w fun e w' => e = .returned (.tuple #[.int .i64 (Wd.plainV 5 a b), .bool (Wd.plainOk 5 a b)]) ∧ w = w' := by
  by_cases h1 : a = -9223372036854775808
  · have h1' : (a == -9223372036854775808) = true := by simpa using h1
    have H1 := Lib.hid h1
    clear h1
    by_cases h2 : b = -1
    · have h2' : (b == -1) = true := by simpa using h2
      have H2 := Lib.hid h2
      clear h2
      by_cases h0 : b = 0
      · have h0' : (b == 0) = true := by simpa using h0
        have H0 := Lib.hid h0
        clear h0
        go_enter Tryd.func65, Tryd.ntmps65
        go_wp2
        all_goals (go_returns; refine ⟨rt rfl rfl ?_ ?_, rfl⟩)
        all_goals simp [Wd.plainV, Wd.plainOk, H0.out]
      · have h0' : (b == 0) = false := by simpa using h0
        have h3 : ¬ IntKind.u64.wrap b = 0 := by rw [Wd.u64_zero b hb]; exact h0
        have h3' : (IntKind.u64.wrap b == 0) = false := by simpa using h3
        have H0 := Lib.hid h0
        go_enter Tryd.func65, Tryd.ntmps65
        go_wp2
        all_goals (go_returns; refine ⟨rt rfl rfl ?_ ?_, rfl⟩)
        all_goals simp [Wd.plainV, Wd.plainOk, H1.out, H2.out]
    · have h2' : (b == -1) = false := by simpa using h2
      have H2 := Lib.hid h2
      clear h2
      by_cases h0 : b = 0
      · have h0' : (b == 0) = true := by simpa using h0
        have H0 := Lib.hid h0
        clear h0
        go_enter Tryd.func65, Tryd.ntmps65
        go_wp2
        all_goals (go_returns; refine ⟨rt rfl rfl ?_ ?_, rfl⟩)
        all_goals simp [Wd.plainV, Wd.plainOk, H0.out]
      · have h0' : (b == 0) = false := by simpa using h0
        have h3 : ¬ IntKind.u64.wrap b = 0 := by rw [Wd.u64_zero b hb]; exact h0
        have h3' : (IntKind.u64.wrap b == 0) = false := by simpa using h3
        have H0 := Lib.hid h0
        go_enter Tryd.func65, Tryd.ntmps65
        go_wp2
        all_goals (go_returns; refine ⟨rt rfl rfl ?_ ?_, rfl⟩)
        all_goals simp [Wd.plainV, Wd.plainOk, H0.out, H1.out, H2.out]
  · have h1' : (a == -9223372036854775808) = false := by simpa using h1
    have H1 := Lib.hid h1
    clear h1
    by_cases h0 : b = 0
    · have h0' : (b == 0) = true := by simpa using h0
      have H0 := Lib.hid h0
      clear h0
      go_enter Tryd.func65, Tryd.ntmps65
      go_wp2
      all_goals (go_returns; refine ⟨rt rfl rfl ?_ ?_, rfl⟩)
      all_goals simp [Wd.plainV, Wd.plainOk, H0.out]
    · have h0' : (b == 0) = false := by simpa using h0
      have h3 : ¬ IntKind.u64.wrap b = 0 := by rw [Wd.u64_zero b hb]; exact h0
      have h3' : (IntKind.u64.wrap b == 0) = false := by simpa using h3
      have H0 := Lib.hid h0
      go_enter Tryd.func65, Tryd.ntmps65
      go_wp2
      all_goals (go_returns; refine ⟨rt rfl rfl ?_ ?_, rfl⟩)
      all_goals simp [Wd.plainV, Wd.plainOk, H0.out, H1.out]

set_option maxHeartbeats 800000 in
theorem wplain_6 (a b : Int) (ha : -9223372036854775808 ≤ a ∧ a ≤ 9223372036854775807) (hb : -9223372036854775808 ≤ b ∧ b ≤ 9223372036854775807) (w : World) :
    Calls Tryd.prog 65 #[.int .i64 6, .int .i64 a, .int .i64 b] w fun e w' => e = .returned (.tuple #[.int .i64 (Wd.plainV 6 a b), .bool (Wd.plainOk 6 a b)]) ∧ w = w' := by
  by_cases h0 : b = 0
  · have h0' : (b == 0) = true := by simpa using h0
    have H0 := Lib.hid h0
    clear h0
    go_enter Tryd.func65, Tryd.ntmps65
    go_wp2
    all_goals (go_returns; refine ⟨rt rfl rfl ?_ ?_, rfl⟩)
    all_goals simp [Wd.plainV, Wd.plainOk, H0.out]
  · have h0' : (b == 0) = false := by simpa using h0
    have h3 : ¬ IntKind.u64.wrap b = 0 := by rw [Wd.u64_zero b hb]; exact h0
    have h3' : (IntKind.u64.wrap b == 0) = false := by simpa using h3
    have H0 := Lib.hid h0
    go_enter Tryd.func65, Tryd.ntmps65
    go_wp2
    all_goals (go_returns; refine ⟨rt rfl rfl ?_ ?_, rfl⟩)
    all_goals simp [Wd.plainV, Wd.plainOk, H0.out]

set_option maxHeartbeats 800000 in
theorem wplain_7 (a b : Int) (ha : -9223372036854775808 ≤ a ∧ a ≤ 9223372036854775807) (hb : -9223372036854775808 ≤ b ∧ b ≤ 9223372036854775807) (w : World) :
    Calls Tryd.prog 65 #[.int .i64 7, .int .i64 a, .int .i64 b] w fun e w' => e = .returned (.tuple #[.int .i64 (Wd.plainV 7 a b), .bool (Wd.plainOk 7 a b)]) ∧ w = w' := by
  by_cases h0 : b = 0
  · have h0' : (b == 0) = true := by simpa using h0
    have H0 := Lib.hid h0
    clear h0
    go_enter Tryd.func65, Tryd.ntmps65
    go_wp2
    all_goals (go_returns; refine ⟨rt rfl rfl ?_ ?_, rfl⟩)
    all_goals simp [Wd.plainV, Wd.plainOk, H0.out]
  · have h0' : (b == 0) = false := by simpa using h0
    have h3 : ¬ IntKind.u64.wrap b = 0 := by rw [Wd.u64_zero b hb]; exact h0
    have h3' : (IntKind.u64.wrap b == 0) = false := by simpa using h3
    have H0 := Lib.hid h0
    go_enter Tryd.func65, Tryd.ntmps65
    go_wp2
    all_goals (go_returns; refine ⟨rt rfl rfl ?_ ?_, rfl⟩)
    all_goals simp [Wd.plainV, Wd.plainOk, H0.out]

set_option maxHeartbeats 800000 in
theorem wplain_8 (a b : Int) (ha : -9223372036854775808 ≤ a ∧ a ≤ 9223372036854775807) (hb : -9223372036854775808 ≤ b ∧ b ≤ 9223372036854775807) (w : World) :
    Calls Tryd.prog 65 #[.int .i64 8, .int .i64 a, .int .i64 b] w fun e w' => e = .returned (.tuple #[.int .i64 (Wd.plainV 8 a b), .bool (Wd.plainOk 8 a b)]) ∧ w = w' := by
  go_enter Tryd.func65, Tryd.ntmps65
  go_wp2
  all_goals (go_returns; refine ⟨rt rfl rfl ?_ ?_, rfl⟩)
  all_goals simp [Wd.plainV, Wd.plainOk]

set_option maxHeartbeats 800000 in
theorem wplain_9 (a b : Int) (ha : -9223372036854775808 ≤ a ∧ a ≤ 9223372036854775807) (hb : -9223372036854775808 ≤ b ∧ b ≤ 9223372036854775807) (w : World) :
    Calls Tryd.prog 65 #[.int .i64 9, .int .i64 a, .int .i64 b] w fun e w' => e = .returned (.tuple #[.int .i64 (Wd.plainV 9 a b), .bool (Wd.plainOk 9 a b)]) ∧ w = w' := by
  go_enter Tryd.func65, Tryd.ntmps65
  go_wp2
  all_goals (go_returns; refine ⟨rt rfl rfl ?_ ?_, rfl⟩)
  all_goals simp [Wd.plainV, Wd.plainOk]

set_option maxHeartbeats 800000 in
theorem wplain_10 (a b : Int) (ha : -9223372036854775808 ≤ a ∧ a ≤ 9223372036854775807) (hb : -9223372036854775808 ≤ b ∧ b ≤ 9223372036854775807) (w : World) :
    Calls Tryd.prog 65 #[.int .i64 10, .int .i64 a, .int .i64 b] w fun e w' => e = .returned (.tuple #[.int .i64 (Wd.plainV 10 a b), .bool (Wd.plainOk 10 a b)]) ∧ w = w' := by
  go_enter Tryd.func65, Tryd.ntmps65
  go_wp2
  all_goals (go_returns; refine ⟨rt rfl rfl ?_ ?_, rfl⟩)
  all_goals simp [Wd.plainV, Wd.plainOk]

set_option maxHeartbeats 800000 in
theorem wplain_11 (a b : Int) (ha : -9223372036854775808 ≤ a ∧ a ≤ 9223372036854775807) (hb : -9223372036854775808 ≤ b ∧ b ≤ 9223372036854775807) (w : World) :
    Calls Tryd.prog 65 #[.int .i64 11, .int .i64 a, .int .i64 b] w fun e w' => e = .returned (.tuple #[.int .i64 (Wd.plainV 11 a b), .bool (Wd.plainOk 11 a b)]) ∧ w = w' := by
  have hk := Wd.u64_and63 b
  go_enter Tryd.func65, Tryd.ntmps65
  go_wp2
  all_goals (go_returns; refine ⟨rt rfl rfl ?_ ?_, rfl⟩)
  all_goals simp [Wd.plainV, Wd.plainOk]

set_option maxHeartbeats 800000 in
theorem wplain_12 (a b : Int) (ha : -9223372036854775808 ≤ a ∧ a ≤ 9223372036854775807) (hb : -9223372036854775808 ≤ b ∧ b ≤ 9223372036854775807) (w : World) :
    Calls Tryd.prog 65 #[.int .i64 12, .int .i64 a, .int .i64 b] w fun e w' => e = .returned (.tuple #[.int .i64 (Wd.plainV 12 a b), .bool (Wd.plainOk 12 a b)]) ∧ w = w' := by
  have hk := Wd.u64_and63 b
  go_enter Tryd.func65, Tryd.ntmps65
  go_wp2
  all_goals (go_returns; refine ⟨rt rfl rfl ?_ ?_, rfl⟩)
  all_goals simp [Wd.plainV, Wd.plainOk]

set_option maxHeartbeats 800000 in
theorem wplain_13 (a b : Int) (ha : -9223372036854775808 ≤ a ∧ a ≤ 9223372036854775807) (hb : -9223372036854775808 ≤ b ∧ b ≤ 9223372036854775807) (w : World) :
    Calls Tryd.prog 65 #[.int .i64 13, .int .i64 a, .int .i64 b] w fun e w' => e = .returned (.tuple #[.int .i64 (Wd.plainV 13 a b), .bool (Wd.plainOk 13 a b)]) ∧ w = w' := by
  have hk := Wd.u64_and63 b
  go_enter Tryd.func65, Tryd.ntmps65
  go_wp2
  all_goals (go_returns; refine ⟨rt rfl rfl ?_ ?_, rfl⟩)
  all_goals simp [Wd.plainV, Wd.plainOk]

set_option maxHeartbeats 800000 in
theorem wplain_14 (a b : Int) (ha : -9223372036854775808 ≤ a ∧ a ≤ 9223372036854775807) (hb : -9223372036854775808 ≤ b ∧ b ≤ 9223372036854775807) (w : World) :
    Calls Tryd.prog 65 #[.int .i64 14, .int .i64 a, .int .i64 b] w fun e w' => e = .returned (.tuple #[.int .i64 (Wd.plainV 14 a b), .bool (Wd.plainOk 14 a b)]) ∧ w = w' := by
  by_cases h : a = b
  · have h' : (a == b) = true := by simpa using h
    have H := Lib.hid h
    clear h
    go_enter Tryd.func65, Tryd.ntmps65
    go_wp2
    all_goals (go_returns; refine ⟨rt rfl rfl ?_ ?_, rfl⟩)
    all_goals simp [Wd.plainV, Wd.plainOk, H.out]
  · have h' : (a == b) = false := by simpa using h
    have H := Lib.hid h
    clear h
    go_enter Tryd.func65, Tryd.ntmps65
    go_wp2
    all_goals (go_returns; refine ⟨rt rfl rfl ?_ ?_, rfl⟩)
    all_goals simp [Wd.plainV, Wd.plainOk, H.out]

set_option maxHeartbeats 800000 in
theorem wplain_15 (a b : Int) (ha : -9223372036854775808 ≤ a ∧ a ≤ 9223372036854775807) (hb : -9223372036854775808 ≤ b ∧ b ≤ 9223372036854775807) (w : World) :
    Calls Tryd.prog 65 #[.int .i64 15, .int .i64 a, .int .i64 b] w fun e w' => e = .returned (.tuple #[.int .i64 (Wd.plainV 15 a b), .bool (Wd.plainOk 15 a b)]) ∧ w = w' := by
  by_cases h : a = b
  · have h' : (a != b) = false := by simpa using h
    have H := Lib.hid h
    clear h
    go_enter Tryd.func65, Tryd.ntmps65
    go_wp2
    all_goals (go_returns; refine ⟨rt rfl rfl ?_ ?_, rfl⟩)
    all_goals simp [Wd.plainV, Wd.plainOk, H.out]
  · have h' : (a != b) = true := by simpa using h
    have H := Lib.hid h
    clear h
    go_enter Tryd.func65, Tryd.ntmps65
    go_wp2
    all_goals (go_returns; refine ⟨rt rfl rfl ?_ ?_, rfl⟩)
    all_goals simp [Wd.plainV, Wd.plainOk, H.out]

set_option maxHeartbeats 800000 in
theorem wplain_16 (a b : Int) (ha : -9223372036854775808 ≤ a ∧ a ≤ 9223372036854775807) (hb : -9223372036854775808 ≤ b ∧ b ≤ 9223372036854775807) (w : World) :
    Calls Tryd.prog 65 #[.int .i64 16, .int .i64 a, .int .i64 b] w fun e w' => e = .returned (.tuple #[.int .i64 (Wd.plainV 16 a b), .bool (Wd.plainOk 16 a b)]) ∧ w = w' := by
  by_cases h : a < b
  · have H := Lib.hid h
    go_enter Tryd.func65, Tryd.ntmps65
    go_wp2
    all_goals (go_returns; refine ⟨rt rfl rfl ?_ ?_, rfl⟩)
    all_goals simp [Wd.plainV, Wd.plainOk, H.out]
  · have H := Lib.hid h
    go_enter Tryd.func65, Tryd.ntmps65
    go_wp2
    all_goals (go_returns; refine ⟨rt rfl rfl ?_ ?_, rfl⟩)
    all_goals simp [Wd.plainV, Wd.plainOk, H.out]

set_option maxHeartbeats 800000 in
theorem wplain_17 (a b : Int) (ha : -9223372036854775808 ≤ a ∧ a ≤ 9223372036854775807) (hb : -9223372036854775808 ≤ b ∧ b ≤ 9223372036854775807) (w : World) :
    Calls Tryd.prog 65 #[.int .i64 17, .int .i64 a, .int .i64 b] w fun e w' => e = .returned (.tuple #[.int .i64 (Wd.plainV 17 a b), .bool (Wd.plainOk 17 a b)]) ∧ w = w' := by
  by_cases h : a ≤ b
  · have H := Lib.hid h
    go_enter Tryd.func65, Tryd.ntmps65
    go_wp2
    all_goals (go_returns; refine ⟨rt rfl rfl ?_ ?_, rfl⟩)
    all_goals simp [Wd.plainV, Wd.plainOk, H.out]
  · have H := Lib.hid h
    go_enter Tryd.func65, Tryd.ntmps65
    go_wp2
    all_goals (go_returns; refine ⟨rt rfl rfl ?_ ?_, rfl⟩)
    all_goals simp [Wd.plainV, Wd.plainOk, H.out]

set_option maxHeartbeats 800000 in
theorem wplain_18 (a b : Int) (ha : -9223372036854775808 ≤ a ∧ a ≤ 9223372036854775807) (hb : -9223372036854775808 ≤ b ∧ b ≤ 9223372036854775807) (w : World) :
    Calls Tryd.prog 65 #[.int .i64 18, .int .i64 a, .int .i64 b] w fun e w' => e = .returned (.tuple #[.int .i64 (Wd.plainV 18 a b), .bool (Wd.plainOk 18 a b)]) ∧ w = w' := by
  by_cases h : IntKind.u64.wrap a < IntKind.u64.wrap b
  · have H := Lib.hid h
    go_enter Tryd.func65, Tryd.ntmps65
    go_wp2
    all_goals (go_returns; refine ⟨rt rfl rfl ?_ ?_, rfl⟩)
    all_goals simp [Wd.plainV, Wd.plainOk, H.out]
  · have H := Lib.hid h
    go_enter Tryd.func65, Tryd.ntmps65
    go_wp2
    all_goals (go_returns; refine ⟨rt rfl rfl ?_ ?_, rfl⟩)
    all_goals simp [Wd.plainV, Wd.plainOk, H.out]

set_option maxHeartbeats 800000 in
theorem wplain_19 (a b : Int) (ha : -9223372036854775808 ≤ a ∧ a ≤ 9223372036854775807) (hb : -9223372036854775808 ≤ b ∧ b ≤ 9223372036854775807) (w : World) :
    Calls Tryd.prog 65 #[.int .i64 19, .int .i64 a, .int .i64 b] w fun e w' => e = .returned (.tuple #[.int .i64 (Wd.plainV 19 a b), .bool (Wd.plainOk 19 a b)]) ∧ w = w' := by
  by_cases h : IntKind.u64.wrap a ≤ IntKind.u64.wrap b
  · have H := Lib.hid h
    go_enter Tryd.func65, Tryd.ntmps65
    go_wp2
    all_goals (go_returns; refine ⟨rt rfl rfl ?_ ?_, rfl⟩)
    all_goals simp [Wd.plainV, Wd.plainOk, H.out]
  · have H := Lib.hid h
    go_enter Tryd.func65, Tryd.ntmps65
    go_wp2
    all_goals (go_returns; refine ⟨rt rfl rfl ?_ ?_, rfl⟩)
    all_goals simp [Wd.plainV, Wd.plainOk, H.out]

set_option maxHeartbeats 800000 in
theorem wplain_no (s : Int) (hs : s < 1 ∨ 19 < s) (a b : Int) (ha : -9223372036854775808 ≤ a ∧ a ≤ 9223372036854775807) (hb : -9223372036854775808 ≤ b ∧ b ≤ 9223372036854775807) (w : World) :
    Calls Tryd.prog 65 #[.int .i64 s, .int .i64 a, .int .i64 b] w fun e w' => e = .returned (.tuple #[.int .i64 (Wd.plainV s a b), .bool (Wd.plainOk s a b)]) ∧ w = w' := by
  have e1 : Wd.plainOk s a b = false := by unfold Wd.plainOk; rw [if_neg (by omega), if_neg (by omega)]; exact decide_eq_false (by omega)
  have e2 : Wd.plainV s a b = 0 := by unfold Wd.plainV; rw [if_pos e1]
  rw [e1, e2]
  clear e1 e2
  rcases hs with hs | hs
  all_goals
    go_enter Tryd.func65, Tryd.ntmps65
    go_wp2
    all_goals (go_returns; exact ⟨rt rfl rfl rfl rfl, rfl⟩)

theorem wplain (s : Int) (a b : Int) (ha : -9223372036854775808 ≤ a ∧ a ≤ 9223372036854775807) (hb : -9223372036854775808 ≤ b ∧ b ≤ 9223372036854775807) (w : World) :
    Calls Tryd.prog 65 #[.int .i64 s, .int .i64 a, .int .i64 b] w fun e w' => e = .returned (.tuple #[.int .i64 (Wd.plainV s a b), .bool (Wd.plainOk s a b)]) ∧ w = w' := by
  by_cases h1 : s = 1
  · subst h1; exact wplain_1 a b ha hb w
  by_cases h2 : s = 2
  · subst h2; exact wplain_2 a b ha hb w
  by_cases h3 : s = 3
  · subst h3; exact wplain_3 a b ha hb w
  by_cases h4 : s = 4
  · subst h4; exact wplain_4 a b ha hb w
  by_cases h5 : s = 5
  · subst h5; exact wplain_5 a b ha hb w
  by_cases h6 : s = 6
  · subst h6; exact wplain_6 a b ha hb w
  by_cases h7 : s = 7
  · subst h7; exact wplain_7 a b ha hb w
  by_cases h8 : s = 8
  · subst h8; exact wplain_8 a b ha hb w
  by_cases h9 : s = 9
  · subst h9; exact wplain_9 a b ha hb w
  by_cases h10 : s = 10
  · subst h10; exact wplain_10 a b ha hb w
  by_cases h11 : s = 11
  · subst h11; exact wplain_11 a b ha hb w
  by_cases h12 : s = 12
  · subst h12; exact wplain_12 a b ha hb w
  by_cases h13 : s = 13
  · subst h13; exact wplain_13 a b ha hb w
  by_cases h14 : s = 14
  · subst h14; exact wplain_14 a b ha hb w
  by_cases h15 : s = 15
  · subst h15; exact wplain_15 a b ha hb w
  by_cases h16 : s = 16
  · subst h16; exact wplain_16 a b ha hb w
  by_cases h17 : s = 17
  · subst h17; exact wplain_17 a b ha hb w
  by_cases h18 : s = 18
  · subst h18; exact wplain_18 a b ha hb w
  by_cases h19 : s = 19
  · subst h19; exact wplain_19 a b ha hb w
  exact wplain_no s (by omega) a b ha hb w

end Go.Proofs.YtbfjmhfhhlncjaaDoor
