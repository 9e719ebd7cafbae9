/- The laws' own Low: a number below another. -/
import Derived.Test.YtpjilcfmcbapcaaDoorBase
import Derived.Test.YtpjilcfmcbapcaaDoorWordMathC
namespace Go.Proofs.YtpjilcfmcbapcaaDoor
open Go.RowKit
set_option linter.unusedVariables false
set_option maxHeartbeats 400000 in
theorem low_any (x n : Int) (hx : -9223372036854775808 ≤ x ∧ x ≤ 9223372036854775807) (hn : 1 ≤ n ∧ n ≤ 4611686018427387904) (w : World) :
    Calls Tryd.prog 8 #[.int .i64 x, .int .i64 n] w fun e w' => e = .returned (.int .i64 (IntKind.u64.wrap x % n)) ∧ w = w' := by
  have hb := Wd.u64_bd x
  have h0 : ¬ n = 0 := by omega
  have h1 : 0 ≤ IntKind.u64.wrap x % n ∧ IntKind.u64.wrap x % n < n := ⟨Int.emod_nonneg _ h0, Int.emod_lt_of_pos _ (by omega)⟩
  go_enter Tryd.func8, Tryd.ntmps8
  go_wp2
  go_returns
  exact ⟨ri rfl rfl, rfl⟩
theorem low_as (x n K : Int) (hx : -9223372036854775808 ≤ x ∧ x ≤ 9223372036854775807) (hn : 1 ≤ n ∧ n ≤ 4611686018427387904) (HK : Hid (IntKind.u64.wrap x % n = K)) (w : World) :
    Calls Tryd.prog 8 #[.int .i64 x, .int .i64 n] w fun e w' => e = .returned (.int .i64 K) ∧ w = w' := by
  have h := low_any x n hx hn w
  rw [HK.out] at h
  exact h
end Go.Proofs.YtpjilcfmcbapcaaDoor
