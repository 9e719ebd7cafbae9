/- The laws' own Low: a number below another. -/
import Derived.Test.YtjchfldlmabblaaMmAwake
import Derived.IntWalk
namespace Go.Proofs.Ytjchfldlmabblaa
open Go.RowKit
set_option linter.unusedVariables false
set_option maxHeartbeats 400000 in
theorem low_any (x n : Int) (hx : -9223372036854775808 ≤ x ∧ x ≤ 9223372036854775807) (hn : 1 ≤ n ∧ n ≤ 4611686018427387904) (w : World) :
    Calls Try.prog 28 #[.int .i64 x, .int .i64 n] w fun e w' => e = .returned (.int .i64 (IntKind.u64.wrap x % n)) ∧ w = w' := by
  have hb : 0 ≤ IntKind.u64.wrap x ∧ IntKind.u64.wrap x ≤ 18446744073709551615 := by simp only [IntKind.wrap, IntKind.bits, IntKind.signed]; simp; omega
  have h0 : ¬ n = 0 := by omega
  have h1 : 0 ≤ IntKind.u64.wrap x % n ∧ IntKind.u64.wrap x % n < n := ⟨Int.emod_nonneg _ h0, Int.emod_lt_of_pos _ (by omega)⟩
  go_enter Try.func28, Try.ntmps28
  go_wp2
  go_returns
  exact ⟨ri rfl rfl, rfl⟩
/-- Below n: some number from 0 on. -/
theorem low_nat (x n : Int) (hx : -9223372036854775808 ≤ x ∧ x ≤ 9223372036854775807) (hn : 1 ≤ n ∧ n ≤ 4611686018427387904) :
    ∃ k : Nat, (k : Int) < n ∧ IntKind.u64.wrap x % n = (k : Int) := by
  have h0 : ¬ n = 0 := by omega
  have h1 : 0 ≤ IntKind.u64.wrap x % n ∧ IntKind.u64.wrap x % n < n := ⟨Int.emod_nonneg _ h0, Int.emod_lt_of_pos _ (by omega)⟩
  exact ⟨(IntKind.u64.wrap x % n).toNat, by omega, by omega⟩
theorem low_as (x n K : Int) (hx : -9223372036854775808 ≤ x ∧ x ≤ 9223372036854775807) (hn : 1 ≤ n ∧ n ≤ 4611686018427387904) (HK : Hid (IntKind.u64.wrap x % n = K)) (w : World) :
    Calls Try.prog 28 #[.int .i64 x, .int .i64 n] w fun e w' => e = .returned (.int .i64 K) ∧ w = w' := by
  have h := low_any x n hx hn w
  rw [HK.out] at h
  exact h
end Go.Proofs.Ytjchfldlmabblaa
