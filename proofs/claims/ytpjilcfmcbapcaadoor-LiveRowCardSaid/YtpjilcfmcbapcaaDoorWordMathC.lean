/- The plain mathematics, more: overflow of 64 bits. -/
import Derived.Test.YtpjilcfmcbapcaaDoorWordMathB
namespace Go.Proofs.YtpjilcfmcbapcaaDoor.Wd
open Go.RowKit

/-- What word.leaves64 answers. -/
def leaves (sub a b n : Int) : Bool :=
  if sub = 1 then (decide (0 ≤ b) != decide (a ≤ n))
  else if sub = 2 then (decide (0 ≤ b) != decide (n ≤ a))
  else if a = 0 ∨ b = 0 then false
  else if a = -1 ∨ b = -1 then (a == -9223372036854775808 || b == -9223372036854775808)
  else n.tdiv b != a
theorem tdiv_bd (n b : Int) (hn : -9223372036854775808 ≤ n ∧ n ≤ 9223372036854775807) (h0 : ¬ b = 0) (h1 : ¬ b = -1) :
    -9223372036854775808 ≤ n.tdiv b ∧ n.tdiv b ≤ 9223372036854775807 := by
  by_cases hb : b = 1
  · subst hb; simpa using hn
  have e : (n.tdiv b).natAbs = n.natAbs / b.natAbs := Int.natAbs_tdiv n b
  have h2 : n.natAbs / b.natAbs ≤ n.natAbs / 2 := Nat.div_le_div_left (by omega) (by decide)
  omega
theorem tdiv_wrap (n b : Int) (hn : -9223372036854775808 ≤ n ∧ n ≤ 9223372036854775807) (h0 : ¬ b = 0) (h1 : ¬ b = -1) : wrap64 (n.tdiv b) = n.tdiv b := by
  have := tdiv_bd n b hn h0 h1
  unfold wrap64; omega
end Go.Proofs.YtpjilcfmcbapcaaDoor.Wd
