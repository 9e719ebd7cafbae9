/- WordTurns: what is asked of the numbers. -/
import Derived.Test.YtkjhdanfbmdmlaaDoorWordUsualM
import Derived.Test.YtkjhdanfbmdmlaaDoorWordSpecB
import Derived.Test.YtkjhdanfbmdmlaaDoorWordRefM
namespace Go.Proofs.YtkjhdanfbmdmlaaDoor.Wd
open Go.RowKit
set_option linter.unusedVariables false
set_option linter.unusedSimpArgs false

theorem toInt_of64 (n : Int) (h : -9223372036854775808 ≤ n ∧ n ≤ 9223372036854775807) : (BitVec.ofInt 64 n).toInt = n := by
  rw [BitVec.toInt_ofInt]; exact Int.bmod_eq_of_le (by omega) (by omega)
theorem xor_self64 (n : Int) : bits .xor .i64 n n = 0 := by
  rw [bits_bv_xor, BitVec.xor_self]; rfl
theorem xor_ones (n : Int) (h : -9223372036854775808 ≤ n ∧ n ≤ 9223372036854775807) : bits .xor .i64 (-1) n = -1 - n := by
  rw [bits_bv_xor, show BitVec.ofInt 64 (-1) = BitVec.allOnes 64 from rfl, BitVec.allOnes_xor, BitVec.toInt_not, BitVec.toNat_ofInt, Int.bmod_def]
  split <;> omega
/-- Turned to a width that is no wider, by a wider one, is turned at once. -/
theorem turned {K M : Nat} (hK : K < 8) (hM : M < 8) (n : Int) (h : tabB M ≤ tabB K) : wrap (tabB M) (tabS M) (wrap (tabB K) (tabS K) n) = wrap (tabB M) (tabS M) n := by
  rcases tab8 hK with rfl | rfl | rfl | rfl | rfl | rfl | rfl | rfl <;> rcases tab8 hM with rfl | rfl | rfl | rfl | rfl | rfl | rfl | rfl <;>
    first
      | exact absurd h (by decide)
      | (simp only [show tabB 0 = 8 from rfl, show tabB 1 = 8 from rfl, show tabB 2 = 16 from rfl, show tabB 3 = 16 from rfl, show tabB 4 = 32 from rfl, show tabB 5 = 32 from rfl, show tabB 6 = 64 from rfl, show tabB 7 = 64 from rfl,
          show tabS 0 = true from rfl, show tabS 1 = false from rfl, show tabS 2 = true from rfl, show tabS 3 = false from rfl, show tabS 4 = true from rfl, show tabS 5 = false from rfl, show tabS 6 = true from rfl, show tabS 7 = false from rfl,
          wrap_8t, wrap_8f, wrap_16t, wrap_16f, wrap_32t, wrap_32f, wrap_64]; done)
      | (simp only [show tabB 0 = 8 from rfl, show tabB 1 = 8 from rfl, show tabB 2 = 16 from rfl, show tabB 3 = 16 from rfl, show tabB 4 = 32 from rfl, show tabB 5 = 32 from rfl, show tabB 6 = 64 from rfl, show tabB 7 = 64 from rfl,
          show tabS 0 = true from rfl, show tabS 1 = false from rfl, show tabS 2 = true from rfl, show tabS 3 = false from rfl, show tabS 4 = true from rfl, show tabS 5 = false from rfl, show tabS 6 = true from rfl, show tabS 7 = false from rfl,
          wrap_8t, wrap_8f, wrap_16t, wrap_16f, wrap_32t, wrap_32f, wrap_64]; omega)
/-- All that the second half asks, of a width that is reckoned in. -/
theorem reck_all {B : Int} (t : Bool) (hB : B = 32 ∨ B = 64) (n : Int) (hn : -9223372036854775808 ≤ n ∧ n ≤ 9223372036854775807) (X : Int) (hX : wrap B t n = X) :
    bval B t 2 X X = 0 ∧ bok B t 2 X X = true ∧ bval B t 1 X X = bval B t 3 X 2 ∧ bok B t 1 X X = bok B t 3 X 2 ∧ bval B t 10 X X = 0 ∧ bok B t 10 X X = true ∧
    wrap B t (bits .xor .i64 (-1) (wrap B t (bits .xor .i64 (-1) X))) = X := by
  have hXb : -9223372036854775808 ≤ X ∧ X ≤ 9223372036854775807 := by rw [← hX]; exact wrap_bd B t n hn
  have hfix : wrap B t X = X := by
    rw [← hX]
    rcases hB with rfl | rfl <;> cases t <;> simp only [wrap_32t, wrap_32f, wrap_64] <;> omega
  have h2 : wrap B t 2 = 2 := by rcases hB with rfl | rfl <;> cases t <;> rfl
  have hr : reck B = true := by rcases hB with rfl | rfl <;> rfl
  have e1 : exact 2 X X = 0 := by show X - X = 0; omega
  have e2 : exact 1 X X = exact 3 X 2 := by show X + X = X * 2; omega
  have f0 : fits B 0 = true := by rcases hB with rfl | rfl <;> rfl
  have o2 : bok B t 2 X X = true := by unfold bok; rw [hr, if_pos (by decide), hfix, e1, f0]; simp
  have o1 : bok B t 1 X X = bok B t 3 X 2 := by unfold bok; rw [if_pos (by decide), if_pos (by decide), hfix, h2, e2]
  have o10 : bok B t 10 X X = true := by unfold bok; rw [hr]; rfl
  refine ⟨?_, o2, ?_, o1, ?_, o10, ?_⟩
  · unfold bval
    rw [if_neg (by rw [o2]; decide), if_pos (by decide), hfix, e1]
    rcases hB with rfl | rfl <;> cases t <;> first | rfl | (rw [wrap64_fix 0 (by decide)]; rfl)
  · unfold bval
    rw [o1, if_pos (show (1 : Int) = 1 ∨ (1 : Int) = 2 ∨ (1 : Int) = 3 by decide), if_pos (show (3 : Int) = 1 ∨ (3 : Int) = 2 ∨ (3 : Int) = 3 by decide), hfix, h2, e2]
  · unfold bval
    rw [if_neg (by rw [o10]; decide), if_neg (by decide), if_neg (by decide), if_neg (by decide), if_neg (by decide), if_neg (by decide), if_neg (by decide), if_neg (by decide), hfix]
    simp [plainV, plainOk, xor_self64]
  · have hN := xor_ones X hXb
    rw [hN]
    have hM := wrap_bd B t (-1 - X) (by omega)
    rw [xor_ones _ hM]
    rw [← hX]
    rcases hB with rfl | rfl <;> cases t <;> simp only [wrap_32t, wrap_32f, wrap_64] <;> omega
end Go.Proofs.YtkjhdanfbmdmlaaDoor.Wd
