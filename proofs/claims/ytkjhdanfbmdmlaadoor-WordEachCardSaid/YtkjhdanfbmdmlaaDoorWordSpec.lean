/- What Binary reckons, said without Go: exact sums, differences, products; what fits. -/
import Derived.Test.YtkjhdanfbmdmlaaDoorWordMathC
namespace Go.Proofs.YtkjhdanfbmdmlaaDoor.Wd
open Go.RowKit
set_option linter.unusedVariables false
set_option linter.unusedSimpArgs false

def fits (b n : Int) : Bool := if b = 32 then decide (-2147483648 ≤ n ∧ n ≤ 2147483647) else decide (-9223372036854775808 ≤ n ∧ n ≤ 9223372036854775807)
theorem fits_32 (n : Int) : fits 32 n = true ↔ -2147483648 ≤ n ∧ n ≤ 2147483647 := by unfold fits; rw [if_pos rfl]; simp
theorem fits_64 (n : Int) : fits 64 n = true ↔ -9223372036854775808 ≤ n ∧ n ≤ 9223372036854775807 := by unfold fits; rw [if_neg (by decide)]; simp
def exact (sub A B : Int) : Int := if sub = 1 then A + B else if sub = 2 then A - B else A * B
theorem plain_1 (A B : Int) : plainV 1 A B = wrap64 (A + B) := by simp [plainV, plainOk]
theorem plain_2 (A B : Int) : plainV 2 A B = wrap64 (A - B) := by simp [plainV, plainOk]
theorem plain_3 (A B : Int) : plainV 3 A B = wrap64 (A * B) := by simp [plainV, plainOk]
theorem plain_x (sub A B : Int) (hs : sub = 1 ∨ sub = 2 ∨ sub = 3) : plainV sub A B = wrap64 (exact sub A B) := by
  rcases hs with rfl | rfl | rfl
  · exact plain_1 A B
  · exact plain_2 A B
  · exact plain_3 A B
theorem wrap64_bd (n : Int) : -9223372036854775808 ≤ wrap64 n ∧ wrap64 n ≤ 9223372036854775807 := by unfold wrap64; omega
theorem wrap64_fix (n : Int) (h : -9223372036854775808 ≤ n ∧ n ≤ 9223372036854775807) : wrap64 n = n := by unfold wrap64; omega
theorem wrap64_mul (n : Int) : ∃ k : Int, wrap64 n = n - 18446744073709551616 * k := ⟨(n + 9223372036854775808) / 18446744073709551616, by unfold wrap64; omega⟩
theorem wrap_32t_eq (n : Int) : (wrap 32 true n == n) = fits 32 n := by
  rw [Bool.eq_iff_iff, beq_iff_eq, fits_32, wrap_32t]; omega
theorem small_mul (A B : Int) (hA : -2147483648 ≤ A ∧ A ≤ 2147483647) (hB : -2147483648 ≤ B ∧ B ≤ 2147483647) : -4611686018427387904 ≤ A * B ∧ A * B ≤ 4611686018427387904 := by
  have h1 : (A * B).natAbs = A.natAbs * B.natAbs := Int.natAbs_mul A B
  have h2 : A.natAbs * B.natAbs ≤ 2147483648 * 2147483648 := Nat.mul_le_mul (by omega) (by omega)
  omega
/-- The quotient tells whether a product has left 64 bits. -/
theorem mul_back (A B N : Int) (hA : ¬ A = 0) (hB : ¬ B = 0) (hb : -9223372036854775808 ≤ B ∧ B ≤ 9223372036854775807) (k : Int) (hN : N = A * B - 18446744073709551616 * k) :
    N.tdiv B = A ↔ k = 0 := by
  constructor
  · intro h
    have e := Int.tmod_add_mul_tdiv N B
    rw [h] at e
    have hr : (N.tmod B).natAbs < B.natAbs := by
      rw [Int.natAbs_tmod]; exact Nat.mod_lt _ (by omega)
    have e2 : B * A = A * B := Int.mul_comm B A
    rw [e2] at e
    omega
  · intro h
    subst h
    have : N = A * B := by omega
    rw [this]
    exact Int.mul_tdiv_cancel A hB
theorem ring_64 (sub A B : Int) (hs : sub = 1 ∨ sub = 2 ∨ sub = 3) (hA : -9223372036854775808 ≤ A ∧ A ≤ 9223372036854775807) (hB : -9223372036854775808 ≤ B ∧ B ≤ 9223372036854775807) :
    leaves sub A B (wrap64 (exact sub A B)) = !(fits 64 (exact sub A B)) := by
  have hf := fits_64 (exact sub A B)
  rcases hs with rfl | rfl | rfl
  · have e : exact 1 A B = A + B := rfl
    rw [e] at hf ⊢
    unfold leaves
    rw [if_pos rfl]
    cases h : fits 64 (A + B)
    · rw [h] at hf
      simp at hf
      simp
      unfold wrap64
      by_cases h0 : 0 ≤ B <;> simp [h0] <;> omega
    · have h2 := hf.1 h
      rw [wrap64_fix _ h2]
      simp
      omega
  · have e : exact 2 A B = A - B := rfl
    rw [e] at hf ⊢
    unfold leaves
    rw [if_neg (by decide), if_pos rfl]
    cases h : fits 64 (A - B)
    · rw [h] at hf
      simp at hf
      simp
      unfold wrap64
      by_cases h0 : 0 ≤ B <;> simp [h0] <;> omega
    · have h2 := hf.1 h
      rw [wrap64_fix _ h2]
      simp
      omega
  · have e : exact 3 A B = A * B := rfl
    rw [e] at hf ⊢
    unfold leaves
    rw [if_neg (by decide), if_neg (by decide)]
    by_cases h0 : A = 0 ∨ B = 0
    · rw [if_pos h0]
      have : A * B = 0 := by rcases h0 with h | h <;> simp [h]
      rw [this] at hf ⊢
      have : fits 64 0 = true := hf.2 (by decide)
      rw [this]; rfl
    · rw [if_neg h0]
      have ha : ¬ A = 0 := fun h => h0 (Or.inl h)
      have hb : ¬ B = 0 := fun h => h0 (Or.inr h)
      by_cases h1 : A = -1 ∨ B = -1
      · rw [if_pos h1]
        have hm : A * B = -B ∧ A = -1 ∨ A * B = -A ∧ B = -1 := by
          rcases h1 with h | h
          · left; subst h; exact ⟨by omega, rfl⟩
          · right; subst h; exact ⟨by omega, rfl⟩
        generalize A * B = C at *
        cases h : fits 64 C
        · rw [h] at hf
          simp at hf
          simp
          omega
        · have h2 := hf.1 h
          simp
          omega
      · rw [if_neg h1]
        obtain ⟨k, hk⟩ := wrap64_mul (A * B)
        have hmb := mul_back A B _ ha hb hB k hk
        have hbd := wrap64_bd (A * B)
        cases h : fits 64 (A * B)
        · rw [h] at hf
          simp at hf
          simp
          intro hc
          have := hmb.1 hc
          generalize A * B = C at *
          omega
        · have h2 := hf.1 h
          simp
          apply hmb.2
          generalize A * B = C at *
          omega
/-- Of signed numbers: defined just where the exact answer fits. -/
theorem ring_spec (b sub A B : Int) (hb : b = 32 ∨ b = 64) (hs : sub = 1 ∨ sub = 2 ∨ sub = 3) (hA : fits b A = true) (hB : fits b B = true) :
    (b == 64 && leaves sub A B (plainV sub A B) || !(wrap b true (plainV sub A B) == plainV sub A B)) = !(fits b (exact sub A B)) ∧ (fits b (exact sub A B) = true → plainV sub A B = exact sub A B) := by
  rw [plain_x sub A B hs]
  rcases hb with rfl | rfl
  · have hA' := (fits_32 A).1 hA
    have hB' := (fits_32 B).1 hB
    have hx : -9223372036854775808 ≤ exact sub A B ∧ exact sub A B ≤ 9223372036854775807 := by
      rcases hs with rfl | rfl | rfl
      · show _ ≤ A + B ∧ A + B ≤ _; omega
      · show _ ≤ A - B ∧ A - B ≤ _; omega
      · have := small_mul A B hA' hB'
        show _ ≤ A * B ∧ A * B ≤ _; omega
    rw [wrap64_fix _ hx, wrap_32t_eq]
    exact ⟨by simp, fun _ => rfl⟩
  · have hA' := (fits_64 A).1 hA
    have hB' := (fits_64 B).1 hB
    rw [ring_64 sub A B hs hA' hB', wrap_64]
    refine ⟨by simp, fun h => wrap64_fix _ ((fits_64 _).1 h)⟩
end Go.Proofs.YtkjhdanfbmdmlaaDoor.Wd
