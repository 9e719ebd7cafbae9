/- What Binary answers, for every width and every sub. -/
import Derived.Test.YtkjhdanfbmdmlaaDoorWordSpec
namespace Go.Proofs.YtkjhdanfbmdmlaaDoor.Wd
open Go.RowKit
set_option linter.unusedVariables false
set_option linter.unusedSimpArgs false

def bok (b : Int) (s : Bool) (sub x y : Int) : Bool :=
  reck b &&
  (if sub = 1 ∨ sub = 2 ∨ sub = 3 then (!s || fits b (exact sub (wrap b s x) (wrap b s y)))
  else if sub = 4 ∨ sub = 5 ∨ sub = 6 ∨ sub = 7 then !(wrap b s y == 0) && !(s && wrap b s y == -1 && !(fits b (0 - wrap b s x)))
  else if sub = 11 then decide (0 ≤ y ∧ y < b) && (!s || decide (0 ≤ wrap b s x) && fits b (wrap b s x * 2 ^ y.toNat))
  else if sub = 12 ∨ sub = 13 then decide (0 ≤ y ∧ y < b)
  else decide (1 ≤ sub ∧ sub ≤ 19))
def bval (b : Int) (s : Bool) (sub x y : Int) : Int :=
  if bok b s sub x y = false then 0
  else if sub = 1 ∨ sub = 2 ∨ sub = 3 then (if s then exact sub (wrap b s x) (wrap b s y) else wrap b false (wrap64 (exact sub (wrap b s x) (wrap b s y))))
  else if sub = 4 ∨ sub = 6 then (if s then (wrap b s x).tdiv (wrap b s y) else plainV 6 (wrap b s x) (wrap b s y))
  else if sub = 5 ∨ sub = 7 then (if s then (wrap b s x).tmod (wrap b s y) else plainV 7 (wrap b s x) (wrap b s y))
  else if sub = 11 then (if s then wrap b s x * 2 ^ y.toNat else wrap b false (wrap64 (wrap b s x * 2 ^ y.toNat)))
  else if sub = 12 ∨ sub = 13 then (if s then wrap b s x / 2 ^ y.toNat else wrap64 (IntKind.u64.wrap (wrap b s x) / 2 ^ y.toNat))
  else if sub = 16 ∨ sub = 18 then plainV (if s then 16 else 18) (wrap b s x) (wrap b s y)
  else if sub = 17 ∨ sub = 19 then plainV (if s then 17 else 19) (wrap b s x) (wrap b s y)
  else plainV sub (wrap b s x) (wrap b s y)

theorem reck_cases {b : Int} (h : reck b = true) : b = 32 ∨ b = 64 := by
  unfold reck at h; simpa using h
theorem reck_may' {b : Int} (h : reck b = true) : may b = true := by
  rcases reck_cases h with rfl | rfl <;> rfl
theorem fits_wrap (b x : Int) (hb : b = 32 ∨ b = 64) (hx : -9223372036854775808 ≤ x ∧ x ≤ 9223372036854775807) : fits b (wrap b true x) = true := by
  rcases hb with rfl | rfl
  · rw [fits_32, wrap_32t]; omega
  · rw [fits_64, wrap_64]; exact hx
theorem fits_bd {b n : Int} (hb : b = 32 ∨ b = 64) (h : fits b n = true) : -9223372036854775808 ≤ n ∧ n ≤ 9223372036854775807 := by
  rcases hb with rfl | rfl
  · rw [fits_32] at h; omega
  · rw [fits_64] at h; exact h
/-- A number of the width is left as it is. -/
theorem wrap_fix {b n : Int} (hb : b = 32 ∨ b = 64) (h : fits b n = true) : wrap b true n = n := by
  rcases hb with rfl | rfl
  · rw [fits_32] at h; rw [wrap_32t]; omega
  · rfl
theorem plain_ok_x (sub A B : Int) (hs : sub = 1 ∨ sub = 2 ∨ sub = 3) : plainOk sub A B = true := by
  rcases hs with rfl | rfl | rfl <;> rfl
/-- A shift upwards is undone just where it fits. -/
theorem shl_spec (b A : Int) (k : Nat) (hb : b = 32 ∨ b = 64) (hk : (k : Int) < b) (hA : fits b A = true) (h0 : 0 ≤ A) :
    (wrap b true (wrap64 (A * 2 ^ k)) / 2 ^ k != A) = !(fits b (A * 2 ^ k)) ∧ (fits b (A * 2 ^ k) = true → wrap b true (wrap64 (A * 2 ^ k)) = A * 2 ^ k) := by
  have hp : (0 : Int) < 2 ^ k := Int.pow_pos (by decide)
  have key : fits b (A * 2 ^ k) = true → wrap b true (wrap64 (A * 2 ^ k)) = A * 2 ^ k := fun h => by
    rw [wrap64_fix _ (fits_bd hb h), wrap_fix hb h]
  refine ⟨?_, key⟩
  cases h : fits b (A * 2 ^ k)
  · simp only [Bool.not_false, bne_iff_ne, ne_eq]
    intro he
    have h1 : wrap b true (wrap64 (A * 2 ^ k)) / 2 ^ k * 2 ^ k ≤ wrap b true (wrap64 (A * 2 ^ k)) := Int.ediv_mul_le _ (by omega)
    rw [he] at h1
    have h2 := fits_wrap b (wrap64 (A * 2 ^ k)) hb (wrap64_bd _)
    have h3 : 0 ≤ A * 2 ^ k := Int.mul_nonneg h0 (by omega)
    generalize A * 2 ^ k = C at *
    generalize wrap b true (wrap64 C) = M at *
    rcases hb with rfl | rfl
    · rw [fits_32] at h2
      have : fits 32 C = true := (fits_32 C).2 (by omega)
      rw [this] at h; cases h
    · rw [fits_64] at h2
      have : fits 64 C = true := (fits_64 C).2 (by omega)
      rw [this] at h; cases h
  · rw [key h]
    rw [Int.mul_ediv_cancel A (by omega)]
    simp
end Go.Proofs.YtkjhdanfbmdmlaaDoor.Wd
