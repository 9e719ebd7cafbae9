/- WordUsual: what is asked of the widths of the table, and of a number of one of them in what two come to. -/
import Derived.Test.YtkjhdanfbmdmlaaDoorWordMathB
namespace Go.Proofs.YtkjhdanfbmdmlaaDoor.Wd
open Go.RowKit
set_option linter.unusedVariables false

/-- All that is asked of the widths alone. -/
def uok (K M : Nat) : Bool :=
  let B := ub (tabB K) (tabS K) (tabB M) (tabS M)
  let S := us (tabB K) (tabS K) (tabB M) (tabS M)
  decide (ub (tabB M) (tabS M) (tabB K) (tabS K) = B) && decide (us (tabB M) (tabS M) (tabB K) (tabS K) = S) && decide (ub B S B S = B) && decide (us B S B S = S)
    && decide (ub B S (tabB K) (tabS K) = B) && decide (us B S (tabB K) (tabS K) = S) && may B && decide (32 ≤ B) && decide (tabB K ≤ B)
    && (decide (B = 64) || decide (B = 32) && decide (tabB K ≤ 32) && (!S || !decide (tabB K = 32) || tabS K))
theorem uok_all : ∀ K, K < 8 → ∀ M, M < 8 → uok K M = true := by decide
theorem uok_open {K M : Nat} (hK : K < 8) (hM : M < 8) {B : Int} {S : Bool} (hB : ub (tabB K) (tabS K) (tabB M) (tabS M) = B) (hS : us (tabB K) (tabS K) (tabB M) (tabS M) = S) :
    ub (tabB M) (tabS M) (tabB K) (tabS K) = B ∧ us (tabB M) (tabS M) (tabB K) (tabS K) = S ∧ ub B S B S = B ∧ us B S B S = S ∧ ub B S (tabB K) (tabS K) = B ∧ us B S (tabB K) (tabS K) = S ∧ may B = true ∧ 32 ≤ B ∧ tabB K ≤ B ∧
    (B = 64 ∨ B = 32 ∧ tabB K ≤ 32 ∧ (S = true → tabB K = 32 → tabS K = true)) := by
  have h := uok_all K hK M hM
  unfold uok at h
  rw [hB, hS] at h
  simp only [Bool.and_eq_true, Bool.or_eq_true, decide_eq_true_eq, Bool.not_eq_true', decide_eq_false_iff_not] at h
  obtain ⟨⟨⟨⟨⟨⟨⟨⟨⟨a, b⟩, c⟩, d⟩, e⟩, f⟩, g⟩, i⟩, j⟩, k⟩ := h
  refine ⟨a, b, c, d, e, f, g, i, j, ?_⟩
  rcases k with k | ⟨⟨k1, k2⟩, k3⟩
  · exact .inl k
  · refine .inr ⟨k1, k2, fun h1 h2 => ?_⟩
    rcases k3 with (k3 | k3) | k3
    · rw [h1] at k3; cases k3
    · exact absurd h2 k3
    · exact k3
theorem tab8 {K : Nat} (hK : K < 8) : K = 0 ∨ K = 1 ∨ K = 2 ∨ K = 3 ∨ K = 4 ∨ K = 5 ∨ K = 6 ∨ K = 7 := by omega
/-- A number of a width without a sign that has less than 64 bits is not below 0. -/
theorem neg_64 {K : Nat} (hK : K < 8) {n : Int} (hs : tabS K = false) (h : wrap (tabB K) false n < 0) : tabB K = 64 := by
  rcases tab8 hK with rfl | rfl | rfl | rfl | rfl | rfl | rfl | rfl
  · cases hs
  · rw [show tabB 1 = 8 from rfl, wrap_8f] at h; omega
  · cases hs
  · rw [show tabB 3 = 16 from rfl, wrap_16f] at h; omega
  · cases hs
  · rw [show tabB 5 = 32 from rfl, wrap_32f] at h; omega
  · cases hs
  · rfl
/-- A number of a width of the table is one of what that comes to with another one. -/
theorem keep {K : Nat} (hK : K < 8) (n B : Int) (S : Bool) (h : B = 64 ∨ B = 32 ∧ tabB K ≤ 32 ∧ (S = true → tabB K = 32 → tabS K = true)) (hn : S = false → B = 32 → 0 ≤ wrap (tabB K) (tabS K) n) :
    wrap B S (wrap (tabB K) (tabS K) n) = wrap (tabB K) (tabS K) n := by
  rcases h with rfl | ⟨rfl, h1, h2⟩
  · exact wrap_64 _ _
  · rcases tab8 hK with rfl | rfl | rfl | rfl | rfl | rfl | rfl | rfl
    · rw [show tabB 0 = 8 from rfl, show tabS 0 = true from rfl, wrap_8t] at *
      cases S
      · have := hn rfl rfl; rw [wrap_32f]; omega
      · rw [wrap_32t]; omega
    · rw [show tabB 1 = 8 from rfl, show tabS 1 = false from rfl, wrap_8f] at *
      cases S
      · have := hn rfl rfl; rw [wrap_32f]; omega
      · rw [wrap_32t]; omega
    · rw [show tabB 2 = 16 from rfl, show tabS 2 = true from rfl, wrap_16t] at *
      cases S
      · have := hn rfl rfl; rw [wrap_32f]; omega
      · rw [wrap_32t]; omega
    · rw [show tabB 3 = 16 from rfl, show tabS 3 = false from rfl, wrap_16f] at *
      cases S
      · have := hn rfl rfl; rw [wrap_32f]; omega
      · rw [wrap_32t]; omega
    · rw [show tabB 4 = 32 from rfl, show tabS 4 = true from rfl, wrap_32t] at *
      cases S
      · have := hn rfl rfl; rw [wrap_32f]; omega
      · rw [wrap_32t]; omega
    · rw [show tabB 5 = 32 from rfl, show tabS 5 = false from rfl, wrap_32f] at *
      cases S
      · have := hn rfl rfl; rw [wrap_32f]; omega
      · have := h2 rfl rfl; cases this
    · exact absurd h1 (by decide)
    · exact absurd h1 (by decide)
/-- Which of eight. -/
theorem low8 (x : Int) : ∃ K : Nat, K < 8 ∧ IntKind.u64.wrap x % 8 = (K : Int) := ⟨(IntKind.u64.wrap x % 8).toNat, by omega, by omega⟩
end Go.Proofs.YtkjhdanfbmdmlaaDoor.Wd
