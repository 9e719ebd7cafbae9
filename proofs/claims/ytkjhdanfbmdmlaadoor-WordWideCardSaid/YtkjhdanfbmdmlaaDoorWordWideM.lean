/- WordWide: sums, differences, products, quotients of numbers of 32 bits, said without Go. -/
import Derived.Test.YtkjhdanfbmdmlaaDoorWordSpecB
import Derived.Test.YtkjhdanfbmdmlaaDoorWordUsualM
namespace Go.Proofs.YtkjhdanfbmdmlaaDoor.Wd
open Go.RowKit
set_option linter.unusedVariables false
set_option linter.unusedSimpArgs false

theorem w32 (n : Int) (h : -2147483648 ≤ n ∧ n ≤ 2147483647) : wrap 32 true n = n := by rw [wrap_32t]; omega
section
variable (a b : Int) (ha : -2147483648 ≤ a ∧ a ≤ 2147483647) (hb : -2147483648 ≤ b ∧ b ≤ 2147483647)
include ha hb
omit ha hb in
theorem ex3 : exact (1 + ((0 : Nat) : Int)) a b = a + b ∧ exact (1 + ((1 : Nat) : Int)) a b = a - b ∧ exact (1 + ((2 : Nat) : Int)) a b = a * b := ⟨rfl, rfl, rfl⟩
theorem wide_f : exact (1 + ((0 : Nat) : Int)) a b = a + b ∧ exact (1 + ((1 : Nat) : Int)) a b = a - b ∧ exact (1 + ((2 : Nat) : Int)) a b = wrap64 (a * b) := by
  have := small_mul a b ha hb
  exact ⟨rfl, rfl, by rw [wrap64_fix _ (by omega)]; rfl⟩
omit ha hb in
theorem wide_u (k : Nat) (hk : k < 3) : bval 32 false (1 + k) (a % 4294967296) (b % 4294967296) = wrap64 (exact (1 + k) (a % 4294967296) (b % 4294967296)) % 4294967296 ∧ bok 32 false (1 + k) (a % 4294967296) (b % 4294967296) = true := by
  have h3 : (1 + (k : Int) = 1 ∨ 1 + (k : Int) = 2 ∨ 1 + (k : Int) = 3) := by omega
  have e : bok 32 false (1 + k) (a % 4294967296) (b % 4294967296) = true := by unfold bok; rw [if_pos h3]; rfl
  refine ⟨?_, e⟩
  unfold bval
  rw [if_neg (by rw [e]; decide), if_pos h3, if_neg (by decide), wrap_32f, wrap_32f, wrap_32f]
  rw [Int.emod_emod_of_dvd _ (Int.dvd_refl _), Int.emod_emod_of_dvd _ (Int.dvd_refl _)]
omit ha hb in
theorem wrap64_mod (n : Int) : wrap64 n % 4294967296 = n % 4294967296 := by unfold wrap64; omega
omit ha hb in
theorem wide_g : bval 32 false (1 + ((0 : Nat) : Int)) (a % 4294967296) (b % 4294967296) = (a + b) % 4294967296 ∧ bval 32 false (1 + ((1 : Nat) : Int)) (a % 4294967296) (b % 4294967296) = (a - b) % 4294967296 ∧
    bval 32 false (1 + ((2 : Nat) : Int)) (a % 4294967296) (b % 4294967296) = a % 4294967296 * (b % 4294967296) % 4294967296 := by
  refine ⟨?_, ?_, ?_⟩
  · rw [(wide_u a b 0 (by decide)).1, wrap64_mod, (ex3 _ _).1]; omega
  · rw [(wide_u a b 1 (by decide)).1, wrap64_mod, (ex3 _ _).2.1]; omega
  · rw [(wide_u a b 2 (by decide)).1, wrap64_mod, (ex3 _ _).2.2]
omit ha hb in
theorem wide_y (k : Nat) (hk : k < 3) : 0 ≤ bval 32 false (1 + k) (a % 4294967296) (b % 4294967296) ∧ bval 32 false (1 + k) (a % 4294967296) (b % 4294967296) ≤ 4294967295 := by
  rw [(wide_u a b k hk).1]; omega
theorem wide_o (k : Nat) (hk : k < 3) : bok 32 true (1 + k) a b = fits 32 (exact (1 + k) a b) := by
  have h3 : (1 + (k : Int) = 1 ∨ 1 + (k : Int) = 2 ∨ 1 + (k : Int) = 3) := by omega
  unfold bok
  rw [if_pos h3, w32 a ha, w32 b hb]
  simp [reck]
theorem wide_n (k : Nat) (hk : k < 3) (h : bok 32 true (1 + k) a b = true) : bval 32 true (1 + k) a b = exact (1 + k) a b := by
  have h3 : (1 + (k : Int) = 1 ∨ 1 + (k : Int) = 2 ∨ 1 + (k : Int) = 3) := by omega
  unfold bval
  rw [if_neg (by rw [h]; decide), if_pos h3, if_pos rfl, w32 a ha, w32 b hb]
theorem wide_e (k : Nat) (hk : k < 3) : bok 32 true (1 + k) a b = (exact (1 + k) a b == wrap64 (wrap32 (exact (1 + k) a b))) := by
  rw [wide_o a b ha hb k hk, k32t, ← wrap_32t_eq, Bool.eq_iff_iff, beq_iff_eq, beq_iff_eq]
  exact eq_comm
/-- Division. -/
theorem wide_d : ∃ (Q R C : Int) (P : Bool), bval 32 true 4 a b = Q ∧ bok 32 true 4 a b = P ∧ bval 32 true 5 a b = R ∧ bok 32 true 5 a b = P ∧
    (P = false ∧ b = 0 ∨ P = false ∧ a = -2147483648 ∧ b = -1 ∨ P = true ∧ b ≠ 0 ∧ a = -2147483648 ∧ b ≠ -1 ∧ (wrap64 (Q * b) = C ∧ wrap64 (C + R) = a) ∨ P = true ∧ b ≠ 0 ∧ a ≠ -2147483648 ∧ (wrap64 (Q * b) = C ∧ wrap64 (C + R) = a)) := by
  have wa := w32 a ha
  have wb := w32 b hb
  have o : ∀ s : Int, s = 4 ∨ s = 5 → bok 32 true s a b = (!(b == 0) && !(b == -1 && !(fits 32 (0 - a)))) := fun s hs => by
    unfold bok
    rw [if_neg (by omega), if_pos (by omega), wa, wb]
    simp [reck]
  have v4 : bok 32 true 4 a b = true → bval 32 true 4 a b = a.tdiv b := fun h => by
    unfold bval
    rw [if_neg (by rw [h]; decide), if_neg (by decide), if_pos (by decide), if_pos rfl, wa, wb]
  have v5 : bok 32 true 5 a b = true → bval 32 true 5 a b = a.tmod b := fun h => by
    unfold bval
    rw [if_neg (by rw [h]; decide), if_neg (by decide), if_neg (by decide), if_pos (by decide), if_pos rfl, wa, wb]
  refine ⟨_, _, wrap64 (bval 32 true 4 a b * b), _, rfl, rfl, rfl, (o 5 (.inr rfl)).trans (o 4 (.inl rfl)).symm, ?_⟩
  rw [o 4 (.inl rfl)]
  by_cases h0 : b = 0
  · subst h0; exact .inl ⟨rfl, rfl⟩
  · have h0' : (b == 0) = false := by simpa using h0
    rw [h0']
    have good : (!false && !(b == -1 && !(fits 32 (0 - a)))) = true → wrap64 (bval 32 true 4 a b * b) = wrap64 (bval 32 true 4 a b * b) ∧ wrap64 (wrap64 (bval 32 true 4 a b * b) + bval 32 true 5 a b) = a := fun h => by
      refine ⟨rfl, ?_⟩
      rw [v4 (by rw [o 4 (.inl rfl), h0']; exact h), v5 (by rw [o 5 (.inr rfl), h0']; exact h)]
      have e := Int.tmod_add_mul_tdiv a b
      rw [Int.mul_comm b] at e
      have : (a.tmod b).natAbs < b.natAbs := by rw [Int.natAbs_tmod]; exact Nat.mod_lt _ (by omega)
      generalize a.tdiv b * b = Z at *
      rw [wrap64_fix Z (by omega), wrap64_fix _ (by omega)]
      omega
    by_cases h1 : b = -1
    · by_cases h2 : a = -2147483648
      · subst h1 h2; exact .inr (.inl ⟨by decide, rfl, rfl⟩)
      · have hf : fits 32 (0 - a) = true := (fits_32 _).2 (by omega)
        have e : (!false && !(b == -1 && !(fits 32 (0 - a)))) = true := by rw [hf]; simp
        exact .inr (.inr (.inr ⟨e, h0, h2, good e⟩))
    · have h1' : (b == -1) = false := by simpa using h1
      have e : (!false && !(b == -1 && !(fits 32 (0 - a)))) = true := by rw [h1']; rfl
      by_cases h2 : a = -2147483648
      · exact .inr (.inr (.inl ⟨e, h0, h2, h1, good e⟩))
      · exact .inr (.inr (.inr ⟨e, h0, h2, good e⟩))
end
end Go.Proofs.YtkjhdanfbmdmlaaDoor.Wd
