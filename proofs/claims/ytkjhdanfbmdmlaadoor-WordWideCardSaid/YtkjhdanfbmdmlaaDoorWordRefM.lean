/- What the document's own Binary reckons is what word's does. Without Go. -/
import Derived.Test.YtkjhdanfbmdmlaaDoorWordDividesM
import Derived.Test.YtkjhdanfbmdmlaaDoorWordRefA
namespace Go.Proofs.YtkjhdanfbmdmlaaDoor.Wd
open Go.RowKit
set_option linter.unusedVariables false
set_option linter.unusedSimpArgs false

theorem wrap_bv (v : BitVec 64) : IntKind.i64.wrap (v.toNat : Int) = v.toInt := by
  rw [IntKind.wrap_i64, BitVec.toInt_eq_toNat_cond]
  have := v.isLt
  split <;> omega
theorem bits_bv_and (a b : Int) : bits .and .i64 a b = (BitVec.ofInt 64 a &&& BitVec.ofInt 64 b).toInt := by
  show IntKind.i64.wrap ((BitVec.ofInt 64 a &&& BitVec.ofInt 64 b).toNat : Nat) = _
  exact wrap_bv _
theorem bits_bv_or (a b : Int) : bits .or .i64 a b = (BitVec.ofInt 64 a ||| BitVec.ofInt 64 b).toInt := by
  show IntKind.i64.wrap ((BitVec.ofInt 64 a ||| BitVec.ofInt 64 b).toNat : Nat) = _
  exact wrap_bv _
theorem bits_bv_xor (a b : Int) : bits .xor .i64 a b = (BitVec.ofInt 64 a ^^^ BitVec.ofInt 64 b).toInt := by
  show IntKind.i64.wrap ((BitVec.ofInt 64 a ^^^ BitVec.ofInt 64 b).toNat : Nat) = _
  exact wrap_bv _
/-- A number of 32 bits is one whose upper bits are its sign. -/
theorem sext (a : Int) (h : -2147483648 ≤ a ∧ a ≤ 2147483647) : BitVec.ofInt 64 a = (BitVec.ofInt 32 a).signExtend 64 := by
  apply BitVec.eq_of_toInt_eq
  rw [BitVec.toInt_signExtend_of_le (by decide), BitVec.toInt_ofInt, BitVec.toInt_ofInt]
  simp only [Int.bmod_def]
  omega
theorem sext_bd (v : BitVec 32) : -2147483648 ≤ (v.signExtend 64).toInt ∧ (v.signExtend 64).toInt ≤ 2147483647 := by
  rw [BitVec.toInt_signExtend_of_le (by decide)]
  have h1 := BitVec.le_toInt v
  have h2 := BitVec.toInt_lt (x := v)
  simp at h1 h2
  omega
theorem zext (a : Int) (h : 0 ≤ a ∧ a ≤ 4294967295) : BitVec.ofInt 64 a = (BitVec.ofInt 32 a).setWidth 64 := by
  apply BitVec.eq_of_toNat_eq
  rw [BitVec.toNat_setWidth, BitVec.toNat_ofInt, BitVec.toNat_ofInt]
  omega
theorem zext_bd (v : BitVec 32) : 0 ≤ (v.setWidth 64).toInt ∧ (v.setWidth 64).toInt ≤ 4294967295 := by
  have h : (v.setWidth 64).toNat = v.toNat := by rw [BitVec.toNat_setWidth]; have := v.isLt; omega
  rw [BitVec.toInt_eq_toNat_cond, h]
  have := v.isLt
  split <;> omega
theorem and_t (a b : Int) (ha : -2147483648 ≤ a ∧ a ≤ 2147483647) (hb : -2147483648 ≤ b ∧ b ≤ 2147483647) : -2147483648 ≤ bits .and .i64 a b ∧ bits .and .i64 a b ≤ 2147483647 := by
  rw [bits_bv_and, sext a ha, sext b hb, ← BitVec.signExtend_and]; exact sext_bd _
theorem or_t (a b : Int) (ha : -2147483648 ≤ a ∧ a ≤ 2147483647) (hb : -2147483648 ≤ b ∧ b ≤ 2147483647) : -2147483648 ≤ bits .or .i64 a b ∧ bits .or .i64 a b ≤ 2147483647 := by
  rw [bits_bv_or, sext a ha, sext b hb, ← BitVec.signExtend_or]; exact sext_bd _
theorem xor_t (a b : Int) (ha : -2147483648 ≤ a ∧ a ≤ 2147483647) (hb : -2147483648 ≤ b ∧ b ≤ 2147483647) : -2147483648 ≤ bits .xor .i64 a b ∧ bits .xor .i64 a b ≤ 2147483647 := by
  rw [bits_bv_xor, sext a ha, sext b hb, ← BitVec.signExtend_xor]; exact sext_bd _
theorem and_f (a b : Int) (ha : 0 ≤ a ∧ a ≤ 4294967295) (hb : 0 ≤ b ∧ b ≤ 4294967295) : 0 ≤ bits .and .i64 a b ∧ bits .and .i64 a b ≤ 4294967295 := by
  rw [bits_bv_and, zext a ha, zext b hb, ← BitVec.setWidth_and]; exact zext_bd _
theorem or_f (a b : Int) (ha : 0 ≤ a ∧ a ≤ 4294967295) (hb : 0 ≤ b ∧ b ≤ 4294967295) : 0 ≤ bits .or .i64 a b ∧ bits .or .i64 a b ≤ 4294967295 := by
  rw [bits_bv_or, zext a ha, zext b hb, ← BitVec.setWidth_or]; exact zext_bd _
theorem xor_f (a b : Int) (ha : 0 ≤ a ∧ a ≤ 4294967295) (hb : 0 ≤ b ∧ b ≤ 4294967295) : 0 ≤ bits .xor .i64 a b ∧ bits .xor .i64 a b ≤ 4294967295 := by
  rw [bits_bv_xor, zext a ha, zext b hb, ← BitVec.setWidth_xor]; exact zext_bd _
theorem toInt_bd (v : BitVec 64) : -9223372036854775808 ≤ v.toInt ∧ v.toInt ≤ 9223372036854775807 := by
  have h1 := BitVec.le_toInt v
  have h2 := BitVec.toInt_lt (x := v)
  simp at h1 h2
  omega
theorem and_64 (a b : Int) : -9223372036854775808 ≤ bits .and .i64 a b ∧ bits .and .i64 a b ≤ 9223372036854775807 := by rw [bits_bv_and]; exact toInt_bd _
theorem or_64 (a b : Int) : -9223372036854775808 ≤ bits .or .i64 a b ∧ bits .or .i64 a b ≤ 9223372036854775807 := by rw [bits_bv_or]; exact toInt_bd _
theorem xor_64 (a b : Int) : -9223372036854775808 ≤ bits .xor .i64 a b ∧ bits .xor .i64 a b ≤ 9223372036854775807 := by rw [bits_bv_xor]; exact toInt_bd _

/-- A number of the width, told as it is told. -/
def isOf (b : Int) (s : Bool) (n : Int) : Prop := wrap b s n = n
theorem isOf_wrap (b : Int) (s : Bool) (x : Int) (hb : b = 32 ∨ b = 64) : isOf b s (wrap b s x) := wrap_wrap b s x hb
theorem isOf_32t {n : Int} : isOf 32 true n ↔ -2147483648 ≤ n ∧ n ≤ 2147483647 := by unfold isOf; rw [wrap_32t]; omega
theorem isOf_32f {n : Int} : isOf 32 false n ↔ 0 ≤ n ∧ n ≤ 4294967295 := by unfold isOf; rw [wrap_32f]; omega
theorem isOf_01 (b : Int) (s : Bool) (c : Prop) [Decidable c] (hb : b = 32 ∨ b = 64) : isOf b s (if c then 1 else 0) := by
  rcases hb with rfl | rfl
  · cases s
    · rw [isOf_32f]; split <;> decide
    · rw [isOf_32t]; split <;> decide
  · rfl
theorem isOf_10 (b : Int) (s : Bool) (c : Prop) [Decidable c] (hb : b = 32 ∨ b = 64) : isOf b s (if c then 0 else 1) := by
  rcases hb with rfl | rfl
  · cases s
    · rw [isOf_32f]; split <;> decide
    · rw [isOf_32t]; split <;> decide
  · rfl
theorem isOf_bits (b : Int) (s : Bool) (sub A B : Int) (hb : b = 32 ∨ b = 64) (hs : 8 ≤ sub ∧ sub ≤ 10) (hA : isOf b s A) (hB : isOf b s B) : isOf b s (plainV sub A B) := by
  have hc : sub = 8 ∨ sub = 9 ∨ sub = 10 := by omega
  have e8 : plainV 8 A B = bits .and .i64 A B := by simp [plainV, plainOk]
  have e9 : plainV 9 A B = bits .or .i64 A B := by simp [plainV, plainOk]
  have e10 : plainV 10 A B = bits .xor .i64 A B := by simp [plainV, plainOk]
  rcases hb with rfl | rfl
  · cases s
    · rw [isOf_32f] at hA hB ⊢
      rcases hc with rfl | rfl | rfl
      · rw [e8]; exact and_f A B hA hB
      · rw [e9]; exact or_f A B hA hB
      · rw [e10]; exact xor_f A B hA hB
    · rw [isOf_32t] at hA hB ⊢
      rcases hc with rfl | rfl | rfl
      · rw [e8]; exact and_t A B hA hB
      · rw [e9]; exact or_t A B hA hB
      · rw [e10]; exact xor_t A B hA hB
  · rfl
theorem bits_bd (sub A B : Int) (hs : 8 ≤ sub ∧ sub ≤ 10) : -9223372036854775808 ≤ plainV sub A B ∧ plainV sub A B ≤ 9223372036854775807 := by
  have hc : sub = 8 ∨ sub = 9 ∨ sub = 10 := by omega
  have e8 : plainV 8 A B = bits .and .i64 A B := by simp [plainV, plainOk]
  have e9 : plainV 9 A B = bits .or .i64 A B := by simp [plainV, plainOk]
  have e10 : plainV 10 A B = bits .xor .i64 A B := by simp [plainV, plainOk]
  rcases hc with rfl | rfl | rfl
  · rw [e8]; exact and_64 A B
  · rw [e9]; exact or_64 A B
  · rw [e10]; exact xor_64 A B
theorem fits_64_of {b n : Int} (hb : b = 32 ∨ b = 64) (h : fits b n = true) : fits 64 n = true := by
  have := fits_bd hb h
  exact (fits_64 n).2 this
theorem tdiv_fits (b A B : Int) (hb : b = 32 ∨ b = 64) (hA : fits b A = true) (h0 : ¬ B = 0) (h1 : ¬ B = -1) : fits b (A.tdiv B) = true := by
  by_cases hB : B = 1
  · subst hB; rw [Int.tdiv_one]; exact hA
  have e : (A.tdiv B).natAbs = A.natAbs / B.natAbs := Int.natAbs_tdiv A B
  have h2 : A.natAbs / B.natAbs ≤ A.natAbs / 2 := Nat.div_le_div_left (by omega) (by decide)
  rcases hb with rfl | rfl
  · rw [fits_32] at hA ⊢; omega
  · rw [fits_64] at hA ⊢; omega
theorem tmod_fits (b A B : Int) (hb : b = 32 ∨ b = 64) (hA : fits b A = true) : fits b (A.tmod B) = true := by
  have h : (A.tmod B).natAbs ≤ A.natAbs := by rw [Int.natAbs_tmod]; exact Nat.mod_le _ _
  have hs : 0 ≤ A → 0 ≤ A.tmod B := fun h0 => Int.tmod_nonneg B h0
  have hs2 : A < 0 → A.tmod B ≤ 0 := fun h0 => by
    have h2 : A.tmod B = -((-A).tmod B) := by rw [Int.neg_tmod]; omega
    have h3 := Int.tmod_nonneg B (show 0 ≤ -A by omega)
    omega
  rcases hb with rfl | rfl
  · rw [fits_32] at hA ⊢; omega
  · rw [fits_64] at hA ⊢; omega
/-- Of unsigned numbers of 32 bits quotient and rest are such. -/
theorem isOf_div (b : Int) (P A B : Int) (hb : b = 32 ∨ b = 64) (hP : P = 6 ∨ P = 7) (hA : isOf b false A) (hB : isOf b false B) (h0 : ¬ B = 0) : isOf b false (plainV P A B) := by
  rcases hb with rfl | rfl
  · rw [isOf_32f] at hA hB ⊢
    have uA : IntKind.u64.wrap A = A := by rw [IntKind.wrap_u64]; omega
    have uB : IntKind.u64.wrap B = B := by rw [IntKind.wrap_u64]; omega
    rcases hP with rfl | rfl
    · rw [plain_6 A B h0, uA, uB, Int.tdiv_eq_ediv_of_nonneg hA.1]
      have hd : 0 ≤ A / B ∧ A / B ≤ A := ⟨Int.ediv_nonneg hA.1 hB.1, Int.ediv_le_self _ hA.1⟩
      rw [IntKind.wrap_u64]
      unfold wrap64
      omega
    · rw [plain_7 A B h0, uA, uB, Int.tmod_eq_emod_of_nonneg hA.1]
      have hm := mod_bd A B hA.1 (by omega)
      unfold wrap64
      omega
  · rfl
theorem plain_4 (a b : Int) (h : plainOk 4 a b = true) : plainV 4 a b = wrap64 (a.tdiv b) := by
  unfold plainV; rw [if_neg (by rw [h]; decide), if_neg (by decide), if_neg (by decide), if_neg (by decide), if_pos rfl]
theorem plain_5 (a b : Int) (h : plainOk 5 a b = true) : plainV 5 a b = a.tmod b := by
  unfold plainV; rw [if_neg (by rw [h]; decide), if_neg (by decide), if_neg (by decide), if_neg (by decide), if_neg (by decide), if_pos rfl]
end Go.Proofs.YtkjhdanfbmdmlaaDoor.Wd
