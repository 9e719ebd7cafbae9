/- The law WordDivides without Go. -/
import Derived.Test.YtkjhdanfbmdmlaaDoorWordOrdersM
namespace Go.Proofs.YtkjhdanfbmdmlaaDoor.Wd
open Go.RowKit
set_option linter.unusedVariables false

theorem wrap_wrap (b : Int) (s : Bool) (x : Int) (hb : b = 32 ∨ b = 64) : wrap b s (wrap b s x) = wrap b s x := by
  rcases hb with rfl | rfl
  · cases s
    · rw [wrap_32f, wrap_32f]; omega
    · rw [wrap_32t, wrap_32t]; omega
  · rfl
theorem bok_div (b : Int) (s : Bool) (sub X Y : Int) (hr : reck b = true) (hs : sub = 4 ∨ sub = 5) :
    bok b s sub X Y = (!(wrap b s Y == 0) && !(s && wrap b s Y == -1 && !(fits b (0 - wrap b s X)))) := by
  unfold bok; rw [hr, if_neg (by omega), if_pos (by omega)]; rfl
theorem bok_45 (b : Int) (s : Bool) (X Y : Int) (hr : reck b = true) : bok b s 5 X Y = bok b s 4 X Y := by
  rw [bok_div b s 5 X Y hr (by omega), bok_div b s 4 X Y hr (by omega)]
theorem bval_4t (b X Y : Int) (ho : bok b true 4 X Y = true) : bval b true 4 X Y = (wrap b true X).tdiv (wrap b true Y) := by
  unfold bval; rw [if_neg (by rw [ho]; decide), if_neg (by decide), if_pos (by decide), if_pos rfl]
theorem bval_5t (b X Y : Int) (ho : bok b true 5 X Y = true) : bval b true 5 X Y = (wrap b true X).tmod (wrap b true Y) := by
  unfold bval; rw [if_neg (by rw [ho]; decide), if_neg (by decide), if_neg (by decide), if_pos (by decide), if_pos rfl]
theorem bval_4f (b X Y : Int) (ho : bok b false 4 X Y = true) : bval b false 4 X Y = plainV 6 (wrap b false X) (wrap b false Y) := by
  unfold bval; rw [if_neg (by rw [ho]; decide), if_neg (by decide), if_pos (by decide), if_neg (by decide)]
theorem bval_5f (b X Y : Int) (ho : bok b false 5 X Y = true) : bval b false 5 X Y = plainV 7 (wrap b false X) (wrap b false Y) := by
  unfold bval; rw [if_neg (by rw [ho]; decide), if_neg (by decide), if_neg (by decide), if_pos (by decide), if_neg (by decide)]
theorem plain_6 (a b : Int) (h : ¬ b = 0) : plainV 6 a b = wrap64 (IntKind.u64.wrap ((IntKind.u64.wrap a).tdiv (IntKind.u64.wrap b))) := by simp [plainV, plainOk, h]
theorem plain_7 (a b : Int) (h : ¬ b = 0) : plainV 7 a b = wrap64 ((IntKind.u64.wrap a).tmod (IntKind.u64.wrap b)) := by simp [plainV, plainOk, h]
/-- A sum that wraps comes back to a number, whatever was wrapped on the way. -/
theorem wrap64_sum (q y r X : Int) (hX : -9223372036854775808 ≤ X ∧ X ≤ 9223372036854775807) (k : Int) (h : q * y + r = X + 18446744073709551616 * k) : wrap64 (wrap64 (q * y) + r) = X := by
  generalize q * y = p at *
  unfold wrap64; omega
theorem wrap64_con (a b k : Int) (h : a = b + 18446744073709551616 * k) : wrap64 a = wrap64 b := by unfold wrap64; omega
theorem mod_bd (a b : Int) (ha : 0 ≤ a) (hb : 0 < b) : 0 ≤ a % b ∧ a % b < b := ⟨Int.emod_nonneg _ (by omega), Int.emod_lt_of_pos _ hb⟩
/-- Signed: quotient times divisor and the rest. -/
theorem back_t (X Y : Int) : X.tdiv Y * Y + X.tmod Y = X := by
  have := Int.tmod_add_mul_tdiv X Y
  rw [Int.mul_comm]; omega
theorem tmod_sign (X Y : Int) (h : ¬ X.tmod Y = 0) : X.tmod Y < 0 ↔ X < 0 := by
  constructor
  · intro h1
    by_cases h0 : 0 ≤ X
    · have := Int.tmod_nonneg Y h0; omega
    · omega
  · intro h1
    have h2 : X.tmod Y = -((-X).tmod Y) := by rw [Int.neg_tmod]; omega
    have h3 := Int.tmod_nonneg Y (show 0 ≤ -X by omega)
    omega
theorem tmod_bd (X Y : Int) (hX : -9223372036854775808 ≤ X ∧ X ≤ 9223372036854775807) : -9223372036854775808 ≤ X.tmod Y ∧ X.tmod Y ≤ 9223372036854775807 := by
  have h : (X.tmod Y).natAbs ≤ X.natAbs := by rw [Int.natAbs_tmod]; exact Nat.mod_le _ _
  by_cases h0 : 0 ≤ X
  · have := Int.tmod_nonneg Y h0; omega
  · have h2 : X.tmod Y = -((-X).tmod Y) := by rw [Int.neg_tmod]; omega
    have h3 := Int.tmod_nonneg Y (show 0 ≤ -X by omega)
    omega
/-- Unsigned: the numbers told by their bits. -/
theorem back_u (X Y : Int) (hX : -9223372036854775808 ≤ X ∧ X ≤ 9223372036854775807) (hY : -9223372036854775808 ≤ Y ∧ Y ≤ 9223372036854775807) (h0 : ¬ Y = 0) :
    wrap64 (wrap64 (plainV 6 X Y * Y) + plainV 7 X Y) = X ∧ less false (plainV 7 X Y) Y ∧ -9223372036854775808 ≤ plainV 7 X Y ∧ plainV 7 X Y ≤ 9223372036854775807 := by
  rw [plain_6 X Y h0, plain_7 X Y h0]
  have hu0 : 0 < IntKind.u64.wrap Y := by
    have h1 := u64_bd Y
    have h2 : ¬ IntKind.u64.wrap Y = 0 := fun h => h0 ((u64_zero Y hY).1 h)
    omega
  have hx := u64_bd X
  have hy := u64_bd Y
  rw [Int.tdiv_eq_ediv_of_nonneg hx.1, Int.tmod_eq_emod_of_nonneg hx.1]
  have hm := mod_bd _ _ hx.1 hu0
  have hd : 0 ≤ IntKind.u64.wrap X / IntKind.u64.wrap Y ∧ IntKind.u64.wrap X / IntKind.u64.wrap Y ≤ IntKind.u64.wrap X := ⟨Int.ediv_nonneg hx.1 (by omega), Int.ediv_le_self _ hx.1⟩
  have he := Int.mul_ediv_add_emod (IntKind.u64.wrap X) (IntKind.u64.wrap Y)
  have ex : ∃ i, IntKind.u64.wrap X = X + 18446744073709551616 * i := ⟨-(X / 18446744073709551616), by rw [IntKind.wrap_u64]; omega⟩
  have ey : ∃ j, IntKind.u64.wrap Y = Y + 18446744073709551616 * j := ⟨-(Y / 18446744073709551616), by rw [IntKind.wrap_u64]; omega⟩
  obtain ⟨i, hi⟩ := ex
  obtain ⟨j, hj⟩ := ey
  have hw : IntKind.u64.wrap (IntKind.u64.wrap X / IntKind.u64.wrap Y) = IntKind.u64.wrap X / IntKind.u64.wrap Y := by
    rw [IntKind.wrap_u64 (IntKind.u64.wrap X / IntKind.u64.wrap Y)]; omega
  rw [hw]
  generalize hD : IntKind.u64.wrap X / IntKind.u64.wrap Y = D at *
  generalize hM : IntKind.u64.wrap X % IntKind.u64.wrap Y = M at *
  obtain ⟨kd, hkd⟩ := wrap64_mul D
  obtain ⟨km, hkm⟩ := wrap64_mul M
  refine ⟨?_, ?_, wrap64_bd M⟩
  · refine wrap64_sum _ _ _ X hX (i - D * j - kd * Y - km) ?_
    rw [hkd, hkm]
    rw [hj, hi] at he
    have e1 : (D - 18446744073709551616 * kd) * Y = D * Y - 18446744073709551616 * (kd * Y) := by
      rw [Int.sub_mul, Int.mul_assoc]
    have e2 : (Y + 18446744073709551616 * j) * D = D * Y + 18446744073709551616 * (D * j) := by
      rw [Int.add_mul, Int.mul_comm Y D, Int.mul_assoc, Int.mul_comm j D]
    rw [e1]
    rw [e2] at he
    generalize D * Y = a at *
    generalize D * j = b at *
    generalize kd * Y = c at *
    omega
  · show IntKind.u64.wrap (wrap64 M) < IntKind.u64.wrap Y
    have : IntKind.u64.wrap (wrap64 M) = M := by
      rw [IntKind.wrap_u64]; unfold wrap64; omega
    rw [this]; exact hm.2
theorem bok_shl_t (b A K : Int) (hr : reck b = true) (h : 0 ≤ K ∧ K < b) : bok b true 11 A K = (decide (0 ≤ wrap b true A) && fits b (wrap b true A * 2 ^ K.toNat)) := by
  unfold bok; rw [hr, if_neg (by decide), if_neg (by decide), if_pos rfl, decide_eq_true h]; rfl
theorem bok_shl_f (b A K : Int) (hr : reck b = true) (h : 0 ≤ K ∧ K < b) : bok b false 11 A K = true := by
  unfold bok; rw [hr, if_neg (by decide), if_neg (by decide), if_pos rfl, decide_eq_true h]; rfl
theorem bok_shr (b : Int) (s : Bool) (A K : Int) (hr : reck b = true) (h : 0 ≤ K ∧ K < b) : bok b s 12 A K = true := by
  unfold bok; rw [hr, if_neg (by decide), if_neg (by decide), if_neg (by decide), if_pos (by decide), decide_eq_true h]; rfl
theorem bval_shl_t (b A K : Int) (ho : bok b true 11 A K = true) : bval b true 11 A K = wrap b true A * 2 ^ K.toNat := by
  unfold bval; rw [if_neg (by rw [ho]; decide), if_neg (by decide), if_neg (by decide), if_neg (by decide), if_pos rfl, if_pos rfl]
theorem bval_shr_t (b A K : Int) (ho : bok b true 12 A K = true) : bval b true 12 A K = wrap b true A / 2 ^ K.toNat := by
  unfold bval; rw [if_neg (by rw [ho]; decide), if_neg (by decide), if_neg (by decide), if_neg (by decide), if_neg (by decide), if_pos (by decide), if_pos rfl]
theorem bval_shl_bd (b : Int) (s : Bool) (A K : Int) (hr : reck b = true) (hA : -9223372036854775808 ≤ A ∧ A ≤ 9223372036854775807) : -9223372036854775808 ≤ bval b s 11 A K ∧ bval b s 11 A K ≤ 9223372036854775807 := by
  cases ho : bok b s 11 A K
  · have : bval b s 11 A K = 0 := by unfold bval; rw [if_pos ho]
    rw [this]; decide
  · cases s
    · have : bval b false 11 A K = wrap b false (wrap64 (wrap b false A * 2 ^ K.toNat)) := by
        unfold bval; rw [if_neg (by rw [ho]; decide), if_neg (by decide), if_neg (by decide), if_neg (by decide), if_pos rfl, if_neg (by decide)]
      rw [this]; exact wrap_bd b false _ (wrap64_bd _)
    · have hb := reck_cases hr
      have hk : 0 ≤ K ∧ K < b := by
        have h := ho
        unfold bok at h
        rw [hr, if_neg (by decide), if_neg (by decide), if_pos rfl] at h
        simp at h
        exact h.1
      rw [bval_shl_t b A K ho]
      rw [bok_shl_t b A K hr hk] at ho
      simp at ho
      exact fits_bd hb ho.2
end Go.Proofs.YtkjhdanfbmdmlaaDoor.Wd
