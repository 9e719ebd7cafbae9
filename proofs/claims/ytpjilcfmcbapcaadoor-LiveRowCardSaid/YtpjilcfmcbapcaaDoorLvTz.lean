/- The lowest bit of a word; what a set's registers are, word by word. -/
import Derived.Test.YtpjilcfmcbapcaaDoorLvSet
namespace Go.Proofs.YtpjilcfmcbapcaaDoor
open Go.RowKit
set_option linter.unusedVariables false
set_option linter.unusedSimpArgs false

def dbt : List Nat := [0, 1, 56, 2, 57, 49, 28, 3, 61, 58, 42, 50, 38, 29, 17, 4, 62, 47, 59, 36, 45, 43, 51, 22, 53, 39, 33, 30, 24, 18, 12, 5, 63, 55, 48, 27, 60, 41, 37, 16, 46, 35, 44, 21, 52, 32, 23, 11, 54, 26, 40, 15, 34, 20, 31, 10, 25, 14, 19, 9, 13, 8, 7, 6]
structure LaidT (w : World) : Prop where
  blk : 0 < w.heap.size
  cell : ∀ (k v : Nat), dbt[k]? = some v → w.cell? ⟨0, k, none⟩ = some (.int .u8 (v : Int))
theorem LaidT.keep {S : Nat → Prop} {w w' : World} (h : LaidT w) (hk : Keeps S w w') (hS : ¬ S 0) : LaidT w' :=
  ⟨Nat.lt_of_lt_of_le h.blk hk.size, fun k v hv => hk.cell (h.cell k v hv) hS⟩
theorem odd_part : ∀ (v : Nat), v ≠ 0 → ∃ t q, v = 2 ^ t * (2 * q + 1) := by
  intro v
  induction v using Nat.strongRecOn with
  | ind v ih =>
    intro h
    by_cases ho : v % 2 = 1
    · exact ⟨0, v / 2, by rw [Nat.pow_zero, Nat.one_mul]; omega⟩
    · obtain ⟨t, q, e⟩ := ih (v / 2) (by omega) (by omega)
      refine ⟨t + 1, q, ?_⟩
      have hv : v = 2 * (v / 2) := by omega
      rw [Nat.pow_succ, Nat.mul_comm (2 ^ t) 2, Nat.mul_assoc, ← e]
      exact hv
theorem tb_mul (t m j : Nat) : (2 ^ t * m).testBit j = (decide (t ≤ j) && m.testBit (j - t)) := Nat.testBit_two_pow_mul ..
theorem odd_zero (q : Nat) : (2 * q + 1).testBit 0 = true := by rw [Nat.testBit_zero]; simp
theorem odd_succ (q i : Nat) : (2 * q + 1).testBit (i + 1) = q.testBit i := by rw [Nat.testBit_succ]; congr 1; omega
theorem odd_lt {t q : Nat} (h : 2 ^ t * (2 * q + 1) < 2 ^ 64) : t < 64 := by
  by_cases ht : t < 64
  · exact ht
  · have h1 : 2 ^ 64 ≤ 2 ^ t := Nat.pow_le_pow_right (by decide) (by omega)
    have h2 : 2 ^ t ≤ 2 ^ t * (2 * q + 1) := Nat.le_mul_of_pos_right _ (by omega)
    omega
theorem and_neg {t q : Nat} (h : 2 ^ t * (2 * q + 1) < 2 ^ 64) : 2 ^ t * (2 * q + 1) &&& (18446744073709551616 - 2 ^ t * (2 * q + 1)) = 2 ^ t := by
  have ht := odd_lt h
  have e64 : (18446744073709551616 : Nat) = 2 ^ t * 2 ^ (64 - t) := by rw [← Nat.pow_add, show t + (64 - t) = 64 by omega]
  obtain ⟨m, hm⟩ : ∃ m, 64 - t = m + 1 := ⟨63 - t, by omega⟩
  have hq : 2 * q + 1 < 2 ^ (m + 1) := by
    rw [hm] at e64
    have h3 : 2 ^ t * (2 * q + 1) < 2 ^ t * 2 ^ (m + 1) := by rw [← e64]; exact h
    exact Nat.lt_of_mul_lt_mul_left h3
  have hq2 : q < 2 ^ m := by rw [Nat.pow_succ] at hq; omega
  have e : 18446744073709551616 - 2 ^ t * (2 * q + 1) = 2 ^ t * (2 * (2 ^ m - (q + 1)) + 1) := by
    rw [e64, hm, ← Nat.mul_sub]
    congr 1
    rw [Nat.pow_succ] at *; omega
  rw [e]
  refine Nat.eq_of_testBit_eq fun j => ?_
  rw [Nat.testBit_and, tb_mul, tb_mul, Nat.testBit_two_pow]
  by_cases hj : t ≤ j
  · rw [decide_eq_true hj, Bool.true_and, Bool.true_and]
    cases hd : j - t with
    | zero => rw [odd_zero, odd_zero, decide_eq_true (by omega)]; rfl
    | succ i =>
      rw [odd_succ, odd_succ, Nat.testBit_two_pow_sub_succ hq2, decide_eq_false (show ¬ t = j by omega)]
      cases q.testBit i <;> simp
  · rw [decide_eq_false hj, decide_eq_false (by omega)]; rfl
theorem tb_pred (t q j : Nat) : (2 ^ t * (2 * q + 1) &&& (2 ^ t * (2 * q + 1) - 1)).testBit j = ((2 ^ t * (2 * q + 1)).testBit j && !decide (t = j)) := by
  have hp : 0 < 2 ^ t := Nat.pow_pos (by decide)
  have e : 2 ^ t * (2 * q + 1) - 1 = 2 ^ t * (2 * q) + (2 ^ t - 1) := by rw [Nat.mul_add, Nat.mul_one]; omega
  rw [Nat.testBit_and, e, Nat.testBit_two_pow_mul_add _ (by omega), tb_mul]
  by_cases hj : t ≤ j
  · rw [decide_eq_true hj, Bool.true_and, if_neg (by omega)]
    cases hd : j - t with
    | zero => rw [odd_zero, decide_eq_true (by omega), Nat.testBit_zero]; simp
    | succ i => rw [odd_succ, decide_eq_false (by omega), Nat.testBit_succ, show 2 * q / 2 = q by omega]; simp
  · rw [decide_eq_false hj]; rfl
/-- The bits of a word, rising. -/
def bitsL (v : Nat) : List Nat := (List.range 64).filter v.testBit
theorem bits_step {t q : Nat} (h : 2 ^ t * (2 * q + 1) < 2 ^ 64) : bitsL (2 ^ t * (2 * q + 1)) = t :: bitsL (2 ^ t * (2 * q + 1) &&& (2 ^ t * (2 * q + 1) - 1)) := by
  have ht := odd_lt h
  obtain ⟨m, hm⟩ : ∃ m, 64 - t = m + 1 := ⟨63 - t, by omega⟩
  have hr : List.range 64 = List.range' 0 t ++ (t :: List.range' (t + 1) m) := by
    rw [List.range_eq_range', ← List.range'_succ, show (64 : Nat) = t + (m + 1) by omega, ← List.range'_append_1, Nat.zero_add]
  unfold bitsL
  rw [hr, List.filter_append, List.filter_append, List.filter_cons, List.filter_cons]
  have z : ∀ (v : Nat), (∀ j, j < t → v.testBit j = false) → (List.range' 0 t).filter v.testBit = [] := fun v hv => by
    rw [List.filter_eq_nil_iff]
    intro j hj
    rw [List.mem_range'_1] at hj
    rw [hv j (by omega)]; simp
  have hv : ∀ j, j < t → (2 ^ t * (2 * q + 1)).testBit j = false := fun j hj => by rw [tb_mul, decide_eq_false (by omega), Bool.false_and]
  have ht1 : (2 ^ t * (2 * q + 1)).testBit t = true := by rw [tb_mul, decide_eq_true (Nat.le_refl t), Nat.sub_self, odd_zero]; rfl
  rw [z _ hv, z _ (fun j hj => by rw [tb_pred, hv j hj, Bool.false_and]), if_pos ht1, if_neg (by rw [tb_pred, ht1]; simp), List.nil_append, List.nil_append]
  congr 1
  refine List.filter_congr fun j hj => ?_
  rw [List.mem_range'_1] at hj
  rw [tb_pred, decide_eq_false (by omega)]; simp
theorem bits_zero : bitsL 0 = [] := by decide
def bitsAt (k v : Nat) : List Int := (bitsL v).map (fun j => ((64 * k + j : Nat) : Int))
theorem listB_word (X k : Nat) : listB X (64 * (k + 1)) = listB X (64 * k) ++ bitsAt k (wordAt X k) := by
  unfold listB bitsAt bitsL
  rw [show 64 * (k + 1) = 64 * k + 64 by omega, List.range_add, List.filter_append, List.map_append, List.filter_map, List.map_map]
  congr 1
  have : (List.range 64).filter (X.testBit ∘ fun x => 64 * k + x) = (List.range 64).filter (wordAt X k).testBit := by
    refine List.filter_congr fun j hj => ?_
    rw [List.mem_range] at hj
    rw [tb_word, decide_eq_true hj, Bool.true_and]; rfl
  rw [this]; rfl
theorem listB_more {X R : Nat} (h : X < 2 ^ R) (S : Nat) (hS : R ≤ S) : listB X S = listB X R := by
  obtain ⟨d, rfl⟩ : ∃ d, S = R + d := ⟨S - R, by omega⟩
  unfold listB
  rw [List.range_add, List.filter_append, List.map_append]
  have : ((List.range d).map (fun x => R + x)).filter X.testBit = [] := by
    rw [List.filter_eq_nil_iff]
    intro j hj
    rw [List.mem_map] at hj
    obtain ⟨i, _, rfl⟩ := hj
    rw [out_bit h (by omega)]; simp
  rw [this]; simp
theorem listB_len (X R : Nat) : (listB X R).length ≤ R := by
  unfold listB; rw [List.length_map]
  exact Nat.le_trans (List.length_filter_le _ _) (by rw [List.length_range]; exact Nat.le_refl _)
theorem dbt_all : ∀ t, t < 64 → dbt[(2 ^ t * 285870213051353865) % 18446744073709551616 / 2 ^ 58]? = some t := by decide
theorem tz_math (t q : Nat) (h : 2 ^ t * (2 * q + 1) < 2 ^ 64) : ∃ m k p : Nat, dbt[k]? = some t ∧ k < 64 ∧ bits .and .u64 ((2 ^ t * (2 * q + 1) : Nat) : Int) ((18446744073709551616 - 2 ^ t * (2 * q + 1) : Nat) : Int) = (p : Int) ∧ IntKind.u64.wrap ((p : Int) * 285870213051353865) = (m : Int) ∧ Op.shift .shr .u64 (m : Int) .u64 58 = pure (.int .u64 (k : Int)) := by
  have ht := odd_lt h
  have hv0 : 0 < 2 ^ t * (2 * q + 1) := Nat.mul_pos (Nat.pow_pos (by decide)) (by omega)
  have e2 := u64_and_nat (2 ^ t * (2 * q + 1)) (18446744073709551616 - 2 ^ t * (2 * q + 1)) h (Nat.sub_lt (by decide) hv0)
  rw [and_neg h] at e2
  refine ⟨2 ^ t * 285870213051353865 % 18446744073709551616, 2 ^ t * 285870213051353865 % 18446744073709551616 / 2 ^ 58, 2 ^ t, dbt_all t ht, ?_, e2, ?_, shr_u64 _ 58 (by decide)⟩
  · exact Nat.div_lt_of_lt_mul (Nat.lt_of_lt_of_le (Nat.mod_lt _ (by decide)) (by decide))
  · generalize 2 ^ t = p
    rw [IntKind.wrap_u64]
    omega
set_option maxHeartbeats 1600000 in
theorem tz_any (w : World) (hw : LaidT w) (t q : Nat) (h : 2 ^ t * (2 * q + 1) < 2 ^ 64) :
    Calls Tryd.prog 61 #[.int .u64 ((2 ^ t * (2 * q + 1) : Nat) : Int)] w fun e w' => e = .returned (.int .i64 t) ∧ w' = w := by
  obtain ⟨m, k, p, hd, hk, e2, e3, e4⟩ := tz_math t q h
  have hv0 : 0 < 2 ^ t * (2 * q + 1) := Nat.mul_pos (Nat.pow_pos (by decide)) (by omega)
  have hc := hw.cell _ _ hd
  have ht := odd_lt h
  generalize 2 ^ t * (2 * q + 1) = v at *
  have e0 : ((v : Int) == 0) = false := beq_eq_false_iff_ne.2 (by omega)
  have e1 : IntKind.u64.wrap (-(v : Int)) = ((18446744073709551616 - v : Nat) : Int) := by rw [IntKind.wrap_u64]; omega
  have i1 : (k : Int) < 64 := by omega
  have i0 : (0 : Int) ≤ (k : Int) := by omega
  generalize 18446744073709551616 - v = u at *
  clear hd hv0 hw h
  go_enter Tryd.func61, Tryd.ntmps61
  go_wp2_with fail
  go_returns
  exact ⟨rfl, rfl⟩
end Go.Proofs.YtpjilcfmcbapcaaDoor
