/- Sets of registers as rows of words. -/
import Derived.Test.YtpjilcfmcbapcaaDoorLvMath
import Derived.Laws.BitsAllLaws
import Derived.Laws.Shifts
namespace Go.Proofs.YtpjilcfmcbapcaaDoor
open Go.RowKit
set_option linter.unusedVariables false
set_option linter.unusedSimpArgs false

def wordAt (X k : Nat) : Nat := (X >>> (64 * k)) % 2 ^ 64
def ws (X W : Nat) : List Value := (List.range W).map (fun k => .int .u64 (wordAt X k : Nat))
theorem tb_word (X k j : Nat) : (wordAt X k).testBit j = (decide (j < 64) && X.testBit (64 * k + j)) := by
  unfold wordAt; rw [Nat.testBit_mod_two_pow, Nat.testBit_shiftRight]
theorem word_lt (X k : Nat) : wordAt X k < 18446744073709551616 := Nat.mod_lt _ (by decide)
theorem ws_len (X W : Nat) : (ws X W).length = W := by unfold ws; rw [List.length_map, List.length_range]
theorem ws_get {X W k : Nat} (h : k < W) : (ws X W)[k]? = some (.int .u64 (wordAt X k : Nat)) := by
  unfold ws; rw [List.getElem?_map, List.getElem?_range h]; rfl
theorem ws_one (X W : Nat) : ∀ v ∈ ws X W, v.oneCell' = true := by
  intro v hv; unfold ws at hv; rw [List.mem_map] at hv; obtain ⟨k, _, rfl⟩ := hv; rfl
theorem word_ext {X k : Nat} {v : Nat} (hv : v < 2 ^ 64) (h : ∀ j, j < 64 → v.testBit j = X.testBit (64 * k + j)) : v = wordAt X k :=
  ext_below hv (word_lt X k) (fun j hj => by rw [h j hj, tb_word, decide_eq_true hj, Bool.true_and])
theorem ws_set {X Y W k : Nat} (h : ∀ j, j / 64 ≠ k → Y.testBit j = X.testBit j) : (ws X W).set k (.int .u64 (wordAt Y k : Nat)) = ws Y W := by
  refine List.ext_getElem? fun i => ?_
  rw [List.getElem?_set, ws_len]
  by_cases hi : i < W
  · by_cases hk : k = i
    · subst hk; rw [if_pos rfl, if_pos hi, ws_get hi]
    · rw [if_neg hk, ws_get hi, ws_get hi]
      have : wordAt X i = wordAt Y i := word_ext (word_lt X i) (fun j hj => by
        rw [tb_word, decide_eq_true hj, Bool.true_and]
        exact (h _ (by omega)).symm)
      rw [this]
  · have e1 : (ws X W)[i]? = none := List.getElem?_eq_none (by rw [ws_len]; omega)
    have e2 : (ws Y W)[i]? = none := List.getElem?_eq_none (by rw [ws_len]; omega)
    rw [e1, e2]
    by_cases hk : k = i
    · rw [if_pos hk, if_neg (by omega)]
    · rw [if_neg hk]
theorem ws_zero (W : Nat) : ws 0 W = List.replicate W (.int .u64 0) := by
  refine List.ext_getElem? fun i => ?_
  by_cases hi : i < W
  · rw [ws_get hi, List.getElem?_replicate, if_pos hi]
    have : wordAt 0 i = 0 := by unfold wordAt; rw [Nat.zero_shiftRight]
    rw [this]; rfl
  · rw [List.getElem?_eq_none (by rw [ws_len]; omega), List.getElem?_eq_none (by rw [List.length_replicate]; omega)]
/-- A word with a bit more. -/
theorem word_add (X r : Nat) : wordAt X (r / 64) ||| 2 ^ (r % 64) = wordAt (addB X r) (r / 64) :=
  word_ext (Nat.or_lt_two_pow (word_lt X _) (Nat.pow_lt_pow_right (by decide) (Nat.mod_lt _ (by decide)))) (fun j hj => by
    rw [Nat.testBit_or, tb_word, decide_eq_true hj, Bool.true_and, Nat.testBit_two_pow, tb_add]
    congr 1
    exact decide_eq_decide.2 (by omega))
theorem word_drop (X r : Nat) : wordAt X (r / 64) &&& (18446744073709551615 - 2 ^ (r % 64)) = wordAt (dropB X r) (r / 64) :=
  word_ext (Nat.and_lt_two_pow _ (by have : 18446744073709551615 - 2 ^ (r % 64) ≤ 18446744073709551615 := Nat.sub_le _ _; omega)) (fun j hj => by
    have hp : 2 ^ (r % 64) < 2 ^ 64 := Nat.pow_lt_pow_right (by decide) (Nat.mod_lt _ (by decide))
    have e : 18446744073709551615 - 2 ^ (r % 64) = 2 ^ 64 - (2 ^ (r % 64) + 1) := by omega
    rw [Nat.testBit_and, e, Nat.testBit_two_pow_sub_succ hp, tb_word, decide_eq_true hj, Bool.true_and, Bool.true_and, Nat.testBit_two_pow, tb_drop]
    congr 2
    exact decide_eq_decide.2 (by omega))
theorem ws_add (X r W : Nat) : (ws X W).set (r / 64) (.int .u64 (wordAt (addB X r) (r / 64) : Nat)) = ws (addB X r) W :=
  ws_set (fun j hj => by rw [tb_add, decide_eq_false (fun e => hj (by omega)), Bool.or_false])
theorem ws_drop (X r W : Nat) : (ws X W).set (r / 64) (.int .u64 (wordAt (dropB X r) (r / 64) : Nat)) = ws (dropB X r) W :=
  ws_set (fun j hj => by rw [tb_drop, decide_eq_false (fun e => hj (by omega)), Bool.not_false, Bool.and_true])
theorem word_has (X r : Nat) : decide ((wordAt X (r / 64) / 2 ^ (r % 64)) % 2 = 1) = X.testBit r := by
  have h1 := tb_word X (r / 64) (r % 64)
  rw [decide_eq_true (Nat.mod_lt r (by decide)), Bool.true_and, show 64 * (r / 64) + r % 64 = r by omega, Nat.testBit_eq_decide_div_mod_eq] at h1
  exact h1
/-- Words of both. -/
theorem word_or (X Y k : Nat) : wordAt X k ||| wordAt Y k = wordAt (X ||| Y) k :=
  word_ext (Nat.or_lt_two_pow (word_lt X _) (word_lt Y _)) (fun j hj => by
    rw [Nat.testBit_or, tb_word, tb_word, decide_eq_true hj, Bool.true_and, Bool.true_and, Nat.testBit_or])
theorem shr_u64 (z j : Nat) (hj : j < 64) : Op.shift .shr .u64 (z : Int) .u64 (j : Int) = pure (.int .u64 ((z / 2 ^ j : Nat) : Int)) := by
  rw [shift_shr_any _ _ _ _ (by omega)]
  have e : min (j : Int).toNat IntKind.u64.bits = j := by show min (j : Int).toNat 64 = j; omega
  rw [e]; rfl
theorem shl_u64 (j : Nat) (hj : j < 64) : Op.shift .shl .u64 (1 : Int) .u64 (j : Int) = pure (.int .u64 ((2 ^ j : Nat) : Int)) := by
  rw [shift_shl_any _ _ _ _ (by omega)]
  have e : min (j : Int).toNat IntKind.u64.bits = j := by show min (j : Int).toNat 64 = j; omega
  have hp : 2 ^ j < 2 ^ 64 := Nat.pow_lt_pow_right (by decide) hj
  have hc : ((2 : Int) ^ j) = ((2 ^ j : Nat) : Int) := by rw [Int.natCast_pow]; rfl
  rw [e, hc]
  generalize 2 ^ j = P at hp
  congr 2
  rw [Int.one_mul, IntKind.wrap_u64]
  omega
theorem and63 (r : Nat) (hr : r < 18446744073709551616) : bits .and .u64 (r : Int) 63 = ((r % 64 : Nat) : Int) := by
  have := u64_and_nat r 63 hr (by decide)
  rw [show ((63 : Nat) : Int) = 63 from rfl] at this
  rw [this, show 63 = 2 ^ 6 - 1 from rfl, Nat.and_two_pow_sub_one_eq_mod]
theorem and1 (r : Nat) (hr : r < 18446744073709551616) : bits .and .u64 (r : Int) 1 = ((r % 2 : Nat) : Int) := by
  have := u64_and_nat r 1 hr (by decide)
  rw [show ((1 : Nat) : Int) = 1 from rfl] at this
  rw [this, show 1 = 2 ^ 1 - 1 from rfl, Nat.and_two_pow_sub_one_eq_mod]
end Go.Proofs.YtpjilcfmcbapcaaDoor
