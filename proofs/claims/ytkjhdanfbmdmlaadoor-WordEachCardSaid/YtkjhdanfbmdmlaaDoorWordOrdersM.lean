/- The law WordOrders without Go: of two numbers one is less, or they are the same. -/
import Derived.Test.YtkjhdanfbmdmlaaDoorWordSpecB
import Derived.Laws.Bits64
namespace Go.Proofs.YtkjhdanfbmdmlaaDoor.Wd
open Go.RowKit
theorem plain_14 (a b : Int) : plainV 14 a b = if a = b then 1 else 0 := by simp [plainV, plainOk]
theorem plain_15 (a b : Int) : plainV 15 a b = if a = b then 0 else 1 := by simp [plainV, plainOk]
theorem plain_16 (a b : Int) : plainV 16 a b = if a < b then 1 else 0 := by simp [plainV, plainOk]
theorem plain_17 (a b : Int) : plainV 17 a b = if a ≤ b then 1 else 0 := by simp [plainV, plainOk]
theorem plain_18 (a b : Int) : plainV 18 a b = if IntKind.u64.wrap a < IntKind.u64.wrap b then 1 else 0 := by simp [plainV, plainOk]
theorem plain_19 (a b : Int) : plainV 19 a b = if IntKind.u64.wrap a ≤ IntKind.u64.wrap b then 1 else 0 := by simp [plainV, plainOk]
theorem bok_rest (b : Int) (s : Bool) (sub x y : Int) (hr : reck b = true) (hs : sub = 8 ∨ sub = 9 ∨ sub = 10 ∨ 14 ≤ sub ∧ sub ≤ 19) : bok b s sub x y = true := by
  unfold bok; rw [hr, if_neg (by omega), if_neg (by omega), if_neg (by omega), if_neg (by omega)]; simp; omega
theorem bval_rest (b : Int) (s : Bool) (sub x y : Int) (hr : reck b = true) (hs : sub = 8 ∨ sub = 9 ∨ sub = 10 ∨ 14 ≤ sub ∧ sub ≤ 19) :
    bval b s sub x y = (if sub = 16 ∨ sub = 18 then plainV (if s then 16 else 18) (wrap b s x) (wrap b s y)
      else if sub = 17 ∨ sub = 19 then plainV (if s then 17 else 19) (wrap b s x) (wrap b s y) else plainV sub (wrap b s x) (wrap b s y)) := by
  unfold bval; rw [if_neg (by rw [bok_rest b s sub x y hr hs]; decide), if_neg (by omega), if_neg (by omega), if_neg (by omega), if_neg (by omega), if_neg (by omega)]
theorem bval_14 (b : Int) (s : Bool) (x y : Int) (hr : reck b = true) : bval b s 14 x y = if wrap b s x = wrap b s y then 1 else 0 := by
  rw [bval_rest b s 14 x y hr (by omega), if_neg (by decide), if_neg (by decide), plain_14]
theorem bval_15 (b : Int) (s : Bool) (x y : Int) (hr : reck b = true) : bval b s 15 x y = if wrap b s x = wrap b s y then 0 else 1 := by
  rw [bval_rest b s 15 x y hr (by omega), if_neg (by decide), if_neg (by decide), plain_15]
def less (s : Bool) (a b : Int) : Prop := if s then a < b else IntKind.u64.wrap a < IntKind.u64.wrap b
instance (s : Bool) (a b : Int) : Decidable (less s a b) := by unfold less; infer_instance
theorem bval_16 (b : Int) (s : Bool) (x y : Int) (hr : reck b = true) : bval b s 16 x y = if less s (wrap b s x) (wrap b s y) then 1 else 0 := by
  rw [bval_rest b s 16 x y hr (by omega), if_pos (by decide)]
  cases s
  · exact plain_18 _ _
  · exact plain_16 _ _
theorem bval_17 (b : Int) (s : Bool) (x y : Int) (hr : reck b = true) : bval b s 17 x y = if less s (wrap b s y) (wrap b s x) then 0 else 1 := by
  rw [bval_rest b s 17 x y hr (by omega), if_neg (by decide), if_pos (by decide)]
  cases s
  · show plainV 19 _ _ = _
    rw [plain_19]
    by_cases h : less false (wrap b false y) (wrap b false x)
    · rw [if_pos h, if_neg (by have : IntKind.u64.wrap (wrap b false y) < IntKind.u64.wrap (wrap b false x) := h; omega)]
    · rw [if_neg h, if_pos (by have : ¬ IntKind.u64.wrap (wrap b false y) < IntKind.u64.wrap (wrap b false x) := h; omega)]
  · show plainV 17 _ _ = _
    rw [plain_17]
    by_cases h : less true (wrap b true y) (wrap b true x)
    · rw [if_pos h, if_neg (by have : wrap b true y < wrap b true x := h; omega)]
    · rw [if_neg h, if_pos (by have : ¬ wrap b true y < wrap b true x := h; omega)]
/-- One is less, or they are the same. -/
theorem three (s : Bool) (a b : Int) (ha : -9223372036854775808 ≤ a ∧ a ≤ 9223372036854775807) (hb : -9223372036854775808 ≤ b ∧ b ≤ 9223372036854775807) :
    less s a b ∧ ¬ less s b a ∧ ¬ a = b ∨ ¬ less s a b ∧ less s b a ∧ ¬ a = b ∨ ¬ less s a b ∧ ¬ less s b a ∧ a = b := by
  cases s
  · show IntKind.u64.wrap a < IntKind.u64.wrap b ∧ ¬ IntKind.u64.wrap b < IntKind.u64.wrap a ∧ ¬ a = b ∨ ¬ IntKind.u64.wrap a < IntKind.u64.wrap b ∧ IntKind.u64.wrap b < IntKind.u64.wrap a ∧ ¬ a = b ∨ ¬ IntKind.u64.wrap a < IntKind.u64.wrap b ∧ ¬ IntKind.u64.wrap b < IntKind.u64.wrap a ∧ a = b
    simp only [IntKind.wrap_u64]
    omega
  · show a < b ∧ ¬ b < a ∧ ¬ a = b ∨ ¬ a < b ∧ b < a ∧ ¬ a = b ∨ ¬ a < b ∧ ¬ b < a ∧ a = b
    omega
end Go.Proofs.YtkjhdanfbmdmlaaDoor.Wd
