/- The law WordOrders: its walk, for every input. -/
import Derived.Test.YtmappfpolbkbcaaDoorWordOrders
import Derived.Test.YtmappfpolbkbcaaDoorWordOrdersM
namespace Go.Proofs.YtmappfpolbkbcaaDoor
open Go.RowKit
set_option linter.unusedVariables false

theorem wf64 {n : Int} (h : (Lit.int .i64 n).wf = true) : -9223372036854775808 ≤ n ∧ n ≤ 9223372036854775807 := by
  simp [Lit.wf, IntKind.min, IntKind.max, IntKind.signed, IntKind.bits] at h
  omega
theorem ite01 (c : Prop) [Decidable c] : 0 ≤ (if c then (1 : Int) else 0) ∧ (if c then (1 : Int) else 0) ≤ 1 := by split <;> decide

theorem orders_gen (B : Int) (S : Bool) (hr : Wd.reck B = true) (which p q x y : Int) (hx : -9223372036854775808 ≤ x ∧ x ≤ 9223372036854775807) (hy : -9223372036854775808 ≤ y ∧ y ≤ 9223372036854775807)
    (hp0 : 0 ≤ p ∧ p ≤ 1) (hp : bits BinOp.and IntKind.i64 which 1 = p) (hq : bits BinOp.and IntKind.i64 which 2 = q) (hB : 32 + 32 * p = B) (hS : (q == 2) = S) (w : World) (L : Laid w) :
    Calls Tryd.prog 8 #[.int .i64 which, .int .i64 x, .int .i64 y] w fun e w' => e = .returned (.bool true) ∧ Gr w w' := by
  have hX := Wd.wrap_bd B S x hx
  have hY := Wd.wrap_bd B S y hy
  have h3 := Wd.three S (Wd.wrap B S (Wd.wrap B S x)) (Wd.wrap B S (Wd.wrap B S y)) (Wd.wrap_bd B S _ hX) (Wd.wrap_bd B S _ hY)
  have u := Wd.three false x y hx hy
  have v := Wd.three true x y hx hy
  have ev : ∀ a b : Int, Wd.less true a b ↔ a < b := fun a b => by unfold Wd.less; rw [if_pos rfl]
  have eu : ∀ a b : Int, Wd.less false a b ↔ IntKind.u64.wrap a < IntKind.u64.wrap b := fun a b => by unfold Wd.less; rw [if_neg (by decide)]
  rw [ev, ev] at v
  rw [eu, eu] at u
  refine orders_core B S which p q x y _ _ _ _ _ _ _ _ _ _ _ hx hy hX hY hp0 hp hq hB hS rfl rfl
    rfl (Wd.bok_rest B S 16 _ _ hr (by omega)) rfl (Wd.bok_rest B S 16 _ _ hr (by omega)) rfl (Wd.bok_rest B S 14 _ _ hr (by omega)) rfl (Wd.bok_rest B S 17 _ _ hr (by omega)) rfl (Wd.bok_rest B S 15 _ _ hr (by omega))
    rfl rfl rfl rfl rfl rfl rfl rfl ?_ ?_ ?_ ?_ ?_ ?_ ?_ ?_ ?_ ?_ ?_ ?_ ?_ ?_ w L
  · rw [Wd.bval_16 B S _ _ hr]; exact ite01 _
  · rw [Wd.bval_16 B S _ _ hr]; exact ite01 _
  · rw [Wd.bval_14 B S _ _ hr]; exact ite01 _
  · rw [Wd.plain_16]; exact ite01 _
  · rw [Wd.plain_18]; exact ite01 _
  · rw [Wd.plain_17]; exact ite01 _
  · rw [Wd.plain_19]; exact ite01 _
  · rw [Wd.bval_16 B S _ _ hr, Wd.bval_16 B S _ _ hr, Wd.bval_14 B S _ _ hr]
    rcases h3 with ⟨a, b, c⟩ | ⟨a, b, c⟩ | ⟨a, b, c⟩
    · rw [if_pos a, if_neg b, if_neg c]; decide
    · rw [if_neg a, if_pos b, if_neg c]; decide
    · rw [if_neg a, if_neg b, if_pos c]; decide
  · rw [Wd.bval_17 B S _ _ hr, Wd.bval_16 B S _ _ hr, Wd.bval_14 B S _ _ hr]
    rcases h3 with ⟨a, b, c⟩ | ⟨a, b, c⟩ | ⟨a, b, c⟩
    · rw [if_pos a, if_neg b, if_neg c]; decide
    · rw [if_neg a, if_pos b, if_neg c]; decide
    · rw [if_neg a, if_neg b, if_pos c]; decide
  · rw [Wd.bval_15 B S _ _ hr, Wd.bval_14 B S _ _ hr]
    by_cases c : Wd.wrap B S (Wd.wrap B S x) = Wd.wrap B S (Wd.wrap B S y)
    · rw [if_pos c, if_pos c]; decide
    · rw [if_neg c, if_neg c]; decide
  · rw [Wd.plain_16]
    by_cases c : x < y
    · rw [if_pos c, decide_eq_true c]; decide
    · rw [if_neg c, decide_eq_false c]; decide
  · rw [Wd.plain_18]
    by_cases c : IntKind.u64.wrap x < IntKind.u64.wrap y
    · rw [if_pos c, decide_eq_true c]; decide
    · rw [if_neg c, decide_eq_false c]; decide
  · rw [Wd.plain_16, Wd.plain_17]
    by_cases c : x < y
    · rw [if_pos c, if_neg (by omega)]; decide
    · rw [if_neg c, if_pos (by omega)]; decide
  · rw [Wd.plain_18, Wd.plain_19]
    by_cases c : IntKind.u64.wrap x < IntKind.u64.wrap y
    · rw [if_pos c, if_neg (by omega)]; decide
    · rw [if_neg c, if_pos (by omega)]; decide

theorem wordOrders_walk (a0 a1 a2 : Int) (w0 : (Lit.int .i64 a0).wf = true) (w1 : (Lit.int .i64 a1).wf = true) (w2 : (Lit.int .i64 a2).wf = true) (w : World) (L : Laid w) :
    Calls Tryd.prog 8 #[.int .i64 a0, .int .i64 a1, .int .i64 a2] w fun e w' => e = .returned (.bool true) ∧ Gr w w' := by
  rcases Wd.and1 a0 with h1 | h1 <;> rcases Wd.and2 a0 with h2 | h2
  · exact orders_gen 32 false (by decide) a0 0 0 a1 a2 (wf64 w1) (wf64 w2) (by decide) h1 h2 (by decide) (by decide) w L
  · exact orders_gen 32 true (by decide) a0 0 2 a1 a2 (wf64 w1) (wf64 w2) (by decide) h1 h2 (by decide) (by decide) w L
  · exact orders_gen 64 false (by decide) a0 1 0 a1 a2 (wf64 w1) (wf64 w2) (by decide) h1 h2 (by decide) (by decide) w L
  · exact orders_gen 64 true (by decide) a0 1 2 a1 a2 (wf64 w1) (wf64 w2) (by decide) h1 h2 (by decide) (by decide) w L
end Go.Proofs.YtmappfpolbkbcaaDoor
