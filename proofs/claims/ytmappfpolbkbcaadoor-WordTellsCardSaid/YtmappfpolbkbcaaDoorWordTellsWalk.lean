/- The law WordTells returns true for every input: its walk, the four ways together. -/
import Derived.Test.YtmappfpolbkbcaaDoorWordTells32
import Derived.Test.YtmappfpolbkbcaaDoorWordTells64
import Derived.Test.YtmappfpolbkbcaaDoorWordTellsMay
import Derived.Test.YtmappfpolbkbcaaDoorWordTellsNo
namespace Go.Proofs.YtmappfpolbkbcaaDoor
open Go.RowKit
set_option linter.unusedVariables false

theorem wf64t {n : Int} (h : (Lit.int .i64 n).wf = true) : -9223372036854775808 ≤ n ∧ n ≤ 9223372036854775807 := by
  simp [Lit.wf, IntKind.min, IntKind.max, IntKind.signed, IntKind.bits] at h
  omega
theorem reck_none {b : Int} (h : ¬ b = 32) (k : ¬ b = 64) : Wd.reck b = false := by
  unfold Wd.reck
  simp [h, k]

theorem wordTells_walk (c : Int) (t : Bool) (b : Int) (s : Bool) (sub x y : Int) (w3 : (Lit.int .i64 x).wf = true) (w4 : (Lit.int .i64 y).wf = true) (w : World) (L : Laid w) :
    Calls Tryd.prog 3 #[.agg #[.int .i64 c, .bool t], .agg #[.int .i64 b, .bool s], .int .i64 sub, .int .i64 x, .int .i64 y] w fun e w' => e = .returned (.bool true) ∧ Gr w w' := by
  have hx := wf64t w3
  have hy := wf64t w4
  by_cases h32 : b = 32
  · subst h32
    exact tells_32 c 32 sub x y _ _ _ _ _ _ _ _ s t _ _ _ _ _ _ _ (by decide) (show Wd.reck 32 = true by decide) (show Wd.may 32 = true by decide) hx hy rfl rfl rfl rfl rfl rfl rfl rfl rfl rfl rfl rfl rfl (Wd.xor_64 (-1) x) rfl rfl w L
  by_cases h64 : b = 64
  · subst h64
    exact tells_64 c 64 sub x y _ _ _ _ _ _ _ _ s t _ _ _ _ _ _ _ (by decide) (by decide) (show Wd.reck 64 = true by decide) (show Wd.may 64 = true by decide) hx hy rfl rfl rfl rfl rfl rfl rfl rfl rfl rfl rfl rfl rfl (Wd.xor_64 (-1) x) rfl rfl w L
  have e32 : (b == 32) = false := by simp [h32]
  have e64 : (b == 64) = false := by simp [h64]
  have hr := reck_none h32 h64
  cases hm : Wd.may b with
  | true => exact tells_may c b sub x y _ _ _ _ _ _ s t _ _ _ _ _ _ _ e32 e64 hr hm hx hy rfl rfl rfl rfl rfl rfl rfl rfl rfl rfl rfl rfl rfl w L
  | false => exact tells_no c b sub x y _ _ _ _ _ _ s t _ _ _ _ _ _ e32 e64 hr hm hx hy rfl rfl rfl rfl rfl rfl rfl rfl rfl rfl rfl rfl w L
end Go.Proofs.YtmappfpolbkbcaaDoor
