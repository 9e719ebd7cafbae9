/- The document's own over and shift. -/
import Derived.Test.YtkjhdanfbmdmlaaDoorWordSpecB
import Derived.Test.YtkjhdanfbmdmlaaDoorWordWrap
import Derived.Test.YtkjhdanfbmdmlaaDoorWordPlainR
import Derived.Test.YtkjhdanfbmdmlaaDoorBaseC
namespace Go.Proofs.YtkjhdanfbmdmlaaDoor
open Go.RowKit
set_option linter.unusedVariables false
set_option linter.unusedSimpArgs false

theorem rwrap_as (b : Int) (s : Bool) (n A : Int) (hn : -9223372036854775808 ≤ n ∧ n ≤ 9223372036854775807) (HA : Hid (Wd.wrap b s n = A)) (w : World) :
    Calls Tryd.prog 16 #[.agg #[.int .i64 b, .bool s], .int .i64 n] w fun e w' => e = .returned (.int .i64 A) ∧ Gr w w' := by
  have h := rwrap b s n hn w
  rw [HA.out] at h
  exact h
theorem rplain_as (s a b N : Int) (O : Bool) (ha : -9223372036854775808 ≤ a ∧ a ≤ 9223372036854775807) (hb : -9223372036854775808 ≤ b ∧ b ≤ 9223372036854775807) (HN : Hid (Wd.plainV s a b = N)) (HO : Hid (Wd.plainOk s a b = O)) (w : World) :
    Calls Tryd.prog 13 #[.int .i64 s, .int .i64 a, .int .i64 b] w fun e w' => e = .returned (.tuple #[.int .i64 N, .bool O]) ∧ w = w' := by
  have h := rplain s a b ha hb w
  rw [HN.out, HO.out] at h
  exact h

/-- Does an exact answer leave 64 bits? -/
def Wd.over (sub a b : Int) : Bool := if sub = 1 ∨ sub = 2 ∨ sub = 3 then !(Wd.fits 64 (Wd.exact sub a b)) else false

section
variable (E : Bool) (a b : Int) (ha : -9223372036854775808 ≤ a ∧ a ≤ 9223372036854775807) (hb : -9223372036854775808 ≤ b ∧ b ≤ 9223372036854775807) (w : World)
include ha hb
set_option maxHeartbeats 1000000 in
theorem rover_1 (HE : Hid (Wd.over 1 a b = E)) : Calls Tryd.prog 37 #[.int .i64 1, .int .i64 a, .int .i64 b] w fun e w' => e = .returned (.bool E) ∧ w = w' := by
  have hf := Wd.fits_64 (a + b)
  have HF := Lib.hid hf
  clear hf
  go_enter Tryd.func37, Tryd.ntmps37
  go_wp2
  all_goals (go_returns; refine ⟨rb rfl ?_, rfl⟩)
  all_goals (have hf := HF.out; rw [← HE.out]; show _ = !(Wd.fits 64 (a + b)); unfold wrap64 at *; cases h : Wd.fits 64 (a + b) <;> rw [h] at hf <;> simp at hf ⊢ <;> omega)
set_option maxHeartbeats 1000000 in
theorem rover_2 (HE : Hid (Wd.over 2 a b = E)) : Calls Tryd.prog 37 #[.int .i64 2, .int .i64 a, .int .i64 b] w fun e w' => e = .returned (.bool E) ∧ w = w' := by
  have hf := Wd.fits_64 (a - b)
  have HF := Lib.hid hf
  clear hf
  go_enter Tryd.func37, Tryd.ntmps37
  go_wp2
  all_goals (go_returns; refine ⟨rb rfl ?_, rfl⟩)
  all_goals (have hf := HF.out; rw [← HE.out]; show _ = !(Wd.fits 64 (a - b)); unfold wrap64 at *; cases h : Wd.fits 64 (a - b) <;> rw [h] at hf <;> simp at hf ⊢ <;> omega)
omit ha hb in
set_option maxHeartbeats 1000000 in
theorem rover_o (sub : Int) (hs : sub < 1 ∨ 3 < sub) : Calls Tryd.prog 37 #[.int .i64 sub, .int .i64 a, .int .i64 b] w fun e w' => e = .returned (.bool false) ∧ w = w' := by
  rcases hs with hs | hs
  all_goals
    go_enter Tryd.func37, Tryd.ntmps37
    go_wp2
    all_goals (go_returns; exact ⟨rb rfl rfl, rfl⟩)
end
end Go.Proofs.YtkjhdanfbmdmlaaDoor
