/- The law IrWords: bounds, and rows as they are made. -/
import Derived.Test.YtbfjmhfhhlncjaaDoorIrWordsC
namespace Go.Proofs.YtbfjmhfhhlncjaaDoor
open Go.RowKit
set_option linter.unusedVariables false
set_option linter.unusedSimpArgs false

theorem i64_bd (z : Int) : I64 (IntKind.i64.wrap z) := by rw [IntKind.wrap_i64]; unfold I64; omega
theorem tmod_I64 (a b : Int) (hb : I64 b) (h0 : b ≠ 0) : I64 (a.tmod b) := by
  have h1 := Int.natAbs_tmod a b
  have h2 := Nat.mod_lt a.natAbs (show 0 < b.natAbs by omega)
  unfold I64 at *
  omega
theorem plainV_I64 (S a b : Int) (hS : 1 ≤ S ∧ S ≤ 10) (ha : I64 a) (hb : I64 b) : I64 (Wd.plainV S a b) := by
  have z0 : I64 0 := by unfold I64; omega
  by_cases hok : Wd.plainOk S a b = false
  · have : Wd.plainV S a b = 0 := by unfold Wd.plainV; rw [if_pos hok]
    rw [this]; exact z0
  have h : S = 1 ∨ S = 2 ∨ S = 3 ∨ S = 4 ∨ S = 5 ∨ S = 6 ∨ S = 7 ∨ S = 8 ∨ S = 9 ∨ S = 10 := by omega
  unfold Wd.plainV
  rw [if_neg hok]
  rcases h with rfl | rfl | rfl | rfl | rfl | rfl | rfl | rfl | rfl | rfl
  · exact wrap64_I64 _
  · exact wrap64_I64 _
  · exact wrap64_I64 _
  · exact wrap64_I64 _
  · refine tmod_I64 a b hb (fun e => hok ?_)
    rw [e]; simp [Wd.plainOk]
  · exact wrap64_I64 _
  · exact wrap64_I64 _
  · exact i64_bd _
  · exact i64_bd _
  · exact i64_bd _
theorem own_lit {w : World} {B g n : Nat} {cs : Array Value} {T : TypeId} {z : Nat} (h : w.heap[g]? = some (.cells cs T (0, 0))) (hB : B ≤ g) (hs : cs.size = n * z) (hn : n ≤ maxLen) : w.ownsRow B T z (.slice (some ⟨g, 0, none⟩) n n) n cs.toList :=
  ⟨by rw [Array.length_toList]; exact hs, .inr ⟨g, n, cs, rfl, hB, h, Nat.le_refl _, hn, hs, List.take_of_length_le (by rw [Array.length_toList]; omega)⟩⟩
end Go.Proofs.YtbfjmhfhhlncjaaDoor
