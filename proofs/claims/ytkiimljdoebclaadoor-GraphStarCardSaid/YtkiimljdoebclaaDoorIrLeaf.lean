/- What an instruction is: walk's small calls. -/
import Derived.Test.YtkiimljdoebclaaDoorIrD
namespace Go.Proofs.YtkiimljdoebclaaDoor
open Go.RowKit
set_option linter.unusedVariables false
set_option linter.unusedSimpArgs false

set_option maxHeartbeats 1600000 in
theorem calls_any (op : Int) (w : World) : Calls Tryd.prog 73 #[.int .i64 op] w fun e w' => e = .returned (.bool (callsI op)) ∧ w' = w := by
  unfold callsI
  go_enter Tryd.func73, Tryd.ntmps73
  go_wp2_with fail
  all_goals (go_returns; exact ⟨rb rfl (by simp_all), rfl⟩)
set_option maxHeartbeats 1600000 in
theorem ends_any (op : Int) (w : World) : Calls Tryd.prog 58 #[.int .i64 op] w fun e w' => e = .returned (.bool (endsI op)) ∧ w' = w := by
  unfold endsI
  go_enter Tryd.func58, Tryd.ntmps58
  go_wp2_with fail
  all_goals (go_returns; exact ⟨rb rfl (by simp_all; try omega), rfl⟩)
set_option maxHeartbeats 3200000 in
theorem readsA_any (x : Ix) (b off : Nat) (w : World) (h : x.at_ w b off) : Calls Tryd.prog 70 #[.pointer (some ⟨b, off, none⟩)] w fun e w' => e = .returned (.bool (readsAI x.op x.a)) ∧ w' = w := by
  have c0 := h 0 _ rfl
  have c3 := h 3 _ rfl
  rw [Nat.add_zero] at c0
  clear h
  obtain ⟨op, sub, d, a, bb, n, wb, ws, args, to, cs⟩ := x
  simp only at c0 c3 ⊢
  unfold readsAI
  go_enter Tryd.func70, Tryd.ntmps70
  go_wp2_with fail
  all_goals (go_returns; exact ⟨rb rfl (by simp_all), rfl⟩)
set_option maxHeartbeats 1600000 in
theorem readsB_any (x : Ix) (b off : Nat) (w : World) (h : x.at_ w b off) : Calls Tryd.prog 71 #[.pointer (some ⟨b, off, none⟩)] w fun e w' => e = .returned (.bool (readsBI x.op)) ∧ w' = w := by
  have c0 := h 0 _ rfl
  rw [Nat.add_zero] at c0
  clear h
  obtain ⟨op, sub, d, a, bb, n, wb, ws, args, to, cs⟩ := x
  simp only at c0 ⊢
  unfold readsBI
  go_enter Tryd.func71, Tryd.ntmps71
  go_wp2_with fail
  all_goals (go_returns; exact ⟨rb rfl (by simp_all), rfl⟩)
set_option maxHeartbeats 3200000 in
theorem writes_any (x : Ix) (b off : Nat) (w : World) (h : x.at_ w b off) : Calls Tryd.prog 72 #[.pointer (some ⟨b, off, none⟩)] w fun e w' => e = .returned (.bool (writesI x.op x.d)) ∧ w' = w := by
  have c0 := h 0 _ rfl
  have c2 := h 2 _ rfl
  rw [Nat.add_zero] at c0
  clear h
  obtain ⟨op, sub, d, a, bb, n, wb, ws, args, to, cs⟩ := x
  simp only at c0 c2 ⊢
  unfold writesI
  go_enter Tryd.func72, Tryd.ntmps72
  go_wp2_with fail
  all_goals (go_returns; exact ⟨rb rfl (by simp_all), rfl⟩)
end Go.Proofs.YtkiimljdoebclaaDoor
