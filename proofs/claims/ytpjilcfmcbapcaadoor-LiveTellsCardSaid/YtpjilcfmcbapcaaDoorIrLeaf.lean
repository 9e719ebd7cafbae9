/- What an instruction is: walk's small calls. -/
import Derived.Test.YtpjilcfmcbapcaaDoorIrD
namespace Go.Proofs.YtpjilcfmcbapcaaDoor
open Go.RowKit
set_option linter.unusedVariables false
set_option linter.unusedSimpArgs false

set_option maxHeartbeats 1600000 in
theorem calls_any (op : Int) (w : World) : Calls Tryd.prog 60 #[.int .i64 op] w fun e w' => e = .returned (.bool (callsI op)) ∧ w' = w := by
  unfold callsI
  go_enter Tryd.func60, Tryd.ntmps60
  go_wp2_with fail
  all_goals (go_returns; exact ⟨rb rfl (by simp_all), rfl⟩)
set_option maxHeartbeats 1600000 in
theorem ends_any (op : Int) (w : World) : Calls Tryd.prog 52 #[.int .i64 op] w fun e w' => e = .returned (.bool (endsI op)) ∧ w' = w := by
  unfold endsI
  go_enter Tryd.func52, Tryd.ntmps52
  go_wp2_with fail
  all_goals (go_returns; exact ⟨rb rfl (by simp_all; try omega), rfl⟩)
set_option maxHeartbeats 3200000 in
theorem readsA_any (x : Ix) (b off : Nat) (w : World) (h : x.at_ w b off) : Calls Tryd.prog 58 #[.pointer (some ⟨b, off, none⟩)] w fun e w' => e = .returned (.bool (readsAI x.op x.a)) ∧ w' = w := by
  have c0 := h 0 _ rfl
  have c3 := h 3 _ rfl
  rw [Nat.add_zero] at c0
  clear h
  obtain ⟨op, sub, d, a, bb, n, wb, ws, args, to, cs⟩ := x
  simp only at c0 c3 ⊢
  unfold readsAI
  go_enter Tryd.func58, Tryd.ntmps58
  go_wp2_with fail
  all_goals (go_returns; exact ⟨rb rfl (by simp_all), rfl⟩)
set_option maxHeartbeats 1600000 in
theorem readsB_any (x : Ix) (b off : Nat) (w : World) (h : x.at_ w b off) : Calls Tryd.prog 59 #[.pointer (some ⟨b, off, none⟩)] w fun e w' => e = .returned (.bool (readsBI x.op)) ∧ w' = w := by
  have c0 := h 0 _ rfl
  rw [Nat.add_zero] at c0
  clear h
  obtain ⟨op, sub, d, a, bb, n, wb, ws, args, to, cs⟩ := x
  simp only at c0 ⊢
  unfold readsBI
  go_enter Tryd.func59, Tryd.ntmps59
  go_wp2_with fail
  all_goals (go_returns; exact ⟨rb rfl (by simp_all), rfl⟩)
set_option maxHeartbeats 3200000 in
theorem writes_any (x : Ix) (b off : Nat) (w : World) (h : x.at_ w b off) : Calls Tryd.prog 57 #[.pointer (some ⟨b, off, none⟩)] w fun e w' => e = .returned (.bool (writesI x.op x.d)) ∧ w' = w := by
  have c0 := h 0 _ rfl
  have c2 := h 2 _ rfl
  rw [Nat.add_zero] at c0
  clear h
  obtain ⟨op, sub, d, a, bb, n, wb, ws, args, to, cs⟩ := x
  simp only at c0 c2 ⊢
  unfold writesI
  go_enter Tryd.func57, Tryd.ntmps57
  go_wp2_with fail
  all_goals (go_returns; exact ⟨rb rfl (by simp_all), rfl⟩)
set_option maxHeartbeats 3200000 in
theorem pure_any (x : Ix) (b off : Nat) (w : World) (h : x.at_ w b off) : Calls Tryd.prog 27 #[.pointer (some ⟨b, off, none⟩)] w fun e w' => e = .returned (.bool (pureI x.op x.sub)) ∧ w' = w := by
  have c0 := h 0 _ rfl
  have c1 := h 1 _ rfl
  rw [Nat.add_zero] at c0
  clear h
  obtain ⟨op, sub, d, a, bb, n, wb, ws, args, to, cs⟩ := x
  simp only at c0 c1 ⊢
  unfold pureI
  go_enter Tryd.func27, Tryd.ntmps27
  go_wp2_with fail
  all_goals (go_returns; exact ⟨rb rfl (by simp_all), rfl⟩)
/-- What fields an operation has, as the document says. -/
def hasD (op : Int) : Bool := (op == 1) || (op == 7) || (op == 8) || (op == 9) || (op == 2) || (op == 4) || (op == 5) || (op == 3) || (op == 10) || (op == 11) || (op == 12)
def hasA (op : Int) : Bool := (op == 2) || (op == 4) || (op == 5) || (op == 3) || (op == 6) || (op == 11) || (op == 13) || (op == 15) || (op == 16) || (op == 17) || (op == 18) || (op == 20)
def hasB (op : Int) : Bool := (op == 3) || (op == 6)
def hasN (op : Int) : Bool := (op == 1) || (op == 7) || (op == 8) || (op == 9) || (op == 10) || (op == 19)
theorem rt4 {v1 v2 v3 v4 : Value} {a b c d p q r s : Bool} (h1 : v1 = .bool a) (h2 : v2 = .bool b) (h3 : v3 = .bool c) (h4 : v4 = .bool d) (e1 : a = p) (e2 : b = q) (e3 : c = r) (e4 : d = s) :
    Ending.returned (.tuple #[v1, v2, v3, v4]) = .returned (.tuple #[.bool p, .bool q, .bool r, .bool s]) := by rw [h1, h2, h3, h4, e1, e2, e3, e4]
set_option maxHeartbeats 6400000 in
theorem has_any (op : Int) (w : World) : Calls Tryd.prog 49 #[.int .i64 op] w fun e w' => e = .returned (.tuple #[.bool (hasD op), .bool (hasA op), .bool (hasB op), .bool (hasN op)]) ∧ w' = w := by
  unfold hasD hasA hasB hasN
  go_enter Tryd.func49, Tryd.ntmps49
  go_wp2_with fail
  all_goals (go_returns; exact ⟨rt4 rfl rfl rfl rfl (by simp_all) (by simp_all) (by simp_all) (by simp_all), rfl⟩)
set_option maxHeartbeats 1600000 in
theorem rcalls_any (op : Int) (w : World) : Calls Tryd.prog 50 #[.int .i64 op] w fun e w' => e = .returned (.bool (callsI op)) ∧ w' = w := by
  unfold callsI
  go_enter Tryd.func50, Tryd.ntmps50
  go_wp2_with fail
  all_goals (go_returns; exact ⟨rb rfl (by simp_all), rfl⟩)
abbrev ia (x : Ix) : Value := .agg #[.int .i64 x.op, .int .i64 x.sub, .int .i64 x.d, .int .i64 x.a, .int .i64 x.b, .int .i64 x.n, .int .i64 x.wb, .bool x.ws, x.args.v, x.to.v, x.cases_.v]
set_option maxRecDepth 100000 in
set_option maxHeartbeats 3200000 in
theorem rpure_any (x : Ix) (w : World) : Calls Tryd.prog 38 #[ia x] w fun e w' => e = .returned (.bool (pureI x.op x.sub)) ∧ Keeps No w w' := by
  obtain ⟨op, sub, d, a, bb, n, wb, ws, ⟨a1, n1, c1, l1⟩, ⟨a2, n2, c2, l2⟩, ⟨a3, n3, c3, l3⟩⟩ := x
  simp only
  unfold pureI
  go_enter Tryd.func38, Tryd.ntmps38
  go_wp2_with fail
  all_goals (go_returns; exact ⟨rb rfl (by simp_all), (Keeps.refl _ _).alloc _⟩)
end Go.Proofs.YtpjilcfmcbapcaaDoor
