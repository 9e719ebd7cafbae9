/- word.May with its world told outright: a box, and so many draws. -/
import Derived.Test.YtkjhdanfbmdmlaaDoorWordMay
import Derived.Test.YtkjhdanfbmdmlaaDoorBaseC
namespace Go.Proofs.YtkjhdanfbmdmlaaDoor
open Go.RowKit
set_option linter.unusedVariables false

set_option maxHeartbeats 400000 in
theorem may_x (b : Int) (s : Bool) (w : World) (L : Laid w) :
    Calls Tryd.prog 27 #[.agg #[.int .i64 b, .bool s]] w fun e w' => e = .returned (.bool (Wd.may b)) ∧ Drawn (w.alloc (.cells #[.int .i64 b, .bool s] 23)) w' := by
  have hz := L.z
  have HL := Lib.hid L
  clear L
  go_enter Tryd.func27, Tryd.ntmps27
  go_wp2
  go_loopw [4] (fun i wr => ∃ k n : Nat, k ≤ 8 ∧ i = .int .i64 k ∧ wr = (w.alloc (.cells #[.int .i64 b, .bool s] 23)).drewN n ∧ ∀ j, j < k → ¬ (Wd.tabB j = b ∧ Wd.tabS j = s)) (fun i _ => 8 - (intOf i).toNat)
  case atStart => exact ⟨0, 0, by omega, rfl, rfl, fun j hj => by omega⟩
  case round =>
    obtain ⟨k, n, hk, rfl, rfl, hno⟩ := hrel
    have HN := Lib.hid hno
    clear hno
    by_cases hlt : k < 8
    · have c0 : w.cell? ⟨0, k * 2, none⟩ = some (.int .i64 (Wd.tabB k)) := HL.out.b k hlt
      have c1 : w.cell? ⟨0, k * 2 + 1, none⟩ = some (.bool (Wd.tabS k)) := HL.out.s k hlt
      by_cases e1 : b = Wd.tabB k
      · by_cases e2 : s = Wd.tabS k
        · go_wp2
          go_region
          all_goals go_wp2
          all_goals go_ret
          all_goals exact ⟨rb rfl (Wd.tab_may k b e1.symm).symm, ⟨_, by rw [e1, e2]⟩⟩
        · have hn : ¬ (Wd.tabB k = b ∧ Wd.tabS k = s) := fun h => e2 h.2.symm
          have HM := Lib.hid hn
          clear hn
          go_wp2
          go_region
          all_goals go_wp2
          all_goals go_roundw
          case rel => exact ⟨k + 1, n + 1, by omega, by go_num, by rw [e1], fun j hj => by rcases Nat.lt_succ_iff_lt_or_eq.1 hj with h | h; exact HN.out j h; subst h; exact HM.out⟩
          case measure => simp [intOf]; omega
      · have hn : ¬ (Wd.tabB k = b ∧ Wd.tabS k = s) := fun h => e1 h.1.symm
        have HM := Lib.hid hn
        clear hn
        go_wp2
        go_region
        all_goals go_wp2
        all_goals go_roundw
        case rel => exact ⟨k + 1, n + 1, by omega, by go_num, rfl, fun j hj => by rcases Nat.lt_succ_iff_lt_or_eq.1 hj with h | h; exact HN.out j h; subst h; exact HM.out⟩
        case measure => simp [intOf]; omega
    · have hm : Wd.may b = false := by
        cases e : Wd.may b with
        | false => rfl
        | true =>
          obtain ⟨j, hj, h1, h2⟩ := Wd.may_tab b s e
          exact absurd ⟨h1, h2⟩ (HN.out j (by omega))
      have HM := Lib.hid hm
      clear hm
      go_wp2
      go_ret
      exact ⟨rb rfl HM.out.symm, ⟨_, rfl⟩⟩
theorem may_xas (b : Int) (s : Bool) (B : Bool) (hb : Hid (Wd.may b = B)) (w : World) (L : Laid w) :
    Calls Tryd.prog 27 #[.agg #[.int .i64 b, .bool s]] w fun e w' => e = .returned (.bool B) ∧ Drawn (w.alloc (.cells #[.int .i64 b, .bool s] 23)) w' := by
  have h := may_x b s w L
  rw [hb.out] at h
  exact h
end Go.Proofs.YtkjhdanfbmdmlaaDoor
