/- word.May: it goes through the table of widths. -/
import Derived.Test.YtkiimljdoebclaaDoorBase
import Derived.Test.YtkiimljdoebclaaDoorWordMath
namespace Go.Proofs.YtkiimljdoebclaaDoor
open Go.RowKit

/-- The table of widths lies where the program's text lays it. -/
structure Laid (w : World) : Prop where
  z : 0 < w.heap.size
  b : ∀ k, k < 8 → w.cell? ⟨0, k * 2, none⟩ = some (.int .i64 (Wd.tabB k))
  s : ∀ k, k < 8 → w.cell? ⟨0, k * 2 + 1, none⟩ = some (.bool (Wd.tabS k))
theorem Laid.gr {w w' : World} (L : Laid w) (h : Gr w w') : Laid w' :=
  ⟨Nat.lt_of_lt_of_le L.z h.size, fun k hk => (h.cell L.z).trans (L.b k hk), fun k hk => (h.cell L.z).trans (L.s k hk)⟩

set_option maxHeartbeats 400000 in
theorem may_any (b : Int) (s : Bool) (w : World) (L : Laid w) :
    Calls Tryd.prog 62 #[.agg #[.int .i64 b, .bool s]] w fun e w' => e = .returned (.bool (Wd.may b)) ∧ Gr w w' := by
  have hz := L.z
  have HL := Lib.hid L
  clear L
  go_enter Tryd.func62, Tryd.ntmps62
  go_wp2
  go_loopw [4] (fun i wr => ∃ k : Nat, k ≤ 8 ∧ i = .int .i64 k ∧ Gr (w.alloc (.cells #[.int .i64 b, .bool s] 37)) wr ∧ ∀ j, j < k → ¬ (Wd.tabB j = b ∧ Wd.tabS j = s)) (fun i _ => 8 - (intOf i).toNat)
  case atStart => exact ⟨0, by omega, rfl, Gr.refl _, fun j hj => by omega⟩
  case round =>
    obtain ⟨k, hk, rfl, hg, hno⟩ := hrel
    have HG := Lib.hid hg
    have HN := Lib.hid hno
    clear hno
    have p0 : wr.cell? ⟨w.heap.size, 0, none⟩ = some (.int .i64 b) := by rw [hg.cell (by simp)]; simp
    have p1 : wr.cell? ⟨w.heap.size, 1, none⟩ = some (.bool s) := by rw [hg.cell (by simp)]; simp
    clear hg
    by_cases hlt : k < 8
    · have c0 : wr.cell? ⟨0, k * 2, none⟩ = some (.int .i64 (Wd.tabB k)) := (HL.out.gr HG.out.of_alloc).b k hlt
      have c1 : wr.cell? ⟨0, k * 2 + 1, none⟩ = some (.bool (Wd.tabS k)) := (HL.out.gr HG.out.of_alloc).s k hlt
      by_cases e1 : b = Wd.tabB k
      · by_cases e2 : s = Wd.tabS k
        · go_wp2
          go_region
          all_goals go_wp2
          all_goals go_ret
          all_goals exact ⟨rb rfl (Wd.tab_may k b e1.symm).symm, HG.out.of_alloc.drew⟩
        · have hn : ¬ (Wd.tabB k = b ∧ Wd.tabS k = s) := fun h => e2 h.2.symm
          have HM := Lib.hid hn
          clear hn
          go_wp2
          go_region
          all_goals go_wp2
          all_goals go_roundw
          case rel => exact ⟨k + 1, by omega, by go_num, HG.out.drew, fun j hj => by rcases Nat.lt_succ_iff_lt_or_eq.1 hj with h | h; exact HN.out j h; subst h; exact HM.out⟩
          case measure => simp [intOf]; omega
      · have hn : ¬ (Wd.tabB k = b ∧ Wd.tabS k = s) := fun h => e1 h.1.symm
        have HM := Lib.hid hn
        clear hn
        go_wp2
        go_region
        all_goals go_wp2
        all_goals go_roundw
        case rel => exact ⟨k + 1, by omega, by go_num, HG.out.drew, fun j hj => by rcases Nat.lt_succ_iff_lt_or_eq.1 hj with h | h; exact HN.out j h; subst h; exact HM.out⟩
        case measure => simp [intOf]; omega
    · have hm : Wd.may b = false := by
        cases e : Wd.may b with
        | false => rfl
        | true =>
          obtain ⟨j, hj, h1, h2⟩ := Wd.may_tab b s e
          exact absurd ⟨h1, h2⟩ (HN.out j (by omega))
      have HM := Lib.hid hm
      clear hm
      go_wp2
      go_ret
      exact ⟨rb rfl HM.out.symm, HG.out.of_alloc⟩
end Go.Proofs.YtkiimljdoebclaaDoor
