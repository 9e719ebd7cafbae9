/- word.Is, reckons, bySign, leaves64; contracts whose answers bear names. -/
import Derived.Test.YtkjhdanfbmdmlaaDoorWordMay
import Derived.Test.YtkjhdanfbmdmlaaDoorWordWrap
import Derived.Test.YtkjhdanfbmdmlaaDoorWordPlainW
import Derived.Test.YtkjhdanfbmdmlaaDoorWordMathC
import Derived.Test.YtkjhdanfbmdmlaaDoorBaseB
namespace Go.Proofs.YtkjhdanfbmdmlaaDoor
open Go.RowKit
set_option linter.unusedVariables false
set_option linter.unusedSimpArgs false

theorem wwrap_as (b : Int) (s : Bool) (n A : Int) (hn : -9223372036854775808 ≤ n ∧ n ≤ 9223372036854775807) (HA : Hid (Wd.wrap b s n = A)) (w : World) :
    Calls Tryd.prog 18 #[.agg #[.int .i64 b, .bool s], .int .i64 n] w fun e w' => e = .returned (.int .i64 A) ∧ Gr w w' := by
  have h := wwrap b s n hn w
  rw [HA.out] at h
  exact h
theorem wplain_as (s a b N : Int) (O : Bool) (ha : -9223372036854775808 ≤ a ∧ a ≤ 9223372036854775807) (hb : -9223372036854775808 ≤ b ∧ b ≤ 9223372036854775807) (HN : Hid (Wd.plainV s a b = N)) (HO : Hid (Wd.plainOk s a b = O)) (w : World) :
    Calls Tryd.prog 12 #[.int .i64 s, .int .i64 a, .int .i64 b] w fun e w' => e = .returned (.tuple #[.int .i64 N, .bool O]) ∧ w = w' := by
  have h := wplain s a b ha hb w
  rw [HN.out, HO.out] at h
  exact h
theorem wmay_as (b : Int) (s : Bool) (B : Bool) (hb : Hid (Wd.may b = B)) (w : World) (L : Laid w) :
    Calls Tryd.prog 27 #[.agg #[.int .i64 b, .bool s]] w fun e w' => e = .returned (.bool B) ∧ Gr w w' := by
  have h := may_any b s w L
  rw [hb.out] at h
  exact h

set_option maxHeartbeats 400000 in
theorem wreck (b : Int) (s : Bool) (w : World) (L : Laid w) :
    Calls Tryd.prog 31 #[.agg #[.int .i64 b, .bool s]] w fun e w' => e = .returned (.bool (Wd.reck b)) ∧ Gr w w' := by
  rw [← Wd.reck_may]
  have HL := Lib.hid L
  clear L
  cases hm : Wd.may b
  · have HM := Lib.hid hm
    clear hm
    go_enter Tryd.func31, Tryd.ntmps31
    go_wp2_with (go_at_call 27; refine (wmay_as b s false HM _ (HL.out.gr ((Gr.refl _).alloc _ _))).mono ?_; rintro e w1 ⟨rfl, hg⟩)
    go_returns
    exact ⟨rb rfl rfl, hg.of_alloc⟩
  · have HM := Lib.hid hm
    clear hm
    by_cases h : 32 ≤ b
    · go_enter Tryd.func31, Tryd.ntmps31
      go_wp2_with (go_at_call 27; refine (wmay_as b s true HM _ (HL.out.gr ((Gr.refl _).alloc _ _))).mono ?_; rintro e w1 ⟨rfl, hg⟩; obtain ⟨a1, a2, a3, a4⟩ := hg.two (k := w.heap.size) (by first | omega | (simp; done) | (simp; omega)))
      go_returns
      exact ⟨rb rfl (by simp [h]), hg.of_alloc⟩
    · go_enter Tryd.func31, Tryd.ntmps31
      go_wp2_with (go_at_call 27; refine (wmay_as b s true HM _ (HL.out.gr ((Gr.refl _).alloc _ _))).mono ?_; rintro e w1 ⟨rfl, hg⟩; obtain ⟨a1, a2, a3, a4⟩ := hg.two (k := w.heap.size) (by first | omega | (simp; done) | (simp; omega)))
      go_returns
      exact ⟨rb rfl (by simp), hg.of_alloc⟩

set_option maxHeartbeats 400000 in
/-- word.Is where the width may be: whether Wrap leaves it. -/
theorem wis (b : Int) (s : Bool) (n A : Int) (hn : -9223372036854775808 ≤ n ∧ n ≤ 9223372036854775807) (HM : Hid (Wd.may b = true)) (HA : Hid (Wd.wrap b s n = A)) (w : World) (L : Laid w) :
    Calls Tryd.prog 19 #[.agg #[.int .i64 b, .bool s], .int .i64 n] w fun e w' => e = .returned (.bool (A == n)) ∧ Gr w w' := by
  have HL := Lib.hid L
  clear L
  go_enter Tryd.func19, Tryd.ntmps19
  go_wp2_with fail
  refine (wmay_as b s true HM _ (HL.out.gr ((Gr.refl _).alloc _ _))).mono ?_
  rintro e w1 ⟨rfl, hg⟩
  obtain ⟨a1, a2, a3, a4⟩ := hg.two (k := w.heap.size) (by first | omega | (simp; done) | (simp; omega))
  have HG := Lib.hid hg
  clear hg
  go_wp2_with fail
  refine (wwrap_as b s n A hn HA _).mono ?_
  rintro e w2 ⟨rfl, hg2⟩
  have HG2 := Lib.hid hg2
  clear hg2
  go_wp2_with fail
  all_goals go_returns
  all_goals exact ⟨rb rfl rfl, (HG.out.trans HG2.out).of_alloc⟩

set_option maxHeartbeats 400000 in
theorem wbysign (b : Int) (s : Bool) (p q : Int) (w : World) :
    Calls Tryd.prog 35 #[.agg #[.int .i64 b, .bool s], .int .i64 p, .int .i64 q] w fun e w' => e = .returned (.int .i64 (if s then p else q)) ∧ Gr w w' := by
  cases s
  all_goals
    go_enter Tryd.func35, Tryd.ntmps35
    go_wp2
    go_returns
    exact ⟨ri rfl rfl, (Gr.refl _).alloc _ _⟩
end Go.Proofs.YtkjhdanfbmdmlaaDoor
