/- word.Negate and word.divide. -/
import Derived.Test.YtkjhdanfbmdmlaaDoorWordBin
namespace Go.Proofs.YtkjhdanfbmdmlaaDoor
open Go.RowKit
set_option linter.unusedVariables false
set_option linter.unusedSimpArgs false

set_option maxHeartbeats 400000 in
theorem wneg (b : Int) (s : Bool) (x V : Int) (O : Bool)
    (H : Hid (∀ w, Laid w → Calls Tryd.prog 10 #[.agg #[.int .i64 b, .bool s], .int .i64 2, .int .i64 0, .int .i64 x] w fun e w' => e = .returned (.tuple #[.int .i64 V, .bool O]) ∧ Gr w w')) (w : World) (L : Laid w) :
    Calls Tryd.prog 14 #[.agg #[.int .i64 b, .bool s], .int .i64 x] w fun e w' => e = .returned (.tuple #[.int .i64 V, .bool O]) ∧ Gr w w' := by
  have HL := Lib.hid L
  clear L
  go_enter Tryd.func14, Tryd.ntmps14
  go_wp2_with fail
  refine (H.out _ (HL.out.gr ((Gr.refl _).alloc _ _))).mono ?_
  rintro e w1 ⟨rfl, hg⟩
  have HG := Lib.hid hg
  clear hg
  go_wp2_with fail
  go_returns
  exact ⟨rt rfl rfl rfl rfl, HG.out.of_alloc⟩

set_option maxHeartbeats 400000 in
theorem wdiv_neg (b : Int) (rest : Bool) (x V : Int) (O : Bool)
    (H : Hid (∀ w, Laid w → Calls Tryd.prog 14 #[.agg #[.int .i64 b, .bool true], .int .i64 x] w fun e w' => e = .returned (.tuple #[.int .i64 V, .bool O]) ∧ Gr w w')) (w : World) (L : Laid w) :
    Calls Tryd.prog 34 #[.agg #[.int .i64 b, .bool true], .bool rest, .int .i64 x, .int .i64 (-1)] w fun e w' => e = .returned (.tuple #[.int .i64 (if rest then 0 else V), .bool O]) ∧ Gr w w' := by
  have HL := Lib.hid L
  clear L
  cases rest
  all_goals
    go_enter Tryd.func34, Tryd.ntmps34
    go_wp2_with fail
    refine (H.out _ (HL.out.gr ((Gr.refl _).alloc _ _))).mono ?_
    rintro e w1 ⟨rfl, hg⟩
    have HG := Lib.hid hg
    clear hg
    go_wp2_with fail
    go_returns
    exact ⟨rt rfl rfl rfl rfl, HG.out.of_alloc⟩

set_option maxHeartbeats 400000 in
theorem wdiv_pl (b : Int) (s : Bool) (rest : Bool) (x y P V : Int) (O : Bool) (hs : (s && (y == -1)) = false) (hx : -9223372036854775808 ≤ x ∧ x ≤ 9223372036854775807) (hy : -9223372036854775808 ≤ y ∧ y ≤ 9223372036854775807)
    (HP : Hid ((if rest then (if s then 5 else 7) else (if s then 4 else 6)) = P)) (HV : Hid (Wd.plainV P x y = V)) (HO : Hid (Wd.plainOk P x y = O)) (w : World) (L : Laid w) :
    Calls Tryd.prog 34 #[.agg #[.int .i64 b, .bool s], .bool rest, .int .i64 x, .int .i64 y] w fun e w' => e = .returned (.tuple #[.int .i64 V, .bool O]) ∧ Gr w w' := by
  have HL := Lib.hid L
  clear L
  cases rest
  · have HQ : Hid ((if s then (4 : Int) else 6) = P) := HP
    clear HP
    cases s
    · clear hs
      go_enter Tryd.func34, Tryd.ntmps34
      go_wp2_with fail
      refine (wbysign_as b false 4 6 P HQ _).mono ?_
      rintro e w1 ⟨rfl, hg⟩
      have HG := Lib.hid hg
      clear hg
      go_wp2_with fail
      refine (wplain_as P x y V O hx hy HV HO _).mono ?_
      rintro e w2 ⟨rfl, rfl⟩
      go_wp2_with fail
      go_returns
      exact ⟨rt rfl rfl rfl rfl, HG.out.of_alloc⟩
    · have hs' : (y == -1) = false := by simpa using hs
      clear hs
      go_enter Tryd.func34, Tryd.ntmps34
      go_wp2_with fail
      refine (wbysign_as b true 4 6 P HQ _).mono ?_
      rintro e w1 ⟨rfl, hg⟩
      have HG := Lib.hid hg
      clear hg
      go_wp2_with fail
      refine (wplain_as P x y V O hx hy HV HO _).mono ?_
      rintro e w2 ⟨rfl, rfl⟩
      go_wp2_with fail
      go_returns
      exact ⟨rt rfl rfl rfl rfl, HG.out.of_alloc⟩
  · have HQ : Hid ((if s then (5 : Int) else 7) = P) := HP
    clear HP
    cases s
    · clear hs
      go_enter Tryd.func34, Tryd.ntmps34
      go_wp2_with fail
      refine (wbysign_as b false 5 7 P HQ _).mono ?_
      rintro e w1 ⟨rfl, hg⟩
      have HG := Lib.hid hg
      clear hg
      go_wp2_with fail
      refine (wplain_as P x y V O hx hy HV HO _).mono ?_
      rintro e w2 ⟨rfl, rfl⟩
      go_wp2_with fail
      go_returns
      exact ⟨rt rfl rfl rfl rfl, HG.out.of_alloc⟩
    · have hs' : (y == -1) = false := by simpa using hs
      clear hs
      go_enter Tryd.func34, Tryd.ntmps34
      go_wp2_with fail
      refine (wbysign_as b true 5 7 P HQ _).mono ?_
      rintro e w1 ⟨rfl, hg⟩
      have HG := Lib.hid hg
      clear hg
      go_wp2_with fail
      refine (wplain_as P x y V O hx hy HV HO _).mono ?_
      rintro e w2 ⟨rfl, rfl⟩
      go_wp2_with fail
      go_returns
      exact ⟨rt rfl rfl rfl rfl, HG.out.of_alloc⟩
end Go.Proofs.YtkjhdanfbmdmlaaDoor
