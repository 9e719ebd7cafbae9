/- word.ring: sums, differences, products. -/
import Derived.Test.YtkjhdanfbmdmlaaDoorWordLeaves
namespace Go.Proofs.YtkjhdanfbmdmlaaDoor
open Go.RowKit
set_option linter.unusedVariables false
set_option linter.unusedSimpArgs false

set_option maxHeartbeats 800000 in
theorem wring_u (b sub x y N M : Int) (O : Bool) (hx : -9223372036854775808 ≤ x ∧ x ≤ 9223372036854775807) (hy : -9223372036854775808 ≤ y ∧ y ≤ 9223372036854775807) (hN : -9223372036854775808 ≤ N ∧ N ≤ 9223372036854775807)
    (HN : Hid (Wd.plainV sub x y = N)) (HO : Hid (Wd.plainOk sub x y = O)) (HM : Hid (Wd.wrap b false N = M)) (w : World) (L : Laid w) :
    Calls Tryd.prog 33 #[.agg #[.int .i64 b, .bool false], .int .i64 sub, .int .i64 x, .int .i64 y] w fun e w' => e = .returned (.tuple #[.int .i64 M, .bool true]) ∧ Gr w w' := by
  have HL := Lib.hid L
  clear L
  go_enter Tryd.func33, Tryd.ntmps33
  go_wp2_with fail
  refine (wplain_as sub x y N O hx hy HN HO _).mono ?_
  rintro e w1 ⟨rfl, rfl⟩
  go_wp2_with fail
  refine (wwrap_as b false N M hN HM _).mono ?_
  rintro e w1 ⟨rfl, hg⟩
  go_wp2_with fail
  go_returns
  exact ⟨rt rfl rfl rfl rfl, hg.of_alloc⟩

set_option maxHeartbeats 800000 in
theorem wring_s (b sub x y N M : Int) (O V : Bool) (hs : 1 ≤ sub) (hx : -9223372036854775808 ≤ x ∧ x ≤ 9223372036854775807) (hy : -9223372036854775808 ≤ y ∧ y ≤ 9223372036854775807) (hN : -9223372036854775808 ≤ N ∧ N ≤ 9223372036854775807)
    (HB : Hid (Wd.may b = true)) (HN : Hid (Wd.plainV sub x y = N)) (HO : Hid (Wd.plainOk sub x y = O)) (HV : Hid (Wd.leaves sub x y N = V)) (HM : Hid (Wd.wrap b true N = M)) (w : World) (L : Laid w) :
    Calls Tryd.prog 33 #[.agg #[.int .i64 b, .bool true], .int .i64 sub, .int .i64 x, .int .i64 y] w fun e w' =>
      e = .returned (.tuple #[.int .i64 (if (b == 64 && V || !(M == N)) then 0 else N), .bool !(b == 64 && V || !(M == N))]) ∧ Gr w w' := by
  have HL := Lib.hid L
  clear L
  obtain ⟨R, hR⟩ : ∃ R, (if (b == 64 && V || !(M == N)) then 0 else N) = R := ⟨_, rfl⟩
  obtain ⟨Q, hQ⟩ : ∃ Q, (!(b == 64 && V || !(M == N))) = Q := ⟨_, rfl⟩
  rw [hR, hQ]
  have HR := Lib.hid hR
  have HQ := Lib.hid hQ
  clear hR hQ
  by_cases h64 : b = 64
  · have h64b : (b == 64) = true := by simpa using h64
    have H64 := Lib.hid h64
    clear h64
    cases V
    · by_cases hm : M = N
      · have hmb : (M == N) = true := by simpa using hm
        have Hm := Lib.hid hm
        clear hm
        go_enter Tryd.func33, Tryd.ntmps33
        go_wp2_with fail
        refine (wplain_as sub x y N O hx hy HN HO _).mono ?_
        rintro e w1 ⟨rfl, rfl⟩
        go_wp2_with fail
        refine (wleaves sub hs false x y N hx hy hN _ HV).mono ?_
        rintro e w1 ⟨rfl, rfl⟩
        go_wp2_with fail
        refine (wis b true N M hN HB HM _ (HL.out.gr ((Gr.refl _).alloc _ _))).mono ?_
        rintro e w1 ⟨rfl, hg⟩
        have HG := Lib.hid hg
        clear hg
        go_wp2_with fail
        go_returns
        exact ⟨rt rfl rfl (by rw [← HR.out]; simp [hmb]) (by rw [← HQ.out]; simp [hmb]), HG.out.of_alloc⟩
      · have hmb : (M == N) = false := by simpa using hm
        have Hm := Lib.hid hm
        clear hm
        go_enter Tryd.func33, Tryd.ntmps33
        go_wp2_with fail
        refine (wplain_as sub x y N O hx hy HN HO _).mono ?_
        rintro e w1 ⟨rfl, rfl⟩
        go_wp2_with fail
        refine (wleaves sub hs false x y N hx hy hN _ HV).mono ?_
        rintro e w1 ⟨rfl, rfl⟩
        go_wp2_with fail
        refine (wis b true N M hN HB HM _ (HL.out.gr ((Gr.refl _).alloc _ _))).mono ?_
        rintro e w1 ⟨rfl, hg⟩
        have HG := Lib.hid hg
        clear hg
        go_wp2_with fail
        go_returns
        exact ⟨rt rfl rfl (by rw [← HR.out]; simp [hmb]) (by rw [← HQ.out]; simp [hmb]), HG.out.of_alloc⟩
    · go_enter Tryd.func33, Tryd.ntmps33
      go_wp2_with fail
      refine (wplain_as sub x y N O hx hy HN HO _).mono ?_
      rintro e w1 ⟨rfl, rfl⟩
      go_wp2_with fail
      refine (wleaves sub hs true x y N hx hy hN _ HV).mono ?_
      rintro e w1 ⟨rfl, rfl⟩
      go_wp2_with fail
      go_returns
      exact ⟨rt rfl rfl (by rw [← HR.out]; simp [h64b]) (by rw [← HQ.out]; simp [h64b]), (Gr.refl _).alloc _ _⟩
  · have h64b : (b == 64) = false := by simpa using h64
    have H64 := Lib.hid h64
    clear h64
    by_cases hm : M = N
    · have hmb : (M == N) = true := by simpa using hm
      have Hm := Lib.hid hm
      clear hm
      go_enter Tryd.func33, Tryd.ntmps33
      go_wp2_with fail
      refine (wplain_as sub x y N O hx hy HN HO _).mono ?_
      rintro e w1 ⟨rfl, rfl⟩
      go_wp2_with fail
      refine (wis b true N M hN HB HM _ (HL.out.gr ((Gr.refl _).alloc _ _))).mono ?_
      rintro e w1 ⟨rfl, hg⟩
      have HG := Lib.hid hg
      clear hg
      go_wp2_with fail
      go_returns
      exact ⟨rt rfl rfl (by rw [← HR.out]; simp [hmb, h64b]) (by rw [← HQ.out]; simp [hmb, h64b]), HG.out.of_alloc⟩
    · have hmb : (M == N) = false := by simpa using hm
      have Hm := Lib.hid hm
      clear hm
      go_enter Tryd.func33, Tryd.ntmps33
      go_wp2_with fail
      refine (wplain_as sub x y N O hx hy HN HO _).mono ?_
      rintro e w1 ⟨rfl, rfl⟩
      go_wp2_with fail
      refine (wis b true N M hN HB HM _ (HL.out.gr ((Gr.refl _).alloc _ _))).mono ?_
      rintro e w1 ⟨rfl, hg⟩
      have HG := Lib.hid hg
      clear hg
      go_wp2_with fail
      go_returns
      exact ⟨rt rfl rfl (by rw [← HR.out]; simp [hmb, h64b]) (by rw [← HQ.out]; simp [hmb, h64b]), HG.out.of_alloc⟩
end Go.Proofs.YtkjhdanfbmdmlaaDoor
