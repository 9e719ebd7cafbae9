/- word.shift. -/
import Derived.Test.YtkjhdanfbmdmlaaDoorWordRing
namespace Go.Proofs.YtkjhdanfbmdmlaaDoor
open Go.RowKit
set_option linter.unusedVariables false
set_option linter.unusedSimpArgs false

theorem wbysign_as (b : Int) (s : Bool) (p q P : Int) (HP : Hid ((if s then p else q) = P)) (w : World) :
    Calls Tryd.prog 35 #[.agg #[.int .i64 b, .bool s], .int .i64 p, .int .i64 q] w fun e w' => e = .returned (.int .i64 P) ∧ Gr w w' := by
  have h := wbysign b s p q w
  rw [HP.out] at h
  exact h

set_option maxHeartbeats 400000 in
theorem wshift_out (b : Int) (s : Bool) (sub x y : Int) (h : y < 0 ∨ b ≤ y) (w : World) :
    Calls Tryd.prog 32 #[.agg #[.int .i64 b, .bool s], .int .i64 sub, .int .i64 x, .int .i64 y] w fun e w' => e = .returned (.tuple #[.int .i64 0, .bool false]) ∧ Gr w w' := by
  by_cases h1 : y < 0
  · clear h
    go_enter Tryd.func32, Tryd.ntmps32
    go_wp2
    go_returns
    exact ⟨rt rfl rfl rfl rfl, (Gr.refl _).alloc _ _⟩
  · have h2 : b ≤ y := by omega
    clear h
    go_enter Tryd.func32, Tryd.ntmps32
    go_wp2
    go_returns
    exact ⟨rt rfl rfl rfl rfl, (Gr.refl _).alloc _ _⟩

set_option maxHeartbeats 400000 in
theorem wshift_r (b : Int) (s : Bool) (sub x y N P : Int) (O : Bool) (HP : Hid ((if s then 13 else 12) = P)) (hs : sub = 12 ∨ sub = 13) (h0 : 0 ≤ y) (h1 : y < b) (hx : -9223372036854775808 ≤ x ∧ x ≤ 9223372036854775807) (hy : -9223372036854775808 ≤ y ∧ y ≤ 9223372036854775807)
    (HN : Hid (Wd.plainV P x y = N)) (HO : Hid (Wd.plainOk P x y = O)) (w : World) :
    Calls Tryd.prog 32 #[.agg #[.int .i64 b, .bool s], .int .i64 sub, .int .i64 x, .int .i64 y] w fun e w' => e = .returned (.tuple #[.int .i64 N, .bool O]) ∧ Gr w w' := by
  rcases hs with rfl | rfl
  all_goals
    go_enter Tryd.func32, Tryd.ntmps32
    go_wp2_with fail
    refine (wbysign_as b s 13 12 P HP _).mono ?_
    rintro e w1 ⟨rfl, hg⟩
    have HG := Lib.hid hg
    clear hg
    go_wp2_with fail
    refine (wplain_as _ x y N O hx hy HN HO _).mono ?_
    rintro e w2 ⟨rfl, rfl⟩
    go_wp2_with fail
    go_returns
    exact ⟨rt rfl rfl rfl rfl, HG.out.of_alloc⟩

set_option maxHeartbeats 400000 in
theorem wshift_lu (b : Int) (x y N M : Int) (h0 : 0 ≤ y) (h1 : y < b) (hb : b = 32 ∨ b = 64) (hx : -9223372036854775808 ≤ x ∧ x ≤ 9223372036854775807) (hN : -9223372036854775808 ≤ N ∧ N ≤ 9223372036854775807)
    (HN : Hid (wrap64 (x * 2 ^ y.toNat) = N)) (HM : Hid (Wd.wrap b false N = M)) (w : World) :
    Calls Tryd.prog 32 #[.agg #[.int .i64 b, .bool false], .int .i64 11, .int .i64 x, .int .i64 y] w fun e w' => e = .returned (.tuple #[.int .i64 M, .bool true]) ∧ Gr w w' := by
  have hy : y ≤ 63 := by omega
  have HB := Lib.hid hb
  clear hb
  go_enter Tryd.func32, Tryd.ntmps32
  go_wp2_with fail
  rw [HN.out]
  refine (wwrap_as b false N M hN HM _).mono ?_
  rintro e w1 ⟨rfl, hg⟩
  obtain ⟨a1, a2, a3, a4⟩ := hg.two (k := w.heap.size) (by first | omega | (simp; done) | (simp; omega))
  have HG := Lib.hid hg
  clear hg
  go_wp2_with fail
  go_returns
  exact ⟨rt rfl rfl rfl rfl, HG.out.of_alloc⟩

set_option maxHeartbeats 400000 in
theorem wshift_neg (b : Int) (x y N M : Int) (h0 : 0 ≤ y) (h1 : y < b) (hb : b = 32 ∨ b = 64) (hneg : x < 0) (hx : -9223372036854775808 ≤ x ∧ x ≤ 9223372036854775807) (hN : -9223372036854775808 ≤ N ∧ N ≤ 9223372036854775807)
    (HN : Hid (wrap64 (x * 2 ^ y.toNat) = N)) (HM : Hid (Wd.wrap b true N = M)) (w : World) :
    Calls Tryd.prog 32 #[.agg #[.int .i64 b, .bool true], .int .i64 11, .int .i64 x, .int .i64 y] w fun e w' => e = .returned (.tuple #[.int .i64 0, .bool false]) ∧ Gr w w' := by
  have hy : y ≤ 63 := by omega
  have HB := Lib.hid hb
  clear hb
  go_enter Tryd.func32, Tryd.ntmps32
  go_wp2_with fail
  rw [HN.out]
  refine (wwrap_as b true N M hN HM _).mono ?_
  rintro e w1 ⟨rfl, hg⟩
  obtain ⟨a1, a2, a3, a4⟩ := hg.two (k := w.heap.size) (by first | omega | (simp; done) | (simp; omega))
  have HG := Lib.hid hg
  clear hg
  go_wp2_with fail
  go_returns
  exact ⟨rt rfl rfl rfl rfl, HG.out.of_alloc⟩

set_option maxHeartbeats 400000 in
theorem wshift_ls (b : Int) (x y N M K : Int) (E : Bool) (h0 : 0 ≤ y) (h1 : y < b) (hb : b = 32 ∨ b = 64) (hpos : 0 ≤ x) (hx : -9223372036854775808 ≤ x ∧ x ≤ 9223372036854775807) (hN : -9223372036854775808 ≤ N ∧ N ≤ 9223372036854775807)
    (HN : Hid (wrap64 (x * 2 ^ y.toNat) = N)) (HM : Hid (Wd.wrap b true N = M)) (HK : Hid (M / 2 ^ y.toNat = K)) (he : (K != x) = E) (w : World) :
    Calls Tryd.prog 32 #[.agg #[.int .i64 b, .bool true], .int .i64 11, .int .i64 x, .int .i64 y] w fun e w' => e = .returned (.tuple #[.int .i64 (if E then 0 else M), .bool (!E)]) ∧ Gr w w' := by
  have hy : y ≤ 63 := by omega
  have HB := Lib.hid hb
  clear hb
  cases E
  all_goals
    go_enter Tryd.func32, Tryd.ntmps32
    go_wp2_with fail
    rw [HN.out]
    refine (wwrap_as b true N M hN HM _).mono ?_
    rintro e w1 ⟨rfl, hg⟩
    obtain ⟨a1, a2, a3, a4⟩ := hg.two (k := w.heap.size) (by first | omega | (simp; done) | (simp; omega))
    have HG := Lib.hid hg
    clear hg
    have hk := HK.out
    go_wp2_with fail
    go_returns
    exact ⟨rt rfl rfl rfl rfl, HG.out.of_alloc⟩
end Go.Proofs.YtkjhdanfbmdmlaaDoor
