/- The document's own Binary: which way it takes. -/
import Derived.Test.YtkjhdanfbmdmlaaDoorWordRefB
import Derived.Deep.DeepCutAuto
namespace Go.Proofs.YtkjhdanfbmdmlaaDoor
open Go.RowKit
set_option linter.unusedVariables false
set_option linter.unusedSimpArgs false

set_option maxRecDepth 100000 in
set_option maxHeartbeats 4000000 in
theorem rbin_t11 (b : Int) (x y A : Int) (hb : b = 32 ∨ b = 64) (hx : -9223372036854775808 ≤ x ∧ x ≤ 9223372036854775807) (hy : -9223372036854775808 ≤ y ∧ y ≤ 9223372036854775807) (HA : Hid (Wd.wrap b true x = A)) (V : Int) (O : Bool) (H : Hid (∀ w, Calls Tryd.prog 36 #[.agg #[.int .i64 b, .bool true], .bool true, .int .i64 A, .int .i64 y] w fun e w' => e = .returned (.tuple #[.int .i64 V, .bool O]) ∧ Gr w w')) (w : World) :
    Calls Tryd.prog 11 #[.agg #[.int .i64 b, .bool true], .int .i64 11, .int .i64 x, .int .i64 y] w fun e w' => e = .returned (.tuple #[.int .i64 V, .bool O]) ∧ Gr w w' := by
  have Hb := Lib.hid hb
  clear hb
  go_enter Tryd.func11, Tryd.ntmps11
  go_upto_region 1 with fail
  go_cut [27] (fun v27 wx => v27 = .bool false ∧ wx = w.alloc (.cells #[.int .i64 b, .bool true] 23))
  case first =>
    rcases Hb.out with rfl | rfl
    all_goals go_wp2_with fail
    all_goals go_meet
    all_goals first | exact ⟨rfl, rfl⟩ | exact ⟨by rw [decide_eq_false (by omega), decide_eq_false (by omega)]; rfl, rfl⟩
  case rest =>
    obtain ⟨rfl, rfl⟩ := hcut
    go_wp2_with fail
    refine (rwrap_as b true x A hx HA _).mono ?_
    rintro e w2 ⟨rfl, hg⟩
    obtain ⟨a1, a2, a3, a4⟩ := hg.two (k := w.heap.size) (by first | omega | (simp; done) | (simp; omega))
    have hz : w.heap.size < w2.heap.size := by have := hg.size; first | omega | (simp at this; omega)
    have HG := Lib.hid hg.of_alloc
    clear hg a3 a4
    go_wp2_with fail
    refine (H.out _).mono ?_
    rintro e w4 ⟨rfl, hg⟩
    have HG4 := Lib.hid (HG.out.trans hg)
    clear hg HG
    go_wp2_with fail
    go_returns
    exact ⟨rt rfl rfl rfl rfl, HG4.out⟩


set_option maxRecDepth 100000 in
set_option maxHeartbeats 4000000 in
theorem rbin_tr1_over (sub : Int) (hs : 1 ≤ sub ∧ sub ≤ 3) (b : Int) (x y A : Int) (hb : b = 32 ∨ b = 64) (hx : -9223372036854775808 ≤ x ∧ x ≤ 9223372036854775807) (hy : -9223372036854775808 ≤ y ∧ y ≤ 9223372036854775807) (HA : Hid (Wd.wrap b true x = A)) (B : Int) (HB : Hid (Wd.wrap b true y = B)) (hA : -9223372036854775808 ≤ A ∧ A ≤ 9223372036854775807) (hB : -9223372036854775808 ≤ B ∧ B ≤ 9223372036854775807) (HV : Hid (Wd.over sub A B = true)) (w : World) :
    Calls Tryd.prog 11 #[.agg #[.int .i64 b, .bool true], .int .i64 sub, .int .i64 x, .int .i64 y] w fun e w' => e = .returned (.tuple #[.int .i64 0, .bool false]) ∧ Gr w w' := by
  have e11 : (sub == 11) = false := by rw [beq_eq_false_iff_ne]; omega
  have e12 : (sub == 12) = false := by rw [beq_eq_false_iff_ne]; omega
  have e13 : (sub == 13) = false := by rw [beq_eq_false_iff_ne]; omega
  have e5 : (sub == 5) = false := by rw [beq_eq_false_iff_ne]; omega
  have Hb := Lib.hid hb
  clear hb
  go_enter Tryd.func11, Tryd.ntmps11
  go_upto_region 1 with fail
  go_cut [27] (fun v27 wx => v27 = .bool false ∧ wx = w.alloc (.cells #[.int .i64 b, .bool true] 23))
  case first =>
    rcases Hb.out with rfl | rfl
    all_goals go_wp2_with fail
    all_goals go_meet
    all_goals first | exact ⟨rfl, rfl⟩ | exact ⟨by rw [decide_eq_false (by omega), decide_eq_false (by omega)]; rfl, rfl⟩
  case rest =>
    obtain ⟨rfl, rfl⟩ := hcut
    go_wp2_with fail
    refine (rwrap_as b true x A hx HA _).mono ?_
    rintro e w2 ⟨rfl, hg⟩
    obtain ⟨a1, a2, a3, a4⟩ := hg.two (k := w.heap.size) (by first | omega | (simp; done) | (simp; omega))
    have hz : w.heap.size < w2.heap.size := by have := hg.size; first | omega | (simp at this; omega)
    have HG := Lib.hid hg.of_alloc
    clear hg a3 a4
    go_wp2_with fail
    refine (rwrap_as b true y B hy HB _).mono ?_
    rintro e w3 ⟨rfl, hg⟩
    obtain ⟨c1, c2, c3, c4⟩ := hg.two hz
    have hz3 : w.heap.size < w3.heap.size := by have := hg.size; omega
    rw [a1] at c1
    rw [a2] at c2
    have HG3 := Lib.hid (HG.out.trans hg)
    clear hg a1 a2 c3 c4 HG hz
    go_wp2_with fail
    refine (rover sub true A B hA hB HV _).mono ?_
    rintro e w4 ⟨rfl, rfl⟩
    go_wp2_with fail
    go_returns
    exact ⟨rt rfl rfl rfl rfl, HG3.out⟩


set_option maxRecDepth 100000 in
set_option maxHeartbeats 4000000 in
theorem rbin_tr8_ok (sub : Int) (hs : 8 ≤ sub ∧ sub ≤ 10) (b : Int) (x y A : Int) (hb : b = 32 ∨ b = 64) (hx : -9223372036854775808 ≤ x ∧ x ≤ 9223372036854775807) (hy : -9223372036854775808 ≤ y ∧ y ≤ 9223372036854775807) (HA : Hid (Wd.wrap b true x = A)) (B : Int) (HB : Hid (Wd.wrap b true y = B)) (hA : -9223372036854775808 ≤ A ∧ A ≤ 9223372036854775807) (hB : -9223372036854775808 ≤ B ∧ B ≤ 9223372036854775807) (HV : Hid (Wd.over sub A B = false)) (N : Int) (HN : Hid (Wd.plainV sub A B = N)) (HO : Hid (Wd.plainOk sub A B = true)) (M : Int) (hN : -9223372036854775808 ≤ N ∧ N ≤ 9223372036854775807) (HM : Hid (Wd.wrap b true N = M)) (hMN : (M != N) = false) (w : World) :
    Calls Tryd.prog 11 #[.agg #[.int .i64 b, .bool true], .int .i64 sub, .int .i64 x, .int .i64 y] w fun e w' => e = .returned (.tuple #[.int .i64 M, .bool true]) ∧ Gr w w' := by
  have e11 : (sub == 11) = false := by rw [beq_eq_false_iff_ne]; omega
  have e12 : (sub == 12) = false := by rw [beq_eq_false_iff_ne]; omega
  have e13 : (sub == 13) = false := by rw [beq_eq_false_iff_ne]; omega
  have e5 : (sub == 5) = false := by rw [beq_eq_false_iff_ne]; omega
  have Hb := Lib.hid hb
  clear hb
  go_enter Tryd.func11, Tryd.ntmps11
  go_upto_region 1 with fail
  go_cut [27] (fun v27 wx => v27 = .bool false ∧ wx = w.alloc (.cells #[.int .i64 b, .bool true] 23))
  case first =>
    rcases Hb.out with rfl | rfl
    all_goals go_wp2_with fail
    all_goals go_meet
    all_goals first | exact ⟨rfl, rfl⟩ | exact ⟨by rw [decide_eq_false (by omega), decide_eq_false (by omega)]; rfl, rfl⟩
  case rest =>
    obtain ⟨rfl, rfl⟩ := hcut
    go_wp2_with fail
    refine (rwrap_as b true x A hx HA _).mono ?_
    rintro e w2 ⟨rfl, hg⟩
    obtain ⟨a1, a2, a3, a4⟩ := hg.two (k := w.heap.size) (by first | omega | (simp; done) | (simp; omega))
    have hz : w.heap.size < w2.heap.size := by have := hg.size; first | omega | (simp at this; omega)
    have HG := Lib.hid hg.of_alloc
    clear hg a3 a4
    go_wp2_with fail
    refine (rwrap_as b true y B hy HB _).mono ?_
    rintro e w3 ⟨rfl, hg⟩
    obtain ⟨c1, c2, c3, c4⟩ := hg.two hz
    have hz3 : w.heap.size < w3.heap.size := by have := hg.size; omega
    rw [a1] at c1
    rw [a2] at c2
    have HG3 := Lib.hid (HG.out.trans hg)
    clear hg a1 a2 c3 c4 HG hz
    go_wp2_with fail
    refine (rover sub false A B hA hB HV _).mono ?_
    rintro e w4 ⟨rfl, rfl⟩
    go_wp2_with fail
    refine (rplain_as sub A B N true hA hB HN HO _).mono ?_
    rintro e w6 ⟨rfl, rfl⟩
    go_wp2_with fail
    refine (rwrap_as b true N M hN HM _).mono ?_
    rintro e v3 ⟨rfl, hg⟩
    obtain ⟨d1, d2, d3, d4⟩ := hg.two hz3
    have hz4 : w.heap.size < v3.heap.size := by have := hg.size; omega
    rw [c1] at d1
    rw [c2] at d2
    have HG4 := Lib.hid (HG3.out.trans hg)
    clear hg c1 c2 d3 d4 HG3
    go_wp2_with fail
    refine (rwrap_as b true N M hN HM _).mono ?_
    rintro e v4 ⟨rfl, hg⟩
    obtain ⟨g1, g2, g3, g4⟩ := hg.two hz4
    have hz5 : w.heap.size < v4.heap.size := by have := hg.size; omega
    rw [d1] at g1
    rw [d2] at g2
    have HG5 := Lib.hid (HG4.out.trans hg)
    clear hg d1 d2 g3 g4 HG4
    go_wp2_with fail
    go_returns
    exact ⟨rt rfl rfl rfl rfl, HG5.out⟩


set_option maxRecDepth 100000 in
set_option maxHeartbeats 4000000 in
theorem rbin_t4_wrap (b : Int) (x y A : Int) (hb : b = 32 ∨ b = 64) (hx : -9223372036854775808 ≤ x ∧ x ≤ 9223372036854775807) (hy : -9223372036854775808 ≤ y ∧ y ≤ 9223372036854775807) (HA : Hid (Wd.wrap b true x = A)) (B : Int) (HB : Hid (Wd.wrap b true y = B)) (hA : -9223372036854775808 ≤ A ∧ A ≤ 9223372036854775807) (hB : -9223372036854775808 ≤ B ∧ B ≤ 9223372036854775807) (HV : Hid (Wd.over 4 A B = false)) (N : Int) (HN : Hid (Wd.plainV 4 A B = N)) (HO : Hid (Wd.plainOk 4 A B = true)) (M : Int) (hN : -9223372036854775808 ≤ N ∧ N ≤ 9223372036854775807) (HM : Hid (Wd.wrap b true N = M)) (hMN : (M != N) = true) (w : World) :
    Calls Tryd.prog 11 #[.agg #[.int .i64 b, .bool true], .int .i64 4, .int .i64 x, .int .i64 y] w fun e w' => e = .returned (.tuple #[.int .i64 0, .bool false]) ∧ Gr w w' := by
  have Hb := Lib.hid hb
  clear hb
  go_enter Tryd.func11, Tryd.ntmps11
  go_upto_region 1 with fail
  go_cut [27] (fun v27 wx => v27 = .bool false ∧ wx = w.alloc (.cells #[.int .i64 b, .bool true] 23))
  case first =>
    rcases Hb.out with rfl | rfl
    all_goals go_wp2_with fail
    all_goals go_meet
    all_goals first | exact ⟨rfl, rfl⟩ | exact ⟨by rw [decide_eq_false (by omega), decide_eq_false (by omega)]; rfl, rfl⟩
  case rest =>
    obtain ⟨rfl, rfl⟩ := hcut
    go_wp2_with fail
    refine (rwrap_as b true x A hx HA _).mono ?_
    rintro e w2 ⟨rfl, hg⟩
    obtain ⟨a1, a2, a3, a4⟩ := hg.two (k := w.heap.size) (by first | omega | (simp; done) | (simp; omega))
    have hz : w.heap.size < w2.heap.size := by have := hg.size; first | omega | (simp at this; omega)
    have HG := Lib.hid hg.of_alloc
    clear hg a3 a4
    go_wp2_with fail
    refine (rwrap_as b true y B hy HB _).mono ?_
    rintro e w3 ⟨rfl, hg⟩
    obtain ⟨c1, c2, c3, c4⟩ := hg.two hz
    have hz3 : w.heap.size < w3.heap.size := by have := hg.size; omega
    rw [a1] at c1
    rw [a2] at c2
    have HG3 := Lib.hid (HG.out.trans hg)
    clear hg a1 a2 c3 c4 HG hz
    go_wp2_with fail
    refine (rover 4 false A B hA hB HV _).mono ?_
    rintro e w4 ⟨rfl, rfl⟩
    go_wp2_with fail
    refine (rplain_as 4 A B N true hA hB HN HO _).mono ?_
    rintro e w6 ⟨rfl, rfl⟩
    go_wp2_with fail
    refine (rwrap_as b true N M hN HM _).mono ?_
    rintro e v3 ⟨rfl, hg⟩
    obtain ⟨d1, d2, d3, d4⟩ := hg.two hz3
    have hz4 : w.heap.size < v3.heap.size := by have := hg.size; omega
    rw [c1] at d1
    rw [c2] at d2
    have HG4 := Lib.hid (HG3.out.trans hg)
    clear hg c1 c2 d3 d4 HG3
    go_wp2_with fail
    go_returns
    exact ⟨rt rfl rfl rfl rfl, HG4.out⟩


set_option maxRecDepth 100000 in
set_option maxHeartbeats 4000000 in
theorem rbin_t6_wrap (b : Int) (x y A : Int) (hb : b = 32 ∨ b = 64) (hx : -9223372036854775808 ≤ x ∧ x ≤ 9223372036854775807) (hy : -9223372036854775808 ≤ y ∧ y ≤ 9223372036854775807) (HA : Hid (Wd.wrap b true x = A)) (B : Int) (HB : Hid (Wd.wrap b true y = B)) (hA : -9223372036854775808 ≤ A ∧ A ≤ 9223372036854775807) (hB : -9223372036854775808 ≤ B ∧ B ≤ 9223372036854775807) (HV : Hid (Wd.over 4 A B = false)) (N : Int) (HN : Hid (Wd.plainV 4 A B = N)) (HO : Hid (Wd.plainOk 4 A B = true)) (M : Int) (hN : -9223372036854775808 ≤ N ∧ N ≤ 9223372036854775807) (HM : Hid (Wd.wrap b true N = M)) (hMN : (M != N) = true) (w : World) :
    Calls Tryd.prog 11 #[.agg #[.int .i64 b, .bool true], .int .i64 6, .int .i64 x, .int .i64 y] w fun e w' => e = .returned (.tuple #[.int .i64 0, .bool false]) ∧ Gr w w' := by
  have Hb := Lib.hid hb
  clear hb
  go_enter Tryd.func11, Tryd.ntmps11
  go_upto_region 1 with fail
  go_cut [27] (fun v27 wx => v27 = .bool false ∧ wx = w.alloc (.cells #[.int .i64 b, .bool true] 23))
  case first =>
    rcases Hb.out with rfl | rfl
    all_goals go_wp2_with fail
    all_goals go_meet
    all_goals first | exact ⟨rfl, rfl⟩ | exact ⟨by rw [decide_eq_false (by omega), decide_eq_false (by omega)]; rfl, rfl⟩
  case rest =>
    obtain ⟨rfl, rfl⟩ := hcut
    go_wp2_with fail
    refine (rwrap_as b true x A hx HA _).mono ?_
    rintro e w2 ⟨rfl, hg⟩
    obtain ⟨a1, a2, a3, a4⟩ := hg.two (k := w.heap.size) (by first | omega | (simp; done) | (simp; omega))
    have hz : w.heap.size < w2.heap.size := by have := hg.size; first | omega | (simp at this; omega)
    have HG := Lib.hid hg.of_alloc
    clear hg a3 a4
    go_wp2_with fail
    refine (rwrap_as b true y B hy HB _).mono ?_
    rintro e w3 ⟨rfl, hg⟩
    obtain ⟨c1, c2, c3, c4⟩ := hg.two hz
    have hz3 : w.heap.size < w3.heap.size := by have := hg.size; omega
    rw [a1] at c1
    rw [a2] at c2
    have HG3 := Lib.hid (HG.out.trans hg)
    clear hg a1 a2 c3 c4 HG hz
    go_wp2_with fail
    refine (rover 4 false A B hA hB HV _).mono ?_
    rintro e w4 ⟨rfl, rfl⟩
    go_wp2_with fail
    refine (rplain_as 4 A B N true hA hB HN HO _).mono ?_
    rintro e w6 ⟨rfl, rfl⟩
    go_wp2_with fail
    refine (rwrap_as b true N M hN HM _).mono ?_
    rintro e v3 ⟨rfl, hg⟩
    obtain ⟨d1, d2, d3, d4⟩ := hg.two hz3
    have hz4 : w.heap.size < v3.heap.size := by have := hg.size; omega
    rw [c1] at d1
    rw [c2] at d2
    have HG4 := Lib.hid (HG3.out.trans hg)
    clear hg c1 c2 d3 d4 HG3
    go_wp2_with fail
    go_returns
    exact ⟨rt rfl rfl rfl rfl, HG4.out⟩


set_option maxRecDepth 100000 in
set_option maxHeartbeats 4000000 in
theorem rbin_t5_nok (b : Int) (x y A : Int) (hb : b = 32 ∨ b = 64) (hx : -9223372036854775808 ≤ x ∧ x ≤ 9223372036854775807) (hy : -9223372036854775808 ≤ y ∧ y ≤ 9223372036854775807) (HA : Hid (Wd.wrap b true x = A)) (B : Int) (HB : Hid (Wd.wrap b true y = B)) (hA : -9223372036854775808 ≤ A ∧ A ≤ 9223372036854775807) (hB : -9223372036854775808 ≤ B ∧ B ≤ 9223372036854775807) (HV : Hid (Wd.over 5 A B = false)) (hb1 : (B == -1) = false) (N : Int) (HN : Hid (Wd.plainV 5 A B = N)) (HO : Hid (Wd.plainOk 5 A B = true)) (M : Int) (hN : -9223372036854775808 ≤ N ∧ N ≤ 9223372036854775807) (HM : Hid (Wd.wrap b true N = M)) (hMN : (M != N) = false) (w : World) :
    Calls Tryd.prog 11 #[.agg #[.int .i64 b, .bool true], .int .i64 5, .int .i64 x, .int .i64 y] w fun e w' => e = .returned (.tuple #[.int .i64 M, .bool true]) ∧ Gr w w' := by
  have Hb := Lib.hid hb
  clear hb
  go_enter Tryd.func11, Tryd.ntmps11
  go_upto_region 1 with fail
  go_cut [27] (fun v27 wx => v27 = .bool false ∧ wx = w.alloc (.cells #[.int .i64 b, .bool true] 23))
  case first =>
    rcases Hb.out with rfl | rfl
    all_goals go_wp2_with fail
    all_goals go_meet
    all_goals first | exact ⟨rfl, rfl⟩ | exact ⟨by rw [decide_eq_false (by omega), decide_eq_false (by omega)]; rfl, rfl⟩
  case rest =>
    obtain ⟨rfl, rfl⟩ := hcut
    go_wp2_with fail
    refine (rwrap_as b true x A hx HA _).mono ?_
    rintro e w2 ⟨rfl, hg⟩
    obtain ⟨a1, a2, a3, a4⟩ := hg.two (k := w.heap.size) (by first | omega | (simp; done) | (simp; omega))
    have hz : w.heap.size < w2.heap.size := by have := hg.size; first | omega | (simp at this; omega)
    have HG := Lib.hid hg.of_alloc
    clear hg a3 a4
    go_wp2_with fail
    refine (rwrap_as b true y B hy HB _).mono ?_
    rintro e w3 ⟨rfl, hg⟩
    obtain ⟨c1, c2, c3, c4⟩ := hg.two hz
    have hz3 : w.heap.size < w3.heap.size := by have := hg.size; omega
    rw [a1] at c1
    rw [a2] at c2
    have HG3 := Lib.hid (HG.out.trans hg)
    clear hg a1 a2 c3 c4 HG hz
    go_wp2_with fail
    refine (rover 5 false A B hA hB HV _).mono ?_
    rintro e w4 ⟨rfl, rfl⟩
    go_wp2_with fail
    refine (rplain_as 5 A B N true hA hB HN HO _).mono ?_
    rintro e w6 ⟨rfl, rfl⟩
    go_wp2_with fail
    refine (rwrap_as b true N M hN HM _).mono ?_
    rintro e v3 ⟨rfl, hg⟩
    obtain ⟨d1, d2, d3, d4⟩ := hg.two hz3
    have hz4 : w.heap.size < v3.heap.size := by have := hg.size; omega
    rw [c1] at d1
    rw [c2] at d2
    have HG4 := Lib.hid (HG3.out.trans hg)
    clear hg c1 c2 d3 d4 HG3
    go_wp2_with fail
    refine (rwrap_as b true N M hN HM _).mono ?_
    rintro e v4 ⟨rfl, hg⟩
    obtain ⟨g1, g2, g3, g4⟩ := hg.two hz4
    have hz5 : w.heap.size < v4.heap.size := by have := hg.size; omega
    rw [d1] at g1
    rw [d2] at g2
    have HG5 := Lib.hid (HG4.out.trans hg)
    clear hg d1 d2 g3 g4 HG4
    go_wp2_with fail
    go_returns
    exact ⟨rt rfl rfl rfl rfl, HG5.out⟩


set_option maxRecDepth 100000 in
set_option maxHeartbeats 4000000 in
theorem rbin_t5_mok2 (b : Int) (x y A : Int) (hb : b = 32 ∨ b = 64) (hx : -9223372036854775808 ≤ x ∧ x ≤ 9223372036854775807) (hy : -9223372036854775808 ≤ y ∧ y ≤ 9223372036854775807) (HA : Hid (Wd.wrap b true x = A)) (B : Int) (HB : Hid (Wd.wrap b true y = B)) (hA : -9223372036854775808 ≤ A ∧ A ≤ 9223372036854775807) (hB : -9223372036854775808 ≤ B ∧ B ≤ 9223372036854775807) (HV : Hid (Wd.over 5 A B = false)) (hb1 : (B == -1) = true) (W : Int) (hW : Hid (Wd.wrap b true (wrap64 (-A)) = W)) (hWA : (W == A) = true) (hA0 : (A != 0) = false) (N : Int) (HN : Hid (Wd.plainV 5 A B = N)) (HO : Hid (Wd.plainOk 5 A B = true)) (M : Int) (hN : -9223372036854775808 ≤ N ∧ N ≤ 9223372036854775807) (HM : Hid (Wd.wrap b true N = M)) (hMN : (M != N) = false) (w : World) :
    Calls Tryd.prog 11 #[.agg #[.int .i64 b, .bool true], .int .i64 5, .int .i64 x, .int .i64 y] w fun e w' => e = .returned (.tuple #[.int .i64 M, .bool true]) ∧ Gr w w' := by
  have Hb := Lib.hid hb
  clear hb
  go_enter Tryd.func11, Tryd.ntmps11
  go_upto_region 1 with fail
  go_cut [27] (fun v27 wx => v27 = .bool false ∧ wx = w.alloc (.cells #[.int .i64 b, .bool true] 23))
  case first =>
    rcases Hb.out with rfl | rfl
    all_goals go_wp2_with fail
    all_goals go_meet
    all_goals first | exact ⟨rfl, rfl⟩ | exact ⟨by rw [decide_eq_false (by omega), decide_eq_false (by omega)]; rfl, rfl⟩
  case rest =>
    obtain ⟨rfl, rfl⟩ := hcut
    go_wp2_with fail
    refine (rwrap_as b true x A hx HA _).mono ?_
    rintro e w2 ⟨rfl, hg⟩
    obtain ⟨a1, a2, a3, a4⟩ := hg.two (k := w.heap.size) (by first | omega | (simp; done) | (simp; omega))
    have hz : w.heap.size < w2.heap.size := by have := hg.size; first | omega | (simp at this; omega)
    have HG := Lib.hid hg.of_alloc
    clear hg a3 a4
    go_wp2_with fail
    refine (rwrap_as b true y B hy HB _).mono ?_
    rintro e w3 ⟨rfl, hg⟩
    obtain ⟨c1, c2, c3, c4⟩ := hg.two hz
    have hz3 : w.heap.size < w3.heap.size := by have := hg.size; omega
    rw [a1] at c1
    rw [a2] at c2
    have HG3 := Lib.hid (HG.out.trans hg)
    clear hg a1 a2 c3 c4 HG hz
    go_wp2_with fail
    refine (rover 5 false A B hA hB HV _).mono ?_
    rintro e w4 ⟨rfl, rfl⟩
    go_wp2_with fail
    refine (rwrap_as b true _ W (Wd.wrap64_bd _) hW _).mono ?_
    rintro e w5 ⟨rfl, hg⟩
    obtain ⟨d1, d2, d3, d4⟩ := hg.two hz3
    have hz4 : w.heap.size < w5.heap.size := by have := hg.size; omega
    rw [c1] at d1
    rw [c2] at d2
    have HG4 := Lib.hid (HG3.out.trans hg)
    clear hg c1 c2 d3 d4 HG3 hz3
    go_wp2_with fail
    refine (rplain_as 5 A B N true hA hB HN HO _).mono ?_
    rintro e w6 ⟨rfl, rfl⟩
    go_wp2_with fail
    refine (rwrap_as b true N M hN HM _).mono ?_
    rintro e v4 ⟨rfl, hg⟩
    obtain ⟨g1, g2, g3, g4⟩ := hg.two hz4
    have hz5 : w.heap.size < v4.heap.size := by have := hg.size; omega
    rw [d1] at g1
    rw [d2] at g2
    have HG5 := Lib.hid (HG4.out.trans hg)
    clear hg d1 d2 g3 g4 HG4
    go_wp2_with fail
    refine (rwrap_as b true N M hN HM _).mono ?_
    rintro e v5 ⟨rfl, hg⟩
    obtain ⟨k1, k2, k3, k4⟩ := hg.two hz5
    have hz6 : w.heap.size < v5.heap.size := by have := hg.size; omega
    rw [g1] at k1
    rw [g2] at k2
    have HG6 := Lib.hid (HG5.out.trans hg)
    clear hg g1 g2 k3 k4 HG5
    go_wp2_with fail
    go_returns
    exact ⟨rt rfl rfl rfl rfl, HG6.out⟩


set_option maxRecDepth 100000 in
set_option maxHeartbeats 4000000 in
theorem rbin_t7_mfail (b : Int) (x y A : Int) (hb : b = 32 ∨ b = 64) (hx : -9223372036854775808 ≤ x ∧ x ≤ 9223372036854775807) (hy : -9223372036854775808 ≤ y ∧ y ≤ 9223372036854775807) (HA : Hid (Wd.wrap b true x = A)) (B : Int) (HB : Hid (Wd.wrap b true y = B)) (hA : -9223372036854775808 ≤ A ∧ A ≤ 9223372036854775807) (hB : -9223372036854775808 ≤ B ∧ B ≤ 9223372036854775807) (HV : Hid (Wd.over 5 A B = false)) (hb1 : (B == -1) = true) (W : Int) (hW : Hid (Wd.wrap b true (wrap64 (-A)) = W)) (hWA : (W == A) = true) (hA0 : (A != 0) = true) (w : World) :
    Calls Tryd.prog 11 #[.agg #[.int .i64 b, .bool true], .int .i64 7, .int .i64 x, .int .i64 y] w fun e w' => e = .returned (.tuple #[.int .i64 0, .bool false]) ∧ Gr w w' := by
  have Hb := Lib.hid hb
  clear hb
  go_enter Tryd.func11, Tryd.ntmps11
  go_upto_region 1 with fail
  go_cut [27] (fun v27 wx => v27 = .bool false ∧ wx = w.alloc (.cells #[.int .i64 b, .bool true] 23))
  case first =>
    rcases Hb.out with rfl | rfl
    all_goals go_wp2_with fail
    all_goals go_meet
    all_goals first | exact ⟨rfl, rfl⟩ | exact ⟨by rw [decide_eq_false (by omega), decide_eq_false (by omega)]; rfl, rfl⟩
  case rest =>
    obtain ⟨rfl, rfl⟩ := hcut
    go_wp2_with fail
    refine (rwrap_as b true x A hx HA _).mono ?_
    rintro e w2 ⟨rfl, hg⟩
    obtain ⟨a1, a2, a3, a4⟩ := hg.two (k := w.heap.size) (by first | omega | (simp; done) | (simp; omega))
    have hz : w.heap.size < w2.heap.size := by have := hg.size; first | omega | (simp at this; omega)
    have HG := Lib.hid hg.of_alloc
    clear hg a3 a4
    go_wp2_with fail
    refine (rwrap_as b true y B hy HB _).mono ?_
    rintro e w3 ⟨rfl, hg⟩
    obtain ⟨c1, c2, c3, c4⟩ := hg.two hz
    have hz3 : w.heap.size < w3.heap.size := by have := hg.size; omega
    rw [a1] at c1
    rw [a2] at c2
    have HG3 := Lib.hid (HG.out.trans hg)
    clear hg a1 a2 c3 c4 HG hz
    go_wp2_with fail
    refine (rover 5 false A B hA hB HV _).mono ?_
    rintro e w4 ⟨rfl, rfl⟩
    go_wp2_with fail
    refine (rwrap_as b true _ W (Wd.wrap64_bd _) hW _).mono ?_
    rintro e w5 ⟨rfl, hg⟩
    obtain ⟨d1, d2, d3, d4⟩ := hg.two hz3
    have hz4 : w.heap.size < w5.heap.size := by have := hg.size; omega
    rw [c1] at d1
    rw [c2] at d2
    have HG4 := Lib.hid (HG3.out.trans hg)
    clear hg c1 c2 d3 d4 HG3 hz3
    go_wp2_with fail
    go_returns
    exact ⟨rt rfl rfl rfl rfl, HG4.out⟩


set_option maxRecDepth 100000 in
set_option maxHeartbeats 4000000 in
theorem rbin_t16_ok (b : Int) (x y A : Int) (hb : b = 32 ∨ b = 64) (hx : -9223372036854775808 ≤ x ∧ x ≤ 9223372036854775807) (hy : -9223372036854775808 ≤ y ∧ y ≤ 9223372036854775807) (HA : Hid (Wd.wrap b true x = A)) (B : Int) (HB : Hid (Wd.wrap b true y = B)) (hA : -9223372036854775808 ≤ A ∧ A ≤ 9223372036854775807) (hB : -9223372036854775808 ≤ B ∧ B ≤ 9223372036854775807) (HV : Hid (Wd.over 16 A B = false)) (N : Int) (HN : Hid (Wd.plainV 16 A B = N)) (HO : Hid (Wd.plainOk 16 A B = true)) (M : Int) (hN : -9223372036854775808 ≤ N ∧ N ≤ 9223372036854775807) (HM : Hid (Wd.wrap b true N = M)) (hMN : (M != N) = false) (w : World) :
    Calls Tryd.prog 11 #[.agg #[.int .i64 b, .bool true], .int .i64 16, .int .i64 x, .int .i64 y] w fun e w' => e = .returned (.tuple #[.int .i64 M, .bool true]) ∧ Gr w w' := by
  have Hb := Lib.hid hb
  clear hb
  go_enter Tryd.func11, Tryd.ntmps11
  go_upto_region 1 with fail
  go_cut [27] (fun v27 wx => v27 = .bool false ∧ wx = w.alloc (.cells #[.int .i64 b, .bool true] 23))
  case first =>
    rcases Hb.out with rfl | rfl
    all_goals go_wp2_with fail
    all_goals go_meet
    all_goals first | exact ⟨rfl, rfl⟩ | exact ⟨by rw [decide_eq_false (by omega), decide_eq_false (by omega)]; rfl, rfl⟩
  case rest =>
    obtain ⟨rfl, rfl⟩ := hcut
    go_wp2_with fail
    refine (rwrap_as b true x A hx HA _).mono ?_
    rintro e w2 ⟨rfl, hg⟩
    obtain ⟨a1, a2, a3, a4⟩ := hg.two (k := w.heap.size) (by first | omega | (simp; done) | (simp; omega))
    have hz : w.heap.size < w2.heap.size := by have := hg.size; first | omega | (simp at this; omega)
    have HG := Lib.hid hg.of_alloc
    clear hg a3 a4
    go_wp2_with fail
    refine (rwrap_as b true y B hy HB _).mono ?_
    rintro e w3 ⟨rfl, hg⟩
    obtain ⟨c1, c2, c3, c4⟩ := hg.two hz
    have hz3 : w.heap.size < w3.heap.size := by have := hg.size; omega
    rw [a1] at c1
    rw [a2] at c2
    have HG3 := Lib.hid (HG.out.trans hg)
    clear hg a1 a2 c3 c4 HG hz
    go_wp2_with fail
    refine (rover 16 false A B hA hB HV _).mono ?_
    rintro e w4 ⟨rfl, rfl⟩
    go_wp2_with fail
    refine (rplain_as 16 A B N true hA hB HN HO _).mono ?_
    rintro e w6 ⟨rfl, rfl⟩
    go_wp2_with fail
    refine (rwrap_as b true N M hN HM _).mono ?_
    rintro e v3 ⟨rfl, hg⟩
    obtain ⟨d1, d2, d3, d4⟩ := hg.two hz3
    have hz4 : w.heap.size < v3.heap.size := by have := hg.size; omega
    rw [c1] at d1
    rw [c2] at d2
    have HG4 := Lib.hid (HG3.out.trans hg)
    clear hg c1 c2 d3 d4 HG3
    go_wp2_with fail
    refine (rwrap_as b true N M hN HM _).mono ?_
    rintro e v4 ⟨rfl, hg⟩
    obtain ⟨g1, g2, g3, g4⟩ := hg.two hz4
    have hz5 : w.heap.size < v4.heap.size := by have := hg.size; omega
    rw [d1] at g1
    rw [d2] at g2
    have HG5 := Lib.hid (HG4.out.trans hg)
    clear hg d1 d2 g3 g4 HG4
    go_wp2_with fail
    go_returns
    exact ⟨rt rfl rfl rfl rfl, HG5.out⟩


set_option maxRecDepth 100000 in
set_option maxHeartbeats 4000000 in
theorem rbin_t19_ok (b : Int) (x y A : Int) (hb : b = 32 ∨ b = 64) (hx : -9223372036854775808 ≤ x ∧ x ≤ 9223372036854775807) (hy : -9223372036854775808 ≤ y ∧ y ≤ 9223372036854775807) (HA : Hid (Wd.wrap b true x = A)) (B : Int) (HB : Hid (Wd.wrap b true y = B)) (hA : -9223372036854775808 ≤ A ∧ A ≤ 9223372036854775807) (hB : -9223372036854775808 ≤ B ∧ B ≤ 9223372036854775807) (HV : Hid (Wd.over 17 A B = false)) (N : Int) (HN : Hid (Wd.plainV 17 A B = N)) (HO : Hid (Wd.plainOk 17 A B = true)) (M : Int) (hN : -9223372036854775808 ≤ N ∧ N ≤ 9223372036854775807) (HM : Hid (Wd.wrap b true N = M)) (hMN : (M != N) = false) (w : World) :
    Calls Tryd.prog 11 #[.agg #[.int .i64 b, .bool true], .int .i64 19, .int .i64 x, .int .i64 y] w fun e w' => e = .returned (.tuple #[.int .i64 M, .bool true]) ∧ Gr w w' := by
  have Hb := Lib.hid hb
  clear hb
  go_enter Tryd.func11, Tryd.ntmps11
  go_upto_region 1 with fail
  go_cut [27] (fun v27 wx => v27 = .bool false ∧ wx = w.alloc (.cells #[.int .i64 b, .bool true] 23))
  case first =>
    rcases Hb.out with rfl | rfl
    all_goals go_wp2_with fail
    all_goals go_meet
    all_goals first | exact ⟨rfl, rfl⟩ | exact ⟨by rw [decide_eq_false (by omega), decide_eq_false (by omega)]; rfl, rfl⟩
  case rest =>
    obtain ⟨rfl, rfl⟩ := hcut
    go_wp2_with fail
    refine (rwrap_as b true x A hx HA _).mono ?_
    rintro e w2 ⟨rfl, hg⟩
    obtain ⟨a1, a2, a3, a4⟩ := hg.two (k := w.heap.size) (by first | omega | (simp; done) | (simp; omega))
    have hz : w.heap.size < w2.heap.size := by have := hg.size; first | omega | (simp at this; omega)
    have HG := Lib.hid hg.of_alloc
    clear hg a3 a4
    go_wp2_with fail
    refine (rwrap_as b true y B hy HB _).mono ?_
    rintro e w3 ⟨rfl, hg⟩
    obtain ⟨c1, c2, c3, c4⟩ := hg.two hz
    have hz3 : w.heap.size < w3.heap.size := by have := hg.size; omega
    rw [a1] at c1
    rw [a2] at c2
    have HG3 := Lib.hid (HG.out.trans hg)
    clear hg a1 a2 c3 c4 HG hz
    go_wp2_with fail
    refine (rover 17 false A B hA hB HV _).mono ?_
    rintro e w4 ⟨rfl, rfl⟩
    go_wp2_with fail
    refine (rplain_as 17 A B N true hA hB HN HO _).mono ?_
    rintro e w6 ⟨rfl, rfl⟩
    go_wp2_with fail
    refine (rwrap_as b true N M hN HM _).mono ?_
    rintro e v3 ⟨rfl, hg⟩
    obtain ⟨d1, d2, d3, d4⟩ := hg.two hz3
    have hz4 : w.heap.size < v3.heap.size := by have := hg.size; omega
    rw [c1] at d1
    rw [c2] at d2
    have HG4 := Lib.hid (HG3.out.trans hg)
    clear hg c1 c2 d3 d4 HG3
    go_wp2_with fail
    refine (rwrap_as b true N M hN HM _).mono ?_
    rintro e v4 ⟨rfl, hg⟩
    obtain ⟨g1, g2, g3, g4⟩ := hg.two hz4
    have hz5 : w.heap.size < v4.heap.size := by have := hg.size; omega
    rw [d1] at g1
    rw [d2] at g2
    have HG5 := Lib.hid (HG4.out.trans hg)
    clear hg d1 d2 g3 g4 HG4
    go_wp2_with fail
    go_returns
    exact ⟨rt rfl rfl rfl rfl, HG5.out⟩


set_option maxRecDepth 100000 in
set_option maxHeartbeats 4000000 in
theorem rbin_f13 (b : Int) (x y A : Int) (hb : b = 32 ∨ b = 64) (hx : -9223372036854775808 ≤ x ∧ x ≤ 9223372036854775807) (hy : -9223372036854775808 ≤ y ∧ y ≤ 9223372036854775807) (HA : Hid (Wd.wrap b false x = A)) (V : Int) (O : Bool) (H : Hid (∀ w, Calls Tryd.prog 36 #[.agg #[.int .i64 b, .bool false], .bool false, .int .i64 A, .int .i64 y] w fun e w' => e = .returned (.tuple #[.int .i64 V, .bool O]) ∧ Gr w w')) (w : World) :
    Calls Tryd.prog 11 #[.agg #[.int .i64 b, .bool false], .int .i64 13, .int .i64 x, .int .i64 y] w fun e w' => e = .returned (.tuple #[.int .i64 V, .bool O]) ∧ Gr w w' := by
  have Hb := Lib.hid hb
  clear hb
  go_enter Tryd.func11, Tryd.ntmps11
  go_upto_region 1 with fail
  go_cut [27] (fun v27 wx => v27 = .bool false ∧ wx = w.alloc (.cells #[.int .i64 b, .bool false] 23))
  case first =>
    rcases Hb.out with rfl | rfl
    all_goals go_wp2_with fail
    all_goals go_meet
    all_goals first | exact ⟨rfl, rfl⟩ | exact ⟨by rw [decide_eq_false (by omega), decide_eq_false (by omega)]; rfl, rfl⟩
  case rest =>
    obtain ⟨rfl, rfl⟩ := hcut
    go_wp2_with fail
    refine (rwrap_as b false x A hx HA _).mono ?_
    rintro e w2 ⟨rfl, hg⟩
    obtain ⟨a1, a2, a3, a4⟩ := hg.two (k := w.heap.size) (by first | omega | (simp; done) | (simp; omega))
    have hz : w.heap.size < w2.heap.size := by have := hg.size; first | omega | (simp at this; omega)
    have HG := Lib.hid hg.of_alloc
    clear hg a3 a4
    go_wp2_with fail
    refine (H.out _).mono ?_
    rintro e w4 ⟨rfl, hg⟩
    have HG4 := Lib.hid (HG.out.trans hg)
    clear hg HG
    go_wp2_with fail
    go_returns
    exact ⟨rt rfl rfl rfl rfl, HG4.out⟩


set_option maxRecDepth 100000 in
set_option maxHeartbeats 4000000 in
theorem rbin_fr14_ok (sub : Int) (hs : 14 ≤ sub ∧ sub ≤ 15) (b : Int) (x y A : Int) (hb : b = 32 ∨ b = 64) (hx : -9223372036854775808 ≤ x ∧ x ≤ 9223372036854775807) (hy : -9223372036854775808 ≤ y ∧ y ≤ 9223372036854775807) (HA : Hid (Wd.wrap b false x = A)) (B : Int) (HB : Hid (Wd.wrap b false y = B)) (hA : -9223372036854775808 ≤ A ∧ A ≤ 9223372036854775807) (hB : -9223372036854775808 ≤ B ∧ B ≤ 9223372036854775807) (N : Int) (HN : Hid (Wd.plainV sub A B = N)) (HO : Hid (Wd.plainOk sub A B = true)) (M : Int) (hN : -9223372036854775808 ≤ N ∧ N ≤ 9223372036854775807) (HM : Hid (Wd.wrap b false N = M)) (w : World) :
    Calls Tryd.prog 11 #[.agg #[.int .i64 b, .bool false], .int .i64 sub, .int .i64 x, .int .i64 y] w fun e w' => e = .returned (.tuple #[.int .i64 M, .bool true]) ∧ Gr w w' := by
  have e11 : (sub == 11) = false := by rw [beq_eq_false_iff_ne]; omega
  have e12 : (sub == 12) = false := by rw [beq_eq_false_iff_ne]; omega
  have e13 : (sub == 13) = false := by rw [beq_eq_false_iff_ne]; omega
  have e5 : (sub == 5) = false := by rw [beq_eq_false_iff_ne]; omega
  have Hb := Lib.hid hb
  clear hb
  go_enter Tryd.func11, Tryd.ntmps11
  go_upto_region 1 with fail
  go_cut [27] (fun v27 wx => v27 = .bool false ∧ wx = w.alloc (.cells #[.int .i64 b, .bool false] 23))
  case first =>
    rcases Hb.out with rfl | rfl
    all_goals go_wp2_with fail
    all_goals go_meet
    all_goals first | exact ⟨rfl, rfl⟩ | exact ⟨by rw [decide_eq_false (by omega), decide_eq_false (by omega)]; rfl, rfl⟩
  case rest =>
    obtain ⟨rfl, rfl⟩ := hcut
    go_wp2_with fail
    refine (rwrap_as b false x A hx HA _).mono ?_
    rintro e w2 ⟨rfl, hg⟩
    obtain ⟨a1, a2, a3, a4⟩ := hg.two (k := w.heap.size) (by first | omega | (simp; done) | (simp; omega))
    have hz : w.heap.size < w2.heap.size := by have := hg.size; first | omega | (simp at this; omega)
    have HG := Lib.hid hg.of_alloc
    clear hg a3 a4
    go_wp2_with fail
    refine (rwrap_as b false y B hy HB _).mono ?_
    rintro e w3 ⟨rfl, hg⟩
    obtain ⟨c1, c2, c3, c4⟩ := hg.two hz
    have hz3 : w.heap.size < w3.heap.size := by have := hg.size; omega
    rw [a1] at c1
    rw [a2] at c2
    have HG3 := Lib.hid (HG.out.trans hg)
    clear hg a1 a2 c3 c4 HG hz
    go_wp2_with fail
    refine (rplain_as sub A B N true hA hB HN HO _).mono ?_
    rintro e w6 ⟨rfl, rfl⟩
    go_wp2_with fail
    refine (rwrap_as b false N M hN HM _).mono ?_
    rintro e v3 ⟨rfl, hg⟩
    obtain ⟨d1, d2, d3, d4⟩ := hg.two hz3
    have hz4 : w.heap.size < v3.heap.size := by have := hg.size; omega
    rw [c1] at d1
    rw [c2] at d2
    have HG4 := Lib.hid (HG3.out.trans hg)
    clear hg c1 c2 d3 d4 HG3
    go_wp2_with fail
    go_returns
    exact ⟨rt rfl rfl rfl rfl, HG4.out⟩


set_option maxRecDepth 100000 in
set_option maxHeartbeats 4000000 in
theorem rbin_f6_plain (b : Int) (x y A : Int) (hb : b = 32 ∨ b = 64) (hx : -9223372036854775808 ≤ x ∧ x ≤ 9223372036854775807) (hy : -9223372036854775808 ≤ y ∧ y ≤ 9223372036854775807) (HA : Hid (Wd.wrap b false x = A)) (B : Int) (HB : Hid (Wd.wrap b false y = B)) (hA : -9223372036854775808 ≤ A ∧ A ≤ 9223372036854775807) (hB : -9223372036854775808 ≤ B ∧ B ≤ 9223372036854775807) (N : Int) (HN : Hid (Wd.plainV 6 A B = N)) (HO : Hid (Wd.plainOk 6 A B = false)) (w : World) :
    Calls Tryd.prog 11 #[.agg #[.int .i64 b, .bool false], .int .i64 6, .int .i64 x, .int .i64 y] w fun e w' => e = .returned (.tuple #[.int .i64 0, .bool false]) ∧ Gr w w' := by
  have Hb := Lib.hid hb
  clear hb
  go_enter Tryd.func11, Tryd.ntmps11
  go_upto_region 1 with fail
  go_cut [27] (fun v27 wx => v27 = .bool false ∧ wx = w.alloc (.cells #[.int .i64 b, .bool false] 23))
  case first =>
    rcases Hb.out with rfl | rfl
    all_goals go_wp2_with fail
    all_goals go_meet
    all_goals first | exact ⟨rfl, rfl⟩ | exact ⟨by rw [decide_eq_false (by omega), decide_eq_false (by omega)]; rfl, rfl⟩
  case rest =>
    obtain ⟨rfl, rfl⟩ := hcut
    go_wp2_with fail
    refine (rwrap_as b false x A hx HA _).mono ?_
    rintro e w2 ⟨rfl, hg⟩
    obtain ⟨a1, a2, a3, a4⟩ := hg.two (k := w.heap.size) (by first | omega | (simp; done) | (simp; omega))
    have hz : w.heap.size < w2.heap.size := by have := hg.size; first | omega | (simp at this; omega)
    have HG := Lib.hid hg.of_alloc
    clear hg a3 a4
    go_wp2_with fail
    refine (rwrap_as b false y B hy HB _).mono ?_
    rintro e w3 ⟨rfl, hg⟩
    obtain ⟨c1, c2, c3, c4⟩ := hg.two hz
    have hz3 : w.heap.size < w3.heap.size := by have := hg.size; omega
    rw [a1] at c1
    rw [a2] at c2
    have HG3 := Lib.hid (HG.out.trans hg)
    clear hg a1 a2 c3 c4 HG hz
    go_wp2_with fail
    refine (rplain_as 6 A B N false hA hB HN HO _).mono ?_
    rintro e w6 ⟨rfl, rfl⟩
    go_wp2_with fail
    go_returns
    exact ⟨rt rfl rfl rfl rfl, HG3.out⟩


set_option maxRecDepth 100000 in
set_option maxHeartbeats 4000000 in
theorem rbin_f5_ok (b : Int) (x y A : Int) (hb : b = 32 ∨ b = 64) (hx : -9223372036854775808 ≤ x ∧ x ≤ 9223372036854775807) (hy : -9223372036854775808 ≤ y ∧ y ≤ 9223372036854775807) (HA : Hid (Wd.wrap b false x = A)) (B : Int) (HB : Hid (Wd.wrap b false y = B)) (hA : -9223372036854775808 ≤ A ∧ A ≤ 9223372036854775807) (hB : -9223372036854775808 ≤ B ∧ B ≤ 9223372036854775807) (N : Int) (HN : Hid (Wd.plainV 7 A B = N)) (HO : Hid (Wd.plainOk 7 A B = true)) (M : Int) (hN : -9223372036854775808 ≤ N ∧ N ≤ 9223372036854775807) (HM : Hid (Wd.wrap b false N = M)) (w : World) :
    Calls Tryd.prog 11 #[.agg #[.int .i64 b, .bool false], .int .i64 5, .int .i64 x, .int .i64 y] w fun e w' => e = .returned (.tuple #[.int .i64 M, .bool true]) ∧ Gr w w' := by
  have Hb := Lib.hid hb
  clear hb
  go_enter Tryd.func11, Tryd.ntmps11
  go_upto_region 1 with fail
  go_cut [27] (fun v27 wx => v27 = .bool false ∧ wx = w.alloc (.cells #[.int .i64 b, .bool false] 23))
  case first =>
    rcases Hb.out with rfl | rfl
    all_goals go_wp2_with fail
    all_goals go_meet
    all_goals first | exact ⟨rfl, rfl⟩ | exact ⟨by rw [decide_eq_false (by omega), decide_eq_false (by omega)]; rfl, rfl⟩
  case rest =>
    obtain ⟨rfl, rfl⟩ := hcut
    go_wp2_with fail
    refine (rwrap_as b false x A hx HA _).mono ?_
    rintro e w2 ⟨rfl, hg⟩
    obtain ⟨a1, a2, a3, a4⟩ := hg.two (k := w.heap.size) (by first | omega | (simp; done) | (simp; omega))
    have hz : w.heap.size < w2.heap.size := by have := hg.size; first | omega | (simp at this; omega)
    have HG := Lib.hid hg.of_alloc
    clear hg a3 a4
    go_wp2_with fail
    refine (rwrap_as b false y B hy HB _).mono ?_
    rintro e w3 ⟨rfl, hg⟩
    obtain ⟨c1, c2, c3, c4⟩ := hg.two hz
    have hz3 : w.heap.size < w3.heap.size := by have := hg.size; omega
    rw [a1] at c1
    rw [a2] at c2
    have HG3 := Lib.hid (HG.out.trans hg)
    clear hg a1 a2 c3 c4 HG hz
    go_wp2_with fail
    refine (rplain_as 7 A B N true hA hB HN HO _).mono ?_
    rintro e w6 ⟨rfl, rfl⟩
    go_wp2_with fail
    refine (rwrap_as b false N M hN HM _).mono ?_
    rintro e v3 ⟨rfl, hg⟩
    obtain ⟨d1, d2, d3, d4⟩ := hg.two hz3
    have hz4 : w.heap.size < v3.heap.size := by have := hg.size; omega
    rw [c1] at d1
    rw [c2] at d2
    have HG4 := Lib.hid (HG3.out.trans hg)
    clear hg c1 c2 d3 d4 HG3
    go_wp2_with fail
    go_returns
    exact ⟨rt rfl rfl rfl rfl, HG4.out⟩


set_option maxRecDepth 100000 in
set_option maxHeartbeats 4000000 in
theorem rbin_f16_ok (b : Int) (x y A : Int) (hb : b = 32 ∨ b = 64) (hx : -9223372036854775808 ≤ x ∧ x ≤ 9223372036854775807) (hy : -9223372036854775808 ≤ y ∧ y ≤ 9223372036854775807) (HA : Hid (Wd.wrap b false x = A)) (B : Int) (HB : Hid (Wd.wrap b false y = B)) (hA : -9223372036854775808 ≤ A ∧ A ≤ 9223372036854775807) (hB : -9223372036854775808 ≤ B ∧ B ≤ 9223372036854775807) (N : Int) (HN : Hid (Wd.plainV 18 A B = N)) (HO : Hid (Wd.plainOk 18 A B = true)) (M : Int) (hN : -9223372036854775808 ≤ N ∧ N ≤ 9223372036854775807) (HM : Hid (Wd.wrap b false N = M)) (w : World) :
    Calls Tryd.prog 11 #[.agg #[.int .i64 b, .bool false], .int .i64 16, .int .i64 x, .int .i64 y] w fun e w' => e = .returned (.tuple #[.int .i64 M, .bool true]) ∧ Gr w w' := by
  have Hb := Lib.hid hb
  clear hb
  go_enter Tryd.func11, Tryd.ntmps11
  go_upto_region 1 with fail
  go_cut [27] (fun v27 wx => v27 = .bool false ∧ wx = w.alloc (.cells #[.int .i64 b, .bool false] 23))
  case first =>
    rcases Hb.out with rfl | rfl
    all_goals go_wp2_with fail
    all_goals go_meet
    all_goals first | exact ⟨rfl, rfl⟩ | exact ⟨by rw [decide_eq_false (by omega), decide_eq_false (by omega)]; rfl, rfl⟩
  case rest =>
    obtain ⟨rfl, rfl⟩ := hcut
    go_wp2_with fail
    refine (rwrap_as b false x A hx HA _).mono ?_
    rintro e w2 ⟨rfl, hg⟩
    obtain ⟨a1, a2, a3, a4⟩ := hg.two (k := w.heap.size) (by first | omega | (simp; done) | (simp; omega))
    have hz : w.heap.size < w2.heap.size := by have := hg.size; first | omega | (simp at this; omega)
    have HG := Lib.hid hg.of_alloc
    clear hg a3 a4
    go_wp2_with fail
    refine (rwrap_as b false y B hy HB _).mono ?_
    rintro e w3 ⟨rfl, hg⟩
    obtain ⟨c1, c2, c3, c4⟩ := hg.two hz
    have hz3 : w.heap.size < w3.heap.size := by have := hg.size; omega
    rw [a1] at c1
    rw [a2] at c2
    have HG3 := Lib.hid (HG.out.trans hg)
    clear hg a1 a2 c3 c4 HG hz
    go_wp2_with fail
    refine (rplain_as 18 A B N true hA hB HN HO _).mono ?_
    rintro e w6 ⟨rfl, rfl⟩
    go_wp2_with fail
    refine (rwrap_as b false N M hN HM _).mono ?_
    rintro e v3 ⟨rfl, hg⟩
    obtain ⟨d1, d2, d3, d4⟩ := hg.two hz3
    have hz4 : w.heap.size < v3.heap.size := by have := hg.size; omega
    rw [c1] at d1
    rw [c2] at d2
    have HG4 := Lib.hid (HG3.out.trans hg)
    clear hg c1 c2 d3 d4 HG3
    go_wp2_with fail
    go_returns
    exact ⟨rt rfl rfl rfl rfl, HG4.out⟩


set_option maxRecDepth 100000 in
set_option maxHeartbeats 4000000 in
theorem rbin_f19_ok (b : Int) (x y A : Int) (hb : b = 32 ∨ b = 64) (hx : -9223372036854775808 ≤ x ∧ x ≤ 9223372036854775807) (hy : -9223372036854775808 ≤ y ∧ y ≤ 9223372036854775807) (HA : Hid (Wd.wrap b false x = A)) (B : Int) (HB : Hid (Wd.wrap b false y = B)) (hA : -9223372036854775808 ≤ A ∧ A ≤ 9223372036854775807) (hB : -9223372036854775808 ≤ B ∧ B ≤ 9223372036854775807) (N : Int) (HN : Hid (Wd.plainV 19 A B = N)) (HO : Hid (Wd.plainOk 19 A B = true)) (M : Int) (hN : -9223372036854775808 ≤ N ∧ N ≤ 9223372036854775807) (HM : Hid (Wd.wrap b false N = M)) (w : World) :
    Calls Tryd.prog 11 #[.agg #[.int .i64 b, .bool false], .int .i64 19, .int .i64 x, .int .i64 y] w fun e w' => e = .returned (.tuple #[.int .i64 M, .bool true]) ∧ Gr w w' := by
  have Hb := Lib.hid hb
  clear hb
  go_enter Tryd.func11, Tryd.ntmps11
  go_upto_region 1 with fail
  go_cut [27] (fun v27 wx => v27 = .bool false ∧ wx = w.alloc (.cells #[.int .i64 b, .bool false] 23))
  case first =>
    rcases Hb.out with rfl | rfl
    all_goals go_wp2_with fail
    all_goals go_meet
    all_goals first | exact ⟨rfl, rfl⟩ | exact ⟨by rw [decide_eq_false (by omega), decide_eq_false (by omega)]; rfl, rfl⟩
  case rest =>
    obtain ⟨rfl, rfl⟩ := hcut
    go_wp2_with fail
    refine (rwrap_as b false x A hx HA _).mono ?_
    rintro e w2 ⟨rfl, hg⟩
    obtain ⟨a1, a2, a3, a4⟩ := hg.two (k := w.heap.size) (by first | omega | (simp; done) | (simp; omega))
    have hz : w.heap.size < w2.heap.size := by have := hg.size; first | omega | (simp at this; omega)
    have HG := Lib.hid hg.of_alloc
    clear hg a3 a4
    go_wp2_with fail
    refine (rwrap_as b false y B hy HB _).mono ?_
    rintro e w3 ⟨rfl, hg⟩
    obtain ⟨c1, c2, c3, c4⟩ := hg.two hz
    have hz3 : w.heap.size < w3.heap.size := by have := hg.size; omega
    rw [a1] at c1
    rw [a2] at c2
    have HG3 := Lib.hid (HG.out.trans hg)
    clear hg a1 a2 c3 c4 HG hz
    go_wp2_with fail
    refine (rplain_as 19 A B N true hA hB HN HO _).mono ?_
    rintro e w6 ⟨rfl, rfl⟩
    go_wp2_with fail
    refine (rwrap_as b false N M hN HM _).mono ?_
    rintro e v3 ⟨rfl, hg⟩
    obtain ⟨d1, d2, d3, d4⟩ := hg.two hz3
    have hz4 : w.heap.size < v3.heap.size := by have := hg.size; omega
    rw [c1] at d1
    rw [c2] at d2
    have HG4 := Lib.hid (HG3.out.trans hg)
    clear hg c1 c2 d3 d4 HG3
    go_wp2_with fail
    go_returns
    exact ⟨rt rfl rfl rfl rfl, HG4.out⟩


end Go.Proofs.YtkjhdanfbmdmlaaDoor
