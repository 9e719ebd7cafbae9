/- word.Binary: which way it takes. -/
import Derived.Test.YtkjhdanfbmdmlaaDoorWordShift
namespace Go.Proofs.YtkjhdanfbmdmlaaDoor
open Go.RowKit
set_option linter.unusedVariables false
set_option linter.unusedSimpArgs false

theorem wreck_as (b : Int) (s : Bool) (R : Bool) (HR : Hid (Wd.reck b = R)) (w : World) (L : Laid w) :
    Calls Tryd.prog 31 #[.agg #[.int .i64 b, .bool s]] w fun e w' => e = .returned (.bool R) ∧ Gr w w' := by
  have h := wreck b s w L
  rw [HR.out] at h
  exact h

set_option maxHeartbeats 400000 in
theorem wbin_none (b : Int) (s : Bool) (sub x y : Int) (HR : Hid (Wd.reck b = false)) (w : World) (L : Laid w) :
    Calls Tryd.prog 10 #[.agg #[.int .i64 b, .bool s], .int .i64 sub, .int .i64 x, .int .i64 y] w fun e w' => e = .returned (.tuple #[.int .i64 0, .bool false]) ∧ Gr w w' := by
  have HL := Lib.hid L
  clear L
  go_enter Tryd.func10, Tryd.ntmps10
  go_wp2_with fail
  refine (wreck_as b s false HR _ (HL.out.gr ((Gr.refl _).alloc _ _))).mono ?_
  rintro e w1 ⟨rfl, hg⟩
  have HG := Lib.hid hg
  clear hg
  go_wp2_with fail
  go_returns
  exact ⟨rt rfl rfl rfl rfl, HG.out.of_alloc⟩

set_option maxHeartbeats 800000 in
theorem wbin_11 (b : Int) (s : Bool) (x y A V : Int) (O : Bool) (HR : Hid (Wd.reck b = true)) (hx : -9223372036854775808 ≤ x ∧ x ≤ 9223372036854775807) (hy : -9223372036854775808 ≤ y ∧ y ≤ 9223372036854775807) (HA : Hid (Wd.wrap b s x = A)) (H : Hid (∀ w, Laid w → Calls Tryd.prog 32 #[.agg #[.int .i64 b, .bool s], .int .i64 11, .int .i64 A, .int .i64 y] w fun e w' => e = .returned (.tuple #[.int .i64 V, .bool O]) ∧ Gr w w')) (w : World) (L : Laid w) :
    Calls Tryd.prog 10 #[.agg #[.int .i64 b, .bool s], .int .i64 11, .int .i64 x, .int .i64 y] w fun e w' => e = .returned (.tuple #[.int .i64 V, .bool O]) ∧ Gr w w' := by
  have HL := Lib.hid L
  clear L
  go_enter Tryd.func10, Tryd.ntmps10
  go_wp2_with fail
  refine (wreck_as b s true HR _ (HL.out.gr ((Gr.refl _).alloc _ _))).mono ?_
  rintro e w1 ⟨rfl, hg⟩
  obtain ⟨a1, a2, a3, a4⟩ := hg.two (k := w.heap.size) (by first | omega | (simp; done) | (simp; omega))
  have hz : w.heap.size < w1.heap.size := by have := hg.size; simp at this; omega
  have HG := Lib.hid hg
  clear hg
  go_wp2_with fail
  refine (wwrap_as b s x A hx HA _).mono ?_
  rintro e w2 ⟨rfl, hg⟩
  obtain ⟨b1, b2, b3, b4⟩ := hg.two (k := w.heap.size) hz
  have hz2 : w.heap.size < w2.heap.size := by have := hg.size; omega
  rw [a1] at b1
  rw [a2] at b2
  rw [a3] at b3
  rw [a4] at b4
  have HG2 := Lib.hid (HG.out.trans hg)
  clear hg a1 a2 a3 a4 HG
  go_wp2_with fail
  refine (H.out _ (HL.out.gr HG2.out.of_alloc)).mono ?_
  rintro e w3 ⟨rfl, hg⟩
  have HG3 := Lib.hid (HG2.out.trans hg)
  clear hg HG2
  go_wp2_with fail
  go_returns
  exact ⟨rt rfl rfl rfl rfl, HG3.out.of_alloc⟩

set_option maxHeartbeats 800000 in
theorem wbin_12 (b : Int) (s : Bool) (x y A V : Int) (O : Bool) (HR : Hid (Wd.reck b = true)) (hx : -9223372036854775808 ≤ x ∧ x ≤ 9223372036854775807) (hy : -9223372036854775808 ≤ y ∧ y ≤ 9223372036854775807) (HA : Hid (Wd.wrap b s x = A)) (H : Hid (∀ w, Laid w → Calls Tryd.prog 32 #[.agg #[.int .i64 b, .bool s], .int .i64 12, .int .i64 A, .int .i64 y] w fun e w' => e = .returned (.tuple #[.int .i64 V, .bool O]) ∧ Gr w w')) (w : World) (L : Laid w) :
    Calls Tryd.prog 10 #[.agg #[.int .i64 b, .bool s], .int .i64 12, .int .i64 x, .int .i64 y] w fun e w' => e = .returned (.tuple #[.int .i64 V, .bool O]) ∧ Gr w w' := by
  have HL := Lib.hid L
  clear L
  go_enter Tryd.func10, Tryd.ntmps10
  go_wp2_with fail
  refine (wreck_as b s true HR _ (HL.out.gr ((Gr.refl _).alloc _ _))).mono ?_
  rintro e w1 ⟨rfl, hg⟩
  obtain ⟨a1, a2, a3, a4⟩ := hg.two (k := w.heap.size) (by first | omega | (simp; done) | (simp; omega))
  have hz : w.heap.size < w1.heap.size := by have := hg.size; simp at this; omega
  have HG := Lib.hid hg
  clear hg
  go_wp2_with fail
  refine (wwrap_as b s x A hx HA _).mono ?_
  rintro e w2 ⟨rfl, hg⟩
  obtain ⟨b1, b2, b3, b4⟩ := hg.two (k := w.heap.size) hz
  have hz2 : w.heap.size < w2.heap.size := by have := hg.size; omega
  rw [a1] at b1
  rw [a2] at b2
  rw [a3] at b3
  rw [a4] at b4
  have HG2 := Lib.hid (HG.out.trans hg)
  clear hg a1 a2 a3 a4 HG
  go_wp2_with fail
  refine (H.out _ (HL.out.gr HG2.out.of_alloc)).mono ?_
  rintro e w3 ⟨rfl, hg⟩
  have HG3 := Lib.hid (HG2.out.trans hg)
  clear hg HG2
  go_wp2_with fail
  go_returns
  exact ⟨rt rfl rfl rfl rfl, HG3.out.of_alloc⟩

set_option maxHeartbeats 800000 in
theorem wbin_13 (b : Int) (s : Bool) (x y A V : Int) (O : Bool) (HR : Hid (Wd.reck b = true)) (hx : -9223372036854775808 ≤ x ∧ x ≤ 9223372036854775807) (hy : -9223372036854775808 ≤ y ∧ y ≤ 9223372036854775807) (HA : Hid (Wd.wrap b s x = A)) (H : Hid (∀ w, Laid w → Calls Tryd.prog 32 #[.agg #[.int .i64 b, .bool s], .int .i64 13, .int .i64 A, .int .i64 y] w fun e w' => e = .returned (.tuple #[.int .i64 V, .bool O]) ∧ Gr w w')) (w : World) (L : Laid w) :
    Calls Tryd.prog 10 #[.agg #[.int .i64 b, .bool s], .int .i64 13, .int .i64 x, .int .i64 y] w fun e w' => e = .returned (.tuple #[.int .i64 V, .bool O]) ∧ Gr w w' := by
  have HL := Lib.hid L
  clear L
  go_enter Tryd.func10, Tryd.ntmps10
  go_wp2_with fail
  refine (wreck_as b s true HR _ (HL.out.gr ((Gr.refl _).alloc _ _))).mono ?_
  rintro e w1 ⟨rfl, hg⟩
  obtain ⟨a1, a2, a3, a4⟩ := hg.two (k := w.heap.size) (by first | omega | (simp; done) | (simp; omega))
  have hz : w.heap.size < w1.heap.size := by have := hg.size; simp at this; omega
  have HG := Lib.hid hg
  clear hg
  go_wp2_with fail
  refine (wwrap_as b s x A hx HA _).mono ?_
  rintro e w2 ⟨rfl, hg⟩
  obtain ⟨b1, b2, b3, b4⟩ := hg.two (k := w.heap.size) hz
  have hz2 : w.heap.size < w2.heap.size := by have := hg.size; omega
  rw [a1] at b1
  rw [a2] at b2
  rw [a3] at b3
  rw [a4] at b4
  have HG2 := Lib.hid (HG.out.trans hg)
  clear hg a1 a2 a3 a4 HG
  go_wp2_with fail
  refine (H.out _ (HL.out.gr HG2.out.of_alloc)).mono ?_
  rintro e w3 ⟨rfl, hg⟩
  have HG3 := Lib.hid (HG2.out.trans hg)
  clear hg HG2
  go_wp2_with fail
  go_returns
  exact ⟨rt rfl rfl rfl rfl, HG3.out.of_alloc⟩

set_option maxHeartbeats 800000 in
theorem wbin_1 (b : Int) (s : Bool) (x y A V : Int) (O : Bool) (HR : Hid (Wd.reck b = true)) (hx : -9223372036854775808 ≤ x ∧ x ≤ 9223372036854775807) (hy : -9223372036854775808 ≤ y ∧ y ≤ 9223372036854775807) (B : Int) (HB : Hid (Wd.wrap b s y = B)) (HA : Hid (Wd.wrap b s x = A)) (H : Hid (∀ w, Laid w → Calls Tryd.prog 33 #[.agg #[.int .i64 b, .bool s], .int .i64 1, .int .i64 A, .int .i64 B] w fun e w' => e = .returned (.tuple #[.int .i64 V, .bool O]) ∧ Gr w w')) (w : World) (L : Laid w) :
    Calls Tryd.prog 10 #[.agg #[.int .i64 b, .bool s], .int .i64 1, .int .i64 x, .int .i64 y] w fun e w' => e = .returned (.tuple #[.int .i64 V, .bool O]) ∧ Gr w w' := by
  have HL := Lib.hid L
  clear L
  go_enter Tryd.func10, Tryd.ntmps10
  go_wp2_with fail
  refine (wreck_as b s true HR _ (HL.out.gr ((Gr.refl _).alloc _ _))).mono ?_
  rintro e w1 ⟨rfl, hg⟩
  obtain ⟨a1, a2, a3, a4⟩ := hg.two (k := w.heap.size) (by first | omega | (simp; done) | (simp; omega))
  have hz : w.heap.size < w1.heap.size := by have := hg.size; simp at this; omega
  have HG := Lib.hid hg
  clear hg
  go_wp2_with fail
  refine (wwrap_as b s x A hx HA _).mono ?_
  rintro e w2 ⟨rfl, hg⟩
  obtain ⟨b1, b2, b3, b4⟩ := hg.two (k := w.heap.size) hz
  have hz2 : w.heap.size < w2.heap.size := by have := hg.size; omega
  rw [a1] at b1
  rw [a2] at b2
  rw [a3] at b3
  rw [a4] at b4
  have HG2 := Lib.hid (HG.out.trans hg)
  clear hg a1 a2 a3 a4 HG
  go_wp2_with fail
  refine (wwrap_as b s y B hy HB _).mono ?_
  rintro e w3 ⟨rfl, hg⟩
  obtain ⟨c1, c2, c3, c4⟩ := hg.two (k := w.heap.size) hz2
  rw [b1] at c1
  rw [b2] at c2
  rw [b3] at c3
  rw [b4] at c4
  have HG3 := Lib.hid (HG2.out.trans hg)
  clear hg b1 b2 b3 b4 HG2
  go_wp2_with fail
  refine (H.out _ (HL.out.gr HG3.out.of_alloc)).mono ?_
  rintro e w4 ⟨rfl, hg⟩
  have HG4 := Lib.hid (HG3.out.trans hg)
  clear hg HG3
  go_wp2_with fail
  go_returns
  exact ⟨rt rfl rfl rfl rfl, HG4.out.of_alloc⟩

set_option maxHeartbeats 800000 in
theorem wbin_2 (b : Int) (s : Bool) (x y A V : Int) (O : Bool) (HR : Hid (Wd.reck b = true)) (hx : -9223372036854775808 ≤ x ∧ x ≤ 9223372036854775807) (hy : -9223372036854775808 ≤ y ∧ y ≤ 9223372036854775807) (B : Int) (HB : Hid (Wd.wrap b s y = B)) (HA : Hid (Wd.wrap b s x = A)) (H : Hid (∀ w, Laid w → Calls Tryd.prog 33 #[.agg #[.int .i64 b, .bool s], .int .i64 2, .int .i64 A, .int .i64 B] w fun e w' => e = .returned (.tuple #[.int .i64 V, .bool O]) ∧ Gr w w')) (w : World) (L : Laid w) :
    Calls Tryd.prog 10 #[.agg #[.int .i64 b, .bool s], .int .i64 2, .int .i64 x, .int .i64 y] w fun e w' => e = .returned (.tuple #[.int .i64 V, .bool O]) ∧ Gr w w' := by
  have HL := Lib.hid L
  clear L
  go_enter Tryd.func10, Tryd.ntmps10
  go_wp2_with fail
  refine (wreck_as b s true HR _ (HL.out.gr ((Gr.refl _).alloc _ _))).mono ?_
  rintro e w1 ⟨rfl, hg⟩
  obtain ⟨a1, a2, a3, a4⟩ := hg.two (k := w.heap.size) (by first | omega | (simp; done) | (simp; omega))
  have hz : w.heap.size < w1.heap.size := by have := hg.size; simp at this; omega
  have HG := Lib.hid hg
  clear hg
  go_wp2_with fail
  refine (wwrap_as b s x A hx HA _).mono ?_
  rintro e w2 ⟨rfl, hg⟩
  obtain ⟨b1, b2, b3, b4⟩ := hg.two (k := w.heap.size) hz
  have hz2 : w.heap.size < w2.heap.size := by have := hg.size; omega
  rw [a1] at b1
  rw [a2] at b2
  rw [a3] at b3
  rw [a4] at b4
  have HG2 := Lib.hid (HG.out.trans hg)
  clear hg a1 a2 a3 a4 HG
  go_wp2_with fail
  refine (wwrap_as b s y B hy HB _).mono ?_
  rintro e w3 ⟨rfl, hg⟩
  obtain ⟨c1, c2, c3, c4⟩ := hg.two (k := w.heap.size) hz2
  rw [b1] at c1
  rw [b2] at c2
  rw [b3] at c3
  rw [b4] at c4
  have HG3 := Lib.hid (HG2.out.trans hg)
  clear hg b1 b2 b3 b4 HG2
  go_wp2_with fail
  refine (H.out _ (HL.out.gr HG3.out.of_alloc)).mono ?_
  rintro e w4 ⟨rfl, hg⟩
  have HG4 := Lib.hid (HG3.out.trans hg)
  clear hg HG3
  go_wp2_with fail
  go_returns
  exact ⟨rt rfl rfl rfl rfl, HG4.out.of_alloc⟩

set_option maxHeartbeats 800000 in
theorem wbin_3 (b : Int) (s : Bool) (x y A V : Int) (O : Bool) (HR : Hid (Wd.reck b = true)) (hx : -9223372036854775808 ≤ x ∧ x ≤ 9223372036854775807) (hy : -9223372036854775808 ≤ y ∧ y ≤ 9223372036854775807) (B : Int) (HB : Hid (Wd.wrap b s y = B)) (HA : Hid (Wd.wrap b s x = A)) (H : Hid (∀ w, Laid w → Calls Tryd.prog 33 #[.agg #[.int .i64 b, .bool s], .int .i64 3, .int .i64 A, .int .i64 B] w fun e w' => e = .returned (.tuple #[.int .i64 V, .bool O]) ∧ Gr w w')) (w : World) (L : Laid w) :
    Calls Tryd.prog 10 #[.agg #[.int .i64 b, .bool s], .int .i64 3, .int .i64 x, .int .i64 y] w fun e w' => e = .returned (.tuple #[.int .i64 V, .bool O]) ∧ Gr w w' := by
  have HL := Lib.hid L
  clear L
  go_enter Tryd.func10, Tryd.ntmps10
  go_wp2_with fail
  refine (wreck_as b s true HR _ (HL.out.gr ((Gr.refl _).alloc _ _))).mono ?_
  rintro e w1 ⟨rfl, hg⟩
  obtain ⟨a1, a2, a3, a4⟩ := hg.two (k := w.heap.size) (by first | omega | (simp; done) | (simp; omega))
  have hz : w.heap.size < w1.heap.size := by have := hg.size; simp at this; omega
  have HG := Lib.hid hg
  clear hg
  go_wp2_with fail
  refine (wwrap_as b s x A hx HA _).mono ?_
  rintro e w2 ⟨rfl, hg⟩
  obtain ⟨b1, b2, b3, b4⟩ := hg.two (k := w.heap.size) hz
  have hz2 : w.heap.size < w2.heap.size := by have := hg.size; omega
  rw [a1] at b1
  rw [a2] at b2
  rw [a3] at b3
  rw [a4] at b4
  have HG2 := Lib.hid (HG.out.trans hg)
  clear hg a1 a2 a3 a4 HG
  go_wp2_with fail
  refine (wwrap_as b s y B hy HB _).mono ?_
  rintro e w3 ⟨rfl, hg⟩
  obtain ⟨c1, c2, c3, c4⟩ := hg.two (k := w.heap.size) hz2
  rw [b1] at c1
  rw [b2] at c2
  rw [b3] at c3
  rw [b4] at c4
  have HG3 := Lib.hid (HG2.out.trans hg)
  clear hg b1 b2 b3 b4 HG2
  go_wp2_with fail
  refine (H.out _ (HL.out.gr HG3.out.of_alloc)).mono ?_
  rintro e w4 ⟨rfl, hg⟩
  have HG4 := Lib.hid (HG3.out.trans hg)
  clear hg HG3
  go_wp2_with fail
  go_returns
  exact ⟨rt rfl rfl rfl rfl, HG4.out.of_alloc⟩

set_option maxHeartbeats 800000 in
theorem wbin_4 (b : Int) (s : Bool) (x y A V : Int) (O : Bool) (HR : Hid (Wd.reck b = true)) (hx : -9223372036854775808 ≤ x ∧ x ≤ 9223372036854775807) (hy : -9223372036854775808 ≤ y ∧ y ≤ 9223372036854775807) (B : Int) (HB : Hid (Wd.wrap b s y = B)) (HA : Hid (Wd.wrap b s x = A)) (H : Hid (∀ w, Laid w → Calls Tryd.prog 34 #[.agg #[.int .i64 b, .bool s], .bool false, .int .i64 A, .int .i64 B] w fun e w' => e = .returned (.tuple #[.int .i64 V, .bool O]) ∧ Gr w w')) (w : World) (L : Laid w) :
    Calls Tryd.prog 10 #[.agg #[.int .i64 b, .bool s], .int .i64 4, .int .i64 x, .int .i64 y] w fun e w' => e = .returned (.tuple #[.int .i64 V, .bool O]) ∧ Gr w w' := by
  have HL := Lib.hid L
  clear L
  go_enter Tryd.func10, Tryd.ntmps10
  go_wp2_with fail
  refine (wreck_as b s true HR _ (HL.out.gr ((Gr.refl _).alloc _ _))).mono ?_
  rintro e w1 ⟨rfl, hg⟩
  obtain ⟨a1, a2, a3, a4⟩ := hg.two (k := w.heap.size) (by first | omega | (simp; done) | (simp; omega))
  have hz : w.heap.size < w1.heap.size := by have := hg.size; simp at this; omega
  have HG := Lib.hid hg
  clear hg
  go_wp2_with fail
  refine (wwrap_as b s x A hx HA _).mono ?_
  rintro e w2 ⟨rfl, hg⟩
  obtain ⟨b1, b2, b3, b4⟩ := hg.two (k := w.heap.size) hz
  have hz2 : w.heap.size < w2.heap.size := by have := hg.size; omega
  rw [a1] at b1
  rw [a2] at b2
  rw [a3] at b3
  rw [a4] at b4
  have HG2 := Lib.hid (HG.out.trans hg)
  clear hg a1 a2 a3 a4 HG
  go_wp2_with fail
  refine (wwrap_as b s y B hy HB _).mono ?_
  rintro e w3 ⟨rfl, hg⟩
  obtain ⟨c1, c2, c3, c4⟩ := hg.two (k := w.heap.size) hz2
  rw [b1] at c1
  rw [b2] at c2
  rw [b3] at c3
  rw [b4] at c4
  have HG3 := Lib.hid (HG2.out.trans hg)
  clear hg b1 b2 b3 b4 HG2
  go_wp2_with fail
  refine (H.out _ (HL.out.gr HG3.out.of_alloc)).mono ?_
  rintro e w4 ⟨rfl, hg⟩
  have HG4 := Lib.hid (HG3.out.trans hg)
  clear hg HG3
  go_wp2_with fail
  go_returns
  exact ⟨rt rfl rfl rfl rfl, HG4.out.of_alloc⟩

set_option maxHeartbeats 800000 in
theorem wbin_6 (b : Int) (s : Bool) (x y A V : Int) (O : Bool) (HR : Hid (Wd.reck b = true)) (hx : -9223372036854775808 ≤ x ∧ x ≤ 9223372036854775807) (hy : -9223372036854775808 ≤ y ∧ y ≤ 9223372036854775807) (B : Int) (HB : Hid (Wd.wrap b s y = B)) (HA : Hid (Wd.wrap b s x = A)) (H : Hid (∀ w, Laid w → Calls Tryd.prog 34 #[.agg #[.int .i64 b, .bool s], .bool false, .int .i64 A, .int .i64 B] w fun e w' => e = .returned (.tuple #[.int .i64 V, .bool O]) ∧ Gr w w')) (w : World) (L : Laid w) :
    Calls Tryd.prog 10 #[.agg #[.int .i64 b, .bool s], .int .i64 6, .int .i64 x, .int .i64 y] w fun e w' => e = .returned (.tuple #[.int .i64 V, .bool O]) ∧ Gr w w' := by
  have HL := Lib.hid L
  clear L
  go_enter Tryd.func10, Tryd.ntmps10
  go_wp2_with fail
  refine (wreck_as b s true HR _ (HL.out.gr ((Gr.refl _).alloc _ _))).mono ?_
  rintro e w1 ⟨rfl, hg⟩
  obtain ⟨a1, a2, a3, a4⟩ := hg.two (k := w.heap.size) (by first | omega | (simp; done) | (simp; omega))
  have hz : w.heap.size < w1.heap.size := by have := hg.size; simp at this; omega
  have HG := Lib.hid hg
  clear hg
  go_wp2_with fail
  refine (wwrap_as b s x A hx HA _).mono ?_
  rintro e w2 ⟨rfl, hg⟩
  obtain ⟨b1, b2, b3, b4⟩ := hg.two (k := w.heap.size) hz
  have hz2 : w.heap.size < w2.heap.size := by have := hg.size; omega
  rw [a1] at b1
  rw [a2] at b2
  rw [a3] at b3
  rw [a4] at b4
  have HG2 := Lib.hid (HG.out.trans hg)
  clear hg a1 a2 a3 a4 HG
  go_wp2_with fail
  refine (wwrap_as b s y B hy HB _).mono ?_
  rintro e w3 ⟨rfl, hg⟩
  obtain ⟨c1, c2, c3, c4⟩ := hg.two (k := w.heap.size) hz2
  rw [b1] at c1
  rw [b2] at c2
  rw [b3] at c3
  rw [b4] at c4
  have HG3 := Lib.hid (HG2.out.trans hg)
  clear hg b1 b2 b3 b4 HG2
  go_wp2_with fail
  refine (H.out _ (HL.out.gr HG3.out.of_alloc)).mono ?_
  rintro e w4 ⟨rfl, hg⟩
  have HG4 := Lib.hid (HG3.out.trans hg)
  clear hg HG3
  go_wp2_with fail
  go_returns
  exact ⟨rt rfl rfl rfl rfl, HG4.out.of_alloc⟩

set_option maxHeartbeats 800000 in
theorem wbin_5 (b : Int) (s : Bool) (x y A V : Int) (O : Bool) (HR : Hid (Wd.reck b = true)) (hx : -9223372036854775808 ≤ x ∧ x ≤ 9223372036854775807) (hy : -9223372036854775808 ≤ y ∧ y ≤ 9223372036854775807) (B : Int) (HB : Hid (Wd.wrap b s y = B)) (HA : Hid (Wd.wrap b s x = A)) (H : Hid (∀ w, Laid w → Calls Tryd.prog 34 #[.agg #[.int .i64 b, .bool s], .bool true, .int .i64 A, .int .i64 B] w fun e w' => e = .returned (.tuple #[.int .i64 V, .bool O]) ∧ Gr w w')) (w : World) (L : Laid w) :
    Calls Tryd.prog 10 #[.agg #[.int .i64 b, .bool s], .int .i64 5, .int .i64 x, .int .i64 y] w fun e w' => e = .returned (.tuple #[.int .i64 V, .bool O]) ∧ Gr w w' := by
  have HL := Lib.hid L
  clear L
  go_enter Tryd.func10, Tryd.ntmps10
  go_wp2_with fail
  refine (wreck_as b s true HR _ (HL.out.gr ((Gr.refl _).alloc _ _))).mono ?_
  rintro e w1 ⟨rfl, hg⟩
  obtain ⟨a1, a2, a3, a4⟩ := hg.two (k := w.heap.size) (by first | omega | (simp; done) | (simp; omega))
  have hz : w.heap.size < w1.heap.size := by have := hg.size; simp at this; omega
  have HG := Lib.hid hg
  clear hg
  go_wp2_with fail
  refine (wwrap_as b s x A hx HA _).mono ?_
  rintro e w2 ⟨rfl, hg⟩
  obtain ⟨b1, b2, b3, b4⟩ := hg.two (k := w.heap.size) hz
  have hz2 : w.heap.size < w2.heap.size := by have := hg.size; omega
  rw [a1] at b1
  rw [a2] at b2
  rw [a3] at b3
  rw [a4] at b4
  have HG2 := Lib.hid (HG.out.trans hg)
  clear hg a1 a2 a3 a4 HG
  go_wp2_with fail
  refine (wwrap_as b s y B hy HB _).mono ?_
  rintro e w3 ⟨rfl, hg⟩
  obtain ⟨c1, c2, c3, c4⟩ := hg.two (k := w.heap.size) hz2
  rw [b1] at c1
  rw [b2] at c2
  rw [b3] at c3
  rw [b4] at c4
  have HG3 := Lib.hid (HG2.out.trans hg)
  clear hg b1 b2 b3 b4 HG2
  go_wp2_with fail
  refine (H.out _ (HL.out.gr HG3.out.of_alloc)).mono ?_
  rintro e w4 ⟨rfl, hg⟩
  have HG4 := Lib.hid (HG3.out.trans hg)
  clear hg HG3
  go_wp2_with fail
  go_returns
  exact ⟨rt rfl rfl rfl rfl, HG4.out.of_alloc⟩

set_option maxHeartbeats 800000 in
theorem wbin_7 (b : Int) (s : Bool) (x y A V : Int) (O : Bool) (HR : Hid (Wd.reck b = true)) (hx : -9223372036854775808 ≤ x ∧ x ≤ 9223372036854775807) (hy : -9223372036854775808 ≤ y ∧ y ≤ 9223372036854775807) (B : Int) (HB : Hid (Wd.wrap b s y = B)) (HA : Hid (Wd.wrap b s x = A)) (H : Hid (∀ w, Laid w → Calls Tryd.prog 34 #[.agg #[.int .i64 b, .bool s], .bool true, .int .i64 A, .int .i64 B] w fun e w' => e = .returned (.tuple #[.int .i64 V, .bool O]) ∧ Gr w w')) (w : World) (L : Laid w) :
    Calls Tryd.prog 10 #[.agg #[.int .i64 b, .bool s], .int .i64 7, .int .i64 x, .int .i64 y] w fun e w' => e = .returned (.tuple #[.int .i64 V, .bool O]) ∧ Gr w w' := by
  have HL := Lib.hid L
  clear L
  go_enter Tryd.func10, Tryd.ntmps10
  go_wp2_with fail
  refine (wreck_as b s true HR _ (HL.out.gr ((Gr.refl _).alloc _ _))).mono ?_
  rintro e w1 ⟨rfl, hg⟩
  obtain ⟨a1, a2, a3, a4⟩ := hg.two (k := w.heap.size) (by first | omega | (simp; done) | (simp; omega))
  have hz : w.heap.size < w1.heap.size := by have := hg.size; simp at this; omega
  have HG := Lib.hid hg
  clear hg
  go_wp2_with fail
  refine (wwrap_as b s x A hx HA _).mono ?_
  rintro e w2 ⟨rfl, hg⟩
  obtain ⟨b1, b2, b3, b4⟩ := hg.two (k := w.heap.size) hz
  have hz2 : w.heap.size < w2.heap.size := by have := hg.size; omega
  rw [a1] at b1
  rw [a2] at b2
  rw [a3] at b3
  rw [a4] at b4
  have HG2 := Lib.hid (HG.out.trans hg)
  clear hg a1 a2 a3 a4 HG
  go_wp2_with fail
  refine (wwrap_as b s y B hy HB _).mono ?_
  rintro e w3 ⟨rfl, hg⟩
  obtain ⟨c1, c2, c3, c4⟩ := hg.two (k := w.heap.size) hz2
  rw [b1] at c1
  rw [b2] at c2
  rw [b3] at c3
  rw [b4] at c4
  have HG3 := Lib.hid (HG2.out.trans hg)
  clear hg b1 b2 b3 b4 HG2
  go_wp2_with fail
  refine (H.out _ (HL.out.gr HG3.out.of_alloc)).mono ?_
  rintro e w4 ⟨rfl, hg⟩
  have HG4 := Lib.hid (HG3.out.trans hg)
  clear hg HG3
  go_wp2_with fail
  go_returns
  exact ⟨rt rfl rfl rfl rfl, HG4.out.of_alloc⟩

set_option maxHeartbeats 800000 in
theorem wbin_8 (b : Int) (s : Bool) (x y A V : Int) (O : Bool) (HR : Hid (Wd.reck b = true)) (hx : -9223372036854775808 ≤ x ∧ x ≤ 9223372036854775807) (hy : -9223372036854775808 ≤ y ∧ y ≤ 9223372036854775807) (B : Int) (HB : Hid (Wd.wrap b s y = B)) (HA : Hid (Wd.wrap b s x = A)) (hA : -9223372036854775808 ≤ A ∧ A ≤ 9223372036854775807) (hB : -9223372036854775808 ≤ B ∧ B ≤ 9223372036854775807) (HV : Hid (Wd.plainV 8 A B = V)) (HO : Hid (Wd.plainOk 8 A B = O)) (w : World) (L : Laid w) :
    Calls Tryd.prog 10 #[.agg #[.int .i64 b, .bool s], .int .i64 8, .int .i64 x, .int .i64 y] w fun e w' => e = .returned (.tuple #[.int .i64 V, .bool O]) ∧ Gr w w' := by
  have HL := Lib.hid L
  clear L
  go_enter Tryd.func10, Tryd.ntmps10
  go_wp2_with fail
  refine (wreck_as b s true HR _ (HL.out.gr ((Gr.refl _).alloc _ _))).mono ?_
  rintro e w1 ⟨rfl, hg⟩
  obtain ⟨a1, a2, a3, a4⟩ := hg.two (k := w.heap.size) (by first | omega | (simp; done) | (simp; omega))
  have hz : w.heap.size < w1.heap.size := by have := hg.size; simp at this; omega
  have HG := Lib.hid hg
  clear hg
  go_wp2_with fail
  refine (wwrap_as b s x A hx HA _).mono ?_
  rintro e w2 ⟨rfl, hg⟩
  obtain ⟨b1, b2, b3, b4⟩ := hg.two (k := w.heap.size) hz
  have hz2 : w.heap.size < w2.heap.size := by have := hg.size; omega
  rw [a1] at b1
  rw [a2] at b2
  rw [a3] at b3
  rw [a4] at b4
  have HG2 := Lib.hid (HG.out.trans hg)
  clear hg a1 a2 a3 a4 HG
  go_wp2_with fail
  refine (wwrap_as b s y B hy HB _).mono ?_
  rintro e w3 ⟨rfl, hg⟩
  obtain ⟨c1, c2, c3, c4⟩ := hg.two (k := w.heap.size) hz2
  rw [b1] at c1
  rw [b2] at c2
  rw [b3] at c3
  rw [b4] at c4
  have HG3 := Lib.hid (HG2.out.trans hg)
  clear hg b1 b2 b3 b4 HG2
  go_wp2_with fail
  refine (wplain_as 8 A B V O hA hB HV HO _).mono ?_
  rintro e w4 ⟨rfl, rfl⟩
  go_wp2_with fail
  go_returns
  exact ⟨rt rfl rfl rfl rfl, HG3.out.of_alloc⟩

set_option maxHeartbeats 800000 in
theorem wbin_9 (b : Int) (s : Bool) (x y A V : Int) (O : Bool) (HR : Hid (Wd.reck b = true)) (hx : -9223372036854775808 ≤ x ∧ x ≤ 9223372036854775807) (hy : -9223372036854775808 ≤ y ∧ y ≤ 9223372036854775807) (B : Int) (HB : Hid (Wd.wrap b s y = B)) (HA : Hid (Wd.wrap b s x = A)) (hA : -9223372036854775808 ≤ A ∧ A ≤ 9223372036854775807) (hB : -9223372036854775808 ≤ B ∧ B ≤ 9223372036854775807) (HV : Hid (Wd.plainV 9 A B = V)) (HO : Hid (Wd.plainOk 9 A B = O)) (w : World) (L : Laid w) :
    Calls Tryd.prog 10 #[.agg #[.int .i64 b, .bool s], .int .i64 9, .int .i64 x, .int .i64 y] w fun e w' => e = .returned (.tuple #[.int .i64 V, .bool O]) ∧ Gr w w' := by
  have HL := Lib.hid L
  clear L
  go_enter Tryd.func10, Tryd.ntmps10
  go_wp2_with fail
  refine (wreck_as b s true HR _ (HL.out.gr ((Gr.refl _).alloc _ _))).mono ?_
  rintro e w1 ⟨rfl, hg⟩
  obtain ⟨a1, a2, a3, a4⟩ := hg.two (k := w.heap.size) (by first | omega | (simp; done) | (simp; omega))
  have hz : w.heap.size < w1.heap.size := by have := hg.size; simp at this; omega
  have HG := Lib.hid hg
  clear hg
  go_wp2_with fail
  refine (wwrap_as b s x A hx HA _).mono ?_
  rintro e w2 ⟨rfl, hg⟩
  obtain ⟨b1, b2, b3, b4⟩ := hg.two (k := w.heap.size) hz
  have hz2 : w.heap.size < w2.heap.size := by have := hg.size; omega
  rw [a1] at b1
  rw [a2] at b2
  rw [a3] at b3
  rw [a4] at b4
  have HG2 := Lib.hid (HG.out.trans hg)
  clear hg a1 a2 a3 a4 HG
  go_wp2_with fail
  refine (wwrap_as b s y B hy HB _).mono ?_
  rintro e w3 ⟨rfl, hg⟩
  obtain ⟨c1, c2, c3, c4⟩ := hg.two (k := w.heap.size) hz2
  rw [b1] at c1
  rw [b2] at c2
  rw [b3] at c3
  rw [b4] at c4
  have HG3 := Lib.hid (HG2.out.trans hg)
  clear hg b1 b2 b3 b4 HG2
  go_wp2_with fail
  refine (wplain_as 9 A B V O hA hB HV HO _).mono ?_
  rintro e w4 ⟨rfl, rfl⟩
  go_wp2_with fail
  go_returns
  exact ⟨rt rfl rfl rfl rfl, HG3.out.of_alloc⟩

set_option maxHeartbeats 800000 in
theorem wbin_10 (b : Int) (s : Bool) (x y A V : Int) (O : Bool) (HR : Hid (Wd.reck b = true)) (hx : -9223372036854775808 ≤ x ∧ x ≤ 9223372036854775807) (hy : -9223372036854775808 ≤ y ∧ y ≤ 9223372036854775807) (B : Int) (HB : Hid (Wd.wrap b s y = B)) (HA : Hid (Wd.wrap b s x = A)) (hA : -9223372036854775808 ≤ A ∧ A ≤ 9223372036854775807) (hB : -9223372036854775808 ≤ B ∧ B ≤ 9223372036854775807) (HV : Hid (Wd.plainV 10 A B = V)) (HO : Hid (Wd.plainOk 10 A B = O)) (w : World) (L : Laid w) :
    Calls Tryd.prog 10 #[.agg #[.int .i64 b, .bool s], .int .i64 10, .int .i64 x, .int .i64 y] w fun e w' => e = .returned (.tuple #[.int .i64 V, .bool O]) ∧ Gr w w' := by
  have HL := Lib.hid L
  clear L
  go_enter Tryd.func10, Tryd.ntmps10
  go_wp2_with fail
  refine (wreck_as b s true HR _ (HL.out.gr ((Gr.refl _).alloc _ _))).mono ?_
  rintro e w1 ⟨rfl, hg⟩
  obtain ⟨a1, a2, a3, a4⟩ := hg.two (k := w.heap.size) (by first | omega | (simp; done) | (simp; omega))
  have hz : w.heap.size < w1.heap.size := by have := hg.size; simp at this; omega
  have HG := Lib.hid hg
  clear hg
  go_wp2_with fail
  refine (wwrap_as b s x A hx HA _).mono ?_
  rintro e w2 ⟨rfl, hg⟩
  obtain ⟨b1, b2, b3, b4⟩ := hg.two (k := w.heap.size) hz
  have hz2 : w.heap.size < w2.heap.size := by have := hg.size; omega
  rw [a1] at b1
  rw [a2] at b2
  rw [a3] at b3
  rw [a4] at b4
  have HG2 := Lib.hid (HG.out.trans hg)
  clear hg a1 a2 a3 a4 HG
  go_wp2_with fail
  refine (wwrap_as b s y B hy HB _).mono ?_
  rintro e w3 ⟨rfl, hg⟩
  obtain ⟨c1, c2, c3, c4⟩ := hg.two (k := w.heap.size) hz2
  rw [b1] at c1
  rw [b2] at c2
  rw [b3] at c3
  rw [b4] at c4
  have HG3 := Lib.hid (HG2.out.trans hg)
  clear hg b1 b2 b3 b4 HG2
  go_wp2_with fail
  refine (wplain_as 10 A B V O hA hB HV HO _).mono ?_
  rintro e w4 ⟨rfl, rfl⟩
  go_wp2_with fail
  go_returns
  exact ⟨rt rfl rfl rfl rfl, HG3.out.of_alloc⟩

set_option maxHeartbeats 800000 in
theorem wbin_14 (b : Int) (s : Bool) (x y A V : Int) (O : Bool) (HR : Hid (Wd.reck b = true)) (hx : -9223372036854775808 ≤ x ∧ x ≤ 9223372036854775807) (hy : -9223372036854775808 ≤ y ∧ y ≤ 9223372036854775807) (B : Int) (HB : Hid (Wd.wrap b s y = B)) (HA : Hid (Wd.wrap b s x = A)) (hA : -9223372036854775808 ≤ A ∧ A ≤ 9223372036854775807) (hB : -9223372036854775808 ≤ B ∧ B ≤ 9223372036854775807) (HV : Hid (Wd.plainV 14 A B = V)) (HO : Hid (Wd.plainOk 14 A B = O)) (w : World) (L : Laid w) :
    Calls Tryd.prog 10 #[.agg #[.int .i64 b, .bool s], .int .i64 14, .int .i64 x, .int .i64 y] w fun e w' => e = .returned (.tuple #[.int .i64 V, .bool O]) ∧ Gr w w' := by
  have HL := Lib.hid L
  clear L
  go_enter Tryd.func10, Tryd.ntmps10
  go_wp2_with fail
  refine (wreck_as b s true HR _ (HL.out.gr ((Gr.refl _).alloc _ _))).mono ?_
  rintro e w1 ⟨rfl, hg⟩
  obtain ⟨a1, a2, a3, a4⟩ := hg.two (k := w.heap.size) (by first | omega | (simp; done) | (simp; omega))
  have hz : w.heap.size < w1.heap.size := by have := hg.size; simp at this; omega
  have HG := Lib.hid hg
  clear hg
  go_wp2_with fail
  refine (wwrap_as b s x A hx HA _).mono ?_
  rintro e w2 ⟨rfl, hg⟩
  obtain ⟨b1, b2, b3, b4⟩ := hg.two (k := w.heap.size) hz
  have hz2 : w.heap.size < w2.heap.size := by have := hg.size; omega
  rw [a1] at b1
  rw [a2] at b2
  rw [a3] at b3
  rw [a4] at b4
  have HG2 := Lib.hid (HG.out.trans hg)
  clear hg a1 a2 a3 a4 HG
  go_wp2_with fail
  refine (wwrap_as b s y B hy HB _).mono ?_
  rintro e w3 ⟨rfl, hg⟩
  obtain ⟨c1, c2, c3, c4⟩ := hg.two (k := w.heap.size) hz2
  rw [b1] at c1
  rw [b2] at c2
  rw [b3] at c3
  rw [b4] at c4
  have HG3 := Lib.hid (HG2.out.trans hg)
  clear hg b1 b2 b3 b4 HG2
  go_wp2_with fail
  refine (wplain_as 14 A B V O hA hB HV HO _).mono ?_
  rintro e w4 ⟨rfl, rfl⟩
  go_wp2_with fail
  go_returns
  exact ⟨rt rfl rfl rfl rfl, HG3.out.of_alloc⟩

set_option maxHeartbeats 800000 in
theorem wbin_15 (b : Int) (s : Bool) (x y A V : Int) (O : Bool) (HR : Hid (Wd.reck b = true)) (hx : -9223372036854775808 ≤ x ∧ x ≤ 9223372036854775807) (hy : -9223372036854775808 ≤ y ∧ y ≤ 9223372036854775807) (B : Int) (HB : Hid (Wd.wrap b s y = B)) (HA : Hid (Wd.wrap b s x = A)) (hA : -9223372036854775808 ≤ A ∧ A ≤ 9223372036854775807) (hB : -9223372036854775808 ≤ B ∧ B ≤ 9223372036854775807) (HV : Hid (Wd.plainV 15 A B = V)) (HO : Hid (Wd.plainOk 15 A B = O)) (w : World) (L : Laid w) :
    Calls Tryd.prog 10 #[.agg #[.int .i64 b, .bool s], .int .i64 15, .int .i64 x, .int .i64 y] w fun e w' => e = .returned (.tuple #[.int .i64 V, .bool O]) ∧ Gr w w' := by
  have HL := Lib.hid L
  clear L
  go_enter Tryd.func10, Tryd.ntmps10
  go_wp2_with fail
  refine (wreck_as b s true HR _ (HL.out.gr ((Gr.refl _).alloc _ _))).mono ?_
  rintro e w1 ⟨rfl, hg⟩
  obtain ⟨a1, a2, a3, a4⟩ := hg.two (k := w.heap.size) (by first | omega | (simp; done) | (simp; omega))
  have hz : w.heap.size < w1.heap.size := by have := hg.size; simp at this; omega
  have HG := Lib.hid hg
  clear hg
  go_wp2_with fail
  refine (wwrap_as b s x A hx HA _).mono ?_
  rintro e w2 ⟨rfl, hg⟩
  obtain ⟨b1, b2, b3, b4⟩ := hg.two (k := w.heap.size) hz
  have hz2 : w.heap.size < w2.heap.size := by have := hg.size; omega
  rw [a1] at b1
  rw [a2] at b2
  rw [a3] at b3
  rw [a4] at b4
  have HG2 := Lib.hid (HG.out.trans hg)
  clear hg a1 a2 a3 a4 HG
  go_wp2_with fail
  refine (wwrap_as b s y B hy HB _).mono ?_
  rintro e w3 ⟨rfl, hg⟩
  obtain ⟨c1, c2, c3, c4⟩ := hg.two (k := w.heap.size) hz2
  rw [b1] at c1
  rw [b2] at c2
  rw [b3] at c3
  rw [b4] at c4
  have HG3 := Lib.hid (HG2.out.trans hg)
  clear hg b1 b2 b3 b4 HG2
  go_wp2_with fail
  refine (wplain_as 15 A B V O hA hB HV HO _).mono ?_
  rintro e w4 ⟨rfl, rfl⟩
  go_wp2_with fail
  go_returns
  exact ⟨rt rfl rfl rfl rfl, HG3.out.of_alloc⟩

set_option maxHeartbeats 800000 in
theorem wbin_16 (b : Int) (s : Bool) (x y A V : Int) (O : Bool) (HR : Hid (Wd.reck b = true)) (hx : -9223372036854775808 ≤ x ∧ x ≤ 9223372036854775807) (hy : -9223372036854775808 ≤ y ∧ y ≤ 9223372036854775807) (B : Int) (HB : Hid (Wd.wrap b s y = B)) (HA : Hid (Wd.wrap b s x = A)) (hA : -9223372036854775808 ≤ A ∧ A ≤ 9223372036854775807) (hB : -9223372036854775808 ≤ B ∧ B ≤ 9223372036854775807) (P : Int) (HP : Hid ((if s then 16 else 18) = P)) (HV : Hid (Wd.plainV P A B = V)) (HO : Hid (Wd.plainOk P A B = O)) (w : World) (L : Laid w) :
    Calls Tryd.prog 10 #[.agg #[.int .i64 b, .bool s], .int .i64 16, .int .i64 x, .int .i64 y] w fun e w' => e = .returned (.tuple #[.int .i64 V, .bool O]) ∧ Gr w w' := by
  have HL := Lib.hid L
  clear L
  go_enter Tryd.func10, Tryd.ntmps10
  go_wp2_with fail
  refine (wreck_as b s true HR _ (HL.out.gr ((Gr.refl _).alloc _ _))).mono ?_
  rintro e w1 ⟨rfl, hg⟩
  obtain ⟨a1, a2, a3, a4⟩ := hg.two (k := w.heap.size) (by first | omega | (simp; done) | (simp; omega))
  have hz : w.heap.size < w1.heap.size := by have := hg.size; simp at this; omega
  have HG := Lib.hid hg
  clear hg
  go_wp2_with fail
  refine (wwrap_as b s x A hx HA _).mono ?_
  rintro e w2 ⟨rfl, hg⟩
  obtain ⟨b1, b2, b3, b4⟩ := hg.two (k := w.heap.size) hz
  have hz2 : w.heap.size < w2.heap.size := by have := hg.size; omega
  rw [a1] at b1
  rw [a2] at b2
  rw [a3] at b3
  rw [a4] at b4
  have HG2 := Lib.hid (HG.out.trans hg)
  clear hg a1 a2 a3 a4 HG
  go_wp2_with fail
  refine (wwrap_as b s y B hy HB _).mono ?_
  rintro e w3 ⟨rfl, hg⟩
  obtain ⟨c1, c2, c3, c4⟩ := hg.two (k := w.heap.size) hz2
  rw [b1] at c1
  rw [b2] at c2
  rw [b3] at c3
  rw [b4] at c4
  have HG3 := Lib.hid (HG2.out.trans hg)
  clear hg b1 b2 b3 b4 HG2
  go_wp2_with fail
  refine (wbysign_as b s 16 18 P HP _).mono ?_
  rintro e w4 ⟨rfl, hg⟩
  have HG4 := Lib.hid (HG3.out.trans hg)
  clear hg HG3
  go_wp2_with fail
  refine (wplain_as P A B V O hA hB HV HO _).mono ?_
  rintro e w5 ⟨rfl, rfl⟩
  go_wp2_with fail
  go_returns
  exact ⟨rt rfl rfl rfl rfl, HG4.out.of_alloc⟩

set_option maxHeartbeats 800000 in
theorem wbin_18 (b : Int) (s : Bool) (x y A V : Int) (O : Bool) (HR : Hid (Wd.reck b = true)) (hx : -9223372036854775808 ≤ x ∧ x ≤ 9223372036854775807) (hy : -9223372036854775808 ≤ y ∧ y ≤ 9223372036854775807) (B : Int) (HB : Hid (Wd.wrap b s y = B)) (HA : Hid (Wd.wrap b s x = A)) (hA : -9223372036854775808 ≤ A ∧ A ≤ 9223372036854775807) (hB : -9223372036854775808 ≤ B ∧ B ≤ 9223372036854775807) (P : Int) (HP : Hid ((if s then 16 else 18) = P)) (HV : Hid (Wd.plainV P A B = V)) (HO : Hid (Wd.plainOk P A B = O)) (w : World) (L : Laid w) :
    Calls Tryd.prog 10 #[.agg #[.int .i64 b, .bool s], .int .i64 18, .int .i64 x, .int .i64 y] w fun e w' => e = .returned (.tuple #[.int .i64 V, .bool O]) ∧ Gr w w' := by
  have HL := Lib.hid L
  clear L
  go_enter Tryd.func10, Tryd.ntmps10
  go_wp2_with fail
  refine (wreck_as b s true HR _ (HL.out.gr ((Gr.refl _).alloc _ _))).mono ?_
  rintro e w1 ⟨rfl, hg⟩
  obtain ⟨a1, a2, a3, a4⟩ := hg.two (k := w.heap.size) (by first | omega | (simp; done) | (simp; omega))
  have hz : w.heap.size < w1.heap.size := by have := hg.size; simp at this; omega
  have HG := Lib.hid hg
  clear hg
  go_wp2_with fail
  refine (wwrap_as b s x A hx HA _).mono ?_
  rintro e w2 ⟨rfl, hg⟩
  obtain ⟨b1, b2, b3, b4⟩ := hg.two (k := w.heap.size) hz
  have hz2 : w.heap.size < w2.heap.size := by have := hg.size; omega
  rw [a1] at b1
  rw [a2] at b2
  rw [a3] at b3
  rw [a4] at b4
  have HG2 := Lib.hid (HG.out.trans hg)
  clear hg a1 a2 a3 a4 HG
  go_wp2_with fail
  refine (wwrap_as b s y B hy HB _).mono ?_
  rintro e w3 ⟨rfl, hg⟩
  obtain ⟨c1, c2, c3, c4⟩ := hg.two (k := w.heap.size) hz2
  rw [b1] at c1
  rw [b2] at c2
  rw [b3] at c3
  rw [b4] at c4
  have HG3 := Lib.hid (HG2.out.trans hg)
  clear hg b1 b2 b3 b4 HG2
  go_wp2_with fail
  refine (wbysign_as b s 16 18 P HP _).mono ?_
  rintro e w4 ⟨rfl, hg⟩
  have HG4 := Lib.hid (HG3.out.trans hg)
  clear hg HG3
  go_wp2_with fail
  refine (wplain_as P A B V O hA hB HV HO _).mono ?_
  rintro e w5 ⟨rfl, rfl⟩
  go_wp2_with fail
  go_returns
  exact ⟨rt rfl rfl rfl rfl, HG4.out.of_alloc⟩

set_option maxHeartbeats 800000 in
theorem wbin_17 (b : Int) (s : Bool) (x y A V : Int) (O : Bool) (HR : Hid (Wd.reck b = true)) (hx : -9223372036854775808 ≤ x ∧ x ≤ 9223372036854775807) (hy : -9223372036854775808 ≤ y ∧ y ≤ 9223372036854775807) (B : Int) (HB : Hid (Wd.wrap b s y = B)) (HA : Hid (Wd.wrap b s x = A)) (hA : -9223372036854775808 ≤ A ∧ A ≤ 9223372036854775807) (hB : -9223372036854775808 ≤ B ∧ B ≤ 9223372036854775807) (P : Int) (HP : Hid ((if s then 17 else 19) = P)) (HV : Hid (Wd.plainV P A B = V)) (HO : Hid (Wd.plainOk P A B = O)) (w : World) (L : Laid w) :
    Calls Tryd.prog 10 #[.agg #[.int .i64 b, .bool s], .int .i64 17, .int .i64 x, .int .i64 y] w fun e w' => e = .returned (.tuple #[.int .i64 V, .bool O]) ∧ Gr w w' := by
  have HL := Lib.hid L
  clear L
  go_enter Tryd.func10, Tryd.ntmps10
  go_wp2_with fail
  refine (wreck_as b s true HR _ (HL.out.gr ((Gr.refl _).alloc _ _))).mono ?_
  rintro e w1 ⟨rfl, hg⟩
  obtain ⟨a1, a2, a3, a4⟩ := hg.two (k := w.heap.size) (by first | omega | (simp; done) | (simp; omega))
  have hz : w.heap.size < w1.heap.size := by have := hg.size; simp at this; omega
  have HG := Lib.hid hg
  clear hg
  go_wp2_with fail
  refine (wwrap_as b s x A hx HA _).mono ?_
  rintro e w2 ⟨rfl, hg⟩
  obtain ⟨b1, b2, b3, b4⟩ := hg.two (k := w.heap.size) hz
  have hz2 : w.heap.size < w2.heap.size := by have := hg.size; omega
  rw [a1] at b1
  rw [a2] at b2
  rw [a3] at b3
  rw [a4] at b4
  have HG2 := Lib.hid (HG.out.trans hg)
  clear hg a1 a2 a3 a4 HG
  go_wp2_with fail
  refine (wwrap_as b s y B hy HB _).mono ?_
  rintro e w3 ⟨rfl, hg⟩
  obtain ⟨c1, c2, c3, c4⟩ := hg.two (k := w.heap.size) hz2
  rw [b1] at c1
  rw [b2] at c2
  rw [b3] at c3
  rw [b4] at c4
  have HG3 := Lib.hid (HG2.out.trans hg)
  clear hg b1 b2 b3 b4 HG2
  go_wp2_with fail
  refine (wbysign_as b s 17 19 P HP _).mono ?_
  rintro e w4 ⟨rfl, hg⟩
  have HG4 := Lib.hid (HG3.out.trans hg)
  clear hg HG3
  go_wp2_with fail
  refine (wplain_as P A B V O hA hB HV HO _).mono ?_
  rintro e w5 ⟨rfl, rfl⟩
  go_wp2_with fail
  go_returns
  exact ⟨rt rfl rfl rfl rfl, HG4.out.of_alloc⟩

set_option maxHeartbeats 800000 in
theorem wbin_19 (b : Int) (s : Bool) (x y A V : Int) (O : Bool) (HR : Hid (Wd.reck b = true)) (hx : -9223372036854775808 ≤ x ∧ x ≤ 9223372036854775807) (hy : -9223372036854775808 ≤ y ∧ y ≤ 9223372036854775807) (B : Int) (HB : Hid (Wd.wrap b s y = B)) (HA : Hid (Wd.wrap b s x = A)) (hA : -9223372036854775808 ≤ A ∧ A ≤ 9223372036854775807) (hB : -9223372036854775808 ≤ B ∧ B ≤ 9223372036854775807) (P : Int) (HP : Hid ((if s then 17 else 19) = P)) (HV : Hid (Wd.plainV P A B = V)) (HO : Hid (Wd.plainOk P A B = O)) (w : World) (L : Laid w) :
    Calls Tryd.prog 10 #[.agg #[.int .i64 b, .bool s], .int .i64 19, .int .i64 x, .int .i64 y] w fun e w' => e = .returned (.tuple #[.int .i64 V, .bool O]) ∧ Gr w w' := by
  have HL := Lib.hid L
  clear L
  go_enter Tryd.func10, Tryd.ntmps10
  go_wp2_with fail
  refine (wreck_as b s true HR _ (HL.out.gr ((Gr.refl _).alloc _ _))).mono ?_
  rintro e w1 ⟨rfl, hg⟩
  obtain ⟨a1, a2, a3, a4⟩ := hg.two (k := w.heap.size) (by first | omega | (simp; done) | (simp; omega))
  have hz : w.heap.size < w1.heap.size := by have := hg.size; simp at this; omega
  have HG := Lib.hid hg
  clear hg
  go_wp2_with fail
  refine (wwrap_as b s x A hx HA _).mono ?_
  rintro e w2 ⟨rfl, hg⟩
  obtain ⟨b1, b2, b3, b4⟩ := hg.two (k := w.heap.size) hz
  have hz2 : w.heap.size < w2.heap.size := by have := hg.size; omega
  rw [a1] at b1
  rw [a2] at b2
  rw [a3] at b3
  rw [a4] at b4
  have HG2 := Lib.hid (HG.out.trans hg)
  clear hg a1 a2 a3 a4 HG
  go_wp2_with fail
  refine (wwrap_as b s y B hy HB _).mono ?_
  rintro e w3 ⟨rfl, hg⟩
  obtain ⟨c1, c2, c3, c4⟩ := hg.two (k := w.heap.size) hz2
  rw [b1] at c1
  rw [b2] at c2
  rw [b3] at c3
  rw [b4] at c4
  have HG3 := Lib.hid (HG2.out.trans hg)
  clear hg b1 b2 b3 b4 HG2
  go_wp2_with fail
  refine (wbysign_as b s 17 19 P HP _).mono ?_
  rintro e w4 ⟨rfl, hg⟩
  have HG4 := Lib.hid (HG3.out.trans hg)
  clear hg HG3
  go_wp2_with fail
  refine (wplain_as P A B V O hA hB HV HO _).mono ?_
  rintro e w5 ⟨rfl, rfl⟩
  go_wp2_with fail
  go_returns
  exact ⟨rt rfl rfl rfl rfl, HG4.out.of_alloc⟩

set_option maxHeartbeats 800000 in
theorem wbin_bad (sub : Int) (hs : sub < 1 ∨ 19 < sub) (b : Int) (s : Bool) (x y A V : Int) (O : Bool) (HR : Hid (Wd.reck b = true)) (hx : -9223372036854775808 ≤ x ∧ x ≤ 9223372036854775807) (hy : -9223372036854775808 ≤ y ∧ y ≤ 9223372036854775807) (B : Int) (HB : Hid (Wd.wrap b s y = B)) (HA : Hid (Wd.wrap b s x = A)) (w : World) (L : Laid w) :
    Calls Tryd.prog 10 #[.agg #[.int .i64 b, .bool s], .int .i64 sub, .int .i64 x, .int .i64 y] w fun e w' => e = .returned (.tuple #[.int .i64 0, .bool false]) ∧ Gr w w' := by
  have e11 : (sub == 11) = false := by rw [beq_eq_false_iff_ne]; omega
  have e12 : (sub == 12) = false := by rw [beq_eq_false_iff_ne]; omega
  have e13 : (sub == 13) = false := by rw [beq_eq_false_iff_ne]; omega
  rcases hs with hs | hs
  all_goals
    have HL := Lib.hid L
    clear L
    go_enter Tryd.func10, Tryd.ntmps10
    go_wp2_with fail
    refine (wreck_as b s true HR _ (HL.out.gr ((Gr.refl _).alloc _ _))).mono ?_
    rintro e w1 ⟨rfl, hg⟩
    obtain ⟨a1, a2, a3, a4⟩ := hg.two (k := w.heap.size) (by first | omega | (simp; done) | (simp; omega))
    have hz : w.heap.size < w1.heap.size := by have := hg.size; simp at this; omega
    have HG := Lib.hid hg
    clear hg
    go_wp2_with fail
    refine (wwrap_as b s x A hx HA _).mono ?_
    rintro e w2 ⟨rfl, hg⟩
    obtain ⟨b1, b2, b3, b4⟩ := hg.two (k := w.heap.size) hz
    have hz2 : w.heap.size < w2.heap.size := by have := hg.size; omega
    rw [a1] at b1
    rw [a2] at b2
    rw [a3] at b3
    rw [a4] at b4
    have HG2 := Lib.hid (HG.out.trans hg)
    clear hg a1 a2 a3 a4 HG
    go_wp2_with fail
    refine (wwrap_as b s y B hy HB _).mono ?_
    rintro e w3 ⟨rfl, hg⟩
    obtain ⟨c1, c2, c3, c4⟩ := hg.two (k := w.heap.size) hz2
    rw [b1] at c1
    rw [b2] at c2
    rw [b3] at c3
    rw [b4] at c4
    have HG3 := Lib.hid (HG2.out.trans hg)
    clear hg b1 b2 b3 b4 HG2
    go_wp2_with fail
    go_returns
    exact ⟨rt rfl rfl rfl rfl, HG3.out.of_alloc⟩

end Go.Proofs.YtkjhdanfbmdmlaaDoor
