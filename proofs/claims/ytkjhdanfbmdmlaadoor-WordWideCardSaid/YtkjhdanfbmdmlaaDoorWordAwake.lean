/- The law's own example: awake answers true. -/
import Derived.Test.YtkjhdanfbmdmlaaDoorWordBinary
import Derived.Test.YtkjhdanfbmdmlaaDoorWordText
import Derived.Test.YtkjhdanfbmdmlaaDoorWordUsualW
namespace Go.Proofs.YtkjhdanfbmdmlaaDoor
open Go.RowKit
set_option linter.unusedVariables false
set_option linter.unusedSimpArgs false

theorem binary_as (b : Int) (s : Bool) (sub x y V : Int) (O : Bool) (hx : -9223372036854775808 ≤ x ∧ x ≤ 9223372036854775807) (hy : -9223372036854775808 ≤ y ∧ y ≤ 9223372036854775807)
    (HV : Hid (Wd.bval b s sub x y = V)) (HO : Hid (Wd.bok b s sub x y = O)) (w : World) (L : Laid w) :
    Calls Tryd.prog 10 #[.agg #[.int .i64 b, .bool s], .int .i64 sub, .int .i64 x, .int .i64 y] w fun e w' => e = .returned (.tuple #[.int .i64 V, .bool O]) ∧ Gr w w' := by
  have h := binary b s x y hx hy sub w L
  rw [HV.out, HO.out] at h
  exact h
theorem usual_as (b : Int) (s : Bool) (c : Int) (t : Bool) (V : Int) (O : Bool) (HV : Hid (Wd.ub b s c t = V)) (HO : Hid (Wd.us b s c t = O)) (w : World) (L : Laid w) :
    Calls Tryd.prog 21 #[.agg #[.int .i64 b, .bool s], .agg #[.int .i64 c, .bool t]] w fun e w' => e = .returned (.agg #[.int .i64 V, .bool O]) ∧ Gr w w' := by
  have h := wusual b s c t w L
  rw [HV.out, HO.out] at h
  exact h
theorem text_as (b : Int) (s : Bool) (V : ByteArray) (HV : Hid (Wd.text b s = V)) (w : World) (L : Laid w) :
    Calls Tryd.prog 25 #[.agg #[.int .i64 b, .bool s]] w fun e w' => e = .returned (.string V) ∧ Gr w w' := by
  have h := wtext b s w L
  rw [HV.out] at h
  exact h

theorem aw1 : Wd.bval 32 true 1 2 3 = 5 := by decide
theorem aw2 : Wd.bok 32 true 1 2 3 = true := by decide
theorem aw3 : Wd.bval 32 true 11 1 31 = 0 := by decide
theorem aw4 : Wd.bok 32 true 11 1 31 = false := by decide
theorem aw5 : Wd.wrap 8 false 300 = 44 := by decide
theorem aw6 : Wd.text 32 true = ⟨#[105, 51, 50]⟩ := rfl
theorem aw7 : Wd.may 32 = true := by decide
theorem aw8 : Wd.ub 32 true 32 false = 32 := by decide
theorem aw9 : Wd.us 32 true 32 false = false := by decide

set_option maxHeartbeats 1000000 in
theorem awake_true (w : World) (L : Laid w) :
    Calls Tryd.prog 28 #[] w fun e w' => e = .returned (.bool true) ∧ Gr w w' := by
  have HL := Lib.hid L
  clear L
  go_enter Tryd.func28, Tryd.ntmps28
  go_wp2_with fail
  refine (binary_as 32 true 1 2 3 5 true (by decide) (by decide) aw1 aw2 _ (HL.out.gr ((Gr.refl _).alloc _ _))).mono ?_
  rintro e w1 ⟨rfl, hg⟩
  obtain ⟨a1, a2, a3, a4⟩ := hg.two (k := w.heap.size) (by first | omega | (simp; done) | (simp; omega))
  have hz1 : w.heap.size < w1.heap.size := by have := hg.size; first | omega | (simp at this; omega)
  have HG := Lib.hid hg.of_alloc
  clear hg
  go_wp2_with fail
  refine (binary_as 32 true 11 1 31 0 false (by decide) (by decide) aw3 aw4 _ (HL.out.gr HG.out)).mono ?_
  rintro e w2 ⟨rfl, hg⟩
  obtain ⟨b1, b2, b3, b4⟩ := hg.two hz1
  have hz2 : w.heap.size < w2.heap.size := by have := hg.size; omega
  rw [a1] at b1
  rw [a2] at b2
  have HG2 := Lib.hid (HG.out.trans hg)
  clear hg a1 a2 a3 a4 b3 b4 HG
  go_wp2_with fail
  refine (wwrap_as 8 false 300 44 (by decide) aw5 _).mono ?_
  rintro e w3 ⟨rfl, hg⟩
  obtain ⟨c1, c2, c3, c4⟩ := hg.two hz2
  have hz3 : w.heap.size < w3.heap.size := by have := hg.size; omega
  rw [b1] at c1
  rw [b2] at c2
  have HG3 := Lib.hid (HG2.out.trans hg)
  clear hg b1 b2 c3 c4 HG2
  go_wp2_with fail
  refine (text_as 32 true _ aw6 _ (HL.out.gr HG3.out)).mono ?_
  rintro e w4 ⟨rfl, hg⟩
  obtain ⟨d1, d2, d3, d4⟩ := hg.two hz3
  have hz4 : w.heap.size < w4.heap.size := by have := hg.size; omega
  rw [c1] at d1
  rw [c2] at d2
  have HG4 := Lib.hid (HG3.out.trans hg)
  clear hg c1 c2 d3 d4 HG3
  go_wp2_with fail
  refine (wmay_as 32 true true aw7 _ (HL.out.gr HG4.out)).mono ?_
  rintro e w5 ⟨rfl, hg⟩
  obtain ⟨e1, e2, e3, e4⟩ := hg.two hz4
  have hz5 : w.heap.size < w5.heap.size := by have := hg.size; omega
  rw [d1] at e1
  rw [d2] at e2
  have HG5 := Lib.hid (HG4.out.trans hg)
  clear hg d1 d2 e3 e4 HG4
  go_wp2_with fail
  refine (usual_as 32 true 32 false 32 false aw8 aw9 _ (HL.out.gr HG5.out)).mono ?_
  rintro e w6 ⟨rfl, hg⟩
  have HG6 := Lib.hid (HG5.out.trans hg)
  clear hg HG5
  go_wp2_with fail
  go_returns
  exact ⟨rb rfl rfl, HG6.out⟩
end Go.Proofs.YtkjhdanfbmdmlaaDoor
