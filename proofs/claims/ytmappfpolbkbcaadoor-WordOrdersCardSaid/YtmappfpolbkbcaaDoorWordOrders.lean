/- The law WordOrders: its walk. -/
import Derived.Test.YtmappfpolbkbcaaDoorWordLawM
import Derived.Test.YtmappfpolbkbcaaDoorWordAwake
import Derived.Deep.RegionWith
import Derived.Deep.DeepCutAuto
namespace Go.Proofs.YtmappfpolbkbcaaDoor
open Go.RowKit
set_option linter.unusedVariables false
set_option linter.unusedSimpArgs false

set_option maxRecDepth 100000 in
set_option maxHeartbeats 8000000 in
theorem orders_core (B : Int) (S : Bool) (which p q x y X Y LT GT EQ LE NE A1 A2 A3 A4 : Int) (hx : -9223372036854775808 ≤ x ∧ x ≤ 9223372036854775807) (hy : -9223372036854775808 ≤ y ∧ y ≤ 9223372036854775807)
    (hX : -9223372036854775808 ≤ X ∧ X ≤ 9223372036854775807) (hY : -9223372036854775808 ≤ Y ∧ Y ≤ 9223372036854775807) (hp0 : 0 ≤ p ∧ p ≤ 1)
    (hp : bits BinOp.and IntKind.i64 which 1 = p) (hq : bits BinOp.and IntKind.i64 which 2 = q) (hB : 32 + 32 * p = B) (hS : (q == 2) = S)
    (HX : Hid (Wd.wrap B S x = X)) (HY : Hid (Wd.wrap B S y = Y))
    (H1 : Hid (Wd.bval B S 16 X Y = LT)) (H1o : Hid (Wd.bok B S 16 X Y = true))
    (H2 : Hid (Wd.bval B S 16 Y X = GT)) (H2o : Hid (Wd.bok B S 16 Y X = true))
    (H3 : Hid (Wd.bval B S 14 X Y = EQ)) (H3o : Hid (Wd.bok B S 14 X Y = true))
    (H4 : Hid (Wd.bval B S 17 X Y = LE)) (H4o : Hid (Wd.bok B S 17 X Y = true))
    (H5 : Hid (Wd.bval B S 15 X Y = NE)) (H5o : Hid (Wd.bok B S 15 X Y = true))
    (P1 : Hid (Wd.plainV 16 x y = A1)) (P1o : Hid (Wd.plainOk 16 x y = true))
    (P2 : Hid (Wd.plainV 18 x y = A2)) (P2o : Hid (Wd.plainOk 18 x y = true))
    (P3 : Hid (Wd.plainV 17 y x = A3)) (P3o : Hid (Wd.plainOk 17 y x = true))
    (P4 : Hid (Wd.plainV 19 y x = A4)) (P4o : Hid (Wd.plainOk 19 y x = true))
    (bL : 0 ≤ LT ∧ LT ≤ 1) (bG : 0 ≤ GT ∧ GT ≤ 1) (bE : 0 ≤ EQ ∧ EQ ≤ 1) (b1 : 0 ≤ A1 ∧ A1 ≤ 1) (b2 : 0 ≤ A2 ∧ A2 ≤ 1) (b3 : 0 ≤ A3 ∧ A3 ≤ 1) (b4 : 0 ≤ A4 ∧ A4 ≤ 1)
    (f1 : (LT + GT + EQ == 1) = true) (f2 : (LE == LT + EQ) = true) (f3 : (NE == 1 - EQ) = true)
    (f4 : ((A1 == 1) == decide (x < y)) = true) (f5 : ((A2 == 1) == decide (IntKind.u64.wrap x < IntKind.u64.wrap y)) = true) (f6 : (A1 + A3 == 1) = true) (f7 : (A2 + A4 == 1) = true)
    (w : World) (L : Laid w) :
    Calls Tryd.prog 8 #[.int .i64 which, .int .i64 x, .int .i64 y] w fun e w' => e = .returned (.bool true) ∧ Gr w w' := by
  have HL := Lib.hid L
  clear L
  go_enter Tryd.func8, Tryd.ntmps8
  go_upto_region 2 with fail
  go_cut [8, 9] (fun v8 v9 wx => v8 = .int .i64 X ∧ v9 = .int .i64 Y ∧ Hid (Gr (w.alloc (.cells #[.int .i64 B, .bool S] 23)) wx))
  case first =>
    go_region_with (go_at_call 18; first | (with_reducible refine (wwrap_as B S x X hx HX _).mono ?_; rintro e w1 ⟨rfl, hg1⟩; obtain ⟨a1, a2, a3, a4⟩ := hg1.two (k := w.heap.size) (by first | omega | (simp; done) | (simp; omega)); have hz1 : w.heap.size < w1.heap.size := (by have := hg1.size; first | omega | (simp at this; omega)); have HG1 := Lib.hid hg1; clear hg1) | (with_reducible refine (wwrap_as B S y Y hy HY _).mono ?_; rintro e w2 ⟨rfl, hg2⟩; obtain ⟨b1, b2, b3, b4⟩ := hg2.two (k := w.heap.size) (by first | omega | (simp; done) | (simp; omega)); have hz2 : w.heap.size < w2.heap.size := (by have := hg2.size; first | omega | (simp at this; omega)); have HG2 := Lib.hid hg2; clear hg2))
    all_goals (go_wp2_with fail; go_meet)
    all_goals refine ⟨rfl, rfl, ?_⟩
    all_goals show Gr _ _
    all_goals repeat (first | with_reducible exact Gr.refl _ | with_reducible refine Gr.drew ?_ | with_reducible refine Gr.drewN ?_ _ | with_reducible refine Gr.trans ?_ HG2.out | with_reducible refine Gr.trans ?_ HG1.out)
  case rest =>
    obtain ⟨rfl, rfl, hg⟩ := hcut
    obtain ⟨a1, a2, a3, a4⟩ := hg.out.two (k := w.heap.size) (by first | omega | (simp; done) | (simp; omega))
    have hz1 : w.heap.size < wc.heap.size := by have := hg.out.size; simp at this; omega
    have HG1 := Lib.hid hg.out.of_alloc
    clear hg
    go_wp2_with fail
    refine (binary_as B S 16 X Y LT true hX hY H1 H1o _ (HL.out.gr HG1.out)).mono ?_
    rintro e w2 ⟨rfl, hg⟩
    obtain ⟨b1, b2, b3, b4⟩ := hg.two hz1
    have hz2 : w.heap.size < w2.heap.size := by have := hg.size; omega
    rw [a1] at b1
    rw [a2] at b2
    have HG2 := Lib.hid (HG1.out.trans hg)
    clear hg a1 a2 b3 b4 HG1
    go_wp2_with fail
    refine (binary_as B S 16 Y X GT true hY hX H2 H2o _ (HL.out.gr HG2.out)).mono ?_
    rintro e w3 ⟨rfl, hg⟩
    obtain ⟨c1, c2, c3, c4⟩ := hg.two hz2
    have hz3 : w.heap.size < w3.heap.size := by have := hg.size; omega
    rw [b1] at c1
    rw [b2] at c2
    have HG3 := Lib.hid (HG2.out.trans hg)
    clear hg b1 b2 c3 c4 HG2
    go_wp2_with fail
    refine (binary_as B S 14 X Y EQ true hX hY H3 H3o _ (HL.out.gr HG3.out)).mono ?_
    rintro e w4 ⟨rfl, hg⟩
    obtain ⟨d1, d2, d3, d4⟩ := hg.two hz3
    have hz4 : w.heap.size < w4.heap.size := by have := hg.size; omega
    rw [c1] at d1
    rw [c2] at d2
    have HG4 := Lib.hid (HG3.out.trans hg)
    clear hg c1 c2 d3 d4 HG3
    go_wp2_with fail
    refine (binary_as B S 17 X Y LE true hX hY H4 H4o _ (HL.out.gr HG4.out)).mono ?_
    rintro e w5 ⟨rfl, hg⟩
    obtain ⟨e1, e2, e3, e4⟩ := hg.two hz4
    have hz5 : w.heap.size < w5.heap.size := by have := hg.size; omega
    rw [d1] at e1
    rw [d2] at e2
    have HG5 := Lib.hid (HG4.out.trans hg)
    clear hg d1 d2 e3 e4 HG4
    go_wp2_with fail
    refine (binary_as B S 15 X Y NE true hX hY H5 H5o _ (HL.out.gr HG5.out)).mono ?_
    rintro e w6 ⟨rfl, hg⟩
    obtain ⟨g1, g2, g3, g4⟩ := hg.two hz5
    have hz6 : w.heap.size < w6.heap.size := by have := hg.size; omega
    rw [e1] at g1
    rw [e2] at g2
    have HG6 := Lib.hid (HG5.out.trans hg)
    clear hg e1 e2 g3 g4 HG5
    go_wp2_with fail
    refine (wplain_as 16 x y A1 true hx hy P1 P1o _).mono ?_
    rintro e w7 ⟨rfl, rfl⟩
    go_wp2_with fail
    refine (wplain_as 18 x y A2 true hx hy P2 P2o _).mono ?_
    rintro e w7 ⟨rfl, rfl⟩
    go_wp2_with fail
    refine (wplain_as 17 y x A3 true hy hx P3 P3o _).mono ?_
    rintro e w7 ⟨rfl, rfl⟩
    go_wp2_with fail
    refine (wplain_as 19 y x A4 true hy hx P4 P4o _).mono ?_
    rintro e w7 ⟨rfl, rfl⟩
    go_wp2_with fail
    refine (awake_true _ (HL.out.gr HG6.out)).mono ?_
    rintro e w8 ⟨rfl, hg⟩
    have HGEND := Lib.hid (HG6.out.trans hg)
    clear hg
    go_wp2_with fail
    go_returns
    exact ⟨rb rfl rfl, HGEND.out⟩

end Go.Proofs.YtmappfpolbkbcaaDoor
