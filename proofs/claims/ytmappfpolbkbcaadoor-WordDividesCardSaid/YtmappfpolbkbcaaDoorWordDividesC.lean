/- The law WordDivides: its walk. -/
import Derived.Test.YtmappfpolbkbcaaDoorWordLawM
import Derived.Test.YtmappfpolbkbcaaDoorWordLow
import Derived.Test.YtmappfpolbkbcaaDoorWordAwake
import Derived.Deep.RegionWith
import Derived.Deep.DeepCutAuto
namespace Go.Proofs.YtmappfpolbkbcaaDoor
open Go.RowKit
set_option linter.unusedVariables false
set_option linter.unusedSimpArgs false
set_option maxRecDepth 100000 in
set_option maxHeartbeats 16000000 in
theorem divides_tnt (B : Int) (which p q x y n X Y Q R K V1 V2 : Int) (hx : -9223372036854775808 ≤ x ∧ x ≤ 9223372036854775807) (hy : -9223372036854775808 ≤ y ∧ y ≤ 9223372036854775807) (hn : -9223372036854775808 ≤ n ∧ n ≤ 9223372036854775807)
    (hX : -9223372036854775808 ≤ X ∧ X ≤ 9223372036854775807) (hY : -9223372036854775808 ≤ Y ∧ Y ≤ 9223372036854775807) (hV1 : -9223372036854775808 ≤ V1 ∧ V1 ≤ 9223372036854775807) (hp0 : 0 ≤ p ∧ p ≤ 1) (hBB : 1 ≤ B ∧ B ≤ 64)
    (hp : bits BinOp.and IntKind.i64 which 1 = p) (hq : bits BinOp.and IntKind.i64 which 2 = q) (hB : 32 + 32 * p = B) (hS : (q == 2) = true)
    (HX : Hid (Wd.wrap B true x = X)) (HY : Hid (Wd.wrap B true y = Y))
    (H1 : Hid (Wd.bval B true 4 X Y = Q)) (H1o : Hid (Wd.bok B true 4 X Y = true)) (H2 : Hid (Wd.bval B true 5 X Y = R)) (H2o : Hid (Wd.bok B true 5 X Y = true))
    (HK : Hid (IntKind.u64.wrap n % B = K)) (hK : 0 ≤ K ∧ K < 64)
    (H3 : Hid (Wd.bval B true 11 X K = V1)) (H3o : Hid (Wd.bok B true 11 X K = true)) (H4 : Hid (Wd.bval B true 12 V1 K = V2)) (H4o : Hid (Wd.bok B true 12 V1 K = true))
    (LESS : Int) (hR : -9223372036854775808 ≤ R ∧ R ≤ 9223372036854775807) (hQ : -9223372036854775808 ≤ (wrap64 (wrap64 (Q * Y) + R)) ∧ (wrap64 (wrap64 (Q * Y) + R)) ≤ 9223372036854775807) (hy0 : (Y == 0) = false) (HBK : Hid (Wd.wrap B true (wrap64 (wrap64 (Q * Y) + R)) = X)) (H5 : Hid (Wd.bval B true 16 R Y = LESS)) (H5o : Hid (Wd.bok B true 16 R Y = true)) (hz : (R != 0) = true) (hsg : R < 0 ↔ X < 0) (hd : (V2 == X) = true)
    (w : World) (L : Laid w) :
    Calls Tryd.prog 7 #[.int .i64 which, .int .i64 x, .int .i64 y, .int .i64 n] w fun e w' => e = .returned (.bool true) ∧ Gr w w' := by
  have HL := Lib.hid L
  clear L
  go_enter Tryd.func7, Tryd.ntmps7
  go_upto_region 2 with fail
  go_cut [1, 2] (fun v1 v2 wx => v1 = .int .i64 X ∧ v2 = .int .i64 Y ∧ Hid (Gr (w.alloc (.cells #[.int .i64 B, .bool true] 23)) wx))
  case first =>
    go_region_with (go_at_call 18; first | (with_reducible refine (wwrap_as B true x X hx HX _).mono ?_; rintro e w1 ⟨rfl, hg1⟩; obtain ⟨a1, a2, a3, a4⟩ := hg1.two (k := w.heap.size) (by first | omega | (simp; done) | (simp; omega)); have hz1 : w.heap.size < w1.heap.size := (by have := hg1.size; first | omega | (simp at this; omega)); have HG1 := Lib.hid hg1; clear hg1) | (with_reducible refine (wwrap_as B true y Y hy HY _).mono ?_; rintro e w2 ⟨rfl, hg2⟩; obtain ⟨b1, b2, b3, b4⟩ := hg2.two (k := w.heap.size) (by first | omega | (simp; done) | (simp; omega)); have hz2 : w.heap.size < w2.heap.size := (by have := hg2.size; first | omega | (simp at this; omega)); have HG2 := Lib.hid hg2; clear hg2))
    all_goals (go_wp2_with fail; go_meet)
    all_goals refine ⟨rfl, rfl, ?_⟩
    all_goals show Gr _ _
    all_goals repeat (first | with_reducible exact Gr.refl _ | with_reducible refine Gr.drew ?_ | with_reducible refine Gr.drewN ?_ _ | with_reducible refine Gr.trans ?_ HG2.out | with_reducible refine Gr.trans ?_ HG1.out)
  case rest =>
    obtain ⟨rfl, rfl, hg⟩ := hcut
    obtain ⟨m11, m12, a3, a4⟩ := hg.out.two (k := w.heap.size) (by first | omega | (simp; done) | (simp; omega))
    have hz1 : w.heap.size < wc.heap.size := by have := hg.out.size; simp at this; omega
    have HG1 := Lib.hid hg.out.of_alloc
    clear hg a3 a4
    go_wp2_with fail
    refine (binary_as B true 4 X Y Q true hX hY H1 H1o _ (HL.out.gr HG1.out)).mono ?_
    rintro e w2 ⟨rfl, hg⟩
    obtain ⟨n1, n2, n3, n4⟩ := hg.two hz1
    have hz2 : w.heap.size < w2.heap.size := by have := hg.size; omega
    rw [m11] at n1
    rw [m12] at n2
    have m21 := n1
    have m22 := n2
    have HG2 := Lib.hid (HG1.out.trans hg)
    clear hg m11 m12 n1 n2 n3 n4 HG1
    go_wp2_with fail
    refine (binary_as B true 5 X Y R true hX hY H2 H2o _ (HL.out.gr HG2.out)).mono ?_
    rintro e w3 ⟨rfl, hg⟩
    obtain ⟨n1, n2, n3, n4⟩ := hg.two hz2
    have hz3 : w.heap.size < w3.heap.size := by have := hg.size; omega
    rw [m21] at n1
    rw [m22] at n2
    have m31 := n1
    have m32 := n2
    have HG3 := Lib.hid (HG2.out.trans hg)
    clear hg m21 m22 n1 n2 n3 n4 HG2
    go_wp2_with fail
    refine (wwrap_as B true _ X hQ HBK _).mono ?_
    rintro e w4 ⟨rfl, hg⟩
    obtain ⟨n1, n2, n3, n4⟩ := hg.two hz3
    have hz4 : w.heap.size < w4.heap.size := by have := hg.size; omega
    rw [m31] at n1
    rw [m32] at n2
    have m41 := n1
    have m42 := n2
    have HG4 := Lib.hid (HG3.out.trans hg)
    clear hg m31 m32 n1 n2 n3 n4 HG3
    go_wp2_with fail
    refine (binary_as B true 16 R Y LESS true hR hY H5 H5o _ (HL.out.gr HG4.out)).mono ?_
    rintro e w5 ⟨rfl, hg⟩
    obtain ⟨n1, n2, n3, n4⟩ := hg.two hz4
    have hz5 : w.heap.size < w5.heap.size := by have := hg.size; omega
    rw [m41] at n1
    rw [m42] at n2
    have m51 := n1
    have m52 := n2
    have HG5 := Lib.hid (HG4.out.trans hg)
    clear hg m41 m42 n1 n2 n3 n4 HG4
    go_wp2_with fail
    refine (low_as n B K hn (by omega) HK _).mono ?_
    rintro e w9 ⟨rfl, rfl⟩
    go_wp2_with fail
    refine (binary_as B true 11 X K V1 true hX (by omega) H3 H3o _ (HL.out.gr HG5.out)).mono ?_
    rintro e w6 ⟨rfl, hg⟩
    obtain ⟨n1, n2, n3, n4⟩ := hg.two hz5
    have hz6 : w.heap.size < w6.heap.size := by have := hg.size; omega
    rw [m51] at n1
    rw [m52] at n2
    have m61 := n1
    have m62 := n2
    have HG6 := Lib.hid (HG5.out.trans hg)
    clear hg m51 m52 n1 n2 n3 n4 HG5
    go_wp2_with fail
    refine (binary_as B true 12 V1 K V2 true hV1 (by omega) H4 H4o _ (HL.out.gr HG6.out)).mono ?_
    rintro e w7 ⟨rfl, hg⟩
    obtain ⟨n1, n2, n3, n4⟩ := hg.two hz6
    have hz7 : w.heap.size < w7.heap.size := by have := hg.size; omega
    rw [m61] at n1
    rw [m62] at n2
    have m71 := n1
    have m72 := n2
    have HG7 := Lib.hid (HG6.out.trans hg)
    clear hg m61 m62 n1 n2 n3 n4 HG6
    go_wp2_with fail
    refine (awake_true _ (HL.out.gr HG7.out)).mono ?_
    rintro e w19 ⟨rfl, hg⟩
    have HGEND := Lib.hid (HG7.out.trans hg)
    clear hg
    go_wp2_with fail
    go_returns
    exact ⟨rb rfl rfl, HGEND.out⟩

set_option maxRecDepth 100000 in
set_option maxHeartbeats 16000000 in
theorem divides_tng (B : Int) (which p q x y n X Y Q R K V1 V2 : Int) (hx : -9223372036854775808 ≤ x ∧ x ≤ 9223372036854775807) (hy : -9223372036854775808 ≤ y ∧ y ≤ 9223372036854775807) (hn : -9223372036854775808 ≤ n ∧ n ≤ 9223372036854775807)
    (hX : -9223372036854775808 ≤ X ∧ X ≤ 9223372036854775807) (hY : -9223372036854775808 ≤ Y ∧ Y ≤ 9223372036854775807) (hV1 : -9223372036854775808 ≤ V1 ∧ V1 ≤ 9223372036854775807) (hp0 : 0 ≤ p ∧ p ≤ 1) (hBB : 1 ≤ B ∧ B ≤ 64)
    (hp : bits BinOp.and IntKind.i64 which 1 = p) (hq : bits BinOp.and IntKind.i64 which 2 = q) (hB : 32 + 32 * p = B) (hS : (q == 2) = true)
    (HX : Hid (Wd.wrap B true x = X)) (HY : Hid (Wd.wrap B true y = Y))
    (H1 : Hid (Wd.bval B true 4 X Y = Q)) (H1o : Hid (Wd.bok B true 4 X Y = true)) (H2 : Hid (Wd.bval B true 5 X Y = R)) (H2o : Hid (Wd.bok B true 5 X Y = true))
    (HK : Hid (IntKind.u64.wrap n % B = K)) (hK : 0 ≤ K ∧ K < 64)
    (H3 : Hid (Wd.bval B true 11 X K = V1)) (H3o : Hid (Wd.bok B true 11 X K = false)) (H4 : Hid (Wd.bval B true 12 V1 K = V2)) (H4o : Hid (Wd.bok B true 12 V1 K = true))
    (LESS : Int) (hR : -9223372036854775808 ≤ R ∧ R ≤ 9223372036854775807) (hQ : -9223372036854775808 ≤ (wrap64 (wrap64 (Q * Y) + R)) ∧ (wrap64 (wrap64 (Q * Y) + R)) ≤ 9223372036854775807) (hy0 : (Y == 0) = false) (HBK : Hid (Wd.wrap B true (wrap64 (wrap64 (Q * Y) + R)) = X)) (H5 : Hid (Wd.bval B true 16 R Y = LESS)) (H5o : Hid (Wd.bok B true 16 R Y = true)) (hz : (R != 0) = true) (hsg : R < 0 ↔ X < 0) (hneg : X < 0)
    (w : World) (L : Laid w) :
    Calls Tryd.prog 7 #[.int .i64 which, .int .i64 x, .int .i64 y, .int .i64 n] w fun e w' => e = .returned (.bool true) ∧ Gr w w' := by
  have HL := Lib.hid L
  clear L
  go_enter Tryd.func7, Tryd.ntmps7
  go_upto_region 2 with fail
  go_cut [1, 2] (fun v1 v2 wx => v1 = .int .i64 X ∧ v2 = .int .i64 Y ∧ Hid (Gr (w.alloc (.cells #[.int .i64 B, .bool true] 23)) wx))
  case first =>
    go_region_with (go_at_call 18; first | (with_reducible refine (wwrap_as B true x X hx HX _).mono ?_; rintro e w1 ⟨rfl, hg1⟩; obtain ⟨a1, a2, a3, a4⟩ := hg1.two (k := w.heap.size) (by first | omega | (simp; done) | (simp; omega)); have hz1 : w.heap.size < w1.heap.size := (by have := hg1.size; first | omega | (simp at this; omega)); have HG1 := Lib.hid hg1; clear hg1) | (with_reducible refine (wwrap_as B true y Y hy HY _).mono ?_; rintro e w2 ⟨rfl, hg2⟩; obtain ⟨b1, b2, b3, b4⟩ := hg2.two (k := w.heap.size) (by first | omega | (simp; done) | (simp; omega)); have hz2 : w.heap.size < w2.heap.size := (by have := hg2.size; first | omega | (simp at this; omega)); have HG2 := Lib.hid hg2; clear hg2))
    all_goals (go_wp2_with fail; go_meet)
    all_goals refine ⟨rfl, rfl, ?_⟩
    all_goals show Gr _ _
    all_goals repeat (first | with_reducible exact Gr.refl _ | with_reducible refine Gr.drew ?_ | with_reducible refine Gr.drewN ?_ _ | with_reducible refine Gr.trans ?_ HG2.out | with_reducible refine Gr.trans ?_ HG1.out)
  case rest =>
    obtain ⟨rfl, rfl, hg⟩ := hcut
    obtain ⟨m11, m12, a3, a4⟩ := hg.out.two (k := w.heap.size) (by first | omega | (simp; done) | (simp; omega))
    have hz1 : w.heap.size < wc.heap.size := by have := hg.out.size; simp at this; omega
    have HG1 := Lib.hid hg.out.of_alloc
    clear hg a3 a4
    go_wp2_with fail
    refine (binary_as B true 4 X Y Q true hX hY H1 H1o _ (HL.out.gr HG1.out)).mono ?_
    rintro e w2 ⟨rfl, hg⟩
    obtain ⟨n1, n2, n3, n4⟩ := hg.two hz1
    have hz2 : w.heap.size < w2.heap.size := by have := hg.size; omega
    rw [m11] at n1
    rw [m12] at n2
    have m21 := n1
    have m22 := n2
    have HG2 := Lib.hid (HG1.out.trans hg)
    clear hg m11 m12 n1 n2 n3 n4 HG1
    go_wp2_with fail
    refine (binary_as B true 5 X Y R true hX hY H2 H2o _ (HL.out.gr HG2.out)).mono ?_
    rintro e w3 ⟨rfl, hg⟩
    obtain ⟨n1, n2, n3, n4⟩ := hg.two hz2
    have hz3 : w.heap.size < w3.heap.size := by have := hg.size; omega
    rw [m21] at n1
    rw [m22] at n2
    have m31 := n1
    have m32 := n2
    have HG3 := Lib.hid (HG2.out.trans hg)
    clear hg m21 m22 n1 n2 n3 n4 HG2
    go_wp2_with fail
    refine (wwrap_as B true _ X hQ HBK _).mono ?_
    rintro e w4 ⟨rfl, hg⟩
    obtain ⟨n1, n2, n3, n4⟩ := hg.two hz3
    have hz4 : w.heap.size < w4.heap.size := by have := hg.size; omega
    rw [m31] at n1
    rw [m32] at n2
    have m41 := n1
    have m42 := n2
    have HG4 := Lib.hid (HG3.out.trans hg)
    clear hg m31 m32 n1 n2 n3 n4 HG3
    go_wp2_with fail
    refine (binary_as B true 16 R Y LESS true hR hY H5 H5o _ (HL.out.gr HG4.out)).mono ?_
    rintro e w5 ⟨rfl, hg⟩
    obtain ⟨n1, n2, n3, n4⟩ := hg.two hz4
    have hz5 : w.heap.size < w5.heap.size := by have := hg.size; omega
    rw [m41] at n1
    rw [m42] at n2
    have m51 := n1
    have m52 := n2
    have HG5 := Lib.hid (HG4.out.trans hg)
    clear hg m41 m42 n1 n2 n3 n4 HG4
    go_wp2_with fail
    refine (low_as n B K hn (by omega) HK _).mono ?_
    rintro e w9 ⟨rfl, rfl⟩
    go_wp2_with fail
    refine (binary_as B true 11 X K V1 false hX (by omega) H3 H3o _ (HL.out.gr HG5.out)).mono ?_
    rintro e w6 ⟨rfl, hg⟩
    obtain ⟨n1, n2, n3, n4⟩ := hg.two hz5
    have hz6 : w.heap.size < w6.heap.size := by have := hg.size; omega
    rw [m51] at n1
    rw [m52] at n2
    have m61 := n1
    have m62 := n2
    have HG6 := Lib.hid (HG5.out.trans hg)
    clear hg m51 m52 n1 n2 n3 n4 HG5
    go_wp2_with fail
    refine (binary_as B true 12 V1 K V2 true hV1 (by omega) H4 H4o _ (HL.out.gr HG6.out)).mono ?_
    rintro e w7 ⟨rfl, hg⟩
    obtain ⟨n1, n2, n3, n4⟩ := hg.two hz6
    have hz7 : w.heap.size < w7.heap.size := by have := hg.size; omega
    rw [m61] at n1
    rw [m62] at n2
    have m71 := n1
    have m72 := n2
    have HG7 := Lib.hid (HG6.out.trans hg)
    clear hg m61 m62 n1 n2 n3 n4 HG6
    go_wp2_with fail
    refine (awake_true _ (HL.out.gr HG7.out)).mono ?_
    rintro e w19 ⟨rfl, hg⟩
    have HGEND := Lib.hid (HG7.out.trans hg)
    clear hg
    go_wp2_with fail
    go_returns
    exact ⟨rb rfl rfl, HGEND.out⟩

set_option maxRecDepth 100000 in
set_option maxHeartbeats 16000000 in
theorem divides_tnk (B : Int) (which p q x y n X Y Q R K V1 V2 : Int) (hx : -9223372036854775808 ≤ x ∧ x ≤ 9223372036854775807) (hy : -9223372036854775808 ≤ y ∧ y ≤ 9223372036854775807) (hn : -9223372036854775808 ≤ n ∧ n ≤ 9223372036854775807)
    (hX : -9223372036854775808 ≤ X ∧ X ≤ 9223372036854775807) (hY : -9223372036854775808 ≤ Y ∧ Y ≤ 9223372036854775807) (hV1 : -9223372036854775808 ≤ V1 ∧ V1 ≤ 9223372036854775807) (hp0 : 0 ≤ p ∧ p ≤ 1) (hBB : 1 ≤ B ∧ B ≤ 64)
    (hp : bits BinOp.and IntKind.i64 which 1 = p) (hq : bits BinOp.and IntKind.i64 which 2 = q) (hB : 32 + 32 * p = B) (hS : (q == 2) = true)
    (HX : Hid (Wd.wrap B true x = X)) (HY : Hid (Wd.wrap B true y = Y))
    (H1 : Hid (Wd.bval B true 4 X Y = Q)) (H1o : Hid (Wd.bok B true 4 X Y = true)) (H2 : Hid (Wd.bval B true 5 X Y = R)) (H2o : Hid (Wd.bok B true 5 X Y = true))
    (HK : Hid (IntKind.u64.wrap n % B = K)) (hK : 0 ≤ K ∧ K < 64)
    (H3 : Hid (Wd.bval B true 11 X K = V1)) (H3o : Hid (Wd.bok B true 11 X K = false)) (H4 : Hid (Wd.bval B true 12 V1 K = V2)) (H4o : Hid (Wd.bok B true 12 V1 K = true))
    (LESS : Int) (hR : -9223372036854775808 ≤ R ∧ R ≤ 9223372036854775807) (hQ : -9223372036854775808 ≤ (wrap64 (wrap64 (Q * Y) + R)) ∧ (wrap64 (wrap64 (Q * Y) + R)) ≤ 9223372036854775807) (hy0 : (Y == 0) = false) (HBK : Hid (Wd.wrap B true (wrap64 (wrap64 (Q * Y) + R)) = X)) (H5 : Hid (Wd.bval B true 16 R Y = LESS)) (H5o : Hid (Wd.bok B true 16 R Y = true)) (hz : (R != 0) = true) (hsg : R < 0 ↔ X < 0) (hpos : 0 ≤ X) (hk1 : 0 < K)
    (w : World) (L : Laid w) :
    Calls Tryd.prog 7 #[.int .i64 which, .int .i64 x, .int .i64 y, .int .i64 n] w fun e w' => e = .returned (.bool true) ∧ Gr w w' := by
  have HL := Lib.hid L
  clear L
  go_enter Tryd.func7, Tryd.ntmps7
  go_upto_region 2 with fail
  go_cut [1, 2] (fun v1 v2 wx => v1 = .int .i64 X ∧ v2 = .int .i64 Y ∧ Hid (Gr (w.alloc (.cells #[.int .i64 B, .bool true] 23)) wx))
  case first =>
    go_region_with (go_at_call 18; first | (with_reducible refine (wwrap_as B true x X hx HX _).mono ?_; rintro e w1 ⟨rfl, hg1⟩; obtain ⟨a1, a2, a3, a4⟩ := hg1.two (k := w.heap.size) (by first | omega | (simp; done) | (simp; omega)); have hz1 : w.heap.size < w1.heap.size := (by have := hg1.size; first | omega | (simp at this; omega)); have HG1 := Lib.hid hg1; clear hg1) | (with_reducible refine (wwrap_as B true y Y hy HY _).mono ?_; rintro e w2 ⟨rfl, hg2⟩; obtain ⟨b1, b2, b3, b4⟩ := hg2.two (k := w.heap.size) (by first | omega | (simp; done) | (simp; omega)); have hz2 : w.heap.size < w2.heap.size := (by have := hg2.size; first | omega | (simp at this; omega)); have HG2 := Lib.hid hg2; clear hg2))
    all_goals (go_wp2_with fail; go_meet)
    all_goals refine ⟨rfl, rfl, ?_⟩
    all_goals show Gr _ _
    all_goals repeat (first | with_reducible exact Gr.refl _ | with_reducible refine Gr.drew ?_ | with_reducible refine Gr.drewN ?_ _ | with_reducible refine Gr.trans ?_ HG2.out | with_reducible refine Gr.trans ?_ HG1.out)
  case rest =>
    obtain ⟨rfl, rfl, hg⟩ := hcut
    obtain ⟨m11, m12, a3, a4⟩ := hg.out.two (k := w.heap.size) (by first | omega | (simp; done) | (simp; omega))
    have hz1 : w.heap.size < wc.heap.size := by have := hg.out.size; simp at this; omega
    have HG1 := Lib.hid hg.out.of_alloc
    clear hg a3 a4
    go_wp2_with fail
    refine (binary_as B true 4 X Y Q true hX hY H1 H1o _ (HL.out.gr HG1.out)).mono ?_
    rintro e w2 ⟨rfl, hg⟩
    obtain ⟨n1, n2, n3, n4⟩ := hg.two hz1
    have hz2 : w.heap.size < w2.heap.size := by have := hg.size; omega
    rw [m11] at n1
    rw [m12] at n2
    have m21 := n1
    have m22 := n2
    have HG2 := Lib.hid (HG1.out.trans hg)
    clear hg m11 m12 n1 n2 n3 n4 HG1
    go_wp2_with fail
    refine (binary_as B true 5 X Y R true hX hY H2 H2o _ (HL.out.gr HG2.out)).mono ?_
    rintro e w3 ⟨rfl, hg⟩
    obtain ⟨n1, n2, n3, n4⟩ := hg.two hz2
    have hz3 : w.heap.size < w3.heap.size := by have := hg.size; omega
    rw [m21] at n1
    rw [m22] at n2
    have m31 := n1
    have m32 := n2
    have HG3 := Lib.hid (HG2.out.trans hg)
    clear hg m21 m22 n1 n2 n3 n4 HG2
    go_wp2_with fail
    refine (wwrap_as B true _ X hQ HBK _).mono ?_
    rintro e w4 ⟨rfl, hg⟩
    obtain ⟨n1, n2, n3, n4⟩ := hg.two hz3
    have hz4 : w.heap.size < w4.heap.size := by have := hg.size; omega
    rw [m31] at n1
    rw [m32] at n2
    have m41 := n1
    have m42 := n2
    have HG4 := Lib.hid (HG3.out.trans hg)
    clear hg m31 m32 n1 n2 n3 n4 HG3
    go_wp2_with fail
    refine (binary_as B true 16 R Y LESS true hR hY H5 H5o _ (HL.out.gr HG4.out)).mono ?_
    rintro e w5 ⟨rfl, hg⟩
    obtain ⟨n1, n2, n3, n4⟩ := hg.two hz4
    have hz5 : w.heap.size < w5.heap.size := by have := hg.size; omega
    rw [m41] at n1
    rw [m42] at n2
    have m51 := n1
    have m52 := n2
    have HG5 := Lib.hid (HG4.out.trans hg)
    clear hg m41 m42 n1 n2 n3 n4 HG4
    go_wp2_with fail
    refine (low_as n B K hn (by omega) HK _).mono ?_
    rintro e w9 ⟨rfl, rfl⟩
    go_wp2_with fail
    refine (binary_as B true 11 X K V1 false hX (by omega) H3 H3o _ (HL.out.gr HG5.out)).mono ?_
    rintro e w6 ⟨rfl, hg⟩
    obtain ⟨n1, n2, n3, n4⟩ := hg.two hz5
    have hz6 : w.heap.size < w6.heap.size := by have := hg.size; omega
    rw [m51] at n1
    rw [m52] at n2
    have m61 := n1
    have m62 := n2
    have HG6 := Lib.hid (HG5.out.trans hg)
    clear hg m51 m52 n1 n2 n3 n4 HG5
    go_wp2_with fail
    refine (binary_as B true 12 V1 K V2 true hV1 (by omega) H4 H4o _ (HL.out.gr HG6.out)).mono ?_
    rintro e w7 ⟨rfl, hg⟩
    obtain ⟨n1, n2, n3, n4⟩ := hg.two hz6
    have hz7 : w.heap.size < w7.heap.size := by have := hg.size; omega
    rw [m61] at n1
    rw [m62] at n2
    have m71 := n1
    have m72 := n2
    have HG7 := Lib.hid (HG6.out.trans hg)
    clear hg m61 m62 n1 n2 n3 n4 HG6
    go_wp2_with fail
    refine (awake_true _ (HL.out.gr HG7.out)).mono ?_
    rintro e w19 ⟨rfl, hg⟩
    have HGEND := Lib.hid (HG7.out.trans hg)
    clear hg
    go_wp2_with fail
    go_returns
    exact ⟨rb rfl rfl, HGEND.out⟩

end Go.Proofs.YtmappfpolbkbcaaDoor
