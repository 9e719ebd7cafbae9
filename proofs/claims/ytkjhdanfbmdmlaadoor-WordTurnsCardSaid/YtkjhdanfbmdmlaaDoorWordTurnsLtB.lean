/- The law WordTurns: its walk, way LtB. -/
import Derived.Test.YtkjhdanfbmdmlaaDoorWordTurnsH
namespace Go.Proofs.YtkjhdanfbmdmlaaDoor
open Go.RowKit
set_option linter.unusedVariables false

set_option maxRecDepth 100000 in
set_option maxHeartbeats 4000000 in
theorem turns_LtB (x y n : Int) (K M : Nat) (hK : K < 8) (hM : M < 8) (HK : Hid (IntKind.u64.wrap x % 8 = (K : Int))) (HM : Hid (IntKind.u64.wrap y % 8 = (M : Int)))
    (hx : -9223372036854775808 ≤ x ∧ x ≤ 9223372036854775807) (hy : -9223372036854775808 ≤ y ∧ y ≤ 9223372036854775807) (A B X : Int) (s t : Bool) (HA : Hid (Wd.tabB K = A)) (HS : Hid (Wd.tabS K = s)) (HB : Hid (Wd.tabB M = B)) (HT : Hid (Wd.tabS M = t))
    (hn : -9223372036854775808 ≤ n ∧ n ≤ 9223372036854775807) (hX : -9223372036854775808 ≤ X ∧ X ≤ 9223372036854775807) (HX : Hid (Wd.wrap B t n = X)) (hlt : A < B) (h32 : ¬ B < 32) (S N1 M1 N2 : Int) (P : Bool) (hM1 : -9223372036854775808 ≤ M1 ∧ M1 ≤ 9223372036854775807) (HR : Hid (Wd.reck B = true)) (D1 : Hid (Wd.bval B t 2 X X = 0)) (D2 : Hid (Wd.bok B t 2 X X = true)) (U1 : Hid (Wd.bval B t 1 X X = S)) (U2 : Hid (Wd.bok B t 1 X X = P)) (V1 : Hid (Wd.bval B t 3 X 2 = S)) (V2 : Hid (Wd.bok B t 3 X 2 = P)) (X1 : Hid (Wd.bval B t 10 X X = 0)) (X2 : Hid (Wd.bok B t 10 X X = true)) (HN1 : Hid (bits BinOp.xor IntKind.i64 (-1) X = N1)) (HM1 : Hid (Wd.wrap B t N1 = M1)) (HN2 : Hid (bits BinOp.xor IntKind.i64 (-1) M1 = N2)) (HM2 : Hid (Wd.wrap B t N2 = X)) (w : World) (L : Laid w) :
    Calls Tryd.prog 9 #[.int .i64 x, .int .i64 y, .int .i64 n] w fun e w' => e = .returned (.bool true) ∧ Below w.heap.size w w' := by
  have HL := Lib.hid L
  clear L
  go_enter Tryd.func9, Tryd.ntmps9
  go_wp2_with fail
  refine (widths_any w).mono ?_
  rintro e w1 hwid
  obtain ⟨g, cap, rfl, hg1, hg2, hb, hrow⟩ := wids_open hwid
  obtain ⟨c1, c2⟩ := hrow K hK
  obtain ⟨d1, d2⟩ := hrow M hM
  rw [HA.out] at c1; rw [HS.out] at c2; rw [HB.out] at d1; rw [HT.out] at d2
  clear hrow hwid
  have e1 := World.new_ne w1 _ c1
  have e2 := World.new_ne w1 _ c2
  have e3 := World.new_ne w1 _ d1
  have e4 := World.new_ne w1 _ d2
  have k0 : (0 : Int) ≤ (K : Int) := by omega
  have k8 : (K : Int) < 8 := by omega
  have m0 : (0 : Int) ≤ (M : Int) := by omega
  have m8 : (M : Int) < 8 := by omega
  have hs := hb.size
  go_upto_region 2 with fail
  go_cut [8, 9] (fun v8 v9 wx => Boxed w A s B t v8 v9 wx)
  case first =>
    go_region_held3 (fun W => W.cell? ⟨g, K * 2, none⟩ = some (.int .i64 A) ∧ W.cell? ⟨g, K * 2 + 1, none⟩ = some (.bool s) ∧ W.cell? ⟨g, M * 2, none⟩ = some (.int .i64 B) ∧ W.cell? ⟨g, M * 2 + 1, none⟩ = some (.bool t)) (go_keep)
      (first | (go_at_call 30; with_reducible refine (low_as x 8 K hx (by decide) HK _).mono ?_; rintro e w2 ⟨rfl, hw⟩; cases hw) | (go_at_call 30; with_reducible refine (low_as y 8 M hy (by decide) HM _).mono ?_; rintro e w2 ⟨rfl, hw⟩; cases hw))
    all_goals (go_wp2_with fail; go_meet)
    all_goals refine ⟨_, _, rfl, rfl, ?_, ?_, ?_, ?_, ?_, ?_, ?_, ?_, ?_⟩
    all_goals first
      | omega
      | (simp; done)
      | (simp; omega)
      | (repeat (first | exact hb | refine Below.drew ?_ | refine Below.alloc ?_ (by first | omega | (simp; omega)) _))
  case rest =>
    obtain ⟨p, q, rfl, rfl, hp1, hq1, hp2, hq2, p0, p1, q0, q1, hbx⟩ := hcut
    clear c1 c2 d1 d2 e1 e2 e3 e4 hb hs k0 k8 m0 m8 hg1 hg2

    obtain ⟨T, hTW⟩ : ∃ T : Two w p q A s B t, T.W = _ := two_mk p0 p1 q0 q1 hp2 hq2 hbx
    subst hTW
    clear p0 p1 q0 q1 hp2 hq2 hbx
    have g1 : decide (B ≤ A) = false := decide_eq_false (by omega)
    have g0 : (B ≤ A) = False := eq_false (by omega)
    go_wp2_with fail
    have hne : Nonempty (Two w p q A s B t) := ⟨T⟩
    have l0 : ∀ u : Two w p q A s B t, u.W.cell? ⟨p, 0, none⟩ = some (.int .i64 A) := fun u => u.p0
    have l1 : ∀ u : Two w p q A s B t, u.W.cell? ⟨p, 1, none⟩ = some (.bool s) := fun u => u.p1
    have l2 : ∀ u : Two w p q A s B t, u.W.cell? ⟨q, 0, none⟩ = some (.int .i64 B) := fun u => u.q0
    have l3 : ∀ u : Two w p q A s B t, u.W.cell? ⟨q, 1, none⟩ = some (.bool t) := fun u => u.q1
    try simp only [List.append_eq, List.cons_append, List.nil_append]
    refine wp_region_class (C := fun W => ∃ u : Two w p q A s B t, W = u.W) (by kernel_rfl) (by kernel_rfl) ⟨T.on (Gr.refl _).drew, rfl⟩ ?_
    repeat (go_big_quiet_step (first
      | fail))
    refine wpQuiet_nil ?_
    rintro _ ⟨T2, rfl⟩
    clear hne l0 l1 l2 l3 T
    obtain ⟨T, hT⟩ : ∃ T : Two w p q A s B t, T = T2 := ⟨_, rfl⟩
    subst hT
    clear g1 g0
    have a1 := T.q0
    have a2 := T.q1
    have a3 := T.p0
    go_wp2_with fail
    refine (wwrap_as B t n X hn HX _).mono ?_
    rintro e w9 ⟨rfl, hg⟩
    obtain ⟨T3, hT3⟩ := two_next T hg
    subst hT3
    clear hg a1 a2 a3 T
    obtain ⟨T, hT⟩ : ∃ T : Two w p q A s B t, T = T3 := ⟨_, rfl⟩
    subst hT
    have g2 : decide (B < 32) = false := decide_eq_false (by omega)
    have g3 : (B < 32) = False := eq_false (by omega)
    have a1 := T.q0
    have a2 := T.q1
    have a3 := T.p0
    go_wp2_with fail
    refine (binary_as B t 2 X X 0 true hX hX D1 D2 _ (HL.out.below T.g)).mono ?_
    rintro e w9 ⟨rfl, hg⟩
    obtain ⟨T3, hT3⟩ := two_next T hg
    subst hT3
    clear hg a1 a2 a3 T
    obtain ⟨T, hT⟩ : ∃ T : Two w p q A s B t, T = T3 := ⟨_, rfl⟩
    subst hT
    have a1 := T.q0
    have a2 := T.q1
    have a3 := T.p0
    go_wp2_with fail
    refine (binary_as B t 1 X X S P hX hX U1 U2 _ (HL.out.below T.g)).mono ?_
    rintro e w9 ⟨rfl, hg⟩
    obtain ⟨T3, hT3⟩ := two_next T hg
    subst hT3
    clear hg a1 a2 a3 T
    obtain ⟨T, hT⟩ : ∃ T : Two w p q A s B t, T = T3 := ⟨_, rfl⟩
    subst hT
    have a1 := T.q0
    have a2 := T.q1
    have a3 := T.p0
    go_wp2_with fail
    refine (binary_as B t 3 X 2 S P hX (by decide) V1 V2 _ (HL.out.below T.g)).mono ?_
    rintro e w9 ⟨rfl, hg⟩
    obtain ⟨T3, hT3⟩ := two_next T hg
    subst hT3
    clear hg a1 a2 a3 T
    obtain ⟨T, hT⟩ : ∃ T : Two w p q A s B t, T = T3 := ⟨_, rfl⟩
    subst hT
    have a1 := T.q0
    have a2 := T.q1
    have a3 := T.p0
    go_wp2_with fail
    refine (binary_as B t 10 X X 0 true hX hX X1 X2 _ (HL.out.below T.g)).mono ?_
    rintro e w9 ⟨rfl, hg⟩
    obtain ⟨T3, hT3⟩ := two_next T hg
    subst hT3
    clear hg a1 a2 a3 T
    obtain ⟨T, hT⟩ : ∃ T : Two w p q A s B t, T = T3 := ⟨_, rfl⟩
    subst hT
    clear g2 g3
    go_wp2_with fail
    have hne : Nonempty (Two w p q A s B t) := ⟨T⟩
    have l0 : ∀ u : Two w p q A s B t, u.W.cell? ⟨p, 0, none⟩ = some (.int .i64 A) := fun u => u.p0
    have l1 : ∀ u : Two w p q A s B t, u.W.cell? ⟨p, 1, none⟩ = some (.bool s) := fun u => u.p1
    have l2 : ∀ u : Two w p q A s B t, u.W.cell? ⟨q, 0, none⟩ = some (.int .i64 B) := fun u => u.q0
    have l3 : ∀ u : Two w p q A s B t, u.W.cell? ⟨q, 1, none⟩ = some (.bool t) := fun u => u.q1
    try simp only [List.append_eq, List.cons_append, List.nil_append]
    refine wp_region_class (C := fun W => ∃ u : Two w p q A s B t, W = u.W) (by kernel_rfl) (by kernel_rfl) ⟨T.on (Gr.refl _).drew, rfl⟩ ?_
    repeat (go_big_quiet_step (first
      | (go_at_call 17; with_reducible refine two_call _ (winvert_yes B t X N1 M1 hX HR HN1 HM1 _ (HL.out.below (Two.g _))))
      | (go_at_call 17; with_reducible refine two_call _ (winvert_yes B t M1 N2 X hM1 HR HN2 HM2 _ (HL.out.below (Two.g _))))
      | (go_at_call 28; with_reducible refine two_call _ (awake_true _ (HL.out.below (Two.g _))))))
    refine wpQuiet_nil ?_
    rintro _ ⟨T2, rfl⟩
    clear hne l0 l1 l2 l3 T
    obtain ⟨T, hT⟩ : ∃ T : Two w p q A s B t, T = T2 := ⟨_, rfl⟩
    subst hT
    go_wp2_with fail
    go_returns
    exact ⟨rb rfl rfl, T.g⟩
end Go.Proofs.YtkjhdanfbmdmlaaDoor
