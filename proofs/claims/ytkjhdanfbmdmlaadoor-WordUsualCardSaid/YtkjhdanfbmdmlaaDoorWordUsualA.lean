/- The law WordUsual: its walk, way A. -/
import Derived.Test.YtkjhdanfbmdmlaaDoorWordUsualH
namespace Go.Proofs.YtkjhdanfbmdmlaaDoor
open Go.RowKit
set_option linter.unusedVariables false

set_option maxRecDepth 100000 in
set_option maxHeartbeats 4000000 in
theorem usual_A (x y n : Int) (K M : Nat) (hK : K < 8) (hM : M < 8) (HK : Hid (IntKind.u64.wrap x % 8 = (K : Int))) (HM : Hid (IntKind.u64.wrap y % 8 = (M : Int)))
    (hx : -9223372036854775808 ≤ x ∧ x ≤ 9223372036854775807) (hy : -9223372036854775808 ≤ y ∧ y ≤ 9223372036854775807) 
    (UB X A2 : Int) (sK : Bool) (HS : Hid (Wd.tabS K = sK))  (hn : -9223372036854775808 ≤ n ∧ n ≤ 9223372036854775807) (hX : -9223372036854775808 ≤ X ∧ X ≤ 9223372036854775807) (HX : Hid (Wd.wrap (Wd.tabB K) sK n = X))
    (H1 : Hid (Wd.ub (Wd.tabB K) sK (Wd.tabB M) (Wd.tabS M) = UB)) (H1s : Hid (Wd.us (Wd.tabB K) sK (Wd.tabB M) (Wd.tabS M) = true))
    (H2 : Hid (Wd.ub (Wd.tabB M) (Wd.tabS M) (Wd.tabB K) sK = UB)) (H2s : Hid (Wd.us (Wd.tabB M) (Wd.tabS M) (Wd.tabB K) sK = true))
    (H3 : Hid (Wd.ub UB true UB true = UB)) (H3s : Hid (Wd.us UB true UB true = true)) (H4 : Hid (Wd.ub UB true (Wd.tabB K) sK = UB)) (H4s : Hid (Wd.us UB true (Wd.tabB K) sK = true))
    (HMU : Hid (Wd.may UB = true)) (h32 : 32 ≤ UB) (hle : Wd.tabB K ≤ UB) (HA2 : Hid (Wd.wrap UB true X = A2)) (HI : Hid ((A2 == X) = true)) (w : World) (L : Laid w) :
    Calls Tryd.prog 6 #[.int .i64 x, .int .i64 y, .int .i64 n] w fun e w' => e = .returned (.bool true) ∧ Below w.heap.size w w' := by
  have HL := Lib.hid L
  clear L
  go_enter Tryd.func6, Tryd.ntmps6
  go_wp2_with fail
  refine (widths_any w).mono ?_
  rintro e w1 hwid
  obtain ⟨g, cap, rfl, hg1, hg2, hb, hrow⟩ := wids_open hwid
  obtain ⟨c1, c2⟩ := hrow K hK
  obtain ⟨d1, d2⟩ := hrow M hM
  clear hrow hwid
  have e1 := World.new_ne w1 _ c1
  have e2 := World.new_ne w1 _ c2
  have e3 := World.new_ne w1 _ d1
  have e4 := World.new_ne w1 _ d2
  have k0 : (0 : Int) ≤ (K : Int) := by omega
  have k8 : (K : Int) < 8 := by omega
  have m0 : (0 : Int) ≤ (M : Int) := by omega
  have m8 : (M : Int) < 8 := by omega
  have hs := hb.size
  go_upto_region 2 with fail
  go_cut [8, 9] (fun v8 v9 wx => Boxed w (Wd.tabB K) (Wd.tabS K) (Wd.tabB M) (Wd.tabS M) v8 v9 wx)
  case first =>
    go_region_held3 (fun W => W.cell? ⟨g, K * 2, none⟩ = some (.int .i64 (Wd.tabB K)) ∧ W.cell? ⟨g, K * 2 + 1, none⟩ = some (.bool (Wd.tabS K)) ∧ W.cell? ⟨g, M * 2, none⟩ = some (.int .i64 (Wd.tabB M)) ∧ W.cell? ⟨g, M * 2 + 1, none⟩ = some (.bool (Wd.tabS M))) (go_keep)
      (first | (go_at_call 30; with_reducible refine (low_as x 8 K hx (by decide) HK _).mono ?_; rintro e w2 ⟨rfl, hw⟩; cases hw) | (go_at_call 30; with_reducible refine (low_as y 8 M hy (by decide) HM _).mono ?_; rintro e w2 ⟨rfl, hw⟩; cases hw))
    all_goals (go_wp2_with fail; go_meet)
    all_goals refine ⟨_, _, rfl, rfl, ?_, ?_, ?_, ?_, ?_, ?_, ?_, ?_, ?_⟩
    all_goals first
      | omega
      | (simp; done)
      | (simp; omega)
      | (repeat (first | exact hb | refine Below.drew ?_ | refine Below.alloc ?_ (by first | omega | (simp; omega)) _))
  case rest =>
    obtain ⟨p, q, rfl, rfl, hp1, hq1, hp2, hq2, p0, p1, q0, q1, hbx⟩ := hcut
    rw [HS.out] at p1
    clear c1 c2 d1 d2 e1 e2 e3 e4 hb hs k0 k8 m0 m8 hg1 hg2
    go_wp2_with fail
    refine (usual_as (Wd.tabB K) sK (Wd.tabB M) (Wd.tabS M) UB true H1 H1s _ (HL.out.below hbx)).mono ?_
    rintro e w2 ⟨rfl, hg⟩
    obtain ⟨a1, a2, _, _⟩ := hg.two hp2
    obtain ⟨b1, b2, _, _⟩ := hg.two hq2
    rw [p0] at a1; rw [p1] at a2; rw [q0] at b1; rw [q1] at b2
    have hb2 := hbx.trans (hg.b.mono hbx.size)
    have hz := hg.size
    have hp3 : p < w2.heap.size := by omega
    have hq3 : q < w2.heap.size := by omega
    have hs2 := hb2.size
    clear hg hbx hp2 hq2 p0 p1 q0 q1
    go_wp2_with fail
    refine (wwrap_as (Wd.tabB K) sK n X hn HX _).mono ?_
    rintro e w3 ⟨rfl, hg⟩
    obtain ⟨T, hTW⟩ : ∃ T : Three w p q w2.heap.size (Wd.tabB K) sK (Wd.tabB M) (Wd.tabS M) UB true, T.W = w3 := ⟨(Three.mk (w := w) (p := p) (q := q) (r := w2.heap.size) (b := Wd.tabB K) (s := sK) (c := Wd.tabB M) (t := Wd.tabS M) (B := UB) (S := true) _
      (by rw [World.cell?_alloc_past _ _ _ hp3]; exact a1) (by rw [World.cell?_alloc_past _ _ _ hp3]; exact a2) (by rw [World.cell?_alloc_past _ _ _ hq3]; exact b1) (by rw [World.cell?_alloc_past _ _ _ hq3]; exact b2) (by simp) (by simp) (by simp; omega) (by simp; omega) (by simp) (hb2.alloc hs2 _)).on hg, rfl⟩
    subst hTW
    clear hg
    go_wp2_with fail
    have hne : Nonempty (Three w p q w2.heap.size (Wd.tabB K) sK (Wd.tabB M) (Wd.tabS M) UB true) := ⟨T⟩
    have l0 : ∀ u : Three w p q w2.heap.size (Wd.tabB K) sK (Wd.tabB M) (Wd.tabS M) UB true, u.W.cell? ⟨p, 0, none⟩ = some (.int .i64 (Wd.tabB K)) := fun u => u.p0
    have l1 : ∀ u : Three w p q w2.heap.size (Wd.tabB K) sK (Wd.tabB M) (Wd.tabS M) UB true, u.W.cell? ⟨p, 1, none⟩ = some (.bool sK) := fun u => u.p1
    have l2 : ∀ u : Three w p q w2.heap.size (Wd.tabB K) sK (Wd.tabB M) (Wd.tabS M) UB true, u.W.cell? ⟨q, 0, none⟩ = some (.int .i64 (Wd.tabB M)) := fun u => u.q0
    have l3 : ∀ u : Three w p q w2.heap.size (Wd.tabB K) sK (Wd.tabB M) (Wd.tabS M) UB true, u.W.cell? ⟨q, 1, none⟩ = some (.bool (Wd.tabS M)) := fun u => u.q1
    have l4 : ∀ u : Three w p q w2.heap.size (Wd.tabB K) sK (Wd.tabB M) (Wd.tabS M) UB true, u.W.cell? ⟨w2.heap.size, 0, none⟩ = some (.int .i64 UB) := fun u => u.r0
    have l5 : ∀ u : Three w p q w2.heap.size (Wd.tabB K) sK (Wd.tabB M) (Wd.tabS M) UB true, u.W.cell? ⟨w2.heap.size, 1, none⟩ = some (.bool true) := fun u => u.r1
    clear a1 a2 b1 b2
    try simp only [List.append_eq, List.cons_append, List.nil_append]
    refine wp_region_class (C := fun W => ∃ u : Three w p q w2.heap.size (Wd.tabB K) sK (Wd.tabB M) (Wd.tabS M) UB true, W = u.W) (by kernel_rfl) (by kernel_rfl) ⟨T.on (Gr.refl _).drew, rfl⟩ ?_
    repeat (go_big_quiet_step (first
      | (go_at_call 27; with_reducible refine three_call _ (wmay_as UB true true HMU _ (HL.out.below (Three.g _))))
      | (go_at_call 21; with_reducible refine three_call _ (usual_as (Wd.tabB M) (Wd.tabS M) (Wd.tabB K) sK UB true H2 H2s _ (HL.out.below (Three.g _))))
      | (go_at_call 21; with_reducible refine three_call _ (usual_as UB true UB true UB true H3 H3s _ (HL.out.below (Three.g _))))
      | (go_at_call 21; with_reducible refine three_call _ (usual_as UB true (Wd.tabB K) sK UB true H4 H4s _ (HL.out.below (Three.g _))))
      | (go_at_call 19; with_reducible refine three_call _ (wis_as UB true X A2 true hX HMU HA2 HI _ (HL.out.below (Three.g _))))
      | (go_at_call 28; with_reducible refine three_call _ (awake_true _ (HL.out.below (Three.g _))))))
    refine wpQuiet_nil ?_
    rintro _ ⟨nq, rfl⟩
    go_wp2_with fail
    go_returns
    exact ⟨rb rfl rfl, nq.g⟩
end Go.Proofs.YtkjhdanfbmdmlaaDoor
