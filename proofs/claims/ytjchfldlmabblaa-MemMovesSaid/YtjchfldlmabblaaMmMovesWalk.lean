/- The law MemMoves, walked. -/
import Derived.Test.YtjchfldlmabblaaMmLow
namespace Go.Proofs.Ytjchfldlmabblaa
open Go.RowKit Go.Maps
set_option linter.unusedVariables false

theorem cells_none (W : World) : CellsIn W none 0 [] := ⟨rfl, (fun c h => by cases h), fun h => absurd h (Nat.lt_irrefl 0)⟩
def mvV (N : Int) : View := setV (fun _ => none) 1 (newV N (addM [] [] []))
theorem mvV_1 (N : Int) (hN : 1 ≤ N) : mvV N 1 = some ⟨N, fun _ => false, fun _ => v0⟩ := by
  unfold mvV setV newV
  rw [if_pos rfl, if_neg (by omega)]; rfl
theorem mv_at (N f : Int) (hN : 1 ≤ N) (hf : 0 ≤ f) (hf2 : f ≤ N) : atV (mvV N) ⟨2, 0, 1, f⟩ = some ⟨N, fun _ => false, fun _ => v0⟩ := by
  unfold atV
  rw [if_pos rfl, mvV_1 N hN]
  simp [Option.filter, spanV, hf, hf2]
theorem mv_move (N f b : Int) (hN : 1 ≤ N) (hN2 : N ≤ 60) (hf : 0 ≤ f) (hf2 : f ≤ N) (hb : I64 b) : moveV (mvV N) ⟨2, 0, 1, f⟩ b = if -f ≤ b ∧ b ≤ N - f then (⟨2, 0, 1, f + b⟩, true) else (v0, false) := by
  unfold moveV
  rw [mv_at N f hN hf hf2]
  simp only
  unfold I64 at hb
  unfold spanV
  simp only
  by_cases h : -f ≤ b ∧ b ≤ N - f
  · rw [if_pos h]
    have e : w64 (f + b) = f + b := (by unfold w64 wrap64; omega)
    rw [e, if_pos (by simp; omega)]
  · rw [if_neg h, if_neg]
    unfold w64 wrap64
    simp only [Bool.and_eq_true, decide_eq_true_eq]
    omega
theorem mv_within (N f g : Int) (hN : 1 ≤ N) (hf : 0 ≤ f) (hf2 : f ≤ N) (hg : 0 ≤ g) (hg2 : g ≤ N) : withinV (mvV N) ⟨2, 0, 1, f⟩ ⟨2, 0, 1, g⟩ = true := by
  unfold withinV inV
  rw [mv_at N f hN hf hf2, mv_at N g hN hg hg2]; rfl
theorem mv_less (N f g : Int) (hN : 1 ≤ N) (hf : 0 ≤ f) (hf2 : f ≤ N) (hg : 0 ≤ g) (hg2 : g ≤ N) : lessV (mvV N) ⟨2, 0, 1, f⟩ ⟨2, 0, 1, g⟩ = (decide (f < g), true) := by
  unfold lessV; rw [if_pos (mv_within N f g hN hf hf2 hg hg2)]
theorem mv_dist (N f g : Int) (hN : 1 ≤ N) (hN2 : N ≤ 60) (hf : 0 ≤ f) (hf2 : f ≤ N) (hg : 0 ≤ g) (hg2 : g ≤ N) : distV (mvV N) ⟨2, 0, 1, f⟩ ⟨2, 0, 1, g⟩ = (f - g, true) := by
  unfold distV; rw [if_pos (mv_within N f g hN hf hf2 hg hg2)]
  exact congrArg (·, true) (show w64 (f - g) = f - g by unfold w64 wrap64; omega)
theorem mv_equal (N f g : Int) : equalV (mvV N) ⟨2, 0, 1, f⟩ ⟨2, 0, 1, g⟩ = (decide (f = g), true) := by
  unfold equalV noneV
  simp
theorem vl2 (f : Int) (hf : 0 ≤ f) (hf2 : f ≤ 1000) : vlOk ⟨2, 0, 1, f⟩ := ⟨by unfold I64; simp, by unfold I64; simp, by unfold I64; simp, by unfold I64; simp; omega⟩
set_option maxRecDepth 100000 in
set_option maxHeartbeats 4000000 in
theorem memMoves_walk (size from_ by_ : Int) (w1 : (Lit.int .i64 size).wf = true) (w2 : (Lit.int .i64 from_).wf = true) (w3 : (Lit.int .i64 by_).wf = true) (w : World) : Calls Try.prog 5 #[.int .i64 size, .int .i64 from_, .int .i64 by_] w fun e w' => e = .returned (.bool true) ∧ Below w.heap.size w w' := by
  have hs := wf_I64 w1
  have hf := wf_I64 w2
  have hb := wf_I64 w3
  obtain ⟨k, hk, hkz⟩ := low_nat size 60 hs (by decide)
  have HK := Lib.hid hkz
  obtain ⟨N, hN⟩ : ∃ N : Int, 1 + (k : Int) = N := ⟨_, rfl⟩
  obtain ⟨f, hf1, hfz⟩ := low_nat from_ (N + 1) hf (by omega)
  have HF := Lib.hid hfz
  have hN1 : 1 ≤ N := by omega
  have hN2 : N ≤ 60 := by omega
  have hf0 : (0 : Int) ≤ (f : Int) := by omega
  have hf2 : (f : Int) ≤ N := by omega
  obtain ⟨V, hV⟩ : ∃ V, mvV N = V := ⟨_, rfl⟩
  have M1 : moveV V ⟨2, 0, 1, 0⟩ f = (⟨2, 0, 1, f⟩, true) := by rw [← hV, mv_move N 0 f hN1 hN2 (by omega) (by omega) (by unfold I64; omega), if_pos (by omega)]; simp
  have M2 := mv_move N f by_ hN1 hN2 hf0 hf2 hb
  rw [hV] at M2
  have HV := Lib.hid hV
  have HM1 := Lib.hid M1
  have HM2 := Lib.hid M2
  clear hV M1 M2 w1 w2 w3 hkz hfz
  go_enter Try.func5, Try.ntmps5
  go_wp2_with fail
  refine (low_as size 60 _ hs (by decide) HK _).mono ?_
  rintro e w1 ⟨rfl, rfl⟩
  go_wp2_with fail
  refine (mem_b w (fun _ => False) (fun _ e => e.elim)).mono ?_
  rintro e w1 ⟨m, rfl, hm, hk⟩
  have HMM := Lib.hid hm
  clear hm hk HK
  go_wp2_with fail
  refine (add_b N 1 rfl none 0 0 [] V HV.out HMM.out (by unfold I64; omega) (cells_none _) (by omega) (by omega)).mono ?_
  rintro e w2 ⟨rfl, hm2, _⟩
  have HM3 := Lib.hid hm2
  clear hm2 HMM
  go_wp2_with fail
  refine (low_as from_ (N + 1) _ hf (by omega) HF _).mono ?_
  rintro e w3 ⟨rfl, rfl⟩
  go_wp2_with fail
  refine (move_b ⟨2, 0, 1, 0⟩ f _ HM1.out HM3.out awOk).mono ?_
  rintro e w3 ⟨rfl, hm3, _⟩
  have HM4 := Lib.hid hm3
  clear hm3 HM3 HF HM1
  go_wp2_with fail
  obtain ⟨g, hg⟩ : ∃ g, w3.heap.size = g := ⟨_, rfl⟩
  have HM5 := Lib.hid (HM4.out.no ((Keeps.refl No w3).alloc (.cells #[.int .i64 2, .int .i64 0, .int .i64 1, .int .i64 (f : Int)] 30)))
  by_cases his : -(f : Int) ≤ by_ ∧ by_ ≤ N - (f : Int)
  · have M2 : moveV V ⟨2, 0, 1, f⟩ by_ = (⟨2, 0, 1, (f : Int) + by_⟩, true) := by rw [HM2.out, if_pos his]
    obtain ⟨i1, i2⟩ := his
    clear HM2
    refine (move_b ⟨2, 0, 1, f⟩ by_ _ M2 HM5.out (vl2 _ hf0 (by omega))).mono ?_
    rintro e w4 ⟨rfl, hm4, hk4⟩
    have hp4 := row_of hk4
    rw [hg] at hp4 ⊢
    obtain ⟨c0, c1, c2, c3, _⟩ := four_cells hp4
    have HM6 := Lib.hid hm4
    have HP := Lib.hid hp4
    have gl : g < w4.heap.size := (Array.getElem?_eq_some_iff.1 hp4).1
    have gn : g ≠ w4.heap.size := by omega
    obtain ⟨G, hG⟩ : ∃ G, (f : Int) + by_ = G := ⟨_, rfl⟩
    have G0 : 0 ≤ G := by omega
    have GN : G ≤ N := by omega
    simp only [hG]
    have HG := Lib.hid hG
    clear hm4 hk4 hp4 M2 HM4 HM5 hg hG
    go_wp2_with fail
    have M3 : moveV V ⟨2, 0, 1, G⟩ (-by_) = (⟨2, 0, 1, (f : Int)⟩, true) := by
      rw [← HV.out, mv_move N G (-by_) hN1 hN2 G0 GN (by unfold I64 at hb ⊢; omega), if_pos (by have := HG.out; omega)]
      rw [show G + -by_ = (f : Int) by have := HG.out; omega]
    refine (move_b ⟨2, 0, 1, G⟩ (-by_) _ M3 (HM6.out.no (by repeat (first | with_reducible exact Keeps.refl _ _ | with_reducible refine Keeps.alloc ?_ _ | with_reducible refine Keeps.drewN ?_ _ | with_reducible refine Keeps.drew ?_ | with_reducible refine Keeps.setCell ?_ (.inr (by simp)) _ | with_reducible refine Keeps.setRow ?_ (by simp) _))) (vl2 _ G0 (by omega))).mono ?_
    rintro e w5 ⟨rfl, hm5, hk5⟩
    have hq5 := row_of hk5
    have hp5 := (hk5.block g (by simp; omega) (fun e => e)).trans ((Below.heap_alloc _ _ _ gl).trans HP.out)
    obtain ⟨h, hh⟩ : ∃ h, w4.heap.size = h := ⟨_, rfl⟩
    rw [hh] at hq5 ⊢
    clear c0 c1 c2 c3 gl gn HP HM6 M3
    obtain ⟨c0, c1, c2, c3, _⟩ := four_cells hp5
    obtain ⟨q0, q1, q2, q3, _⟩ := four_cells hq5
    have HM7 := Lib.hid hm5
    have HP := Lib.hid hp5
    have HQ := Lib.hid hq5
    have gl : g < w5.heap.size := (Array.getElem?_eq_some_iff.1 hp5).1
    have gn : g ≠ w5.heap.size := by omega
    have hl : h < w5.heap.size := (Array.getElem?_eq_some_iff.1 hq5).1
    have hn : h ≠ w5.heap.size := by omega
    clear hm5 hk5 hp5 hq5 hh
    go_wp2_with fail
    have M4 : distV V ⟨2, 0, 1, G⟩ ⟨2, 0, 1, (f : Int)⟩ = (by_, true) := by rw [← HV.out, mv_dist N G f hN1 hN2 G0 GN hf0 hf2]; rw [show G - (f : Int) = by_ by have := HG.out; omega]
    refine (dist_b ⟨2, 0, 1, G⟩ ⟨2, 0, 1, (f : Int)⟩ _ M4 (HM7.out.no (by repeat (first | with_reducible exact Keeps.refl _ _ | with_reducible refine Keeps.alloc ?_ _ | with_reducible refine Keeps.drewN ?_ _ | with_reducible refine Keeps.drew ?_ | with_reducible refine Keeps.setCell ?_ (.inr (by simp)) _ | with_reducible refine Keeps.setRow ?_ (by simp) _))) (vl2 _ G0 (by omega)) (vl2 _ hf0 (by omega))).mono ?_
    rintro e w6 ⟨rfl, hm6, hk6⟩
    have hb6 := row_of hk6
    have hp6 := (hk6.block g (by simp; omega) (fun e => e)).trans ((Below.heap_alloc _ _ _ gl).trans HP.out)
    have hq6 := (hk6.block h (by simp; omega) (fun e => e)).trans ((Below.heap_alloc _ _ _ hl).trans HQ.out)
    obtain ⟨j, hj⟩ : ∃ j, w5.heap.size = j := ⟨_, rfl⟩
    rw [hj] at hb6 ⊢
    clear c0 c1 c2 c3 q0 q1 q2 q3 gl gn hl hn HP HQ HM7 M4
    obtain ⟨c0, c1, c2, c3, _⟩ := four_cells hp6
    obtain ⟨q0, q1, q2, q3, _⟩ := four_cells hq6
    have HM8 := Lib.hid hm6
    have HR := Lib.hid (And.intro hp6 (And.intro hq6 hb6))
    clear hm6 hk6 hp6 hq6 hb6 hj
    go_wp2_with fail
    have M5 : lessV V ⟨2, 0, 1, (f : Int)⟩ ⟨2, 0, 1, G⟩ = (decide ((f : Int) < G), true) := by rw [← HV.out]; exact mv_less N f G hN1 hf0 hf2 G0 GN
    refine (less_b ⟨2, 0, 1, (f : Int)⟩ ⟨2, 0, 1, G⟩ _ M5 HM8.out (vl2 _ hf0 (by omega)) (vl2 _ G0 (by omega))).mono ?_
    rintro e w7 ⟨rfl, hm7, hk7⟩
    obtain ⟨hp6, hq6, hb6⟩ := HR.out
    have hp7 := (hk7.block g (Array.getElem?_eq_some_iff.1 hp6).1 (fun e => e)).trans hp6
    have hq7 := (hk7.block h (Array.getElem?_eq_some_iff.1 hq6).1 (fun e => e)).trans hq6
    have hb7 := (hk7.block j (Array.getElem?_eq_some_iff.1 hb6).1 (fun e => e)).trans hb6
    clear c0 c1 c2 c3 q0 q1 q2 q3 HR HM8 hp6 hq6 hb6 M5
    obtain ⟨c0, c1, c2, c3, _⟩ := four_cells hp7
    obtain ⟨q0, q1, q2, q3, _⟩ := four_cells hq7
    have HM9 := Lib.hid hm7
    have HR := Lib.hid (And.intro hp7 (And.intro hq7 hb7))
    clear hm7 hk7 hp7 hq7 hb7
    go_wp2_with fail
    have M6 : equalV V ⟨2, 0, 1, (f : Int)⟩ ⟨2, 0, 1, G⟩ = (decide ((f : Int) = G), true) := by rw [← HV.out]; exact mv_equal N f G
    refine (equal_b ⟨2, 0, 1, (f : Int)⟩ ⟨2, 0, 1, G⟩ _ M6 HM9.out (vl2 _ hf0 (by omega)) (vl2 _ G0 (by omega))).mono ?_
    rintro e w8 ⟨rfl, hm8, hk8⟩
    obtain ⟨hp6, hq6, hb6⟩ := HR.out
    have hp7 := (hk8.block g (Array.getElem?_eq_some_iff.1 hp6).1 (fun e => e)).trans hp6
    have hq7 := (hk8.block h (Array.getElem?_eq_some_iff.1 hq6).1 (fun e => e)).trans hq6
    have hb7 := (hk8.block j (Array.getElem?_eq_some_iff.1 hb6).1 (fun e => e)).trans hb6
    clear c0 c1 c2 c3 q0 q1 q2 q3 HR HM9 hp6 hq6 hb6 M6
    obtain ⟨c0, c1, c2, c3, _⟩ := four_cells hp7
    obtain ⟨q0, q1, q2, q3, _⟩ := four_cells hq7
    obtain ⟨r0, r1, r2, r3, _⟩ := four_cells hb7
    have HB8 := Lib.hid hm8.below
    clear hm8 hk8 hp7 hq7 hb7
    have e1 : decide ((f : Int) < G) = decide (0 < by_) := by have := HG.out; exact decide_eq_decide.2 (by omega)
    have e2 : decide ((f : Int) = G) = decide (by_ = 0) := by have := HG.out; exact decide_eq_decide.2 (by omega)
    simp only [e1, e2]
    go_wp2_with fail
    refine (awake_true _).mono ?_
    rintro e w9 ⟨rfl, hb9⟩
    have HB := Lib.hid (HB8.out.trans (hb9.mono HB8.out.size))
    clear hb9
    go_wp2_with fail
    go_returns
    exact ⟨rfl, HB.out⟩
  · have M2 : moveV V ⟨2, 0, 1, f⟩ by_ = (v0, false) := by rw [HM2.out, if_neg his]
    clear HM2
    refine (move_b ⟨2, 0, 1, f⟩ by_ _ M2 HM5.out (vl2 _ hf0 (by omega))).mono ?_
    rintro e w4 ⟨rfl, hm4, hk4⟩
    have hp4 := row_of hk4
    rw [hg] at hp4 ⊢
    obtain ⟨c0, c1, c2, c3, _⟩ := four_cells hp4
    have HM6 := Lib.hid hm4
    have gl : g < w4.heap.size := (Array.getElem?_eq_some_iff.1 hp4).1
    have gn : g ≠ w4.heap.size := by omega
    clear hm4 hk4 hp4 M2 HM4 HM5 hg
    by_cases i1 : -(f : Int) ≤ by_
    · have i2 : ¬ by_ ≤ N - (f : Int) := fun e => his ⟨i1, e⟩
      go_wp2_with fail
      refine (awake_true _).mono ?_
      rintro e w9 ⟨rfl, hb9⟩
      have HB := Lib.hid ((HM6.out.below.alloc HM6.out.below.size _).trans (hb9.mono (by have := HM6.out.below.size; simp; omega)))
      clear hb9
      go_wp2_with fail
      go_returns
      exact ⟨rfl, HB.out⟩
    · go_wp2_with fail
      refine (awake_true _).mono ?_
      rintro e w9 ⟨rfl, hb9⟩
      have HB := Lib.hid ((HM6.out.below.alloc HM6.out.below.size _).trans (hb9.mono (by have := HM6.out.below.size; simp; omega)))
      clear hb9
      go_wp2_with fail
      go_returns
      exact ⟨rfl, HB.out⟩
end Go.Proofs.Ytjchfldlmabblaa
