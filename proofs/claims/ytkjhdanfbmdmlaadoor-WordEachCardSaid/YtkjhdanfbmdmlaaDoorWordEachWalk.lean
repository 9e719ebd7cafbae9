/- The law WordEach: its walk, for every input. -/
import Derived.Test.YtkjhdanfbmdmlaaDoorWordEachH
namespace Go.Proofs.YtkjhdanfbmdmlaaDoor
open Go.RowKit
set_option linter.unusedVariables false

theorem each64 {n : Int} (h : (Lit.int .i64 n).wf = true) : -9223372036854775808 ≤ n ∧ n ≤ 9223372036854775807 := by
  simp [Lit.wf, IntKind.min, IntKind.max, IntKind.signed, IntKind.bits] at h
  omega
theorem tab_mayA {k : Nat} (hk : k < 8) : Wd.may (Wd.tabB k) = true := by
  obtain rfl | rfl | rfl | rfl | rfl | rfl | rfl | rfl : k = 0 ∨ k = 1 ∨ k = 2 ∨ k = 3 ∨ k = 4 ∨ k = 5 ∨ k = 6 ∨ k = 7 := by omega
  all_goals rfl
theorem tab_again {k : Nat} (hk : k < 8) (n : Int) : (Wd.wrap (Wd.tabB k) (Wd.tabS k) (Wd.wrap (Wd.tabB k) (Wd.tabS k) n) == Wd.wrap (Wd.tabB k) (Wd.tabS k) n) = true := by
  rw [beq_iff_eq]
  obtain rfl | rfl | rfl | rfl | rfl | rfl | rfl | rfl : k = 0 ∨ k = 1 ∨ k = 2 ∨ k = 3 ∨ k = 4 ∨ k = 5 ∨ k = 6 ∨ k = 7 := by omega
  · rw [show Wd.tabB 0 = 8 from rfl, show Wd.tabS 0 = true from rfl]; simp only [Wd.wrap_8t]; omega
  · rw [show Wd.tabB 1 = 8 from rfl, show Wd.tabS 1 = false from rfl]; simp only [Wd.wrap_8f]; omega
  · rw [show Wd.tabB 2 = 16 from rfl, show Wd.tabS 2 = true from rfl]; simp only [Wd.wrap_16t]; omega
  · rw [show Wd.tabB 3 = 16 from rfl, show Wd.tabS 3 = false from rfl]; simp only [Wd.wrap_16f]; omega
  · rw [show Wd.tabB 4 = 32 from rfl, show Wd.tabS 4 = true from rfl]; simp only [Wd.wrap_32t]; omega
  · rw [show Wd.tabB 5 = 32 from rfl, show Wd.tabS 5 = false from rfl]; simp only [Wd.wrap_32f]; omega
  · rfl
  · rfl

set_option maxRecDepth 100000 in
set_option maxHeartbeats 4000000 in
theorem wordEach_walk (a b : Int) (w0 : (Lit.int .i64 a).wf = true) (w1 : (Lit.int .i64 b).wf = true) (w : World) (L : Laid w) :
    Calls Tryd.prog 4 #[.int .i64 a, .int .i64 b] w fun e w' => e = .returned (.bool true) ∧ Below w.heap.size w w' := by
  have HL := Lib.hid L
  have ha := each64 w0
  have hb := each64 w1
  clear L w0 w1
  go_enter Tryd.func4, Tryd.ntmps4
  go_wp2_with fail
  refine (widths_any w).mono ?_
  rintro e w1 hwid
  obtain ⟨g, cap, rfl, hg1, hg2, hbl, hrow⟩ := wids_open hwid
  obtain ⟨U, hU⟩ := row8_made hg2 hbl hrow
  subst hU
  clear hrow hwid hg2 hbl hg1
  go_wp2_with fail
  go_loopw [6] (fun i wr => ∃ k : Nat, k ≤ 8 ∧ i = .int .i64 k ∧ ∃ u : Row8 w g, u.W = wr) (fun i _ => 8 - (intOf i).toNat)
  case atStart => exact ⟨0, by omega, rfl, U, rfl⟩
  case round =>
    obtain ⟨k, hk, rfl, T, rfl⟩ := hrel
    by_cases hlt : k < 8
    · have k0 : (0 : Int) ≤ (k : Int) := by omega
      have k8 : (k : Int) < 8 := by omega
      obtain ⟨B, hB⟩ : ∃ B, Wd.tabB k = B := ⟨_, rfl⟩
      obtain ⟨s, hs⟩ : ∃ s, Wd.tabS k = s := ⟨_, rfl⟩
      have hm := tab_mayA hlt
      have hag := tab_again hlt a
      rw [hB, hs] at hag
      rw [hB] at hm
      obtain ⟨X, hX⟩ : ∃ X, Wd.wrap B s a = X := ⟨_, rfl⟩
      obtain ⟨Y, hY⟩ : ∃ Y, Wd.wrap B s b = Y := ⟨_, rfl⟩
      have hXb := Wd.wrap_bd B s a ha
      have hYb := Wd.wrap_bd B s b hb
      rw [hX] at hag hXb
      rw [hY] at hYb
      have HX := Lib.hid hX
      have HY := Lib.hid hY
      have HM := Lib.hid hm
      have HAG := Lib.hid hag
      have hc0 : ∀ u : Row8 w g, u.W.cell? ⟨g, k * 2, none⟩ = some (.int .i64 B) := fun u => by rw [(u.c k hlt).1, hB]
      have hc1 : ∀ u : Row8 w g, u.W.cell? ⟨g, k * 2 + 1, none⟩ = some (.bool s) := fun u => by rw [(u.c k hlt).2, hs]
      clear hB hs hX hY hm hag
      have hne : Nonempty (Row8 w g) := ⟨T⟩
      go_wp2_with fail
      try simp only [List.append_eq, List.cons_append, List.nil_append]
      refine wp_region_class (C := fun W => ∃ u : Row8 w g, W = u.W) (by kernel_rfl) (by kernel_rfl) ⟨T.on (Gr.refl _).drew, rfl⟩ ?_
      repeat (go_big_quiet_step (first
        | (go_at_call 16; with_reducible refine row8_call _ (rwrap_as B s a X ha HX _))
        | (go_at_call 16; with_reducible refine row8_call _ (rwrap_as B s b Y hb HY _))))
      refine wpQuiet_nil ?_
      rintro _ ⟨T2, rfl⟩
      go_wp2_with fail
      try simp only [List.append_eq, List.cons_append, List.nil_append]
      refine wp_region_class (C := fun W => ∃ u : Row8 w g, W = u.W) (by kernel_rfl) (by kernel_rfl) ⟨T2.on (Gr.refl _).drew, rfl⟩ ?_
      repeat (go_big_quiet_step (first
        | (go_at_call 18; with_reducible refine row8_call _ (wwrap_as B s a X ha HX _))
        | (go_at_call 19; with_reducible refine row8_call _ (wis_as B s X _ true hXb HM (Lib.hid rfl) HAG _ (HL.out.below (Row8.n _))))))
      refine wpQuiet_nil ?_
      rintro _ ⟨T3, rfl⟩
      go_wp2_with fail
      obtain ⟨wo, hwo⟩ : ∃ wo : World, wo = T3.W := ⟨_, rfl⟩
      go_loopw [9] (fun i wr => ∃ j : Nat, j ≤ 21 ∧ i = .int .i64 j ∧ ∃ u : Row8 w g, u.W = wr) (fun i _ => 21 - (intOf i).toNat)
      case atStart => exact ⟨0, by omega, rfl, T3, rfl⟩
      case round =>
        obtain ⟨j, hj, rfl, V, rfl⟩ := hrel
        by_cases hjl : j ≤ 20
        · have j20 : (j : Int) ≤ 20 := by omega
          obtain ⟨N, hN⟩ : ∃ N, Wd.bval B s j X Y = N := ⟨_, rfl⟩
          obtain ⟨O, hO⟩ : ∃ O, Wd.bok B s j X Y = O := ⟨_, rfl⟩
          have HN := Lib.hid hN
          have HO := Lib.hid hO
          clear hN hO
          have d0 := hc0 V
          have d1 := hc1 V
          go_wp2_with fail
          refine (binary_as B s j X Y N O hXb hYb HN HO _ (HL.out.below V.n)).mono ?_
          rintro e w9 ⟨rfl, hg⟩
          obtain ⟨V2, hV2⟩ := row8_next V hg
          subst hV2
          clear hg d0 d1
          have d0 := hc0 V2
          have d1 := hc1 V2
          go_wp2_with fail
          refine (rbinary_as B s j X Y N O hXb hYb HN HO _).mono ?_
          rintro e w9 ⟨rfl, hg⟩
          obtain ⟨V3, hV3⟩ := row8_next V2 hg
          subst hV3
          clear hg d0 d1
          go_wp2_with fail
          go_roundw
          case rel => exact ⟨j + 1, by omega, by go_num, V3, rfl⟩
          case measure => simp [intOf]; omega
        · have j20 : ¬ (j : Int) ≤ 20 := by omega
          go_wp2_with fail
          go_roundw
          case rel => exact ⟨k + 1, by omega, by go_num, V, rfl⟩
          case measure => simp [intOf]; omega
    · obtain rfl : k = 8 := by omega
      go_wp2_with fail
      refine (awake_true _ (HL.out.below T.n)).mono ?_
      rintro e w9 ⟨rfl, hg⟩
      obtain ⟨T5, hT5⟩ := row8_next T hg
      subst hT5
      clear hg
      go_wp2_with fail
      go_returns
      exact ⟨rb rfl rfl, T5.n⟩
end Go.Proofs.YtkjhdanfbmdmlaaDoor
