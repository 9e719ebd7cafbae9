/- The document's own over at products, and shift. -/
import Derived.Test.YtkjhdanfbmdmlaaDoorWordRefA
namespace Go.Proofs.YtkjhdanfbmdmlaaDoor
open Go.RowKit
set_option linter.unusedVariables false
set_option linter.unusedSimpArgs false

theorem Wd.over_3 (a b : Int) (ha : -9223372036854775808 ≤ a ∧ a ≤ 9223372036854775807) (hb : -9223372036854775808 ≤ b ∧ b ≤ 9223372036854775807) (a0 : ¬ a = 0) (b0 : ¬ b = 0) :
    Wd.over 3 a b = true ↔ (¬ wrap64 ((wrap64 (a * b)).tdiv b) = a ∨ a = -1 ∧ b = -9223372036854775808 ∨ b = -1 ∧ a = -9223372036854775808) := by
  have hf := Wd.fits_64 (a * b)
  have e : Wd.over 3 a b = !(Wd.fits 64 (a * b)) := rfl
  rw [e]
  have hN := Wd.wrap64_bd (a * b)
  obtain ⟨k, hk⟩ := Wd.wrap64_mul (a * b)
  have hmb := Wd.mul_back a b _ a0 b0 hb k hk
  by_cases b1 : b = -1
  · subst b1
    have hm : a * -1 = -a := by omega
    rw [hm] at hf hN hk hmb ⊢
    have ht : (wrap64 (-a)).tdiv (-1) = -(wrap64 (-a)) := by rw [Int.tdiv_neg, Int.tdiv_one]
    rw [ht]
    cases h : Wd.fits 64 (-a)
    · rw [h] at hf
      simp at hf
      simp
      omega
    · have h2 := hf.1 h
      rw [Wd.wrap64_fix _ h2, Int.neg_neg, Wd.wrap64_fix _ ha]
      simp
      omega
  · rw [Wd.tdiv_wrap _ _ hN b0 b1]
    cases h : Wd.fits 64 (a * b)
    · rw [h] at hf
      simp at hf
      simp
      left
      intro hc
      have := hmb.1 hc
      generalize a * b = c at *
      omega
    · have h2 := hf.1 h
      have hk0 : k = 0 := by
        generalize a * b = c at *
        omega
      have := hmb.2 hk0
      simp
      refine ⟨this, ?_, ?_⟩
      · intro h3 h4
        subst h3 h4
        exact absurd h2 (by decide)
      · intro h3; exact absurd h3 b1

set_option maxHeartbeats 2000000 in
theorem rover_3 (E : Bool) (a b : Int) (ha : -9223372036854775808 ≤ a ∧ a ≤ 9223372036854775807) (hb : -9223372036854775808 ≤ b ∧ b ≤ 9223372036854775807) (w : World) (HE : Hid (Wd.over 3 a b = E)) : Calls Tryd.prog 37 #[.int .i64 3, .int .i64 a, .int .i64 b] w fun e w' => e = .returned (.bool E) ∧ w = w' := by
  by_cases a0 : a = 0
  · have a0b : (a != 0) = false := by simpa using a0
    have Ha0 := Lib.hid a0
    clear a0
    go_enter Tryd.func37, Tryd.ntmps37
    go_wp2
    all_goals (go_returns; refine ⟨rb rfl ?_, rfl⟩)
    all_goals (rw [← HE.out]; unfold Wd.over; rw [if_pos (by decide), Ha0.out, show Wd.exact 3 0 b = 0 * b from rfl, Int.zero_mul]; decide)
  · have a0b : (a != 0) = true := by simpa using a0
    have Ha0 := Lib.hid a0
    clear a0
    by_cases b0 : b = 0
    · have b0b : (b != 0) = false := by simpa using b0
      have Hb0 := Lib.hid b0
      clear b0
      go_enter Tryd.func37, Tryd.ntmps37
      go_wp2
      all_goals (go_returns; refine ⟨rb rfl ?_, rfl⟩)
      all_goals (rw [← HE.out]; unfold Wd.over; rw [if_pos (by decide), Hb0.out, show Wd.exact 3 a 0 = a * 0 from rfl, Int.mul_zero]; decide)
    · have b0b : (b != 0) = true := by simpa using b0
      have Hb0 := Lib.hid b0
      clear b0
      have hne : ¬ b = 0 := Hb0.out
      by_cases d0 : wrap64 ((wrap64 (a * b)).tdiv b) = a
      · have d0b : (wrap64 ((wrap64 (a * b)).tdiv b) != a) = false := by simpa using d0
        have Hd0 := Lib.hid d0
        clear d0
        by_cases a1 : a = -1
        · have a1b : (a == -1) = true := by simpa using a1
          have Ha1 := Lib.hid a1
          clear a1
          by_cases b1 : b = -9223372036854775808
          · have b1b : (b == -9223372036854775808) = true := by simpa using b1
            have Hb1 := Lib.hid b1
            clear b1
            go_enter Tryd.func37, Tryd.ntmps37
            go_wp2
            all_goals (go_returns; refine ⟨rb rfl ?_, rfl⟩)
            all_goals (rw [← HE.out]; have h3 := Wd.over_3 a b ha hb Ha0.out Hb0.out; exact (h3.2 (Or.inr (Or.inl ⟨Ha1.out, Hb1.out⟩))).symm)
          · have b1b : (b == -9223372036854775808) = false := by simpa using b1
            have Hb1 := Lib.hid b1
            clear b1
            have a2b : (a == -9223372036854775808) = false := by rw [Ha1.out]; decide
            have hbm : (b == -1) = false ∨ (b == -1) = true := by cases (b == -1) <;> simp
            rcases hbm with hbm | hbm
            · skip
              go_enter Tryd.func37, Tryd.ntmps37
              go_wp2
              all_goals (go_returns; refine ⟨rb rfl ?_, rfl⟩)
              all_goals (rw [← HE.out]; have h3 := Wd.over_3 a b ha hb Ha0.out Hb0.out; cases h : Wd.over 3 a b; rfl; have := h3.1 h; have p1 := Hd0.out; have p2 := Ha1.out; have p3 := Hb1.out; rcases this with t | t | t; exact absurd p1 t; exact absurd t.2 p3; rw [p2] at t; exact absurd t.2 (by decide))
            · skip
              go_enter Tryd.func37, Tryd.ntmps37
              go_wp2
              all_goals (go_returns; refine ⟨rb rfl ?_, rfl⟩)
              all_goals (rw [← HE.out]; have h3 := Wd.over_3 a b ha hb Ha0.out Hb0.out; cases h : Wd.over 3 a b; rfl; have := h3.1 h; have p1 := Hd0.out; have p2 := Ha1.out; have p3 := Hb1.out; rcases this with t | t | t; exact absurd p1 t; exact absurd t.2 p3; rw [p2] at t; exact absurd t.2 (by decide))
        · have a1b : (a == -1) = false := by simpa using a1
          have Ha1 := Lib.hid a1
          clear a1
          by_cases b1 : b = -1
          · have b1b : (b == -1) = true := by simpa using b1
            have Hb1 := Lib.hid b1
            clear b1
            by_cases a2 : a = -9223372036854775808
            · have a2b : (a == -9223372036854775808) = true := by simpa using a2
              have Ha2 := Lib.hid a2
              clear a2
              go_enter Tryd.func37, Tryd.ntmps37
              go_wp2
              all_goals (go_returns; refine ⟨rb rfl ?_, rfl⟩)
              all_goals (rw [← HE.out]; have h3 := Wd.over_3 a b ha hb Ha0.out Hb0.out; exact (h3.2 (Or.inr (Or.inr ⟨Hb1.out, Ha2.out⟩))).symm)
            · have a2b : (a == -9223372036854775808) = false := by simpa using a2
              have Ha2 := Lib.hid a2
              clear a2
              go_enter Tryd.func37, Tryd.ntmps37
              go_wp2
              all_goals (go_returns; refine ⟨rb rfl ?_, rfl⟩)
              all_goals (rw [← HE.out]; have h3 := Wd.over_3 a b ha hb Ha0.out Hb0.out; cases h : Wd.over 3 a b; rfl; have := h3.1 h; have p1 := Hd0.out; have p2 := Ha1.out; have p3 := Ha2.out; rcases this with t | t | t; exact absurd p1 t; exact absurd t.1 p2; exact absurd t.2 p3)
          · have b1b : (b == -1) = false := by simpa using b1
            have Hb1 := Lib.hid b1
            clear b1
            go_enter Tryd.func37, Tryd.ntmps37
            go_wp2
            all_goals (go_returns; refine ⟨rb rfl ?_, rfl⟩)
            all_goals (rw [← HE.out]; have h3 := Wd.over_3 a b ha hb Ha0.out Hb0.out; cases h : Wd.over 3 a b; rfl; have := h3.1 h; have p1 := Hd0.out; have p2 := Ha1.out; have p3 := Hb1.out; rcases this with t | t | t; exact absurd p1 t; exact absurd t.1 p2; exact absurd t.1 p3)
      · have d0b : (wrap64 ((wrap64 (a * b)).tdiv b) != a) = true := by simpa using d0
        have Hd0 := Lib.hid d0
        clear d0
        go_enter Tryd.func37, Tryd.ntmps37
        go_wp2
        all_goals (go_returns; refine ⟨rb rfl ?_, rfl⟩)
        all_goals (rw [← HE.out]; have h3 := Wd.over_3 a b ha hb Ha0.out Hb0.out; exact (h3.2 (Or.inl Hd0.out)).symm)

theorem rover (sub : Int) (E : Bool) (a b : Int) (ha : -9223372036854775808 ≤ a ∧ a ≤ 9223372036854775807) (hb : -9223372036854775808 ≤ b ∧ b ≤ 9223372036854775807) (HE : Hid (Wd.over sub a b = E)) (w : World) : Calls Tryd.prog 37 #[.int .i64 sub, .int .i64 a, .int .i64 b] w fun e w' => e = .returned (.bool E) ∧ w = w' := by
  by_cases h1 : sub = 1
  · subst h1; exact rover_1 E a b ha hb w HE
  by_cases h2 : sub = 2
  · subst h2; exact rover_2 E a b ha hb w HE
  by_cases h3 : sub = 3
  · subst h3; exact rover_3 E a b ha hb w HE
  have e : Wd.over sub a b = false := by unfold Wd.over; rw [if_neg (by omega)]
  have := HE.out
  rw [e] at this
  subst this
  exact rover_o a b w sub (by omega)

set_option maxHeartbeats 400000 in
theorem rshift_out (b : Int) (s left : Bool) (x y : Int) (h : y < 0 ∨ b ≤ y) (w : World) :
    Calls Tryd.prog 36 #[.agg #[.int .i64 b, .bool s], .bool left, .int .i64 x, .int .i64 y] w fun e w' => e = .returned (.tuple #[.int .i64 0, .bool false]) ∧ Gr w w' := by
  by_cases h1 : y < 0
  · clear h
    go_enter Tryd.func36, Tryd.ntmps36
    go_wp2
    go_returns
    exact ⟨rt rfl rfl rfl rfl, (Gr.refl _).alloc _ _⟩
  · have h2 : b ≤ y := by omega
    clear h
    go_enter Tryd.func36, Tryd.ntmps36
    go_wp2
    go_returns
    exact ⟨rt rfl rfl rfl rfl, (Gr.refl _).alloc _ _⟩

set_option maxHeartbeats 400000 in
theorem rshift_r (b : Int) (s : Bool) (x y : Int) (h0 : 0 ≤ y) (h1 : y < b) (hb : b ≤ 64) (w : World) :
    Calls Tryd.prog 36 #[.agg #[.int .i64 b, .bool s], .bool false, .int .i64 x, .int .i64 y] w fun e w' => e = .returned (.tuple #[.int .i64 (if s then x / 2 ^ y.toNat else wrap64 (IntKind.u64.wrap x / 2 ^ y.toNat)), .bool true]) ∧ Gr w w' := by
  have hy : y ≤ 63 := by omega
  cases s
  all_goals
    go_enter Tryd.func36, Tryd.ntmps36
    go_wp2
    go_returns
    exact ⟨rt rfl rfl rfl rfl, (Gr.refl _).alloc _ _⟩

set_option maxHeartbeats 400000 in
theorem rshift_lu (b x y N M : Int) (h0 : 0 ≤ y) (h1 : y < b) (hb : b ≤ 64) (hN : -9223372036854775808 ≤ N ∧ N ≤ 9223372036854775807)
    (HN : Hid (wrap64 (x * 2 ^ y.toNat) = N)) (HM : Hid (Wd.wrap b false N = M)) (w : World) :
    Calls Tryd.prog 36 #[.agg #[.int .i64 b, .bool false], .bool true, .int .i64 x, .int .i64 y] w fun e w' => e = .returned (.tuple #[.int .i64 M, .bool true]) ∧ Gr w w' := by
  have hy : y ≤ 63 := by omega
  go_enter Tryd.func36, Tryd.ntmps36
  go_wp2_with fail
  rw [HN.out]
  refine (rwrap_as b false N M hN HM _).mono ?_
  rintro e w1 ⟨rfl, hg⟩
  obtain ⟨a1, a2, a3, a4⟩ := hg.two (k := w.heap.size) (by first | omega | (simp; done) | (simp; omega))
  have HG := Lib.hid hg
  clear hg
  go_wp2_with fail
  go_returns
  exact ⟨rt rfl rfl rfl rfl, HG.out.of_alloc⟩

set_option maxHeartbeats 400000 in
theorem rshift_neg (b x y N M : Int) (h0 : 0 ≤ y) (h1 : y < b) (hb : b ≤ 64) (hneg : x < 0) (hN : -9223372036854775808 ≤ N ∧ N ≤ 9223372036854775807)
    (HN : Hid (wrap64 (x * 2 ^ y.toNat) = N)) (HM : Hid (Wd.wrap b true N = M)) (w : World) :
    Calls Tryd.prog 36 #[.agg #[.int .i64 b, .bool true], .bool true, .int .i64 x, .int .i64 y] w fun e w' => e = .returned (.tuple #[.int .i64 0, .bool false]) ∧ Gr w w' := by
  have hy : y ≤ 63 := by omega
  go_enter Tryd.func36, Tryd.ntmps36
  go_wp2_with fail
  rw [HN.out]
  refine (rwrap_as b true N M hN HM _).mono ?_
  rintro e w1 ⟨rfl, hg⟩
  obtain ⟨a1, a2, a3, a4⟩ := hg.two (k := w.heap.size) (by first | omega | (simp; done) | (simp; omega))
  have HG := Lib.hid hg
  clear hg
  go_wp2_with fail
  go_returns
  exact ⟨rt rfl rfl rfl rfl, HG.out.of_alloc⟩

set_option maxHeartbeats 400000 in
theorem rshift_xneg (b x y N M : Int) (h0 : 0 ≤ y) (h1 : y < b) (hb : b ≤ 64) (hpos : 0 ≤ x) (hM : M < 0) (hN : -9223372036854775808 ≤ N ∧ N ≤ 9223372036854775807)
    (HN : Hid (wrap64 (x * 2 ^ y.toNat) = N)) (HM : Hid (Wd.wrap b true N = M)) (w : World) :
    Calls Tryd.prog 36 #[.agg #[.int .i64 b, .bool true], .bool true, .int .i64 x, .int .i64 y] w fun e w' => e = .returned (.tuple #[.int .i64 0, .bool false]) ∧ Gr w w' := by
  have hy : y ≤ 63 := by omega
  go_enter Tryd.func36, Tryd.ntmps36
  go_wp2_with fail
  rw [HN.out]
  refine (rwrap_as b true N M hN HM _).mono ?_
  rintro e w1 ⟨rfl, hg⟩
  obtain ⟨a1, a2, a3, a4⟩ := hg.two (k := w.heap.size) (by first | omega | (simp; done) | (simp; omega))
  have HG := Lib.hid hg
  clear hg
  go_wp2_with fail
  go_returns
  exact ⟨rt rfl rfl rfl rfl, HG.out.of_alloc⟩

set_option maxHeartbeats 400000 in
theorem rshift_ls (b x y N M K : Int) (E : Bool) (h0 : 0 ≤ y) (h1 : y < b) (hb : b ≤ 64) (hpos : 0 ≤ x) (hM : 0 ≤ M) (hN : -9223372036854775808 ≤ N ∧ N ≤ 9223372036854775807)
    (HN : Hid (wrap64 (x * 2 ^ y.toNat) = N)) (HM : Hid (Wd.wrap b true N = M)) (HK : Hid (M / 2 ^ y.toNat = K)) (he : (K != x) = E) (w : World) :
    Calls Tryd.prog 36 #[.agg #[.int .i64 b, .bool true], .bool true, .int .i64 x, .int .i64 y] w fun e w' => e = .returned (.tuple #[.int .i64 (if E then 0 else M), .bool (!E)]) ∧ Gr w w' := by
  have hy : y ≤ 63 := by omega
  cases E
  all_goals
    go_enter Tryd.func36, Tryd.ntmps36
    go_wp2_with fail
    rw [HN.out]
    refine (rwrap_as b true N M hN HM _).mono ?_
    rintro e w1 ⟨rfl, hg⟩
    obtain ⟨a1, a2, a3, a4⟩ := hg.two (k := w.heap.size) (by first | omega | (simp; done) | (simp; omega))
    have HG := Lib.hid hg
    clear hg
    have hk := HK.out
    go_wp2_with fail
    go_returns
    exact ⟨rt rfl rfl rfl rfl, HG.out.of_alloc⟩
end Go.Proofs.YtkjhdanfbmdmlaaDoor
