/- The law WordWide: its walk, in terms of what its calls answer. -/
import Derived.Test.YtkjhdanfbmdmlaaDoorWordWideH
namespace Go.Proofs.YtkjhdanfbmdmlaaDoor
open Go.RowKit
set_option linter.unusedVariables false
set_option maxRecDepth 100000 in
set_option maxHeartbeats 4000000 in
theorem wide_core (a b : Int) (ha : -2147483648 ≤ a ∧ a ≤ 2147483647) (hb : -2147483648 ≤ b ∧ b ≤ 2147483647) (f g N : Nat → Int) (O : Nat → Bool)
   (hf : f 0 = a + b ∧ f 1 = a - b ∧ f 2 = wrap64 (a * b)) (hg : g 0 = (a + b) % 4294967296 ∧ g 1 = (a - b) % 4294967296 ∧ g 2 = a % 4294967296 * (b % 4294967296) % 4294967296)
   (HN : ∀ k : Nat, k < 3 → Hid (Wd.bval 32 true (1 + k) a b = N k)) (HO : ∀ k : Nat, k < 3 → Hid (Wd.bok 32 true (1 + k) a b = O k)) (HW : ∀ k : Nat, k < 3 → Hid (Wd.bval 32 false (1 + k) (a % 4294967296) (b % 4294967296) = g k)) (HP : ∀ k : Nat, k < 3 → Hid (Wd.bok 32 false (1 + k) (a % 4294967296) (b % 4294967296) = true))
   (HNf : ∀ k : Nat, k < 3 → O k = true → N k = f k) (HE : ∀ k : Nat, k < 3 → O k = (f k == wrap64 (wrap32 (f k)))) (Hy : ∀ k : Nat, k < 3 → 0 ≤ g k ∧ g k ≤ 4294967295) (Q R C : Int) (P : Bool) (HQ : Hid (Wd.bval 32 true 4 a b = Q)) (HQo : Hid (Wd.bok 32 true 4 a b = P)) (HR : Hid (Wd.bval 32 true 5 a b = R)) (HRo : Hid (Wd.bok 32 true 5 a b = P))
   (HD : P = false ∧ b = 0 ∨ P = false ∧ a = -2147483648 ∧ b = -1 ∨ P = true ∧ b ≠ 0 ∧ a = -2147483648 ∧ b ≠ -1 ∧ Hid (wrap64 (Q * b) = C ∧ wrap64 (C + R) = a) ∨ P = true ∧ b ≠ 0 ∧ a ≠ -2147483648 ∧ Hid (wrap64 (Q * b) = C ∧ wrap64 (C + R) = a)) (w : World) (L : Laid w) :
    Calls Tryd.prog 5 #[.int .i32 a, .int .i32 b] w fun e w' => e = .returned (.bool true) ∧ Below w.heap.size w w' := by
  have HL := Lib.hid L
  clear L
  have HF := Lib.hid hf
  have HG := Lib.hid hg
  have HNf := Lib.hid HNf
  have HE := Lib.hid HE
  clear hf hg
  go_enter Tryd.func5, Tryd.ntmps5
  go_wp2_with fail
  obtain ⟨U, hU⟩ := four_made w _ _ _ _ _ _ _ _ _ _ f g HF.out.1.symm HF.out.2.1.symm HF.out.2.2.symm HG.out.1.symm HG.out.2.1.symm HG.out.2.2.symm
  rw [← hU]
  clear hU
  simp only [Int.emod_add_emod, Int.add_emod_emod, Int.sub_emod_emod, Int.emod_sub_emod]
  go_loopw [9] (fun i wr => ∃ k : Nat, k ≤ 3 ∧ i = .int .i64 k ∧ ∃ u : Four w f g, u.W = wr) (fun i _ => 3 - (intOf i).toNat)
  case atStart => exact ⟨0, by omega, rfl, U, rfl⟩
  case round =>
    obtain ⟨k, hk, rfl, T, rfl⟩ := hrel
    by_cases hlt : k < 3
    · have k0 : (0 : Int) ≤ (k : Int) := by omega
      have k3 : (k : Int) < 3 := by omega
      have a0 := T.a0
      have a1 := T.a1
      have b0 := T.b0
      have b1 := T.b1
      obtain ⟨n, hn⟩ : ∃ n, N k = n := ⟨_, rfl⟩
      obtain ⟨o, ho⟩ : ∃ o, O k = o := ⟨_, rfl⟩
      obtain ⟨x, hx⟩ : ∃ x, f k = x := ⟨_, rfl⟩
      obtain ⟨y, hy⟩ : ∃ y, g k = y := ⟨_, rfl⟩
      have h1 := HN k hlt
      have h2 := HO k hlt
      have h3 := HW k hlt
      have h4 := HP k hlt
      have hc : ∀ u : Four w f g, u.W.cell? ⟨w.heap.size + 1 + 1, k, none⟩ = some (.int .i64 x) := fun u => by rw [u.c k hlt, hx]
      have hd : ∀ u : Four w f g, u.W.cell? ⟨w.heap.size + 1 + 1 + 1, k, none⟩ = some (.int .u32 y) := fun u => by rw [u.d k hlt, hy]
      rw [hn] at h1
      rw [ho] at h2
      rw [hy] at h3
      have HE2 := Lib.hid ((HE.out k hlt))
      rw [ho, hx] at HE2
      have HNf2 := Lib.hid ((HNf.out k hlt))
      rw [ho, hn, hx] at HNf2
      have hyb := Hy k hlt
      rw [hy] at hyb
      clear hn ho hx hy
      have hyw : wrap64 y = y := Wd.wrap64_fix y (by omega)
      have hyw := Lib.hid hyw
      go_wp2_with fail
      refine (binary_as 32 true (1 + k) a b n o (by omega) (by omega) h1 h2 _ (HL.out.below T.n)).mono ?_
      rintro e w9 ⟨rfl, hg⟩
      obtain ⟨T3, hT3⟩ := four_next T hg
      subst hT3
      clear hg a0 a1 b0 b1
      have a0 := T3.a0
      have a1 := T3.a1
      have b0 := T3.b0
      have b1 := T3.b1
      go_wp2_with fail
      refine (binary_as 32 false (1 + k) (a % 4294967296) (b % 4294967296) y true (by omega) (by omega) h3 h4 _ (HL.out.below T3.n)).mono ?_
      rintro e w9 ⟨rfl, hg⟩
      obtain ⟨T4, hT4⟩ := four_next T3 hg
      subst hT4
      clear hg a0 a1 b0 b1
      cases o
      · have hne : Nonempty (Four w f g) := ⟨T⟩
        have x1 : (x == wrap64 (wrap32 x)) = false := HE2.out.symm
        have x2 : (x = wrap64 (wrap32 x)) = False := eq_false (by simpa using x1)
        have hyw := hyw.out
        go_wp2_with fail
        try simp only [List.append_eq, List.cons_append, List.nil_append]
        refine wp_region_class (C := fun W => ∃ u : Four w f g, W = u.W) (by kernel_rfl) (by kernel_rfl) ⟨T4.on (Gr.refl _).drew, rfl⟩ ?_
        repeat (go_big_quiet_step (fail))
        refine wpQuiet_nil ?_
        rintro _ ⟨T5, rfl⟩
        clear x1 x2 hne hc hd hyw hyb
        go_wp2_with fail
        go_roundw
        case rel => exact ⟨k + 1, by omega, by go_num, T5, rfl⟩
        case measure => simp [intOf]; omega
      · obtain rfl : n = x := HNf2.out rfl
        have hne : Nonempty (Four w f g) := ⟨T⟩
        have x1 : (n == wrap64 (wrap32 n)) = true := HE2.out.symm
        have x2 : (n = wrap64 (wrap32 n)) = True := eq_true (by simpa using x1)
        have hyw := hyw.out
        go_wp2_with fail
        try simp only [List.append_eq, List.cons_append, List.nil_append]
        refine wp_region_class (C := fun W => ∃ u : Four w f g, W = u.W) (by kernel_rfl) (by kernel_rfl) ⟨T4.on (Gr.refl _).drew, rfl⟩ ?_
        repeat (go_big_quiet_step (fail))
        refine wpQuiet_nil ?_
        rintro _ ⟨T5, rfl⟩
        clear x1 x2 hne hc hd hyw hyb
        go_wp2_with fail
        go_roundw
        case rel => exact ⟨k + 1, by omega, by go_num, T5, rfl⟩
        case measure => simp [intOf]; omega
    · obtain rfl : k = 3 := by omega
      have HN := Lib.hid HN
      have HO := Lib.hid HO
      have HW := Lib.hid HW
      have HP := Lib.hid HP
      have Hy := Lib.hid Hy
      rcases HD with ⟨rfl, rfl⟩ | ⟨rfl, rfl, rfl⟩ | ⟨rfl, hb0, rfl, hb1, HC⟩ | ⟨rfl, hb0, ha1, HC⟩
      · skip
        have hne : Nonempty (Four w f g) := ⟨T⟩
        have a0 := T.a0
        have a1 := T.a1
        go_wp2_with fail
        refine (binary_as 32 true 4 _ _ Q _ (by omega) (by omega) HQ HQo _ (HL.out.below T.n)).mono ?_
        rintro e w9 ⟨rfl, hg⟩
        obtain ⟨T3, hT3⟩ := four_next T hg
        subst hT3
        clear hg a0 a1
        have a0 := T3.a0
        have a1 := T3.a1
        go_wp2_with fail
        refine (binary_as 32 true 5 _ _ R _ (by omega) (by omega) HR HRo _ (HL.out.below T3.n)).mono ?_
        rintro e w9 ⟨rfl, hg⟩
        obtain ⟨T4, hT4⟩ := four_next T3 hg
        subst hT4
        clear hg a0 a1
        go_wp2_with fail
        refine (awake_true _ (HL.out.below T4.n)).mono ?_
        rintro e w9 ⟨rfl, hg⟩
        obtain ⟨T5, hT5⟩ := four_next T4 hg
        subst hT5
        clear hg
        go_wp2_with fail
        go_returns
        exact ⟨rb rfl (by first | rfl | exact bne_iff_ne.2 hb0), T5.n⟩
      · skip
        have hne : Nonempty (Four w f g) := ⟨T⟩
        have a0 := T.a0
        have a1 := T.a1
        go_wp2_with fail
        refine (binary_as 32 true 4 _ _ Q _ (by omega) (by omega) HQ HQo _ (HL.out.below T.n)).mono ?_
        rintro e w9 ⟨rfl, hg⟩
        obtain ⟨T3, hT3⟩ := four_next T hg
        subst hT3
        clear hg a0 a1
        have a0 := T3.a0
        have a1 := T3.a1
        go_wp2_with fail
        refine (binary_as 32 true 5 _ _ R _ (by omega) (by omega) HR HRo _ (HL.out.below T3.n)).mono ?_
        rintro e w9 ⟨rfl, hg⟩
        obtain ⟨T4, hT4⟩ := four_next T3 hg
        subst hT4
        clear hg a0 a1
        go_wp2_with fail
        refine (awake_true _ (HL.out.below T4.n)).mono ?_
        rintro e w9 ⟨rfl, hg⟩
        obtain ⟨T5, hT5⟩ := four_next T4 hg
        subst hT5
        clear hg
        go_wp2_with fail
        go_returns
        exact ⟨rb rfl (by first | rfl | exact bne_iff_ne.2 hb0), T5.n⟩
      · skip
        have hne : Nonempty (Four w f g) := ⟨T⟩
        have a0 := T.a0
        have a1 := T.a1
        go_wp2_with fail
        refine (binary_as 32 true 4 _ _ Q _ (by omega) (by omega) HQ HQo _ (HL.out.below T.n)).mono ?_
        rintro e w9 ⟨rfl, hg⟩
        obtain ⟨T3, hT3⟩ := four_next T hg
        subst hT3
        clear hg a0 a1
        have a0 := T3.a0
        have a1 := T3.a1
        go_wp2_with fail
        refine (binary_as 32 true 5 _ _ R _ (by omega) (by omega) HR HRo _ (HL.out.below T3.n)).mono ?_
        rintro e w9 ⟨rfl, hg⟩
        obtain ⟨T4, hT4⟩ := four_next T3 hg
        subst hT4
        clear hg a0 a1
        obtain ⟨q1, q2⟩ := HC.out
        have q4 : (b == 0) = false := by simpa using hb0
        have q5 : (b == -1) = false := by simpa using hb1
        go_wp2_with fail
        refine (awake_true _ (HL.out.below T4.n)).mono ?_
        rintro e w9 ⟨rfl, hg⟩
        obtain ⟨T5, hT5⟩ := four_next T4 hg
        subst hT5
        clear hg
        go_wp2_with fail
        go_returns
        exact ⟨rb rfl (by first | rfl | exact bne_iff_ne.2 hb0), T5.n⟩
      · skip
        have hne : Nonempty (Four w f g) := ⟨T⟩
        have a0 := T.a0
        have a1 := T.a1
        go_wp2_with fail
        refine (binary_as 32 true 4 _ _ Q _ (by omega) (by omega) HQ HQo _ (HL.out.below T.n)).mono ?_
        rintro e w9 ⟨rfl, hg⟩
        obtain ⟨T3, hT3⟩ := four_next T hg
        subst hT3
        clear hg a0 a1
        have a0 := T3.a0
        have a1 := T3.a1
        go_wp2_with fail
        refine (binary_as 32 true 5 _ _ R _ (by omega) (by omega) HR HRo _ (HL.out.below T3.n)).mono ?_
        rintro e w9 ⟨rfl, hg⟩
        obtain ⟨T4, hT4⟩ := four_next T3 hg
        subst hT4
        clear hg a0 a1
        obtain ⟨q1, q2⟩ := HC.out
        have q4 : (b == 0) = false := by simpa using hb0
        have q5 : (a == -2147483648) = false := by simpa using ha1
        go_wp2_with fail
        refine (awake_true _ (HL.out.below T4.n)).mono ?_
        rintro e w9 ⟨rfl, hg⟩
        obtain ⟨T5, hT5⟩ := four_next T4 hg
        subst hT5
        clear hg
        go_wp2_with fail
        go_returns
        exact ⟨rb rfl (by first | rfl | exact bne_iff_ne.2 hb0), T5.n⟩
end Go.Proofs.YtkjhdanfbmdmlaaDoor
