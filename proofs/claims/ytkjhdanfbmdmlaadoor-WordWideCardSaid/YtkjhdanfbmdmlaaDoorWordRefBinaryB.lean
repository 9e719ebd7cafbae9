/- The document's own Binary, more: quotients, rests, bits, compares; and all of it. -/
import Derived.Test.YtkjhdanfbmdmlaaDoorWordRefBinary
namespace Go.Proofs.YtkjhdanfbmdmlaaDoor
open Go.RowKit
set_option linter.unusedVariables false
set_option linter.unusedSimpArgs false
set_option linter.unusedSectionVars false
section
variable (b : Int) (x y : Int) (hx : -9223372036854775808 ≤ x ∧ x ≤ 9223372036854775807) (hy : -9223372036854775808 ≤ y ∧ y ≤ 9223372036854775807) (hr : Wd.reck b = true)
include hx hy hr

theorem ok_div (s : Bool) (sub : Int) (hs : sub = 4 ∨ sub = 5 ∨ sub = 6 ∨ sub = 7) :
    Wd.bok b s sub x y = (!(Wd.wrap b s y == 0) && !(s && Wd.wrap b s y == -1 && !(Wd.fits b (0 - Wd.wrap b s x)))) := by
  unfold Wd.bok; rw [hr, if_neg (by omega), if_pos hs]; rfl

theorem rb_div_f (sub P : Int) (hs : (sub = 4 ∨ sub = 6) ∧ P = 6 ∨ (sub = 5 ∨ sub = 7) ∧ P = 7) : RBinSays b false sub x y := by
  have hb := Wd.reck_cases hr
  have hA := Wd.wrap_bd b false x hx
  have hB := Wd.wrap_bd b false y hy
  have eo := ok_div b x y hx hy hr false sub (by omega)
  simp only [Bool.false_and, Bool.not_false, Bool.and_true] at eo
  have po : Wd.plainOk P (Wd.wrap b false x) (Wd.wrap b false y) = !(Wd.wrap b false y == 0) := by
    rcases hs with ⟨_, rfl⟩ | ⟨_, rfl⟩ <;> rfl
  by_cases h0 : Wd.wrap b false y = 0
  · have e0 : (!(Wd.wrap b false y == 0)) = false := by rw [h0]; rfl
    rw [e0] at eo po
    rcases hs with ⟨rfl | rfl, rfl⟩ | ⟨rfl | rfl, rfl⟩
    · exact RBinSays.no eo fun w => rbin_f4_plain b x y _ hb hx hy rfl _ rfl hA hB _ rfl po w
    · exact RBinSays.no eo fun w => rbin_f6_plain b x y _ hb hx hy rfl _ rfl hA hB _ rfl po w
    · exact RBinSays.no eo fun w => rbin_f5_plain b x y _ hb hx hy rfl _ rfl hA hB _ rfl po w
    · exact RBinSays.no eo fun w => rbin_f7_plain b x y _ hb hx hy rfl _ rfl hA hB _ rfl po w
  · have e0 : (!(Wd.wrap b false y == 0)) = true := by simpa using h0
    rw [e0] at eo po
    have hI := Wd.isOf_div b P _ _ hb (by omega) (Wd.isOf_wrap b false x hb) (Wd.isOf_wrap b false y hb) h0
    have hNb : -9223372036854775808 ≤ Wd.plainV P (Wd.wrap b false x) (Wd.wrap b false y) ∧ Wd.plainV P (Wd.wrap b false x) (Wd.wrap b false y) ≤ 9223372036854775807 := by
      rcases hs with ⟨_, rfl⟩ | ⟨_, rfl⟩
      · rw [Wd.plain_6 _ _ h0]; exact Wd.wrap64_bd _
      · rw [Wd.plain_7 _ _ h0]; exact Wd.wrap64_bd _
    rcases hs with ⟨h4, rfl⟩ | ⟨h5, rfl⟩
    · have hv : Wd.bval b false sub x y = Wd.plainV 6 (Wd.wrap b false x) (Wd.wrap b false y) := by
        unfold Wd.bval; rw [if_neg (by rw [eo]; decide), if_neg (by omega), if_pos h4, if_neg (by decide)]
      rcases h4 with rfl | rfl
      · exact RBinSays.yes eo hv fun w => rbin_f4_ok b x y _ hb hx hy rfl _ rfl hA hB _ rfl po _ hNb hI w
      · exact RBinSays.yes eo hv fun w => rbin_f6_ok b x y _ hb hx hy rfl _ rfl hA hB _ rfl po _ hNb hI w
    · have hv : Wd.bval b false sub x y = Wd.plainV 7 (Wd.wrap b false x) (Wd.wrap b false y) := by
        unfold Wd.bval; rw [if_neg (by rw [eo]; decide), if_neg (by omega), if_neg (by omega), if_pos h5, if_neg (by decide)]
      rcases h5 with rfl | rfl
      · exact RBinSays.yes eo hv fun w => rbin_f5_ok b x y _ hb hx hy rfl _ rfl hA hB _ rfl po _ hNb hI w
      · exact RBinSays.yes eo hv fun w => rbin_f7_ok b x y _ hb hx hy rfl _ rfl hA hB _ rfl po _ hNb hI w

theorem rb_div_t (sub : Int) (hs : sub = 4 ∨ sub = 6) : RBinSays b true sub x y := by
  have hb := Wd.reck_cases hr
  have hA := Wd.wrap_bd b true x hx
  have hB := Wd.wrap_bd b true y hy
  have fA := Wd.fits_wrap b x hb hx
  have eo := ok_div b x y hx hy hr true sub (by omega)
  simp only [Bool.true_and] at eo
  have ov : Wd.over 4 (Wd.wrap b true x) (Wd.wrap b true y) = false := rfl
  have po : Wd.plainOk 4 (Wd.wrap b true x) (Wd.wrap b true y) = (!(Wd.wrap b true y == 0) && !(Wd.wrap b true x == -9223372036854775808 && Wd.wrap b true y == -1)) := rfl
  have hvv : Wd.bok b true sub x y = true → Wd.bval b true sub x y = (Wd.wrap b true x).tdiv (Wd.wrap b true y) := fun h => by
    unfold Wd.bval; rw [if_neg (by rw [h]; decide), if_neg (by omega), if_pos hs, if_pos rfl]
  by_cases h0 : Wd.wrap b true y = 0
  · have p0 : Wd.plainOk 4 (Wd.wrap b true x) (Wd.wrap b true y) = false := by rw [po, h0]; rfl
    have e0 : Wd.bok b true sub x y = false := by rw [eo, h0]; rfl
    rcases hs with rfl | rfl
    · exact RBinSays.no e0 fun w => rbin_t4_plain b x y _ hb hx hy rfl _ rfl hA hB ov _ rfl p0 w
    · exact RBinSays.no e0 fun w => rbin_t6_plain b x y _ hb hx hy rfl _ rfl hA hB ov _ rfl p0 w
  · have z0 : (Wd.wrap b true y == 0) = false := by simpa using h0
    by_cases h1 : Wd.wrap b true y = -1
    · have z1 : (Wd.wrap b true y == -1) = true := by simpa using h1
      rw [z0, z1] at eo po
      simp only [Bool.not_false, Bool.true_and, Bool.and_true, Bool.not_not] at eo po
      by_cases hm : Wd.wrap b true x = -9223372036854775808
      · have p0 : Wd.plainOk 4 (Wd.wrap b true x) (Wd.wrap b true y) = false := by rw [po, hm]; rfl
        have e0 : Wd.bok b true sub x y = false := by
          rw [eo, hm]
          rcases hb with rfl | rfl <;> decide
        rcases hs with rfl | rfl
        · exact RBinSays.no e0 fun w => rbin_t4_plain b x y _ hb hx hy rfl _ rfl hA hB ov _ rfl p0 w
        · exact RBinSays.no e0 fun w => rbin_t6_plain b x y _ hb hx hy rfl _ rfl hA hB ov _ rfl p0 w
      · have p1 : Wd.plainOk 4 (Wd.wrap b true x) (Wd.wrap b true y) = true := by rw [po]; simpa using hm
        have hN : Wd.plainV 4 (Wd.wrap b true x) (Wd.wrap b true y) = 0 - Wd.wrap b true x := by
          rw [Wd.plain_4 _ _ p1, h1, Int.tdiv_neg, Int.tdiv_one, Wd.wrap64_fix _ (by omega)]; omega
        cases hf : Wd.fits b (0 - Wd.wrap b true x)
        · have hne : (Wd.wrap b true (0 - Wd.wrap b true x) != 0 - Wd.wrap b true x) = true := by
            rcases hb with rfl | rfl
            · have := Wd.wrap_32t_eq (0 - Wd.wrap 32 true x)
              rw [hf] at this
              simpa using this
            · have : Wd.fits 64 (0 - Wd.wrap 64 true x) = true := (Wd.fits_64 _).2 (by omega)
              rw [this] at hf; cases hf
          rcases hs with rfl | rfl
          · exact RBinSays.no (eo.trans hf) fun w => rbin_t4_wrap b x y _ hb hx hy rfl _ rfl hA hB ov _ hN p1 _ (by omega) rfl hne w
          · exact RBinSays.no (eo.trans hf) fun w => rbin_t6_wrap b x y _ hb hx hy rfl _ rfl hA hB ov _ hN p1 _ (by omega) rfl hne w
        · have hM := Wd.wrap_fix hb hf
          have hv := hvv (eo.trans hf)
          rw [h1, Int.tdiv_neg, Int.tdiv_one, show -(Wd.wrap b true x) = 0 - Wd.wrap b true x by omega] at hv
          rcases hs with rfl | rfl
          · exact RBinSays.yes (eo.trans hf) hv fun w => rbin_t4_ok b x y _ hb hx hy rfl _ rfl hA hB ov _ hN p1 _ (by omega) hM (by simp) w
          · exact RBinSays.yes (eo.trans hf) hv fun w => rbin_t6_ok b x y _ hb hx hy rfl _ rfl hA hB ov _ hN p1 _ (by omega) hM (by simp) w
    · have z1 : (Wd.wrap b true y == -1) = false := by simpa using h1
      rw [z0, z1] at eo po
      simp only [Bool.not_false, Bool.true_and, Bool.and_false, Bool.false_and, Bool.and_true] at eo po
      have hN : Wd.plainV 4 (Wd.wrap b true x) (Wd.wrap b true y) = (Wd.wrap b true x).tdiv (Wd.wrap b true y) := by
        rw [Wd.plain_4 _ _ po]; exact Wd.tdiv_wrap _ _ hA h0 h1
      have hf := Wd.tdiv_fits b _ _ hb fA h0 h1
      have hM := Wd.wrap_fix hb hf
      have hNb := Wd.fits_bd hb hf
      rcases hs with rfl | rfl
      · exact RBinSays.yes eo (hvv eo) fun w => rbin_t4_ok b x y _ hb hx hy rfl _ rfl hA hB ov _ hN po _ hNb hM (by simp) w
      · exact RBinSays.yes eo (hvv eo) fun w => rbin_t6_ok b x y _ hb hx hy rfl _ rfl hA hB ov _ hN po _ hNb hM (by simp) w

theorem rb_mod_t (sub : Int) (hs : sub = 5 ∨ sub = 7) : RBinSays b true sub x y := by
  have hb := Wd.reck_cases hr
  have hA := Wd.wrap_bd b true x hx
  have hB := Wd.wrap_bd b true y hy
  have fA := Wd.fits_wrap b x hb hx
  have eo := ok_div b x y hx hy hr true sub (by omega)
  simp only [Bool.true_and] at eo
  have ov : Wd.over 5 (Wd.wrap b true x) (Wd.wrap b true y) = false := rfl
  have po : Wd.plainOk 5 (Wd.wrap b true x) (Wd.wrap b true y) = (!(Wd.wrap b true y == 0) && !(Wd.wrap b true x == -9223372036854775808 && Wd.wrap b true y == -1)) := rfl
  have hvv : Wd.bok b true sub x y = true → Wd.bval b true sub x y = (Wd.wrap b true x).tmod (Wd.wrap b true y) := fun h => by
    unfold Wd.bval; rw [if_neg (by rw [h]; decide), if_neg (by omega), if_neg (by omega), if_pos hs, if_pos rfl]
  by_cases h1 : Wd.wrap b true y = -1
  · have z1 : (Wd.wrap b true y == -1) = true := by simpa using h1
    have z0 : (Wd.wrap b true y == 0) = false := by rw [h1]; rfl
    rw [z0, z1] at eo po
    simp only [Bool.not_false, Bool.true_and, Bool.and_true, Bool.not_not] at eo po
    cases hf : Wd.fits b (0 - Wd.wrap b true x)
    · have hWA : (Wd.wrap b true (wrap64 (-(Wd.wrap b true x))) == Wd.wrap b true x) = true ∧ (Wd.wrap b true x != 0) = true := by
        rcases hb with rfl | rfl
        · have h2 := (Wd.fits_32 (Wd.wrap 32 true x)).1 fA
          have h3 : ¬ (-2147483648 ≤ 0 - Wd.wrap 32 true x ∧ 0 - Wd.wrap 32 true x ≤ 2147483647) := fun h => by rw [(Wd.fits_32 _).2 h] at hf; cases hf
          have h4 : Wd.wrap 32 true x = -2147483648 := by omega
          rw [h4, show wrap64 (- -2147483648) = 2147483648 from by unfold wrap64; decide]; decide
        · have h3 : ¬ (-9223372036854775808 ≤ 0 - Wd.wrap 64 true x ∧ 0 - Wd.wrap 64 true x ≤ 9223372036854775807) := fun h => by rw [(Wd.fits_64 _).2 h] at hf; cases hf
          have h4 : Wd.wrap 64 true x = -9223372036854775808 := by omega
          rw [h4, show wrap64 (- -9223372036854775808) = -9223372036854775808 from by unfold wrap64; decide]; decide
      rcases hs with rfl | rfl
      · exact RBinSays.no (eo.trans hf) fun w => rbin_t5_mfail b x y _ hb hx hy rfl _ rfl hA hB ov z1 _ rfl hWA.1 hWA.2 w
      · exact RBinSays.no (eo.trans hf) fun w => rbin_t7_mfail b x y _ hb hx hy rfl _ rfl hA hB ov z1 _ rfl hWA.1 hWA.2 w
    · have hm : ¬ Wd.wrap b true x = -9223372036854775808 := fun h => by
        rw [h] at hf
        rcases hb with rfl | rfl
        · exact absurd hf (by decide)
        · exact absurd hf (by decide)
      have p1 : Wd.plainOk 5 (Wd.wrap b true x) (Wd.wrap b true y) = true := by rw [po]; simpa using hm
      have hN : Wd.plainV 5 (Wd.wrap b true x) (Wd.wrap b true y) = 0 := by
        rw [Wd.plain_5 _ _ p1, h1, Int.tmod_neg, Int.tmod_one]
      have hM : Wd.wrap b true 0 = 0 := by rcases hb with rfl | rfl <;> decide
      have hv := hvv (eo.trans hf)
      rw [h1, Int.tmod_neg, Int.tmod_one] at hv
      by_cases hW : Wd.wrap b true (wrap64 (-(Wd.wrap b true x))) = Wd.wrap b true x
      · have hA0 : (Wd.wrap b true x != 0) = false := by
          have hb1 := Wd.fits_bd hb hf
          rw [Wd.wrap64_fix _ (by omega), show -(Wd.wrap b true x) = 0 - Wd.wrap b true x by omega, Wd.wrap_fix hb hf] at hW
          have : Wd.wrap b true x = 0 := by omega
          rw [this]; rfl
        have hWb : (Wd.wrap b true (wrap64 (-(Wd.wrap b true x))) == Wd.wrap b true x) = true := by simpa using hW
        rcases hs with rfl | rfl
        · exact RBinSays.yes (eo.trans hf) hv fun w => rbin_t5_mok2 b x y _ hb hx hy rfl _ rfl hA hB ov z1 _ rfl hWb hA0 _ hN p1 _ (by decide) hM (by decide) w
        · exact RBinSays.yes (eo.trans hf) hv fun w => rbin_t7_mok2 b x y _ hb hx hy rfl _ rfl hA hB ov z1 _ rfl hWb hA0 _ hN p1 _ (by decide) hM (by decide) w
      · have hWb : (Wd.wrap b true (wrap64 (-(Wd.wrap b true x))) == Wd.wrap b true x) = false := by simpa using hW
        rcases hs with rfl | rfl
        · exact RBinSays.yes (eo.trans hf) hv fun w => rbin_t5_mok1 b x y _ hb hx hy rfl _ rfl hA hB ov z1 _ rfl hWb _ hN p1 _ (by decide) hM (by decide) w
        · exact RBinSays.yes (eo.trans hf) hv fun w => rbin_t7_mok1 b x y _ hb hx hy rfl _ rfl hA hB ov z1 _ rfl hWb _ hN p1 _ (by decide) hM (by decide) w
  · have z1 : (Wd.wrap b true y == -1) = false := by simpa using h1
    by_cases h0 : Wd.wrap b true y = 0
    · have p0 : Wd.plainOk 5 (Wd.wrap b true x) (Wd.wrap b true y) = false := by rw [po, h0]; rfl
      have e0 : Wd.bok b true sub x y = false := by rw [eo, h0]; rfl
      rcases hs with rfl | rfl
      · exact RBinSays.no e0 fun w => rbin_t5_nplain b x y _ hb hx hy rfl _ rfl hA hB ov z1 _ rfl p0 w
      · exact RBinSays.no e0 fun w => rbin_t7_nplain b x y _ hb hx hy rfl _ rfl hA hB ov z1 _ rfl p0 w
    · have z0 : (Wd.wrap b true y == 0) = false := by simpa using h0
      rw [z0, z1] at eo po
      simp only [Bool.not_false, Bool.true_and, Bool.and_false, Bool.false_and, Bool.and_true] at eo po
      have hN : Wd.plainV 5 (Wd.wrap b true x) (Wd.wrap b true y) = (Wd.wrap b true x).tmod (Wd.wrap b true y) := Wd.plain_5 _ _ po
      have hf := Wd.tmod_fits b _ (Wd.wrap b true y) hb fA
      have hM := Wd.wrap_fix hb hf
      have hNb := Wd.fits_bd hb hf
      rcases hs with rfl | rfl
      · exact RBinSays.yes eo (hvv eo) fun w => rbin_t5_nok b x y _ hb hx hy rfl _ rfl hA hB ov z1 _ hN po _ hNb hM (by simp) w
      · exact RBinSays.yes eo (hvv eo) fun w => rbin_t7_nok b x y _ hb hx hy rfl _ rfl hA hB ov z1 _ hN po _ hNb hM (by simp) w

theorem rb_bits (s : Bool) (sub : Int) (hs : 8 ≤ sub ∧ sub ≤ 10) : RBinSays b s sub x y := by
  have hb := Wd.reck_cases hr
  have hA := Wd.wrap_bd b s x hx
  have hB := Wd.wrap_bd b s y hy
  have eo := Wd.bok_rest b s sub x y hr (by omega)
  have hv : Wd.bval b s sub x y = Wd.plainV sub (Wd.wrap b s x) (Wd.wrap b s y) := by
    rw [Wd.bval_rest b s sub x y hr (by omega), if_neg (by omega), if_neg (by omega)]
  have hI := Wd.isOf_bits b s sub _ _ hb hs (Wd.isOf_wrap b s x hb) (Wd.isOf_wrap b s y hb)
  have hNb := Wd.bits_bd sub (Wd.wrap b s x) (Wd.wrap b s y) hs
  have po : Wd.plainOk sub (Wd.wrap b s x) (Wd.wrap b s y) = true := by
    unfold Wd.plainOk; rw [if_neg (by omega), if_neg (by omega)]; exact decide_eq_true (by omega)
  cases s
  · exact RBinSays.yes eo hv fun w => rbin_fr8_ok sub hs b x y _ hb hx hy rfl _ rfl hA hB _ rfl po _ hNb hI w
  · have ov : Wd.over sub (Wd.wrap b true x) (Wd.wrap b true y) = false := by unfold Wd.over; rw [if_neg (by omega)]
    exact RBinSays.yes eo hv fun w => rbin_tr8_ok sub hs b x y _ hb hx hy rfl _ rfl hA hB ov _ rfl po _ hNb hI (by simp) w

theorem rb_eq (s : Bool) (sub : Int) (hs : 14 ≤ sub ∧ sub ≤ 15) : RBinSays b s sub x y := by
  have hb := Wd.reck_cases hr
  have hA := Wd.wrap_bd b s x hx
  have hB := Wd.wrap_bd b s y hy
  have eo := Wd.bok_rest b s sub x y hr (by omega)
  have hv : Wd.bval b s sub x y = Wd.plainV sub (Wd.wrap b s x) (Wd.wrap b s y) := by
    rw [Wd.bval_rest b s sub x y hr (by omega), if_neg (by omega), if_neg (by omega)]
  have hc : sub = 14 ∨ sub = 15 := by omega
  have hI : Wd.isOf b s (Wd.plainV sub (Wd.wrap b s x) (Wd.wrap b s y)) := by
    rcases hc with rfl | rfl
    · rw [Wd.plain_14]; exact Wd.isOf_01 b s _ hb
    · rw [Wd.plain_15]; exact Wd.isOf_10 b s _ hb
  have hNb : -9223372036854775808 ≤ Wd.plainV sub (Wd.wrap b s x) (Wd.wrap b s y) ∧ Wd.plainV sub (Wd.wrap b s x) (Wd.wrap b s y) ≤ 9223372036854775807 := by
    rcases hc with rfl | rfl
    · rw [Wd.plain_14]; split <;> decide
    · rw [Wd.plain_15]; split <;> decide
  have po : Wd.plainOk sub (Wd.wrap b s x) (Wd.wrap b s y) = true := by
    unfold Wd.plainOk; rw [if_neg (by omega), if_neg (by omega)]; exact decide_eq_true (by omega)
  cases s
  · exact RBinSays.yes eo hv fun w => rbin_fr14_ok sub hs b x y _ hb hx hy rfl _ rfl hA hB _ rfl po _ hNb hI w
  · have ov : Wd.over sub (Wd.wrap b true x) (Wd.wrap b true y) = false := by unfold Wd.over; rw [if_neg (by omega)]
    exact RBinSays.yes eo hv fun w => rbin_tr14_ok sub hs b x y _ hb hx hy rfl _ rfl hA hB ov _ rfl po _ hNb hI (by simp) w

theorem plain_cmp (s : Bool) (P A B : Int) (hP : 16 ≤ P ∧ P ≤ 19) (hb : b = 32 ∨ b = 64) :
    Wd.isOf b s (Wd.plainV P A B) ∧ Wd.plainOk P A B = true ∧ -9223372036854775808 ≤ Wd.plainV P A B ∧ Wd.plainV P A B ≤ 9223372036854775807 := by
  have po : Wd.plainOk P A B = true := by
    unfold Wd.plainOk; rw [if_neg (by omega), if_neg (by omega)]; exact decide_eq_true (by omega)
  have hc : P = 16 ∨ P = 17 ∨ P = 18 ∨ P = 19 := by omega
  rcases hc with rfl | rfl | rfl | rfl
  · rw [Wd.plain_16]; exact ⟨Wd.isOf_01 b s _ hb, po, by split <;> decide⟩
  · rw [Wd.plain_17]; exact ⟨Wd.isOf_01 b s _ hb, po, by split <;> decide⟩
  · rw [Wd.plain_18]; exact ⟨Wd.isOf_01 b s _ hb, po, by split <;> decide⟩
  · rw [Wd.plain_19]; exact ⟨Wd.isOf_01 b s _ hb, po, by split <;> decide⟩

theorem rb_cmp_t (sub : Int) (hs : 16 ≤ sub ∧ sub ≤ 19) : RBinSays b true sub x y := by
  have hb := Wd.reck_cases hr
  have hA := Wd.wrap_bd b true x hx
  have hB := Wd.wrap_bd b true y hy
  have eo := Wd.bok_rest b true sub x y hr (by omega)
  have hv := Wd.bval_rest b true sub x y hr (by omega)
  have h6 := plain_cmp b x y hx hy hr true 16 (Wd.wrap b true x) (Wd.wrap b true y) (by decide) hb
  have h7 := plain_cmp b x y hx hy hr true 17 (Wd.wrap b true x) (Wd.wrap b true y) (by decide) hb
  have hc : sub = 16 ∨ sub = 17 ∨ sub = 18 ∨ sub = 19 := by omega
  rcases hc with rfl | rfl | rfl | rfl
  · rw [if_pos (by decide), if_pos rfl] at hv
    exact RBinSays.yes eo hv fun w => rbin_t16_ok b x y _ hb hx hy rfl _ rfl hA hB rfl _ rfl h6.2.1 _ h6.2.2 h6.1 (by simp) w
  · rw [if_neg (by decide), if_pos (by decide), if_pos rfl] at hv
    exact RBinSays.yes eo hv fun w => rbin_t17_ok b x y _ hb hx hy rfl _ rfl hA hB rfl _ rfl h7.2.1 _ h7.2.2 h7.1 (by simp) w
  · rw [if_pos (by decide), if_pos rfl] at hv
    exact RBinSays.yes eo hv fun w => rbin_t18_ok b x y _ hb hx hy rfl _ rfl hA hB rfl _ rfl h6.2.1 _ h6.2.2 h6.1 (by simp) w
  · rw [if_neg (by decide), if_pos (by decide), if_pos rfl] at hv
    exact RBinSays.yes eo hv fun w => rbin_t19_ok b x y _ hb hx hy rfl _ rfl hA hB rfl _ rfl h7.2.1 _ h7.2.2 h7.1 (by simp) w

theorem rb_cmp_f (sub : Int) (hs : 16 ≤ sub ∧ sub ≤ 19) : RBinSays b false sub x y := by
  have hb := Wd.reck_cases hr
  have hA := Wd.wrap_bd b false x hx
  have hB := Wd.wrap_bd b false y hy
  have eo := Wd.bok_rest b false sub x y hr (by omega)
  have hv := Wd.bval_rest b false sub x y hr (by omega)
  have h6 := plain_cmp b x y hx hy hr false 18 (Wd.wrap b false x) (Wd.wrap b false y) (by decide) hb
  have h7 := plain_cmp b x y hx hy hr false 19 (Wd.wrap b false x) (Wd.wrap b false y) (by decide) hb
  have hc : sub = 16 ∨ sub = 17 ∨ sub = 18 ∨ sub = 19 := by omega
  rcases hc with rfl | rfl | rfl | rfl
  · rw [if_pos (by decide), if_neg (by decide)] at hv
    exact RBinSays.yes eo hv fun w => rbin_f16_ok b x y _ hb hx hy rfl _ rfl hA hB _ rfl h6.2.1 _ h6.2.2 h6.1 w
  · rw [if_neg (by decide), if_pos (by decide), if_neg (by decide)] at hv
    exact RBinSays.yes eo hv fun w => rbin_f17_ok b x y _ hb hx hy rfl _ rfl hA hB _ rfl h7.2.1 _ h7.2.2 h7.1 w
  · rw [if_pos (by decide), if_neg (by decide)] at hv
    exact RBinSays.yes eo hv fun w => rbin_f18_ok b x y _ hb hx hy rfl _ rfl hA hB _ rfl h6.2.1 _ h6.2.2 h6.1 w
  · rw [if_neg (by decide), if_pos (by decide), if_neg (by decide)] at hv
    exact RBinSays.yes eo hv fun w => rbin_f19_ok b x y _ hb hx hy rfl _ rfl hA hB _ rfl h7.2.1 _ h7.2.2 h7.1 w
end

/-- The document's own Binary is word's. -/
theorem rbinary (b : Int) (s : Bool) (sub x y : Int) (hx : -9223372036854775808 ≤ x ∧ x ≤ 9223372036854775807) (hy : -9223372036854775808 ≤ y ∧ y ≤ 9223372036854775807) : RBinSays b s sub x y := by
  cases hr : Wd.reck b
  · have e1 : Wd.bok b s sub x y = false := by unfold Wd.bok; rw [hr]; rfl
    have h := hr
    unfold Wd.reck at h
    simp only [Bool.or_eq_false_iff, beq_eq_false_iff_ne] at h
    exact RBinSays.no e1 fun w => rbin_none b s sub x y (by simpa using h.1) (by simpa using h.2) w
  have hb := Wd.reck_cases hr
  by_cases h1 : 1 ≤ sub ∧ sub ≤ 3
  · cases s
    · exact rb_ring_f b x y hx hy hr sub h1
    · exact rb_ring_t b x y hx hy hr sub h1
  by_cases h2 : sub = 4 ∨ sub = 6
  · cases s
    · exact rb_div_f b x y hx hy hr sub 6 (Or.inl ⟨h2, rfl⟩)
    · exact rb_div_t b x y hx hy hr sub h2
  by_cases h3 : sub = 5 ∨ sub = 7
  · cases s
    · exact rb_div_f b x y hx hy hr sub 7 (Or.inr ⟨h3, rfl⟩)
    · exact rb_mod_t b x y hx hy hr sub h3
  by_cases h4 : 8 ≤ sub ∧ sub ≤ 10
  · exact rb_bits b x y hx hy hr s sub h4
  by_cases h5 : sub = 11
  · subst h5
    cases s
    · exact rb_shl_f b x y hx hy hr
    · exact rb_shl_t b x y hx hy hr
  by_cases h6 : sub = 12 ∨ sub = 13
  · exact rb_shr b x y hx hy hr s sub h6
  by_cases h7 : 14 ≤ sub ∧ sub ≤ 15
  · exact rb_eq b x y hx hy hr s sub h7
  by_cases h8 : 16 ≤ sub ∧ sub ≤ 19
  · cases s
    · exact rb_cmp_f b x y hx hy hr sub h8
    · exact rb_cmp_t b x y hx hy hr sub h8
  · have e1 : Wd.bok b s sub x y = false := by
      unfold Wd.bok; rw [hr, if_neg (by omega), if_neg (by omega), if_neg (by omega), if_neg (by omega), decide_eq_false (by omega)]; rfl
    exact RBinSays.no e1 fun w => rbin_bad b s sub x y hb (by omega) w
end Go.Proofs.YtkjhdanfbmdmlaaDoor
