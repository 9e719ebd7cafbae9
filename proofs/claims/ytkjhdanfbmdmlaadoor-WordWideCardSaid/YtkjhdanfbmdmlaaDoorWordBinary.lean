/- word.Binary: for every width, every sub, every two numbers: Wd.bval, Wd.bok. -/
import Derived.Test.YtkjhdanfbmdmlaaDoorWordDiv
import Derived.Test.YtkjhdanfbmdmlaaDoorWordSpecB
namespace Go.Proofs.YtkjhdanfbmdmlaaDoor
open Go.RowKit
set_option linter.unusedVariables false
set_option linter.unusedSimpArgs false
set_option linter.unusedSectionVars false

def BinSays (b : Int) (s : Bool) (sub x y : Int) : Prop :=
  ∀ w, Laid w → Calls Tryd.prog 10 #[.agg #[.int .i64 b, .bool s], .int .i64 sub, .int .i64 x, .int .i64 y] w fun e w' =>
    e = .returned (.tuple #[.int .i64 (Wd.bval b s sub x y), .bool (Wd.bok b s sub x y)]) ∧ Gr w w'

section
variable (b : Int) (s : Bool) (x y : Int) (hx : -9223372036854775808 ≤ x ∧ x ≤ 9223372036854775807) (hy : -9223372036854775808 ≤ y ∧ y ≤ 9223372036854775807)
include hx hy

theorem bin_none (sub : Int) (hr : Wd.reck b = false) : BinSays b s sub x y := by
  intro w L
  have e1 : Wd.bok b s sub x y = false := by unfold Wd.bok; rw [hr]; rfl
  have e2 : Wd.bval b s sub x y = 0 := by unfold Wd.bval; rw [if_pos e1]
  rw [e1, e2]
  exact wbin_none b s sub x y hr w L

theorem bin_ring (sub : Int) (hs : sub = 1 ∨ sub = 2 ∨ sub = 3) (hr : Wd.reck b = true) : BinSays b s sub x y := by
  intro w L
  have hb := Wd.reck_cases hr
  have hA := Wd.wrap_bd b s x hx
  have hB := Wd.wrap_bd b s y hy
  have hN : -9223372036854775808 ≤ Wd.plainV sub (Wd.wrap b s x) (Wd.wrap b s y) ∧ Wd.plainV sub (Wd.wrap b s x) (Wd.wrap b s y) ≤ 9223372036854775807 := by
    rw [Wd.plain_x sub _ _ hs]; exact Wd.wrap64_bd _
  have H : ∀ w, Laid w → Calls Tryd.prog 33 #[.agg #[.int .i64 b, .bool s], .int .i64 sub, .int .i64 (Wd.wrap b s x), .int .i64 (Wd.wrap b s y)] w fun e w' =>
      e = .returned (.tuple #[.int .i64 (Wd.bval b s sub x y), .bool (Wd.bok b s sub x y)]) ∧ Gr w w' := by
    intro w L
    cases s
    · have e1 : Wd.bok b false sub x y = true := by unfold Wd.bok; rw [hr, if_pos hs]; rfl
      have e2 : Wd.bval b false sub x y = Wd.wrap b false (Wd.plainV sub (Wd.wrap b false x) (Wd.wrap b false y)) := by
        unfold Wd.bval; rw [if_neg (by rw [e1]; decide), if_pos hs, if_neg (by decide), Wd.plain_x sub _ _ hs]
      rw [e1, e2]
      exact wring_u b sub _ _ _ _ _ hA hB hN rfl (Wd.plain_ok_x sub _ _ hs) rfl w L
    · have hf := Wd.ring_spec b sub (Wd.wrap b true x) (Wd.wrap b true y) hb hs (Wd.fits_wrap b x hb hx) (Wd.fits_wrap b y hb hy)
      have e1 : Wd.bok b true sub x y = Wd.fits b (Wd.exact sub (Wd.wrap b true x) (Wd.wrap b true y)) := by unfold Wd.bok; rw [hr, if_pos hs]; rfl
      have h := wring_s b sub (Wd.wrap b true x) (Wd.wrap b true y) _ _ _ _ (by omega) hA hB hN (Wd.reck_may' hr) rfl (Wd.plain_ok_x sub _ _ hs) rfl rfl w L
      rw [hf.1, Bool.not_not, ← e1] at h
      have e2 : (if (!Wd.bok b true sub x y) = true then 0 else Wd.plainV sub (Wd.wrap b true x) (Wd.wrap b true y)) = Wd.bval b true sub x y := by
        unfold Wd.bval
        cases he : Wd.bok b true sub x y
        · rfl
        · rw [if_neg (by decide), if_neg (by decide), if_pos hs, if_pos rfl]
          exact hf.2 (by rw [← e1]; exact he)
      rw [e2] at h
      exact h
  rcases hs with rfl | rfl | rfl
  · exact wbin_1 b s x y _ _ _ hr hx hy _ rfl rfl H w L
  · exact wbin_2 b s x y _ _ _ hr hx hy _ rfl rfl H w L
  · exact wbin_3 b s x y _ _ _ hr hx hy _ rfl rfl H w L

theorem bin_shr (sub : Int) (hs : sub = 12 ∨ sub = 13) (hr : Wd.reck b = true) : BinSays b s sub x y := by
  intro w L
  have hb := Wd.reck_cases hr
  have hA := Wd.wrap_bd b s x hx
  have e1 : Wd.bok b s sub x y = decide (0 ≤ y ∧ y < b) := by
    unfold Wd.bok; rw [hr, if_neg (by omega), if_neg (by omega), if_neg (by omega), if_pos hs]; rfl
  have H : ∀ w, Laid w → Calls Tryd.prog 32 #[.agg #[.int .i64 b, .bool s], .int .i64 sub, .int .i64 (Wd.wrap b s x), .int .i64 y] w fun e w' =>
      e = .returned (.tuple #[.int .i64 (Wd.bval b s sub x y), .bool (Wd.bok b s sub x y)]) ∧ Gr w w' := by
    intro w L
    by_cases h : 0 ≤ y ∧ y < b
    · have e0 : Wd.bok b s sub x y = true := by rw [e1]; exact decide_eq_true h
      have hm : (y % 64).toNat = y.toNat := by rcases hb with rfl | rfl <;> omega
      have e2 : Wd.bval b s sub x y = Wd.plainV (if s then 13 else 12) (Wd.wrap b s x) y := by
        unfold Wd.bval
        rw [if_neg (by rw [e0]; decide), if_neg (by omega), if_neg (by omega), if_neg (by omega), if_neg (by omega), if_pos hs]
        cases s <;> simp [Wd.plainV, Wd.plainOk, hm]
      rw [e0, e2]
      exact wshift_r b s sub _ y _ _ _ rfl hs h.1 h.2 hA hy rfl (by cases s <;> rfl) w
    · have e0 : Wd.bok b s sub x y = false := by rw [e1]; exact decide_eq_false h
      have e2 : Wd.bval b s sub x y = 0 := by unfold Wd.bval; rw [if_pos e0]
      rw [e0, e2]
      exact wshift_out b s sub _ y (by omega) w
  rcases hs with rfl | rfl
  · exact wbin_12 b s x y _ _ _ hr hx hy rfl H w L
  · exact wbin_13 b s x y _ _ _ hr hx hy rfl H w L

theorem bin_shl (hr : Wd.reck b = true) : BinSays b s 11 x y := by
  intro w L
  have hb := Wd.reck_cases hr
  have hA := Wd.wrap_bd b s x hx
  have e1 : Wd.bok b s 11 x y = (decide (0 ≤ y ∧ y < b) && (!s || decide (0 ≤ Wd.wrap b s x) && Wd.fits b (Wd.wrap b s x * 2 ^ y.toNat))) := by
    unfold Wd.bok; rw [hr, if_neg (by decide), if_neg (by decide), if_pos rfl]; rfl
  have H : ∀ w, Laid w → Calls Tryd.prog 32 #[.agg #[.int .i64 b, .bool s], .int .i64 11, .int .i64 (Wd.wrap b s x), .int .i64 y] w fun e w' =>
      e = .returned (.tuple #[.int .i64 (Wd.bval b s 11 x y), .bool (Wd.bok b s 11 x y)]) ∧ Gr w w' := by
    intro w L
    by_cases h : 0 ≤ y ∧ y < b
    · rw [decide_eq_true h, Bool.true_and] at e1
      cases s
      · have e0 : Wd.bok b false 11 x y = true := by rw [e1]; rfl
        have e2 : Wd.bval b false 11 x y = Wd.wrap b false (wrap64 (Wd.wrap b false x * 2 ^ y.toNat)) := by
          unfold Wd.bval
          rw [if_neg (by rw [e0]; decide), if_neg (by decide), if_neg (by decide), if_neg (by decide), if_pos rfl, if_neg (by decide)]
        rw [e0, e2]
        exact wshift_lu b _ y _ _ h.1 h.2 hb hA (Wd.wrap64_bd _) rfl rfl w
      · rw [Bool.not_true, Bool.false_or] at e1
        by_cases hp : 0 ≤ Wd.wrap b true x
        · rw [decide_eq_true hp, Bool.true_and] at e1
          have hf := Wd.shl_spec b (Wd.wrap b true x) y.toNat hb (by omega) (Wd.fits_wrap b x hb hx) hp
          have h1 := wshift_ls b (Wd.wrap b true x) y _ _ _ _ h.1 h.2 hb hp hA (Wd.wrap64_bd _) rfl rfl rfl hf.1 w
          rw [Bool.not_not, ← e1] at h1
          have e2 : (if (!Wd.bok b true 11 x y) = true then 0 else Wd.wrap b true (wrap64 (Wd.wrap b true x * 2 ^ y.toNat))) = Wd.bval b true 11 x y := by
            unfold Wd.bval
            cases he : Wd.bok b true 11 x y
            · rfl
            · rw [if_neg (by decide), if_neg (by decide), if_neg (by decide), if_neg (by decide), if_neg (by decide), if_pos rfl, if_pos rfl]
              exact hf.2 (by rw [← e1]; exact he)
          rw [e2] at h1
          exact h1
        · have e0 : Wd.bok b true 11 x y = false := by rw [e1, decide_eq_false hp]; rfl
          have e2 : Wd.bval b true 11 x y = 0 := by unfold Wd.bval; rw [if_pos e0]
          rw [e0, e2]
          exact wshift_neg b _ y _ _ h.1 h.2 hb (by omega) hA (Wd.wrap64_bd _) rfl rfl w
    · have e0 : Wd.bok b s 11 x y = false := by rw [e1, decide_eq_false h]; rfl
      have e2 : Wd.bval b s 11 x y = 0 := by unfold Wd.bval; rw [if_pos e0]
      rw [e0, e2]
      exact wshift_out b s 11 _ y (by omega) w
  exact wbin_11 b s x y _ _ _ hr hx hy rfl H w L

theorem bin_div (sub : Int) (hs : sub = 4 ∨ sub = 5 ∨ sub = 6 ∨ sub = 7) (hr : Wd.reck b = true) : BinSays b s sub x y := by
  intro w L
  have hb := Wd.reck_cases hr
  have hA := Wd.wrap_bd b s x hx
  have hB := Wd.wrap_bd b s y hy
  have e1 : Wd.bok b s sub x y = (!(Wd.wrap b s y == 0) && !(s && Wd.wrap b s y == -1 && !(Wd.fits b (0 - Wd.wrap b s x)))) := by
    unfold Wd.bok; rw [hr, if_neg (by omega), if_pos hs]; rfl
  have H : ∀ rest : Bool, (sub = 4 ∨ sub = 6) ∧ rest = false ∨ (sub = 5 ∨ sub = 7) ∧ rest = true → ∀ w, Laid w → Calls Tryd.prog 34 #[.agg #[.int .i64 b, .bool s], .bool rest, .int .i64 (Wd.wrap b s x), .int .i64 (Wd.wrap b s y)] w fun e w' =>
      e = .returned (.tuple #[.int .i64 (Wd.bval b s sub x y), .bool (Wd.bok b s sub x y)]) ∧ Gr w w' := by
    intro rest hrest w L
    by_cases hn : (s && (Wd.wrap b s y == -1)) = true
    · rw [Bool.and_eq_true, beq_iff_eq] at hn
      obtain ⟨rfl, hy1⟩ := hn
      have hwx := Wd.fits_wrap b x hb hx
      have h2 := bin_ring b true 0 (Wd.wrap b true x) (by decide) hA 2 (by decide) hr
      have h3 := wdiv_neg b rest (Wd.wrap b true x) _ _ (fun w L => wneg b true (Wd.wrap b true x) _ _ h2 w L) w L
      have w0 : Wd.wrap b true 0 = 0 := by rcases hb with rfl | rfl <;> decide
      have ww : Wd.wrap b true (Wd.wrap b true x) = Wd.wrap b true x := Wd.wrap_fix hb hwx
      have o2 : Wd.bok b true 2 0 (Wd.wrap b true x) = Wd.bok b true sub x y := by
        rw [e1, hy1]
        unfold Wd.bok
        rw [hr, if_pos (by decide), w0, ww]
        show (true && (!true || Wd.fits b (0 - Wd.wrap b true x))) = _
        cases Wd.fits b (0 - Wd.wrap b true x) <;> rfl
      have v2 : Wd.bval b true 2 0 (Wd.wrap b true x) = if Wd.bok b true sub x y = false then 0 else 0 - Wd.wrap b true x := by
        unfold Wd.bval
        rw [o2, w0, ww]
        cases he : Wd.bok b true sub x y
        · simp
        · simp only [Bool.true_eq_false, if_false, if_true]
          rw [if_pos (by decide)]
          simp [Wd.exact]
      have v3 : (if rest then 0 else Wd.bval b true 2 0 (Wd.wrap b true x)) = Wd.bval b true sub x y := by
        rw [v2]
        unfold Wd.bval
        cases he : Wd.bok b true sub x y
        · cases rest <;> rfl
        · simp only [Bool.true_eq_false, if_false, if_true]
          rw [if_neg (show ¬ (sub = 1 ∨ sub = 2 ∨ sub = 3) by omega)]
          rcases hrest with ⟨h4, rfl⟩ | ⟨h5, rfl⟩
          · rw [if_pos h4, hy1, Int.tdiv_neg, Int.tdiv_one]
            simp
          · rw [if_neg (show ¬ (sub = 4 ∨ sub = 6) by omega), if_pos h5, hy1, Int.tmod_neg, Int.tmod_one]
            simp
      rw [v3, o2] at h3
      rw [hy1]
      exact h3
    · have hn' : (s && (Wd.wrap b s y == -1)) = false := by simpa using hn
      have e0 : Wd.bok b s sub x y = !(Wd.wrap b s y == 0) := by rw [e1, hn']; simp
      have h := wdiv_pl b s rest (Wd.wrap b s x) (Wd.wrap b s y) _ _ _ hn' hA hB rfl rfl rfl w L
      have hneg : s = true → ¬ Wd.wrap b s y = -1 := fun hs1 he => by rw [he, hs1] at hn'; exact absurd hn' (by decide)
      have o3 : Wd.plainOk (if rest then (if s then 5 else 7) else (if s then 4 else 6)) (Wd.wrap b s x) (Wd.wrap b s y) = Wd.bok b s sub x y := by
        rw [e0]
        cases s
        · cases rest <;> rfl
        · have hq := hneg rfl
          have hq2 : (Wd.wrap b true y == -1) = false := by simpa using hq
          cases rest <;> simp [Wd.plainOk, hq2]
      have v3 : Wd.plainV (if rest then (if s then 5 else 7) else (if s then 4 else 6)) (Wd.wrap b s x) (Wd.wrap b s y) = Wd.bval b s sub x y := by
        unfold Wd.bval
        cases he : Wd.bok b s sub x y
        · unfold Wd.plainV
          rw [o3, he]; rfl
        · have hz : ¬ Wd.wrap b s y = 0 := by rw [e0] at he; simpa using he
          simp only [Bool.true_eq_false, if_false, if_true]
          rw [if_neg (show ¬ (sub = 1 ∨ sub = 2 ∨ sub = 3) by omega)]
          rcases hrest with ⟨h4, rfl⟩ | ⟨h5, rfl⟩
          · rw [if_pos h4]
            cases s
            · simp only [Bool.false_eq_true, if_false]
            · have hq := hneg rfl
              simp only [Bool.false_eq_true, if_false, if_true]
              have o4 : Wd.plainOk 4 (Wd.wrap b true x) (Wd.wrap b true y) = true := by rw [he] at o3; exact o3
              unfold Wd.plainV
              rw [o4, if_neg (by decide), if_neg (by decide), if_neg (by decide), if_neg (by decide), if_pos rfl]
              exact Wd.tdiv_wrap _ _ hA hz hq
          · rw [if_neg (show ¬ (sub = 4 ∨ sub = 6) by omega), if_pos h5]
            cases s
            · simp only [Bool.false_eq_true, if_false, if_true]
            · simp only [if_true]
              have o4 : Wd.plainOk 5 (Wd.wrap b true x) (Wd.wrap b true y) = true := by rw [he] at o3; exact o3
              unfold Wd.plainV
              rw [o4, if_neg (by decide), if_neg (by decide), if_neg (by decide), if_neg (by decide), if_neg (by decide), if_pos rfl]
      rw [o3, v3] at h
      exact h
  rcases hs with rfl | rfl | rfl | rfl
  · exact wbin_4 b s x y _ _ _ hr hx hy _ rfl rfl (H false (by simp)) w L
  · exact wbin_5 b s x y _ _ _ hr hx hy _ rfl rfl (H true (by simp)) w L
  · exact wbin_6 b s x y _ _ _ hr hx hy _ rfl rfl (H false (by simp)) w L
  · exact wbin_7 b s x y _ _ _ hr hx hy _ rfl rfl (H true (by simp)) w L

theorem bin_rest (sub : Int) (hs : sub = 8 ∨ sub = 9 ∨ sub = 10 ∨ 14 ≤ sub ∧ sub ≤ 19) (hr : Wd.reck b = true) : BinSays b s sub x y := by
  intro w L
  have hA := Wd.wrap_bd b s x hx
  have hB := Wd.wrap_bd b s y hy
  have e1 : Wd.bok b s sub x y = true := by
    unfold Wd.bok; rw [hr, if_neg (by omega), if_neg (by omega), if_neg (by omega), if_neg (by omega)]; simp; omega
  have e2 : Wd.bval b s sub x y = (if sub = 16 ∨ sub = 18 then Wd.plainV (if s then 16 else 18) (Wd.wrap b s x) (Wd.wrap b s y)
      else if sub = 17 ∨ sub = 19 then Wd.plainV (if s then 17 else 19) (Wd.wrap b s x) (Wd.wrap b s y) else Wd.plainV sub (Wd.wrap b s x) (Wd.wrap b s y)) := by
    unfold Wd.bval; rw [if_neg (by rw [e1]; decide), if_neg (by omega), if_neg (by omega), if_neg (by omega), if_neg (by omega), if_neg (by omega)]
  rw [e1, e2]
  clear e1 e2
  have hc : sub = 8 ∨ sub = 9 ∨ sub = 10 ∨ sub = 14 ∨ sub = 15 ∨ sub = 16 ∨ sub = 17 ∨ sub = 18 ∨ sub = 19 := by omega
  rcases hc with rfl | rfl | rfl | rfl | rfl | rfl | rfl | rfl | rfl
  · rw [if_neg (by decide), if_neg (by decide)]; exact wbin_8 b s x y _ _ _ hr hx hy _ rfl rfl hA hB rfl rfl w L
  · rw [if_neg (by decide), if_neg (by decide)]; exact wbin_9 b s x y _ _ _ hr hx hy _ rfl rfl hA hB rfl rfl w L
  · rw [if_neg (by decide), if_neg (by decide)]; exact wbin_10 b s x y _ _ _ hr hx hy _ rfl rfl hA hB rfl rfl w L
  · rw [if_neg (by decide), if_neg (by decide)]; exact wbin_14 b s x y _ _ _ hr hx hy _ rfl rfl hA hB rfl rfl w L
  · rw [if_neg (by decide), if_neg (by decide)]; exact wbin_15 b s x y _ _ _ hr hx hy _ rfl rfl hA hB rfl rfl w L
  · rw [if_pos (by decide)]; exact wbin_16 b s x y _ _ _ hr hx hy _ rfl rfl hA hB _ rfl rfl (by cases s <;> rfl) w L
  · rw [if_neg (by decide), if_pos (by decide)]; exact wbin_17 b s x y _ _ _ hr hx hy _ rfl rfl hA hB _ rfl rfl (by cases s <;> rfl) w L
  · rw [if_pos (by decide)]; exact wbin_18 b s x y _ _ _ hr hx hy _ rfl rfl hA hB _ rfl rfl (by cases s <;> rfl) w L
  · rw [if_neg (by decide), if_pos (by decide)]; exact wbin_19 b s x y _ _ _ hr hx hy _ rfl rfl hA hB _ rfl rfl (by cases s <;> rfl) w L

/-- Every sub. -/
theorem binary (sub : Int) : BinSays b s sub x y := by
  cases hr : Wd.reck b
  · exact bin_none b s x y hx hy sub hr
  by_cases h1 : sub = 1 ∨ sub = 2 ∨ sub = 3
  · exact bin_ring b s x y hx hy sub h1 hr
  by_cases h2 : sub = 4 ∨ sub = 5 ∨ sub = 6 ∨ sub = 7
  · exact bin_div b s x y hx hy sub h2 hr
  by_cases h3 : sub = 11
  · subst h3; exact bin_shl b s x y hx hy hr
  by_cases h4 : sub = 12 ∨ sub = 13
  · exact bin_shr b s x y hx hy sub h4 hr
  by_cases h5 : 1 ≤ sub ∧ sub ≤ 19
  · exact bin_rest b s x y hx hy sub (by omega) hr
  · intro w L
    have e1 : Wd.bok b s sub x y = false := by
      unfold Wd.bok; rw [hr, if_neg h1, if_neg h2, if_neg h3, if_neg h4, decide_eq_false h5]; rfl
    have e2 : Wd.bval b s sub x y = 0 := by unfold Wd.bval; rw [if_pos e1]
    rw [e1, e2]
    exact wbin_bad sub (by omega) b s x y _ 0 false hr hx hy _ rfl rfl w L
end
end Go.Proofs.YtkjhdanfbmdmlaaDoor
