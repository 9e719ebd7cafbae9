/- The document's own Binary: for every width, every sub, every two numbers: Wd.bval, Wd.bok: the same as word's. -/
import Derived.Test.YtkjhdanfbmdmlaaDoorWordRefBinA
import Derived.Test.YtkjhdanfbmdmlaaDoorWordRefBinB
import Derived.Test.YtkjhdanfbmdmlaaDoorWordRefBinC
import Derived.Test.YtkjhdanfbmdmlaaDoorWordRefM
namespace Go.Proofs.YtkjhdanfbmdmlaaDoor
open Go.RowKit
set_option linter.unusedVariables false
set_option linter.unusedSimpArgs false
set_option linter.unusedSectionVars false

def RBinSays (b : Int) (s : Bool) (sub x y : Int) : Prop :=
  ∀ w, Calls Tryd.prog 11 #[.agg #[.int .i64 b, .bool s], .int .i64 sub, .int .i64 x, .int .i64 y] w fun e w' =>
    e = .returned (.tuple #[.int .i64 (Wd.bval b s sub x y), .bool (Wd.bok b s sub x y)]) ∧ Gr w w'

theorem RBinSays.no {b : Int} {s : Bool} {sub x y : Int} (h : Wd.bok b s sub x y = false)
    (k : ∀ w, Calls Tryd.prog 11 #[.agg #[.int .i64 b, .bool s], .int .i64 sub, .int .i64 x, .int .i64 y] w fun e w' => e = .returned (.tuple #[.int .i64 0, .bool false]) ∧ Gr w w') : RBinSays b s sub x y := by
  intro w
  have e : Wd.bval b s sub x y = 0 := by unfold Wd.bval; rw [if_pos h]
  rw [h, e]
  exact k w
theorem RBinSays.yes {b : Int} {s : Bool} {sub x y V : Int} (h : Wd.bok b s sub x y = true) (hv : Wd.bval b s sub x y = V)
    (k : ∀ w, Calls Tryd.prog 11 #[.agg #[.int .i64 b, .bool s], .int .i64 sub, .int .i64 x, .int .i64 y] w fun e w' => e = .returned (.tuple #[.int .i64 V, .bool true]) ∧ Gr w w') : RBinSays b s sub x y := by
  intro w
  rw [h, hv]
  exact k w

set_option maxRecDepth 100000 in
set_option maxHeartbeats 1000000 in
theorem rbin_none (b : Int) (s : Bool) (sub x y : Int) (e1 : (b != 32) = true) (e2 : (b != 64) = true) (w : World) :
    Calls Tryd.prog 11 #[.agg #[.int .i64 b, .bool s], .int .i64 sub, .int .i64 x, .int .i64 y] w fun e w' => e = .returned (.tuple #[.int .i64 0, .bool false]) ∧ Gr w w' := by
  go_enter Tryd.func11, Tryd.ntmps11
  go_wp2_with fail
  go_returns
  exact ⟨rt rfl rfl rfl rfl, (Gr.refl _).alloc _ _⟩
set_option maxRecDepth 100000 in
set_option maxHeartbeats 2000000 in
theorem rbin_bad (b : Int) (s : Bool) (sub x y : Int) (hb : b = 32 ∨ b = 64) (hs : sub < 1 ∨ 19 < sub) (w : World) :
    Calls Tryd.prog 11 #[.agg #[.int .i64 b, .bool s], .int .i64 sub, .int .i64 x, .int .i64 y] w fun e w' => e = .returned (.tuple #[.int .i64 0, .bool false]) ∧ Gr w w' := by
  rcases hb with rfl | rfl
  all_goals
    rcases hs with hs | hs
    all_goals
      go_enter Tryd.func11, Tryd.ntmps11
      go_wp2_with fail
      go_returns
      exact ⟨rt rfl rfl rfl rfl, (Gr.refl _).alloc _ _⟩

section
variable (b : Int) (x y : Int) (hx : -9223372036854775808 ≤ x ∧ x ≤ 9223372036854775807) (hy : -9223372036854775808 ≤ y ∧ y ≤ 9223372036854775807) (hr : Wd.reck b = true)
include hx hy hr

theorem rb_ring_t (sub : Int) (hs : 1 ≤ sub ∧ sub ≤ 3) : RBinSays b true sub x y := by
  have hb := Wd.reck_cases hr
  have hA := Wd.wrap_bd b true x hx
  have hB := Wd.wrap_bd b true y hy
  have hc : sub = 1 ∨ sub = 2 ∨ sub = 3 := by omega
  have eo : Wd.bok b true sub x y = Wd.fits b (Wd.exact sub (Wd.wrap b true x) (Wd.wrap b true y)) := by unfold Wd.bok; rw [hr, if_pos hc]; rfl
  have ev : Wd.over sub (Wd.wrap b true x) (Wd.wrap b true y) = !(Wd.fits 64 (Wd.exact sub (Wd.wrap b true x) (Wd.wrap b true y))) := by unfold Wd.over; rw [if_pos hc]
  cases h64 : Wd.fits 64 (Wd.exact sub (Wd.wrap b true x) (Wd.wrap b true y))
  · have hf : Wd.fits b (Wd.exact sub (Wd.wrap b true x) (Wd.wrap b true y)) = false := by
      cases h : Wd.fits b (Wd.exact sub (Wd.wrap b true x) (Wd.wrap b true y))
      · rfl
      · rw [Wd.fits_64_of hb h] at h64; cases h64
    exact RBinSays.no (eo.trans hf) fun w => rbin_tr1_over sub hs b x y _ hb hx hy rfl _ rfl hA hB (by rw [h64] at ev; exact ev) w
  · have hN := Wd.plain_x sub (Wd.wrap b true x) (Wd.wrap b true y) hc
    rw [Wd.wrap64_fix _ ((Wd.fits_64 _).1 h64)] at hN
    have hNb := (Wd.fits_64 _).1 h64
    have hV : Wd.over sub (Wd.wrap b true x) (Wd.wrap b true y) = false := by rw [h64] at ev; exact ev
    cases hf : Wd.fits b (Wd.exact sub (Wd.wrap b true x) (Wd.wrap b true y))
    · refine RBinSays.no (eo.trans hf) fun w => rbin_tr1_wrap sub hs b x y _ hb hx hy rfl _ rfl hA hB hV _ hN (Wd.plain_ok_x _ _ _ hc) _ hNb rfl ?_ w
      rcases hb with rfl | rfl
      · have := Wd.wrap_32t_eq (Wd.exact sub (Wd.wrap 32 true x) (Wd.wrap 32 true y))
        rw [hf] at this
        simpa using this
      · rw [h64] at hf; cases hf
    · have hM := Wd.wrap_fix hb hf
      refine RBinSays.yes (eo.trans hf) ?_ fun w => rbin_tr1_ok sub hs b x y _ hb hx hy rfl _ rfl hA hB hV _ hN (Wd.plain_ok_x _ _ _ hc) _ hNb hM (by simp) w
      unfold Wd.bval
      rw [if_neg (by rw [eo, hf]; decide), if_pos hc, if_pos rfl]

theorem rb_ring_f (sub : Int) (hs : 1 ≤ sub ∧ sub ≤ 3) : RBinSays b false sub x y := by
  have hb := Wd.reck_cases hr
  have hA := Wd.wrap_bd b false x hx
  have hB := Wd.wrap_bd b false y hy
  have hc : sub = 1 ∨ sub = 2 ∨ sub = 3 := by omega
  have eo : Wd.bok b false sub x y = true := by unfold Wd.bok; rw [hr, if_pos hc]; rfl
  refine RBinSays.yes eo ?_ fun w => rbin_fr1_ok sub hs b x y _ hb hx hy rfl _ rfl hA hB _ rfl (Wd.plain_ok_x _ _ _ hc) _ (by rw [Wd.plain_x sub _ _ hc]; exact Wd.wrap64_bd _) rfl w
  unfold Wd.bval
  rw [if_neg (by rw [eo]; decide), if_pos hc, if_neg (by decide), Wd.plain_x sub _ _ hc]

theorem rb_shr (s : Bool) (sub : Int) (hs : sub = 12 ∨ sub = 13) : RBinSays b s sub x y := by
  have hb := Wd.reck_cases hr
  have eo : Wd.bok b s sub x y = decide (0 ≤ y ∧ y < b) := by
    unfold Wd.bok; rw [hr, if_neg (by omega), if_neg (by omega), if_neg (by omega), if_pos hs]; rfl
  by_cases h : 0 ≤ y ∧ y < b
  · have eo' := eo.trans (decide_eq_true h)
    have hv : Wd.bval b s sub x y = (if s then Wd.wrap b s x / 2 ^ y.toNat else wrap64 (IntKind.u64.wrap (Wd.wrap b s x) / 2 ^ y.toNat)) := by
      unfold Wd.bval; rw [if_neg (by rw [eo']; decide), if_neg (by omega), if_neg (by omega), if_neg (by omega), if_neg (by omega), if_pos hs]
    have H : ∀ w, Calls Tryd.prog 36 #[.agg #[.int .i64 b, .bool s], .bool false, .int .i64 (Wd.wrap b s x), .int .i64 y] w fun e w' => e = .returned (.tuple #[.int .i64 (if s then Wd.wrap b s x / 2 ^ y.toNat else wrap64 (IntKind.u64.wrap (Wd.wrap b s x) / 2 ^ y.toNat)), .bool true]) ∧ Gr w w' :=
      fun w => rshift_r b s _ y h.1 h.2 (by omega) w
    rcases hs with rfl | rfl <;> cases s
    · exact RBinSays.yes eo' hv fun w => rbin_f12 b x y _ hb hx hy rfl _ _ H w
    · exact RBinSays.yes eo' hv fun w => rbin_t12 b x y _ hb hx hy rfl _ _ H w
    · exact RBinSays.yes eo' hv fun w => rbin_f13 b x y _ hb hx hy rfl _ _ H w
    · exact RBinSays.yes eo' hv fun w => rbin_t13 b x y _ hb hx hy rfl _ _ H w
  · have eo' := eo.trans (decide_eq_false h)
    have H : ∀ w, Calls Tryd.prog 36 #[.agg #[.int .i64 b, .bool s], .bool false, .int .i64 (Wd.wrap b s x), .int .i64 y] w fun e w' => e = .returned (.tuple #[.int .i64 0, .bool false]) ∧ Gr w w' :=
      fun w => rshift_out b s false _ y (by omega) w
    rcases hs with rfl | rfl <;> cases s
    · exact RBinSays.no eo' fun w => rbin_f12 b x y _ hb hx hy rfl _ _ H w
    · exact RBinSays.no eo' fun w => rbin_t12 b x y _ hb hx hy rfl _ _ H w
    · exact RBinSays.no eo' fun w => rbin_f13 b x y _ hb hx hy rfl _ _ H w
    · exact RBinSays.no eo' fun w => rbin_t13 b x y _ hb hx hy rfl _ _ H w

theorem rb_shl_f : RBinSays b false 11 x y := by
  have hb := Wd.reck_cases hr
  have eo : Wd.bok b false 11 x y = decide (0 ≤ y ∧ y < b) := by
    unfold Wd.bok; rw [hr, if_neg (by decide), if_neg (by decide), if_pos rfl]; simp
  by_cases h : 0 ≤ y ∧ y < b
  · have eo' := eo.trans (decide_eq_true h)
    refine RBinSays.yes eo' ?_ fun w => rbin_f11 b x y _ hb hx hy rfl _ _ (fun w => rshift_lu b _ y _ _ h.1 h.2 (by omega) (Wd.wrap64_bd _) rfl rfl w) w
    unfold Wd.bval
    rw [if_neg (by rw [eo']; decide), if_neg (by decide), if_neg (by decide), if_neg (by decide), if_pos rfl, if_neg (by decide)]
  · exact RBinSays.no (eo.trans (decide_eq_false h)) fun w => rbin_f11 b x y _ hb hx hy rfl _ _ (fun w => rshift_out b false true _ y (by omega) w) w

theorem rb_shl_t : RBinSays b true 11 x y := by
  have hb := Wd.reck_cases hr
  have hA := Wd.wrap_bd b true x hx
  by_cases h : 0 ≤ y ∧ y < b
  · have eo := Wd.bok_shl_t b x y hr h
    by_cases hp : 0 ≤ Wd.wrap b true x
    · rw [decide_eq_true hp, Bool.true_and] at eo
      have hf := Wd.shl_spec b (Wd.wrap b true x) y.toNat hb (by omega) (Wd.fits_wrap b x hb hx) hp
      by_cases hM : 0 ≤ Wd.wrap b true (wrap64 (Wd.wrap b true x * 2 ^ y.toNat))
      · have H := fun w => rshift_ls b (Wd.wrap b true x) y _ _ _ _ h.1 h.2 (by omega) hp hM (Wd.wrap64_bd _) rfl rfl rfl hf.1 w
        rw [Bool.not_not] at H
        intro w
        have hv : (if (!(Wd.fits b (Wd.wrap b true x * 2 ^ y.toNat))) = true then 0 else Wd.wrap b true (wrap64 (Wd.wrap b true x * 2 ^ y.toNat))) = Wd.bval b true 11 x y := by
          unfold Wd.bval
          rw [eo]
          cases he : Wd.fits b (Wd.wrap b true x * 2 ^ y.toNat)
          · simp
          · rw [if_neg (by decide), if_neg (by decide), if_neg (by decide), if_neg (by decide), if_neg (by decide), if_pos rfl, if_pos rfl]
            exact hf.2 he
        rw [← hv, eo]
        exact rbin_t11 b x y _ hb hx hy rfl _ _ H w
      · have hno : Wd.fits b (Wd.wrap b true x * 2 ^ y.toNat) = false := by
          cases he : Wd.fits b (Wd.wrap b true x * 2 ^ y.toNat)
          · rfl
          · have h1 := hf.2 he
            have h2 : 0 ≤ Wd.wrap b true x * 2 ^ y.toNat := Int.mul_nonneg hp (Int.le_of_lt (Int.pow_pos (by decide)))
            omega
        exact RBinSays.no (eo.trans hno) fun w => rbin_t11 b x y _ hb hx hy rfl _ _ (fun w => rshift_xneg b _ y _ _ h.1 h.2 (by omega) hp (by omega) (Wd.wrap64_bd _) rfl rfl w) w
    · rw [decide_eq_false hp, Bool.false_and] at eo
      exact RBinSays.no eo fun w => rbin_t11 b x y _ hb hx hy rfl _ _ (fun w => rshift_neg b _ y _ _ h.1 h.2 (by omega) (by omega) (Wd.wrap64_bd _) rfl rfl w) w
  · have eo : Wd.bok b true 11 x y = false := by
      unfold Wd.bok; rw [hr, if_neg (by decide), if_neg (by decide), if_pos rfl, decide_eq_false h]; rfl
    exact RBinSays.no eo fun w => rbin_t11 b x y _ hb hx hy rfl _ _ (fun w => rshift_out b true true _ y (by omega) w) w
end
end Go.Proofs.YtkjhdanfbmdmlaaDoor
