/- The law WordDivides: its walk, for every input. -/
import Derived.Test.YtmappfpolbkbcaaDoorWordDividesA
import Derived.Test.YtmappfpolbkbcaaDoorWordDividesB
import Derived.Test.YtmappfpolbkbcaaDoorWordDividesC
import Derived.Test.YtmappfpolbkbcaaDoorWordDividesD
import Derived.Test.YtmappfpolbkbcaaDoorWordDividesM
namespace Go.Proofs.YtmappfpolbkbcaaDoor.wordDivides
open Go.RowKit
set_option linter.unusedVariables false

theorem wf64 {n : Int} (h : (Lit.int .i64 n).wf = true) : -9223372036854775808 ≤ n ∧ n ≤ 9223372036854775807 := by
  simp [Lit.wf, IntKind.min, IntKind.max, IntKind.signed, IntKind.bits] at h
  omega

section
variable (B : Int) (hr : Wd.reck B = true) (which p q x y n : Int) (hx : -9223372036854775808 ≤ x ∧ x ≤ 9223372036854775807) (hy : -9223372036854775808 ≤ y ∧ y ≤ 9223372036854775807) (hn : -9223372036854775808 ≤ n ∧ n ≤ 9223372036854775807)
    (hp0 : 0 ≤ p ∧ p ≤ 1) (hp : bits BinOp.and IntKind.i64 which 1 = p) (hq : bits BinOp.and IntKind.i64 which 2 = q) (hB : 32 + 32 * p = B)
include hr hx hy hn hp0 hp hq hB

theorem gen_t (hS : (q == 2) = true) (w : World) (L : Laid w) :
    Calls Tryd.prog 7 #[.int .i64 which, .int .i64 x, .int .i64 y, .int .i64 n] w fun e w' => e = .returned (.bool true) ∧ Gr w w' := by
  have hb := Wd.reck_cases hr
  have hX := Wd.wrap_bd B true x hx
  have hY := Wd.wrap_bd B true y hy
  have wX := Wd.wrap_wrap B true x hb
  have wY := Wd.wrap_wrap B true y hb
  have fX := Wd.fits_wrap B x hb hx
  have hBB : 1 ≤ B ∧ B ≤ 64 := by omega
  have hK := Wd.mod_bd (IntKind.u64.wrap n) B (Wd.u64_bd n).1 (by omega)
  have hKb : 0 ≤ IntKind.u64.wrap n % B ∧ IntKind.u64.wrap n % B < 64 := by omega
  generalize hKe : IntKind.u64.wrap n % B = K at hK hKb
  have o12 : ∀ V, Wd.bok B true 12 V K = true := fun V => Wd.bok_shr B true V K hr hK
  have hV1 := Wd.bval_shl_bd B true (Wd.wrap B true x) K hr hX
  -- what the shifts come to
  have tail : (Wd.bok B true 11 (Wd.wrap B true x) K = true ∧ (Wd.bval B true 12 (Wd.bval B true 11 (Wd.wrap B true x) K) K == Wd.wrap B true x) = true) ∨ Wd.bok B true 11 (Wd.wrap B true x) K = false ∧ (Wd.wrap B true x < 0 ∨ 0 ≤ Wd.wrap B true x ∧ 0 < K) := by
    cases ho : Wd.bok B true 11 (Wd.wrap B true x) K
    · right
      refine ⟨rfl, ?_⟩
      rw [Wd.bok_shl_t B _ K hr hK, wX] at ho
      by_cases h0 : Wd.wrap B true x < 0
      · exact Or.inl h0
      · right
        refine ⟨by omega, ?_⟩
        rw [decide_eq_true (show 0 ≤ Wd.wrap B true x by omega), Bool.true_and] at ho
        by_cases hk : K = 0
        · subst hk
          rw [show (2 : Int) ^ (0 : Int).toNat = 1 from rfl, Int.mul_one, fX] at ho
          cases ho
        · omega
    · left
      refine ⟨rfl, ?_⟩
      rw [Wd.bval_shr_t B _ K (o12 _), Wd.bval_shl_t B _ K ho, wX]
      rw [Wd.bok_shl_t B _ K hr hK, wX] at ho
      simp at ho
      rw [Wd.wrap_fix hb ho.2, Int.mul_ediv_cancel _ (Int.ne_of_gt (Int.pow_pos (by decide)))]
      simp
  cases ho : Wd.bok B true 4 (Wd.wrap B true x) (Wd.wrap B true y)
  · have ho5 : Wd.bok B true 5 (Wd.wrap B true x) (Wd.wrap B true y) = false := by rw [Wd.bok_45 B true _ _ hr]; exact ho
    rcases tail with ⟨o1, hd⟩ | ⟨o1, hn1 | ⟨hp1, hk1⟩⟩
    · exact divides_tft B which p q x y n _ _ _ _ K _ _ hx hy hn hX hY hV1 hp0 hBB hp hq hB hS rfl rfl rfl ho rfl ho5 hKe hKb rfl o1 rfl (o12 _) hd w L
    · exact divides_tfg B which p q x y n _ _ _ _ K _ _ hx hy hn hX hY hV1 hp0 hBB hp hq hB hS rfl rfl rfl ho rfl ho5 hKe hKb rfl o1 rfl (o12 _) hn1 w L
    · exact divides_tfk B which p q x y n _ _ _ _ K _ _ hx hy hn hX hY hV1 hp0 hBB hp hq hB hS rfl rfl rfl ho rfl ho5 hKe hKb rfl o1 rfl (o12 _) hp1 hk1 w L
  · have ho5 : Wd.bok B true 5 (Wd.wrap B true x) (Wd.wrap B true y) = true := by rw [Wd.bok_45 B true _ _ hr]; exact ho
    have hQ := Wd.bval_4t B _ _ ho
    have hRe := Wd.bval_5t B _ _ ho5
    rw [wX, wY] at hQ hRe
    have y0 : (Wd.wrap B true y == 0) = false := by
      rw [Wd.bok_div B true 4 _ _ hr (by omega), wY] at ho
      simp at ho
      simpa using ho.1
    have hback : Wd.wrap B true (wrap64 (wrap64 (Wd.bval B true 4 (Wd.wrap B true x) (Wd.wrap B true y) * Wd.wrap B true y) + Wd.bval B true 5 (Wd.wrap B true x) (Wd.wrap B true y))) = Wd.wrap B true x := by
      rw [hQ, hRe, Wd.wrap64_sum _ _ _ (Wd.wrap B true x) hX 0 (by rw [Wd.back_t]; omega)]
      exact wX
    have hR := Wd.tmod_bd (Wd.wrap B true x) (Wd.wrap B true y) hX
    rw [← hRe] at hR
    have hle := Wd.bok_rest B true 16 (Wd.bval B true 5 (Wd.wrap B true x) (Wd.wrap B true y)) (Wd.wrap B true y) hr (by omega)
    have hsg := Wd.tmod_sign (Wd.wrap B true x) (Wd.wrap B true y)
    rw [← hRe] at hsg
    by_cases hz : Wd.bval B true 5 (Wd.wrap B true x) (Wd.wrap B true y) = 0
    · have hzb : (Wd.bval B true 5 (Wd.wrap B true x) (Wd.wrap B true y) != 0) = false := by simpa using hz
      rcases tail with ⟨o1, hd⟩ | ⟨o1, hn1 | ⟨hp1, hk1⟩⟩
      · exact divides_tzt B which p q x y n _ _ _ _ K _ _ hx hy hn hX hY hV1 hp0 hBB hp hq hB hS rfl rfl rfl ho rfl ho5 hKe hKb rfl o1 rfl (o12 _) _ hR (Wd.wrap64_bd _) y0 hback rfl hle hzb hd w L
      · exact divides_tzg B which p q x y n _ _ _ _ K _ _ hx hy hn hX hY hV1 hp0 hBB hp hq hB hS rfl rfl rfl ho rfl ho5 hKe hKb rfl o1 rfl (o12 _) _ hR (Wd.wrap64_bd _) y0 hback rfl hle hzb hn1 w L
      · exact divides_tzk B which p q x y n _ _ _ _ K _ _ hx hy hn hX hY hV1 hp0 hBB hp hq hB hS rfl rfl rfl ho rfl ho5 hKe hKb rfl o1 rfl (o12 _) _ hR (Wd.wrap64_bd _) y0 hback rfl hle hzb hp1 hk1 w L
    · have hzb : (Wd.bval B true 5 (Wd.wrap B true x) (Wd.wrap B true y) != 0) = true := by simpa using hz
      rcases tail with ⟨o1, hd⟩ | ⟨o1, hn1 | ⟨hp1, hk1⟩⟩
      · exact divides_tnt B which p q x y n _ _ _ _ K _ _ hx hy hn hX hY hV1 hp0 hBB hp hq hB hS rfl rfl rfl ho rfl ho5 hKe hKb rfl o1 rfl (o12 _) _ hR (Wd.wrap64_bd _) y0 hback rfl hle hzb (hsg hz) hd w L
      · exact divides_tng B which p q x y n _ _ _ _ K _ _ hx hy hn hX hY hV1 hp0 hBB hp hq hB hS rfl rfl rfl ho rfl ho5 hKe hKb rfl o1 rfl (o12 _) _ hR (Wd.wrap64_bd _) y0 hback rfl hle hzb (hsg hz) hn1 w L
      · exact divides_tnk B which p q x y n _ _ _ _ K _ _ hx hy hn hX hY hV1 hp0 hBB hp hq hB hS rfl rfl rfl ho rfl ho5 hKe hKb rfl o1 rfl (o12 _) _ hR (Wd.wrap64_bd _) y0 hback rfl hle hzb (hsg hz) hp1 hk1 w L

theorem gen_f (hS : (q == 2) = false) (w : World) (L : Laid w) :
    Calls Tryd.prog 7 #[.int .i64 which, .int .i64 x, .int .i64 y, .int .i64 n] w fun e w' => e = .returned (.bool true) ∧ Gr w w' := by
  have hb := Wd.reck_cases hr
  have hX := Wd.wrap_bd B false x hx
  have hY := Wd.wrap_bd B false y hy
  have wX := Wd.wrap_wrap B false x hb
  have wY := Wd.wrap_wrap B false y hb
  have hBB : 1 ≤ B ∧ B ≤ 64 := by omega
  have hK := Wd.mod_bd (IntKind.u64.wrap n) B (Wd.u64_bd n).1 (by omega)
  have hKb : 0 ≤ IntKind.u64.wrap n % B ∧ IntKind.u64.wrap n % B < 64 := by omega
  generalize hKe : IntKind.u64.wrap n % B = K at hK hKb
  have o11 := Wd.bok_shl_f B (Wd.wrap B false x) K hr hK
  have o12 := Wd.bok_shr B false (Wd.bval B false 11 (Wd.wrap B false x) K) K hr hK
  have hV1 := Wd.bval_shl_bd B false (Wd.wrap B false x) K hr hX
  cases ho : Wd.bok B false 4 (Wd.wrap B false x) (Wd.wrap B false y)
  · have ho5 : Wd.bok B false 5 (Wd.wrap B false x) (Wd.wrap B false y) = false := by rw [Wd.bok_45 B false _ _ hr]; exact ho
    exact divides_fft B which p q x y n _ _ _ _ K _ _ hx hy hn hX hY hV1 hp0 hBB hp hq hB hS rfl rfl rfl ho rfl ho5 hKe hKb rfl o11 rfl o12 trivial w L
  · have ho5 : Wd.bok B false 5 (Wd.wrap B false x) (Wd.wrap B false y) = true := by rw [Wd.bok_45 B false _ _ hr]; exact ho
    have hQ := Wd.bval_4f B _ _ ho
    have hRe := Wd.bval_5f B _ _ ho5
    rw [wX, wY] at hQ hRe
    have yn : ¬ Wd.wrap B false y = 0 := by
      rw [Wd.bok_div B false 4 _ _ hr (by omega), wY] at ho
      simp at ho
      exact ho
    have y0 : (Wd.wrap B false y == 0) = false := by simpa using yn
    have hu := Wd.back_u (Wd.wrap B false x) (Wd.wrap B false y) hX hY yn
    rw [← hQ, ← hRe] at hu
    have hback : Wd.wrap B false (wrap64 (wrap64 (Wd.bval B false 4 (Wd.wrap B false x) (Wd.wrap B false y) * Wd.wrap B false y) + Wd.bval B false 5 (Wd.wrap B false x) (Wd.wrap B false y))) = Wd.wrap B false x := by
      rw [hu.1]; exact wX
    have hle := Wd.bok_rest B false 16 (Wd.bval B false 5 (Wd.wrap B false x) (Wd.wrap B false y)) (Wd.wrap B false y) hr (by omega)
    have hR : Wd.wrap B false (Wd.bval B false 5 (Wd.wrap B false x) (Wd.wrap B false y)) = Wd.bval B false 5 (Wd.wrap B false x) (Wd.wrap B false y) := by
      rcases hb with rfl | rfl
      · have h1 : Wd.less false (Wd.bval 32 false 5 (Wd.wrap 32 false x) (Wd.wrap 32 false y)) (Wd.wrap 32 false y) := hu.2.1
        have h2 : IntKind.u64.wrap (Wd.bval 32 false 5 (Wd.wrap 32 false x) (Wd.wrap 32 false y)) < IntKind.u64.wrap (Wd.wrap 32 false y) := h1
        have h3 := hu.2.2
        generalize Wd.bval 32 false 5 (Wd.wrap 32 false x) (Wd.wrap 32 false y) = R at *
        rw [Wd.wrap_32f] at *
        rw [IntKind.wrap_u64, IntKind.wrap_u64] at h2
        omega
      · rfl
    have hl : (Wd.bval B false 16 (Wd.bval B false 5 (Wd.wrap B false x) (Wd.wrap B false y)) (Wd.wrap B false y) != 1) = false := by
      rw [Wd.bval_16 B false _ _ hr, hR, wY, if_pos hu.2.1]; rfl
    exact divides_ftt B which p q x y n _ _ _ _ K _ _ hx hy hn hX hY hV1 hp0 hBB hp hq hB hS rfl rfl rfl ho rfl ho5 hKe hKb rfl o11 rfl o12 _ hu.2.2 (Wd.wrap64_bd _) y0 hback rfl hle hl w L
end
end Go.Proofs.YtmappfpolbkbcaaDoor.wordDivides
namespace Go.Proofs.YtmappfpolbkbcaaDoor
open Go.RowKit
set_option linter.unusedVariables false in
theorem wordDivides_walk (a0 a1 a2 a3 : Int) (w0 : (Lit.int .i64 a0).wf = true) (w1 : (Lit.int .i64 a1).wf = true) (w2 : (Lit.int .i64 a2).wf = true) (w3 : (Lit.int .i64 a3).wf = true) (w : World) (L : Laid w) :
    Calls Tryd.prog 7 #[.int .i64 a0, .int .i64 a1, .int .i64 a2, .int .i64 a3] w fun e w' => e = .returned (.bool true) ∧ Gr w w' := by
  rcases Wd.and1 a0 with h1 | h1 <;> rcases Wd.and2 a0 with h2 | h2
  · exact wordDivides.gen_f 32 (by decide) a0 0 0 a1 a2 a3 (wordDivides.wf64 w1) (wordDivides.wf64 w2) (wordDivides.wf64 w3) (by decide) h1 h2 (by decide) (by decide) w L
  · exact wordDivides.gen_t 32 (by decide) a0 0 2 a1 a2 a3 (wordDivides.wf64 w1) (wordDivides.wf64 w2) (wordDivides.wf64 w3) (by decide) h1 h2 (by decide) (by decide) w L
  · exact wordDivides.gen_f 64 (by decide) a0 1 0 a1 a2 a3 (wordDivides.wf64 w1) (wordDivides.wf64 w2) (wordDivides.wf64 w3) (by decide) h1 h2 (by decide) (by decide) w L
  · exact wordDivides.gen_t 64 (by decide) a0 1 2 a1 a2 a3 (wordDivides.wf64 w1) (wordDivides.wf64 w2) (wordDivides.wf64 w3) (by decide) h1 h2 (by decide) (by decide) w L
end Go.Proofs.YtmappfpolbkbcaaDoor
