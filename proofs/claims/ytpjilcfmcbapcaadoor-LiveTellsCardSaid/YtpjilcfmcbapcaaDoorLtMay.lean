/- The document's May. -/
import Derived.Test.YtpjilcfmcbapcaaDoorLtMayQ
import Derived.Test.YtpjilcfmcbapcaaDoorLvBehind
import Derived.Test.YtpjilcfmcbapcaaDoorLtRows
namespace Go.Proofs.YtpjilcfmcbapcaaDoor
open Go.RowKit
set_option linter.unusedVariables false
set_option linter.unusedSimpArgs false

theorem many_ok (y : Ix) : manyOkI y = (decide (y.many.getD (-1) < 0) || decide (((toI y).length : Int) = y.many.getD (-1))) := by
  unfold manyOkI
  have h : y.many = none ∨ ∃ c, y.many = some c ∧ 0 ≤ c := by
    unfold Ix.many
    by_cases h14 : y.op = 14
    · exact .inr ⟨1, by rw [if_pos h14], by decide⟩
    by_cases h15 : y.op = 15
    · exact .inr ⟨2, by rw [if_neg h14, if_pos h15], by decide⟩
    by_cases h16 : y.op = 16
    · exact .inr ⟨_, by rw [if_neg h14, if_neg h15, if_pos h16], by omega⟩
    · exact .inl (by rw [if_neg h14, if_neg h15, if_neg h16])
  rcases h with h | ⟨c, h, hc⟩
  · rw [h]; rfl
  · rw [h]
    show decide _ = (decide (c < 0) || decide (_ = c))
    rw [decide_eq_false (show ¬ c < 0 by omega), Bool.false_or]
theorem toOk_false {n : Nat} {y : Ix} {t : Int} (ht : t ∈ toI y) (h : (decide (0 ≤ t) && decide (t < (n : Int))) = false) : toOkI n y = false := List.all_eq_false.2 ⟨t, ht, by rw [h]; decide⟩
set_option maxRecDepth 100000 in
set_option maxHeartbeats 12800000 in
theorem rmay_any (f : Fx) (w : World) (hok : FxOk w f) (hsm : ∀ b ∈ f.bl, ∀ x ∈ b.l, x.args.n ≤ 100000 ∧ x.cases_.n ≤ 1000000) :
    Calls Tryd.prog 15 #[fv f] w fun e w' => e = .returned (.bool f.may) ∧ Keeps No w w' := by
  have HOK := Lib.hid hok
  have HSM := Lib.hid hsm
  have hcap := hok.cap
  have hbp := hok.params
  have hbr := hok.regs
  unfold maxLen at hcap
  have HBOX := Lib.hid (fun t => fx_boxed f w t)
  obtain ⟨P, hP⟩ : ∃ P, f.params = P := ⟨_, rfl⟩
  obtain ⟨R, hR⟩ : ∃ R, f.regs = R := ⟨_, rfl⟩
  obtain ⟨bn, hbn⟩ : ∃ bn, f.bn = bn := ⟨_, rfl⟩
  obtain ⟨A, hA⟩ : ∃ A, f.ba = A := ⟨_, rfl⟩
  obtain ⟨bc, hbc⟩ : ∃ A, f.bc = A := ⟨_, rfl⟩
  rw [hP] at hbp; rw [hR] at hbr; rw [hbn, hbc] at hcap
  obtain ⟨B, hB⟩ : ∃ B, (decide (P < 0) || decide (6 < P) || decide (R < P) || decide (100000 < R) || decide (bn = 0)) = B := ⟨_, rfl⟩
  have HU2 : Hid (f.may = (!B && f.bl.all (fun x => !x.l.isEmpty && formRow R bn x.l))) := Lib.hid (by
    rw [← hB]
    unfold Fx.may Fx.formOk
    rw [hP, hR, hbn]
    have hl : (!f.bl.isEmpty) = !decide (bn = 0) := by
      have := hok.len
      rw [hbn] at this
      cases hl : f.bl with
      | nil => rw [hl] at this; simp at this; subst this; rfl
      | cons a t => rw [hl] at this; simp at this; simp; omega
    have e0 : decide (0 ≤ P) = !decide (P < 0) := by by_cases h : P < 0 <;> simp [h] <;> omega
    have e1 : decide (P ≤ 6) = !decide (6 < P) := by by_cases h : 6 < P <;> simp [h] <;> omega
    have e2 : decide (P ≤ R) = !decide (R < P) := by by_cases h : R < P <;> simp [h] <;> omega
    have e3 : decide (R ≤ 100000) = !decide (100000 < R) := by by_cases h : 100000 < R <;> simp [h] <;> omega
    rw [hl, e0, e1, e2, e3]
    simp only [Bool.not_or, Bool.and_assoc])
  have HP := Lib.hid hP
  have HRR := Lib.hid hR
  have HBN := Lib.hid hbn
  have HA := Lib.hid hA
  have HBC := Lib.hid hbc
  have HBB := Lib.hid hB
  unfold fv
  rw [hP, hR, hbn, hA, hbc]
  clear hok hsm hP hR hbn hA hbc hB
  unfold I64 at hbp hbr
  go_enter Tryd.func15, Tryd.ntmps15
  go_upto_region 1 with fail
  obtain ⟨w1, hw1⟩ : ∃ W, w.alloc (.cells #[.string f.name, .int .i64 P, .int .i64 R, f.slots.v, .slice A bn bc, .bool f.value] 25) = W := ⟨_, rfl⟩
  obtain ⟨BX, hBX⟩ : ∃ q, w.heap.size = q := ⟨_, rfl⟩
  have HF1 : Hid (f.at_ w1 BX 0) := Lib.hid (by
    have h := HBOX.out 25
    rw [HP.out, HRR.out, HBN.out, HA.out, HBC.out, hw1, hBX] at h
    exact h)
  have HK1 : Hid (Keeps No w w1) := Lib.hid (by rw [← hw1]; exact (Keeps.refl _ _).alloc _)
  have c1 : w1.cell? ⟨BX, 1, none⟩ = some (.int .i64 P) := by have h := HF1.out 1 _ rfl; rw [HP.out, Nat.zero_add] at h; exact h
  have c2 : w1.cell? ⟨BX, 2, none⟩ = some (.int .i64 R) := by have h := HF1.out 2 _ rfl; rw [HRR.out, Nat.zero_add] at h; exact h
  have c4 : w1.cell? ⟨BX, 4, none⟩ = some (.slice A bn bc) := by have h := HF1.out 4 _ rfl; rw [HA.out, HBN.out, HBC.out, Nat.zero_add] at h; exact h
  rw [hw1, hBX]
  clear hw1 hBX HBOX
  go_cut [35] (fun v wx => v = .bool B ∧ Hid (Keeps No w1 wx))
  case first =>
    -- DEV<
    by_cases h0 : P < 0
    · have hB : B = true := by rw [← HBB.out]; simp; omega
      go_wp2_with fail
      go_meet
      exact ⟨by rw [hB], Lib.hid (Keeps.refl _ _)⟩
    by_cases h1 : P > 6
    · have hB : B = true := by rw [← HBB.out]; simp; omega
      go_wp2_with fail
      go_meet
      exact ⟨by rw [hB], Lib.hid (Keeps.refl _ _)⟩
    by_cases h2 : R < P
    · have hB : B = true := by rw [← HBB.out]; simp; omega
      go_wp2_with fail
      go_meet
      exact ⟨by rw [hB], Lib.hid (Keeps.refl _ _)⟩
    by_cases h3 : R > 100000
    · have hB : B = true := by rw [← HBB.out]; simp; omega
      go_wp2_with fail
      go_meet
      exact ⟨by rw [hB], Lib.hid (Keeps.refl _ _)⟩
    by_cases h4 : bn = 0
    · have hB : B = true := by rw [← HBB.out]; simp; omega
      have h5 : ((bn : Int) == 0) = true := by rw [h4]; rfl
      clear h4
      go_wp2_with fail
      go_meet
      exact ⟨by rw [hB], Lib.hid (Keeps.refl _ _)⟩
    have hB : B = false := by rw [← HBB.out]; simp; omega
    have h5 : ((bn : Int) == 0) = false := by rw [beq_eq_false_iff_ne]; omega
    go_wp2_with fail
    go_meet
    exact ⟨by rw [hB], Lib.hid (Keeps.refl _ _)⟩
    -- DEV>
  case rest =>
    obtain ⟨rfl, HK0⟩ := hcut
    cases B with
    | true =>
      go_wp2_with fail
      go_returns
      exact ⟨rb rfl HU2.out.symm, HK1.out.trans HK0.out (fun _ _ e => e)⟩
    | false =>
      have HU3 : Hid (f.may = f.bl.all (fun x => !x.l.isEmpty && formRow R bn x.l)) := HU2
      have hRB : 0 ≤ R ∧ R ≤ 100000 := by
        have h := HBB.out
        simp at h
        omega
      have HC := Lib.hid (And.intro c2 c4)
      clear HU2 HBB c1 c2 c4
      have d4 := HK0.out.cell0 HC.out.2
      go_wp2_with fail
      clear d4
      go_loopg [3] bn (fun g v wr => ∃ i : Nat, v = .int .i64 (i : Int) ∧ i ≤ bn ∧ g = bn - i ∧ Hid ((f.bl.take i).all (fun x => !x.l.isEmpty && formRow R bn x.l) = true) ∧ Hid (Keeps No w1 wr))
      case atStart => exact ⟨0, rfl, Nat.zero_le _, rfl, Lib.hid rfl, HK0⟩
      case round =>
        obtain ⟨i, rfl, hi, hg, HE, HK⟩ := hrel
        have d4 := HK.out.cell0 HC.out.2
        by_cases hlt : i < bn
        · have hlt' : (i : Int) < (bn : Int) := by omega
          have i0 : (0 : Int) ≤ (i : Int) := by omega
          obtain ⟨bb, bo, z, hz, ha, cb, hbz⟩ := Fx.get HOK.out (i := i) (by rw [HBN.out]; exact hlt)
          obtain rfl := HA.out.symm.trans ha
          have hkw : Keeps No w wr := HK1.out.trans HK.out (fun _ _ e => e)
          have cb := hkw.cell0 cb
          have hzc := hbz.cap
          unfold maxLen at hzc
          have HZ := Lib.hid hz
          have HBZ := Lib.hid hbz
          have HSX : Hid (∀ x ∈ z.l, x.args.n ≤ 100000 ∧ x.cases_.n ≤ 1000000) := Lib.hid (HSM.out z (List.mem_of_getElem? hz))
          clear hz hbz hkw
          obtain ⟨za, zn, zc, zl⟩ := z
          simp only [Bx.v] at cb hzc
          simp only at HSX
          by_cases hzn : zn = 0
          · have h5 : ((zn : Int) == 0) = true := by rw [hzn]; rfl
            clear hzn
            have HF : Hid (f.may = false) := Lib.hid (by
              rw [HU3.out, List.all_eq_false]; refine ⟨_, List.mem_of_getElem? HZ.out, ?_⟩
              have h0 : zn = 0 := by have := beq_iff_eq.1 h5; omega
              have := HBZ.out.len; simp only at this
              have : zl = [] := List.length_eq_zero_iff.1 (by omega)
              simp [this])
            go_wp2_with fail
            go_returns
            exact ⟨rb rfl HF.out.symm, HK1.out.trans HK.out (fun _ _ e => e)⟩
          · have h5 : ((zn : Int) == 0) = false := by rw [beq_eq_false_iff_ne]; omega
            go_wp2_with fail
            obtain ⟨wA, rfl⟩ : ∃ W', W' = wr := ⟨_, rfl⟩
            clear d4
            go_loopg [5] zn (fun g v wr => ∃ k : Nat, v = .int .i64 (k : Int) ∧ k ≤ zn ∧ g = zn - k ∧ Hid (∀ j y, j < k → zl[j]? = some y → y.formOk R bn (decide (j + 1 = zl.length)) = true) ∧ Hid (Keeps No w1 wr))
            case atStart => exact ⟨0, rfl, Nat.zero_le _, rfl, Lib.hid (fun j y hj => by omega), HK⟩
            case round =>
              obtain ⟨k, rfl, hk, hg2, HE2, HK2⟩ := hrel
              by_cases hlk : k < zn
              · have hlk' : (k : Int) < (zn : Int) := by omega
                have k0 : (0 : Int) ≤ (k : Int) := by omega
                obtain ⟨zb, zo, y, hy, hya, hyt, hyo⟩ := Bx.get HBZ.out hlk
                simp only at hya hy
                subst hya
                have HY := Lib.hid hy
                have hsy := HSX.out y (List.mem_of_getElem? hy)
                have HYT := Lib.hid (fun (W : World) (h : Keeps No w1 W) => hyt.no (HK1.out.trans h (fun _ _ e => e)))
                have HYO := Lib.hid (fun (W : World) (h : Keeps No w1 W) => hyo.no (HK1.out.trans h (fun _ _ e => e)))
                have HUS := Lib.hid (fun (W : World) (h : Keeps No w1 W) => ruses_any y W (HYO.out W h) hsy.1)
                have HF : Hid (y.formOk R bn (decide (k + 1 = zl.length)) = false → f.may = false) := Lib.hid (fun h => by
                  rw [HU3.out, List.all_eq_false]; refine ⟨_, List.mem_of_getElem? HZ.out, ?_⟩
                  rw [formRow_false R bn zl k y HY.out h]; simp)
                have HFM : Hid (y.formOk R bn (decide (k + 1 = zl.length)) = (y.uses.all (hasReg R) && !midI R (decide (k + 1 = zl.length)) y && manyOkI y && toOkI bn y)) := Lib.hid (form_may R bn _ y hyo.to.len)
                have hul := uses_len y
                rw [hyo.args.len] at hul
                obtain ⟨us, hus⟩ : ∃ us, y.uses = us := ⟨_, rfl⟩
                rw [hus] at HUS HFM hul
                have hzl : zl.length = zn := HBZ.out.len
                have x0 := HYT.out _ HK2.out 0 _ rfl
                have x1 := HYT.out _ HK2.out 1 _ rfl
                have x2 := HYT.out _ HK2.out 2 _ rfl
                have x3 := HYT.out _ HK2.out 3 _ rfl
                have x4 := HYT.out _ HK2.out 4 _ rfl
                have x5 := HYT.out _ HK2.out 5 _ rfl
                have x6 := HYT.out _ HK2.out 6 _ rfl
                have x7 := HYT.out _ HK2.out 7 _ rfl
                have x8 := HYT.out _ HK2.out 8 _ rfl
                have x9 := HYT.out _ HK2.out 9 _ rfl
                have x10 := HYT.out _ HK2.out 10 _ rfl
                rw [Nat.add_zero] at x0
                have HYO0 := Lib.hid hyo
                clear hy hyt hyo hus
                go_wp2_with fail
                refine (HUS.out _ HK2.out).mono ?_
                rintro e w3 ⟨v, rfl, hu⟩
                obtain ⟨ua, uc, rfl, hua⟩ := own_form hu.o
                have HUO := Lib.hid hu.o
                have HUA := Lib.hid hua
                have HK3 : Hid (Keeps No w1 w3) := Lib.hid (HK2.out.trans hu.k (fun _ _ e => e))
                obtain ⟨un, hun⟩ : ∃ n, us.length = n := ⟨_, rfl⟩
                rw [hun] at hul HUO HUA ⊢
                have HUN := Lib.hid hun
                clear hu hua hun HUS x0 x1 x2 x3 x4 x5 x6 x7 x8 x9 x10
                go_wp2_with fail
                obtain ⟨wB, rfl⟩ : ∃ W', W' = wr := ⟨_, rfl⟩
                go_loopg [7] un (fun g v wr => ∃ t : Nat, v = .int .i64 (t : Int) ∧ t ≤ un ∧ g = un - t ∧ Hid ((us.take t).all (hasReg R) = true) ∧ Hid (wr.ownsRow wB.heap.size 3 1 (.slice ua un uc) un (irow us)) ∧ Hid (Keeps No w1 wr))
                case atStart => exact ⟨0, rfl, Nat.zero_le _, rfl, Lib.hid rfl, HUO, HK3⟩
                case round =>
                  obtain ⟨t, rfl, ht, hg3, HT, HU4, HK4⟩ := hrel
                  by_cases hlt2 : t < un
                  ·
                    -- DEV<
                    have hlt2' : (t : Int) < (un : Int) := by omega
                    have t0 : (0 : Int) ≤ (t : Int) := by omega
                    obtain ⟨r, hr⟩ : ∃ r, us[t]? = some r := ⟨_, List.getElem?_eq_getElem (by have := HUN.out; omega)⟩
                    obtain ⟨gu, rfl⟩ := HUA.out (by omega)
                    have cu : wr.cell? ⟨gu, t, none⟩ = some (.int .i64 r) := by
                      rw [World.ownsRow.cellAt HU4.out t (by omega)]; exact irow_get hr
                    have d2 := HK4.out.cell0 HC.out.1
                    have HTK : Hid (us.take (t + 1) = us.take t ++ [r]) := Lib.hid (by
                      obtain ⟨h1, h2⟩ := List.getElem?_eq_some_iff.1 hr
                      rw [List.take_succ_eq_append_getElem h1, h2])
                    have HRM : Hid (hasReg R r = false → f.may = false) := Lib.hid (fun h => HF.out (by
                      rw [HFM.out]
                      have : us.all (hasReg R) = false := List.all_eq_false.2 ⟨r, List.mem_of_getElem? hr, by rw [h]; decide⟩
                      rw [this]; rfl))
                    clear hr
                    have pU : ∀ u : KS No wr, u.W.cell? ⟨gu, t, none⟩ = some (.int .i64 r) := fun u => u.cell cu (fun e => e)
                    have pR : ∀ u : KS No wr, u.W.cell? ⟨BX, 2, none⟩ = some (.int .i64 R) := fun u => u.cell d2 (fun e => e)
                    have hne : Nonempty (KS No wr) := ⟨⟨wr, Keeps.refl _ _⟩⟩
                    clear cu d2
                    by_cases hr0 : r < 0
                    · have HG : Hid (f.may = false) := Lib.hid (HRM.out (by unfold hasReg; rw [decide_eq_false (by omega)]; rfl))
                      go_upto_region 16 with fail
                      refine Mix.wp_region_mix (fun W' => ∃ u : KS No wr, W' = u.W) [] (by kernel_rfl) ?_
                      have HV0 : Hid (Keeps No wr wr.drew) := Lib.hid ((Keeps.refl _ wr).drew)
                      generalize wr.drew = v0 at HV0 ⊢
                      have HK5 : Hid (Keeps No w1 v0) := Lib.hid (HK4.out.trans HV0.out (fun _ _ e => e))
                      have HU5 : Hid (v0.ownsRow wB.heap.size 3 1 (.slice (some ⟨gu, 0, none⟩) un uc) un (irow us)) := Lib.hid (own_keep HU4.out HV0.out (fun _ e => e.elim))
                      refine Mix.mix_seg 0 14 0 (by kernel_rfl) (by kernel_rfl) rfl rfl ⟨⟨v0, HV0.out⟩, rfl⟩ ?_
                      simp only [List.drop_succ_cons, List.drop_zero, List.take_succ_cons, List.take_zero]
                      repeat (go_big_quiet_step (fail))
                      refine wpQuiet_nil ?_
                      refine Mix.mix_end (by kernel_rfl) ?_
                      go_wp2_with fail
                      go_returns
                      exact ⟨rb rfl HG.out.symm, HK1.out.trans HK5.out (fun _ _ e => e)⟩
                    by_cases hr1 : r ≥ R
                    · have HG : Hid (f.may = false) := Lib.hid (HRM.out (by unfold hasReg; rw [decide_eq_false (show ¬ r < R by omega), Bool.and_false]))
                      go_upto_region 16 with fail
                      refine Mix.wp_region_mix (fun W' => ∃ u : KS No wr, W' = u.W) [] (by kernel_rfl) ?_
                      have HV0 : Hid (Keeps No wr wr.drew) := Lib.hid ((Keeps.refl _ wr).drew)
                      generalize wr.drew = v0 at HV0 ⊢
                      have HK5 : Hid (Keeps No w1 v0) := Lib.hid (HK4.out.trans HV0.out (fun _ _ e => e))
                      have HU5 : Hid (v0.ownsRow wB.heap.size 3 1 (.slice (some ⟨gu, 0, none⟩) un uc) un (irow us)) := Lib.hid (own_keep HU4.out HV0.out (fun _ e => e.elim))
                      refine Mix.mix_seg 0 14 0 (by kernel_rfl) (by kernel_rfl) rfl rfl ⟨⟨v0, HV0.out⟩, rfl⟩ ?_
                      simp only [List.drop_succ_cons, List.drop_zero, List.take_succ_cons, List.take_zero]
                      repeat (go_big_quiet_step (fail))
                      refine wpQuiet_nil ?_
                      refine Mix.mix_end (by kernel_rfl) ?_
                      go_wp2_with fail
                      go_returns
                      exact ⟨rb rfl HG.out.symm, HK1.out.trans HK5.out (fun _ _ e => e)⟩
                    · have HT2 : Hid ((us.take (t + 1)).all (hasReg R) = true) := Lib.hid (by
                        rw [HTK.out, List.all_append, HT.out]
                        show (true && (hasReg R r && true)) = true
                        unfold hasReg
                        rw [decide_eq_true (show 0 ≤ r by omega), decide_eq_true (show r < R by omega)]; rfl)
                      go_upto_region 16 with fail
                      refine Mix.wp_region_mix (fun W' => ∃ u : KS No wr, W' = u.W) [] (by kernel_rfl) ?_
                      have HV0 : Hid (Keeps No wr wr.drew) := Lib.hid ((Keeps.refl _ wr).drew)
                      generalize wr.drew = v0 at HV0 ⊢
                      have HK5 : Hid (Keeps No w1 v0) := Lib.hid (HK4.out.trans HV0.out (fun _ _ e => e))
                      have HU5 : Hid (v0.ownsRow wB.heap.size 3 1 (.slice (some ⟨gu, 0, none⟩) un uc) un (irow us)) := Lib.hid (own_keep HU4.out HV0.out (fun _ e => e.elim))
                      refine Mix.mix_seg 0 14 0 (by kernel_rfl) (by kernel_rfl) rfl rfl ⟨⟨v0, HV0.out⟩, rfl⟩ ?_
                      simp only [List.drop_succ_cons, List.drop_zero, List.take_succ_cons, List.take_zero]
                      repeat (go_big_quiet_step (fail))
                      refine wpQuiet_nil ?_
                      refine Mix.mix_end (by kernel_rfl) ?_
                      go_wp2_with fail
                      go_roundg (un - (t + 1))
                      case rel => exact ⟨t + 1, by go_num, by omega, rfl, HT2, HU5, HK5⟩
                      case measure => omega
                    -- DEV>
                  · obtain rfl : t = un := by omega
                    have hlt2' : ¬ (t : Int) < (t : Int) := by omega
                    have HUA2 : Hid (us.all (hasReg R) = true) := Lib.hid (by
                      have h := HT.out
                      rw [List.take_of_length_le (by rw [HUN.out]; exact Nat.le_refl _)] at h
                      exact h)
                    go_wp2_with fail
                    obtain ⟨LL, hLL⟩ : ∃ LL, decide (k + 1 = zl.length) = LL := ⟨_, rfl⟩
                    have k1 : IntKind.i64.wrap ((zn : Int) - 1) = (zn : Int) - 1 := by rw [IntKind.wrap_i64]; omega
                    have k2 : ((k : Int) == (zn : Int) - 1) = LL := by
                      rw [← hLL, hzl]
                      by_cases h : k + 1 = zn
                      · rw [decide_eq_true h, beq_iff_eq]; omega
                      · rw [decide_eq_false h, beq_eq_false_iff_ne]; omega
                    have HLL := Lib.hid hLL
                    obtain ⟨OD, hOD⟩ : ∃ OD, oddI R y = OD := ⟨_, rfl⟩
                    obtain ⟨EN, hEN⟩ : ∃ EN, endsI y.op = EN := ⟨_, rfl⟩
                    have HMID : Hid (midI R LL y = (OD || (EN != LL) || decide (y.op < 1) || decide (22 ≤ y.op))) := Lib.hid (by unfold midI; rw [hOD, hEN])
                    have HOD : Hid (∀ W, Calls Tryd.prog 33 #[ia y, .int .i64 R] W fun e w' => e = .returned (.bool OD) ∧ Keeps No W w') := Lib.hid (fun W => by rw [← hOD]; exact rodd_any y R W)
                    have HEN : Hid (∀ W, Calls Tryd.prog 34 #[.int .i64 y.op] W fun e w' => e = .returned (.bool EN) ∧ Keeps No W w') := Lib.hid (fun W => by rw [← hEN]; exact rends_any y.op W)
                    clear hOD hEN hLL
                    go_cut [119] (fun v wx => v = .bool (midI R LL y) ∧ Hid (Keeps No w1 wx))
                    case first =>
                      have q : ∀ (j : Nat) (v : Value), y.cells[j]? = some v → ∀ u : KW wr, u.W.cell? ⟨zb, zo + k * 11 + j, none⟩ = some v := fun j v hj u => u.cell (HYT.out _ HK4.out j v hj)
                      have x0 := q 0 _ rfl
                      have x1 := q 1 _ rfl
                      have x2 := q 2 _ rfl
                      have x3 := q 3 _ rfl
                      have x4 := q 4 _ rfl
                      have x5 := q 5 _ rfl
                      have x6 := q 6 _ rfl
                      have x7 := q 7 _ rfl
                      have x8 := q 8 _ rfl
                      have x9 := q 9 _ rfl
                      have x10 := q 10 _ rfl
                      rw [Nat.add_zero] at x0
                      have pR : ∀ u : KW wr, u.W.cell? ⟨BX, 2, none⟩ = some (.int .i64 R) := fun u => u.cell (HK4.out.cell0 HC.out.1)
                      have hne : Nonempty (KW wr) := ⟨KW.of _⟩
                      clear q
                      obtain ⟨D1, hD1⟩ : ∃ d, decide (y.op < 1) = d := ⟨_, rfl⟩
                      obtain ⟨D2, hD2⟩ : ∃ d, decide (22 ≤ y.op) = d := ⟨_, rfl⟩
                      rw [hD1, hD2] at HMID
                      -- DEV<
                      have hsp : OD = true ∨ (OD = false ∧ EN = true ∧ LL = false) ∨ (OD = false ∧ EN = false ∧ LL = true) ∨ (OD = false ∧ EN = true ∧ LL = true ∧ D1 = true) ∨ (OD = false ∧ EN = false ∧ LL = false ∧ D1 = true) ∨ (OD = false ∧ EN = true ∧ LL = true ∧ D1 = false ∧ D2 = true) ∨ (OD = false ∧ EN = false ∧ LL = false ∧ D1 = false ∧ D2 = true) ∨ (OD = false ∧ EN = true ∧ LL = true ∧ D1 = false ∧ D2 = false) ∨ (OD = false ∧ EN = false ∧ LL = false ∧ D1 = false ∧ D2 = false) := by
                        cases OD <;> cases EN <;> cases LL <;> cases D1 <;> cases D2 <;> decide
                      rcases hsp with rfl | ⟨rfl, rfl, rfl⟩ | ⟨rfl, rfl, rfl⟩ | ⟨rfl, rfl, rfl, rfl⟩ | ⟨rfl, rfl, rfl, rfl⟩ | ⟨rfl, rfl, rfl, rfl, rfl⟩ | ⟨rfl, rfl, rfl, rfl, rfl⟩ | ⟨rfl, rfl, rfl, rfl, rfl⟩ | ⟨rfl, rfl, rfl, rfl, rfl⟩
                      all_goals (
                        refine wp_region_class (C := fun W => ∃ u : KW wr, W = u.W) (by kernel_rfl) (by kernel_rfl) ⟨⟨World.drew _, (Keeps.refl _ _).drew⟩, rfl⟩ ?_
                        repeat (go_big_quiet_step (first | (go_at_call 33; with_reducible refine kw_call _ (HOD.out _)) | (go_at_call 34; with_reducible refine kw_call _ (HEN.out _))))
                        refine wpQuiet_nil ?_
                        rintro _ ⟨T, rfl⟩
                        go_wp2_with fail
                        go_meet
                        exact ⟨by rw [HMID.out]; simp, Lib.hid (HK4.out.trans T.h (fun _ _ e => e))⟩)
                      -- DEV>
                    case rest =>
                      obtain ⟨rfl, HK5⟩ := hcut
                      obtain ⟨MI, hMI⟩ : ∃ m, midI R LL y = m := ⟨_, rfl⟩
                      rw [HLL.out, HUA2.out, hMI, Bool.true_and] at HFM
                      rw [hMI]
                      rw [HLL.out] at HF
                      clear hMI HMID HOD HEN HU4 HK4
                      cases MI with
                      | true =>
                        have HG : Hid (f.may = false) := Lib.hid (HF.out (by rw [HFM.out]; rfl))
                        go_wp2_with fail
                        go_returns
                        exact ⟨rb rfl HG.out.symm, HK1.out.trans HK5.out (fun _ _ e => e)⟩
                      | false =>
                        have x0 := HYT.out _ HK5.out 0 _ rfl
                        have x1 := HYT.out _ HK5.out 1 _ rfl
                        have x2 := HYT.out _ HK5.out 2 _ rfl
                        have x3 := HYT.out _ HK5.out 3 _ rfl
                        have x4 := HYT.out _ HK5.out 4 _ rfl
                        have x5 := HYT.out _ HK5.out 5 _ rfl
                        have x6 := HYT.out _ HK5.out 6 _ rfl
                        have x7 := HYT.out _ HK5.out 7 _ rfl
                        have x8 := HYT.out _ HK5.out 8 _ rfl
                        have x9 := HYT.out _ HK5.out 9 _ rfl
                        have x10 := HYT.out _ HK5.out 10 _ rfl
                        rw [Nat.add_zero] at x0
                        have HTO := Lib.hid (fun W => rto_sl y W)
                        have HMA := Lib.hid (fun W => rmany_any y W hsy.2)
                        have HMO : Hid (manyOkI y = (decide (y.many.getD (-1) < 0) || decide (((toI y).length : Int) = y.many.getD (-1)))) := Lib.hid (many_ok y)
                        obtain ⟨M, hM⟩ : ∃ M, y.many.getD (-1) = M := ⟨_, rfl⟩
                        rw [hM] at HMA HMO
                        clear hM
                        go_wp2_with fail
                        refine (HTO.out _).mono ?_
                        rintro e w6 ⟨hk6, sa, sn, sc, rfl, hsl⟩
                        have HK6 : Hid (Keeps No w1 w6) := Lib.hid (HK5.out.trans hk6 (fun _ _ e => e))
                        have HTL : Hid (SlAt w ⟨sa, sn, sc, toI y⟩) := Lib.hid (hsl w (HYO0.out))
                        have hsn : (toI y).length = sn := HTL.out.len
                        have hsc : sn ≤ sc ∧ sc ≤ 2 ^ 63 - 1 := by have h := HTL.out.cap; unfold maxLen at h; exact h
                        rw [hsn] at HMO
                        obtain ⟨MO, hMO⟩ : ∃ m, manyOkI y = m := ⟨_, rfl⟩
                        rw [hMO] at HMO HFM
                        clear hk6 hsl x0 x1 x2 x3 x4 x5 x6 x7 x8 x9 x10 hMO
                        have x0 := HYT.out _ HK6.out 0 _ rfl
                        have x1 := HYT.out _ HK6.out 1 _ rfl
                        have x2 := HYT.out _ HK6.out 2 _ rfl
                        have x3 := HYT.out _ HK6.out 3 _ rfl
                        have x4 := HYT.out _ HK6.out 4 _ rfl
                        have x5 := HYT.out _ HK6.out 5 _ rfl
                        have x6 := HYT.out _ HK6.out 6 _ rfl
                        have x7 := HYT.out _ HK6.out 7 _ rfl
                        have x8 := HYT.out _ HK6.out 8 _ rfl
                        have x9 := HYT.out _ HK6.out 9 _ rfl
                        have x10 := HYT.out _ HK6.out 10 _ rfl
                        rw [Nat.add_zero] at x0
                        go_upto_region 21 with fail
                        go_cut [140] (fun v wx => v = .bool (!MO) ∧ Hid (Keeps No w1 wx))
                        case first =>
                          by_cases hm0 : M < 0
                          · have hm1 : (M ≥ 0) = False := eq_false (by omega)
                            have HMT : Hid (MO = true) := Lib.hid (by rw [HMO.out, decide_eq_true hm0]; rfl)
                            clear hm0
                            go_wp2_with fail
                            refine (HMA.out _).mono ?_
                            rintro e w7 ⟨rfl, hk7⟩
                            go_wp2_with fail
                            go_meet
                            exact ⟨by rw [HMT.out]; rfl, Lib.hid (HK6.out.trans hk7 (fun _ _ e => e))⟩
                          · have hm1 : M ≥ 0 := by omega
                            obtain ⟨EQ, hEQ⟩ : ∃ e, decide ((sn : Int) = M) = e := ⟨_, rfl⟩
                            have HMT : Hid (MO = EQ) := Lib.hid (by rw [HMO.out, decide_eq_false hm0, hEQ]; rfl)
                            have hNE : ((sn : Int) != M) = !EQ := by rw [← hEQ]; by_cases h : (sn : Int) = M <;> simp [h]
                            clear hm0 hEQ
                            go_wp2_with fail
                            refine (HMA.out _).mono ?_
                            rintro e w7 ⟨rfl, hk7⟩
                            have HK7 : Hid (Keeps No w1 w7) := Lib.hid (HK6.out.trans hk7 (fun _ _ e => e))
                            clear x0 x1 x2 x3 x4 x5 x6 x7 x8 x9 x10
                            have x0 := HYT.out _ HK7.out 0 _ rfl
                            have x1 := HYT.out _ HK7.out 1 _ rfl
                            have x2 := HYT.out _ HK7.out 2 _ rfl
                            have x3 := HYT.out _ HK7.out 3 _ rfl
                            have x4 := HYT.out _ HK7.out 4 _ rfl
                            have x5 := HYT.out _ HK7.out 5 _ rfl
                            have x6 := HYT.out _ HK7.out 6 _ rfl
                            have x7 := HYT.out _ HK7.out 7 _ rfl
                            have x8 := HYT.out _ HK7.out 8 _ rfl
                            have x9 := HYT.out _ HK7.out 9 _ rfl
                            have x10 := HYT.out _ HK7.out 10 _ rfl
                            rw [Nat.add_zero] at x0
                            clear hk7
                            go_wp2_with fail
                            refine (HMA.out _).mono ?_
                            rintro e w8 ⟨rfl, hk8⟩
                            go_wp2_with fail
                            go_meet
                            exact ⟨by rw [HMT.out], Lib.hid (HK7.out.trans hk8 (fun _ _ e => e))⟩
                        case rest =>
                          obtain ⟨rfl, HK7⟩ := hcut
                          clear HMO HMA HTO HK6 HK5 x0 x1 x2 x3 x4 x5 x6 x7 x8 x9 x10
                          cases MO with
                          | false =>
                            have HG : Hid (f.may = false) := Lib.hid (HF.out (by rw [HFM.out]; rfl))
                            go_wp2_with fail
                            go_returns
                            exact ⟨rb rfl HG.out.symm, HK1.out.trans HK7.out (fun _ _ e => e)⟩
                          | true =>
                            go_wp2_with fail
                            obtain ⟨wD, rfl⟩ : ∃ W', W' = wr := ⟨_, rfl⟩
                            obtain ⟨ts, hts⟩ : ∃ l, toI y = l := ⟨_, rfl⟩
                            rw [hts] at HTL hsn
                            have HTOF : Hid (∀ t, t ∈ ts → (decide (0 ≤ t) && decide (t < (bn : Int))) = false → f.may = false) := Lib.hid (fun t ht h => HF.out (by
                              rw [HFM.out, toOk_false (by rw [hts]; exact ht) h]; rfl))
                            have HTOT : Hid (ts.all (fun t => decide (0 ≤ t) && decide (t < (bn : Int))) = true → y.formOk R bn LL = true) := Lib.hid (fun h => by
                              rw [HFM.out]
                              unfold toOkI
                              rw [hts, h]; rfl)
                            clear hts HFM
                            go_loopg [9] sn (fun g v wr => ∃ t : Nat, v = .int .i64 (t : Int) ∧ t ≤ sn ∧ g = sn - t ∧ Hid ((ts.take t).all (fun t => decide (0 ≤ t) && decide (t < (bn : Int))) = true) ∧ Hid (Keeps No w1 wr))
                            case atStart => exact ⟨0, rfl, Nat.zero_le _, rfl, Lib.hid rfl, HK7⟩
                            case round =>
                              obtain ⟨t, rfl, ht, hg4, HTT, HK8⟩ := hrel
                              by_cases hlt3 : t < sn
                              · have hlt3' : (t : Int) < (sn : Int) := by omega
                                have t0 : (0 : Int) ≤ (t : Int) := by omega
                                obtain ⟨gb, go_, r, hr, ha2, hc2⟩ := SlAt.get HTL.out hlt3
                                simp only at hr ha2 hc2
                                subst ha2
                                have HRM : Hid ((decide (0 ≤ r) && decide (r < (bn : Int))) = false → f.may = false) := Lib.hid (HTOF.out r (List.mem_of_getElem? hr))
                                have HTK : Hid (ts.take (t + 1) = ts.take t ++ [r]) := Lib.hid (by
                                  obtain ⟨h1, h2⟩ := List.getElem?_eq_some_iff.1 hr
                                  rw [List.take_succ_eq_append_getElem h1, h2])
                                have hkww : Keeps No w wr := HK1.out.trans HK8.out (fun _ _ e => e)
                                have pT : ∀ u : KW wr, u.W.cell? ⟨gb, go_ + t, none⟩ = some (.int .i64 r) := fun u => u.cell (hkww.cell0 hc2)
                                have pB : ∀ u : KW wr, u.W.cell? ⟨BX, 4, none⟩ = some (.slice (some ⟨bb, bo, none⟩) bn bc) := fun u => u.cell (HK8.out.cell0 HC.out.2)
                                have hne : Nonempty (KW wr) := ⟨KW.of _⟩
                                clear hr hc2 hkww
                                by_cases hr0 : r < 0
                                · have HG : Hid (f.may = false) := Lib.hid (HRM.out (by rw [decide_eq_false (show ¬ 0 ≤ r by omega)]; rfl))
                                  go_upto_region 26 with fail
                                  refine wp_region_class (C := fun W => ∃ u : KW wr, W = u.W) (by kernel_rfl) (by kernel_rfl) ⟨⟨World.drew _, (Keeps.refl _ _).drew⟩, rfl⟩ ?_
                                  repeat (go_big_quiet_step (fail))
                                  refine wpQuiet_nil ?_
                                  rintro _ ⟨T, rfl⟩
                                  have HK9 : Hid (Keeps No w1 T.W) := Lib.hid (HK8.out.trans T.h (fun _ _ e => e))
                                  go_wp2_with fail
                                  go_returns
                                  exact ⟨rb rfl HG.out.symm, HK1.out.trans HK9.out (fun _ _ e => e)⟩
                                by_cases hr1 : r ≥ (bn : Int)
                                · have HG : Hid (f.may = false) := Lib.hid (HRM.out (by rw [decide_eq_false (show ¬ r < (bn : Int) by omega), Bool.and_false]))
                                  go_upto_region 26 with fail
                                  refine wp_region_class (C := fun W => ∃ u : KW wr, W = u.W) (by kernel_rfl) (by kernel_rfl) ⟨⟨World.drew _, (Keeps.refl _ _).drew⟩, rfl⟩ ?_
                                  repeat (go_big_quiet_step (fail))
                                  refine wpQuiet_nil ?_
                                  rintro _ ⟨T, rfl⟩
                                  have HK9 : Hid (Keeps No w1 T.W) := Lib.hid (HK8.out.trans T.h (fun _ _ e => e))
                                  go_wp2_with fail
                                  go_returns
                                  exact ⟨rb rfl HG.out.symm, HK1.out.trans HK9.out (fun _ _ e => e)⟩
                                have HT2 : Hid ((ts.take (t + 1)).all (fun t => decide (0 ≤ t) && decide (t < (bn : Int))) = true) := Lib.hid (by
                                  rw [HTK.out, List.all_append, HTT.out]
                                  show (true && ((decide (0 ≤ r) && decide (r < (bn : Int))) && true)) = true
                                  rw [decide_eq_true (show 0 ≤ r by omega), decide_eq_true (show r < (bn : Int) by omega)]; rfl)
                                go_upto_region 26 with fail
                                refine wp_region_class (C := fun W => ∃ u : KW wr, W = u.W) (by kernel_rfl) (by kernel_rfl) ⟨⟨World.drew _, (Keeps.refl _ _).drew⟩, rfl⟩ ?_
                                repeat (go_big_quiet_step (fail))
                                refine wpQuiet_nil ?_
                                rintro _ ⟨T, rfl⟩
                                have HK9 : Hid (Keeps No w1 T.W) := Lib.hid (HK8.out.trans T.h (fun _ _ e => e))
                                go_wp2_with fail
                                go_roundg (sn - (t + 1))
                                case rel => exact ⟨t + 1, by go_num, by omega, rfl, HT2, HK9⟩
                                case measure => omega
                              · obtain rfl : t = sn := by omega
                                have hlt3' : ¬ (t : Int) < (t : Int) := by omega
                                have HFO : Hid (∀ j y, j < k + 1 → zl[j]? = some y → y.formOk R bn (decide (j + 1 = zl.length)) = true) := Lib.hid (fun j y' hj hy' => by
                                  by_cases e : j = k
                                  · subst e
                                    obtain rfl := Option.some.inj (HY.out.symm.trans hy')
                                    rw [HLL.out]
                                    have h := HTT.out
                                    rw [List.take_of_length_le (by rw [hsn]; exact Nat.le_refl _)] at h
                                    exact HTOT.out h
                                  · exact HE2.out j y' (by omega) hy')
                                go_wp2_with fail
                                go_roundg (zn - (k + 1))
                                case rel => exact ⟨k + 1, by go_num, by omega, rfl, HFO, HK8⟩
                                case measure => omega
              · obtain rfl : k = zn := by omega
                have hlk' : ¬ (k : Int) < (k : Int) := by omega
                have HE3 : Hid ((f.bl.take (i + 1)).all (fun x => !x.l.isEmpty && formRow R bn x.l) = true) := Lib.hid (by
                  obtain ⟨h1, h2⟩ := List.getElem?_eq_some_iff.1 HZ.out
                  rw [List.take_succ_eq_append_getElem h1, h2, List.all_append, HE.out]
                  have hl := HBZ.out.len
                  simp only at hl
                  have hr := formRow_true R bn zl (fun j y hy => HE2.out j y (by have := (List.getElem?_eq_some_iff.1 hy).1; omega) hy)
                  have hne : zl.isEmpty = false := by
                    cases zl with
                    | nil => simp at hl; omega
                    | cons a t => rfl
                  simp [hr, hne])
                go_wp2_with fail
                go_roundg (bn - (i + 1))
                case rel => exact ⟨i + 1, by go_num, by omega, rfl, HE3, HK2⟩
                case measure => omega
        · obtain rfl : i = bn := by omega
          have hlt' : ¬ (i : Int) < (i : Int) := by omega
          have HF : Hid (f.may = true) := Lib.hid (by
            rw [HU3.out]
            have h := HE.out
            rw [List.take_of_length_le (by rw [HOK.out.len, HBN.out]; exact Nat.le_refl _)] at h
            exact h)
          go_wp2_with fail
          go_returns
          exact ⟨rb rfl HF.out.symm, HK1.out.trans HK.out (fun _ _ e => e)⟩
end Go.Proofs.YtpjilcfmcbapcaaDoor
