/- What may be: Form. -/
import Derived.Test.YtkiimljdoebclaaDoorIrForm2
namespace Go.Proofs.YtkiimljdoebclaaDoor
open Go.RowKit
set_option linter.unusedVariables false
set_option linter.unusedSimpArgs false

theorem formRow_true (r : Int) (b : Nat) : ∀ (l : List Ix), (∀ (k : Nat) (x : Ix), l[k]? = some x → x.formOk r b (decide (k + 1 = l.length)) = true) → formRow r b l = true
  | [], _ => rfl
  | [x], h => h 0 x rfl
  | x :: y :: t, h => by
    unfold formRow
    rw [formRow_true r b (y :: t) (fun k z hz => by have := h (k + 1) z hz; simpa using this), Bool.and_true]
    have := h 0 x rfl
    simpa using this
theorem formRow_false (r : Int) (b : Nat) : ∀ (l : List Ix) (k : Nat) (x : Ix), l[k]? = some x → x.formOk r b (decide (k + 1 = l.length)) = false → formRow r b l = false
  | [], k, x, h, _ => by cases h
  | [x], 0, z, h, g => by injection h with h; subst h; simpa [formRow] using g
  | [x], k + 1, z, h, _ => by simp at h
  | x :: y :: t, 0, z, h, g => by
    injection h with h; subst h; unfold formRow
    have : x.formOk r b false = false := by simpa using g
    rw [this, Bool.false_and]
  | x :: y :: t, k + 1, z, h, g => by
    unfold formRow
    rw [formRow_false r b (y :: t) k z (by simpa using h) (by simpa using g), Bool.and_false]
theorem Bx.get {w : World} {x : Bx} (h : BxAt w x) {i : Nat} (hi : i < x.n) : ∃ (b off : Nat) (z : Ix), x.l[i]? = some z ∧ x.a = some ⟨b, off, none⟩ ∧ z.at_ w b (off + i * 11) ∧ IxOk w z := by
  obtain ⟨b, off, e, hc⟩ := h.at_ (by omega)
  obtain ⟨z, hz⟩ : ∃ z, x.l[i]? = some z := ⟨_, List.getElem?_eq_getElem (by rw [h.len]; exact hi)⟩
  exact ⟨b, off, z, hz, e, hc i z hz, h.ok z (List.mem_of_getElem? hz)⟩
theorem Fx.get {w : World} {f : Fx} (h : FxOk w f) {i : Nat} (hi : i < f.bn) : ∃ (b off : Nat) (z : Bx), f.bl[i]? = some z ∧ f.ba = some ⟨b, off, none⟩ ∧ w.cell? ⟨b, off + i, none⟩ = some z.v ∧ BxAt w z := by
  obtain ⟨b, off, e, hc⟩ := h.at_ (by omega)
  obtain ⟨z, hz⟩ : ∃ z, f.bl[i]? = some z := ⟨_, List.getElem?_eq_getElem (by rw [h.len]; exact hi)⟩
  exact ⟨b, off, z, hz, e, hc i z hz, h.ok z (List.mem_of_getElem? hz)⟩
set_option maxRecDepth 100000 in
set_option maxHeartbeats 12800000 in
theorem form_any (f : Fx) (fb fo : Nat) (w : World) (hf : f.at_ w fb fo) (hok : FxOk w f) :
    Calls Tryd.prog 45 #[.pointer (some ⟨fb, fo, none⟩)] w fun e w' => e = .returned (.bool f.formOk) ∧ Keeps No w w' := by
  have HFT := Lib.hid hf
  have HOK := Lib.hid hok
  have c1 := hf 1 _ rfl
  have c2 := hf 2 _ rfl
  have c4 := hf 4 _ rfl
  have hcap := hok.cap
  have hbp := hok.params
  have hbr := hok.regs
  unfold maxLen at hcap
  obtain ⟨P, hP⟩ : ∃ P, f.params = P := ⟨_, rfl⟩
  obtain ⟨R, hR⟩ : ∃ R, f.regs = R := ⟨_, rfl⟩
  obtain ⟨bn, hbn⟩ : ∃ bn, f.bn = bn := ⟨_, rfl⟩
  obtain ⟨A, hA⟩ : ∃ A, f.ba = A := ⟨_, rfl⟩
  obtain ⟨bc, hbc⟩ : ∃ A, f.bc = A := ⟨_, rfl⟩
  rw [hP] at c1 hbp; rw [hR] at c2 hbr; rw [hbn, hA, hbc] at c4; rw [hbn, hbc] at hcap
  have HU : Hid (f.formOk = (decide (P ≤ 6) && decide (P ≤ R) && decide (R ≤ 100000) && decide (0 < bn) && f.bl.all (fun x => !x.l.isEmpty && formRow R bn x.l))) := Lib.hid (by
    unfold Fx.formOk; rw [hP, hR, hbn]
    congr 2
    have := hok.len
    rw [hbn] at this
    cases hl : f.bl with
    | nil => rw [hl] at this; simp at this; subst this; rfl
    | cons a t => rw [hl] at this; simp at this; simp; omega)
  obtain ⟨B, hB⟩ : ∃ B, (decide (6 < P) || decide (R < P) || decide (100000 < R) || decide (bn = 0)) = B := ⟨_, rfl⟩
  have HU2 : Hid (f.formOk = (!B && f.bl.all (fun x => !x.l.isEmpty && formRow R bn x.l))) := Lib.hid (by
    rw [HU.out, ← hB]
    have e1 : decide (P ≤ 6) = !decide (6 < P) := by by_cases h : 6 < P <;> simp [h] <;> omega
    have e2 : decide (P ≤ R) = !decide (R < P) := by by_cases h : R < P <;> simp [h] <;> omega
    have e3 : decide (R ≤ 100000) = !decide (100000 < R) := by by_cases h : 100000 < R <;> simp [h] <;> omega
    have e4 : decide (0 < bn) = !decide (bn = 0) := by by_cases h : bn = 0 <;> simp [h] <;> omega
    rw [e1, e2, e3, e4]
    simp only [Bool.not_or])
  have HP := Lib.hid hP
  have HRR := Lib.hid hR
  have HBN := Lib.hid hbn
  have HA := Lib.hid hA
  have HBB := Lib.hid hB
  clear hf hok hP hR hbn hA hbc hB HU
  unfold I64 at hbp hbr
  go_enter Tryd.func45, Tryd.ntmps45
  go_upto_region 1 with fail
  go_cut [37] (fun v wx => v = .bool B ∧ ∃ m, w.drewN m = wx)
  case first =>
    by_cases h1 : P > 6
    · have hB : B = true := by rw [← HBB.out]; simp; omega
      go_wp2_with fail
      go_quiet (fail)
      go_wp2_with fail
      go_meet
      exact ⟨by rw [hB], _, rfl⟩
    · by_cases h2 : P > R
      · have hB : B = true := by rw [← HBB.out]; simp; omega
        go_wp2_with fail
        go_quiet (fail)
        go_wp2_with fail
        go_meet
        exact ⟨by rw [hB], _, rfl⟩
      · by_cases h3 : R > 100000
        · have hB : B = true := by rw [← HBB.out]; simp; omega
          go_wp2_with fail
          go_quiet (fail)
          go_wp2_with fail
          go_meet
          exact ⟨by rw [hB], _, rfl⟩
        · by_cases h4 : bn = 0
          · have hB : B = true := by rw [← HBB.out]; simp; omega
            have h5 : ((bn : Int) == 0) = true := by rw [h4]; rfl
            go_wp2_with fail
            go_quiet (fail)
            go_wp2_with fail
            go_meet
            exact ⟨by rw [hB], _, rfl⟩
          · have hB : B = false := by rw [← HBB.out]; simp; omega
            have h5 : ((bn : Int) == 0) = false := by rw [beq_eq_false_iff_ne]; omega
            go_wp2_with fail
            go_quiet (fail)
            go_wp2_with fail
            go_meet
            exact ⟨by rw [hB]; congr 1; simp; omega, _, rfl⟩
  case rest =>
    obtain ⟨rfl, m0, rfl⟩ := hcut
    cases B with
    | true =>
      go_wp2_with fail
      go_returns
      exact ⟨rb rfl HU2.out.symm, (Keeps.refl _ _).drewN _⟩
    | false =>
      have HU3 : Hid (f.formOk = f.bl.all (fun x => !x.l.isEmpty && formRow R bn x.l)) := HU2
      clear HU2 HBB
      go_wp2_with fail
      go_loopg [43] bn (fun g v wr => ∃ i : Nat, v = .int .i64 (i : Int) ∧ i ≤ bn ∧ g = bn - i ∧ Hid ((f.bl.take i).all (fun x => !x.l.isEmpty && formRow R bn x.l) = true) ∧ Hid (Keeps No w wr))
      case atStart => exact ⟨0, rfl, Nat.zero_le _, rfl, Lib.hid rfl, Lib.hid ((Keeps.refl _ _).drewN _)⟩
      case round =>
        obtain ⟨i, rfl, hi, hg, HE, HK⟩ := hrel
        by_cases hlt : i < bn
        · have hlt' : (i : Int) < (bn : Int) := by omega
          have i0 : (0 : Int) ≤ (i : Int) := by omega
          obtain ⟨bb, bo, z, hz, ha, cb, hbz⟩ := Fx.get HOK.out (i := i) (by rw [HBN.out]; exact hlt)
          obtain rfl := HA.out.symm.trans ha
          have cb := HK.out.cell0 cb
          have d1 := HK.out.cell0 c1
          have d2 := HK.out.cell0 c2
          have d4 := HK.out.cell0 c4
          have hzc := hbz.cap
          unfold maxLen at hzc
          have HZ := Lib.hid hz
          have HBZ := Lib.hid hbz
          clear hz hbz
          obtain ⟨za, zn, zc, zl⟩ := z
          simp only [Bx.v] at cb hzc
          by_cases hzn : zn = 0
          · have h5 : ((zn : Int) == 0) = true := by rw [hzn]; rfl
            have HF : Hid (f.formOk = false) := Lib.hid (by
              rw [HU3.out, List.all_eq_false]; refine ⟨_, List.mem_of_getElem? HZ.out, ?_⟩
              have := HBZ.out.len; simp only at this
              have : zl = [] := List.length_eq_zero_iff.1 (by omega)
              simp [this])
            go_wp2_with fail
            go_returns
            exact ⟨rb rfl HF.out.symm, HK.out⟩
          · have h5 : ((zn : Int) == 0) = false := by rw [beq_eq_false_iff_ne]; omega
            go_wp2_with fail
            go_loopg [59] zn (fun g v wr2 => ∃ k : Nat, v = .int .i64 (k : Int) ∧ k ≤ zn ∧ g = zn - k ∧ Hid (∀ j y, j < k → zl[j]? = some y → y.formOk R bn (decide (j + 1 = zl.length)) = true) ∧ Hid (Keeps No w wr2))
            case atStart => exact ⟨0, rfl, Nat.zero_le _, rfl, Lib.hid (fun j y hj => by omega), HK⟩
            case round =>
              obtain ⟨k, rfl, hk, hg2, HE2, HK2⟩ := hrel
              by_cases hlk : k < zn
              · have hlk' : (k : Int) < (zn : Int) := by omega
                have k0 : (0 : Int) ≤ (k : Int) := by omega
                obtain ⟨zb, zo, y, hy, hya, hyt, hyo⟩ := Bx.get HBZ.out hlk
                simp only at hya hy
                subst hya
                have HY := Lib.hid hy
                have hyt' := Lib.hid (fun (W : World) (h : Keeps No w W) => hyt.no h)
                have hyo' := Lib.hid (fun (W : World) (h : Keeps No w W) => hyo.no h)
                have HYT := Lib.hid (hyt.no HK2.out)
                have HYO := Lib.hid (hyo.no HK2.out)
                have y0 := HYT.out 0 _ rfl
                rw [Nat.add_zero] at y0
                clear hy hyt hyo
                have HF : y.formOk R bn (decide (k + 1 = zl.length)) = false → f.formOk = false := fun h => by
                  rw [HU3.out, List.all_eq_false]; refine ⟨_, List.mem_of_getElem? HZ.out, ?_⟩
                  rw [formRow_false R bn zl k y HY.out h]; simp
                have HF := Lib.hid HF
                have hzl : zl.length = zn := HBZ.out.len
                by_cases h6 : y.op < 1
                · have HG : Hid (f.formOk = false) := Lib.hid (HF.out (by unfold Ix.formOk; simp; omega))
                  go_wp2_with fail
                  go_returns
                  exact ⟨rb rfl HG.out.symm, HK2.out⟩
                · by_cases h7 : y.op ≥ 22
                  · have HG : Hid (f.formOk = false) := Lib.hid (HF.out (by unfold Ix.formOk; simp; omega))
                    go_wp2_with fail
                    go_returns
                    exact ⟨rb rfl HG.out.symm, HK2.out⟩
                  · obtain ⟨EE, hEE⟩ : ∃ EE, endsI y.op = EE := ⟨_, rfl⟩
                    have HEN := Lib.hid (fun W => ends_any y.op W)
                    rw [hEE] at HEN
                    have k1 : IntKind.i64.wrap ((zn : Int) - 1) = (zn : Int) - 1 := by rw [IntKind.wrap_i64]; omega
                    obtain ⟨LL, hLL⟩ : ∃ LL, decide (k + 1 = zn) = LL := ⟨_, rfl⟩
                    have k2 : ((k : Int) == (zn : Int) - 1) = LL := by
                      rw [← hLL]
                      by_cases h : k + 1 = zn
                      · rw [decide_eq_true h, beq_iff_eq]; omega
                      · rw [decide_eq_false h, beq_eq_false_iff_ne]; omega
                    have HFO : Hid (y.formOk R bn (decide (k + 1 = zl.length)) = ((EE == LL) && y.regsOk R && y.leadsOk bn)) := Lib.hid (by
                      unfold Ix.formOk; rw [hzl, hEE, hLL, decide_eq_true (by omega), decide_eq_true (by omega)]; rfl)
                    clear hEE hLL
                    go_upto_region 13 with fail
                    go_cut [89] (fun v wx => v = .bool (EE != LL) ∧ wr = wx)
                    case first =>
                      go_wp2_with (go_at_call 58; refine (HEN.out _).mono ?_; rintro e w' ⟨rfl, rfl⟩)
                      go_meet
                      refine ⟨?_, rfl⟩
                      rfl
                    case rest =>
                      obtain ⟨rfl, rfl⟩ := hcut
                      by_cases hEL : EE = LL
                      · subst hEL
                        have hb : (EE != EE) = false := by simp
                        rw [hb]
                        obtain ⟨RO, hRO⟩ : ∃ RO, y.regsOk R = RO := ⟨_, rfl⟩
                        obtain ⟨LO, hLO⟩ : ∃ LO, y.leadsOk bn = LO := ⟨_, rfl⟩
                        have HRG := Lib.hid (fun W (h : Keeps No w W) => registers_any f y fb fo zb (zo + k * 11) W (HFT.out.no h) (hyt'.out _ h) (hyo'.out _ h))
                        have HLD := Lib.hid (fun W (h : Keeps No w W) => leads_any f y fb fo zb (zo + k * 11) W (HFT.out.no h) (hyt'.out _ h) (hyo'.out _ h) (by rw [HBN.out]; unfold maxLen; omega))
                        rw [HRR.out, hRO] at HRG
                        rw [HBN.out, hLO] at HLD
                        rw [hRO, hLO] at HFO
                        go_wp2_with fail
                        refine (HRG.out _ HK2.out).mono ?_
                        rintro e w' ⟨rfl, hg1⟩
                        have HK3 := Lib.hid (HK2.out.trans hg1 (fun _ _ h => h))
                        clear hg1
                        cases RO with
                        | false =>
                          have HG : Hid (f.formOk = false) := Lib.hid (HF.out (by rw [HFO.out]; simp))
                          go_wp2_with fail
                          go_returns
                          exact ⟨rb rfl HG.out.symm, HK3.out⟩
                        | true =>
                          go_wp2_with fail
                          refine (HLD.out _ HK3.out).mono ?_
                          rintro e w'' ⟨rfl, m1, rfl⟩
                          have HK4 := Lib.hid (HK3.out.drewN m1)
                          cases LO with
                          | false =>
                            have HG : Hid (f.formOk = false) := Lib.hid (HF.out (by rw [HFO.out]; simp))
                            go_wp2_with fail
                            go_returns
                            exact ⟨rb rfl HG.out.symm, HK4.out⟩
                          | true =>
                            go_wp2_with fail
                            go_roundg (zn - (k + 1))
                            case rel => exact ⟨k + 1, by go_num, by omega, rfl, Lib.hid (fun j u hj hu => by
                              by_cases hjk : j < k
                              · exact HE2.out j u hjk hu
                              · obtain rfl : j = k := by omega
                                have : u = y := by have h := HY.out; rw [hu] at h; exact Option.some.inj h
                                subst this
                                rw [HFO.out]; simp), HK4⟩
                            case measure => omega
                      · have hb : (EE != LL) = true := bne_iff_ne.2 hEL
                        rw [hb]
                        have HG : Hid (f.formOk = false) := Lib.hid (HF.out (by rw [HFO.out]; have : (EE == LL) = false := beq_eq_false_iff_ne.2 hEL; rw [this]; rfl))
                        go_wp2_with fail
                        go_returns
                        exact ⟨rb rfl HG.out.symm, HK2.out⟩
              · obtain rfl : k = zn := by omega
                have hlk' : ¬ (k : Int) < (k : Int) := by omega
                go_wp2_with fail
                go_roundg (bn - (i + 1))
                case rel => exact ⟨i + 1, by go_num, by omega, rfl, Lib.hid (by
                  obtain ⟨h1, h2⟩ := List.getElem?_eq_some_iff.1 HZ.out
                  rw [List.take_succ_eq_append_getElem h1, List.all_append, HE.out, h2]
                  have hl := HBZ.out.len
                  simp only at hl
                  have hr := formRow_true R bn zl (fun j y hy => HE2.out j y (by have := (List.getElem?_eq_some_iff.1 hy).1; omega) hy)
                  cases zl with
                  | nil => simp at hl; omega
                  | cons a t => simp [hr]), HK2⟩
                case measure => omega
        · obtain rfl : i = bn := by omega
          have hlt' : ¬ (i : Int) < (i : Int) := by omega
          go_wp2_with fail
          go_returns
          exact ⟨rb rfl (by rw [HU3.out]; have h := HE.out; rw [List.take_of_length_le (by have := HOK.out.len; have := HBN.out; omega)] at h; exact h.symm), HK.out⟩
end Go.Proofs.YtkiimljdoebclaaDoor
