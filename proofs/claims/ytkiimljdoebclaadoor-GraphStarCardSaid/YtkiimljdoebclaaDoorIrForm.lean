/- What may be: registers, leads, Form. -/
import Derived.Test.YtkiimljdoebclaaDoorIrP
namespace Go.Proofs.YtkiimljdoebclaaDoor
open Go.RowKit
set_option linter.unusedVariables false
set_option linter.unusedSimpArgs false

theorem hasreg_any (r R : Int) (q b off : Nat) (w : World) (h0 : w.cell? ⟨q, 0, none⟩ = some (.pointer (some ⟨b, off, none⟩))) (h1 : w.cell? ⟨b, off + 2, none⟩ = some (.int .i64 R)) :
    Calls Tryd.prog 69 #[.int .i64 r, .pointer (some ⟨q, 0, none⟩)] w fun e w' => e = .returned (.bool (hasReg R r)) ∧ w' = w := by
  unfold hasReg
  go_enter Tryd.func69, Tryd.ntmps69
  go_wp2_with fail
  all_goals (go_returns; exact ⟨rb rfl (by simp_all; try omega), rfl⟩)
set_option maxRecDepth 100000 in
set_option maxHeartbeats 12800000 in
theorem registers_any (f : Fx) (x : Ix) (fb fo b off : Nat) (w : World) (hf : f.at_ w fb fo) (hx : x.at_ w b off) (hok : IxOk w x) :
    Calls Tryd.prog 59 #[.pointer (some ⟨fb, fo, none⟩), .pointer (some ⟨b, off, none⟩)] w fun e w' => e = .returned (.bool (x.regsOk f.regs)) ∧ Keeps No w w' := by
  have HAT := Lib.hid hx
  have HFT := Lib.hid hf
  have HOK := Lib.hid hok
  obtain ⟨RA, hRA⟩ : ∃ R, readsAI x.op x.a = R := ⟨_, rfl⟩
  obtain ⟨RB, hRB⟩ : ∃ R, readsBI x.op = R := ⟨_, rfl⟩
  obtain ⟨WD, hWD⟩ : ∃ R, writesI x.op x.d = R := ⟨_, rfl⟩
  obtain ⟨CC, hCC⟩ : ∃ R, callsI x.op = R := ⟨_, rfl⟩
  obtain ⟨XA, hXA⟩ : ∃ R, hasReg f.regs x.a = R := ⟨_, rfl⟩
  obtain ⟨XB, hXB⟩ : ∃ R, hasReg f.regs x.b = R := ⟨_, rfl⟩
  obtain ⟨XD, hXD⟩ : ∃ R, hasReg f.regs x.d = R := ⟨_, rfl⟩
  have HU : Hid (x.regsOk f.regs = (!(RA && !XA) && !(RB && !XB) && !(WD && !XD) && (!CC || x.args.l.all (hasReg f.regs)))) := Lib.hid (by unfold Ix.regsOk; rw [hRA, hRB, hWD, hCC, hXA, hXB, hXD])
  obtain ⟨W1, hW1⟩ : ∃ W1, w.alloc (.cells #[.pointer (some ⟨fb, fo, none⟩)] 69) = W1 := ⟨_, rfl⟩
  have hk1 : Keeps No w W1 := by rw [← hW1]; exact (Keeps.refl _ _).alloc _
  have hq : W1.cell? ⟨w.heap.size, 0, none⟩ = some (.pointer (some ⟨fb, fo, none⟩)) := by rw [← hW1, World.cell?_alloc_at _ _ _ _ rfl]; rfl
  have HQ := Lib.hid hq
  have HR := Lib.hid (hk1.cell0 (hf 2 _ rfl))
  have HA := Lib.hid (readsA_any x b off W1 (hx.no hk1))
  have HB := Lib.hid (readsB_any x b off W1 (hx.no hk1))
  have HD := Lib.hid (writes_any x b off W1 (hx.no hk1))
  have HC := Lib.hid (calls_any x.op W1)
  have HX := Lib.hid (fun r => hasreg_any r f.regs w.heap.size fb fo W1 HQ.out HR.out)
  have HXA := Lib.hid (HX.out x.a)
  have HXB := Lib.hid (HX.out x.b)
  have HXD := Lib.hid (HX.out x.d)
  rw [hRA] at HA; rw [hRB] at HB; rw [hWD] at HD; rw [hCC] at HC; rw [hXA] at HXA; rw [hXB] at HXB; rw [hXD] at HXD
  have c0 := hk1.cell0 (hx 0 _ rfl)
  have c2 := hk1.cell0 (hx 2 _ rfl)
  have c3 := hk1.cell0 (hx 3 _ rfl)
  have c4 := hk1.cell0 (hx 4 _ rfl)
  have c8 := hk1.cell0 (hx 8 _ rfl)
  rw [Nat.add_zero] at c0
  have HK := Lib.hid hk1
  have HW := Lib.hid hW1
  clear hx hf hok hRA hRB hWD hCC hXA hXB hXD hk1 hq hW1
  go_enter Tryd.func59, Tryd.ntmps59
  go_upto_region 2 with fail
  rw [HW.out]
  clear HW
  go_cut [45] (fun v wx => v = .bool ((RA && !XA) || (RB && !XB) || (WD && !XD)) ∧ W1 = wx)
  case first =>
    cases RA with
    | false =>
      cases RB with
      | false =>
        cases WD with
        | false =>
          go_wp2_with (first | (go_at_call 70; refine HA.out.mono ?_; rintro e w' ⟨rfl, rfl⟩) | (go_at_call 71; refine HB.out.mono ?_; rintro e w' ⟨rfl, rfl⟩) | (go_at_call 72; refine HD.out.mono ?_; rintro e w' ⟨rfl, rfl⟩) | (go_at_call 69; (first | (with_reducible refine HXA.out.mono ?_) | (with_reducible refine HXB.out.mono ?_) | (with_reducible refine HXD.out.mono ?_)); rintro e w' ⟨rfl, rfl⟩))
          go_meet
          exact ⟨congrArg Value.bool (by simp), rfl⟩
        | true =>
          cases XD with
          | false =>
            go_wp2_with (first | (go_at_call 70; refine HA.out.mono ?_; rintro e w' ⟨rfl, rfl⟩) | (go_at_call 71; refine HB.out.mono ?_; rintro e w' ⟨rfl, rfl⟩) | (go_at_call 72; refine HD.out.mono ?_; rintro e w' ⟨rfl, rfl⟩) | (go_at_call 69; (first | (with_reducible refine HXA.out.mono ?_) | (with_reducible refine HXB.out.mono ?_) | (with_reducible refine HXD.out.mono ?_)); rintro e w' ⟨rfl, rfl⟩))
            go_meet
            exact ⟨congrArg Value.bool (by simp), rfl⟩
          | true =>
            go_wp2_with (first | (go_at_call 70; refine HA.out.mono ?_; rintro e w' ⟨rfl, rfl⟩) | (go_at_call 71; refine HB.out.mono ?_; rintro e w' ⟨rfl, rfl⟩) | (go_at_call 72; refine HD.out.mono ?_; rintro e w' ⟨rfl, rfl⟩) | (go_at_call 69; (first | (with_reducible refine HXA.out.mono ?_) | (with_reducible refine HXB.out.mono ?_) | (with_reducible refine HXD.out.mono ?_)); rintro e w' ⟨rfl, rfl⟩))
            go_meet
            exact ⟨congrArg Value.bool (by simp), rfl⟩
      | true =>
        cases XB with
        | false =>
          go_wp2_with (first | (go_at_call 70; refine HA.out.mono ?_; rintro e w' ⟨rfl, rfl⟩) | (go_at_call 71; refine HB.out.mono ?_; rintro e w' ⟨rfl, rfl⟩) | (go_at_call 72; refine HD.out.mono ?_; rintro e w' ⟨rfl, rfl⟩) | (go_at_call 69; (first | (with_reducible refine HXA.out.mono ?_) | (with_reducible refine HXB.out.mono ?_) | (with_reducible refine HXD.out.mono ?_)); rintro e w' ⟨rfl, rfl⟩))
          go_meet
          exact ⟨congrArg Value.bool (by simp), rfl⟩
        | true =>
          cases WD with
          | false =>
            go_wp2_with (first | (go_at_call 70; refine HA.out.mono ?_; rintro e w' ⟨rfl, rfl⟩) | (go_at_call 71; refine HB.out.mono ?_; rintro e w' ⟨rfl, rfl⟩) | (go_at_call 72; refine HD.out.mono ?_; rintro e w' ⟨rfl, rfl⟩) | (go_at_call 69; (first | (with_reducible refine HXA.out.mono ?_) | (with_reducible refine HXB.out.mono ?_) | (with_reducible refine HXD.out.mono ?_)); rintro e w' ⟨rfl, rfl⟩))
            go_meet
            exact ⟨congrArg Value.bool (by simp), rfl⟩
          | true =>
            cases XD with
            | false =>
              go_wp2_with (first | (go_at_call 70; refine HA.out.mono ?_; rintro e w' ⟨rfl, rfl⟩) | (go_at_call 71; refine HB.out.mono ?_; rintro e w' ⟨rfl, rfl⟩) | (go_at_call 72; refine HD.out.mono ?_; rintro e w' ⟨rfl, rfl⟩) | (go_at_call 69; (first | (with_reducible refine HXA.out.mono ?_) | (with_reducible refine HXB.out.mono ?_) | (with_reducible refine HXD.out.mono ?_)); rintro e w' ⟨rfl, rfl⟩))
              go_meet
              exact ⟨congrArg Value.bool (by simp), rfl⟩
            | true =>
              go_wp2_with (first | (go_at_call 70; refine HA.out.mono ?_; rintro e w' ⟨rfl, rfl⟩) | (go_at_call 71; refine HB.out.mono ?_; rintro e w' ⟨rfl, rfl⟩) | (go_at_call 72; refine HD.out.mono ?_; rintro e w' ⟨rfl, rfl⟩) | (go_at_call 69; (first | (with_reducible refine HXA.out.mono ?_) | (with_reducible refine HXB.out.mono ?_) | (with_reducible refine HXD.out.mono ?_)); rintro e w' ⟨rfl, rfl⟩))
              go_meet
              exact ⟨congrArg Value.bool (by simp), rfl⟩
    | true =>
      cases XA with
      | false =>
        go_wp2_with (first | (go_at_call 70; refine HA.out.mono ?_; rintro e w' ⟨rfl, rfl⟩) | (go_at_call 71; refine HB.out.mono ?_; rintro e w' ⟨rfl, rfl⟩) | (go_at_call 72; refine HD.out.mono ?_; rintro e w' ⟨rfl, rfl⟩) | (go_at_call 69; (first | (with_reducible refine HXA.out.mono ?_) | (with_reducible refine HXB.out.mono ?_) | (with_reducible refine HXD.out.mono ?_)); rintro e w' ⟨rfl, rfl⟩))
        go_meet
        exact ⟨congrArg Value.bool (by simp), rfl⟩
      | true =>
        cases RB with
        | false =>
          cases WD with
          | false =>
            go_wp2_with (first | (go_at_call 70; refine HA.out.mono ?_; rintro e w' ⟨rfl, rfl⟩) | (go_at_call 71; refine HB.out.mono ?_; rintro e w' ⟨rfl, rfl⟩) | (go_at_call 72; refine HD.out.mono ?_; rintro e w' ⟨rfl, rfl⟩) | (go_at_call 69; (first | (with_reducible refine HXA.out.mono ?_) | (with_reducible refine HXB.out.mono ?_) | (with_reducible refine HXD.out.mono ?_)); rintro e w' ⟨rfl, rfl⟩))
            go_meet
            exact ⟨congrArg Value.bool (by simp), rfl⟩
          | true =>
            cases XD with
            | false =>
              go_wp2_with (first | (go_at_call 70; refine HA.out.mono ?_; rintro e w' ⟨rfl, rfl⟩) | (go_at_call 71; refine HB.out.mono ?_; rintro e w' ⟨rfl, rfl⟩) | (go_at_call 72; refine HD.out.mono ?_; rintro e w' ⟨rfl, rfl⟩) | (go_at_call 69; (first | (with_reducible refine HXA.out.mono ?_) | (with_reducible refine HXB.out.mono ?_) | (with_reducible refine HXD.out.mono ?_)); rintro e w' ⟨rfl, rfl⟩))
              go_meet
              exact ⟨congrArg Value.bool (by simp), rfl⟩
            | true =>
              go_wp2_with (first | (go_at_call 70; refine HA.out.mono ?_; rintro e w' ⟨rfl, rfl⟩) | (go_at_call 71; refine HB.out.mono ?_; rintro e w' ⟨rfl, rfl⟩) | (go_at_call 72; refine HD.out.mono ?_; rintro e w' ⟨rfl, rfl⟩) | (go_at_call 69; (first | (with_reducible refine HXA.out.mono ?_) | (with_reducible refine HXB.out.mono ?_) | (with_reducible refine HXD.out.mono ?_)); rintro e w' ⟨rfl, rfl⟩))
              go_meet
              exact ⟨congrArg Value.bool (by simp), rfl⟩
        | true =>
          cases XB with
          | false =>
            go_wp2_with (first | (go_at_call 70; refine HA.out.mono ?_; rintro e w' ⟨rfl, rfl⟩) | (go_at_call 71; refine HB.out.mono ?_; rintro e w' ⟨rfl, rfl⟩) | (go_at_call 72; refine HD.out.mono ?_; rintro e w' ⟨rfl, rfl⟩) | (go_at_call 69; (first | (with_reducible refine HXA.out.mono ?_) | (with_reducible refine HXB.out.mono ?_) | (with_reducible refine HXD.out.mono ?_)); rintro e w' ⟨rfl, rfl⟩))
            go_meet
            exact ⟨congrArg Value.bool (by simp), rfl⟩
          | true =>
            cases WD with
            | false =>
              go_wp2_with (first | (go_at_call 70; refine HA.out.mono ?_; rintro e w' ⟨rfl, rfl⟩) | (go_at_call 71; refine HB.out.mono ?_; rintro e w' ⟨rfl, rfl⟩) | (go_at_call 72; refine HD.out.mono ?_; rintro e w' ⟨rfl, rfl⟩) | (go_at_call 69; (first | (with_reducible refine HXA.out.mono ?_) | (with_reducible refine HXB.out.mono ?_) | (with_reducible refine HXD.out.mono ?_)); rintro e w' ⟨rfl, rfl⟩))
              go_meet
              exact ⟨congrArg Value.bool (by simp), rfl⟩
            | true =>
              cases XD with
              | false =>
                go_wp2_with (first | (go_at_call 70; refine HA.out.mono ?_; rintro e w' ⟨rfl, rfl⟩) | (go_at_call 71; refine HB.out.mono ?_; rintro e w' ⟨rfl, rfl⟩) | (go_at_call 72; refine HD.out.mono ?_; rintro e w' ⟨rfl, rfl⟩) | (go_at_call 69; (first | (with_reducible refine HXA.out.mono ?_) | (with_reducible refine HXB.out.mono ?_) | (with_reducible refine HXD.out.mono ?_)); rintro e w' ⟨rfl, rfl⟩))
                go_meet
                exact ⟨congrArg Value.bool (by simp), rfl⟩
              | true =>
                go_wp2_with (first | (go_at_call 70; refine HA.out.mono ?_; rintro e w' ⟨rfl, rfl⟩) | (go_at_call 71; refine HB.out.mono ?_; rintro e w' ⟨rfl, rfl⟩) | (go_at_call 72; refine HD.out.mono ?_; rintro e w' ⟨rfl, rfl⟩) | (go_at_call 69; (first | (with_reducible refine HXA.out.mono ?_) | (with_reducible refine HXB.out.mono ?_) | (with_reducible refine HXD.out.mono ?_)); rintro e w' ⟨rfl, rfl⟩))
                go_meet
                exact ⟨congrArg Value.bool (by simp), rfl⟩
  case rest =>
    obtain ⟨rfl, rfl⟩ := hcut
    obtain ⟨BD, hBD⟩ : ∃ BD, ((RA && !XA) || (RB && !XB) || (WD && !XD)) = BD := ⟨_, rfl⟩
    have HU2 : Hid (x.regsOk f.regs = (!BD && (!CC || x.args.l.all (hasReg f.regs)))) := Lib.hid (by rw [HU.out, ← hBD]; simp [Bool.not_or])
    rw [hBD]
    clear hBD HU HA HB HD HXA HXB HXD
    cases BD with
    | true =>
      go_wp2_with fail
      go_returns
      exact ⟨rb rfl (by rw [HU2.out]; rfl), HK.out⟩
    | false =>
      go_wp2_with fail
      refine (HC.out).mono ?_
      rintro e w' ⟨rfl, rfl⟩
      cases CC with
      | false =>
        go_wp2_with fail
        go_returns
        exact ⟨rb rfl (by rw [HU2.out]; rfl), HK.out⟩
      | true =>
        go_wp2_with fail
        have hcap := HOK.out.args.cap
        unfold maxLen at hcap
        obtain ⟨A, hA⟩ : ∃ A, x.args.a = A := ⟨_, rfl⟩
        simp only [Sl.v]
        rw [hA]
        go_loopg [56] x.args.n (fun g v wr => ∃ i : Nat, v = .int .i64 (i : Int) ∧ i ≤ x.args.n ∧ g = x.args.n - i ∧ Hid ((x.args.l.take i).all (hasReg f.regs) = true) ∧ w' = wr)
        case atStart => exact ⟨0, rfl, Nat.zero_le _, rfl, Lib.hid rfl, rfl⟩
        case round =>
          obtain ⟨i, rfl, hi, hg, HE, rfl⟩ := hrel
          by_cases hlt : i < x.args.n
          · have hlt' : (i : Int) < (x.args.n : Int) := by omega
            have i0 : (0 : Int) ≤ (i : Int) := by omega
            obtain ⟨ab, ao, z, hz, ha, c1⟩ := HOK.out.args.get hlt
            have ca := HK.out.cell0 c1
            obtain rfl := hA.symm.trans ha
            have HZ := Lib.hid hz
            clear hz c1
            obtain ⟨Z, hZ⟩ : ∃ Z, hasReg f.regs z = Z := ⟨_, rfl⟩
            have HXZ := Lib.hid (HX.out z)
            rw [hZ] at HXZ
            have HZZ := Lib.hid hZ
            clear hZ
            go_wp2_with fail
            refine HXZ.out.mono ?_
            rintro e w'' ⟨rfl, rfl⟩
            cases Z with
            | false =>
              have HF : Hid (x.args.l.all (hasReg f.regs) = false) := Lib.hid (by
                rw [List.all_eq_false]; exact ⟨z, List.mem_of_getElem? HZ.out, by rw [HZZ.out]; decide⟩)
              go_wp2_with fail
              go_returns
              exact ⟨rb rfl (by rw [HU2.out, HF.out]; rfl), HK.out⟩
            | true =>
              go_wp2_with fail
              go_roundg (x.args.n - (i + 1))
              case rel => exact ⟨i + 1, by go_num, by omega, rfl, Lib.hid (by
                obtain ⟨h1, h2⟩ := List.getElem?_eq_some_iff.1 HZ.out
                rw [List.take_succ_eq_append_getElem h1, List.all_append, HE.out, h2]; simp [HZZ.out]), rfl⟩
              case measure => omega
          · obtain rfl : i = x.args.n := by omega
            have hlt' : ¬ (x.args.n : Int) < (x.args.n : Int) := by omega
            go_wp2_with fail
            go_returns
            exact ⟨rb rfl (by rw [HU2.out]; have h := HE.out; rw [List.take_of_length_le (by have := HOK.out.args.len; omega)] at h; rw [h]; rfl), HK.out⟩
end Go.Proofs.YtkiimljdoebclaaDoor
