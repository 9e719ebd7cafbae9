/- What may be: leads, Form. -/
import Derived.Test.YtkiimljdoebclaaDoorIrForm
import Derived.Deep.CutBlock
namespace Go.Proofs.YtkiimljdoebclaaDoor
open Go.RowKit
set_option linter.unusedVariables false
set_option linter.unusedSimpArgs false

set_option maxRecDepth 100000 in
set_option maxHeartbeats 12800000 in
theorem leads_any (f : Fx) (x : Ix) (fb fo b off : Nat) (w : World) (hf : f.at_ w fb fo) (hx : x.at_ w b off) (hok : IxOk w x) (hbn : f.bn ≤ maxLen) :
    Calls Tryd.prog 60 #[.pointer (some ⟨fb, fo, none⟩), .pointer (some ⟨b, off, none⟩)] w fun e w' => e = .returned (.bool (x.leadsOk f.bn)) ∧ ∃ m, w.drewN m = w' := by
  have HOK := Lib.hid hok
  have HF4 := Lib.hid (hf 4 _ rfl)
  have c0 := hx 0 _ rfl
  have c9 := hx 9 _ rfl
  have c10 := hx 10 _ rfl
  rw [Nat.add_zero] at c0
  unfold maxLen at hbn
  have hcap := hok.to.cap
  have hcap2 := hok.cases_.cap
  unfold maxLen at hcap hcap2
  clear hx hf hok
  by_cases hop : x.op = 14 ∨ x.op = 15 ∨ x.op = 16
  · obtain ⟨C, hC⟩ : ∃ C : Int, C = (if x.op = 14 then 1 else if x.op = 15 then 2 else IntKind.i64.wrap ((x.cases_.n : Int) + 1)) := ⟨_, rfl⟩
    have HL : Hid (x.leadsOk f.bn = (decide ((x.to.n : Int) = C) && x.to.l.all (fun b => decide (0 ≤ b) && decide (b < (f.bn : Int))))) := Lib.hid (by
      unfold Ix.leadsOk Ix.many; rw [hC]
      rcases hop with h | h | h
      · simp [h]
      · simp [h]
      · have e : decide ((x.to.n : Int) = (x.cases_.n : Int) + 1) = decide ((x.to.n : Int) = IntKind.i64.wrap ((x.cases_.n : Int) + 1)) := by
          by_cases hs : (x.cases_.n : Int) + 1 ≤ 9223372036854775807
          · rw [show IntKind.i64.wrap ((x.cases_.n : Int) + 1) = (x.cases_.n : Int) + 1 by rw [IntKind.wrap_i64]; omega]
          · have hn2 : (x.cases_.n : Int) = 9223372036854775807 := by omega
            rw [hn2]
            rw [show IntKind.i64.wrap ((9223372036854775807 : Int) + 1) = -9223372036854775808 by decide]
            rw [decide_eq_false (by omega), decide_eq_false (by omega)]
        simp [h, e])
    have HC := Lib.hid hC
    clear hC
    go_enter Tryd.func60, Tryd.ntmps60
    go_upto_block 0 with fail
    go_cut [5] (fun v wx => v = .int .i64 C ∧ w = wx)
    case first =>
      rcases hop with h | h | h
      · have e1 : (x.op == 14) = true := by rw [beq_iff_eq]; exact h
        have hC : C = 1 := by rw [HC.out]; simp [h]
        go_wp2_with fail
        go_meet
        exact ⟨by rw [hC], rfl⟩
      · have e1 : (x.op == 14) = false := by rw [h]; rfl
        have e2 : (x.op == 15) = true := by rw [h]; rfl
        have hC : C = 2 := by rw [HC.out]; simp [h]
        go_wp2_with fail
        go_meet
        exact ⟨by rw [hC], rfl⟩
      · have e1 : (x.op == 14) = false := by rw [h]; rfl
        have e2 : (x.op == 15) = false := by rw [h]; rfl
        have e3 : (x.op == 16) = true := by rw [h]; rfl
        have hC : C = IntKind.i64.wrap ((x.cases_.n : Int) + 1) := by rw [HC.out]; simp [h]
        go_wp2_with fail
        go_meet
        exact ⟨by rw [hC, IntWalk.i64_left], rfl⟩
    case rest =>
      obtain ⟨rfl, rfl⟩ := hcut
      by_cases hn : (x.to.n : Int) = C
      · have e4 : ((x.to.n : Int) != C) = false := by rw [hn]; simp
        have HL2 : Hid (x.leadsOk f.bn = x.to.l.all (fun b => decide (0 ≤ b) && decide (b < (f.bn : Int)))) := Lib.hid (by rw [HL.out, decide_eq_true hn, Bool.true_and])
        clear HL HC
        obtain ⟨fba, hfba⟩ : ∃ A, f.ba = A := ⟨_, rfl⟩
        obtain ⟨fbc, hfbc⟩ : ∃ A, f.bc = A := ⟨_, rfl⟩
        have cf4 := HF4.out
        rw [hfba, hfbc] at cf4
        go_wp2_with fail
        obtain ⟨A, hA⟩ : ∃ A, x.to.a = A := ⟨_, rfl⟩
        simp only [Sl.v]
        rw [hA]
        go_loopg [36] x.to.n (fun g v wr => ∃ i m : Nat, v = .int .i64 (i : Int) ∧ i ≤ x.to.n ∧ g = x.to.n - i ∧ Hid ((x.to.l.take i).all (fun b => decide (0 ≤ b) && decide (b < (f.bn : Int))) = true) ∧ w.drewN m = wr)
        case atStart => exact ⟨0, 0, rfl, Nat.zero_le _, rfl, Lib.hid rfl, rfl⟩
        case round =>
          obtain ⟨i, m, rfl, hi, hg, HE, rfl⟩ := hrel
          by_cases hlt : i < x.to.n
          · have hlt' : (i : Int) < (x.to.n : Int) := by omega
            have i0 : (0 : Int) ≤ (i : Int) := by omega
            obtain ⟨ab, ao, z, hz, ha, ca⟩ := HOK.out.to.get hlt
            obtain rfl := hA.symm.trans ha
            have HZ := Lib.hid hz
            clear hz
            by_cases hz0 : z < 0
            · have HF : Hid (x.to.l.all (fun b => decide (0 ≤ b) && decide (b < (f.bn : Int))) = false) := Lib.hid (by
                rw [List.all_eq_false]; exact ⟨z, List.mem_of_getElem? HZ.out, by simp; omega⟩)
              go_wp2_with fail
              go_returns
              exact ⟨rb rfl (by rw [HL2.out, HF.out]), m, rfl⟩
            · by_cases hz1 : z < (f.bn : Int)
              · have hz2 : ¬ (f.bn : Int) ≤ z := by omega
                go_wp2_with fail
                go_roundg (x.to.n - (i + 1))
                case rel => exact ⟨i + 1, m, by go_num, by omega, rfl, Lib.hid (by
                  obtain ⟨h1, h2⟩ := List.getElem?_eq_some_iff.1 HZ.out
                  rw [List.take_succ_eq_append_getElem h1, List.all_append, HE.out, h2]; simp; omega), rfl⟩
                case measure => omega
              · have hz2 : (f.bn : Int) ≤ z := by omega
                have HF : Hid (x.to.l.all (fun b => decide (0 ≤ b) && decide (b < (f.bn : Int))) = false) := Lib.hid (by
                  rw [List.all_eq_false]; exact ⟨z, List.mem_of_getElem? HZ.out, by simp; omega⟩)
                go_wp2_with fail
                go_returns
                exact ⟨rb rfl (by rw [HL2.out, HF.out]), m, rfl⟩
          · obtain rfl : i = x.to.n := by omega
            have hlt' : ¬ (x.to.n : Int) < (x.to.n : Int) := by omega
            go_wp2_with fail
            go_returns
            exact ⟨rb rfl (by rw [HL2.out]; have h := HE.out; rw [List.take_of_length_le (by have := HOK.out.to.len; omega)] at h; exact h.symm), m, rfl⟩
      · have e4 : ((x.to.n : Int) != C) = true := bne_iff_ne.2 hn
        go_wp2_with fail
        go_returns
        exact ⟨rb rfl (by rw [HL.out, decide_eq_false hn]; rfl), 0, rfl⟩
  · have HL : Hid (x.leadsOk f.bn = true) := Lib.hid (by
      unfold Ix.leadsOk Ix.many; simp only [not_or] at hop; simp [hop.1, hop.2.1, hop.2.2])
    simp only [not_or] at hop
    obtain ⟨h1, h2, h3⟩ := hop
    have e1 : (x.op == 14) = false := by rw [beq_eq_false_iff_ne]; exact h1
    have e2 : (x.op == 15) = false := by rw [beq_eq_false_iff_ne]; exact h2
    have e3 : (x.op == 16) = false := by rw [beq_eq_false_iff_ne]; exact h3
    go_enter Tryd.func60, Tryd.ntmps60
    go_wp2_with fail
    go_returns
    exact ⟨rb rfl HL.out.symm, 0, rfl⟩
end Go.Proofs.YtkiimljdoebclaaDoor
