/- The document's May: its leaves (Ends, Many, Odd). -/
import Derived.Test.YtpjilcfmcbapcaaDoorLtRows
import Derived.Test.YtpjilcfmcbapcaaDoorLvIn
namespace Go.Proofs.YtpjilcfmcbapcaaDoor
open Go.RowKit
set_option linter.unusedVariables false
set_option linter.unusedSimpArgs false

set_option maxHeartbeats 1600000 in
theorem rends_any (op : Int) (w : World) : Calls Tryd.prog 34 #[.int .i64 op] w fun e w' => e = .returned (.bool (endsI op)) ∧ Keeps No w w' := by
  have HE : Hid (endsI op = (decide (14 ≤ op) && decide (op ≤ 21))) := Lib.hid rfl
  by_cases h1 : op ≥ 14
  · have HE2 : Hid (endsI op = decide (op ≤ 21)) := Lib.hid (by rw [HE.out, decide_eq_true h1, Bool.true_and])
    go_enter Tryd.func34, Tryd.ntmps34
    go_wp2_with fail
    go_returns
    exact ⟨rb rfl HE2.out.symm, Keeps.refl _ _⟩
  · have HE2 : Hid (endsI op = false) := Lib.hid (by rw [HE.out, decide_eq_false h1, Bool.false_and])
    go_enter Tryd.func34, Tryd.ntmps34
    go_wp2_with fail
    go_returns
    exact ⟨rb rfl HE2.out.symm, Keeps.refl _ _⟩
set_option maxHeartbeats 1600000 in
theorem rmany_any (x : Ix) (w : World) (hc : x.cases_.n ≤ 1000000) : Calls Tryd.prog 36 #[ia x] w fun e w' => e = .returned (.int .i64 (x.many.getD (-1))) ∧ Keeps No w w' := by
  have HM : Hid (x.many = if x.op = 14 then some 1 else if x.op = 15 then some 2 else if x.op = 16 then some ((x.cases_.n : Int) + 1) else none) := Lib.hid rfl
  by_cases h14 : x.op = 14
  · go_enter Tryd.func36, Tryd.ntmps36
    go_wp2_with fail
    go_returns
    exact ⟨ri rfl (by rw [HM.out, if_pos h14]; rfl), (Keeps.refl _ _).alloc _⟩
  by_cases h15 : x.op = 15
  · go_enter Tryd.func36, Tryd.ntmps36
    go_wp2_with fail
    go_returns
    exact ⟨ri rfl (by rw [HM.out, if_neg h14, if_pos h15]; rfl), (Keeps.refl _ _).alloc _⟩
  by_cases h16 : x.op = 16
  · have HMM : Hid (x.many = some ((x.cases_.n : Int) + 1)) := Lib.hid (by rw [HM.out, if_neg h14, if_neg h15, if_pos h16])
    go_enter Tryd.func36, Tryd.ntmps36
    go_wp2_with fail
    go_returns
    exact ⟨ri rfl (by rw [HMM.out]; show _ = (x.cases_.n : Int) + 1; go_num), (Keeps.refl _ _).alloc _⟩
  · have e1 : (x.op == 14) = false := beq_eq_false_iff_ne.2 h14
    have e2 : (x.op == 15) = false := beq_eq_false_iff_ne.2 h15
    have e3 : (x.op == 16) = false := beq_eq_false_iff_ne.2 h16
    have HMM : Hid (x.many = none) := Lib.hid (by rw [HM.out, if_neg h14, if_neg h15, if_neg h16])
    clear h14 h15 h16
    go_enter Tryd.func36, Tryd.ntmps36
    go_wp2_with fail
    go_returns
    exact ⟨ri rfl (by rw [HMM.out]; rfl), (Keeps.refl _ _).alloc _⟩
theorem writes_has (x : Ix) : writesI x.op x.d = (hasD x.op && !((x.d == -1) && ((x.op == 10) || (x.op == 11)))) := by
  unfold writesI hasD
  by_cases h10 : x.op = 10
  · rw [h10]; cases h : x.d == -1 <;> simp [bne, h]
  by_cases h11 : x.op = 11
  · rw [h11]; cases h : x.d == -1 <;> simp [bne, h]
  · have e1 : (x.op == 10) = false := beq_eq_false_iff_ne.2 h10
    have e2 : (x.op == 11) = false := beq_eq_false_iff_ne.2 h11
    rw [e1, e2]
    cases h1 : x.op == 1 <;> cases h2 : x.op == 2 <;> cases h3 : x.op == 3 <;> cases h4 : x.op == 4 <;> cases h5 : x.op == 5 <;> cases h7 : x.op == 7 <;> cases h8 : x.op == 8 <;> cases h9 : x.op == 9 <;> cases h12 : x.op == 12 <;> simp
set_option maxHeartbeats 3200000 in
theorem rodd_any (x : Ix) (R : Int) (w : World) : Calls Tryd.prog 33 #[ia x, .int .i64 R] w fun e w' => e = .returned (.bool (writesI x.op x.d && !(decide (0 ≤ x.d) && decide (x.d < R)))) ∧ Keeps No w w' := by
  obtain ⟨HD, hHD⟩ : ∃ h, hasD x.op = h := ⟨_, rfl⟩
  obtain ⟨HA, hHA⟩ : ∃ h, hasA x.op = h := ⟨_, rfl⟩
  obtain ⟨HB, hHB⟩ : ∃ h, hasB x.op = h := ⟨_, rfl⟩
  obtain ⟨HN, hHN⟩ : ∃ h, hasN x.op = h := ⟨_, rfl⟩
  have HW : Hid (writesI x.op x.d = (HD && !((x.d == -1) && ((x.op == 10) || (x.op == 11))))) := Lib.hid (by rw [← hHD]; exact writes_has x)
  have HH := Lib.hid (fun W => has_any x.op W)
  rw [hHD, hHA, hHB, hHN] at HH
  clear hHD hHA hHB hHN
  cases HD with
  | false =>
    go_enter Tryd.func33, Tryd.ntmps33
    go_wp2_with fail
    refine (HH.out _).mono ?_
    rintro e w1 ⟨rfl, rfl⟩
    go_wp2_with fail
    go_returns
    exact ⟨rb rfl (by rw [HW.out]; rfl), (Keeps.refl _ _).alloc _⟩
  | true =>
    by_cases hd : x.d = -1
    · have e0 : (x.d == -1) = true := beq_iff_eq.2 hd
      have d0 : decide (0 ≤ x.d) = false := decide_eq_false (by omega)
      have d1 : decide (x.d < 0) = true := decide_eq_true (by omega)
      by_cases h10 : x.op = 10
      · have e1 : (x.op == 10) = true := beq_iff_eq.2 h10
        have HV : Hid ((writesI x.op x.d && !(decide (0 ≤ x.d) && decide (x.d < R))) = false) := Lib.hid (by rw [HW.out, e0, e1]; rfl)
        clear hd h10 d0 d1
        go_enter Tryd.func33, Tryd.ntmps33
        go_wp2_with fail
        refine (HH.out _).mono ?_
        rintro e w1 ⟨rfl, rfl⟩
        go_wp2_with fail
        go_returns
        exact ⟨rb rfl HV.out.symm, (Keeps.refl _ _).alloc _⟩
      by_cases h11 : x.op = 11
      · have e1 : (x.op == 10) = false := beq_eq_false_iff_ne.2 h10
        have e2 : (x.op == 11) = true := beq_iff_eq.2 h11
        have HV : Hid ((writesI x.op x.d && !(decide (0 ≤ x.d) && decide (x.d < R))) = false) := Lib.hid (by rw [HW.out, e0, e1, e2]; rfl)
        clear hd h10 h11 d0 d1
        go_enter Tryd.func33, Tryd.ntmps33
        go_wp2_with fail
        refine (HH.out _).mono ?_
        rintro e w1 ⟨rfl, rfl⟩
        go_wp2_with fail
        go_returns
        exact ⟨rb rfl HV.out.symm, (Keeps.refl _ _).alloc _⟩
      · have e1 : (x.op == 10) = false := beq_eq_false_iff_ne.2 h10
        have e2 : (x.op == 11) = false := beq_eq_false_iff_ne.2 h11
        have HV : Hid ((writesI x.op x.d && !(decide (0 ≤ x.d) && decide (x.d < R))) = true) := Lib.hid (by rw [HW.out, e0, e1, e2, d0]; rfl)
        clear hd h10 h11 d0
        go_enter Tryd.func33, Tryd.ntmps33
        go_wp2_with fail
        refine (HH.out _).mono ?_
        rintro e w1 ⟨rfl, rfl⟩
        go_wp2_with fail
        go_returns
        exact ⟨rb rfl HV.out.symm, (Keeps.refl _ _).alloc _⟩
    · have e0 : (x.d == -1) = false := beq_eq_false_iff_ne.2 hd
      by_cases hl : x.d < 0
      · have HV : Hid ((writesI x.op x.d && !(decide (0 ≤ x.d) && decide (x.d < R))) = true) := Lib.hid (by rw [HW.out, e0, decide_eq_false (show ¬ 0 ≤ x.d by omega)]; rfl)
        have d1 : decide (x.d < 0) = true := decide_eq_true hl
        clear hd
        go_enter Tryd.func33, Tryd.ntmps33
        go_wp2_with fail
        refine (HH.out _).mono ?_
        rintro e w1 ⟨rfl, rfl⟩
        go_wp2_with fail
        go_returns
        exact ⟨rb rfl HV.out.symm, (Keeps.refl _ _).alloc _⟩
      · have d1 : decide (x.d < 0) = false := decide_eq_false hl
        have HV : Hid ((writesI x.op x.d && !(decide (0 ≤ x.d) && decide (x.d < R))) = decide (R ≤ x.d)) := Lib.hid (by
          rw [HW.out, e0, decide_eq_true (show 0 ≤ x.d by omega)]
          show (true && !(true && decide (x.d < R))) = _
          rw [Bool.true_and, Bool.true_and]
          by_cases h : x.d < R
          · rw [decide_eq_true h, decide_eq_false (by omega)]; rfl
          · rw [decide_eq_false h, decide_eq_true (by omega)]; rfl)
        clear hd
        go_enter Tryd.func33, Tryd.ntmps33
        go_wp2_with fail
        refine (HH.out _).mono ?_
        rintro e w1 ⟨rfl, rfl⟩
        go_wp2_with fail
        go_returns
        exact ⟨rb rfl HV.out.symm, (Keeps.refl _ _).alloc _⟩
end Go.Proofs.YtpjilcfmcbapcaaDoor
/- The document's May: an instruction's test, in the order in which the document makes it. -/
namespace Go.Proofs.YtpjilcfmcbapcaaDoor
open Go.RowKit
set_option linter.unusedVariables false
set_option linter.unusedSimpArgs false

def oddI (R : Int) (x : Ix) : Bool := writesI x.op x.d && !hasReg R x.d
def toOkI (n : Nat) (x : Ix) : Bool := (toI x).all (fun b => decide (0 ≤ b) && decide (b < (n : Int)))
def manyOkI (x : Ix) : Bool := match x.many with
  | none => true
  | some c => decide (((toI x).length : Int) = c)
/-- What the chain of tests in the middle says. -/
def midI (R : Int) (last : Bool) (x : Ix) : Bool := oddI R x || (endsI x.op != last) || decide (x.op < 1) || decide (22 ≤ x.op)
theorem regs_uses (R : Int) (x : Ix) : x.regsOk R = (x.uses.all (hasReg R) && !oddI R x) := by
  unfold Ix.regsOk oddI Ix.uses
  rw [List.all_append, List.all_append]
  have e : ∀ (c : Bool) (l : List Int), (if c = true then l else []).all (hasReg R) = (!c || l.all (hasReg R)) := fun c l => by cases c <;> simp
  rw [e, e, e]
  simp only [List.all_cons, List.all_nil, Bool.and_true]
  generalize readsAI x.op x.a = p
  generalize readsBI x.op = q
  generalize callsI x.op = r
  generalize writesI x.op x.d = s
  generalize hasReg R x.a = t
  generalize hasReg R x.b = u
  generalize hasReg R x.d = v
  generalize x.args.l.all (hasReg R) = y
  cases p <;> cases q <;> cases r <;> cases s <;> cases t <;> cases u <;> cases v <;> cases y <;> rfl
theorem leads_to (n : Nat) (x : Ix) (hl : x.to.l.length = x.to.n) : x.leadsOk n = (manyOkI x && toOkI n x) := by
  unfold Ix.leadsOk manyOkI toOkI toI
  by_cases h14 : x.op = 14
  · have e : x.many = some 1 := by unfold Ix.many; rw [if_pos h14]
    rw [e, if_pos (.inl h14), hl]
  by_cases h15 : x.op = 15
  · have e : x.many = some 2 := by unfold Ix.many; rw [if_neg h14, if_pos h15]
    rw [e, if_pos (.inr (.inl h15)), hl]
  by_cases h16 : x.op = 16
  · have e : x.many = some ((x.cases_.n : Int) + 1) := by unfold Ix.many; rw [if_neg h14, if_neg h15, if_pos h16]
    rw [e, if_pos (.inr (.inr h16)), hl]
  · have e : x.many = none := by unfold Ix.many; rw [if_neg h14, if_neg h15, if_neg h16]
    rw [e, if_neg (fun h => by rcases h with h | h | h <;> contradiction)]
    rfl
theorem form_may (R : Int) (n : Nat) (last : Bool) (x : Ix) (hl : x.to.l.length = x.to.n) : x.formOk R n last = (x.uses.all (hasReg R) && !midI R last x && manyOkI x && toOkI n x) := by
  unfold Ix.formOk midI
  rw [regs_uses, leads_to n x hl]
  have e1 : decide (1 ≤ x.op) = !decide (x.op < 1) := by by_cases h : x.op < 1 <;> simp [h] <;> omega
  have e2 : decide (x.op < 22) = !decide (22 ≤ x.op) := by by_cases h : 22 ≤ x.op <;> simp [h] <;> omega
  have e3 : (endsI x.op == last) = !(endsI x.op != last) := by cases endsI x.op <;> cases last <;> rfl
  rw [e1, e2, e3]
  cases decide (x.op < 1) <;> cases decide (22 ≤ x.op) <;> cases (endsI x.op != last) <;> cases oddI R x <;> cases x.uses.all (hasReg R) <;> cases manyOkI x <;> cases toOkI n x <;> rfl
end Go.Proofs.YtpjilcfmcbapcaaDoor
