/- What the scanner goes over between tokens: lines, blocks, all of it. -/
import Derived.Test.YtlpoahjgonjelaaLexLeaves
import Derived.Deep.LoopGhost
import Derived.IntWalk
namespace Go.Proofs.Ytlpoahjgonjelaa
open Go.RowKit
set_option linter.unusedVariables false

set_option maxHeartbeats 1000000 in
theorem skipLine_any (p : Nat) (s : ByteArray) (i : Nat) (hi : i ≤ s.size) (hs : s.size ≤ 4611686018427387904) (w0 w : World) (h : Sc p s i w0 w) :
    Calls Try.prog 22 #[.pointer (some ⟨p, 0, none⟩)] w fun e w' => e = .returned (.tuple #[]) ∧ Sc p s (Lx.lineEnd s i) w0 w' := by
  have HS := Lib.hid h
  clear h
  go_enter Try.func22, Try.ntmps22
  go_wp2_with fail
  go_loopg [] (s.size - i) (fun g wr => ∃ k f : Nat, k ≤ s.size ∧ g = s.size - k ∧ g ≤ f ∧ Hid (Lx.lineEnd s i = Lx.scan (Lx.lineP s) f k) ∧ Hid (Sc p s k w0 wr))
  case atStart => exact ⟨i, s.size, hi, rfl, by omega, Lib.hid rfl, HS⟩
  case round =>
    obtain ⟨k, f, hk, hg, hf, HE, H⟩ := hrel
    clear HS
    have c0 := H.out.c0
    have c1 := H.out.c1
    have f1 := H.out.f 1
    by_cases hlt : k < s.size
    · have hlt' : (k : Int) < (s.size : Int) := by omega
      have hp := Lx.pk_lt hlt
      by_cases h10 : (s[k].toNat : Int) = 10
      · have q1 : ((s[k].toNat : Int) != 10) = false := by simpa using h10
        have HE2 : Hid (Lx.lineEnd s i = k) := by
          rw [HE.out]; exact Lib.hid (Lx.scan_no (by unfold Lx.lineP; rw [hp, h10]; simp))
        clear hp h10 HE
        go_wp2_with fail
        go_quiet (fail)
        go_wp2_with fail
        go_end0
        refine ⟨rfl, ?_⟩
        rw [HE2.out]
        exact H.out.drewN _
      · have q1 : ((s[k].toNat : Int) != 10) = true := by simpa using h10
        by_cases h13 : (s[k].toNat : Int) = 13
        · have q2 : ((s[k].toNat : Int) != 13) = false := by simpa using h13
          have HE2 : Hid (Lx.lineEnd s i = k) := by
            rw [HE.out]; exact Lib.hid (Lx.scan_no (by unfold Lx.lineP; rw [hp, h13]; simp))
          clear hp h10 h13 HE
          go_wp2_with fail
          go_quiet (fail)
          go_wp2_with fail
          go_end0
          refine ⟨rfl, ?_⟩
          rw [HE2.out]
          exact H.out.drewN _
        · have q2 : ((s[k].toNat : Int) != 13) = true := by simpa using h13
          obtain ⟨f, rfl⟩ : ∃ f', f = f' + 1 := ⟨f - 1, by omega⟩
          have HE2 : Hid (Lx.lineEnd s i = Lx.scan (Lx.lineP s) f (k + 1)) := by
            rw [HE.out]; exact Lib.hid (Lx.scan_yes (by unfold Lx.lineP; rw [hp, decide_eq_true hlt]; simp [h10, h13]))
          clear hp h10 h13 HE
          go_wp2_with fail
          go_quiet (fail)
          go_wp2_with fail
          go_roundg (gk - 1)
          case rel => exact ⟨k + 1, f, by omega, by omega, by omega, HE2, Lib.hid (Sc.setI (H.out.drewN _) (by omega))⟩
          case measure => omega
    · have hlt' : ¬ (k : Int) < (s.size : Int) := by omega
      have HE2 : Hid (Lx.lineEnd s i = k) := by
        rw [HE.out]; exact Lib.hid (Lx.scan_no (Lx.lineP_ge s k (by omega)))
      clear HE
      go_wp2_with fail
      go_quiet (fail)
      go_wp2_with fail
      go_end0
      refine ⟨rfl, ?_⟩
      rw [HE2.out]
      exact H.out.drewN _

set_option maxHeartbeats 1000000 in
theorem skipBlock_any (p : Nat) (s : ByteArray) (i : Nat) (hi : i + 2 ≤ s.size) (hs : s.size ≤ 4611686018427387904) (w0 w : World) (h : Sc p s i w0 w) :
    Calls Try.prog 23 #[.pointer (some ⟨p, 0, none⟩)] w fun e w' => e = .returned (.bool (decide (Lx.blockEnd s (i + 2) + 1 < s.size))) ∧ Sc p s (Lx.blockAt s (Lx.blockEnd s (i + 2))) w0 w' := by
  have c1 := h.c1
  have f1 := h.f 1
  have hi2 : (i : Int) + 2 ≤ (s.size : Int) := by omega
  have HS : Hid (Sc p s (i + 2) w0 (w.setCell ⟨p, 1, none⟩ (.int .i64 ((i : Int) + 2)))) := Lib.hid (by have := h.set (i + 2); simpa using this)
  clear h
  go_enter Try.func23, Try.ntmps23
  go_wp2_with fail
  go_loopg [] (s.size - (i + 2)) (fun g wr => ∃ k f : Nat, i + 2 ≤ k ∧ k ≤ s.size ∧ g = s.size - k ∧ g ≤ f ∧ Hid (Lx.blockEnd s (i + 2) = Lx.scan (Lx.blockP s) f k) ∧ Hid (Sc p s k w0 wr))
  case atStart => exact ⟨i + 2, s.size, by omega, hi, rfl, by omega, Lib.hid rfl, HS⟩
  case round =>
    obtain ⟨k, f, hik, hk, hg, hf, HE, H⟩ := hrel
    clear HS c1 f1
    have c0 := H.out.c0
    have c1 := H.out.c1
    have f1 := H.out.f 1
    by_cases hlt : k + 1 < s.size
    · have hlt' : (k : Int) + 1 < (s.size : Int) := by omega
      have hltk : k < s.size := by omega
      have hltk' : (k : Int) < (s.size : Int) := by omega
      have hp := Lx.pk_lt hltk
      have hp1 := Lx.pk_lt hlt
      by_cases hm : (s[k].toNat : Int) = 42 ∧ (s[k + 1].toNat : Int) = 47
      · have HE2 : Hid (Lx.blockEnd s (i + 2) = k) := by
          rw [HE.out]; exact Lib.hid (Lx.scan_no (by unfold Lx.blockP; rw [hp, hp1, hm.1, hm.2]; simp))
        have q1 : ((s[k].toNat : Int) == 42) = true := by simpa using hm.1
        have q2 : ((s[k + 1].toNat : Int) == 47) = true := by simpa using hm.2
        clear hp hp1 hm HE
        have w1 : IntKind.i64.wrap ((k : Int) + 1) = (k : Int) + 1 := IntWalk.i64_in _ (by omega)
        have w2 : (0 : Int) ≤ (k : Int) + 1 := by omega
        have w3 : ((k : Int) + 1).toNat = k + 1 := by omega
        go_wp2_with fail
        go_quiet (fail)
        go_wp2_with fail
        go_quiet (fail)
        clear w1
        go_wp2_with fail
        go_returns
        rw [HE2.out]
        refine ⟨rb rfl (decide_eq_true hlt).symm, ?_⟩
        rw [Lx.blockAt_yes hlt]
        repeat (first | exact H.out | refine Sc.drewN ?_ _ | (refine Sc.setI (i := k) ?_ ?_; rotate_left; omega))
      · obtain ⟨f, rfl⟩ : ∃ f', f = f' + 1 := ⟨f - 1, by omega⟩
        have HE2 : Hid (Lx.blockEnd s (i + 2) = Lx.scan (Lx.blockP s) f (k + 1)) := by
          rw [HE.out]; exact Lib.hid (Lx.scan_yes (by unfold Lx.blockP; rw [hp, hp1, decide_eq_true hlt]; simpa using Decidable.not_and_iff_or_not.1 hm))
        by_cases h42 : (s[k].toNat : Int) = 42
        · have q1 : ((s[k].toNat : Int) == 42) = true := by simpa using h42
          have q2 : ((s[k + 1].toNat : Int) == 47) = false := by simpa using fun h => hm ⟨h42, h⟩
          clear hp hp1 hm HE h42
          have w1 : IntKind.i64.wrap ((k : Int) + 1) = (k : Int) + 1 := IntWalk.i64_in _ (by omega)
          have w2 : (0 : Int) ≤ (k : Int) + 1 := by omega
          have w3 : ((k : Int) + 1).toNat = k + 1 := by omega
          go_wp2_with fail
          go_quiet (fail)
          go_wp2_with fail
          go_quiet (fail)
          clear w1
          go_wp2_with fail
          go_roundg (gk - 1)
          case rel => exact ⟨k + 1, f, by omega, by omega, by omega, by omega, HE2, Lib.hid (by repeat (first | exact H.out | refine Sc.drewN ?_ _ | (refine Sc.setI (i := k) ?_ ?_; rotate_left; omega)))⟩
          case measure => omega
        · have q1 : ((s[k].toNat : Int) == 42) = false := by simpa using h42
          clear hp hp1 hm HE h42
          have w1 : IntKind.i64.wrap ((k : Int) + 1) = (k : Int) + 1 := IntWalk.i64_in _ (by omega)
          have w2 : (0 : Int) ≤ (k : Int) + 1 := by omega
          have w3 : ((k : Int) + 1).toNat = k + 1 := by omega
          go_wp2_with fail
          go_quiet (fail)
          go_wp2_with fail
          go_quiet (fail)
          clear w1
          go_wp2_with fail
          go_roundg (gk - 1)
          case rel => exact ⟨k + 1, f, by omega, by omega, by omega, by omega, HE2, Lib.hid (by repeat (first | exact H.out | refine Sc.drewN ?_ _ | (refine Sc.setI (i := k) ?_ ?_; rotate_left; omega)))⟩
          case measure => omega
    · have hlt' : ¬ (k : Int) + 1 < (s.size : Int) := by omega
      have HE2 : Hid (Lx.blockEnd s (i + 2) = k) := by
        rw [HE.out]; exact Lib.hid (Lx.scan_no (Lx.blockP_ge s k (by omega)))
      clear HE
      go_wp2_with fail
      go_quiet (fail)
      go_wp2_with fail
      go_returns
      rw [HE2.out]
      refine ⟨rb rfl (decide_eq_false hlt).symm, ?_⟩
      rw [Lx.blockAt_no hlt]
      exact H.out.drewN _
end Go.Proofs.Ytlpoahjgonjelaa
