/- The document's gap: what stands between tokens. -/
import Derived.Test.YtlpoahjgonjelaaLexRef
namespace Go.Proofs.Ytlpoahjgonjelaa
open Go.RowKit
set_option linter.unusedVariables false

set_option maxRecDepth 100000 in
set_option maxHeartbeats 4000000 in
theorem rgap_as (s : ByteArray) (i : Nat) (hi : i ≤ s.size) (hs : s.size ≤ 4611686018427387904) (G : Nat) (B : Bool) (HG : Hid (Lx.gap s s.size i = (G, B))) (w : World) :
    Calls Try.prog 18 #[.string s, .int .i64 (i : Int)] w fun e w' => e = .returned (.tuple #[.int .i64 (G : Int), .bool B]) ∧ w = w' := by
  go_enter Try.func18, Try.ntmps18
  go_wp2_with fail
  go_loopg [1] (s.size - i) (fun g v wr => ∃ k f : Nat, v = .int .i64 (k : Int) ∧ k ≤ s.size ∧ g = s.size - k ∧ g ≤ f ∧ Hid ((G, B) = Lx.gap s f k) ∧ w = wr)
  case atStart => exact ⟨i, s.size, rfl, hi, rfl, by omega, Lib.hid HG.out.symm, rfl⟩
  case round =>
    obtain ⟨k, f, rfl, hk, hg, hf, HE, rfl⟩ := hrel
    clear HG
    by_cases hlt : k < s.size
    · have hlt' : (k : Int) < (s.size : Int) := by omega
      obtain ⟨f, rfl⟩ : ∃ f', f = f' + 1 := ⟨f - 1, by omega⟩
      have hp := Lx.pk_lt hlt
      obtain ⟨d, hd⟩ : ∃ d, Lx.pk s (k + 1) = d := ⟨_, rfl⟩
      have HP := Lib.hid hp
      have HD := Lib.hid hd
      clear hp hd
      by_cases hb : (s[k].toNat : Int) = 32 ∨ (s[k].toNat : Int) = 9 ∨ (s[k].toNat : Int) = 10 ∨ (s[k].toNat : Int) = 13
      · have HE2 : Hid ((G, B) = Lx.gap s f (k + 1)) := by rw [HE.out]; exact Lib.hid (Lx.gap_blank hlt (by rw [HP.out, Lx.blankB_iff]; exact hb))
        clear HE
        rcases hb with hb | hb | hb | hb
        · have q1 : ((s[k].toNat : Int) == 32) = true := by rw [hb]; rfl
          have q2 : (s[k].toNat : Int) = 32 := hb
          clear hb
          go_wp2_with fail
          all_goals go_roundg (gk - 1)
          all_goals first
            | exact ⟨k + 1, f, by go_num, by omega, by omega, by omega, HE2, rfl⟩
            | omega
        · have q1 : ((s[k].toNat : Int) == 9) = true := by rw [hb]; rfl
          have q2 : (s[k].toNat : Int) = 9 := hb
          clear hb
          go_wp2_with fail
          all_goals go_roundg (gk - 1)
          all_goals first
            | exact ⟨k + 1, f, by go_num, by omega, by omega, by omega, HE2, rfl⟩
            | omega
        · have q1 : ((s[k].toNat : Int) == 10) = true := by rw [hb]; rfl
          have q2 : (s[k].toNat : Int) = 10 := hb
          clear hb
          go_wp2_with fail
          all_goals go_roundg (gk - 1)
          all_goals first
            | exact ⟨k + 1, f, by go_num, by omega, by omega, by omega, HE2, rfl⟩
            | omega
        · have q1 : ((s[k].toNat : Int) == 13) = true := by rw [hb]; rfl
          have q2 : (s[k].toNat : Int) = 13 := hb
          clear hb
          go_wp2_with fail
          all_goals go_roundg (gk - 1)
          all_goals first
            | exact ⟨k + 1, f, by go_num, by omega, by omega, by omega, HE2, rfl⟩
            | omega
      · have n1 : ((s[k].toNat : Int) == 32) = false := by simpa using fun h => hb (.inl h)
        have n2 : ((s[k].toNat : Int) == 9) = false := by simpa using fun h => hb (.inr (.inl h))
        have n3 : ((s[k].toNat : Int) == 10) = false := by simpa using fun h => hb (.inr (.inr (.inl h)))
        have n4 : ((s[k].toNat : Int) == 13) = false := by simpa using fun h => hb (.inr (.inr (.inr h)))
        have hbB : Hid (Lx.blankB (Lx.pk s k) = false) := Lib.hid (by rw [HP.out]; cases h : Lx.blankB (s[k].toNat : Int); rfl; exact absurd ((Lx.blankB_iff _).1 h) hb)
        clear hb
        by_cases h47 : (s[k].toNat : Int) = 47
        · have m1 : ((s[k].toNat : Int) == 47) = true := by rw [h47]; rfl
          have H47 : Hid (Lx.pk s k = 47) := Lib.hid (HP.out.trans h47)
          clear h47
          by_cases hd47 : d = 47
          · subst hd47
            have HE2 : Hid ((G, B) = Lx.gap s f (Lx.lineEnd s k)) := by rw [HE.out]; exact Lib.hid (Lx.gap_line hlt H47.out HD.out)
            have hl1 := Lx.lineEnd_gt hlt H47.out
            have hl2 := Lx.lineEnd_le hk
            clear HE
            go_wp2_with fail
            refine (rat_as s (k + 1) _ 47 (by omega) hs HD _).mono ?_
            rintro e w1 ⟨rfl, rfl⟩
            clear n1 n2 n3 n4 m1
            go_wp2_with fail
            go_loopg [1] (s.size - k) (fun g v wr => ∃ q h : Nat, v = .int .i64 (q : Int) ∧ k ≤ q ∧ q ≤ s.size ∧ g = s.size - q ∧ g ≤ h ∧ Hid (Lx.lineEnd s k = Lx.scan (Lx.lineP s) h q) ∧ w = wr)
            case atStart => exact ⟨k, s.size, rfl, by omega, hk, rfl, by omega, Lib.hid rfl, rfl⟩
            case round =>
              rename_i gk2 _ _ _ _
              obtain ⟨q, h, rfl, hkq, hqs, hg2, hh, HL, rfl⟩ := hrel
              by_cases hql : q < s.size
              · have hql' : (q : Int) < (s.size : Int) := by omega
                have hp2 := Lx.pk_lt hql
                obtain ⟨h, rfl⟩ : ∃ h', h = h' + 1 := ⟨h - 1, by omega⟩
                by_cases h10 : (s[q].toNat : Int) = 10
                · have r1 : ((s[q].toNat : Int) != 10) = false := by rw [h10]; rfl
                  have HL2 : Hid (Lx.lineEnd s k = q) := by rw [HL.out]; exact Lib.hid (Lx.scan_no (by unfold Lx.lineP; rw [hp2, h10]; simp))
                  clear HL hp2 h10
                  rw [HL2.out] at hl1 hl2 HE2
                  go_wp2_with fail
                  go_roundg (s.size - q)
                  case rel => exact ⟨q, f, rfl, by omega, rfl, by omega, HE2, rfl⟩
                  case measure => omega
                · by_cases h13 : (s[q].toNat : Int) = 13
                  · have r1 : ((s[q].toNat : Int) != 10) = true := by simpa using h10
                    have r2 : ((s[q].toNat : Int) != 13) = false := by rw [h13]; rfl
                    have HL2 : Hid (Lx.lineEnd s k = q) := by rw [HL.out]; exact Lib.hid (Lx.scan_no (by unfold Lx.lineP; rw [hp2, h13]; simp))
                    clear HL hp2 h10 h13
                    rw [HL2.out] at hl1 hl2 HE2
                    go_wp2_with fail
                    go_roundg (s.size - q)
                    case rel => exact ⟨q, f, rfl, by omega, rfl, by omega, HE2, rfl⟩
                    case measure => omega
                  · have r1 : ((s[q].toNat : Int) != 10) = true := by simpa using h10
                    have r2 : ((s[q].toNat : Int) != 13) = true := by simpa using h13
                    have HL2 : Hid (Lx.lineEnd s k = Lx.scan (Lx.lineP s) h (q + 1)) := by
                      rw [HL.out]; exact Lib.hid (Lx.scan_yes (by unfold Lx.lineP; rw [hp2, decide_eq_true hql]; simp [h10, h13]))
                    clear HL hp2 h10 h13
                    go_wp2_with fail
                    go_roundg (s.size - (q + 1))
                    case rel => exact ⟨q + 1, h, by go_num, by omega, by omega, rfl, by omega, HL2, rfl⟩
                    case measure => omega
              · have hql' : ¬ (q : Int) < (s.size : Int) := by omega
                have HL2 : Hid (Lx.lineEnd s k = q) := by rw [HL.out]; exact Lib.hid (Lx.scan_no (Lx.lineP_ge s q (by omega)))
                clear HL
                rw [HL2.out] at hl1 hl2 HE2
                go_wp2_with fail
                go_roundg (s.size - q)
                case rel => exact ⟨q, f, rfl, by omega, rfl, by omega, HE2, rfl⟩
                case measure => omega
          · have r1 : (d == 47) = false := by simpa using hd47
            by_cases hd42 : d = 42
            · subst hd42
              clear r1 hd47
              have hk2 : k + 2 ≤ s.size := by
                have := Lx.pk_in (s := s) (i := k + 1) (by rw [HD.out]; decide)
                omega
              have hk2' : (k : Int) + 2 ≤ (s.size : Int) := by omega
              have HE1 := Lib.hid (HE.out.trans (Lx.gap_block hlt H47.out HD.out))
              clear HE
              go_wp2_with fail
              refine (rat_as s (k + 1) _ 42 (by omega) hs HD _).mono ?_
              rintro e w1 ⟨rfl, rfl⟩
              go_wp2_with fail
              refine (rat_as s (k + 1) _ 42 (by omega) hs HD _).mono ?_
              rintro e w1 ⟨rfl, rfl⟩
              clear n1 n2 n3 n4 m1
              go_wp2_with fail
              go_loopg [6] (s.size - (k + 2)) (fun g v wr => ∃ q h : Nat, v = .int .i64 (q : Int) ∧ k + 2 ≤ q ∧ q ≤ s.size ∧ g = s.size - q ∧ g ≤ h ∧ Hid (Lx.blockEnd s (k + 2) = Lx.scan (Lx.blockP s) h q) ∧ w = wr)
              case atStart => exact ⟨k + 2, s.size, by go_num, by omega, hk2, rfl, by omega, Lib.hid rfl, rfl⟩
              case round =>
                obtain ⟨q, h, rfl, hkq, hqs, hg2, hh, HL, rfl⟩ := hrel
                by_cases hql : q + 1 < s.size
                · have hql' : (q : Int) + 1 < (s.size : Int) := by omega
                  have hq0 : q < s.size := by omega
                  have hq0' : (q : Int) < (s.size : Int) := by omega
                  have w3 : ((q : Int) + 1).toNat = q + 1 := by omega
                  have hp2 := Lx.pk_lt hq0
                  have hp3 := Lx.pk_lt hql
                  by_cases hm : (s[q].toNat : Int) = 42 ∧ (s[q + 1].toNat : Int) = 47
                  · have HL2 : Hid (Lx.blockEnd s (k + 2) = q) := by rw [HL.out]; exact Lib.hid (Lx.scan_no (by unfold Lx.blockP; rw [hp2, hp3, hm.1, hm.2]; simp))
                    have r1 : ((s[q].toNat : Int) != 42) = false := by rw [hm.1]; rfl
                    have r2 : ((s[q + 1].toNat : Int) != 47) = false := by rw [hm.2]; rfl
                    have HE2 : Hid ((G, B) = Lx.gap s f (q + 2)) := by rw [HE1.out, HL2.out, if_pos hql]; exact Lib.hid rfl
                    have hge : ¬ (s.size : Int) ≤ (q : Int) + 1 := by omega
                    clear HL hp2 hp3 hm HE1
                    go_wp2_with fail
                    go_roundg (s.size - (q + 2))
                    case rel => exact ⟨q + 2, f, by go_num, by omega, rfl, by omega, HE2, rfl⟩
                    case measure => omega
                  · obtain ⟨h, rfl⟩ : ∃ h', h = h' + 1 := ⟨h - 1, by omega⟩
                    have HL2 : Hid (Lx.blockEnd s (k + 2) = Lx.scan (Lx.blockP s) h (q + 1)) := by
                      rw [HL.out]; exact Lib.hid (Lx.scan_yes (by unfold Lx.blockP; rw [hp2, hp3, decide_eq_true hql]; simpa using Decidable.not_and_iff_or_not.1 hm))
                    by_cases h42 : (s[q].toNat : Int) = 42
                    · have r1 : ((s[q].toNat : Int) != 42) = false := by rw [h42]; rfl
                      have r2 : ((s[q + 1].toNat : Int) != 47) = true := by simpa using fun h => hm ⟨h42, h⟩
                      clear HL hp2 hp3 hm h42
                      go_wp2_with fail
                      go_roundg (s.size - (q + 1))
                      case rel => exact ⟨q + 1, h, by go_num, by omega, by omega, rfl, by omega, HL2, rfl⟩
                      case measure => omega
                    · have r1 : ((s[q].toNat : Int) != 42) = true := by simpa using h42
                      clear HL hp2 hp3 hm h42
                      go_wp2_with fail
                      go_roundg (s.size - (q + 1))
                      case rel => exact ⟨q + 1, h, by go_num, by omega, by omega, rfl, by omega, HL2, rfl⟩
                      case measure => omega
                · have hql' : ¬ (q : Int) + 1 < (s.size : Int) := by omega
                  have HL2 : Hid (Lx.blockEnd s (k + 2) = q) := by rw [HL.out]; exact Lib.hid (Lx.scan_no (Lx.blockP_ge s q (by omega)))
                  have HE2 : Hid ((G, B) = (k, false)) := by rw [HE1.out, HL2.out, if_neg hql]; exact Lib.hid rfl
                  have hge : (s.size : Int) ≤ (q : Int) + 1 := by omega
                  clear HL HE1
                  go_wp2_with fail
                  go_returns
                  have := HE2.out
                  simp only [Prod.mk.injEq] at this
                  obtain ⟨rfl, rfl⟩ := this
                  exact ⟨rfl, rfl⟩
            · have r2 : (d == 42) = false := by simpa using hd42
              have HE2 : Hid ((G, B) = (k, true)) := by
                rw [HE.out]; exact Lib.hid (Lx.gap_stop hbB.out (by rw [HD.out]; exact fun h => hd47 h.2) (by rw [HD.out]; exact fun h => hd42 h.2))
              clear HE
              go_wp2_with fail
              refine (rat_as s (k + 1) _ d (by omega) hs HD _).mono ?_
              rintro e w1 ⟨rfl, rfl⟩
              go_wp2_with fail
              refine (rat_as s (k + 1) _ d (by omega) hs HD _).mono ?_
              rintro e w1 ⟨rfl, rfl⟩
              go_wp2_with fail
              go_returns
              have := HE2.out
              simp only [Prod.mk.injEq] at this
              obtain ⟨rfl, rfl⟩ := this
              exact ⟨rfl, rfl⟩
        · have q5 : ((s[k].toNat : Int) == 47) = false := by simpa using h47
          have HE2 : Hid ((G, B) = (k, true)) := by
            rw [HE.out]; exact Lib.hid (Lx.gap_stop hbB.out (by rw [HP.out]; exact fun h => h47 h.1) (by rw [HP.out]; exact fun h => h47 h.1))
          clear HE
          go_wp2_with fail
          go_returns
          have := HE2.out
          simp only [Prod.mk.injEq] at this
          obtain ⟨rfl, rfl⟩ := this
          exact ⟨rfl, rfl⟩
    · have hlt' : ¬ (k : Int) < (s.size : Int) := by omega
      have HE2 : Hid ((G, B) = (k, true)) := by rw [HE.out]; exact Lib.hid (Lx.gap_end hlt)
      clear HE
      go_wp2_with fail
      go_returns
      have := HE2.out
      simp only [Prod.mk.injEq] at this
      obtain ⟨rfl, rfl⟩ := this
      exact ⟨rfl, rfl⟩
end Go.Proofs.Ytlpoahjgonjelaa
