/- The scanner's skip: what stands between tokens. -/
import Derived.Test.YtlpoahjgonjelaaLexGap
namespace Go.Proofs.Ytlpoahjgonjelaa
open Go.RowKit
set_option linter.unusedVariables false

/-- What skip leaves: where it stands, if all is well; else where the comment began. -/
def SkipPost (p : Nat) (s : ByteArray) (w0 : World) (r : Nat × Bool) (e : Ending) (w' : World) : Prop :=
  ∃ j : Nat, e = .returned (.tuple #[.int .i64 (if r.2 = true then 0 else (r.1 : Int)), .bool r.2]) ∧ Sc p s j w0 w' ∧ (r.2 = true → j = r.1)
theorem skip_ok {p : Nat} {s : ByteArray} {w0 w' : World} {r : Nat × Bool} {k : Nat} (hr : r = (k, true)) (h : Sc p s k w0 w') : SkipPost p s w0 r (.returned (.tuple #[.int .i64 0, .bool true])) w' := by
  subst hr; exact ⟨k, rfl, h, fun _ => rfl⟩
theorem skip_no {p : Nat} {s : ByteArray} {w0 w' : World} {r : Nat × Bool} {k j : Nat} {v : Int} (hr : r = (k, false)) (hv : v = (k : Int)) (h : Sc p s j w0 w') : SkipPost p s w0 r (.returned (.tuple #[.int .i64 v, .bool false])) w' := by
  subst hr hv; exact ⟨j, rfl, h, fun h => by cases h⟩

set_option maxHeartbeats 2000000 in
theorem skip_any (p : Nat) (s : ByteArray) (i : Nat) (hi : i ≤ s.size) (hs : s.size ≤ 4611686018427387904) (w0 w : World) (h : Sc p s i w0 w) :
    Calls Try.prog 16 #[.pointer (some ⟨p, 0, none⟩)] w (SkipPost p s w0 (Lx.gap s s.size i)) := by
  have HS := Lib.hid h
  clear h
  go_enter Try.func16, Try.ntmps16
  go_wp2_with fail
  go_loopg [] (s.size - i) (fun g wr => ∃ k f : Nat, k ≤ s.size ∧ g = s.size - k ∧ g ≤ f ∧ Hid (Lx.gap s s.size i = Lx.gap s f k) ∧ Hid (Sc p s k w0 wr))
  case atStart => exact ⟨i, s.size, hi, rfl, by omega, Lib.hid rfl, HS⟩
  case round =>
    obtain ⟨k, f, hk, hg, hf, HE, H⟩ := hrel
    clear HS
    have c0 := H.out.c0
    have c1 := H.out.c1
    by_cases hlt : k < s.size
    · have hlt' : (k : Int) < (s.size : Int) := by omega
      obtain ⟨f, rfl⟩ : ∃ f', f = f' + 1 := ⟨f - 1, by omega⟩
      obtain ⟨c, hc⟩ : ∃ c, Lx.pk s k = c := ⟨_, rfl⟩
      obtain ⟨d, hd⟩ : ∃ d, Lx.pk s (k + 1) = d := ⟨_, rfl⟩
      have hcb := Lx.pk_bd s k
      rw [hc] at hcb
      have HC := Lib.hid hc
      have HD := Lib.hid hd
      clear hc hd
      by_cases hb : c = 32 ∨ c = 9 ∨ c = 10 ∨ c = 13
      · have HE2 : Hid (Lx.gap s s.size i = Lx.gap s f (k + 1)) := by rw [HE.out]; exact Lib.hid (Lx.gap_blank hlt (by rw [HC.out, Lx.blankB_iff]; exact hb))
        clear HE
        rcases hb with rfl | rfl | rfl | rfl
        · skip
          go_wp2_with fail
          go_quiet (fail)
          go_wp2_with fail
          refine (peek_as p s k k 0 _ (by decide) (by omega) hk hs HC _ _ (H.out.drewN nq)).mono ?_
          rintro e w1 ⟨rfl, h1⟩
          have H1 := Lib.hid h1
          clear h1
          have d1 := H1.out.c1
          have d2 := H1.out.f 1
          go_wp2_with fail
          go_roundg (gk - 1)
          case rel => exact ⟨k + 1, f, by omega, by omega, by omega, HE2, Lib.hid (Sc.setI H1.out (by omega))⟩
          case measure => omega
        · skip
          go_wp2_with fail
          go_quiet (fail)
          go_wp2_with fail
          refine (peek_as p s k k 0 _ (by decide) (by omega) hk hs HC _ _ (H.out.drewN nq)).mono ?_
          rintro e w1 ⟨rfl, h1⟩
          have H1 := Lib.hid h1
          clear h1
          have d1 := H1.out.c1
          have d2 := H1.out.f 1
          go_wp2_with fail
          go_roundg (gk - 1)
          case rel => exact ⟨k + 1, f, by omega, by omega, by omega, HE2, Lib.hid (Sc.setI H1.out (by omega))⟩
          case measure => omega
        · skip
          go_wp2_with fail
          go_quiet (fail)
          go_wp2_with fail
          refine (peek_as p s k k 0 _ (by decide) (by omega) hk hs HC _ _ (H.out.drewN nq)).mono ?_
          rintro e w1 ⟨rfl, h1⟩
          have H1 := Lib.hid h1
          clear h1
          have d1 := H1.out.c1
          have d2 := H1.out.f 1
          go_wp2_with fail
          go_roundg (gk - 1)
          case rel => exact ⟨k + 1, f, by omega, by omega, by omega, HE2, Lib.hid (Sc.setI H1.out (by omega))⟩
          case measure => omega
        · skip
          go_wp2_with fail
          go_quiet (fail)
          go_wp2_with fail
          refine (peek_as p s k k 0 _ (by decide) (by omega) hk hs HC _ _ (H.out.drewN nq)).mono ?_
          rintro e w1 ⟨rfl, h1⟩
          have H1 := Lib.hid h1
          clear h1
          have d1 := H1.out.c1
          have d2 := H1.out.f 1
          go_wp2_with fail
          go_roundg (gk - 1)
          case rel => exact ⟨k + 1, f, by omega, by omega, by omega, HE2, Lib.hid (Sc.setI H1.out (by omega))⟩
          case measure => omega
      · have q1 : (c == 32) = false := by simpa using fun h => hb (.inl h)
        have q2 : (c == 9) = false := by simpa using fun h => hb (.inr (.inl h))
        have q3 : (c == 10) = false := by simpa using fun h => hb (.inr (.inr (.inl h)))
        have q4 : (c == 13) = false := by simpa using fun h => hb (.inr (.inr (.inr h)))
        have hbB : Hid (Lx.blankB (Lx.pk s k) = false) := Lib.hid (by rw [HC.out]; cases h : Lx.blankB c; rfl; exact absurd ((Lx.blankB_iff c).1 h) hb)
        clear hb
        by_cases h47 : c = 47
        · subst h47
          clear q1 q2 q3 q4
          by_cases hd47 : d = 47
          · subst hd47
            have HE2 : Hid (Lx.gap s s.size i = Lx.gap s f (Lx.lineEnd s k)) := by rw [HE.out]; exact Lib.hid (Lx.gap_line hlt HC.out HD.out)
            have hl1 := Lx.lineEnd_gt hlt HC.out
            have hl2 := Lx.lineEnd_le hk
            clear HE
            go_wp2_with fail
            go_quiet (fail)
            go_wp2_with fail
            refine (peek_as p s k k 0 _ (by decide) (by omega) hk hs HC _ _ (H.out.drewN nq)).mono ?_
            rintro e w1 ⟨rfl, h1⟩
            have H1 := Lib.hid h1
            clear h1
            go_wp2_with fail
            refine (peek_as p s k (k + 1) 1 _ (by decide) (by omega) hk hs HD _ _ H1.out).mono ?_
            rintro e w2 ⟨rfl, h1⟩
            have H2 := Lib.hid h1
            clear h1
            go_wp2_with fail
            refine (skipLine_any p s k hk hs _ _ H2.out).mono ?_
            rintro e w3 ⟨rfl, h1⟩
            have H3 := Lib.hid h1
            clear h1
            go_wp2_with fail
            go_roundg (s.size - Lx.lineEnd s k)
            case rel => exact ⟨Lx.lineEnd s k, f, by omega, by omega, by omega, HE2, H3⟩
            case measure => omega
          · have r1 : (d == 47) = false := by simpa using hd47
            by_cases hd42 : d = 42
            · subst hd42
              clear r1 hd47
              have hk2 : k + 2 ≤ s.size := by
                have := Lx.pk_in (s := s) (i := k + 1) (by rw [HD.out]; decide)
                omega
              have HE1 := HE.out.trans (Lx.gap_block hlt HC.out HD.out)
              by_cases hB : Lx.blockEnd s (k + 2) + 1 < s.size
              · have HE2 : Hid (Lx.gap s s.size i = Lx.gap s f (Lx.blockEnd s (k + 2) + 2)) := by rw [HE1, if_pos hB]; exact Lib.hid rfl
                have hl1 := Lx.blockEnd_ge s (k + 2)
                have HA := Lib.hid (Lx.blockAt_yes hB)
                have HT := Lib.hid (decide_eq_true hB)
                clear HE HE1
                go_wp2_with fail
                go_quiet (fail)
                go_wp2_with fail
                refine (peek_as p s k k 0 _ (by decide) (by omega) hk hs HC _ _ (H.out.drewN nq)).mono ?_
                rintro e w1 ⟨rfl, h1⟩
                have H1 := Lib.hid h1
                clear h1
                go_wp2_with fail
                refine (peek_as p s k (k + 1) 1 _ (by decide) (by omega) hk hs HD _ _ H1.out).mono ?_
                rintro e w2 ⟨rfl, h1⟩
                have H2 := Lib.hid h1
                clear h1
                go_wp2_with fail
                refine (peek_as p s k (k + 1) 1 _ (by decide) (by omega) hk hs HD _ _ H2.out).mono ?_
                rintro e w3 ⟨rfl, h1⟩
                have H3 := Lib.hid h1
                clear h1
                have d1 := H3.out.c1
                go_wp2_with fail
                refine (skipBlock_any p s k hk2 hs _ _ H3.out).mono ?_
                rw [HT.out, HA.out]
                rintro e w4 ⟨rfl, h1⟩
                have H4 := Lib.hid h1
                clear h1 d1
                go_wp2_with fail
                go_roundg (s.size - (Lx.blockEnd s (k + 2) + 2))
                case rel => exact ⟨Lx.blockEnd s (k + 2) + 2, f, by omega, by omega, by omega, HE2, H4⟩
                case measure => omega
              · have HE2 : Hid (Lx.gap s s.size i = (k, false)) := by rw [HE1, if_neg hB]; exact Lib.hid rfl
                have HA := Lib.hid (Lx.blockAt_no hB)
                have HT := Lib.hid (decide_eq_false hB)
                clear HE HE1
                go_wp2_with fail
                go_quiet (fail)
                go_wp2_with fail
                refine (peek_as p s k k 0 _ (by decide) (by omega) hk hs HC _ _ (H.out.drewN nq)).mono ?_
                rintro e w1 ⟨rfl, h1⟩
                have H1 := Lib.hid h1
                clear h1
                go_wp2_with fail
                refine (peek_as p s k (k + 1) 1 _ (by decide) (by omega) hk hs HD _ _ H1.out).mono ?_
                rintro e w2 ⟨rfl, h1⟩
                have H2 := Lib.hid h1
                clear h1
                go_wp2_with fail
                refine (peek_as p s k (k + 1) 1 _ (by decide) (by omega) hk hs HD _ _ H2.out).mono ?_
                rintro e w3 ⟨rfl, h1⟩
                have H3 := Lib.hid h1
                clear h1
                have d1 := H3.out.c1
                go_wp2_with fail
                refine (skipBlock_any p s k hk2 hs _ _ H3.out).mono ?_
                rw [HT.out, HA.out]
                rintro e w4 ⟨rfl, h1⟩
                have H4 := Lib.hid h1
                clear h1 d1
                go_wp2_with fail
                go_returns
                exact skip_no HE2.out rfl H4.out
            · have r2 : (d == 42) = false := by simpa using hd42
              have HE2 : Hid (Lx.gap s s.size i = (k, true)) := by
                rw [HE.out]; exact Lib.hid (Lx.gap_stop hbB.out (by rw [HD.out]; exact fun h => hd47 h.2) (by rw [HD.out]; exact fun h => hd42 h.2))
              clear HE
              go_wp2_with fail
              go_quiet (fail)
              go_wp2_with fail
              refine (peek_as p s k k 0 _ (by decide) (by omega) hk hs HC _ _ (H.out.drewN nq)).mono ?_
              rintro e w1 ⟨rfl, h1⟩
              have H1 := Lib.hid h1
              clear h1
              go_wp2_with fail
              refine (peek_as p s k (k + 1) 1 _ (by decide) (by omega) hk hs HD _ _ H1.out).mono ?_
              rintro e w2 ⟨rfl, h1⟩
              have H2 := Lib.hid h1
              clear h1
              go_wp2_with fail
              refine (peek_as p s k (k + 1) 1 _ (by decide) (by omega) hk hs HD _ _ H2.out).mono ?_
              rintro e w3 ⟨rfl, h1⟩
              have H3 := Lib.hid h1
              clear h1
              go_wp2_with fail
              go_returns
              exact skip_ok HE2.out H3.out
        · have q5 : (c == 47) = false := by simpa using h47
          have HE2 : Hid (Lx.gap s s.size i = (k, true)) := by
            rw [HE.out]; exact Lib.hid (Lx.gap_stop hbB.out (by rw [HC.out]; exact fun h => h47 h.1) (by rw [HC.out]; exact fun h => h47 h.1))
          clear HE
          go_wp2_with fail
          go_quiet (fail)
          go_wp2_with fail
          refine (peek_as p s k k 0 _ (by decide) (by omega) hk hs HC _ _ (H.out.drewN nq)).mono ?_
          rintro e w1 ⟨rfl, h1⟩
          have H1 := Lib.hid h1
          clear h1
          go_wp2_with fail
          go_returns
          exact skip_ok HE2.out H1.out
    · have hlt' : ¬ (k : Int) < (s.size : Int) := by omega
      have HE2 : Hid (Lx.gap s s.size i = (k, true)) := by rw [HE.out]; exact Lib.hid (Lx.gap_end hlt)
      clear HE
      go_wp2_with fail
      go_quiet (fail)
      go_wp2_with fail
      go_returns
      exact skip_ok HE2.out (H.out.drewN _)
end Go.Proofs.Ytlpoahjgonjelaa
