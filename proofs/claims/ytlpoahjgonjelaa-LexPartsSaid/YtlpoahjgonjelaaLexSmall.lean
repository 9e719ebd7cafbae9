/- The scanner's words, suffixes, signs. -/
import Derived.Test.YtlpoahjgonjelaaLexLeaves
import Derived.Test.YtlpoahjgonjelaaLexM2
namespace Go.Proofs.Ytlpoahjgonjelaa
open Go.RowKit
set_option linter.unusedVariables false

set_option maxHeartbeats 1000000 in
theorem word_any (t : ByteArray) (w : World) : Calls Try.prog 12 #[.string t] w fun e w' => e = .returned (.bool (Lx.wordB t)) ∧ w = w' := by
  go_enter Try.func12, Try.ntmps12
  go_wp2
  all_goals go_returns
  all_goals refine ⟨rb rfl ?_, rfl⟩
  all_goals first
    | (exfalso; have h1 : ∀ {a : Bool}, a = true → a = false → False := fun h k => by rw [h] at k; cases k
       exact h1 (by assumption) (by assumption))
    | (unfold Lx.wordB; simp [*]; done)
    | (simp_all; done)
theorem word_as (t : ByteArray) (B : Bool) (HB : Hid (Lx.wordB t = B)) (w : World) : Calls Try.prog 12 #[.string t] w fun e w' => e = .returned (.bool B) ∧ w = w' := by
  rw [← HB.out]; exact word_any t w

theorem rs {v : Value} {a b : ByteArray} (hv : v = .string a) (h : a = b) : Ending.returned v = .returned (.string b) := by rw [hv, h]
set_option maxHeartbeats 1000000 in
theorem suffix_any (p : Nat) (s : ByteArray) (k : Nat) (hk : k ≤ s.size) (hs : s.size ≤ 4611686018427387904) (w0 w : World) (h : Sc p s k w0 w) :
    Calls Try.prog 39 #[.pointer (some ⟨p, 0, none⟩)] w fun e w' => e = .returned (.string (Lx.sufStr s k)) ∧ Sc p s (k + Lx.sufLen s k) w0 w' := by
  obtain ⟨c, hc⟩ : ∃ c, Lx.pk s k = c := ⟨_, rfl⟩
  obtain ⟨d, hd⟩ : ∃ d, Lx.pk s (k + 1) = d := ⟨_, rfl⟩
  have hl := Lx.sufLen_le hk
  have e1 : Hid (Lx.sufStr s k = if c = 117 then (if d = 108 then ⟨#[117, 108]⟩ else ⟨#[117]⟩) else if c = 108 then ⟨#[108]⟩ else ⟨#[]⟩) := by unfold Lx.sufStr; rw [hc, hd]; exact Lib.hid rfl
  have e2 : Hid (Lx.sufLen s k = if c = 117 then (if d = 108 then 2 else 1) else if c = 108 then 1 else 0) := by unfold Lx.sufLen; rw [hc, hd]; exact Lib.hid rfl
  have HC := Lib.hid hc
  have HD := Lib.hid hd
  have HS := Lib.hid h
  rw [e2.out] at hl
  clear hc hd h
  by_cases hu : c = 117
  · subst hu
    rw [if_pos rfl] at hl
    by_cases hv : d = 108
    · subst hv
      rw [if_pos rfl] at hl
      have q1 : Hid (Lx.sufStr s k = ⟨#[117, 108]⟩) := e1
      have q2 : Hid (Lx.sufLen s k = 2) := e2
      clear e1 e2
      go_enter Try.func39, Try.ntmps39
      go_wp2_with fail
      refine (peek_as p s k k 0 _ (by decide) (by omega) hk hs HC _ _ HS.out).mono ?_
      rintro e w1 ⟨rfl, h1⟩
      have H1 := Lib.hid h1
      clear h1
      go_wp2_with fail
      refine (peek_as p s k (k + 1) 1 _ (by decide) (by omega) hk hs HD _ _ H1.out).mono ?_
      rintro e w2 ⟨rfl, h1⟩
      have H2 := Lib.hid h1
      clear h1
      have d1 := H2.out.c1
      have d2 := H2.out.f 1
      go_wp2_with fail
      go_returns
      rw [q1.out, q2.out]
      exact ⟨rs rfl rfl, Sc.setI H2.out (by omega)⟩
    · rw [if_neg hv] at hl
      have q1 : Hid (Lx.sufStr s k = ⟨#[117]⟩) := Lib.hid (e1.out.trans (by rw [if_pos rfl, if_neg hv]))
      have q2 : Hid (Lx.sufLen s k = 1) := Lib.hid (e2.out.trans (by rw [if_pos rfl, if_neg hv]))
      have r1 : (d == 108) = false := by simpa using hv
      clear e1 e2 hv
      go_enter Try.func39, Try.ntmps39
      go_wp2_with fail
      refine (peek_as p s k k 0 _ (by decide) (by omega) hk hs HC _ _ HS.out).mono ?_
      rintro e w1 ⟨rfl, h1⟩
      have H1 := Lib.hid h1
      clear h1
      go_wp2_with fail
      refine (peek_as p s k (k + 1) 1 _ (by decide) (by omega) hk hs HD _ _ H1.out).mono ?_
      rintro e w2 ⟨rfl, h1⟩
      have H2 := Lib.hid h1
      clear h1
      go_wp2_with fail
      refine (peek_as p s k k 0 _ (by decide) (by omega) hk hs HC _ _ H2.out).mono ?_
      rintro e w3 ⟨rfl, h1⟩
      have H3 := Lib.hid h1
      clear h1
      have d1 := H3.out.c1
      have d2 := H3.out.f 1
      go_wp2_with fail
      go_returns
      rw [q1.out, q2.out]
      exact ⟨rs rfl rfl, Sc.setI H3.out (by omega)⟩
  · rw [if_neg hu] at hl
    have r0 : (c == 117) = false := by simpa using hu
    by_cases hv : c = 108
    · subst hv
      rw [if_pos rfl] at hl
      have q1 : Hid (Lx.sufStr s k = ⟨#[108]⟩) := e1
      have q2 : Hid (Lx.sufLen s k = 1) := e2
      clear e1 e2 hu r0
      go_enter Try.func39, Try.ntmps39
      go_wp2_with fail
      refine (peek_as p s k k 0 _ (by decide) (by omega) hk hs HC _ _ HS.out).mono ?_
      rintro e w1 ⟨rfl, h1⟩
      have H1 := Lib.hid h1
      clear h1
      go_wp2_with fail
      refine (peek_as p s k k 0 _ (by decide) (by omega) hk hs HC _ _ H1.out).mono ?_
      rintro e w2 ⟨rfl, h1⟩
      have H2 := Lib.hid h1
      clear h1
      go_wp2_with fail
      refine (peek_as p s k k 0 _ (by decide) (by omega) hk hs HC _ _ H2.out).mono ?_
      rintro e w3 ⟨rfl, h1⟩
      have H3 := Lib.hid h1
      clear h1
      have d1 := H3.out.c1
      have d2 := H3.out.f 1
      go_wp2_with fail
      go_returns
      rw [q1.out, q2.out]
      exact ⟨rs rfl rfl, Sc.setI H3.out (by omega)⟩
    · have q1 : Hid (Lx.sufStr s k = ⟨#[]⟩) := Lib.hid (e1.out.trans (by rw [if_neg hu, if_neg hv]))
      have q2 : Hid (Lx.sufLen s k = 0) := Lib.hid (e2.out.trans (by rw [if_neg hu, if_neg hv]))
      have r1 : (c == 108) = false := by simpa using hv
      clear e1 e2 hv hu hl
      go_enter Try.func39, Try.ntmps39
      go_wp2_with fail
      refine (peek_as p s k k 0 _ (by decide) (by omega) hk hs HC _ _ HS.out).mono ?_
      rintro e w1 ⟨rfl, h1⟩
      have H1 := Lib.hid h1
      clear h1
      go_wp2_with fail
      refine (peek_as p s k k 0 _ (by decide) (by omega) hk hs HC _ _ H1.out).mono ?_
      rintro e w2 ⟨rfl, h1⟩
      have H2 := Lib.hid h1
      clear h1
      go_wp2_with fail
      refine (peek_as p s k k 0 _ (by decide) (by omega) hk hs HC _ _ H2.out).mono ?_
      rintro e w3 ⟨rfl, h1⟩
      have H3 := Lib.hid h1
      clear h1
      have d1 := H3.out.c1
      have d2 := H3.out.f 1
      go_wp2_with fail
      go_returns
      rw [q1.out, q2.out]
      exact ⟨rs rfl rfl, Sc.setI H3.out (by omega)⟩
set_option maxHeartbeats 4000000 in
theorem sign_any (p : Nat) (s : ByteArray) (k : Nat) (hk : k ≤ s.size) (hs : s.size ≤ 4611686018427387904) (w0 w : World) (h : Sc p s k w0 w) :
    Calls Try.prog 29 #[.pointer (some ⟨p, 0, none⟩)] w fun e w' => e = .returned (.int .i64 (Lx.signM (Lx.pk s k) (Lx.pk s (k + 1)) (Lx.pk s (k + 2)))) ∧ Sc p s k w0 w' := by
  obtain ⟨c, hc⟩ : ∃ c, Lx.pk s k = c := ⟨_, rfl⟩
  obtain ⟨d, hd⟩ : ∃ d, Lx.pk s (k + 1) = d := ⟨_, rfl⟩
  obtain ⟨x, hx⟩ : ∃ x, Lx.pk s (k + 2) = x := ⟨_, rfl⟩
  rw [hc, hd, hx]
  have HC := Lib.hid hc
  have HD := Lib.hid hd
  have HX := Lib.hid hx
  have HS := Lib.hid h
  clear hc hd hx h
  go_enter Try.func29, Try.ntmps29
  go_wp2_with fail
  refine (peek_as p s k k 0 _ (by decide) (by omega) hk hs HC _ _ HS.out).mono ?_
  rintro e w1 ⟨rfl, h1⟩
  have H1 := Lib.hid h1
  clear h1
  go_wp2_with fail
  refine (peek_as p s k (k + 1) 1 _ (by decide) (by omega) hk hs HD _ _ H1.out).mono ?_
  rintro e w2 ⟨rfl, h1⟩
  have H2 := Lib.hid h1
  clear h1
  go_wp2_with fail
  refine (peek_as p s k (k + 2) 2 _ (by decide) (by omega) hk hs HX _ _ H2.out).mono ?_
  rintro e w3 ⟨rfl, h1⟩
  have H3 := Lib.hid h1
  clear h1
  go_wp2_with fail
  all_goals go_returns
  all_goals refine ⟨ri rfl ?_, H3.out⟩
  all_goals simp only [beq_iff_eq, beq_eq_false_iff_ne, ne_eq] at *
  all_goals first
    | (exfalso; omega)
    | (unfold Lx.signM; (repeat' split) <;> first | rfl | (exfalso; omega))
end Go.Proofs.Ytlpoahjgonjelaa
