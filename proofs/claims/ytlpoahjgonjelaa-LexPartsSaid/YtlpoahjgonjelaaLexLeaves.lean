/- The scanner's own letters, digits, names, values. -/
import Derived.Test.YtlpoahjgonjelaaLexBase
namespace Go.Proofs.Ytlpoahjgonjelaa
open Go.RowKit
set_option linter.unusedVariables false

theorem letter_any (c : Int) (hc : 0 ≤ c ∧ c ≤ 255) (w : World) : Calls Try.prog 24 #[.int .u8 c] w fun e w' => e = .returned (.bool (Lx.letB c)) ∧ w = w' := by
  go_enter Try.func24, Try.ntmps24
  go_wp2
  all_goals go_returns
  all_goals exact ⟨rb rfl (by rw [Bool.eq_iff_iff, Lx.letB_iff]; simp; omega), rfl⟩
theorem digit_any (c : Int) (hc : 0 ≤ c ∧ c ≤ 255) (w : World) : Calls Try.prog 26 #[.int .u8 c] w fun e w' => e = .returned (.bool (Lx.digB c)) ∧ w = w' := by
  go_enter Try.func26, Try.ntmps26
  go_wp2
  all_goals go_returns
  all_goals exact ⟨rb rfl (by rw [Bool.eq_iff_iff, Lx.digB_iff]; simp; omega), rfl⟩
theorem letter_as (c : Int) (L : Bool) (hc : 0 ≤ c ∧ c ≤ 255) (HL : Hid (Lx.letB c = L)) (w : World) : Calls Try.prog 24 #[.int .u8 c] w fun e w' => e = .returned (.bool L) ∧ w = w' := by
  rw [← HL.out]; exact letter_any c hc w
theorem digit_as (c : Int) (L : Bool) (hc : 0 ≤ c ∧ c ≤ 255) (HL : Hid (Lx.digB c = L)) (w : World) : Calls Try.prog 26 #[.int .u8 c] w fun e w' => e = .returned (.bool L) ∧ w = w' := by
  rw [← HL.out]; exact digit_any c hc w
theorem inName_any (c : Int) (hc : 0 ≤ c ∧ c ≤ 255) (w : World) : Calls Try.prog 36 #[.int .u8 c] w fun e w' => e = .returned (.bool (Lx.inB c)) ∧ w = w' := by
  obtain ⟨L, hL⟩ : ∃ L, Lx.letB c = L := ⟨_, rfl⟩
  obtain ⟨D, hD⟩ : ∃ D, Lx.digB c = D := ⟨_, rfl⟩
  have e : Lx.inB c = (L || D) := by unfold Lx.inB; rw [hL, hD]
  rw [e]
  have HL := Lib.hid hL
  have HD := Lib.hid hD
  clear hL hD e
  cases L
  · go_enter Try.func36, Try.ntmps36
    go_wp2_with fail
    refine (letter_as c false hc HL _).mono ?_
    rintro e w1 ⟨rfl, rfl⟩
    go_wp2_with fail
    refine (digit_as c D hc HD _).mono ?_
    rintro e w1 ⟨rfl, rfl⟩
    go_wp2_with fail
    go_returns
    exact ⟨rb rfl rfl, rfl⟩
  · go_enter Try.func36, Try.ntmps36
    go_wp2_with fail
    refine (letter_as c true hc HL _).mono ?_
    rintro e w1 ⟨rfl, rfl⟩
    go_wp2_with fail
    go_returns
    exact ⟨rb rfl rfl, rfl⟩
theorem inName_as (c : Int) (L : Bool) (hc : 0 ≤ c ∧ c ≤ 255) (HL : Hid (Lx.inB c = L)) (w : World) : Calls Try.prog 36 #[.int .u8 c] w fun e w' => e = .returned (.bool L) ∧ w = w' := by
  rw [← HL.out]; exact inName_any c hc w
theorem rt {v u : Value} {k : IntKind} {a b : Int} {p q : Bool} (hv : v = .int k a) (hu : u = .bool p) (h : a = b) (h' : p = q) :
    Ending.returned (.tuple #[v, u]) = .returned (.tuple #[.int k b, .bool q]) := by rw [hv, hu, h, h']
/-- What a digit counts: defined. -/
def vOk (v : Int) : Bool := decide (0 ≤ v)
def vNum (v : Int) : Int := if 0 ≤ v then v else 0
set_option maxHeartbeats 400000 in
theorem value_any (c b : Int) (hc : 0 ≤ c ∧ c ≤ 255) (hb : b = 10 ∨ b = 16) (w : World) : Calls Try.prog 37 #[.int .u8 c, .int .u64 b] w fun e w' => e = .returned (.tuple #[.int .u64 (vNum (Lx.valB b c)), .bool (vOk (Lx.valB b c))]) ∧ w = w' := by
  obtain ⟨V, hV⟩ : ∃ V, Lx.valB b c = V := ⟨_, rfl⟩
  rw [hV]
  unfold Lx.valB at hV
  cases hD : Lx.digB c
  · rw [hD, if_neg (by decide)] at hV
    have HD := Lib.hid hD
    have HV := Lib.hid hV
    clear hD hV
    rcases hb with rfl | rfl
    · have e : V = -1 := by rw [← HV.out]; rfl
      rw [e]
      clear e HV
      go_enter Try.func37, Try.ntmps37
      go_wp2_with fail
      refine (digit_as c false hc HD _).mono ?_
      rintro e w1 ⟨rfl, rfl⟩
      go_wp2_with fail
      go_returns
      exact ⟨rt rfl rfl rfl rfl, rfl⟩
    · by_cases h1 : 97 ≤ c ∧ c ≤ 102
      · have e : V = c - 87 := by rw [← HV.out, if_pos ⟨rfl, h1⟩]
        rw [e]
        clear e HV
        obtain ⟨h1a, h1b⟩ := h1
        go_enter Try.func37, Try.ntmps37
        go_wp2_with fail
        refine (digit_as c false hc HD _).mono ?_
        rintro e w1 ⟨rfl, rfl⟩
        go_wp2_with fail
        go_returns
        exact ⟨rt rfl rfl (by unfold vNum; rw [if_pos (by omega)]; omega) (by unfold vOk; rw [decide_eq_true (by omega)]), rfl⟩
      · by_cases h2 : 65 ≤ c ∧ c ≤ 70
        · have e : V = c - 55 := by rw [← HV.out, if_neg (by omega), if_pos ⟨rfl, h2⟩]
          rw [e]
          clear e HV
          obtain ⟨h2a, h2b⟩ := h2
          have h1' : ¬ 97 ≤ c := by omega
          go_enter Try.func37, Try.ntmps37
          go_wp2_with fail
          refine (digit_as c false hc HD _).mono ?_
          rintro e w1 ⟨rfl, rfl⟩
          go_wp2_with fail
          go_returns
          exact ⟨rt rfl rfl (by unfold vNum; rw [if_pos (by omega)]; omega) (by unfold vOk; rw [decide_eq_true (by omega)]), rfl⟩
        · have e : V = -1 := by rw [← HV.out, if_neg (by omega), if_neg (by omega)]
          rw [e]
          clear e HV
          go_enter Try.func37, Try.ntmps37
          go_wp2_with fail
          refine (digit_as c false hc HD _).mono ?_
          rintro e w1 ⟨rfl, rfl⟩
          go_wp2_with fail
          all_goals go_returns
          all_goals first | exact ⟨rt rfl rfl rfl rfl, rfl⟩ | (exfalso; omega)
  · rw [hD, if_pos rfl] at hV
    have HD := Lib.hid hD
    have h9 := (Lx.digB_iff c).1 hD
    subst hV
    clear hD
    go_enter Try.func37, Try.ntmps37
    go_wp2_with fail
    refine (digit_as c true hc HD _).mono ?_
    rintro e w1 ⟨rfl, rfl⟩
    go_wp2_with fail
    go_returns
    exact ⟨rt rfl rfl (by unfold vNum; rw [if_pos (by omega)]) (by unfold vOk; rw [decide_eq_true (by omega)]), rfl⟩
end Go.Proofs.Ytlpoahjgonjelaa
