/- The document's lexer: its bytes, letters, digits, gaps. -/
import Derived.Test.YtlpoahjgonjelaaLexLeaves
import Derived.Deep.LoopGhost
namespace Go.Proofs.Ytlpoahjgonjelaa
open Go.RowKit
set_option linter.unusedVariables false

theorem rat_as (s : ByteArray) (k : Nat) (o c : Int) (ho : o = (k : Int)) (hs : s.size ≤ 4611686018427387904) (HC : Hid (Lx.pk s k = c)) (w : World) :
    Calls Try.prog 30 #[.string s, .int .i64 o] w fun e w' => e = .returned (.int .u8 c) ∧ w = w' := by
  subst ho
  rw [← HC.out]
  by_cases hlt : k < s.size
  · have hlt' : (k : Int) < (s.size : Int) := by omega
    have HP := Lib.hid (Lx.pk_lt hlt)
    go_enter Try.func30, Try.ntmps30
    go_wp2
    go_returns
    exact ⟨ri rfl HP.out.symm, rfl⟩
  · have hlt' : ¬ (k : Int) < (s.size : Int) := by omega
    have HP := Lib.hid (Lx.pk_ge hlt)
    go_enter Try.func30, Try.ntmps30
    go_wp2
    go_returns
    exact ⟨ri rfl HP.out.symm, rfl⟩
theorem rletter_as (c : Int) (L : Bool) (hc : 0 ≤ c ∧ c ≤ 255) (HL : Hid (Lx.letB c = L)) (w : World) : Calls Try.prog 31 #[.int .u8 c] w fun e w' => e = .returned (.bool L) ∧ w = w' := by
  rw [← HL.out]
  go_enter Try.func31, Try.ntmps31
  go_wp2
  all_goals go_returns
  all_goals exact ⟨rb rfl (by rw [Bool.eq_iff_iff, Lx.letB_iff]; simp; omega), rfl⟩
theorem rdigit_as (c : Int) (L : Bool) (hc : 0 ≤ c ∧ c ≤ 255) (HL : Hid (Lx.digB c = L)) (w : World) : Calls Try.prog 32 #[.int .u8 c] w fun e w' => e = .returned (.bool L) ∧ w = w' := by
  rw [← HL.out]
  go_enter Try.func32, Try.ntmps32
  go_wp2
  all_goals go_returns
  all_goals exact ⟨rb rfl (by rw [Bool.eq_iff_iff, Lx.digB_iff]; simp; omega), rfl⟩
set_option maxHeartbeats 400000 in
theorem rhex_as (c V : Int) (hc : 0 ≤ c ∧ c ≤ 255) (HV : Hid (Lx.valB 16 c = V)) (w : World) : Calls Try.prog 40 #[.int .u8 c] w fun e w' => e = .returned (.int .i64 V) ∧ w = w' := by
  have hV := HV.out
  unfold Lx.valB at hV
  clear HV
  cases hD : Lx.digB c
  · rw [hD, if_neg (by decide)] at hV
    have HD := Lib.hid hD
    clear hD
    by_cases h1 : 97 ≤ c ∧ c ≤ 102
    · rw [if_pos ⟨rfl, h1⟩] at hV
      have HV := Lib.hid hV
      clear hV
      obtain ⟨a, b⟩ := h1
      go_enter Try.func40, Try.ntmps40
      go_wp2_with fail
      refine (rdigit_as c false hc HD _).mono ?_
      rintro e w1 ⟨rfl, rfl⟩
      go_wp2_with fail
      go_returns
      exact ⟨ri rfl (by rw [← HV.out]; omega), rfl⟩
    · by_cases h2 : 65 ≤ c ∧ c ≤ 70
      · rw [if_neg (fun h => h1 h.2), if_pos ⟨rfl, h2⟩] at hV
        have HV := Lib.hid hV
        clear hV
        obtain ⟨a, b⟩ := h2
        have h1' : ¬ 97 ≤ c := by omega
        go_enter Try.func40, Try.ntmps40
        go_wp2_with fail
        refine (rdigit_as c false hc HD _).mono ?_
        rintro e w1 ⟨rfl, rfl⟩
        go_wp2_with fail
        go_returns
        exact ⟨ri rfl (by rw [← HV.out]; omega), rfl⟩
      · rw [if_neg (fun h => h1 h.2), if_neg (fun h => h2 h.2)] at hV
        have HV := Lib.hid hV
        clear hV
        go_enter Try.func40, Try.ntmps40
        go_wp2_with fail
        refine (rdigit_as c false hc HD _).mono ?_
        rintro e w1 ⟨rfl, rfl⟩
        go_wp2_with fail
        all_goals go_returns
        all_goals first | exact ⟨ri rfl HV.out, rfl⟩ | (exfalso; omega)
  · rw [hD, if_pos rfl] at hV
    have HD := Lib.hid hD
    have h9 := (Lx.digB_iff c).1 hD
    have HV := Lib.hid hV
    clear hD hV
    go_enter Try.func40, Try.ntmps40
    go_wp2_with fail
    refine (rdigit_as c true hc HD _).mono ?_
    rintro e w1 ⟨rfl, rfl⟩
    go_wp2_with fail
    go_returns
    exact ⟨ri rfl HV.out, rfl⟩
end Go.Proofs.Ytlpoahjgonjelaa
