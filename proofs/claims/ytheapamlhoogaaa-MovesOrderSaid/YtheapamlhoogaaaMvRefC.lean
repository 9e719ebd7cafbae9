/- The document's answers on moves: Least. -/
import Derived.Test.YtheapamlhoogaaaMvRefB
namespace Go.Proofs.Ytheapamlhoogaaa
open Go.RowKit Go.Maps
set_option linter.unusedVariables false
set_option linter.unusedSimpArgs false

theorem least_at {l r : List Mv.Pr} {i : Nat} {t : Mv.Pr} (h : r[i]? = some t) : Mv.leastG l (r.drop i) = (if t.1 = t.2 then 0 else 1 + (if Mv.bonus l t.1 t.2 = true then 1 else 0)) + Mv.leastG l (r.drop (i + 1)) := by
  rw [drop_at h]; rfl
theorem leastG_le (l : List Mv.Pr) : ∀ r : List Mv.Pr, Mv.leastG l r ≤ 2 * r.length
  | [] => Nat.le_refl _
  | (t, s) :: r => by
    have := leastG_le l r
    rw [Mv.leastG, List.length_cons]
    split
    · omega
    · split <;> omega
theorem fromR_bd : ∀ (l : List Mv.Pr) (x : Int), (∀ t ∈ l, I64 t.1 ∧ I64 t.2) → I64 (Mv.fromR l x)
  | [], x, _ => by show I64 (-1); unfold I64; omega
  | (a, b) :: l, x, h => by
    rw [Mv.fromR]
    split
    · exact (h _ (List.mem_cons_self ..)).2
    · exact fromR_bd l x (fun t ht => h t (List.mem_cons_of_mem _ ht))
set_option maxRecDepth 100000 in
set_option maxHeartbeats 4000000 in
theorem rleast_any (a : Option Addr) (n cap : Nat) (l : List Mv.Pr) (w : World) (hM : Movs w a n l) (hn : n ≤ 1000000) :
    Calls Try.prog 12 #[.slice a n cap] w fun e w' => e = .returned (.int .i64 (Mv.leastR l : Nat)) ∧ ∃ m, w.drewN m = w' := by
  obtain ⟨X, hX⟩ : ∃ X, Mv.leastR l = X := ⟨_, rfl⟩
  rw [hX]
  have hX2 : X ≤ 2 * n := by rw [← hX, ← hM.len]; exact leastG_le l l
  have HX := Lib.hid hX
  have HR := Lib.hid hM
  have HFB := Lib.hid (fun x => fromR_bd l x hM.bd)
  have HFC := Lib.hid (fun (x : Int) (m : Nat) => rfrom_any a n cap l x (w.drewN m) (hM.drewN m) hn)
  clear hX hM
  go_enter Try.func12, Try.ntmps12
  go_wp2_with fail
  go_loopg [3, 4] n (fun g v u wr => ∃ i c m : Nat, u = .int .i64 (i : Int) ∧ i ≤ n ∧ g = n - i ∧ v = .int .i64 (c : Int) ∧ c + Mv.leastG l (l.drop i) = X ∧ w.drewN m = wr)
  case atStart => exact ⟨0, 0, 0, rfl, Nat.zero_le _, rfl, rfl, by have := HX.out; unfold Mv.leastR at this; simpa using this, rfl⟩
  case round =>
    obtain ⟨i, c, m, rfl, hi, hg, rfl, hcX, rfl⟩ := hrel
    by_cases hlt : i < n
    · have hlt' : (i : Int) < (n : Int) := by omega
      have i0 : (0 : Int) ≤ (i : Int) := by omega
      obtain ⟨t, b, off, ht, rfl, k1, k2, ib1, ib2⟩ := HR.out.get hlt
      have HL := Lib.hid (least_at (l := l) ht)
      obtain ⟨T, S⟩ := t
      simp only at k1 k2 HL ib1 ib2
      clear ht
      by_cases he : T = S
      · have he1 : (T == S) = true := beq_iff_eq.2 he
        have hc2 : c + Mv.leastG l (l.drop (i + 1)) = X := by rw [HL.out, if_pos he] at hcX; omega
        clear HL
        go_wp2_with fail
        try go_quiet (fail)
        go_wp2_with fail
        go_roundg (n - (i + 1))
        case rel => exact ⟨i + 1, c, _, by go_num, by omega, rfl, by rfl, hc2, rfl⟩
        case measure => omega
      · have he1 : (T == S) = false := beq_eq_false_iff_ne.2 he
        obtain ⟨E, hE⟩ : ∃ E, Mv.walkR l T l.length T S = E := ⟨_, rfl⟩
        have HB : Hid (Mv.bonus l T S = (decide (E.2 = T) && decide (E.1 = T))) := Lib.hid (by unfold Mv.bonus; rw [hE])
        have hE2 : Mv.walkR l T (n - 0) T S = E := by rw [Nat.sub_zero, ← HR.out.len]; exact hE
        have HE := Lib.hid hE2
        clear hE hE2
        go_wp2_with fail
        go_quiet (fail)
        go_wp2_with fail
        try go_quiet (fail)
        go_wp2_with fail
        go_loopg [5, 6, 7] n (fun g x y u wr => ∃ (k m2 : Nat) (L A : Int), u = .int .i64 (k : Int) ∧ k ≤ n ∧ g = n - k ∧ x = .int .i64 L ∧ y = .int .i64 A ∧ I64 L ∧ I64 A ∧ Hid (Mv.walkR l T (n - k) L A = E) ∧ w.drewN m2 = wr)
        case atStart => exact ⟨0, _, T, S, rfl, Nat.zero_le _, rfl, rfl, rfl, ib1, ib2, HE, (World.drewN_drewN _ _ _).symm⟩
        case round =>
          clear HE
          obtain ⟨k, m2, L, A, rfl, hk, hgk, rfl, rfl, hL, hA, HE, rfl⟩ := hrel
          by_cases hlk : k < n
          · have hlk' : (k : Int) < (n : Int) := by omega
            have hE := HE.out
            rw [show n - k = (n - (k + 1)) + 1 by omega, Mv.walkR] at hE
            by_cases hA0 : 0 ≤ A
            · have hA0' : (A < 0) = False := eq_false (by omega)
              by_cases hAT : A = T
              · have hX : E = (L, A) := by rw [if_neg (fun e => e.2 hAT)] at hE; exact hE.symm
                have HXX := Lib.hid hX
                have h1 : (A == T) = true := beq_iff_eq.2 hAT
                have h2 : (A != T) = false := by rw [bne_eq_false_iff_eq]; exact hAT
                clear hE hX
                by_cases hLT : L = T
                · have h3 : (L == T) = true := beq_iff_eq.2 hLT
                  have hc2 : (c + 1 + 1) + Mv.leastG l (l.drop (i + 1)) = X := by
                    rw [HL.out, if_neg he, HB.out, HXX.out] at hcX
                    simp only [hAT, hLT, decide_true, Bool.and_true, Bool.true_and] at hcX
                    simp at hcX
                    omega
                  clear HXX HL HB
                  go_wp2_with fail
                  go_roundg (n - (i + 1))
                  case rel => exact ⟨i + 1, (c + 1 + 1), _, by go_num, by omega, rfl, by go_num, hc2, rfl⟩
                  case measure => omega
                · have h3 : (L == T) = false := beq_eq_false_iff_ne.2 hLT
                  have hc2 : (c + 1) + Mv.leastG l (l.drop (i + 1)) = X := by
                    rw [HL.out, if_neg he, HB.out, HXX.out] at hcX
                    simp only [hAT, hLT, decide_true, decide_false, Bool.and_false, Bool.true_and] at hcX
                    simp at hcX
                    omega
                  clear HXX HL HB
                  go_wp2_with fail
                  go_roundg (n - (i + 1))
                  case rel => exact ⟨i + 1, (c + 1), _, by go_num, by omega, rfl, by go_num, hc2, rfl⟩
                  case measure => omega
              · have hE2 : Mv.walkR l T (n - (k + 1)) (min L A) (Mv.fromR l A) = E := by rw [if_pos ⟨hA0, hAT⟩] at hE; exact hE
                have HE2 := Lib.hid hE2
                have h1 : (A == T) = false := beq_eq_false_iff_ne.2 hAT
                have h2 : (A != T) = true := bne_iff_ne.2 hAT
                clear hE hE2
                by_cases hAL : A < L
                · have hmn : min L A = A := by omega
                  rw [hmn] at HE2
                  go_wp2_with fail
                  obtain ⟨F, hF⟩ : ∃ F, Mv.fromR l A = F := ⟨_, rfl⟩
                  have hFc := HFC.out A m2
                  have hFb := HFB.out A
                  have HE3 := HE2.out
                  rw [hF] at hFc hFb HE3
                  have HE4 := Lib.hid HE3
                  refine hFc.mono ?_
                  rintro e w3 ⟨rfl, m3, rfl⟩
                  clear hFc HE3 HE2 hF
                  go_wp2_with fail
                  go_roundg (n - (k + 1))
                  case rel => exact ⟨k + 1, _, A, F, by go_num, by omega, rfl, rfl, rfl, hA, hFb, HE4, rfl⟩
                  case measure => omega
                · have hmn : min L A = L := by omega
                  rw [hmn] at HE2
                  go_wp2_with fail
                  obtain ⟨F, hF⟩ : ∃ F, Mv.fromR l A = F := ⟨_, rfl⟩
                  have hFc := HFC.out A m2
                  have hFb := HFB.out A
                  have HE3 := HE2.out
                  rw [hF] at hFc hFb HE3
                  have HE4 := Lib.hid HE3
                  refine hFc.mono ?_
                  rintro e w3 ⟨rfl, m3, rfl⟩
                  clear hFc HE3 HE2 hF
                  go_wp2_with fail
                  go_roundg (n - (k + 1))
                  case rel => exact ⟨k + 1, _, L, F, by go_num, by omega, rfl, rfl, rfl, hL, hFb, HE4, rfl⟩
                  case measure => omega
            · have hX : E = (L, A) := by rw [if_neg (fun e => hA0 e.1)] at hE; exact hE.symm
              have HXX := Lib.hid hX
              have hAT : A ≠ T ∨ A = T := Or.symm (Decidable.em (A = T))
              clear hE hX
              rcases hAT with hAT | hAT
              · have h1 : (A == T) = false := beq_eq_false_iff_ne.2 hAT
                have hc2 : (c + 1) + Mv.leastG l (l.drop (i + 1)) = X := by
                  rw [HL.out, if_neg he, HB.out, HXX.out] at hcX
                  simp only [hAT, decide_false, Bool.false_and] at hcX
                  simp at hcX
                  omega
                clear HXX HL HB
                go_wp2_with fail
                go_roundg (n - (i + 1))
                case rel => exact ⟨i + 1, (c + 1), _, by go_num, by omega, rfl, by go_num, hc2, rfl⟩
                case measure => omega
              · have h1 : (A == T) = true := beq_iff_eq.2 hAT
                by_cases hLT : L = T
                · have h3 : (L == T) = true := beq_iff_eq.2 hLT
                  have hc2 : (c + 1 + 1) + Mv.leastG l (l.drop (i + 1)) = X := by
                    rw [HL.out, if_neg he, HB.out, HXX.out] at hcX
                    simp only [hAT, hLT, decide_true, Bool.and_true, Bool.true_and] at hcX
                    simp at hcX
                    omega
                  clear HXX HL HB
                  go_wp2_with fail
                  go_roundg (n - (i + 1))
                  case rel => exact ⟨i + 1, (c + 1 + 1), _, by go_num, by omega, rfl, by go_num, hc2, rfl⟩
                  case measure => omega
                · have h3 : (L == T) = false := beq_eq_false_iff_ne.2 hLT
                  have hc2 : (c + 1) + Mv.leastG l (l.drop (i + 1)) = X := by
                    rw [HL.out, if_neg he, HB.out, HXX.out] at hcX
                    simp only [hAT, hLT, decide_true, decide_false, Bool.and_false, Bool.true_and] at hcX
                    simp at hcX
                    omega
                  clear HXX HL HB
                  go_wp2_with fail
                  go_roundg (n - (i + 1))
                  case rel => exact ⟨i + 1, (c + 1), _, by go_num, by omega, rfl, by go_num, hc2, rfl⟩
                  case measure => omega
          · obtain rfl : k = n := by omega
            have hlk' : ¬ (k : Int) < (k : Int) := by omega
            have hX : E = (L, A) := by have := HE.out; rw [Nat.sub_self] at this; exact this.symm
            have HXX := Lib.hid hX
            clear hX
            by_cases hAT : A = T
            · have h1 : (A == T) = true := beq_iff_eq.2 hAT
              by_cases hLT : L = T
              · have h3 : (L == T) = true := beq_iff_eq.2 hLT
                have hc2 : (c + 1 + 1) + Mv.leastG l (l.drop (i + 1)) = X := by
                  rw [HL.out, if_neg he, HB.out, HXX.out] at hcX
                  simp only [hAT, hLT, decide_true, Bool.and_true, Bool.true_and] at hcX
                  simp at hcX
                  omega
                clear HXX HL HB
                go_wp2_with fail
                go_roundg (k - (i + 1))
                case rel => exact ⟨i + 1, (c + 1 + 1), _, by go_num, by omega, rfl, by go_num, hc2, rfl⟩
                case measure => omega
              · have h3 : (L == T) = false := beq_eq_false_iff_ne.2 hLT
                have hc2 : (c + 1) + Mv.leastG l (l.drop (i + 1)) = X := by
                  rw [HL.out, if_neg he, HB.out, HXX.out] at hcX
                  simp only [hAT, hLT, decide_true, decide_false, Bool.and_false, Bool.true_and] at hcX
                  simp at hcX
                  omega
                clear HXX HL HB
                go_wp2_with fail
                go_roundg (k - (i + 1))
                case rel => exact ⟨i + 1, (c + 1), _, by go_num, by omega, rfl, by go_num, hc2, rfl⟩
                case measure => omega
            · have h1 : (A == T) = false := beq_eq_false_iff_ne.2 hAT
              have hc2 : (c + 1) + Mv.leastG l (l.drop (i + 1)) = X := by
                rw [HL.out, if_neg he, HB.out, HXX.out] at hcX
                simp only [hAT, decide_false, Bool.false_and] at hcX
                simp at hcX
                omega
              clear HXX HL HB
              go_wp2_with fail
              go_roundg (k - (i + 1))
              case rel => exact ⟨i + 1, (c + 1), _, by go_num, by omega, rfl, by go_num, hc2, rfl⟩
              case measure => omega
    · obtain rfl : i = n := by omega
      have hlt' : ¬ (i : Int) < (i : Int) := by omega
      have hc2 : c = X := by rw [List.drop_of_length_le (by rw [HR.out.len]; exact Nat.le_refl _)] at hcX; exact hcX
      subst hc2
      go_wp2_with fail
      go_returns
      exact ⟨rfl, _, rfl⟩
end Go.Proofs.Ytheapamlhoogaaa
