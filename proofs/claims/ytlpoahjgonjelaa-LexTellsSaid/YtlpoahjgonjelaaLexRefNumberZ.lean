/- The document's numbers: a first 0. -/
import Derived.Test.YtlpoahjgonjelaaLexRefNumber
namespace Go.Proofs.Ytlpoahjgonjelaa
open Go.RowKit
set_option linter.unusedVariables false

set_option maxRecDepth 100000 in
set_option maxHeartbeats 8000000 in
theorem rnumber_z (s : ByteArray) (i : Nat) (q0 : i < s.size) (hs : s.size ≤ 4611686018427387904) (h0 : Lx.pk s i = 48) (x1 : Int) (HX1 : Hid (Lx.pk s (i + 1) = x1)) (h1 : x1 ≠ 120) (w : World) :
    Calls Try.prog 33 #[.string s, .int .i64 (i : Int)] w (RTok s i (Lx.tailM s 10 i false) w) := by
  have q1 : (i : Int) < (s.size : Int) := by omega
  have q9 : (s[i].toNat : Int) = 48 := by rw [← Lx.pk_lt q0]; exact h0
  have hne : (x1 == 120) = false := beq_eq_false_iff_ne.2 h1
  have H0 := Lib.hid h0
  clear h0 h1
  have HN := Lib.hid (NB.start w i false)
  go_enter Try.func33, Try.ntmps33
  go_wp2_with fail
  refine (rat_as s (i + 1) _ x1 (by omega) hs HX1 _).mono ?_
  rintro e w1 ⟨rfl, rfl⟩
  go_wp2_with fail
  go_loopg [7, 8] (s.size - i) (fun g v u wr => ∃ (k f : Nat) (n : Int) (b : Bool), v = .int .i64 (k : Int) ∧ u = .bool b ∧ i ≤ k ∧ k ≤ s.size ∧ g = s.size - k ∧ g ≤ f ∧ 0 ≤ n ∧ n ≤ 18446744073709551615 ∧ Hid (Lx.digs s 10 s.size i 0 true = Lx.digs s 10 f k n (!b)) ∧ Hid (NB w i ⟨#[]⟩ ⟨#[]⟩ n false wr))
  case atStart => exact ⟨i, s.size, 0, false, rfl, rfl, by omega, by omega, rfl, by omega, by decide, by decide, Lib.hid rfl, HN⟩
  case round =>
    obtain ⟨k, f, n, b, rfl, rfl, hk0, hk, hg, hf, hn0, hn1, HE, H⟩ := hrel
    clear HN
    obtain ⟨c, hc⟩ : ∃ c, Lx.pk s k = c := ⟨_, rfl⟩
    have hcb := Lx.pk_bd s k
    obtain ⟨D, hD⟩ : ∃ D, Lx.digB c = D := ⟨_, rfl⟩
    rw [hc] at hcb
    have HDg := Lib.hid hD
    have HC := Lib.hid hc
    have HV : Hid (Lx.valB 10 c = if D = true then c - 48 else -1) := by
      refine Lib.hid ?_
      unfold Lx.valB; rw [hD]; cases D
      · rw [if_neg (by decide), if_neg (by omega), if_neg (by omega)]; rfl
      · rfl
    clear hc
    cases D
    · have HE1 : Hid (Lx.digs s 10 s.size i 0 true = (k, n, !b)) := by rw [HE.out]; exact Lib.hid (Lx.digs_no (by rw [HC.out, HV.out, if_neg Bool.false_ne_true]; omega))
      clear HE hD
      by_cases hki : i + 1 < k
      · have HT := Lib.hid (zero_more q0 H0.out HE1.out hki)
        have hki' : (i : Int) + 1 < (k : Int) := by omega
        obtain ⟨t0, t1, t2, t3, t4, t5, tf⟩ := H.out.a.cells
        obtain ⟨g0, g1, g2, g3, g4, g5, gf⟩ := H.out.b.cells
        clear hki
        go_wp2_with fail
        refine (rat_as s k _ c rfl hs HC _).mono ?_
        rintro e w1 ⟨rfl, rfl⟩
        go_wp2_with fail
        refine (rdigit_as c false hcb HDg _).mono ?_
        rintro e w1 ⟨rfl, rfl⟩
        dsimp only
        repeat go_step
        refine bodyPost_ret (v := .tuple #[.agg #[.int .i64 3, .int .i64 (i : Int), .string ⟨#[]⟩, .string ⟨#[]⟩, .int .u64 n, .bool false], .int .i64 3]) ?_ ?_ ?_
        · simp [results, Try.results33, go_sem, t0, t1, t2, t3, t4, t5]
        · rfl
        · rw [HT.out]
          refine ⟨_, _, _, _, _, _, rfl, (fun h => absurd h (show ¬ (3 : Int) = 0 by decide)), ?_⟩
          repeat (with_reducible refine gn_set ?_ (Nat.le_refl _) _ _)
          exact H.out.g
      · have HE2 : Hid (Lx.digM s 10 i = (k, n, !b)) := Lib.hid (zero_one q0 H0.out HE1.out hki)
        have hki' : ¬ (i : Int) + 1 < (k : Int) := by omega
        clear hki
        go_wp2_with fail
        refine (rat_as s k _ c rfl hs HC _).mono ?_
        rintro e w1 ⟨rfl, rfl⟩
        go_wp2_with fail
        refine (rdigit_as c false hcb HDg _).mono ?_
        rintro e w1 ⟨rfl, rfl⟩
        go_wp2_with fail
        obtain ⟨d, hd⟩ : ∃ d, Lx.pk s (k + 1) = d := ⟨_, rfl⟩
        have HD := Lib.hid hd
        clear hd
        refine (rat_as s k _ c rfl hs HC _).mono ?_
        rintro e w1 ⟨rfl, rfl⟩
        go_upto_if 100 with fail
        obtain ⟨k1, hk1⟩ : ∃ k1, (if c = 117 then k + 1 else k) = k1 := ⟨_, rfl⟩
        go_cut [7] (fun v wx => v = .int .i64 (k1 : Int) ∧ wr = wx)
        case first =>
          by_cases h117 : c = 117
          · rw [if_pos h117] at hk1
            subst hk1
            have q9 : (c == 117) = true := beq_iff_eq.2 h117
            clear h117
            go_wp2_with fail
            go_meet
            exact ⟨by go_num, rfl⟩
          · rw [if_neg h117] at hk1
            subst hk1
            have q9 : (c == 117) = false := beq_eq_false_iff_ne.2 h117
            clear h117
            go_wp2_with fail
            go_meet
            exact ⟨rfl, rfl⟩
        case rest =>
          obtain ⟨rfl, rfl⟩ := hcut
          obtain ⟨d1, hd1⟩ : ∃ d1, Lx.pk s k1 = d1 := ⟨_, rfl⟩
          have HD1 := Lib.hid hd1
          obtain ⟨E, hE⟩ : ∃ E, (if d1 = 108 then k1 + 1 else k1) = E := ⟨_, rfl⟩
          have hk1b : k ≤ k1 ∧ k1 ≤ s.size := by
            by_cases h117 : c = 117
            · rw [if_pos h117] at hk1
              have := Lx.pk_in (s := s) (i := k) (by rw [HC.out, h117]; decide)
              omega
            · rw [if_neg h117] at hk1; omega
          have hEb : k1 ≤ E ∧ E ≤ s.size := by
            by_cases h108 : d1 = 108
            · rw [if_pos h108] at hE
              have := Lx.pk_in (s := s) (i := k1) (by rw [hd1, h108]; decide)
              omega
            · rw [if_neg h108] at hE; omega
          have HEE : Hid (E = k + Lx.sufLen s k) := by
            refine Lib.hid ?_
            unfold Lx.sufLen
            rw [HC.out]
            by_cases h117 : c = 117
            · rw [if_pos h117] at hk1
              rw [if_pos h117, hk1, hd1, ← hE]
              split <;> omega
            · rw [if_neg h117] at hk1
              subst hk1
              have : d1 = c := hd1.symm.trans HC.out
              rw [if_neg h117, ← hE, this]
              split <;> omega
          clear hd1 hk1
          go_wp2_with fail
          refine (rat_as s k1 _ d1 rfl hs HD1 _).mono ?_
          rintro e w1 ⟨rfl, rfl⟩
          go_upto_if 106 with fail
          go_cut [7] (fun v wx => v = .int .i64 (E : Int) ∧ wr = wx)
          case first =>
            by_cases h108 : d1 = 108
            · rw [if_pos h108] at hE
              subst hE
              have q9 : (d1 == 108) = true := beq_iff_eq.2 h108
              clear h108
              go_wp2_with fail
              go_meet
              exact ⟨by go_num, rfl⟩
            · rw [if_neg h108] at hE
              subst hE
              have q9 : (d1 == 108) = false := beq_eq_false_iff_ne.2 h108
              clear h108
              go_wp2_with fail
              go_meet
              exact ⟨rfl, rfl⟩
          case rest =>
            obtain ⟨rfl, rfl⟩ := hcut
            obtain ⟨g0, g1, g2, g3, g4, g5, gf⟩ := H.out.b.cells
            have b1 : (k : Int) ≤ (E : Int) := by omega
            have b2 : (i : Int) ≤ (E : Int) := by omega
            have b3 : (E : Int) ≤ (s.size : Int) := by omega
            clear hE
            go_upto_region 26 with fail
            go_cut [] (fun wx => NB w i (s.extract i E) (s.extract k E) n false wx)
            case first =>
              go_region
              all_goals (go_wp2_with fail; go_meet)
              all_goals exact ((H.out.sufd _).texted _).drew
            case rest =>
              have N2 := Lib.hid hcut
              clear hcut H g0 g1 g2 g3 g4 g5 gf
              obtain ⟨c3, hc3⟩ : ∃ c, Lx.pk s E = c := ⟨_, rfl⟩
              have hb3 := Lx.pk_bd s E
              rw [hc3] at hb3
              have HC3 := Lib.hid hc3
              obtain ⟨D, hD⟩ : ∃ D, Lx.digB c3 = D := ⟨_, rfl⟩
              obtain ⟨L, hL⟩ : ∃ L, Lx.letB c3 = L := ⟨_, rfl⟩
              have HD3 := Lib.hid hD
              have HL3 := Lib.hid hL
              have HEn : Hid (Lx.nEnd s 10 (i) = E) := by
                refine Lib.hid ?_
                unfold Lx.nEnd; rw [HE2.out]; exact HEE.out.symm
              have HCd : Hid (Lx.nCode s 10 (i) = if (L || D) = true then 3 else if (!b) = true then 0 else 6) := by
                refine Lib.hid ?_
                unfold Lx.nCode Lx.inB
                rw [HEn.out, hc3, hL, hD, HE2.out]
              have HSf : Hid (E = k + Lx.sufLen s k → s.extract k E = Lx.sufStr s k) := Lib.hid (fun h => by rw [h]; exact sufStr_ext s k)
              clear hc3 hD hL
              obtain ⟨t0, t1, t2, t3, t4, t5, tf⟩ := N2.out.a.cells
              obtain ⟨g0, g1, g2, g3, g4, g5, gf⟩ := N2.out.b.cells
              cases D
              · cases L
                · cases b
                  · have HT : Hid (Lx.tailM s 10 (i) false = ⟨0, E, 3, Lx.sufStr s k, n, false⟩) := by
                      refine Lib.hid ?_
                      unfold Lx.tailM; rw [HCd.out, HEn.out, HE2.out]; rfl
                    go_wp2_with fail
                    refine (rat_as s E _ c3 rfl hs HC3 _).mono ?_
                    rintro e w1 ⟨rfl, rfl⟩
                    go_wp2_with fail
                    refine (rdigit_as c3 _ hb3 HD3 _).mono ?_
                    rintro e w1 ⟨rfl, rfl⟩
                    go_wp2_with fail
                    refine (rat_as s E _ c3 rfl hs HC3 _).mono ?_
                    rintro e w1 ⟨rfl, rfl⟩
                    go_wp2_with fail
                    refine (rletter_as c3 _ hb3 HL3 _).mono ?_
                    rintro e w1 ⟨rfl, rfl⟩
                    dsimp only
                    repeat go_step
                    refine bodyPost_ret (v := .tuple #[.agg #[.int .i64 3, .int .i64 (i : Int), .string (s.extract i E), .string (s.extract k E), .int .u64 n, .bool false], .int .i64 0]) ?_ ?_ ?_
                    · simp [results, Try.results33, go_sem, t0, t1, t2, t3, t4, t5]
                    · rfl
                    · rw [HT.out]
                      refine ⟨_, _, _, _, _, _, rfl, (fun _ => ⟨rfl, rfl, rfl, HSf.out HEE.out, rfl, rfl⟩), ?_⟩
                      repeat (with_reducible refine gn_set ?_ (Nat.le_refl _) _ _)
                      exact N2.out.g
                  · have HT : Hid (Lx.tailM s 10 (i) false = Lx.bad 6 E) := by
                      refine Lib.hid ?_
                      unfold Lx.tailM; rw [HCd.out, HEn.out]; rfl
                    go_wp2_with fail
                    refine (rat_as s E _ c3 rfl hs HC3 _).mono ?_
                    rintro e w1 ⟨rfl, rfl⟩
                    go_wp2_with fail
                    refine (rdigit_as c3 _ hb3 HD3 _).mono ?_
                    rintro e w1 ⟨rfl, rfl⟩
                    go_wp2_with fail
                    refine (rat_as s E _ c3 rfl hs HC3 _).mono ?_
                    rintro e w1 ⟨rfl, rfl⟩
                    go_wp2_with fail
                    refine (rletter_as c3 _ hb3 HL3 _).mono ?_
                    rintro e w1 ⟨rfl, rfl⟩
                    dsimp only
                    repeat go_step
                    refine bodyPost_ret (v := .tuple #[.agg #[.int .i64 3, .int .i64 (i : Int), .string (s.extract i E), .string (s.extract k E), .int .u64 n, .bool false], .int .i64 6]) ?_ ?_ ?_
                    · simp [results, Try.results33, go_sem, t0, t1, t2, t3, t4, t5]
                    · rfl
                    · rw [HT.out]
                      refine ⟨_, _, _, _, _, _, rfl, (fun h => absurd h (show ¬ (6 : Int) = 0 by decide)), ?_⟩
                      repeat (with_reducible refine gn_set ?_ (Nat.le_refl _) _ _)
                      exact N2.out.g
                · have HT : Hid (Lx.tailM s 10 (i) false = Lx.bad 3 E) := by
                    refine Lib.hid ?_
                    unfold Lx.tailM; rw [HCd.out, HEn.out]; rfl
                  go_wp2_with fail
                  refine (rat_as s E _ c3 rfl hs HC3 _).mono ?_
                  rintro e w1 ⟨rfl, rfl⟩
                  go_wp2_with fail
                  refine (rdigit_as c3 _ hb3 HD3 _).mono ?_
                  rintro e w1 ⟨rfl, rfl⟩
                  go_wp2_with fail
                  refine (rat_as s E _ c3 rfl hs HC3 _).mono ?_
                  rintro e w1 ⟨rfl, rfl⟩
                  go_wp2_with fail
                  refine (rletter_as c3 _ hb3 HL3 _).mono ?_
                  rintro e w1 ⟨rfl, rfl⟩
                  dsimp only
                  repeat go_step
                  refine bodyPost_ret (v := .tuple #[.agg #[.int .i64 3, .int .i64 (i : Int), .string (s.extract i E), .string (s.extract k E), .int .u64 n, .bool false], .int .i64 3]) ?_ ?_ ?_
                  · simp [results, Try.results33, go_sem, t0, t1, t2, t3, t4, t5]
                  · rfl
                  · rw [HT.out]
                    refine ⟨_, _, _, _, _, _, rfl, (fun h => absurd h (show ¬ (3 : Int) = 0 by decide)), ?_⟩
                    repeat (with_reducible refine gn_set ?_ (Nat.le_refl _) _ _)
                    exact N2.out.g
              · have HT : Hid (Lx.tailM s 10 (i) false = Lx.bad 3 E) := by
                  refine Lib.hid ?_
                  unfold Lx.tailM; rw [HCd.out, HEn.out, Bool.or_true]; rfl
                go_wp2_with fail
                refine (rat_as s E _ c3 rfl hs HC3 _).mono ?_
                rintro e w1 ⟨rfl, rfl⟩
                go_wp2_with fail
                refine (rdigit_as c3 _ hb3 HD3 _).mono ?_
                rintro e w1 ⟨rfl, rfl⟩
                dsimp only
                repeat go_step
                refine bodyPost_ret (v := .tuple #[.agg #[.int .i64 3, .int .i64 (i : Int), .string (s.extract i E), .string (s.extract k E), .int .u64 n, .bool false], .int .i64 3]) ?_ ?_ ?_
                · simp [results, Try.results33, go_sem, t0, t1, t2, t3, t4, t5]
                · rfl
                · rw [HT.out]
                  refine ⟨_, _, _, _, _, _, rfl, (fun h => absurd h (show ¬ (3 : Int) = 0 by decide)), ?_⟩
                  repeat (with_reducible refine gn_set ?_ (Nat.le_refl _) _ _)
                  exact N2.out.g
    · have hd9 := (Lx.digB_iff c).1 hD
      clear hD
      have hlt : k < s.size := Lx.valB_in (b := 10) (by rw [HC.out, HV.out, if_pos rfl]; omega)
      have hlt' : (k : Int) < (s.size : Int) := by omega
      have hp := Lx.pk_lt hlt
      rw [HC.out] at hp
      have HP := Lib.hid hp.symm
      clear hp
      obtain ⟨f, rfl⟩ : ∃ f', f = f' + 1 := ⟨f - 1, by omega⟩
      obtain ⟨V, hV⟩ : ∃ V, c - 48 = V := ⟨_, rfl⟩
      have hVb : 0 ≤ V ∧ V ≤ 9 := by omega
      have HE2 : Hid (Lx.digs s 10 s.size i 0 true = Lx.digs s 10 f (k + 1) ((n * 10 + V) % 18446744073709551616) ((!b) && decide (n ≤ (18446744073709551615 - V) / 10))) := by
        rw [HE.out]; exact Lib.hid (by rw [Lx.digs_yes (by rw [HC.out, HV.out, if_pos rfl]; omega), HC.out, HV.out, if_pos rfl, hV])
      clear HE
      obtain ⟨g0, g1, g2, g3, g4, g5, gf⟩ := H.out.b.cells
      have HO : Hid ((!b && decide (n ≤ (18446744073709551615 - V) / 10)) = !(b || decide ((18446744073709551615 - V) / 10 < n))) := by
        refine Lib.hid ?_
        cases b
        · rw [Bool.eq_iff_iff]; simp
        · rfl
      rw [HO.out] at HE2
      clear HO
      have hp2 := HP.out
      have hw1 : IntKind.u8.wrap (c - 48) = V := by rw [hV]; simp only [IntKind.wrap, IntKind.bits, IntKind.signed]; simp; omega
      have hw2 : IntKind.u64.wrap V = V := by simp only [IntKind.wrap, IntKind.bits, IntKind.signed]; simp; omega
      have hw3 : IntKind.u64.wrap (18446744073709551615 - V) = 18446744073709551615 - V := by simp only [IntKind.wrap, IntKind.bits, IntKind.signed]; simp; omega
      have hw4 : (18446744073709551615 - V).tdiv 10 = (18446744073709551615 - V) / 10 := Int.tdiv_eq_ediv_of_nonneg (by omega)
      obtain ⟨b', hb'⟩ : ∃ b', (b || decide ((18446744073709551615 - V) / 10 < n)) = b' := ⟨_, rfl⟩
      rw [hb'] at HE2
      have HB := Lib.hid hb'
      clear hb' hV
      cases b
      all_goals
        go_wp2_with fail
        refine (rat_as s k _ c rfl hs HC _).mono ?_
        rintro e w1 ⟨rfl, rfl⟩
        go_wp2_with fail
        refine (rdigit_as c true hcb HDg _).mono ?_
        rintro e w1 ⟨rfl, rfl⟩
        go_wp2_with fail
        go_roundg (s.size - (k + 1))
        case rel =>
          refine ⟨k + 1, f, (n * 10 + V) % 18446744073709551616, b', by go_num, ?_, by omega, by omega, rfl, by omega, Int.emod_nonneg _ (by decide), by omega, HE2, ?_⟩
          · rw [← HB.out]; rfl
          · refine Lib.hid (NB.num (n := (n * 10 + V) % 18446744073709551616) H.out ?_)
            first | rfl | omega | (simp only [IntKind.wrap, IntKind.bits, IntKind.signed]; simp; done) | (simp only [IntKind.wrap, IntKind.bits, IntKind.signed]; simp; omega)
        case measure => omega
end Go.Proofs.Ytlpoahjgonjelaa
