/- The law MovesOrder, walked. -/
import Derived.Test.YtheapamlhoogaaaMvSumm
import Derived.Test.YtheapamlhoogaaaMvAwake
namespace Go.Proofs.Ytheapamlhoogaaa
open Go.RowKit Go.Maps
set_option linter.unusedVariables false
set_option linter.unusedSimpArgs false
theorem any_of : ∀ {l : List Mv.Pr} {m : Mv.Pr} {x : Int}, m ∈ l → m.1 = x → Mv.anyR l x = true
  | [], _, _, h, _ => by cases h
  | (a, b) :: l, m, x, h, e => by
    rw [Mv.anyR, Bool.or_eq_true]
    rcases List.mem_cons.1 h with rfl | h
    · exact .inl (decide_eq_true e)
    · exact .inr (any_of h e)
set_option maxRecDepth 100000 in
set_option maxHeartbeats 4000000 in
theorem movesOrder_walk (a : Option Addr) (n cap : Nat) (l : List Mv.Pr) (sp : Int) (wsp : I64 sp) (w : World) (hM : Movs w a n l) (hna : a = none → n = 0 ∧ cap = 0) (hn : n ≤ 9223372036854775807) :
    Calls Try.prog 3 #[.slice a n cap, .int .i64 sp] w fun e w' => e = .returned (.bool true) ∧ Below w.heap.size w w' := by
  have HM := Lib.hid hM
  have HNA := Lib.hid hna
  clear hM hna
  by_cases h80 : n ≤ 80
  · have h80' : ¬ (80 : Int) < (n : Int) := by omega
    obtain ⟨res, ok, hA⟩ := asked l sp
    have HA := Lib.hid hA
    clear hA
    go_enter Try.func3, Try.ntmps3
    go_wp2_with (at_builtin; refine wpList_appcopy w rfl _ _ 22 32 rfl Try.underlying22 infoV rfl a n cap l rfl HM.out HNA.out (by omega) ?_)
    intro v5 w1 hown hb1
    obtain ⟨a5, c5, rfl, _⟩ := own_form hown
    have HB := Lib.hid hb1
    have HIN := Lib.hid hown
    have HM1 := Lib.hid (Movs.of_row hown HM.out.len HM.out.bd)
    clear hown hb1
    go_wp2_with fail
    refine (order_any a5 n c5 l sp res ok w1 HM1.out (by omega) wsp HA.out.is).mono ?_
    rintro e w2 ⟨v6, rfl, ho6, hd6, _, hb6⟩
    obtain ⟨a6, c6, rfl, _⟩ := own_form ho6
    have hs1 := HB.out.size
    have HM2 := Lib.hid (HM1.out.to hb6)
    have HMS2 := Lib.hid ((HM.out.to HB.out).to (hb6))
    have HO2 := Lib.hid (Movs.of_row ho6 rfl hd6)
    have HB2 := Lib.hid (HB.out.trans (hb6.mono hs1))
    clear HM1 HIN HB ho6 hd6 hb6
    go_wp2_with fail
    refine (of_any a n cap l w2 HMS2.out (by omega)).mono ?_
    rintro e w3 ⟨v7, rfl, ho7, hb7⟩
    obtain ⟨a7, c7, rfl, _⟩ := own_form ho7
    have hs2 := HB2.out.size
    have HW3 := Lib.hid (Movs.of_row ho7 HM.out.len HM.out.bd)
    have HM3 := Lib.hid (HM2.out.to hb7)
    have HMS3 := Lib.hid (HMS2.out.to hb7)
    have HO3 := Lib.hid (HO2.out.to hb7)
    have HB3 := Lib.hid (HB2.out.trans (hb7.mono hs2))
    clear HM2 HMS2 HO2 HB2 ho7 hb7
    go_wp2_with fail
    refine (rmay_any a7 n c7 l w3 HW3.out (by omega)).mono ?_
    rintro e w4 ⟨rfl, m4, rfl⟩
    obtain ⟨M, hMM⟩ : ∃ M, Mv.mayM l = M := ⟨_, rfl⟩
    rw [hMM]
    have HMM := Lib.hid hMM
    clear hMM
    go_wp2_with fail
    have HM4 := Lib.hid (HM3.out.drewN m4)
    have HMS4 := Lib.hid (HMS3.out.drewN m4)
    have HO4 := Lib.hid (HO3.out.drewN m4)
    have HW4 := Lib.hid (HW3.out.drewN m4)
    have HB4 := Lib.hid (bel_drewN HB3.out m4)
    clear HM3 HMS3 HO3 HW3 HB3
    generalize w3.drewN m4 = w4 at HM4 HMS4 HO4 HW4 HB4 ⊢
    refine (may_as a n cap l M HMM w4 HMS4.out (by omega)).mono ?_
    rintro e w5 ⟨rfl, hb5⟩
    have hs4 := HB4.out.size
    have HM5 := Lib.hid (HM4.out.to hb5)
    have HMS5 := Lib.hid (HMS4.out.to hb5)
    have HO5 := Lib.hid (HO4.out.to hb5)
    have HW5 := Lib.hid (HW4.out.to hb5)
    have HB5 := Lib.hid (HB4.out.trans (hb5.mono hs4))
    clear HM4 HMS4 HO4 HW4 HB4 hb5
    have HOK : Hid (ok = (M && (!Mv.touches l sp && decide (0 ≤ sp)))) := Lib.hid (by rw [← HMM.out]; exact HA.out.ok_)
    cases M with
    | false =>
      have hok : ok = false := HOK.out
      have hres := HA.out.no hok
      subst hok
      subst hres
      go_wp2_with fail
      go_loopg [10] n (fun g v wr => ∃ i m : Nat, v = .int .i64 (i : Int) ∧ i ≤ n ∧ g = n - i ∧ w5.drewN m = wr)
      case atStart => exact ⟨0, 0, rfl, Nat.zero_le _, rfl, rfl⟩
      case round =>
        obtain ⟨i, m, rfl, hi, hg, rfl⟩ := hrel
        by_cases hlt : i < n
        · have hlt' : (i : Int) < (n : Int) := by omega
          have i0 : (0 : Int) ≤ (i : Int) := by omega
          obtain ⟨t, b, off, ht, rfl, k1, k2, _, _⟩ := HMS5.out.get hlt
          obtain ⟨t', b', off', ht', rfl, k3, k4, _, _⟩ := HM5.out.get hlt
          obtain rfl : t = t' := by rw [ht] at ht'; injection ht'
          obtain ⟨T, S⟩ := t
          simp only at k1 k2 k3 k4
          clear ht ht'
          go_wp2_with fail
          try go_quiet (fail)
          go_wp2_with fail
          go_roundg (n - (i + 1))
          case rel => exact ⟨i + 1, _, by go_num, by omega, rfl, rfl⟩
          case measure => omega
        · obtain rfl : i = n := by omega
          have hlt' : ¬ (i : Int) < (i : Int) := by omega
          have HB6 := Lib.hid (bel_drewN HB5.out m)
          have HO6 := Lib.hid (HO5.out.drewN m)
          have HW6 := Lib.hid (HW5.out.drewN m)
          clear HMS5 HM5 HB5 HO5 HW5
          go_wp2_with fail
          have hs6 := HB6.out.size
          refine (awake_true (w5.drewN m)).mono ?_
          rintro e w7 ⟨rfl, hb7⟩
          have HB7 := Lib.hid (HB6.out.trans (hb7.mono hs6))
          clear hb7 HB6 HO6 HW6
          go_wp2_with fail
          go_returns
          exact ⟨rfl, HB7.out⟩
    | true =>
      obtain ⟨F, hF⟩ : ∃ F, (!Mv.touches l sp && decide (0 ≤ sp)) = F := ⟨_, rfl⟩
      have hok : ok = F := by rw [HOK.out, hF]; rfl
      have hcall := rfree_any a7 n c7 l sp w5 HW5.out (by omega)
      rw [hF] at hcall
      subst hok
      clear HOK hF
      go_wp2_with fail
      refine hcall.mono ?_
      rintro e w6 ⟨rfl, m6, rfl⟩
      clear hcall
      cases ok with
      | false =>
        have hres := HA.out.no rfl
        subst hres
        go_wp2_with fail
        go_loopg [10] n (fun g v wr => ∃ i m : Nat, v = .int .i64 (i : Int) ∧ i ≤ n ∧ g = n - i ∧ w5.drewN m = wr)
        case atStart => exact ⟨0, m6, rfl, Nat.zero_le _, rfl, rfl⟩
        case round =>
          obtain ⟨i, m, rfl, hi, hg, rfl⟩ := hrel
          by_cases hlt : i < n
          · have hlt' : (i : Int) < (n : Int) := by omega
            have i0 : (0 : Int) ≤ (i : Int) := by omega
            obtain ⟨t, b, off, ht, rfl, k1, k2, _, _⟩ := HMS5.out.get hlt
            obtain ⟨t', b', off', ht', rfl, k3, k4, _, _⟩ := HM5.out.get hlt
            obtain rfl : t = t' := by rw [ht] at ht'; injection ht'
            obtain ⟨T, S⟩ := t
            simp only at k1 k2 k3 k4
            clear ht ht'
            go_wp2_with fail
            try go_quiet (fail)
            go_wp2_with fail
            go_roundg (n - (i + 1))
            case rel => exact ⟨i + 1, _, by go_num, by omega, rfl, rfl⟩
            case measure => omega
          · obtain rfl : i = n := by omega
            have hlt' : ¬ (i : Int) < (i : Int) := by omega
            have HB6 := Lib.hid (bel_drewN HB5.out m)
            have HO6 := Lib.hid (HO5.out.drewN m)
            have HW6 := Lib.hid (HW5.out.drewN m)
            clear HMS5 HM5 HB5 HO5 HW5
            go_wp2_with fail
            have hs6 := HB6.out.size
            refine (awake_true (w5.drewN m)).mono ?_
            rintro e w7 ⟨rfl, hb7⟩
            have HB7 := Lib.hid (HB6.out.trans (hb7.mono hs6))
            clear hb7 HB6 HO6 HW6
            go_wp2_with fail
            go_returns
            exact ⟨rfl, HB7.out⟩
      | true =>
        obtain ⟨hl1, hl2⟩ := HA.out.len rfl
        go_wp2_with fail
        go_loopg [10] n (fun g v wr => ∃ i m : Nat, v = .int .i64 (i : Int) ∧ i ≤ n ∧ g = n - i ∧ w5.drewN m = wr)
        case atStart => exact ⟨0, m6, rfl, Nat.zero_le _, rfl, rfl⟩
        case round =>
          obtain ⟨i, m, rfl, hi, hg, rfl⟩ := hrel
          by_cases hlt : i < n
          · have hlt' : (i : Int) < (n : Int) := by omega
            have i0 : (0 : Int) ≤ (i : Int) := by omega
            obtain ⟨t, b, off, ht, rfl, k1, k2, _, _⟩ := HMS5.out.get hlt
            obtain ⟨t', b', off', ht', rfl, k3, k4, _, _⟩ := HM5.out.get hlt
            obtain rfl : t = t' := by rw [ht] at ht'; injection ht'
            obtain ⟨T, S⟩ := t
            simp only at k1 k2 k3 k4
            clear ht ht'
            go_wp2_with fail
            try go_quiet (fail)
            go_wp2_with fail
            go_roundg (n - (i + 1))
            case rel => exact ⟨i + 1, _, by go_num, by omega, rfl, rfl⟩
            case measure => omega
          · obtain rfl : i = n := by omega
            have hlt' : ¬ (i : Int) < (i : Int) := by omega
            have HB6 := Lib.hid (bel_drewN HB5.out m)
            have HO6 := Lib.hid (HO5.out.drewN m)
            have HW6 := Lib.hid (HW5.out.drewN m)
            clear HMS5 HM5 HB5 HO5 HW5
            go_wp2_with fail
            obtain ⟨R, hR⟩ : ∃ R, Mv.leastR l = R := ⟨_, rfl⟩
            have hcall := rleast_any a7 i c7 l (w5.drewN m) HW6.out (by omega)
            rw [hR] at hcall hl1
            have hl1' : ¬ (R : Int) < (res.length : Int) := by omega
            have hl2' : ¬ (200 : Int) < (res.length : Int) := by omega
            have hd1 : decide ((200 : Int) < (res.length : Int)) = false := decide_eq_false hl2'
            have hd2 : decide (R < res.length) = false := decide_eq_false (by omega)
            clear hR
            refine hcall.mono ?_
            rintro e w7 ⟨rfl, m7, rfl⟩
            clear hcall
            have HB7 := Lib.hid (bel_drewN HB6.out m7)
            have HO7 := Lib.hid (HO6.out.drewN m7)
            have HW7 := Lib.hid (HW6.out.drewN m7)
            clear HB6 HO6 HW6
            generalize (w5.drewN m).drewN m7 = w7 at HB7 HO7 HW7 ⊢
            go_wp2_with fail
            clear hl1 hl1' hl2' hd1 hd2
            go_loopg [11] res.length (fun g v wr => ∃ j m : Nat, v = .int .i64 (j : Int) ∧ j ≤ res.length ∧ g = res.length - j ∧ w7.drewN m = wr)
            case atStart => exact ⟨0, 0, rfl, Nat.zero_le _, rfl, rfl⟩
            case round =>
              obtain ⟨j, mm, rfl, hj, hgj, rfl⟩ := hrel
              by_cases hlj : j < res.length
              · have hlj' : (j : Int) < (res.length : Int) := by omega
                have j0 : (0 : Int) ≤ (j : Int) := by omega
                obtain ⟨t, b, off, ht, rfl, k1, k2, _, _⟩ := HO7.out.get hlj
                have hne := HA.out.ne t (List.mem_of_getElem? ht)
                obtain ⟨T, S⟩ := t
                simp only at k1 k2 hne
                have hne1 : (T == S) = false := beq_eq_false_iff_ne.2 hne
                clear ht
                go_wp2_with fail
                try go_quiet (fail)
                go_wp2_with fail
                go_roundg (res.length - (j + 1))
                case rel => exact ⟨j + 1, _, by go_num, by omega, rfl, rfl⟩
                case measure => omega
              · obtain rfl : j = res.length := by omega
                have hlj' : ¬ (res.length : Int) < (res.length : Int) := by omega
                have HB8 := Lib.hid (bel_drewN HB7.out mm)
                have HO8 := Lib.hid (HO7.out.drewN mm)
                have HW8 := Lib.hid (HW7.out.drewN mm)
                clear HB7 HO7 HW7
                generalize w7.drewN mm = w8 at HB8 HO8 HW8 ⊢
                go_wp2_with fail
                refine (of_any a6 res.length c6 res w8 HO8.out (by omega)).mono ?_
                rintro e w9 ⟨v9, rfl, ho9, hb9⟩
                obtain ⟨a9, c9, rfl, _⟩ := own_form ho9
                have hs8 := HB8.out.size
                have HH9 := Lib.hid (Movs.of_row ho9 rfl HO8.out.bd)
                have HW9 := Lib.hid (HW8.out.to hb9)
                have HB9 := Lib.hid (HB8.out.trans (hb9.mono hs8))
                clear HB8 HO8 HW8 ho9 hb9
                go_wp2_with fail
                refine (rdone_any a9 res.length c9 res w9 HH9.out (by omega)).mono ?_
                rintro e w10 ⟨v10, rfl, ho10, hd10, hl10, hb10⟩
                obtain ⟨D, hD⟩ : ∃ D, Mv.doneG res [] = D := ⟨_, rfl⟩
                have HHAS := Lib.hid (HA.out.has rfl)
                have HKN := Lib.hid (HA.out.known)
                rw [hD] at ho10 hd10 hl10 HHAS HKN
                obtain ⟨a10, c10, rfl, _⟩ := own_form ho10
                have hs9 := HB9.out.size
                have HH10 := Lib.hid (Movs.of_row ho10 rfl hd10)
                have HW10 := Lib.hid (HW9.out.to hb10)
                have HB10 := Lib.hid (HB9.out.trans (hb10.mono hs9))
                clear HB9 HH9 HW9 ho10 hb10 hd10 hD
                go_wp2_with fail
                go_loopg [13] i (fun g v wr => ∃ j m : Nat, v = .int .i64 (j : Int) ∧ j ≤ i ∧ g = i - j ∧ w10.drewN m = wr)
                case atStart => exact ⟨0, 0, rfl, Nat.zero_le _, rfl, rfl⟩
                case round =>
                  obtain ⟨j, mm, rfl, hj, hgj, rfl⟩ := hrel
                  by_cases hlj2 : j < i
                  · have hlj2' : (j : Int) < (i : Int) := by omega
                    have j0 : (0 : Int) ≤ (j : Int) := by omega
                    obtain ⟨t, b, off, ht, rfl, k1, k2, _, _⟩ := HW10.out.get hlj2
                    have hV := HHAS.out t (List.mem_of_getElem? ht)
                    obtain ⟨T, S⟩ := t
                    simp only at k1 k2 hV
                    have hcall := fun (q : Nat) => rhas_any a10 D.length c10 D T (w10.drewN q) (HH10.out.drewN q) (by omega)
                    rw [hV] at hcall
                    clear ht hV
                    go_wp2_with fail
                    go_quiet ((go_at_call 14; exact (hcall _).mono fun e w2 h => ⟨h.1, _, h.2⟩))
                    go_wp2_with fail
                    go_roundg (i - (j + 1))
                    case rel => exact ⟨j + 1, _, by go_num, by omega, rfl, rfl⟩
                    case measure => omega
                  · obtain rfl : j = i := by omega
                    have hlj2' : ¬ (j : Int) < (j : Int) := by omega
                    have HB11 := Lib.hid (bel_drewN HB10.out mm)
                    have HH11 := Lib.hid (HH10.out.drewN mm)
                    have HW11 := Lib.hid (HW10.out.drewN mm)
                    clear HB10 HH10 HW10
                    generalize w10.drewN mm = w11 at HB11 HH11 HW11 ⊢
                    go_wp2_with fail
                    have HKI := Lib.hid (fun t ht => (HKN.out t ht).imp id (fun ⟨m, hm, e⟩ => any_of hm e))
                    go_loopg [14] D.length (fun g v wr => ∃ x m : Nat, v = .int .i64 (x : Int) ∧ x ≤ D.length ∧ g = D.length - x ∧ w11.drewN m = wr)
                    case atStart => exact ⟨0, 0, rfl, Nat.zero_le _, rfl, rfl⟩
                    case round =>
                      obtain ⟨x, mx, rfl, hx, hgx, rfl⟩ := hrel
                      by_cases hlx : x < D.length
                      · have hlx' : (x : Int) < (D.length : Int) := by omega
                        have x0 : (0 : Int) ≤ (x : Int) := by omega
                        obtain ⟨t, b, off, ht, rfl, k1, k2, _, _⟩ := HH11.out.get hlx
                        have hV := HKI.out t (List.mem_of_getElem? ht)
                        obtain ⟨P, Q⟩ := t
                        simp only at k1 k2 hV
                        clear ht
                        have HV := Lib.hid hV
                        clear hV
                        by_cases hP : P = sp
                        · have h1 : (P == sp) = true := beq_iff_eq.2 hP
                          clear HV
                          go_wp2_with fail
                          try go_quiet (fail)
                          go_wp2_with fail
                          go_loopg [15, 16] j (fun g kn v wr => ∃ y my : Nat, v = .int .i64 (y : Int) ∧ y ≤ j ∧ g = j - y ∧ kn = .bool true ∧ w11.drewN my = wr)
                          case atStart => exact ⟨0, _, rfl, Nat.zero_le _, rfl, rfl, (World.drewN_drewN _ _ _).symm⟩
                          case round =>
                            obtain ⟨y, my, rfl, hy, hgy, rfl, rfl⟩ := hrel
                            by_cases hly : y < j
                            · have hly' : (y : Int) < (j : Int) := by omega
                              go_wp2_with fail
                              try go_quiet (fail)
                              go_wp2_with fail
                              go_roundg (j - (y + 1))
                              case rel => exact ⟨y + 1, _, by go_num, by omega, rfl, rfl, rfl⟩
                              case measure => omega
                            · obtain rfl : y = j := by omega
                              have hly' : ¬ (y : Int) < (y : Int) := by omega
                              go_wp2_with fail
                              go_roundg (D.length - (x + 1))
                              case rel => exact ⟨x + 1, _, by go_num, by omega, rfl, rfl⟩
                              case measure => omega
                        · have h1 : (P == sp) = false := beq_eq_false_iff_ne.2 hP
                          by_cases hPQ : Q = P
                          · have h2 : (Q == P) = true := beq_iff_eq.2 hPQ
                            clear HV
                            go_wp2_with fail
                            try go_quiet (fail)
                            go_wp2_with fail
                            go_loopg [15, 16] j (fun g kn v wr => ∃ y my : Nat, v = .int .i64 (y : Int) ∧ y ≤ j ∧ g = j - y ∧ kn = .bool true ∧ w11.drewN my = wr)
                            case atStart => exact ⟨0, _, rfl, Nat.zero_le _, rfl, rfl, (World.drewN_drewN _ _ _).symm⟩
                            case round =>
                              obtain ⟨y, my, rfl, hy, hgy, rfl, rfl⟩ := hrel
                              by_cases hly : y < j
                              · have hly' : (y : Int) < (j : Int) := by omega
                                go_wp2_with fail
                                try go_quiet (fail)
                                go_wp2_with fail
                                go_roundg (j - (y + 1))
                                case rel => exact ⟨y + 1, _, by go_num, by omega, rfl, rfl, rfl⟩
                                case measure => omega
                              · obtain rfl : y = j := by omega
                                have hly' : ¬ (y : Int) < (y : Int) := by omega
                                go_wp2_with fail
                                go_roundg (D.length - (x + 1))
                                case rel => exact ⟨x + 1, _, by go_num, by omega, rfl, rfl⟩
                                case measure => omega
                          · have h2 : (Q == P) = false := beq_eq_false_iff_ne.2 hPQ
                            have HAN : Hid (Mv.anyR l P = true) := Lib.hid (HV.out.resolve_left hP)
                            go_wp2_with fail
                            try go_quiet (fail)
                            go_wp2_with fail
                            go_loopg [15, 16] j (fun g kn v wr => ∃ (y my : Nat) (K : Bool), v = .int .i64 (y : Int) ∧ y ≤ j ∧ g = j - y ∧ kn = .bool K ∧ Hid (Mv.anyR (l.take y) P = K) ∧ w11.drewN my = wr)
                            case atStart => exact ⟨0, _, false, rfl, Nat.zero_le _, rfl, rfl, Lib.hid rfl, (World.drewN_drewN _ _ _).symm⟩
                            case round =>
                              obtain ⟨y, my, K, rfl, hy, hgy, rfl, HK, rfl⟩ := hrel
                              by_cases hly : y < j
                              · have hly' : (y : Int) < (j : Int) := by omega
                                have y0 : (0 : Int) ≤ (y : Int) := by omega
                                obtain ⟨t, b2, off2, ht2, rfl, k3, k4, _, _⟩ := HW11.out.get hly
                                obtain ⟨U, V2⟩ := t
                                simp only at k3 k4
                                have HN := Lib.hid (any_next ht2 P)
                                clear ht2
                                cases K with
                                | true =>
                                  have HK2 := Lib.hid (show Mv.anyR (l.take (y + 1)) P = true by rw [HN.out, HK.out]; rfl)
                                  clear HN HK
                                  go_wp2_with fail
                                  try go_quiet (fail)
                                  go_wp2_with fail
                                  go_roundg (j - (y + 1))
                                  case rel => exact ⟨y + 1, _, true, by go_num, by omega, rfl, rfl, HK2, rfl⟩
                                  case measure => omega
                                | false =>
                                  by_cases hUP : U = P
                                  · have h3 : (U == P) = true := beq_iff_eq.2 hUP
                                    have HK2 := Lib.hid (show Mv.anyR (l.take (y + 1)) P = true by rw [HN.out, decide_eq_true hUP, Bool.or_true])
                                    clear HN HK
                                    go_wp2_with fail
                                    try go_quiet (fail)
                                    go_wp2_with fail
                                    go_roundg (j - (y + 1))
                                    case rel => exact ⟨y + 1, _, true, by go_num, by omega, rfl, rfl, HK2, rfl⟩
                                    case measure => omega
                                  · have h3 : (U == P) = false := beq_eq_false_iff_ne.2 hUP
                                    have HK2 := Lib.hid (show Mv.anyR (l.take (y + 1)) P = false by rw [HN.out, decide_eq_false hUP, HK.out]; rfl)
                                    clear HN HK
                                    go_wp2_with fail
                                    try go_quiet (fail)
                                    go_wp2_with fail
                                    go_roundg (j - (y + 1))
                                    case rel => exact ⟨y + 1, _, false, by go_num, by omega, rfl, rfl, HK2, rfl⟩
                                    case measure => omega
                              · obtain rfl : y = j := by omega
                                have hly' : ¬ (y : Int) < (y : Int) := by omega
                                obtain rfl : K = true := by rw [← HK.out, List.take_of_length_le (by rw [HW11.out.len]; exact Nat.le_refl _)]; exact HAN.out
                                go_wp2_with fail
                                go_roundg (D.length - (x + 1))
                                case rel => exact ⟨x + 1, _, by go_num, by omega, rfl, rfl⟩
                                case measure => omega
                      · obtain rfl : x = D.length := by omega
                        have hlx' : ¬ (D.length : Int) < (D.length : Int) := by omega
                        have HB12 := Lib.hid (bel_drewN HB11.out mx)
                        clear HB11 HH11 HW11
                        generalize w11.drewN mx = w12 at HB12 ⊢
                        have hs12 := HB12.out.size
                        go_wp2_with fail
                        refine (awake_true w12).mono ?_
                        rintro e w13 ⟨rfl, hb13⟩
                        have HB13 := Lib.hid (HB12.out.trans (hb13.mono hs12))
                        clear hb13 HB12
                        go_wp2_with fail
                        go_returns
                        exact ⟨rfl, HB13.out⟩
  · have h80' : (80 : Int) < (n : Int) := by omega
    go_enter Try.func3, Try.ntmps3
    go_wp2_with fail
    refine (awake_true w).mono ?_
    rintro e w1 ⟨rfl, hb⟩
    go_wp2_with fail
    go_returns
    exact ⟨rfl, hb⟩
end Go.Proofs.Ytheapamlhoogaaa
