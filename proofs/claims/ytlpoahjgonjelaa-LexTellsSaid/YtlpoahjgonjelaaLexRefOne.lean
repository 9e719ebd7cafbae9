/- The document's token that begins at a place. -/
import Derived.Test.YtlpoahjgonjelaaLexRefNumberN
import Derived.Test.YtlpoahjgonjelaaLexSignS
import Derived.Test.YtlpoahjgonjelaaLexRefGap
namespace Go.Proofs.Ytlpoahjgonjelaa
open Go.RowKit
set_option linter.unusedVariables false

theorem wordB_short {t : ByteArray} (h : Lx.wordB t = true) : t.size ≤ 8 := by
  have e : t.toList.length = t.size := by rw [ByteArray.toList_eq]; simp
  rw [← e]
  unfold Lx.wordB at h
  simp only [Bool.or_eq_true, beq_iff_eq] at h
  rcases h with h | h
  all_goals (repeat' (first | (rcases h with h | h) | (rw [h]; decide)))
theorem ext_size {s : ByteArray} {i k : Nat} (h1 : i ≤ k) (h2 : k ≤ s.size) : (s.extract i k).size = k - i := by
  rw [ByteArray.size_extract]; omega
set_option maxHeartbeats 4000000 in
theorem rone_name (s : ByteArray) (i : Nat) (hi : i < s.size) (hs : s.size ≤ 4611686018427387904) (hL : Lx.letB (Lx.pk s i) = true) (w : World) :
    Calls Try.prog 19 #[.string s, .int .i64 (i : Int)] w (RTok s i (Lx.tokenM s i) w) := by
  have q1 : (i : Int) < (s.size : Int) := by omega
  obtain ⟨c0, hc0⟩ : ∃ c, (s[i].toNat : Int) = c := ⟨_, rfl⟩
  have hcb := Lx.pk_bd s i
  rw [Lx.pk_lt hi] at hL hcb
  rw [hc0] at hL hcb
  have HL := Lib.hid hL
  clear hL
  have HTM : Hid (Lx.tokenM s i = ⟨(Lx.nameM s i (Lx.nameEnd s i)).1, Lx.nameEnd s i, (Lx.nameM s i (Lx.nameEnd s i)).2, ⟨#[]⟩, 0, false⟩) := by
    refine Lib.hid ?_
    unfold Lx.tokenM; rw [if_pos (by rw [Lx.pk_lt hi, hc0]; exact HL.out)]
  go_enter Try.func19, Try.ntmps19
  go_wp2_with fail
  refine (rletter_as c0 true hcb HL _).mono ?_
  rintro e w1 ⟨rfl, rfl⟩
  go_wp2_with fail
  go_loopg [6] (s.size - i) (fun g v wr => ∃ (k f : Nat), v = .int .i64 (k : Int) ∧ i ≤ k ∧ k ≤ s.size ∧ g = s.size - k ∧ g ≤ f ∧ Hid (Lx.nameEnd s i = Lx.scan (Lx.nameP s) f k) ∧ (w.alloc (.cells #[.int .i64 0, .int .i64 0, .string ⟨#[]⟩, .string ⟨#[]⟩, .int .u64 0, .bool false] 33)) = wr)
  case atStart => exact ⟨i, s.size, rfl, by omega, by omega, rfl, by omega, Lib.hid rfl, rfl⟩
  case round =>
    obtain ⟨k, f, rfl, hk0, hk, hg, hf, HE, rfl⟩ := hrel
    obtain ⟨c, hc⟩ : ∃ c, Lx.pk s k = c := ⟨_, rfl⟩
    have hkb := Lx.pk_bd s k
    obtain ⟨L, hL⟩ : ∃ L, Lx.letB c = L := ⟨_, rfl⟩
    obtain ⟨D, hD⟩ : ∃ D, Lx.digB c = D := ⟨_, rfl⟩
    have hP : Lx.nameP s k = (L || D) := by unfold Lx.nameP Lx.inB; rw [hc, hL, hD]
    rw [hc] at hkb
    have HC := Lib.hid hc
    have HLk := Lib.hid hL
    have HDk := Lib.hid hD
    have HP := Lib.hid hP
    clear hc hL hD hP
    by_cases hon : (L || D) = true
    · have hlt : k < s.size := by
        by_cases h : k < s.size
        · exact h
        · have := Lx.nameP_ge s k (by omega); rw [HP.out, hon] at this; cases this
      obtain ⟨f, rfl⟩ : ∃ f', f = f' + 1 := ⟨f - 1, by omega⟩
      have HE2 : Hid (Lx.nameEnd s i = Lx.scan (Lx.nameP s) f (k + 1)) := by rw [HE.out]; exact Lib.hid (Lx.scan_yes (by rw [HP.out]; exact hon))
      clear HE
      cases L
      · cases D
        · cases hon
        clear hon
        go_wp2_with fail
        refine (rat_as s k _ c rfl hs HC _).mono ?_
        rintro e w1 ⟨rfl, rfl⟩
        go_wp2_with fail
        refine (rletter_as c false hkb HLk _).mono ?_
        rintro e w1 ⟨rfl, rfl⟩
        go_wp2_with fail
        refine (rat_as s k _ c rfl hs HC _).mono ?_
        rintro e w1 ⟨rfl, rfl⟩
        go_wp2_with fail
        refine (rdigit_as c true hkb HDk _).mono ?_
        rintro e w1 ⟨rfl, rfl⟩
        go_wp2_with fail
        go_roundg (s.size - (k + 1))
        case rel => exact ⟨k + 1, f, by go_num, by omega, by omega, rfl, by omega, HE2, rfl⟩
        case measure => omega
      · clear hon
        go_wp2_with fail
        refine (rat_as s k _ c rfl hs HC _).mono ?_
        rintro e w1 ⟨rfl, rfl⟩
        go_wp2_with fail
        refine (rletter_as c true hkb HLk _).mono ?_
        rintro e w1 ⟨rfl, rfl⟩
        go_wp2_with fail
        go_roundg (s.size - (k + 1))
        case rel => exact ⟨k + 1, f, by go_num, by omega, by omega, rfl, by omega, HE2, rfl⟩
        case measure => omega
    · have hL0 : L = false := by cases L; rfl; exact absurd rfl hon
      have hD0 : D = false := by cases D; rfl; exact absurd (Bool.or_true _) hon
      subst hL0 hD0
      have HE2 : Hid (Lx.nameEnd s i = k) := by rw [HE.out]; exact Lib.hid (Lx.scan_no HP.out)
      clear HE hon
      have hik : (i : Int) ≤ (k : Int) := by omega
      have hks : (k : Int) ≤ (s.size : Int) := by omega
      obtain ⟨B, hB⟩ : ∃ B, Lx.wordB (s.extract i k) = B := ⟨_, rfl⟩
      have HB := Lib.hid hB
      clear hB
      have HLW := Lib.hid (wordB_short (t := s.extract i k))
      have HXS := Lib.hid (ext_size hk0 hk)
      go_wp2_with fail
      refine (rat_as s k _ c rfl hs HC _).mono ?_
      rintro e w1 ⟨rfl, rfl⟩
      go_wp2_with fail
      refine (rletter_as c false hkb HLk _).mono ?_
      rintro e w1 ⟨rfl, rfl⟩
      go_wp2_with fail
      refine (rat_as s k _ c rfl hs HC _).mono ?_
      rintro e w1 ⟨rfl, rfl⟩
      go_wp2_with fail
      refine (rdigit_as c false hkb HDk _).mono ?_
      rintro e w1 ⟨rfl, rfl⟩
      go_wp2_with fail
      refine (rword_as _ B HB _).mono ?_
      rintro e w1 ⟨rfl, rfl⟩
      have hki : ((k - i : Nat) : Int) = (k : Int) - (i : Int) := by omega
      cases B
      · by_cases h30 : 30 < k - i
        · have h30' : 30 < (k : Int) - (i : Int) := by omega
          clear hki
          have HT : Hid (Lx.tokenM s i = ⟨6, k, 0, ⟨#[]⟩, 0, false⟩) := by
            refine Lib.hid ?_
            rw [HTM.out, HE2.out]; unfold Lx.nameM; rw [if_pos h30]
          clear h30
          go_wp2_with fail
          refine bodyPost_ret (v := .tuple #[.agg #[.int .i64 1, .int .i64 (i : Int), .string (s.extract i k), .string ⟨#[]⟩, .int .u64 0, .bool false], .int .i64 6]) (by simp [results, Try.results19, go_sem]) rfl ?_
          rw [HT.out]
          refine ⟨_, _, _, _, _, _, rfl, (fun h => absurd h (show ¬ (6 : Int) = 0 by decide)), ?_⟩
          repeat (first | with_reducible exact gn_refl _ | with_reducible refine gn_alloc ?_ _)
        · have h30' : ¬ 30 < (k : Int) - (i : Int) := by omega
          clear hki
          have HT : Hid (Lx.tokenM s i = ⟨0, k, 1, ⟨#[]⟩, 0, false⟩) := by
            refine Lib.hid ?_
            rw [HTM.out, HE2.out]; unfold Lx.nameM; rw [if_neg h30, HB.out]; rfl
          clear h30
          go_wp2_with fail
          refine bodyPost_ret (v := .tuple #[.agg #[.int .i64 1, .int .i64 (i : Int), .string (s.extract i k), .string ⟨#[]⟩, .int .u64 0, .bool false], .int .i64 0]) (by simp [results, Try.results19, go_sem]) rfl ?_
          rw [HT.out]
          refine ⟨_, _, _, _, _, _, rfl, (fun _ => ⟨rfl, rfl, rfl, rfl, rfl, rfl⟩), ?_⟩
          repeat (first | with_reducible exact gn_refl _ | with_reducible refine gn_alloc ?_ _)
      · have h30 : ¬ 30 < k - i := by have := HLW.out HB.out; rw [HXS.out] at this; omega
        clear hki
        have HT : Hid (Lx.tokenM s i = ⟨0, k, 2, ⟨#[]⟩, 0, false⟩) := by
          refine Lib.hid ?_
          rw [HTM.out, HE2.out]; unfold Lx.nameM; rw [if_neg h30, HB.out]; rfl
        clear h30
        go_wp2_with fail
        refine bodyPost_ret (v := .tuple #[.agg #[.int .i64 2, .int .i64 (i : Int), .string (s.extract i k), .string ⟨#[]⟩, .int .u64 0, .bool false], .int .i64 0]) (by simp [results, Try.results19, go_sem]) rfl ?_
        rw [HT.out]
        refine ⟨_, _, _, _, _, _, rfl, (fun _ => ⟨rfl, rfl, rfl, rfl, rfl, rfl⟩), ?_⟩
        repeat (first | with_reducible exact gn_refl _ | with_reducible refine gn_alloc ?_ _)
theorem chM_code (s : ByteArray) (i : Nat) : (Lx.chM s i).1 = 0 ∨ (Lx.chM s i).1 = 3 := by
  unfold Lx.chM; (repeat' split) <;> simp
set_option maxHeartbeats 4000000 in
theorem rone_num (s : ByteArray) (i : Nat) (hi : i < s.size) (hs : s.size ≤ 4611686018427387904) (hL : Lx.letB (Lx.pk s i) = false) (hD : Lx.digB (Lx.pk s i) = true) (w : World) :
    Calls Try.prog 19 #[.string s, .int .i64 (i : Int)] w (RTok s i (Lx.tokenM s i) w) := by
  have q1 : (i : Int) < (s.size : Int) := by omega
  have HTM : Hid (Lx.tokenM s i = Lx.numberM s i) := by
    refine Lib.hid ?_
    unfold Lx.tokenM; rw [hL, hD]; rfl
  rw [HTM.out]
  have HN := rnumber_any s i hi hs
  obtain ⟨c0, hc0⟩ : ∃ c, (s[i].toNat : Int) = c := ⟨_, rfl⟩
  have hcb := Lx.pk_bd s i
  rw [Lx.pk_lt hi] at hL hD hcb
  rw [hc0] at hL hD hcb
  have HL := Lib.hid hL
  have HD := Lib.hid hD
  clear hL hD HTM
  obtain ⟨R, hR⟩ : ∃ R, Lx.numberM s i = R := ⟨_, rfl⟩
  rw [hR] at HN ⊢
  clear hR
  have HNN := Lib.hid HN
  clear HN
  go_enter Try.func19, Try.ntmps19
  go_wp2_with fail
  refine (rletter_as c0 false hcb HL _).mono ?_
  rintro e w1 ⟨rfl, rfl⟩
  go_wp2_with fail
  refine (rdigit_as c0 true hcb HD _).mono ?_
  rintro e w1 ⟨rfl, rfl⟩
  go_wp2_with fail
  refine (HNN.out _).mono ?_
  rintro e w1 ⟨k, a, T, S, n, h, rfl, hok, hg⟩
  have hsz := hg.size
  rw [heap_two] at hsz
  have hrow : w1.heap[w.heap.size]? = some (.cells #[.int .i64 0, .int .i64 0, .string ⟨#[]⟩, .string ⟨#[]⟩, .int .u64 0, .bool false] 33 (0, 0)) := (hg.block _ (by rw [heap_two]; omega) (by simp)).trans (heap_alloc_new w _)
  have HG := Lib.hid hg
  have HO := Lib.hid hok
  have HR := Lib.hid hrow
  clear hg hok hrow
  obtain ⟨t0, t1, t2, t3, t4, t5, tf⟩ := (TokAt.mk HR.out : TokAt w.heap.size w1).cells
  go_wp2_with fail
  refine bodyPost_ret (v := .tuple #[.agg #[.int .i64 k, .int .i64 a, .string T, .string S, .int .u64 n, .bool h], .int .i64 R.code]) ?_ ?_ ?_
  · simp [results, Try.results19, go_sem, t0, t1, t2, t3, t4, t5]
  · rfl
  · refine ⟨_, _, _, _, _, _, rfl, HO.out, ?_⟩
    repeat (with_reducible refine gn_set ?_ (Nat.le_refl _) _ _)
    exact gn_trans (gn_alloc (gn_refl w) _) HG.out
theorem letB39 : Lx.letB 39 = false := by decide
theorem digB39 : Lx.digB 39 = false := by decide
set_option maxHeartbeats 4000000 in
theorem rone_char (s : ByteArray) (i : Nat) (hi : i < s.size) (hs : s.size ≤ 4611686018427387904) (h39 : Lx.pk s i = 39) (w : World) :
    Calls Try.prog 19 #[.string s, .int .i64 (i : Int)] w (RTok s i (Lx.tokenM s i) w) := by
  have q1 : (i : Int) < (s.size : Int) := by omega
  have hT : Lx.tokenM s i = ⟨(Lx.chM s i).1, i + (Lx.chM s i).2.1, Lx.chK s i, ⟨#[]⟩, (Lx.chM s i).2.2, false⟩ := by
    unfold Lx.tokenM; rw [h39, letB39, digB39]; rfl
  rw [hT]
  have hcc := chM_code s i
  have HK : Hid ((Lx.chM s i).1 = 0 → Lx.chK s i = 4) := Lib.hid (fun h => by unfold Lx.chK; rw [if_pos h])
  obtain ⟨C, hC⟩ : ∃ C, (Lx.chM s i).1 = C := ⟨_, rfl⟩
  have HN := rchar_any s i hi hs
  rw [hC] at hcc HK HN ⊢
  rw [Lx.pk_lt hi] at h39
  have q9 : (s[i].toNat : Int) = 39 := h39
  clear h39 hT hC
  obtain ⟨E, hE⟩ : ∃ E, i + (Lx.chM s i).2.1 = E := ⟨_, rfl⟩
  obtain ⟨V, hV⟩ : ∃ V, (Lx.chM s i).2.2 = V := ⟨_, rfl⟩
  rw [hE, hV] at HN ⊢
  clear hE hV
  have HNN := Lib.hid HN
  clear HN
  rcases hcc with rfl | rfl
  · go_enter Try.func19, Try.ntmps19
    go_wp2_with fail
    refine (rletter_as 39 false (by decide) (Lib.hid letB39) _).mono ?_
    rintro e w1 ⟨rfl, rfl⟩
    go_wp2_with fail
    refine (rdigit_as 39 false (by decide) (Lib.hid digB39) _).mono ?_
    rintro e w1 ⟨rfl, rfl⟩
    go_wp2_with fail
    refine (HNN.out _).mono ?_
    rintro e w1 ⟨T, m, rfl, hok, hg⟩
    have hok := hok rfl
    obtain ⟨rfl, rfl⟩ := hok
    have hsz := hg.size
    rw [heap_two] at hsz
    have hrow : w1.heap[w.heap.size]? = some (.cells #[.int .i64 0, .int .i64 0, .string ⟨#[]⟩, .string ⟨#[]⟩, .int .u64 0, .bool false] 33 (0, 0)) := (hg.block _ (by rw [heap_two]; omega) (by simp)).trans (heap_alloc_new w _)
    have HG := Lib.hid hg
    have HR := Lib.hid hrow
    clear hg hrow
    have hne : w.heap.size < w1.heap.size := by omega
    have hrb : ∀ o : Obj, (w1.alloc o).heap[w.heap.size]? = some (.cells #[.int .i64 0, .int .i64 0, .string ⟨#[]⟩, .string ⟨#[]⟩, .int .u64 0, .bool false] 33 (0, 0)) := fun o => (Below.heap_alloc _ _ _ hne).trans HR.out
    have hrc := fun (o : Obj) (j : Nat) => row_cell _ _ #[.int .i64 4, .int .i64 (i : Int), .string (s.extract i E), .string ⟨#[]⟩, .int .u64 m, .bool false] (hrb o) j
    have HRB := Lib.hid hrb
    have HRC := Lib.hid hrc
    clear hrb hrc hne hsz
    go_upto_region 17 with fail
    repeat (first | (refine wpList_store_row rfl _ _ _ rfl w.heap.size _ rfl rfl _ _ (HRB.out _) infoS rfl (one6 _ _ _ _ _ _) ?_) | go_values | go_skip | go_guarded | go_step | go_upon | go_back)
    have hrc := HRC.out
    refine bodyPost_ret (v := .tuple #[.agg #[.int .i64 4, .int .i64 (i : Int), .string (s.extract i E), .string ⟨#[]⟩, .int .u64 m, .bool false], .int .i64 0]) ?_ ?_ ?_
    · simp [results, Try.results19, go_sem, hrc]
    · rfl
    · refine ⟨_, _, _, _, _, _, rfl, (fun _ => ⟨(HK.out (by trivial)).symm, rfl, rfl, rfl, rfl, rfl⟩), ?_⟩
      exact gn_row (gn_alloc (gn_trans (gn_alloc (gn_refl w) _) HG.out) _) (Nat.le_refl _) _
  · have HN3 : Hid (∀ w, Calls Try.prog 34 #[.string s, .int .i64 (i : Int)] w (RChar s i false E V w)) := Lib.hid (fun w => HNN.out w)
    clear HNN
    go_enter Try.func19, Try.ntmps19
    go_wp2_with fail
    refine (rletter_as 39 false (by decide) (Lib.hid letB39) _).mono ?_
    rintro e w1 ⟨rfl, rfl⟩
    go_wp2_with fail
    refine (rdigit_as 39 false (by decide) (Lib.hid digB39) _).mono ?_
    rintro e w1 ⟨rfl, rfl⟩
    go_wp2_with fail
    refine (HN3.out _).mono ?_
    rintro e w1 ⟨T, m, rfl, hok, hg⟩
    clear hok
    have hsz := hg.size
    rw [heap_two] at hsz
    have hrow : w1.heap[w.heap.size]? = some (.cells #[.int .i64 0, .int .i64 0, .string ⟨#[]⟩, .string ⟨#[]⟩, .int .u64 0, .bool false] 33 (0, 0)) := (hg.block _ (by rw [heap_two]; omega) (by simp)).trans (heap_alloc_new w _)
    have HG := Lib.hid hg
    have HR := Lib.hid hrow
    clear hg hrow
    have hne : w.heap.size < w1.heap.size := by omega
    have hrb : ∀ o : Obj, (w1.alloc o).heap[w.heap.size]? = some (.cells #[.int .i64 0, .int .i64 0, .string ⟨#[]⟩, .string ⟨#[]⟩, .int .u64 0, .bool false] 33 (0, 0)) := fun o => (Below.heap_alloc _ _ _ hne).trans HR.out
    have hrc := fun (o : Obj) (j : Nat) => row_cell _ _ #[.int .i64 4, .int .i64 (i : Int), .string T, .string ⟨#[]⟩, .int .u64 m, .bool false] (hrb o) j
    have HRB := Lib.hid hrb
    have HRC := Lib.hid hrc
    clear hrb hrc hne hsz
    go_upto_region 16 with fail
    repeat (first | (refine wpList_store_row rfl _ _ _ rfl w.heap.size _ rfl rfl _ _ (HRB.out _) infoS rfl (one6 _ _ _ _ _ _) ?_) | go_values | go_skip | go_guarded | go_step | go_upon | go_back)
    have hrc := HRC.out
    refine bodyPost_ret (v := .tuple #[.agg #[.int .i64 4, .int .i64 (i : Int), .string T, .string ⟨#[]⟩, .int .u64 m, .bool false], .int .i64 3]) ?_ ?_ ?_
    · simp [results, Try.results19, go_sem, hrc]
    · rfl
    · refine ⟨_, _, _, _, _, _, rfl, (fun h => absurd h (show ¬ (3 : Int) = 0 by decide)), ?_⟩
      exact gn_row (gn_alloc (gn_trans (gn_alloc (gn_refl w) _) HG.out) _) (Nat.le_refl _) _
set_option maxHeartbeats 4000000 in
theorem rone_sign (s : ByteArray) (i : Nat) (hi : i < s.size) (hs : s.size ≤ 4611686018427387904) (hL : Lx.letB (Lx.pk s i) = false) (hD : Lx.digB (Lx.pk s i) = false) (h39 : Lx.pk s i ≠ 39) (w : World) :
    Calls Try.prog 19 #[.string s, .int .i64 (i : Int)] w (RTok s i (Lx.tokenM s i) w) := by
  have q1 : (i : Int) < (s.size : Int) := by omega
  have hT : Lx.tokenM s i = if Lx.signM (Lx.pk s i) (Lx.pk s (i + 1)) (Lx.pk s (i + 2)) = 0 then Lx.bad 3 i else ⟨0, i + Lx.signM (Lx.pk s i) (Lx.pk s (i + 1)) (Lx.pk s (i + 2)), 5, ⟨#[]⟩, 0, false⟩ := by
    unfold Lx.tokenM; rw [hL, hD, if_neg (by decide), if_neg (by decide), if_neg h39]
  rw [← rsign_size] at hT
  have hX := rsign_text s i
  obtain ⟨S, hS⟩ : ∃ S, rsign s i = S := ⟨_, rfl⟩
  rw [hS] at hT hX
  obtain ⟨c0, hc0⟩ : ∃ c, (s[i].toNat : Int) = c := ⟨_, rfl⟩
  have hcb := Lx.pk_bd s i
  rw [Lx.pk_lt hi, hc0] at hL hD hcb h39
  have q9 : (c0 == 39) = false := beq_eq_false_iff_ne.2 h39
  have HS := Lib.hid hS
  have HL := Lib.hid hL
  have HD := Lib.hid hD
  have HT := Lib.hid hT
  have HX := Lib.hid hX
  rw [HT.out]
  clear hS hL hD hT hX h39
  have hlen : S.toList.length = S.size := by rw [ByteArray.toList_eq]; simp
  by_cases h0 : S.size = 0
  · have e1 : S.toList = [] := List.length_eq_zero_iff.1 (by rw [hlen]; exact h0)
    have e2 : S.toList.isEmpty = true := by rw [e1]; rfl
    rw [if_pos h0]
    clear h0 hlen HX HT
    go_enter Try.func19, Try.ntmps19
    go_wp2_with fail
    refine (rletter_as c0 false hcb HL _).mono ?_
    rintro e w1 ⟨rfl, rfl⟩
    go_wp2_with fail
    refine (rdigit_as c0 false hcb HD _).mono ?_
    rintro e w1 ⟨rfl, rfl⟩
    go_wp2_with fail
    refine (rsign_as s i (by omega) hs S HS _).mono ?_
    rintro e w1 ⟨rfl, n, rfl⟩
    go_wp2_with fail
    refine bodyPost_ret (v := .tuple #[.agg #[.int .i64 5, .int .i64 (i : Int), .string S, .string ⟨#[]⟩, .int .u64 0, .bool false], .int .i64 3]) ?_ ?_ ?_
    · simp [results, Try.results19, go_sem]
    · rfl
    · refine ⟨_, _, _, _, _, _, rfl, (fun h => absurd h (show ¬ (3 : Int) = 0 by decide)), ?_⟩
      repeat (first | with_reducible exact gn_refl _ | with_reducible refine gn_alloc ?_ _ | with_reducible refine gn_drewN ?_ _ | with_reducible refine gn_set ?_ (Nat.le_refl _) _ _)
  · have e2 : S.toList.isEmpty = false := by
      cases he : S.toList with
      | nil => rw [he] at hlen; exact absurd hlen.symm h0
      | cons a l => rfl
    rw [if_neg h0]
    have HXX := Lib.hid (HX.out h0).2
    clear h0 hlen HX HT
    go_enter Try.func19, Try.ntmps19
    go_wp2_with fail
    refine (rletter_as c0 false hcb HL _).mono ?_
    rintro e w1 ⟨rfl, rfl⟩
    go_wp2_with fail
    refine (rdigit_as c0 false hcb HD _).mono ?_
    rintro e w1 ⟨rfl, rfl⟩
    go_wp2_with fail
    refine (rsign_as s i (by omega) hs S HS _).mono ?_
    rintro e w1 ⟨rfl, n, rfl⟩
    go_wp2_with fail
    refine bodyPost_ret (v := .tuple #[.agg #[.int .i64 5, .int .i64 (i : Int), .string S, .string ⟨#[]⟩, .int .u64 0, .bool false], .int .i64 0]) ?_ ?_ ?_
    · simp [results, Try.results19, go_sem]
    · rfl
    · refine ⟨_, _, _, _, _, _, rfl, (fun _ => ⟨rfl, rfl, HXX.out, rfl, rfl, rfl⟩), ?_⟩
      repeat (first | with_reducible exact gn_refl _ | with_reducible refine gn_alloc ?_ _ | with_reducible refine gn_drewN ?_ _ | with_reducible refine gn_set ?_ (Nat.le_refl _) _ _)
theorem rone_any (s : ByteArray) (i : Nat) (hi : i < s.size) (hs : s.size ≤ 4611686018427387904) (w : World) :
    Calls Try.prog 19 #[.string s, .int .i64 (i : Int)] w (RTok s i (Lx.tokenM s i) w) := by
  cases hL : Lx.letB (Lx.pk s i)
  · cases hD : Lx.digB (Lx.pk s i)
    · by_cases h39 : Lx.pk s i = 39
      · exact rone_char s i hi hs h39 w
      · exact rone_sign s i hi hs hL hD h39 w
    · exact rone_num s i hi hs hL hD w
  · exact rone_name s i hi hs hL w
end Go.Proofs.Ytlpoahjgonjelaa
