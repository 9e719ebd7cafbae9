/- The scanner's letters between quotes. -/
import Derived.Test.YtlpoahjgonjelaaLexName
namespace Go.Proofs.Ytlpoahjgonjelaa
open Go.RowKit
set_option linter.unusedVariables false

set_option maxHeartbeats 4000000 in
theorem char_any (p : Nat) (s : ByteArray) (i : Nat) (hi : i ≤ s.size) (hs : s.size ≤ 4611686018427387904) (w0 w : World) (h : Sc p s i w0 w) :
    Calls Try.prog 28 #[.pointer (some ⟨p, 0, none⟩)] w (TokPost p s w0 (Lx.chK s i) ⟨#[]⟩ (Lx.chM s i).2.2 false (Lx.chM s i).1 (i + (Lx.chM s i).2.1)) := by
  have HT := Lib.hid (TokAt.made w)
  have HZ : Hid (w.heap.size < (w.alloc (.cells #[.int .i64 0, .int .i64 0, .string ⟨#[]⟩, .string ⟨#[]⟩, .int .u64 0, .bool false] 33)).heap.size) := Lib.hid (by simp)
  have HQ := Lib.hid (Nat.ne_of_gt h.lt)
  have HG := Lib.hid h.g.size
  have HB : Hid (Sc p s i (w.alloc (.cells #[.int .i64 0, .int .i64 0, .string ⟨#[]⟩, .string ⟨#[]⟩, .int .u64 0, .bool false] 33)) (w.alloc (.cells #[.int .i64 0, .int .i64 0, .string ⟨#[]⟩, .string ⟨#[]⟩, .int .u64 0, .bool false] 33))) := Lib.hid (h.alloc _).refl
  have HS := Lib.hid h
  clear h
  obtain ⟨c, hc⟩ : ∃ c, Lx.pk s (i + 1) = c := ⟨_, rfl⟩
  obtain ⟨d, hd⟩ : ∃ d, Lx.pk s (i + 2) = d := ⟨_, rfl⟩
  obtain ⟨x, hx⟩ : ∃ x, Lx.pk s (i + 3) = x := ⟨_, rfl⟩
  have hcb := Lx.pk_bd s (i + 1)
  have hdb := Lx.pk_bd s (i + 2)
  rw [hc] at hcb
  rw [hd] at hdb
  obtain ⟨r, hr⟩ : ∃ r, Lx.chM s i = r := ⟨_, rfl⟩
  have HR := Lib.hid hr
  have HK : Hid (Lx.chK s i = if r.1 = 0 then 4 else 0) := by unfold Lx.chK; rw [hr]; exact Lib.hid rfl
  unfold Lx.chM at hr
  rw [hc, hd, hx] at hr
  have hi3 : x = 39 → i + 4 ≤ s.size := fun e => by have := Lx.pk_in (s := s) (i := i + 3) (by rw [hx, e]; decide); omega
  have hi2 : d = 39 → i + 3 ≤ s.size := fun e => by have := Lx.pk_in (s := s) (i := i + 2) (by rw [hd, e]; decide); omega
  have HC := Lib.hid hc
  have HD := Lib.hid hd
  have HX := Lib.hid hx
  clear hc hd hx
  by_cases h92 : c = 92
  · subst h92
    by_cases h110 : d = 110
    · subst h110
      by_cases hx39 : x = 39
      · subst hx39
        rw [if_pos rfl, if_pos (by decide), if_pos rfl] at hr
        have HV := Lib.hid hr
        have hsz := hi3 rfl
        clear hr hi2 hi3
        go_enter Try.func28, Try.ntmps28
        go_wp2_with fail
        refine (peek_as p s i (i + 1) 1 _ (by decide) (by omega) hi hs HC _ _ HB.out).mono ?_
        rintro e h1 ⟨rfl, h1⟩
        have H1 := Lib.hid h1
        clear h1
        go_wp2_with fail
        refine (peek_as p s i (i + 2) 2 _ (by decide) (by omega) hi hs HD _ _ H1.out).mono ?_
        rintro e h2 ⟨rfl, h1⟩
        have H2 := Lib.hid h1
        clear h1
        go_wp2_with fail
        refine (peek_as p s i (i + 3) 3 _ (by decide) (by omega) hi hs HX _ _ H2.out).mono ?_
        rintro e h3 ⟨rfl, h1⟩
        have H3 := Lib.hid h1
        clear h1
        obtain ⟨t0, t1, t2, t3, t4, t5, tf⟩ := (HT.out.on H3.out HZ.out HQ.out).cells
        have d1 := H3.out.c1
        have d2 := H3.out.f 1
        have hne : w.heap.size ≠ p := HQ.out
        have hne2 : p ≠ w.heap.size := hne.symm
        go_wp2_with fail
        refine bodyPost_ret (v := .tuple #[tokV 4 ⟨#[]⟩ 10 false, .int .i64 0]) (by simp [results, Try.results28, go_sem, tokV, t0, t1, t2, t3, t4, t5]) rfl ?_
        rw [HK.out, HR.out, ← HV.out]
        refine ⟨rfl, ?_⟩
        repeat (first | with_reducible refine Sc.setq ?_ HG.out HQ.out _ _ | with_reducible refine Sc.drewN ?_ _)
        exact Sc.setI (j := i + 4) ((HS.out.alloc _).onto H3.out) (by omega)
      · have q1 : (x == 39) = false := by simpa using hx39
        have q2 : (x != 39) = true := by simpa using hx39
        rw [if_pos rfl, if_pos (by decide), if_neg hx39] at hr
        have HV := Lib.hid hr
        clear hr hi2 hi3
        go_enter Try.func28, Try.ntmps28
        go_wp2_with fail
        refine (peek_as p s i (i + 1) 1 _ (by decide) (by omega) hi hs HC _ _ HB.out).mono ?_
        rintro e h1 ⟨rfl, h1⟩
        have H1 := Lib.hid h1
        clear h1
        go_wp2_with fail
        refine (peek_as p s i (i + 2) 2 _ (by decide) (by omega) hi hs HD _ _ H1.out).mono ?_
        rintro e h2 ⟨rfl, h1⟩
        have H2 := Lib.hid h1
        clear h1
        go_wp2_with fail
        refine (peek_as p s i (i + 3) 3 _ (by decide) (by omega) hi hs HX _ _ H2.out).mono ?_
        rintro e h3 ⟨rfl, h1⟩
        have H3 := Lib.hid h1
        clear h1
        obtain ⟨t0, t1, t2, t3, t4, t5, tf⟩ := (HT.out.on H3.out HZ.out HQ.out).cells
        go_wp2_with fail
        refine bodyPost_ret (v := .tuple #[tokV 0 ⟨#[]⟩ 0 false, .int .i64 3]) (by simp [results, Try.results28, go_sem, tokV, t0, t1, t2, t3, t4, t5]) rfl ?_
        rw [HK.out, HR.out, ← HV.out]
        refine ⟨rfl, ?_⟩
        repeat (first | with_reducible refine Sc.setq ?_ HG.out HQ.out _ _ | with_reducible refine Sc.drewN ?_ _)
        exact (HS.out.alloc _).onto H3.out
    by_cases h48 : d = 48
    · subst h48
      by_cases hx39 : x = 39
      · subst hx39
        rw [if_pos rfl, if_pos (by decide), if_pos rfl] at hr
        have HV := Lib.hid hr
        have hsz := hi3 rfl
        clear hr hi2 hi3
        go_enter Try.func28, Try.ntmps28
        go_wp2_with fail
        refine (peek_as p s i (i + 1) 1 _ (by decide) (by omega) hi hs HC _ _ HB.out).mono ?_
        rintro e h1 ⟨rfl, h1⟩
        have H1 := Lib.hid h1
        clear h1
        go_wp2_with fail
        refine (peek_as p s i (i + 2) 2 _ (by decide) (by omega) hi hs HD _ _ H1.out).mono ?_
        rintro e h2 ⟨rfl, h1⟩
        have H2 := Lib.hid h1
        clear h1
        go_wp2_with fail
        refine (peek_as p s i (i + 3) 3 _ (by decide) (by omega) hi hs HX _ _ H2.out).mono ?_
        rintro e h3 ⟨rfl, h1⟩
        have H3 := Lib.hid h1
        clear h1
        obtain ⟨t0, t1, t2, t3, t4, t5, tf⟩ := (HT.out.on H3.out HZ.out HQ.out).cells
        have d1 := H3.out.c1
        have d2 := H3.out.f 1
        have hne : w.heap.size ≠ p := HQ.out
        have hne2 : p ≠ w.heap.size := hne.symm
        go_wp2_with fail
        refine bodyPost_ret (v := .tuple #[tokV 4 ⟨#[]⟩ 0 false, .int .i64 0]) (by simp [results, Try.results28, go_sem, tokV, t0, t1, t2, t3, t4, t5]) rfl ?_
        rw [HK.out, HR.out, ← HV.out]
        refine ⟨rfl, ?_⟩
        repeat (first | with_reducible refine Sc.setq ?_ HG.out HQ.out _ _ | with_reducible refine Sc.drewN ?_ _)
        exact Sc.setI (j := i + 4) ((HS.out.alloc _).onto H3.out) (by omega)
      · have q1 : (x == 39) = false := by simpa using hx39
        have q2 : (x != 39) = true := by simpa using hx39
        rw [if_pos rfl, if_pos (by decide), if_neg hx39] at hr
        have HV := Lib.hid hr
        clear hr hi2 hi3
        go_enter Try.func28, Try.ntmps28
        go_wp2_with fail
        refine (peek_as p s i (i + 1) 1 _ (by decide) (by omega) hi hs HC _ _ HB.out).mono ?_
        rintro e h1 ⟨rfl, h1⟩
        have H1 := Lib.hid h1
        clear h1
        go_wp2_with fail
        refine (peek_as p s i (i + 2) 2 _ (by decide) (by omega) hi hs HD _ _ H1.out).mono ?_
        rintro e h2 ⟨rfl, h1⟩
        have H2 := Lib.hid h1
        clear h1
        go_wp2_with fail
        refine (peek_as p s i (i + 3) 3 _ (by decide) (by omega) hi hs HX _ _ H2.out).mono ?_
        rintro e h3 ⟨rfl, h1⟩
        have H3 := Lib.hid h1
        clear h1
        obtain ⟨t0, t1, t2, t3, t4, t5, tf⟩ := (HT.out.on H3.out HZ.out HQ.out).cells
        go_wp2_with fail
        refine bodyPost_ret (v := .tuple #[tokV 0 ⟨#[]⟩ 0 false, .int .i64 3]) (by simp [results, Try.results28, go_sem, tokV, t0, t1, t2, t3, t4, t5]) rfl ?_
        rw [HK.out, HR.out, ← HV.out]
        refine ⟨rfl, ?_⟩
        repeat (first | with_reducible refine Sc.setq ?_ HG.out HQ.out _ _ | with_reducible refine Sc.drewN ?_ _)
        exact (HS.out.alloc _).onto H3.out
    by_cases h92 : d = 92
    · subst h92
      by_cases hx39 : x = 39
      · subst hx39
        rw [if_pos rfl, if_pos (by decide), if_pos rfl] at hr
        have HV := Lib.hid hr
        have hsz := hi3 rfl
        clear hr hi2 hi3
        go_enter Try.func28, Try.ntmps28
        go_wp2_with fail
        refine (peek_as p s i (i + 1) 1 _ (by decide) (by omega) hi hs HC _ _ HB.out).mono ?_
        rintro e h1 ⟨rfl, h1⟩
        have H1 := Lib.hid h1
        clear h1
        go_wp2_with fail
        refine (peek_as p s i (i + 2) 2 _ (by decide) (by omega) hi hs HD _ _ H1.out).mono ?_
        rintro e h2 ⟨rfl, h1⟩
        have H2 := Lib.hid h1
        clear h1
        go_wp2_with fail
        refine (peek_as p s i (i + 2) 2 _ (by decide) (by omega) hi hs HD _ _ H2.out).mono ?_
        rintro e h3 ⟨rfl, h1⟩
        have H3 := Lib.hid h1
        clear h1
        go_wp2_with fail
        refine (peek_as p s i (i + 3) 3 _ (by decide) (by omega) hi hs HX _ _ H3.out).mono ?_
        rintro e h4 ⟨rfl, h1⟩
        have H4 := Lib.hid h1
        clear h1
        obtain ⟨t0, t1, t2, t3, t4, t5, tf⟩ := (HT.out.on H4.out HZ.out HQ.out).cells
        have d1 := H4.out.c1
        have d2 := H4.out.f 1
        have hne : w.heap.size ≠ p := HQ.out
        have hne2 : p ≠ w.heap.size := hne.symm
        go_wp2_with fail
        refine bodyPost_ret (v := .tuple #[tokV 4 ⟨#[]⟩ 92 false, .int .i64 0]) (by simp [results, Try.results28, go_sem, tokV, t0, t1, t2, t3, t4, t5]) rfl ?_
        rw [HK.out, HR.out, ← HV.out]
        refine ⟨rfl, ?_⟩
        repeat (first | with_reducible refine Sc.setq ?_ HG.out HQ.out _ _ | with_reducible refine Sc.drewN ?_ _)
        exact Sc.setI (j := i + 4) ((HS.out.alloc _).onto H4.out) (by omega)
      · have q1 : (x == 39) = false := by simpa using hx39
        have q2 : (x != 39) = true := by simpa using hx39
        rw [if_pos rfl, if_pos (by decide), if_neg hx39] at hr
        have HV := Lib.hid hr
        clear hr hi2 hi3
        go_enter Try.func28, Try.ntmps28
        go_wp2_with fail
        refine (peek_as p s i (i + 1) 1 _ (by decide) (by omega) hi hs HC _ _ HB.out).mono ?_
        rintro e h1 ⟨rfl, h1⟩
        have H1 := Lib.hid h1
        clear h1
        go_wp2_with fail
        refine (peek_as p s i (i + 2) 2 _ (by decide) (by omega) hi hs HD _ _ H1.out).mono ?_
        rintro e h2 ⟨rfl, h1⟩
        have H2 := Lib.hid h1
        clear h1
        go_wp2_with fail
        refine (peek_as p s i (i + 2) 2 _ (by decide) (by omega) hi hs HD _ _ H2.out).mono ?_
        rintro e h3 ⟨rfl, h1⟩
        have H3 := Lib.hid h1
        clear h1
        go_wp2_with fail
        refine (peek_as p s i (i + 3) 3 _ (by decide) (by omega) hi hs HX _ _ H3.out).mono ?_
        rintro e h4 ⟨rfl, h1⟩
        have H4 := Lib.hid h1
        clear h1
        obtain ⟨t0, t1, t2, t3, t4, t5, tf⟩ := (HT.out.on H4.out HZ.out HQ.out).cells
        go_wp2_with fail
        refine bodyPost_ret (v := .tuple #[tokV 0 ⟨#[]⟩ 0 false, .int .i64 3]) (by simp [results, Try.results28, go_sem, tokV, t0, t1, t2, t3, t4, t5]) rfl ?_
        rw [HK.out, HR.out, ← HV.out]
        refine ⟨rfl, ?_⟩
        repeat (first | with_reducible refine Sc.setq ?_ HG.out HQ.out _ _ | with_reducible refine Sc.drewN ?_ _)
        exact (HS.out.alloc _).onto H4.out
    by_cases h39 : d = 39
    · subst h39
      by_cases hx39 : x = 39
      · subst hx39
        rw [if_pos rfl, if_pos (by decide), if_pos rfl] at hr
        have HV := Lib.hid hr
        have hsz := hi3 rfl
        clear hr hi2 hi3
        go_enter Try.func28, Try.ntmps28
        go_wp2_with fail
        refine (peek_as p s i (i + 1) 1 _ (by decide) (by omega) hi hs HC _ _ HB.out).mono ?_
        rintro e h1 ⟨rfl, h1⟩
        have H1 := Lib.hid h1
        clear h1
        go_wp2_with fail
        refine (peek_as p s i (i + 2) 2 _ (by decide) (by omega) hi hs HD _ _ H1.out).mono ?_
        rintro e h2 ⟨rfl, h1⟩
        have H2 := Lib.hid h1
        clear h1
        go_wp2_with fail
        refine (peek_as p s i (i + 2) 2 _ (by decide) (by omega) hi hs HD _ _ H2.out).mono ?_
        rintro e h3 ⟨rfl, h1⟩
        have H3 := Lib.hid h1
        clear h1
        go_wp2_with fail
        refine (peek_as p s i (i + 3) 3 _ (by decide) (by omega) hi hs HX _ _ H3.out).mono ?_
        rintro e h4 ⟨rfl, h1⟩
        have H4 := Lib.hid h1
        clear h1
        obtain ⟨t0, t1, t2, t3, t4, t5, tf⟩ := (HT.out.on H4.out HZ.out HQ.out).cells
        have d1 := H4.out.c1
        have d2 := H4.out.f 1
        have hne : w.heap.size ≠ p := HQ.out
        have hne2 : p ≠ w.heap.size := hne.symm
        go_wp2_with fail
        refine bodyPost_ret (v := .tuple #[tokV 4 ⟨#[]⟩ 39 false, .int .i64 0]) (by simp [results, Try.results28, go_sem, tokV, t0, t1, t2, t3, t4, t5]) rfl ?_
        rw [HK.out, HR.out, ← HV.out]
        refine ⟨rfl, ?_⟩
        repeat (first | with_reducible refine Sc.setq ?_ HG.out HQ.out _ _ | with_reducible refine Sc.drewN ?_ _)
        exact Sc.setI (j := i + 4) ((HS.out.alloc _).onto H4.out) (by omega)
      · have q1 : (x == 39) = false := by simpa using hx39
        have q2 : (x != 39) = true := by simpa using hx39
        rw [if_pos rfl, if_pos (by decide), if_neg hx39] at hr
        have HV := Lib.hid hr
        clear hr hi2 hi3
        go_enter Try.func28, Try.ntmps28
        go_wp2_with fail
        refine (peek_as p s i (i + 1) 1 _ (by decide) (by omega) hi hs HC _ _ HB.out).mono ?_
        rintro e h1 ⟨rfl, h1⟩
        have H1 := Lib.hid h1
        clear h1
        go_wp2_with fail
        refine (peek_as p s i (i + 2) 2 _ (by decide) (by omega) hi hs HD _ _ H1.out).mono ?_
        rintro e h2 ⟨rfl, h1⟩
        have H2 := Lib.hid h1
        clear h1
        go_wp2_with fail
        refine (peek_as p s i (i + 2) 2 _ (by decide) (by omega) hi hs HD _ _ H2.out).mono ?_
        rintro e h3 ⟨rfl, h1⟩
        have H3 := Lib.hid h1
        clear h1
        go_wp2_with fail
        refine (peek_as p s i (i + 3) 3 _ (by decide) (by omega) hi hs HX _ _ H3.out).mono ?_
        rintro e h4 ⟨rfl, h1⟩
        have H4 := Lib.hid h1
        clear h1
        obtain ⟨t0, t1, t2, t3, t4, t5, tf⟩ := (HT.out.on H4.out HZ.out HQ.out).cells
        go_wp2_with fail
        refine bodyPost_ret (v := .tuple #[tokV 0 ⟨#[]⟩ 0 false, .int .i64 3]) (by simp [results, Try.results28, go_sem, tokV, t0, t1, t2, t3, t4, t5]) rfl ?_
        rw [HK.out, HR.out, ← HV.out]
        refine ⟨rfl, ?_⟩
        repeat (first | with_reducible refine Sc.setq ?_ HG.out HQ.out _ _ | with_reducible refine Sc.drewN ?_ _)
        exact (HS.out.alloc _).onto H4.out
    have q1 : (d == 110) = false := by simpa using h110
    have q2 : (d == 48) = false := by simpa using h48
    have q3 : (d == 92) = false := by simpa using h92
    have q4 : (d == 39) = false := by simpa using h39
    rw [if_pos rfl, if_neg (by omega)] at hr
    have HV := Lib.hid hr
    clear hr hi2 hi3
    go_enter Try.func28, Try.ntmps28
    go_wp2_with fail
    refine (peek_as p s i (i + 1) 1 _ (by decide) (by omega) hi hs HC _ _ HB.out).mono ?_
    rintro e h1 ⟨rfl, h1⟩
    have H1 := Lib.hid h1
    clear h1
    go_wp2_with fail
    refine (peek_as p s i (i + 2) 2 _ (by decide) (by omega) hi hs HD _ _ H1.out).mono ?_
    rintro e h2 ⟨rfl, h1⟩
    have H2 := Lib.hid h1
    clear h1
    obtain ⟨t0, t1, t2, t3, t4, t5, tf⟩ := (HT.out.on H2.out HZ.out HQ.out).cells
    go_wp2_with fail
    refine bodyPost_ret (v := .tuple #[tokV 0 ⟨#[]⟩ 0 false, .int .i64 3]) (by simp [results, Try.results28, go_sem, tokV, t0, t1, t2, t3, t4, t5]) rfl ?_
    rw [HK.out, HR.out, ← HV.out]
    refine ⟨rfl, ?_⟩
    repeat (first | with_reducible refine Sc.setq ?_ HG.out HQ.out _ _ | with_reducible refine Sc.drewN ?_ _)
    exact (HS.out.alloc _).onto H2.out
  · have q0 : (c == 92) = false := by simpa using h92
    by_cases hbad : c < 32 ∨ 126 < c ∨ c = 39
    · rcases hbad with hb | hb | hb
      · skip
        rw [if_neg h92, if_pos (.inl hb)] at hr
        have HV := Lib.hid hr
        clear hr hi2 hi3
        go_enter Try.func28, Try.ntmps28
        go_wp2_with fail
        refine (peek_as p s i (i + 1) 1 _ (by decide) (by omega) hi hs HC _ _ HB.out).mono ?_
        rintro e h1 ⟨rfl, h1⟩
        have H1 := Lib.hid h1
        clear h1
        obtain ⟨t0, t1, t2, t3, t4, t5, tf⟩ := (HT.out.on H1.out HZ.out HQ.out).cells
        go_wp2_with fail
        refine bodyPost_ret (v := .tuple #[tokV 0 ⟨#[]⟩ 0 false, .int .i64 3]) (by simp [results, Try.results28, go_sem, tokV, t0, t1, t2, t3, t4, t5]) rfl ?_
        rw [HK.out, HR.out, ← HV.out]
        refine ⟨rfl, ?_⟩
        repeat (first | with_reducible refine Sc.setq ?_ HG.out HQ.out _ _ | with_reducible refine Sc.drewN ?_ _)
        exact (HS.out.alloc _).onto H1.out
      · have hb1 : ¬ c < 32 := by omega
        rw [if_neg h92, if_pos (.inr (.inl hb))] at hr
        have HV := Lib.hid hr
        clear hr hi2 hi3
        go_enter Try.func28, Try.ntmps28
        go_wp2_with fail
        refine (peek_as p s i (i + 1) 1 _ (by decide) (by omega) hi hs HC _ _ HB.out).mono ?_
        rintro e h1 ⟨rfl, h1⟩
        have H1 := Lib.hid h1
        clear h1
        obtain ⟨t0, t1, t2, t3, t4, t5, tf⟩ := (HT.out.on H1.out HZ.out HQ.out).cells
        go_wp2_with fail
        refine bodyPost_ret (v := .tuple #[tokV 0 ⟨#[]⟩ 0 false, .int .i64 3]) (by simp [results, Try.results28, go_sem, tokV, t0, t1, t2, t3, t4, t5]) rfl ?_
        rw [HK.out, HR.out, ← HV.out]
        refine ⟨rfl, ?_⟩
        repeat (first | with_reducible refine Sc.setq ?_ HG.out HQ.out _ _ | with_reducible refine Sc.drewN ?_ _)
        exact (HS.out.alloc _).onto H1.out
      · subst hb
        clear q0
        rw [if_neg (by decide), if_pos (by decide)] at hr
        have HV := Lib.hid hr
        clear hr hi2 hi3
        go_enter Try.func28, Try.ntmps28
        go_wp2_with fail
        refine (peek_as p s i (i + 1) 1 _ (by decide) (by omega) hi hs HC _ _ HB.out).mono ?_
        rintro e h1 ⟨rfl, h1⟩
        have H1 := Lib.hid h1
        clear h1
        obtain ⟨t0, t1, t2, t3, t4, t5, tf⟩ := (HT.out.on H1.out HZ.out HQ.out).cells
        go_wp2_with fail
        refine bodyPost_ret (v := .tuple #[tokV 0 ⟨#[]⟩ 0 false, .int .i64 3]) (by simp [results, Try.results28, go_sem, tokV, t0, t1, t2, t3, t4, t5]) rfl ?_
        rw [HK.out, HR.out, ← HV.out]
        refine ⟨rfl, ?_⟩
        repeat (first | with_reducible refine Sc.setq ?_ HG.out HQ.out _ _ | with_reducible refine Sc.drewN ?_ _)
        exact (HS.out.alloc _).onto H1.out
    · have b1 : ¬ c < 32 := fun h => hbad (.inl h)
      have b2 : ¬ 126 < c := fun h => hbad (.inr (.inl h))
      have b3 : (c == 39) = false := by simpa using fun h => hbad (.inr (.inr h))
      by_cases hd39 : d = 39
      · subst hd39
        rw [if_neg h92, if_neg hbad, if_pos rfl] at hr
        have HV := Lib.hid hr
        have hsz := hi2 rfl
        clear hr hi2 hi3
        go_enter Try.func28, Try.ntmps28
        go_wp2_with fail
        refine (peek_as p s i (i + 1) 1 _ (by decide) (by omega) hi hs HC _ _ HB.out).mono ?_
        rintro e h1 ⟨rfl, h1⟩
        have H1 := Lib.hid h1
        clear h1
        go_wp2_with fail
        refine (peek_as p s i (i + 2) 2 _ (by decide) (by omega) hi hs HD _ _ H1.out).mono ?_
        rintro e h2 ⟨rfl, h1⟩
        have H2 := Lib.hid h1
        clear h1
        obtain ⟨t0, t1, t2, t3, t4, t5, tf⟩ := (HT.out.on H2.out HZ.out HQ.out).cells
        have d1 := H2.out.c1
        have d2 := H2.out.f 1
        have hne : w.heap.size ≠ p := HQ.out
        have hne2 : p ≠ w.heap.size := hne.symm
        go_wp2_with fail
        refine bodyPost_ret (v := .tuple #[tokV 4 ⟨#[]⟩ c false, .int .i64 0]) (by simp [results, Try.results28, go_sem, tokV, t0, t1, t2, t3, t4, t5]) rfl ?_
        rw [HK.out, HR.out, ← HV.out]
        refine ⟨rfl, ?_⟩
        repeat (first | with_reducible refine Sc.setq ?_ HG.out HQ.out _ _ | with_reducible refine Sc.drewN ?_ _)
        exact Sc.setI (j := i + 3) ((HS.out.alloc _).onto H2.out) (by omega)
      · have q2 : (d != 39) = true := by simpa using hd39
        have q3 : (d == 39) = false := by simpa using hd39
        rw [if_neg h92, if_neg hbad, if_neg hd39] at hr
        have HV := Lib.hid hr
        clear hr hi2 hi3
        go_enter Try.func28, Try.ntmps28
        go_wp2_with fail
        refine (peek_as p s i (i + 1) 1 _ (by decide) (by omega) hi hs HC _ _ HB.out).mono ?_
        rintro e h1 ⟨rfl, h1⟩
        have H1 := Lib.hid h1
        clear h1
        go_wp2_with fail
        refine (peek_as p s i (i + 2) 2 _ (by decide) (by omega) hi hs HD _ _ H1.out).mono ?_
        rintro e h2 ⟨rfl, h1⟩
        have H2 := Lib.hid h1
        clear h1
        obtain ⟨t0, t1, t2, t3, t4, t5, tf⟩ := (HT.out.on H2.out HZ.out HQ.out).cells
        go_wp2_with fail
        refine bodyPost_ret (v := .tuple #[tokV 0 ⟨#[]⟩ 0 false, .int .i64 3]) (by simp [results, Try.results28, go_sem, tokV, t0, t1, t2, t3, t4, t5]) rfl ?_
        rw [HK.out, HR.out, ← HV.out]
        refine ⟨rfl, ?_⟩
        repeat (first | with_reducible refine Sc.setq ?_ HG.out HQ.out _ _ | with_reducible refine Sc.drewN ?_ _)
        exact (HS.out.alloc _).onto H2.out
end Go.Proofs.Ytlpoahjgonjelaa
