/- The scanner's token. -/
import Derived.Test.YtlpoahjgonjelaaLexNumberB
import Derived.Test.YtlpoahjgonjelaaLexChar
namespace Go.Proofs.Ytlpoahjgonjelaa
open Go.RowKit
set_option linter.unusedVariables false

set_option maxHeartbeats 4000000 in
theorem token_name (p : Nat) (s : ByteArray) (i : Nat) (hi : i ≤ s.size) (hs : s.size ≤ 4611686018427387904) (c : Int) (HC : Hid (Lx.pk s i = c)) (HL : Hid (Lx.letB c = true)) (K C : Int) (E : Nat) (HN1 : Hid ((Lx.nameM s i (Lx.nameEnd s i)).2 = K)) (HN2 : Hid ((Lx.nameM s i (Lx.nameEnd s i)).1 = C)) (HN3 : Hid (Lx.nameEnd s i = E)) (w0 w : World) (h : Sc p s i w0 w) :
    Calls Try.prog 17 #[.pointer (some ⟨p, 0, none⟩)] w (TokPost p s w0 K ⟨#[]⟩ 0 false C E) := by
  have HZ : Hid (w.heap.size < (w.alloc (.cells #[.int .i64 0, .int .i64 0, .string ⟨#[]⟩, .string ⟨#[]⟩, .int .u64 0, .bool false] 33)).heap.size) := Lib.hid (by simp)
  have HT := Lib.hid (TokAt.made w)
  have HQ := Lib.hid (Nat.ne_of_gt h.lt)
  have HG := Lib.hid h.g.size
  have HS := Lib.hid h
  have B0 : Hid (Sc p s i (w.alloc (.cells #[.int .i64 0, .int .i64 0, .string ⟨#[]⟩, .string ⟨#[]⟩, .int .u64 0, .bool false] 33)) (w.alloc (.cells #[.int .i64 0, .int .i64 0, .string ⟨#[]⟩, .string ⟨#[]⟩, .int .u64 0, .bool false] 33))) := Lib.hid (h.alloc _).refl
  clear h
  have hcb := Lx.pk_bd s i
  rw [HC.out] at hcb
  go_enter Try.func17, Try.ntmps17
  go_wp2_with fail
  refine (peek_as p s i i 0 _ (by decide) (by omega) hi hs HC _ _ B0.out).mono ?_
  rintro e x1 ⟨rfl, h1⟩
  have B1 := Lib.hid h1
  clear h1
  go_wp2_with fail
  refine (letter_as c _ hcb HL _).mono ?_
  rintro e x2 ⟨rfl, rfl⟩
  have hN := name_any p s i hi hs _ _ B1.out
  rw [HN1.out, HN2.out, HN3.out] at hN
  go_wp2_with fail
  refine (hN).mono ?_
  rintro e x4 ⟨he, h1⟩
  unfold tokV at he
  subst he
  have B4 := Lib.hid h1
  clear h1
  obtain ⟨t0, t1, t2, t3, t4, t5, tf⟩ := (HT.out.on B4.out HZ.out HQ.out).cells
  go_wp2_with fail
  refine bodyPost_ret (v := .tuple #[tokV K ⟨#[]⟩ 0 false, .int .i64 C]) (by simp [results, Try.results17, go_sem, tokV, t0, t1, t2, t3, t4, t5]) rfl ⟨rfl, ?_⟩
  repeat (first | with_reducible refine Sc.setq ?_ HG.out HQ.out _ _ | with_reducible refine Sc.drewN ?_ _)
  exact (HS.out.alloc _).onto B4.out

set_option maxHeartbeats 4000000 in
theorem token_number (p : Nat) (s : ByteArray) (i : Nat) (hi : i ≤ s.size) (hs : s.size ≤ 4611686018427387904) (c : Int) (HC : Hid (Lx.pk s i = c)) (HL : Hid (Lx.letB c = false)) (HD : Hid (Lx.digB c = true)) (r : Lx.NumR) (HR : Hid (Lx.numberM s i = r)) (w0 w : World) (h : Sc p s i w0 w) :
    Calls Try.prog 17 #[.pointer (some ⟨p, 0, none⟩)] w (RecPost p s w0 r) := by
  have HZ : Hid (w.heap.size < (w.alloc (.cells #[.int .i64 0, .int .i64 0, .string ⟨#[]⟩, .string ⟨#[]⟩, .int .u64 0, .bool false] 33)).heap.size) := Lib.hid (by simp)
  have HT := Lib.hid (TokAt.made w)
  have HQ := Lib.hid (Nat.ne_of_gt h.lt)
  have HG := Lib.hid h.g.size
  have HS := Lib.hid h
  have B0 : Hid (Sc p s i (w.alloc (.cells #[.int .i64 0, .int .i64 0, .string ⟨#[]⟩, .string ⟨#[]⟩, .int .u64 0, .bool false] 33)) (w.alloc (.cells #[.int .i64 0, .int .i64 0, .string ⟨#[]⟩, .string ⟨#[]⟩, .int .u64 0, .bool false] 33))) := Lib.hid (h.alloc _).refl
  clear h
  have hcb := Lx.pk_bd s i
  rw [HC.out] at hcb
  go_enter Try.func17, Try.ntmps17
  go_wp2_with fail
  refine (peek_as p s i i 0 _ (by decide) (by omega) hi hs HC _ _ B0.out).mono ?_
  rintro e x1 ⟨rfl, h1⟩
  have B1 := Lib.hid h1
  clear h1
  go_wp2_with fail
  refine (letter_as c _ hcb HL _).mono ?_
  rintro e x2 ⟨rfl, rfl⟩
  go_wp2_with fail
  refine (digit_as c _ hcb HD _).mono ?_
  rintro e x3 ⟨rfl, rfl⟩
  have hN := number_any p s i hi hs _ _ B1.out
  rw [HR.out] at hN
  obtain ⟨code, j, kind, suf, num, hex⟩ := r
  unfold RecPost at hN ⊢
  go_wp2_with fail
  refine (hN).mono ?_
  rintro e x4 ⟨he, h1⟩
  unfold tokV at he
  subst he
  have B4 := Lib.hid h1
  clear h1
  obtain ⟨t0, t1, t2, t3, t4, t5, tf⟩ := (HT.out.on B4.out HZ.out HQ.out).cells
  go_wp2_with fail
  refine bodyPost_ret (v := .tuple #[tokV kind suf num hex, .int .i64 code]) (by simp [results, Try.results17, go_sem, tokV, t0, t1, t2, t3, t4, t5]) rfl ⟨rfl, ?_⟩
  repeat (first | with_reducible refine Sc.setq ?_ HG.out HQ.out _ _ | with_reducible refine Sc.drewN ?_ _)
  exact (HS.out.alloc _).onto B4.out

set_option maxHeartbeats 4000000 in
theorem token_char (p : Nat) (s : ByteArray) (i : Nat) (hi : i ≤ s.size) (hs : s.size ≤ 4611686018427387904) (c : Int) (HC : Hid (Lx.pk s i = c)) (HL : Hid (Lx.letB c = false)) (HD : Hid (Lx.digB c = false)) (H39 : Hid (c = 39)) (K C V : Int) (E : Nat) (H1 : Hid (Lx.chK s i = K)) (H2 : Hid ((Lx.chM s i).1 = C)) (H3 : Hid ((Lx.chM s i).2.2 = V)) (H4 : Hid (i + (Lx.chM s i).2.1 = E)) (w0 w : World) (h : Sc p s i w0 w) :
    Calls Try.prog 17 #[.pointer (some ⟨p, 0, none⟩)] w (TokPost p s w0 K ⟨#[]⟩ V false C E) := by
  have HZ : Hid (w.heap.size < (w.alloc (.cells #[.int .i64 0, .int .i64 0, .string ⟨#[]⟩, .string ⟨#[]⟩, .int .u64 0, .bool false] 33)).heap.size) := Lib.hid (by simp)
  have HT := Lib.hid (TokAt.made w)
  have HQ := Lib.hid (Nat.ne_of_gt h.lt)
  have HG := Lib.hid h.g.size
  have HS := Lib.hid h
  have B0 : Hid (Sc p s i (w.alloc (.cells #[.int .i64 0, .int .i64 0, .string ⟨#[]⟩, .string ⟨#[]⟩, .int .u64 0, .bool false] 33)) (w.alloc (.cells #[.int .i64 0, .int .i64 0, .string ⟨#[]⟩, .string ⟨#[]⟩, .int .u64 0, .bool false] 33))) := Lib.hid (h.alloc _).refl
  clear h
  have hcb := Lx.pk_bd s i
  rw [HC.out] at hcb
  go_enter Try.func17, Try.ntmps17
  go_wp2_with fail
  refine (peek_as p s i i 0 _ (by decide) (by omega) hi hs HC _ _ B0.out).mono ?_
  rintro e x1 ⟨rfl, h1⟩
  have B1 := Lib.hid h1
  clear h1
  go_wp2_with fail
  refine (letter_as c _ hcb HL _).mono ?_
  rintro e x2 ⟨rfl, rfl⟩
  go_wp2_with fail
  refine (digit_as c _ hcb HD _).mono ?_
  rintro e x3 ⟨rfl, rfl⟩
  have hN := char_any p s i hi hs _ _ B1.out
  rw [H1.out, H2.out, H3.out, H4.out] at hN
  have q39 : (c == 39) = true := by rw [H39.out]; rfl
  go_wp2_with fail
  refine (hN).mono ?_
  rintro e x4 ⟨he, h1⟩
  unfold tokV at he
  subst he
  have B4 := Lib.hid h1
  clear h1
  obtain ⟨t0, t1, t2, t3, t4, t5, tf⟩ := (HT.out.on B4.out HZ.out HQ.out).cells
  go_wp2_with fail
  refine bodyPost_ret (v := .tuple #[tokV K ⟨#[]⟩ V false, .int .i64 C]) (by simp [results, Try.results17, go_sem, tokV, t0, t1, t2, t3, t4, t5]) rfl ⟨rfl, ?_⟩
  repeat (first | with_reducible refine Sc.setq ?_ HG.out HQ.out _ _ | with_reducible refine Sc.drewN ?_ _)
  exact (HS.out.alloc _).onto B4.out

set_option maxHeartbeats 4000000 in
theorem token_none (p : Nat) (s : ByteArray) (i : Nat) (hi : i ≤ s.size) (hs : s.size ≤ 4611686018427387904) (c : Int) (HC : Hid (Lx.pk s i = c)) (HL : Hid (Lx.letB c = false)) (HD : Hid (Lx.digB c = false)) (h39 : c ≠ 39) (HG2 : Hid (Lx.signM (Lx.pk s i) (Lx.pk s (i + 1)) (Lx.pk s (i + 2)) = 0)) (w0 w : World) (h : Sc p s i w0 w) :
    Calls Try.prog 17 #[.pointer (some ⟨p, 0, none⟩)] w (TokPost p s w0 0 ⟨#[]⟩ 0 false 3 i) := by
  have HZ : Hid (w.heap.size < (w.alloc (.cells #[.int .i64 0, .int .i64 0, .string ⟨#[]⟩, .string ⟨#[]⟩, .int .u64 0, .bool false] 33)).heap.size) := Lib.hid (by simp)
  have HT := Lib.hid (TokAt.made w)
  have HQ := Lib.hid (Nat.ne_of_gt h.lt)
  have HG := Lib.hid h.g.size
  have HS := Lib.hid h
  have B0 : Hid (Sc p s i (w.alloc (.cells #[.int .i64 0, .int .i64 0, .string ⟨#[]⟩, .string ⟨#[]⟩, .int .u64 0, .bool false] 33)) (w.alloc (.cells #[.int .i64 0, .int .i64 0, .string ⟨#[]⟩, .string ⟨#[]⟩, .int .u64 0, .bool false] 33))) := Lib.hid (h.alloc _).refl
  clear h
  have hcb := Lx.pk_bd s i
  rw [HC.out] at hcb
  go_enter Try.func17, Try.ntmps17
  go_wp2_with fail
  refine (peek_as p s i i 0 _ (by decide) (by omega) hi hs HC _ _ B0.out).mono ?_
  rintro e x1 ⟨rfl, h1⟩
  have B1 := Lib.hid h1
  clear h1
  go_wp2_with fail
  refine (letter_as c _ hcb HL _).mono ?_
  rintro e x2 ⟨rfl, rfl⟩
  go_wp2_with fail
  refine (digit_as c _ hcb HD _).mono ?_
  rintro e x3 ⟨rfl, rfl⟩
  have h39' : (c == 39) = false := by simpa using h39
  have hN := sign_any p s i hi hs _ _ B1.out
  rw [HG2.out] at hN
  go_wp2_with fail
  refine hN.mono ?_
  rintro e x4 ⟨rfl, h1⟩
  have B4 := Lib.hid h1
  clear h1
  obtain ⟨t0, t1, t2, t3, t4, t5, tf⟩ := (HT.out.on B4.out HZ.out HQ.out).cells
  go_wp2_with fail
  refine bodyPost_ret (v := .tuple #[tokV 0 ⟨#[]⟩ 0 false, .int .i64 3]) (by simp [results, Try.results17, go_sem, tokV, t0, t1, t2, t3, t4, t5]) rfl ⟨rfl, ?_⟩
  repeat (first | with_reducible refine Sc.setq ?_ HG.out HQ.out _ _ | with_reducible refine Sc.drewN ?_ _)
  exact (HS.out.alloc _).onto B4.out

set_option maxHeartbeats 4000000 in
theorem token_sign (p : Nat) (s : ByteArray) (i : Nat) (hi : i ≤ s.size) (hs : s.size ≤ 4611686018427387904) (c : Int) (HC : Hid (Lx.pk s i = c)) (HL : Hid (Lx.letB c = false)) (HD : Hid (Lx.digB c = false)) (h39 : c ≠ 39) (n : Nat) (hn : n ≠ 0 ∧ n ≤ 3) (HG2 : Hid (Lx.signM (Lx.pk s i) (Lx.pk s (i + 1)) (Lx.pk s (i + 2)) = n)) (w0 w : World) (h : Sc p s i w0 w) :
    Calls Try.prog 17 #[.pointer (some ⟨p, 0, none⟩)] w (TokPost p s w0 5 ⟨#[]⟩ 0 false 0 (i + n)) := by
  have HZ : Hid (w.heap.size < (w.alloc (.cells #[.int .i64 0, .int .i64 0, .string ⟨#[]⟩, .string ⟨#[]⟩, .int .u64 0, .bool false] 33)).heap.size) := Lib.hid (by simp)
  have HT := Lib.hid (TokAt.made w)
  have HQ := Lib.hid (Nat.ne_of_gt h.lt)
  have HG := Lib.hid h.g.size
  have HS := Lib.hid h
  have B0 : Hid (Sc p s i (w.alloc (.cells #[.int .i64 0, .int .i64 0, .string ⟨#[]⟩, .string ⟨#[]⟩, .int .u64 0, .bool false] 33)) (w.alloc (.cells #[.int .i64 0, .int .i64 0, .string ⟨#[]⟩, .string ⟨#[]⟩, .int .u64 0, .bool false] 33))) := Lib.hid (h.alloc _).refl
  clear h
  have hcb := Lx.pk_bd s i
  rw [HC.out] at hcb
  go_enter Try.func17, Try.ntmps17
  go_wp2_with fail
  refine (peek_as p s i i 0 _ (by decide) (by omega) hi hs HC _ _ B0.out).mono ?_
  rintro e x1 ⟨rfl, h1⟩
  have B1 := Lib.hid h1
  clear h1
  go_wp2_with fail
  refine (letter_as c _ hcb HL _).mono ?_
  rintro e x2 ⟨rfl, rfl⟩
  go_wp2_with fail
  refine (digit_as c _ hcb HD _).mono ?_
  rintro e x3 ⟨rfl, rfl⟩
  have h39' : (c == 39) = false := by simpa using h39
  have hN := sign_any p s i hi hs _ _ B1.out
  rw [HG2.out] at hN
  go_wp2_with fail
  refine hN.mono ?_
  rintro e x4 ⟨rfl, h1⟩
  have B4 := Lib.hid h1
  clear h1
  have hn0 : ((n : Int) == 0) = false := by simpa using hn.1
  have hn1 : (n : Int) ≤ 3 := by omega
  have d1 := B4.out.c1
  have d2 := B4.out.f 1
  have hne : w.heap.size ≠ p := HQ.out
  have hne2 : p ≠ w.heap.size := hne.symm
  obtain ⟨t0, t1, t2, t3, t4, t5, tf⟩ := (HT.out.on B4.out HZ.out HQ.out).cells
  go_wp2_with fail
  refine bodyPost_ret (v := .tuple #[tokV 5 ⟨#[]⟩ 0 false, .int .i64 0]) (by simp [results, Try.results17, go_sem, tokV, t0, t1, t2, t3, t4, t5]) rfl ⟨rfl, ?_⟩
  repeat (first | with_reducible refine Sc.setq ?_ HG.out HQ.out _ _ | with_reducible refine Sc.drewN ?_ _)
  exact Sc.setI (j := i + n) ((HS.out.alloc _).onto B4.out) (by omega)

theorem token_any (p : Nat) (s : ByteArray) (i : Nat) (hi : i ≤ s.size) (hs : s.size ≤ 4611686018427387904) (w0 w : World) (h : Sc p s i w0 w) :
    Calls Try.prog 17 #[.pointer (some ⟨p, 0, none⟩)] w (RecPost p s w0 (Lx.tokenM s i)) := by
  unfold Lx.tokenM
  cases hL : Lx.letB (Lx.pk s i)
  · rw [if_neg (by decide)]
    cases hD : Lx.digB (Lx.pk s i)
    · rw [if_neg (by decide)]
      by_cases h39 : Lx.pk s i = 39
      · rw [if_pos h39]
        exact token_char p s i hi hs _ (Lib.hid rfl) (Lib.hid hL) (Lib.hid hD) (Lib.hid h39) _ _ _ _ (Lib.hid rfl) (Lib.hid rfl) (Lib.hid rfl) (Lib.hid rfl) w0 w h
      · rw [if_neg h39]
        by_cases h0 : Lx.signM (Lx.pk s i) (Lx.pk s (i + 1)) (Lx.pk s (i + 2)) = 0
        · rw [if_pos h0]
          exact token_none p s i hi hs _ (Lib.hid rfl) (Lib.hid hL) (Lib.hid hD) h39 (Lib.hid h0) w0 w h
        · rw [if_neg h0]
          exact token_sign p s i hi hs _ (Lib.hid rfl) (Lib.hid hL) (Lib.hid hD) h39 _ ⟨h0, Lx.signM_le _ _ _⟩ (Lib.hid rfl) w0 w h
    · rw [if_pos rfl]
      exact token_number p s i hi hs _ (Lib.hid rfl) (Lib.hid hL) (Lib.hid hD) _ (Lib.hid rfl) w0 w h
  · rw [if_pos rfl]
    exact token_name p s i hi hs _ (Lib.hid rfl) (Lib.hid hL) _ _ _ (Lib.hid rfl) (Lib.hid rfl) (Lib.hid rfl) w0 w h
end Go.Proofs.Ytlpoahjgonjelaa
