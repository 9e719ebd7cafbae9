/- The scanner's numbers, all ways. -/
import Derived.Test.YtlpoahjgonjelaaLexNumber
namespace Go.Proofs.Ytlpoahjgonjelaa
open Go.RowKit
set_option linter.unusedVariables false

set_option maxHeartbeats 4000000 in
theorem number_bad (p : Nat) (s : ByteArray) (i : Nat) (hi : i ≤ s.size) (hs : s.size ≤ 4611686018427387904) (c2 W : Int) (HP0 : Hid (Lx.pk s i = 48)) (HP1 : Hid (Lx.pk s (i + 1) = 120)) (HP2 : Hid (Lx.pk s (i + 2) = c2)) (hc2 : 0 ≤ c2 ∧ c2 ≤ 255) (HV1 : Hid (vNum (Lx.valB 16 c2) = W)) (HV2 : Hid (vOk (Lx.valB 16 c2) = false)) (hk : i + 2 ≤ s.size) (w0 w : World) (h : Sc p s i w0 w) :
    Calls Try.prog 27 #[.pointer (some ⟨p, 0, none⟩)] w (TokPost p s w0 0 ⟨#[]⟩ 0 false 3 (i + 2)) := by
  have HZ : Hid (w.heap.size < (w.alloc (.cells #[.int .i64 0, .int .i64 0, .string ⟨#[]⟩, .string ⟨#[]⟩, .int .u64 0, .bool false] 33)).heap.size) := Lib.hid (by simp)
  have HT := Lib.hid (TokAt.made w)
  have HQ := Lib.hid (Nat.ne_of_gt h.lt)
  have HG := Lib.hid h.g.size
  have HS := Lib.hid h
  have hqp : w.heap.size + 1 ≠ p := by have := h.lt; omega
  have hqp' : p ≠ w.heap.size + 1 := hqp.symm
  have hq : (w.alloc (.cells #[.int .i64 0, .int .i64 0, .string ⟨#[]⟩, .string ⟨#[]⟩, .int .u64 0, .bool false] 33)).heap.size ≤ w.heap.size + 1 := by rw [heap_two]; exact Nat.le_refl _
  have N0 : Hid (TokN (w.heap.size + 1) 0 false ((w.alloc (.cells #[.int .i64 0, .int .i64 0, .string ⟨#[]⟩, .string ⟨#[]⟩, .int .u64 0, .bool false] 33)).alloc (.cells #[.int .i64 3, .int .i64 0, .string ⟨#[]⟩, .string ⟨#[]⟩, .int .u64 0, .bool false] 33))) := Lib.hid (by have := TokN.made (w.alloc (.cells #[.int .i64 0, .int .i64 0, .string ⟨#[]⟩, .string ⟨#[]⟩, .int .u64 0, .bool false] 33)); rw [heap_two] at this; exact this)
  have B0 : Hid (Sc p s i (w.alloc (.cells #[.int .i64 0, .int .i64 0, .string ⟨#[]⟩, .string ⟨#[]⟩, .int .u64 0, .bool false] 33)) ((w.alloc (.cells #[.int .i64 0, .int .i64 0, .string ⟨#[]⟩, .string ⟨#[]⟩, .int .u64 0, .bool false] 33)).alloc (.cells #[.int .i64 3, .int .i64 0, .string ⟨#[]⟩, .string ⟨#[]⟩, .int .u64 0, .bool false] 33))) := Lib.hid ((h.alloc _).refl.alloc _)
  clear h
  go_enter Try.func27, Try.ntmps27
  go_wp2_with fail
  refine (peek_as p s i (i) 0 _ (by decide) (by omega) hi hs HP0 _ _ B0.out.refl).mono ?_
  rintro e x1 ⟨rfl, h1⟩
  have B1 := Lib.hid (B0.out.onto h1)
  have K1 := Lib.hid h1
  clear h1
  have N1 := Lib.hid (N0.out.on K1.out hqp)
  go_wp2_with fail
  refine (peek_as p s i (i + 1) 1 _ (by decide) (by omega) hi hs HP1 _ _ B1.out.refl).mono ?_
  rintro e x2 ⟨rfl, h1⟩
  have B2 := Lib.hid (B1.out.onto h1)
  have K2 := Lib.hid h1
  clear h1
  have N2 := Lib.hid (N1.out.on K2.out hqp)
  have d1 := K2.out.c1
  have d2 := K2.out.f 1
  have hk' : (i : Int) + 2 ≤ (s.size : Int) := by omega
  obtain ⟨t0, t1, t2, t3, t4, t5, tf⟩ := N2.out.cells
  have B3 : Hid (Sc p s (i + 2) _ _) := Lib.hid ((Sc.setI (v := (i : Int) + 2) (j := i + 2) B2.out (by omega)).setq hq hqp 5 (.bool true))
  go_wp2_with fail
  clear t0 t1 t2 t3 t4 t5 tf d1 d2
  refine (peek_as p s (i + 2) (i + 2) 0 _ (by decide) (by omega) hk hs HP2 _ _ B3.out.refl).mono ?_
  rintro e x4 ⟨rfl, h1⟩
  have B4 := Lib.hid (B3.out.onto h1)
  clear h1
  go_wp2_with fail
  refine (value_any c2 16 hc2 (by decide) _).mono ?_
  rw [HV1.out, HV2.out]
  rintro e x5 ⟨rfl, rfl⟩
  obtain ⟨t0, t1, t2, t3, t4, t5, tf⟩ := (HT.out.on B4.out HZ.out HQ.out).cells
  go_wp2_with fail
  refine bodyPost_ret (v := .tuple #[tokV 0 ⟨#[]⟩ 0 false, .int .i64 3]) (by simp [results, Try.results27, go_sem, tokV, t0, t1, t2, t3, t4, t5]) rfl ⟨rfl, ?_⟩
  repeat (first | with_reducible refine Sc.setq ?_ HG.out HQ.out _ _ | with_reducible refine Sc.drewN ?_ _)
  exact (HS.out.alloc _).onto B4.out

/-- A part's answer, by its record. -/
def RecPost (p : Nat) (s : ByteArray) (w0 : World) (r : Lx.NumR) : Ending → World → Prop := TokPost p s w0 r.kind r.suf r.num r.hex r.code r.j
theorem vOk_iff (v : Int) (h : 0 ≤ v) : vOk v = true := decide_eq_true h
theorem number_any (p : Nat) (s : ByteArray) (i : Nat) (hi : i ≤ s.size) (hs : s.size ≤ 4611686018427387904) (w0 w : World) (h : Sc p s i w0 w) :
    Calls Try.prog 27 #[.pointer (some ⟨p, 0, none⟩)] w (RecPost p s w0 (Lx.numberM s i)) := by
  have tl : ∀ (b : Int) (k : Nat) (hk : k ≤ s.size), ∃ (J : Nat) (V : Int) (F : Bool) (X : ByteArray) (Ln E : Nat) (c : Int) (I : Bool), Lx.digM s b k = (J, V, F) ∧ Lx.sufStr s J = X ∧ Lx.sufLen s J = Ln ∧ J + Ln = E ∧ J ≤ s.size ∧ E ≤ s.size ∧ Lx.pk s E = c ∧ (0 ≤ c ∧ c ≤ 255) ∧ Lx.inB c = I ∧
      (∀ hex, Lx.tailM s b k hex = if I = true then Lx.bad 3 E else if F = true then ⟨0, E, 3, X, V, hex⟩ else Lx.bad 6 E) := fun b k hk => by
    have hb := Lx.digM_bd (b := b) hk
    refine ⟨(Lx.digM s b k).1, (Lx.digM s b k).2.1, (Lx.digM s b k).2.2, _, _, _, _, _, rfl, rfl, rfl, rfl, hb.2.1, Lx.sufLen_le hb.2.1, rfl, Lx.pk_bd _ _, rfl, fun hex => ?_⟩
    unfold Lx.tailM Lx.nCode Lx.nEnd
    cases Lx.inB (Lx.pk s ((Lx.digM s b k).1 + Lx.sufLen s (Lx.digM s b k).1)) <;> cases (Lx.digM s b k).2.2 <;> simp
  unfold Lx.numberM
  by_cases h0 : Lx.pk s i = 48
  · by_cases h1 : Lx.pk s (i + 1) = 120
    · rw [if_pos ⟨h0, h1⟩]
      have hk : i + 2 ≤ s.size := by have := Lx.pk_in (s := s) (i := i + 1) (by rw [h1]; decide); omega
      by_cases hv : Lx.valB 16 (Lx.pk s (i + 2)) < 0
      · rw [if_pos hv]
        exact number_bad p s i hi hs _ _ (Lib.hid h0) (Lib.hid h1) (Lib.hid rfl) (Lx.pk_bd _ _) (Lib.hid rfl) (Lib.hid (decide_eq_false (by omega))) hk w0 w h
      · rw [if_neg hv]
        obtain ⟨J, V, F, X, Ln, E, c, I, a1, a2, a3, a4, a5, a6, a7, a8, a9, a10⟩ := tl 16 (i + 2) hk
        have hV2 := vOk_iff _ (Int.not_lt.1 hv)
        rw [a10]
        cases I
        · cases F
          · exact number_H_over p s i hi hs _ _ (Lib.hid h0) (Lib.hid h1) (Lib.hid rfl) (Lx.pk_bd _ _) (Lib.hid rfl) (Lib.hid hV2) hk J E V c X Ln (Lib.hid a1) (Lib.hid a2) (Lib.hid a3) a4 a5 a6 (Lib.hid a7) a8 (Lib.hid a9) w0 w h
          · exact number_H_ok p s i hi hs _ _ (Lib.hid h0) (Lib.hid h1) (Lib.hid rfl) (Lx.pk_bd _ _) (Lib.hid rfl) (Lib.hid hV2) hk J E V c X Ln (Lib.hid a1) (Lib.hid a2) (Lib.hid a3) a4 a5 a6 (Lib.hid a7) a8 (Lib.hid a9) w0 w h
        · exact number_H_in p s i hi hs _ _ (Lib.hid h0) (Lib.hid h1) (Lib.hid rfl) (Lx.pk_bd _ _) (Lib.hid rfl) (Lib.hid hV2) hk J E V c F X Ln (Lib.hid a1) (Lib.hid a2) (Lib.hid a3) a4 a5 a6 (Lib.hid a7) a8 (Lib.hid a9) w0 w h
    · rw [if_neg (fun h => h1 h.2)]
      obtain ⟨J, V, F, X, Ln, E, c, I, a1, a2, a3, a4, a5, a6, a7, a8, a9, a10⟩ := tl 10 i hi
      rw [a10]
      cases I
      · cases F
        · exact number_B_over p s i hi hs _ (Lib.hid h0) (Lib.hid rfl) (by simpa using h1) hi J E V c X Ln (Lib.hid a1) (Lib.hid a2) (Lib.hid a3) a4 a5 a6 (Lib.hid a7) a8 (Lib.hid a9) w0 w h
        · exact number_B_ok p s i hi hs _ (Lib.hid h0) (Lib.hid rfl) (by simpa using h1) hi J E V c X Ln (Lib.hid a1) (Lib.hid a2) (Lib.hid a3) a4 a5 a6 (Lib.hid a7) a8 (Lib.hid a9) w0 w h
      · exact number_B_in p s i hi hs _ (Lib.hid h0) (Lib.hid rfl) (by simpa using h1) hi J E V c F X Ln (Lib.hid a1) (Lib.hid a2) (Lib.hid a3) a4 a5 a6 (Lib.hid a7) a8 (Lib.hid a9) w0 w h
  · rw [if_neg (fun h => h0 h.1)]
    obtain ⟨J, V, F, X, Ln, E, c, I, a1, a2, a3, a4, a5, a6, a7, a8, a9, a10⟩ := tl 10 i hi
    rw [a10]
    cases I
    · cases F
      · exact number_A_over p s i hi hs _ (Lib.hid rfl) (by simpa using h0) hi J E V c X Ln (Lib.hid a1) (Lib.hid a2) (Lib.hid a3) a4 a5 a6 (Lib.hid a7) a8 (Lib.hid a9) w0 w h
      · exact number_A_ok p s i hi hs _ (Lib.hid rfl) (by simpa using h0) hi J E V c X Ln (Lib.hid a1) (Lib.hid a2) (Lib.hid a3) a4 a5 a6 (Lib.hid a7) a8 (Lib.hid a9) w0 w h
    · exact number_A_in p s i hi hs _ (Lib.hid rfl) (by simpa using h0) hi J E V c F X Ln (Lib.hid a1) (Lib.hid a2) (Lib.hid a3) a4 a5 a6 (Lib.hid a7) a8 (Lib.hid a9) w0 w h
end Go.Proofs.Ytlpoahjgonjelaa
