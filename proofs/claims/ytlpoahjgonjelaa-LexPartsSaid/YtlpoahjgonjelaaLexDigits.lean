/- The scanner's rows of digits. -/
import Derived.Test.YtlpoahjgonjelaaLexName
import Derived.IntWalk
namespace Go.Proofs.Ytlpoahjgonjelaa
open Go.RowKit
set_option linter.unusedVariables false

/-- A number's token in its block. -/
structure TokN (q : Nat) (n : Int) (hex : Bool) (w : World) : Prop where
  a : w.heap[q]? = some (.cells #[.int .i64 3, .int .i64 0, .string ⟨#[]⟩, .string ⟨#[]⟩, .int .u64 n, .bool hex] 33 (0, 0))
theorem TokN.cells {q : Nat} {n : Int} {hex : Bool} {w : World} (h : TokN q n hex w) : w.cell? ⟨q, 0, none⟩ = some (.int .i64 3) ∧ w.cell? ⟨q, 1, none⟩ = some (.int .i64 0) ∧ w.cell? ⟨q, 2, none⟩ = some (.string ⟨#[]⟩) ∧ w.cell? ⟨q, 3, none⟩ = some (.string ⟨#[]⟩) ∧ w.cell? ⟨q, 4, none⟩ = some (.int .u64 n) ∧ w.cell? ⟨q, 5, none⟩ = some (.bool hex) ∧ (∀ o, w.frozen? ⟨q, o, none⟩ = false) := by
  refine ⟨?_, ?_, ?_, ?_, ?_, ?_, fun o => ?_⟩ <;> simp [World.cell?, World.frozen?, h.a]
theorem TokN.lt {q : Nat} {n : Int} {hex : Bool} {w : World} (h : TokN q n hex w) : q < w.heap.size := (Array.getElem?_eq_some_iff.1 h.a).1
theorem TokN.on {p q : Nat} {s : ByteArray} {i : Nat} {n : Int} {hex : Bool} {w0 w : World} (t : TokN q n hex w0) (h : Sc p s i w0 w) (hqp : q ≠ p) : TokN q n hex w := ⟨(h.other t.lt hqp).trans t.a⟩
theorem TokN.set {q : Nat} {n : Int} {hex : Bool} {w : World} (t : TokN q n hex w) {v m : Int} (hv : v = m) : TokN q m hex (w.setCell ⟨q, 4, none⟩ (.int .u64 v)) := by
  subst hv; exact ⟨by simp [World.setCell, Array.getElem?_modify, t.a]⟩
theorem TokN.setp {p q : Nat} {n : Int} {hex : Bool} {w : World} (t : TokN q n hex w) (hqp : q ≠ p) (o : Nat) (u : Value) : TokN q n hex (w.setCell ⟨p, o, none⟩ u) :=
  ⟨(Below.heap_setCell _ _ _ _ hqp).trans t.a⟩
theorem TokN.drewN {q : Nat} {n : Int} {hex : Bool} {w : World} (t : TokN q n hex w) (k : Nat) : TokN q n hex (w.drewN k) := ⟨t.a⟩

/-- What digits leaves. -/
def DigPost (p q : Nat) (s : ByteArray) (w0 : World) (hex : Bool) (r : Nat × Int × Bool) (e : Ending) (w' : World) : Prop :=
  e = .returned (.bool r.2.2) ∧ Sc p s r.1 w0 w' ∧ TokN q r.2.1 hex w'

set_option maxHeartbeats 2000000 in
theorem digits_zero (p q : Nat) (s : ByteArray) (i : Nat) (hex : Bool) (hi : i ≤ s.size) (hs : s.size ≤ 4611686018427387904) (hz : Lx.pk s i = 48) (w0 w : World) (h : Sc p s i w0 w) (t : TokN q 0 hex w) (hq : w0.heap.size ≤ q) (hqp : q ≠ p) :
    Calls Try.prog 38 #[.pointer (some ⟨p, 0, none⟩), .int .u64 10, .pointer (some ⟨q, 4, none⟩)] w (DigPost p q s w0 hex (i + 1, 0, true)) := by
  have HS := Lib.hid h
  have HT := Lib.hid t
  have HZ := Lib.hid hz
  clear h t hz
  go_enter Try.func38, Try.ntmps38
  go_wp2_with fail
  refine (peek_as p s i i 0 _ (by decide) (by omega) hi hs HZ _ _ HS.out.refl).mono ?_
  rintro e w1 ⟨rfl, h1⟩
  have d1 := h1.c1
  have d2 := h1.f 1
  have H1 := Lib.hid h1
  clear h1
  go_wp2_with fail
  go_returns
  exact ⟨rb rfl rfl, Sc.setI (HS.out.onto H1.out) (by omega), (HT.out.on H1.out hqp).setp hqp _ _⟩

set_option maxHeartbeats 4000000 in
theorem digits_10 (p q : Nat) (s : ByteArray) (i : Nat) (hex : Bool) (hi : i ≤ s.size) (hs : s.size ≤ 4611686018427387904) (hz : Lx.pk s i ≠ 48) (w0 w : World) (h : Sc p s i w0 w) (t : TokN q 0 hex w) (hq : w0.heap.size ≤ q) (hqp : q ≠ p) :
    Calls Try.prog 38 #[.pointer (some ⟨p, 0, none⟩), .int .u64 10, .pointer (some ⟨q, 4, none⟩)] w (DigPost p q s w0 hex (Lx.digs s 10 s.size i 0 true)) := by
  have HS := Lib.hid h
  have HT := Lib.hid t
  have hqp' : p ≠ q := hqp.symm
  clear h t
  go_enter Try.func38, Try.ntmps38
  go_wp2_with fail
  refine (peek_as p s i i 0 _ (by decide) (by omega) hi hs (Lib.hid rfl) _ _ HS.out.refl).mono ?_
  rintro e w1 ⟨rfl, h1⟩
  have H1 := Lib.hid h1
  clear h1
  have z1 : (Lx.pk s i == 48) = false := by simpa using hz
  have HS1 := Lib.hid (HS.out.onto H1.out)
  have HT1 := Lib.hid (HT.out.on H1.out hqp)
  go_wp2_with fail
  clear z1
  go_loopg [7] (s.size - i) (fun g v wr => ∃ (k f : Nat) (n : Int) (ok : Bool), v = .bool ok ∧ k ≤ s.size ∧ g = s.size - k ∧ g ≤ f ∧ 0 ≤ n ∧ n ≤ 18446744073709551615 ∧ Hid (Lx.digs s 10 s.size i 0 true = Lx.digs s 10 f k n ok) ∧ Hid (Sc p s k w0 wr) ∧ Hid (TokN q n hex wr))
  case atStart => exact ⟨i, s.size, 0, true, rfl, hi, rfl, by omega, by decide, by decide, Lib.hid rfl, HS1, HT1⟩
  case round =>
    obtain ⟨k, f, n, ok, rfl, hk, hg, hf, hn0, hn1, HE, H, T⟩ := hrel
    clear HS HT HS1 HT1
    obtain ⟨c, hc⟩ : ∃ c, Lx.pk s k = c := ⟨_, rfl⟩
    have hcb := Lx.pk_bd s k
    obtain ⟨V, hV⟩ : ∃ V, Lx.valB 10 c = V := ⟨_, rfl⟩
    have hVb := Lx.valB_bd 10 c
    rw [hc] at hcb
    rw [hV] at hVb
    have HV := Lib.hid hV
    have HC := Lib.hid hc
    clear hV hc
    by_cases h0 : 0 ≤ V
    · have hlt : k < s.size := Lx.valB_in (b := 10) (by rw [HC.out, HV.out]; exact h0)
      obtain ⟨f, rfl⟩ : ∃ f', f = f' + 1 := ⟨f - 1, by omega⟩
      have HE2 : Hid (Lx.digs s 10 s.size i 0 true = Lx.digs s 10 f (k + 1) ((n * 10 + V) % 18446744073709551616) (ok && decide (n ≤ (18446744073709551615 - V) / 10))) := by
        rw [HE.out]; exact Lib.hid (by rw [Lx.digs_yes (by rw [HC.out, HV.out]; exact h0), HC.out, HV.out])
      have hv1 : vNum (Lx.valB 10 c) = V := by rw [HV.out]; exact if_pos h0
      have hv2 : vOk (Lx.valB 10 c) = true := by rw [HV.out]; exact decide_eq_true h0
      have HV1 := Lib.hid hv1
      have HV2 := Lib.hid hv2
      clear HE hv1 hv2
      by_cases hfit : n ≤ (18446744073709551615 - V) / 10
      · have hfit' : ¬ (18446744073709551615 - V) / 10 < n := by omega
        rw [decide_eq_true hfit, Bool.and_true] at HE2
        go_wp2_with fail
        refine (peek_as p s k k 0 _ (by decide) (by omega) hk hs HC _ _ H.out.refl).mono ?_
        rintro e w1 ⟨rfl, h1⟩
        have H1 := Lib.hid h1
        clear h1
        go_wp2_with fail
        refine (value_any c 10 hcb (by decide) _).mono ?_
        rw [HV1.out, HV2.out]
        rintro e w2 ⟨rfl, rfl⟩
        have HT1 := Lib.hid (T.out.on H1.out hqp)
        obtain ⟨t0, t1, t2, t3, t4, t5, tf⟩ := HT1.out.cells
        have d1 := H1.out.c1
        have d2 := H1.out.f 1
        have w1a : IntKind.u64.wrap (18446744073709551615 - V) = 18446744073709551615 - V := by simp only [IntKind.wrap, IntKind.bits, IntKind.signed]; simp; omega
        have w1b : (0 : Int) ≤ 18446744073709551615 - V := by omega
        have w1c : (18446744073709551615 - V).tdiv 10 = (18446744073709551615 - V) / 10 := Int.tdiv_eq_ediv_of_nonneg w1b
        go_wp2_with fail
        go_quiet (fail)
        clear w1a w1c
        go_wp2_with fail
        go_roundg (gk - 1)
        case rel =>
          refine ⟨k + 1, f, (n * 10 + V) % 18446744073709551616, ok, rfl, by omega, by omega, by omega, Int.emod_nonneg _ (by decide), by omega, HE2, ?_, ?_⟩
          · show Sc p s (k + 1) w0 _
            repeat (first | with_reducible refine Sc.setq ?_ hq hqp _ _ | with_reducible refine Sc.drewN ?_ _ | (with_reducible refine Sc.setI (i := k) ?_ ?_; rotate_left; omega))
            exact H.out.onto H1.out
          · show TokN q _ hex _
            repeat (first | with_reducible refine TokN.setp ?_ hqp _ _ | with_reducible refine TokN.drewN ?_ _)
            refine TokN.set (n := n) ?_ ?_
            · repeat (first | with_reducible refine TokN.drewN ?_ _)
              exact HT1.out
            · first | rfl | omega | (simp only [IntKind.wrap, IntKind.bits, IntKind.signed]; simp; done) | (simp only [IntKind.wrap, IntKind.bits, IntKind.signed]; simp; omega)
        case measure => omega
      · have hfit' : (18446744073709551615 - V) / 10 < n := by omega
        rw [decide_eq_false hfit, Bool.and_false] at HE2
        go_wp2_with fail
        refine (peek_as p s k k 0 _ (by decide) (by omega) hk hs HC _ _ H.out.refl).mono ?_
        rintro e w1 ⟨rfl, h1⟩
        have H1 := Lib.hid h1
        clear h1
        go_wp2_with fail
        refine (value_any c 10 hcb (by decide) _).mono ?_
        rw [HV1.out, HV2.out]
        rintro e w2 ⟨rfl, rfl⟩
        have HT1 := Lib.hid (T.out.on H1.out hqp)
        obtain ⟨t0, t1, t2, t3, t4, t5, tf⟩ := HT1.out.cells
        have d1 := H1.out.c1
        have d2 := H1.out.f 1
        have w1a : IntKind.u64.wrap (18446744073709551615 - V) = 18446744073709551615 - V := by simp only [IntKind.wrap, IntKind.bits, IntKind.signed]; simp; omega
        have w1b : (0 : Int) ≤ 18446744073709551615 - V := by omega
        have w1c : (18446744073709551615 - V).tdiv 10 = (18446744073709551615 - V) / 10 := Int.tdiv_eq_ediv_of_nonneg w1b
        go_wp2_with fail
        go_quiet (fail)
        clear w1a w1c
        go_wp2_with fail
        go_roundg (gk - 1)
        case rel =>
          refine ⟨k + 1, f, (n * 10 + V) % 18446744073709551616, false, rfl, by omega, by omega, by omega, Int.emod_nonneg _ (by decide), by omega, HE2, ?_, ?_⟩
          · show Sc p s (k + 1) w0 _
            repeat (first | with_reducible refine Sc.setq ?_ hq hqp _ _ | with_reducible refine Sc.drewN ?_ _ | (with_reducible refine Sc.setI (i := k) ?_ ?_; rotate_left; omega))
            exact H.out.onto H1.out
          · show TokN q _ hex _
            repeat (first | with_reducible refine TokN.setp ?_ hqp _ _ | with_reducible refine TokN.drewN ?_ _)
            refine TokN.set (n := n) ?_ ?_
            · repeat (first | with_reducible refine TokN.drewN ?_ _)
              exact HT1.out
            · first | rfl | omega | (simp only [IntKind.wrap, IntKind.bits, IntKind.signed]; simp; done) | (simp only [IntKind.wrap, IntKind.bits, IntKind.signed]; simp; omega)
        case measure => omega
    · have HE2 : Hid (Lx.digs s 10 s.size i 0 true = (k, n, ok)) := by
        rw [HE.out]; exact Lib.hid (Lx.digs_no (by rw [HC.out, HV.out]; exact h0))
      have hv1 : vNum (Lx.valB 10 c) = 0 := by rw [HV.out]; exact if_neg h0
      have hv2 : vOk (Lx.valB 10 c) = false := by rw [HV.out]; exact decide_eq_false h0
      have HV1 := Lib.hid hv1
      have HV2 := Lib.hid hv2
      clear HE hv1 hv2
      go_wp2_with fail
      refine (peek_as p s k k 0 _ (by decide) (by omega) hk hs HC _ _ H.out.refl).mono ?_
      rintro e w1 ⟨rfl, h1⟩
      have H1 := Lib.hid h1
      clear h1
      go_wp2_with fail
      refine (value_any c 10 hcb (by decide) _).mono ?_
      rw [HV1.out, HV2.out]
      rintro e w2 ⟨rfl, rfl⟩
      go_wp2_with fail
      go_returns
      unfold DigPost
      rw [HE2.out]
      exact ⟨rb rfl rfl, H.out.onto H1.out, T.out.on H1.out hqp⟩
set_option maxHeartbeats 4000000 in
theorem digits_16 (p q : Nat) (s : ByteArray) (i : Nat) (hex : Bool) (hi : i ≤ s.size) (hs : s.size ≤ 4611686018427387904) (w0 w : World) (h : Sc p s i w0 w) (t : TokN q 0 hex w) (hq : w0.heap.size ≤ q) (hqp : q ≠ p) :
    Calls Try.prog 38 #[.pointer (some ⟨p, 0, none⟩), .int .u64 16, .pointer (some ⟨q, 4, none⟩)] w (DigPost p q s w0 hex (Lx.digs s 16 s.size i 0 true)) := by
  have HS := Lib.hid h
  have HT := Lib.hid t
  have hqp' : p ≠ q := hqp.symm
  clear h t
  go_enter Try.func38, Try.ntmps38
  go_wp2_with fail
  have HS1 := HS
  have HT1 := HT
  go_loopg [7] (s.size - i) (fun g v wr => ∃ (k f : Nat) (n : Int) (ok : Bool), v = .bool ok ∧ k ≤ s.size ∧ g = s.size - k ∧ g ≤ f ∧ 0 ≤ n ∧ n ≤ 18446744073709551615 ∧ Hid (Lx.digs s 16 s.size i 0 true = Lx.digs s 16 f k n ok) ∧ Hid (Sc p s k w0 wr) ∧ Hid (TokN q n hex wr))
  case atStart => exact ⟨i, s.size, 0, true, rfl, hi, rfl, by omega, by decide, by decide, Lib.hid rfl, HS1, HT1⟩
  case round =>
    obtain ⟨k, f, n, ok, rfl, hk, hg, hf, hn0, hn1, HE, H, T⟩ := hrel
    clear HS HT HS1 HT1
    obtain ⟨c, hc⟩ : ∃ c, Lx.pk s k = c := ⟨_, rfl⟩
    have hcb := Lx.pk_bd s k
    obtain ⟨V, hV⟩ : ∃ V, Lx.valB 16 c = V := ⟨_, rfl⟩
    have hVb := Lx.valB_bd 16 c
    rw [hc] at hcb
    rw [hV] at hVb
    have HV := Lib.hid hV
    have HC := Lib.hid hc
    clear hV hc
    by_cases h0 : 0 ≤ V
    · have hlt : k < s.size := Lx.valB_in (b := 16) (by rw [HC.out, HV.out]; exact h0)
      obtain ⟨f, rfl⟩ : ∃ f', f = f' + 1 := ⟨f - 1, by omega⟩
      have HE2 : Hid (Lx.digs s 16 s.size i 0 true = Lx.digs s 16 f (k + 1) ((n * 16 + V) % 18446744073709551616) (ok && decide (n ≤ (18446744073709551615 - V) / 16))) := by
        rw [HE.out]; exact Lib.hid (by rw [Lx.digs_yes (by rw [HC.out, HV.out]; exact h0), HC.out, HV.out])
      have hv1 : vNum (Lx.valB 16 c) = V := by rw [HV.out]; exact if_pos h0
      have hv2 : vOk (Lx.valB 16 c) = true := by rw [HV.out]; exact decide_eq_true h0
      have HV1 := Lib.hid hv1
      have HV2 := Lib.hid hv2
      clear HE hv1 hv2
      by_cases hfit : n ≤ (18446744073709551615 - V) / 16
      · have hfit' : ¬ (18446744073709551615 - V) / 16 < n := by omega
        rw [decide_eq_true hfit, Bool.and_true] at HE2
        go_wp2_with fail
        refine (peek_as p s k k 0 _ (by decide) (by omega) hk hs HC _ _ H.out.refl).mono ?_
        rintro e w1 ⟨rfl, h1⟩
        have H1 := Lib.hid h1
        clear h1
        go_wp2_with fail
        refine (value_any c 16 hcb (by decide) _).mono ?_
        rw [HV1.out, HV2.out]
        rintro e w2 ⟨rfl, rfl⟩
        have HT1 := Lib.hid (T.out.on H1.out hqp)
        obtain ⟨t0, t1, t2, t3, t4, t5, tf⟩ := HT1.out.cells
        have d1 := H1.out.c1
        have d2 := H1.out.f 1
        have w1a : IntKind.u64.wrap (18446744073709551615 - V) = 18446744073709551615 - V := by simp only [IntKind.wrap, IntKind.bits, IntKind.signed]; simp; omega
        have w1b : (0 : Int) ≤ 18446744073709551615 - V := by omega
        have w1c : (18446744073709551615 - V).tdiv 16 = (18446744073709551615 - V) / 16 := Int.tdiv_eq_ediv_of_nonneg w1b
        go_wp2_with fail
        go_quiet (fail)
        clear w1a w1c
        go_wp2_with fail
        go_roundg (gk - 1)
        case rel =>
          refine ⟨k + 1, f, (n * 16 + V) % 18446744073709551616, ok, rfl, by omega, by omega, by omega, Int.emod_nonneg _ (by decide), by omega, HE2, ?_, ?_⟩
          · show Sc p s (k + 1) w0 _
            repeat (first | with_reducible refine Sc.setq ?_ hq hqp _ _ | with_reducible refine Sc.drewN ?_ _ | (with_reducible refine Sc.setI (i := k) ?_ ?_; rotate_left; omega))
            exact H.out.onto H1.out
          · show TokN q _ hex _
            repeat (first | with_reducible refine TokN.setp ?_ hqp _ _ | with_reducible refine TokN.drewN ?_ _)
            refine TokN.set (n := n) ?_ ?_
            · repeat (first | with_reducible refine TokN.drewN ?_ _)
              exact HT1.out
            · first | rfl | omega | (simp only [IntKind.wrap, IntKind.bits, IntKind.signed]; simp; done) | (simp only [IntKind.wrap, IntKind.bits, IntKind.signed]; simp; omega)
        case measure => omega
      · have hfit' : (18446744073709551615 - V) / 16 < n := by omega
        rw [decide_eq_false hfit, Bool.and_false] at HE2
        go_wp2_with fail
        refine (peek_as p s k k 0 _ (by decide) (by omega) hk hs HC _ _ H.out.refl).mono ?_
        rintro e w1 ⟨rfl, h1⟩
        have H1 := Lib.hid h1
        clear h1
        go_wp2_with fail
        refine (value_any c 16 hcb (by decide) _).mono ?_
        rw [HV1.out, HV2.out]
        rintro e w2 ⟨rfl, rfl⟩
        have HT1 := Lib.hid (T.out.on H1.out hqp)
        obtain ⟨t0, t1, t2, t3, t4, t5, tf⟩ := HT1.out.cells
        have d1 := H1.out.c1
        have d2 := H1.out.f 1
        have w1a : IntKind.u64.wrap (18446744073709551615 - V) = 18446744073709551615 - V := by simp only [IntKind.wrap, IntKind.bits, IntKind.signed]; simp; omega
        have w1b : (0 : Int) ≤ 18446744073709551615 - V := by omega
        have w1c : (18446744073709551615 - V).tdiv 16 = (18446744073709551615 - V) / 16 := Int.tdiv_eq_ediv_of_nonneg w1b
        go_wp2_with fail
        go_quiet (fail)
        clear w1a w1c
        go_wp2_with fail
        go_roundg (gk - 1)
        case rel =>
          refine ⟨k + 1, f, (n * 16 + V) % 18446744073709551616, false, rfl, by omega, by omega, by omega, Int.emod_nonneg _ (by decide), by omega, HE2, ?_, ?_⟩
          · show Sc p s (k + 1) w0 _
            repeat (first | with_reducible refine Sc.setq ?_ hq hqp _ _ | with_reducible refine Sc.drewN ?_ _ | (with_reducible refine Sc.setI (i := k) ?_ ?_; rotate_left; omega))
            exact H.out.onto H1.out
          · show TokN q _ hex _
            repeat (first | with_reducible refine TokN.setp ?_ hqp _ _ | with_reducible refine TokN.drewN ?_ _)
            refine TokN.set (n := n) ?_ ?_
            · repeat (first | with_reducible refine TokN.drewN ?_ _)
              exact HT1.out
            · first | rfl | omega | (simp only [IntKind.wrap, IntKind.bits, IntKind.signed]; simp; done) | (simp only [IntKind.wrap, IntKind.bits, IntKind.signed]; simp; omega)
        case measure => omega
    · have HE2 : Hid (Lx.digs s 16 s.size i 0 true = (k, n, ok)) := by
        rw [HE.out]; exact Lib.hid (Lx.digs_no (by rw [HC.out, HV.out]; exact h0))
      have hv1 : vNum (Lx.valB 16 c) = 0 := by rw [HV.out]; exact if_neg h0
      have hv2 : vOk (Lx.valB 16 c) = false := by rw [HV.out]; exact decide_eq_false h0
      have HV1 := Lib.hid hv1
      have HV2 := Lib.hid hv2
      clear HE hv1 hv2
      go_wp2_with fail
      refine (peek_as p s k k 0 _ (by decide) (by omega) hk hs HC _ _ H.out.refl).mono ?_
      rintro e w1 ⟨rfl, h1⟩
      have H1 := Lib.hid h1
      clear h1
      go_wp2_with fail
      refine (value_any c 16 hcb (by decide) _).mono ?_
      rw [HV1.out, HV2.out]
      rintro e w2 ⟨rfl, rfl⟩
      go_wp2_with fail
      go_returns
      unfold DigPost
      rw [HE2.out]
      exact ⟨rb rfl rfl, H.out.onto H1.out, T.out.on H1.out hqp⟩
theorem digits_any (b : Int) (hb : b = 10 ∨ b = 16) (p q : Nat) (s : ByteArray) (i : Nat) (hex : Bool) (hi : i ≤ s.size) (hs : s.size ≤ 4611686018427387904) (w0 w : World) (h : Sc p s i w0 w) (t : TokN q 0 hex w) (hq : w0.heap.size ≤ q) (hqp : q ≠ p) :
    Calls Try.prog 38 #[.pointer (some ⟨p, 0, none⟩), .int .u64 b, .pointer (some ⟨q, 4, none⟩)] w (DigPost p q s w0 hex (Lx.digM s b i)) := by
  unfold Lx.digM
  rcases hb with rfl | rfl
  · by_cases hz : Lx.pk s i = 48
    · rw [if_pos ⟨rfl, hz⟩]; exact digits_zero p q s i hex hi hs hz w0 w h t hq hqp
    · rw [if_neg (fun h => hz h.2)]; exact digits_10 p q s i hex hi hs hz w0 w h t hq hqp
  · rw [if_neg (fun h => absurd h.1 (by decide))]; exact digits_16 p q s i hex hi hs w0 w h t hq hqp
end Go.Proofs.Ytlpoahjgonjelaa
