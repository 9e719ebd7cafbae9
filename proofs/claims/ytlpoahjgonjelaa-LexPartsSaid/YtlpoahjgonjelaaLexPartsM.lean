/- A token that stands for itself, with a blank behind it, is the same wherever it stands. -/
import Derived.Test.YtlpoahjgonjelaaLexNumM
namespace Go.Proofs.Ytlpoahjgonjelaa
open Go.RowKit
set_option linter.unusedVariables false

theorem blank_not {c : Int} (h : Lx.blankB c = true) : Lx.inB c = false ∧ c ≠ 47 ∧ c ≠ 42 ∧ c ≠ 61 ∧ c ≠ 62 ∧ c ≠ 60 ∧ c ≠ 38 ∧ c ≠ 124 ∧ c ≠ 108 ∧ c ≠ 117 ∧ c ≠ 120 := by
  have h1 := (Lx.blankB_iff c).1 h
  rcases h1 with rfl | rfl | rfl | rfl <;> decide
theorem blank_val {c : Int} (h : Lx.blankB c = true) (b : Int) : Lx.valB b c < 0 := by
  have h1 := (Lx.blankB_iff c).1 h
  have hd : Lx.digB c = false := by rcases h1 with rfl | rfl | rfl | rfl <;> decide
  unfold Lx.valB
  rw [hd, if_neg (by decide), if_neg (by omega), if_neg (by omega)]; decide
theorem ul_val {c : Int} (h : c = 117 ∨ c = 108) (b : Int) : Lx.valB b c < 0 := by
  have hd : Lx.digB c = false := by rcases h with rfl | rfl <;> decide
  unfold Lx.valB
  rw [hd, if_neg (by decide), if_neg (by omega), if_neg (by omega)]; decide
/-- At i of s, and at p of s', stands t; behind it in s' a blank. -/
structure Moved (s s' : ByteArray) (i p : Nat) (t : List UInt8) : Prop where
  a : ∃ r, s.data.toList.drop i = t ++ r
  b : ∃ c r, s'.data.toList.drop p = t ++ c :: r ∧ Lx.blankB (c.toNat : Int) = true
section
variable {s s' : ByteArray} {i p : Nat} {t : List UInt8}
theorem Moved.eq (h : Moved s s' i p t) {k : Nat} (hk : k < t.length) : Lx.pk s' (p + k) = Lx.pk s (i + k) := by
  obtain ⟨r, ha⟩ := h.a
  obtain ⟨c, r', hb, _⟩ := h.b
  rw [pk_drop, pk_drop, ha, hb, lb_left hk, lb_left hk]
theorem Moved.eq0 (h : Moved s s' i p t) (hk : 0 < t.length) : Lx.pk s' p = Lx.pk s i := h.eq hk
theorem Moved.blank (h : Moved s s' i p t) : Lx.blankB (Lx.pk s' (p + t.length)) = true := by
  obtain ⟨c, r', hb, hc⟩ := h.b
  rw [pk_drop, hb, lb_right (Nat.le_refl _), Nat.sub_self]; exact hc
theorem Moved.lt (h : Moved s s' i p t) : p + t.length < s'.size := Lx.pk_in (fun h0 => by have := h.blank; rw [h0] at this; exact absurd this (by decide))
theorem Moved.ext (h : Moved s s' i p t) : s'.extract p (p + t.length) = s.extract i (i + t.length) := by
  obtain ⟨r, ha⟩ := h.a
  obtain ⟨c, r', hb, _⟩ := h.b
  have e1 : (s'.extract p (p + t.length)).toList = t := by rw [ext_list, hb]; simp
  have e2 : (s.extract i (i + t.length)).toList = t := by rw [ext_list, ha]; simp
  rw [ByteArray.toList_eq] at e1 e2
  exact ByteArray.ext (Array.toList_inj.1 (e1.trans e2.symm))
theorem Moved.drop (h : Moved s s' i p t) {k : Nat} (hk : k ≤ t.length) : Moved s s' (i + k) (p + k) (t.drop k) := by
  obtain ⟨r, ha⟩ := h.a
  obtain ⟨c, r', hb, hc⟩ := h.b
  refine ⟨⟨r, ?_⟩, ⟨c, r', ?_, hc⟩⟩
  · rw [← List.drop_drop, ha, List.drop_append_of_le_length hk]
  · rw [← List.drop_drop, hb, List.drop_append_of_le_length hk]
theorem name_moved (h : Moved s s' i p t) (hj : Lx.nameEnd s i = i + t.length) : Lx.nameEnd s' p = p + t.length ∧ Lx.nameM s' p (p + t.length) = Lx.nameM s i (i + t.length) := by
  constructor
  · refine scan_run (p + t.length) s'.size p (by omega) (by have := h.lt; omega) (fun k h1 h2 => ?_) ?_
    · have e := h.eq (k := k - p) (by omega)
      rw [show p + (k - p) = k by omega] at e
      have := Lx.scan_all (Lx.nameP s) s.size i (i + (k - p)) (by omega) (by have : Lx.scan (Lx.nameP s) s.size i = i + t.length := hj
                                                                             omega)
      unfold Lx.nameP at this ⊢
      rw [e]; exact this
    · exact (blank_not h.blank).1
  · unfold Lx.nameM
    rw [h.ext, show p + t.length - p = t.length by omega, show i + t.length - i = t.length by omega]
theorem digs_ge (b : Int) : ∀ (f k : Nat) (a : Int) (ok : Bool), k ≤ (Lx.digs s b f k a ok).1 := by
  intro f
  induction f with
  | zero => intro k a ok; exact Nat.le_refl _
  | succ f ih =>
    intro k a ok
    by_cases h0 : 0 ≤ Lx.valB b (Lx.pk s k)
    · rw [Lx.digs_yes h0]; have := ih (k + 1) ((a * b + Lx.valB b (Lx.pk s k)) % 18446744073709551616) (ok && decide (a ≤ (18446744073709551615 - Lx.valB b (Lx.pk s k)) / b)); omega
    · rw [Lx.digs_no h0]; exact Nat.le_refl _
theorem digs_moved (b : Int) : ∀ (f f' k k' : Nat) (a : Int) (ok : Bool) (m : Nat) (v : Int) (o : Bool), Lx.digs s b f k a ok = (k + m, v, o) → (∀ q, q < m → Lx.pk s' (k' + q) = Lx.pk s (k + q)) → Lx.valB b (Lx.pk s' (k' + m)) < 0 → m ≤ f' →
    Lx.digs s' b f' k' a ok = (k' + m, v, o) := by
  intro f
  induction f with
  | zero =>
    intro f' k k' a ok m v o h hq hv hf
    have h' : (k, a, ok) = (k + m, v, o) := h
    simp only [Prod.mk.injEq] at h'
    obtain ⟨h1, rfl, rfl⟩ := h'
    obtain rfl : m = 0 := by omega
    rw [Lx.digs_no (by simpa using hv)]; rfl
  | succ f ih =>
    intro f' k k' a ok m v o h hq hv hf
    by_cases h0 : 0 ≤ Lx.valB b (Lx.pk s k)
    · rw [Lx.digs_yes h0] at h
      have hm := digs_ge (s := s) b f (k + 1) ((a * b + Lx.valB b (Lx.pk s k)) % 18446744073709551616) (ok && decide (a ≤ (18446744073709551615 - Lx.valB b (Lx.pk s k)) / b))
      rw [h] at hm
      simp only at hm
      obtain ⟨m, rfl⟩ : ∃ m', m = m' + 1 := ⟨m - 1, by omega⟩
      obtain ⟨f', rfl⟩ : ∃ g, f' = g + 1 := ⟨f' - 1, by omega⟩
      have e0 : Lx.pk s' k' = Lx.pk s k := hq 0 (by omega)
      rw [Lx.digs_yes (by rw [e0]; exact h0), e0]
      rw [ih f' (k + 1) (k' + 1) _ _ m v o (by rw [h]; congr 1; omega) (fun q hq1 => by
        have := hq (q + 1) (by omega)
        rw [show k' + 1 + q = k' + (q + 1) by omega, show k + 1 + q = k + (q + 1) by omega]; exact this) (by rw [show k' + 1 + m = k' + (m + 1) by omega]; exact hv) (by omega)]
      congr 1; omega
    · rw [Lx.digs_no h0] at h
      simp only [Prod.mk.injEq] at h
      obtain ⟨h1, rfl, rfl⟩ := h
      obtain rfl : m = 0 := by omega
      rw [Lx.digs_no (by simpa using hv)]; rfl
theorem suf_moved {k k' m n : Nat} (hn : m + Lx.sufLen s (k + m) = n) (hq : ∀ q, q < n → Lx.pk s' (k' + q) = Lx.pk s (k + q)) (hb : Lx.blankB (Lx.pk s' (k' + n)) = true) :
    Lx.sufLen s' (k' + m) = Lx.sufLen s (k + m) ∧ Lx.sufStr s' (k' + m) = Lx.sufStr s (k + m) ∧ ∀ b, Lx.valB b (Lx.pk s' (k' + m)) < 0 := by
  have hnb := blank_not hb
  by_cases h1 : Lx.pk s (k + m) = 117
  · by_cases h2 : Lx.pk s (k + m + 1) = 108
    · have hl : Lx.sufLen s (k + m) = 2 := by unfold Lx.sufLen; rw [if_pos h1, if_pos h2]
      have e1 := hq m (by omega)
      have e2 := hq (m + 1) (by omega)
      rw [← Nat.add_assoc, ← Nat.add_assoc] at e2
      refine ⟨?_, ?_, fun b => ul_val (.inl (by rw [e1, h1])) b⟩
      · unfold Lx.sufLen; rw [e1, e2]
      · unfold Lx.sufStr; rw [e1, e2]
    · have hl : Lx.sufLen s (k + m) = 1 := by unfold Lx.sufLen; rw [if_pos h1, if_neg h2]
      have e1 := hq m (by omega)
      have e2 : ¬ Lx.pk s' (k' + m + 1) = 108 := by rw [show k' + m + 1 = k' + n by omega]; exact hnb.2.2.2.2.2.2.2.2.1
      refine ⟨?_, ?_, fun b => ul_val (.inl (by rw [e1, h1])) b⟩
      · unfold Lx.sufLen; rw [e1, if_pos h1, if_pos h1, if_neg e2, if_neg h2]
      · unfold Lx.sufStr; rw [e1, if_pos h1, if_pos h1, if_neg e2, if_neg h2]
  · by_cases h2 : Lx.pk s (k + m) = 108
    · have hl : Lx.sufLen s (k + m) = 1 := by unfold Lx.sufLen; rw [if_neg h1, if_pos h2]
      have e1 := hq m (by omega)
      refine ⟨?_, ?_, fun b => ul_val (.inr (by rw [e1, h2])) b⟩
      · unfold Lx.sufLen; rw [e1, if_neg h1, if_neg h1]
      · unfold Lx.sufStr; rw [e1, if_neg h1, if_neg h1]
    · have hl : Lx.sufLen s (k + m) = 0 := by unfold Lx.sufLen; rw [if_neg h1, if_neg h2]
      obtain rfl : m = n := by omega
      refine ⟨?_, ?_, fun b => blank_val hb b⟩
      · unfold Lx.sufLen; rw [if_neg h1, if_neg h2, if_neg hnb.2.2.2.2.2.2.2.2.2.1, if_neg hnb.2.2.2.2.2.2.2.2.1]
      · unfold Lx.sufStr; rw [if_neg h1, if_neg h2, if_neg hnb.2.2.2.2.2.2.2.2.2.1, if_neg hnb.2.2.2.2.2.2.2.2.1]
theorem tail_moved {b : Int} {hex : Bool} (h : Moved s s' i p t) (ht : 0 < t.length) (hc : (Lx.tailM s b i hex).code = 0) (hj : (Lx.tailM s b i hex).j = i + t.length) :
    Lx.tailM s' b p hex = { Lx.tailM s b i hex with j := p + t.length } := by
  have hC : Lx.nCode s b i = 0 := by
    unfold Lx.tailM at hc
    by_cases h0 : Lx.nCode s b i = 0
    · exact h0
    · rw [if_neg h0] at hc; exact hc
  have hE : Lx.nEnd s b i = i + t.length := by
    unfold Lx.tailM at hj; rw [if_pos hC] at hj; exact hj
  obtain ⟨⟨e, v, o⟩, hd⟩ : ∃ r, Lx.digM s b i = r := ⟨_, rfl⟩
  have hei : i ≤ e := by
    unfold Lx.digM at hd
    split at hd
    · simp only [Prod.mk.injEq] at hd; omega
    · have := digs_ge (s := s) b s.size i 0 true; rw [hd] at this; exact this
  obtain ⟨m, rfl⟩ : ∃ m, e = i + m := ⟨e - i, by omega⟩
  have hn : m + Lx.sufLen s (i + m) = t.length := by unfold Lx.nEnd at hE; rw [hd] at hE; simp only at hE; omega
  have ho : o = true := by
    unfold Lx.nCode at hC
    rw [hd] at hC
    split at hC
    · exact absurd hC (by decide)
    · simp only at hC
      split at hC
      · assumption
      · exact absurd hC (by decide)
  obtain ⟨s1, s2, s3⟩ := suf_moved (k := i) (k' := p) hn (fun q hq => h.eq hq) h.blank
  have hd' : Lx.digM s' b p = (p + m, v, o) := by
    unfold Lx.digM at hd ⊢
    rw [h.eq0 ht]
    split
    · next h0 =>
      rw [if_pos h0] at hd
      simp only [Prod.mk.injEq] at hd
      obtain ⟨h1, h2, h3⟩ := hd
      rw [← h2, ← h3]; congr 1; omega
    · next h0 =>
      rw [if_neg h0] at hd
      exact digs_moved b s.size s'.size i p 0 true m v o hd (fun q hq => h.eq (by omega)) (s3 b) (by have := h.lt; omega)
  have hE' : Lx.nEnd s' b p = p + t.length := by unfold Lx.nEnd; rw [hd']; simp only; rw [s1]; omega
  have hC' : Lx.nCode s' b p = 0 := by
    unfold Lx.nCode
    rw [hE', (blank_not h.blank).1, if_neg (by decide), hd', if_pos ho]
  unfold Lx.tailM
  rw [if_pos hC, if_pos hC', hE', hd, hd', s2]
theorem number_moved (h : Moved s s' i p t) (hi : i < s.size) (hD : Lx.digB (Lx.pk s i) = true) (ht : 0 < t.length) (hc : (Lx.numberM s i).code = 0) (hj : (Lx.numberM s i).j = i + t.length) :
    Lx.numberM s' p = { Lx.numberM s i with j := p + t.length } := by
  by_cases hx : Lx.pk s i = 48 ∧ Lx.pk s (i + 1) = 120
  · unfold Lx.numberM at hc hj
    rw [if_pos hx] at hc hj
    by_cases hv : Lx.valB 16 (Lx.pk s (i + 2)) < 0
    · rw [if_pos hv] at hc; exact absurd hc (show ¬ (3 : Int) = 0 by decide)
    · rw [if_neg hv] at hc hj
      have hC : Lx.nCode s 16 (i + 2) = 0 := by
        unfold Lx.tailM at hc
        by_cases h0 : Lx.nCode s 16 (i + 2) = 0
        · exact h0
        · rw [if_neg h0] at hc; exact hc
      have hE : Lx.nEnd s 16 (i + 2) = i + t.length := by
        unfold Lx.tailM at hj; rw [if_pos hC] at hj; exact hj
      have hlt := Lx.valB_in (s := s) (b := 16) (k := i + 2) (by omega)
      have hgt := Lx.digs_gt (s := s) (b := 16) (n := 0) (ok := true) hlt (by omega) ⟨by decide, by decide⟩
      have h3 : 2 < t.length := by
        unfold Lx.nEnd Lx.digM at hE
        rw [if_neg (by omega)] at hE
        omega
      have hM := h.drop (k := 2) (by omega)
      have hl : (t.drop 2).length = t.length - 2 := List.length_drop
      have hT := tail_moved hM (by omega) hc (by rw [hj, hl]; omega)
      rw [hl, show p + 2 + (t.length - 2) = p + t.length by omega] at hT
      have e0 := h.eq0 ht
      have e1 := h.eq (k := 1) (by omega)
      have e2 := h.eq (k := 2) (by omega)
      unfold Lx.numberM
      rw [if_pos hx, if_neg hv, e0, e1, if_pos hx, e2, if_neg hv, hT]
  · unfold Lx.numberM at hc hj
    rw [if_neg hx] at hc hj
    have hx' : ¬ (Lx.pk s' p = 48 ∧ Lx.pk s' (p + 1) = 120) := by
      rintro ⟨h0, h1⟩
      by_cases h2 : 1 < t.length
      · rw [h.eq0 ht] at h0; rw [h.eq h2] at h1; exact hx ⟨h0, h1⟩
      · have := h.blank
        rw [show t.length = 1 by omega] at this
        exact (blank_not this).2.2.2.2.2.2.2.2.2.2 h1
    unfold Lx.numberM
    rw [if_neg hx, if_neg hx']
    exact tail_moved h ht hc hj
theorem ch_moved (h : Moved s s' i p t) (hc : (Lx.chM s i).1 = 0) (hj : (Lx.chM s i).2.1 = t.length) : Lx.chM s' p = Lx.chM s i := by
  by_cases h92 : Lx.pk s (i + 1) = 92
  · have h4 : t.length = 4 := by
      rw [← hj]
      unfold Lx.chM at hc ⊢
      rw [if_pos h92] at hc ⊢
      split at hc
      · next h2 =>
        rw [if_pos h2]
        split at hc
        · next h3 => rw [if_pos h3]
        · exact absurd hc (by decide)
      · exact absurd hc (by decide)
    unfold Lx.chM
    rw [h.eq (k := 1) (by omega), h.eq (k := 2) (by omega), h.eq (k := 3) (by omega)]
  · have h3 : t.length = 3 := by
      rw [← hj]
      unfold Lx.chM at hc ⊢
      rw [if_neg h92] at hc ⊢
      split at hc
      · exact absurd hc (by decide)
      · next h2 =>
        rw [if_neg h2]
        split at hc
        · next h3 => rw [if_pos h3]
        · exact absurd hc (by decide)
    unfold Lx.chM
    rw [h.eq (k := 1) (by omega), h.eq (k := 2) (by omega), if_neg h92, if_neg h92]
theorem sign_one {c d e d' e' : Int} (hb : Lx.blankB d' = true) (h : Lx.signM c d e = 1) : Lx.signM c d' e' = 1 := by
  obtain ⟨n1, n2, n3, n4, n5, n6, n7, n8, n9, n10, n11⟩ := blank_not hb
  unfold Lx.signM at h ⊢
  by_cases h1 : c = 60 ∨ c = 62
  · rw [if_pos h1, if_neg (by omega), if_neg (by omega)]
  · rw [if_neg h1] at h ⊢
    by_cases h2 : c = 45
    · rw [if_pos h2, if_neg (by omega)]
    · rw [if_neg h2] at h ⊢
      by_cases h3 : c = 38 ∨ c = 124
      · rw [if_pos h3, if_neg (by omega)]
      · rw [if_neg h3] at h ⊢
        by_cases h4 : c = 43 ∨ c = 42 ∨ c = 47 ∨ c = 37 ∨ c = 94 ∨ c = 61 ∨ c = 33
        · rw [if_pos h4, if_neg (by omega)]
        · rw [if_neg h4] at h ⊢; exact h
theorem sign_two {c d e e' : Int} (hb : Lx.blankB e' = true) (h : Lx.signM c d e = 2) : Lx.signM c d e' = 2 := by
  obtain ⟨n1, n2, n3, n4, n5, n6, n7, n8, n9, n10, n11⟩ := blank_not hb
  unfold Lx.signM at h ⊢
  by_cases h1 : c = 60 ∨ c = 62
  · rw [if_pos h1] at h ⊢
    by_cases h5 : d = c ∧ e = 61
    · rw [if_pos h5] at h; omega
    · rw [if_neg h5] at h; rw [if_neg (by omega)]; exact h
  · rw [if_neg h1] at h ⊢; exact h
theorem sign_moved (h : Moved s s' i p t) (ht : 0 < t.length) (hj : Lx.signM (Lx.pk s i) (Lx.pk s (i + 1)) (Lx.pk s (i + 2)) = t.length) : Lx.signM (Lx.pk s' p) (Lx.pk s' (p + 1)) (Lx.pk s' (p + 2)) = t.length := by
  have hle := Lx.signM_le (Lx.pk s i) (Lx.pk s (i + 1)) (Lx.pk s (i + 2))
  have hb := h.blank
  rw [h.eq0 ht]
  by_cases h1 : t.length = 1
  · rw [h1] at hj hb ⊢; exact sign_one hb hj
  · rw [h.eq (k := 1) (by omega)]
    by_cases h2 : t.length = 2
    · rw [h2] at hj hb ⊢; exact sign_two hb hj
    · rw [h.eq (k := 2) (by omega)]; exact hj
/-- A token that is right is the same elsewhere, with a blank behind it. -/
theorem tok_moved (h : Moved s s' i p t) (hi : i < s.size) (hc : (Lx.tokenM s i).code = 0) (hj : (Lx.tokenM s i).j = i + t.length) :
    Lx.tokenM s' p = { Lx.tokenM s i with j := p + t.length } := by
  have ht : 0 < t.length := by have := (Lx.tokenM_bd hi).1 hc; omega
  have e0 := h.eq0 ht
  by_cases hL : Lx.letB (Lx.pk s i) = true
  · unfold Lx.tokenM at hj hc ⊢
    rw [if_pos hL] at hj hc ⊢
    simp only at hj hc ⊢
    obtain ⟨h1, h2⟩ := name_moved h hj
    rw [if_pos (by rw [e0]; exact hL), h1, h2, hj]
  · by_cases hD : Lx.digB (Lx.pk s i) = true
    · unfold Lx.tokenM at hj hc ⊢
      rw [if_neg hL, if_pos hD] at hj hc ⊢
      rw [if_neg (by rw [e0]; exact hL), if_pos (by rw [e0]; exact hD)]
      exact number_moved h hi hD ht hc hj
    · by_cases hQ : Lx.pk s i = 39
      · unfold Lx.tokenM at hj hc ⊢
        rw [if_neg hL, if_neg hD, if_pos hQ] at hj hc ⊢
        rw [if_neg (by rw [e0]; exact hL), if_neg (by rw [e0]; exact hD), if_pos (by rw [e0]; exact hQ)]
        simp only at hj hc ⊢
        have hch := ch_moved h hc (by omega)
        unfold Lx.chK
        rw [hch, show (Lx.chM s i).2.1 = t.length by omega]
      · unfold Lx.tokenM at hj hc ⊢
        rw [if_neg hL, if_neg hD, if_neg hQ] at hj hc ⊢
        rw [if_neg (by rw [e0]; exact hL), if_neg (by rw [e0]; exact hD), if_neg (by rw [e0]; exact hQ)]
        by_cases hz : Lx.signM (Lx.pk s i) (Lx.pk s (i + 1)) (Lx.pk s (i + 2)) = 0
        · rw [if_pos hz] at hc; exact absurd hc (show ¬ (3 : Int) = 0 by decide)
        · rw [if_neg hz] at hj ⊢
          simp only at hj ⊢
          have hs := sign_moved h ht (by omega)
          rw [hs, if_neg (by omega)]
end
end Go.Proofs.Ytlpoahjgonjelaa
