/- What a text is taken apart to that is a blank, letters and digits, a blank, a semicolon. -/
import Derived.Test.YtlpoahjgonjelaaLexSignM
import Derived.Test.YtlpoahjgonjelaaLexM3
namespace Go.Proofs.Ytlpoahjgonjelaa
open Go.RowKit
set_option linter.unusedVariables false

/-- The byte of a list; 0 behind its end. -/
def lb (l : List UInt8) (k : Nat) : Int := match l[k]? with | some b => (b.toNat : Int) | none => 0
theorem pk_lb (s : ByteArray) (k : Nat) : Lx.pk s k = lb s.data.toList k := pk_list s k
theorem lb_left {a b : List UInt8} {k : Nat} (h : k < a.length) : lb (a ++ b) k = lb a k := by unfold lb; rw [List.getElem?_append_left h]
theorem lb_right {a b : List UInt8} {k : Nat} (h : a.length ≤ k) : lb (a ++ b) k = lb b (k - a.length) := by unfold lb; rw [List.getElem?_append_right h]
theorem lb_mem {l : List UInt8} {k : Nat} (h : k < l.length) : ∃ b ∈ l, lb l k = (b.toNat : Int) :=
  ⟨l[k], List.getElem_mem h, by unfold lb; rw [List.getElem?_eq_getElem h]⟩
theorem size_list (s : ByteArray) : s.size = s.data.toList.length := by simp
theorem scan_run {p : Nat → Bool} (e f i : Nat) (hi : i ≤ e) (hf : e ≤ i + f) (hp : ∀ k, i ≤ k → k < e → p k = true) (he : p e = false) : Lx.scan p f i = e := by
  induction f generalizing i with
  | zero => have : i = e := by omega
            subst this; rfl
  | succ f ih =>
    by_cases h : i = e
    · subst h; exact Lx.scan_no he
    · rw [Lx.scan_yes (hp i (Nat.le_refl _) (by omega))]
      exact ih (i + 1) (by omega) (by omega) (fun k hk => hp k (by omega))
theorem wordB_len {t : ByteArray} (h : Lx.wordB t = true) : t.size ≤ 8 := by
  have e : t.toList.length = t.size := by rw [ByteArray.toList_eq]; simp
  rw [← e]
  unfold Lx.wordB at h
  simp only [Bool.or_eq_true, beq_iff_eq] at h
  rcases h with h | h
  all_goals (repeat' (first | (rcases h with h | h) | (rw [h]; decide)))
/-- What stands at the places of ' ' t ' ' ';'. -/
structure NameAt (s : ByteArray) (t : List UInt8) : Prop where
  all : s.data.toList = [32] ++ t ++ [32, 59]
  pos : 0 < t.length
  nam : ∀ b ∈ t, Lx.inB (b.toNat : Int) = true
  fst : Lx.letB (lb t 0) = true
section
variable {s : ByteArray} {t : List UInt8}
theorem NameAt.size (h : NameAt s t) : s.size = t.length + 3 := by rw [size_list, h.all]; simp
theorem NameAt.p0 (h : NameAt s t) : Lx.pk s 0 = 32 := by rw [pk_lb, h.all]; rfl
theorem NameAt.pt (h : NameAt s t) {k : Nat} (hk : k < t.length) : Lx.pk s (1 + k) = lb t k := by
  rw [pk_lb, h.all, lb_left (by simp; omega), lb_right (by simp)]; simp
theorem NameAt.pb (h : NameAt s t) : Lx.pk s (1 + t.length) = 32 := by
  rw [pk_lb, h.all, lb_right (by simp; omega)]
  have : 1 + t.length - ([32] ++ t : List UInt8).length = 0 := by simp; omega
  rw [this]; rfl
theorem NameAt.ps (h : NameAt s t) : Lx.pk s (2 + t.length) = 59 := by
  rw [pk_lb, h.all, lb_right (by simp; omega)]
  have : 2 + t.length - ([32] ++ t : List UInt8).length = 1 := by simp; omega
  rw [this]; rfl
theorem NameAt.pe (h : NameAt s t) : Lx.pk s (3 + t.length) = 0 := Lx.pk_ge (by rw [h.size]; omega)
theorem NameAt.pl (h : NameAt s t) : Lx.letB (Lx.pk s 1) = true := by have := h.pt h.pos; rw [show (1 : Nat) + 0 = 1 from rfl] at this; rw [this]; exact h.fst
theorem let_not {c : Int} (h : Lx.letB c = true) : Lx.blankB c = false ∧ c ≠ 47 := by
  have h1 := (Lx.letB_iff c).1 h
  refine ⟨?_, by omega⟩
  cases hb : Lx.blankB c
  · rfl
  · have := (Lx.blankB_iff c).1 hb; omega
theorem NameAt.gap0 (h : NameAt s t) : Lx.gap s s.size 0 = (1, true) := by
  obtain ⟨n, hn⟩ : ∃ n, s.size = n + 1 := ⟨t.length + 2, by rw [h.size]⟩
  have hl := let_not h.pl
  have e : Lx.gap s (n + 1) 0 = Lx.gap s n 1 := Lx.gap_blank (by omega) (by rw [h.p0]; decide)
  have e2 : Lx.gap s n 1 = (1, true) := Lx.gap_stop hl.1 (fun hh => hl.2 hh.1) (fun hh => hl.2 hh.1)
  rw [← e2, ← e, ← hn]
theorem NameAt.gap1 (h : NameAt s t) : Lx.gap s s.size (1 + t.length) = (2 + t.length, true) := by
  obtain ⟨n, hn⟩ : ∃ n, s.size = n + 1 := ⟨t.length + 2, by rw [h.size]⟩
  have e : Lx.gap s (n + 1) (1 + t.length) = Lx.gap s n (1 + t.length + 1) := Lx.gap_blank (by rw [h.size]; omega) (by rw [h.pb]; decide)
  rw [show 1 + t.length + 1 = 2 + t.length by omega] at e
  have hp := h.ps
  have e2 : Lx.gap s n (2 + t.length) = (2 + t.length, true) := Lx.gap_stop (by rw [hp]; decide) (fun hh => by rw [hp] at hh; exact absurd hh.1 (by decide)) (fun hh => by rw [hp] at hh; exact absurd hh.1 (by decide))
  rw [← e2, ← e, ← hn]
theorem NameAt.gap2 (h : NameAt s t) : Lx.gap s s.size s.size = (s.size, true) := Lx.gap_end (by omega)
theorem NameAt.nend (h : NameAt s t) : Lx.nameEnd s 1 = 1 + t.length := by
  unfold Lx.nameEnd
  refine scan_run (1 + t.length) _ 1 (by omega) (by rw [h.size]; omega) (fun k hk1 hk2 => ?_) ?_
  · obtain ⟨b, hb, he⟩ := lb_mem (l := t) (k := k - 1) (by omega)
    have := h.pt (k := k - 1) (by omega)
    rw [show 1 + (k - 1) = k by omega] at this
    unfold Lx.nameP; rw [this, he]; exact h.nam b hb
  · unfold Lx.nameP; rw [h.pb]; decide
theorem NameAt.ext (h : NameAt s t) (B : ByteArray) (hB : B.data.toList = t) : s.extract 1 (1 + t.length) = B := by
  apply ba_toList_inj
  rw [ext_list, h.all, ByteArray.toList_eq, hB]
  simp
theorem NameAt.ext2 (h : NameAt s t) : s.extract (2 + t.length) (2 + t.length + 1) = ⟨#[59]⟩ := by
  apply ba_toList_inj
  rw [ext_list, h.all, ByteArray.toList_eq]
  have : ([32] ++ t ++ [32, 59] : List UInt8) = ([32] ++ t ++ [32]) ++ [59] := by simp
  rw [this, List.drop_append_of_le_length (by simp; omega), List.drop_of_length_le (by simp; omega)]
  simp
theorem NameAt.tok1 (h : NameAt s t) (B : ByteArray) (hB : B.data.toList = t) : Lx.tokenM s 1 = ⟨if 30 < t.length then 6 else 0, 1 + t.length, if 30 < t.length then 0 else if Lx.wordB B = true then 2 else 1, ⟨#[]⟩, 0, false⟩ := by
  unfold Lx.tokenM
  rw [if_pos h.pl, h.nend]
  unfold Lx.nameM
  rw [show 1 + t.length - 1 = t.length by omega, h.ext B hB]
  by_cases h30 : 30 < t.length
  · rw [if_pos h30, if_pos h30, if_pos h30]
  · rw [if_neg h30, if_neg h30, if_neg h30]
    by_cases hw : Lx.wordB B = true
    · rw [if_pos hw, if_pos hw]
    · rw [if_neg hw, if_neg hw]
theorem NameAt.tok2 (h : NameAt s t) : Lx.tokenM s (2 + t.length) = ⟨0, 3 + t.length, 5, ⟨#[]⟩, 0, false⟩ := by
  unfold Lx.tokenM
  rw [h.ps, if_neg (by decide), if_neg (by decide), if_neg (by decide)]
  have : Lx.signM 59 (Lx.pk s (2 + t.length + 1)) (Lx.pk s (2 + t.length + 2)) = 1 := by
    unfold Lx.signM; simp
  rw [this, if_neg (by decide)]
  congr 1
  omega
/-- The whole. -/
theorem NameAt.toks (h : NameAt s t) (ht : t.length ≤ 40) (B : ByteArray) (hB : B.data.toList = t) : Lx.tokensM s =
    if 30 < t.length then ⟨[], 6, 1⟩ else ⟨[⟨if Lx.wordB B = true then 2 else 1, 1, B, ⟨#[]⟩, 0, false⟩, ⟨5, 2 + t.length, ⟨#[59]⟩, ⟨#[]⟩, 0, false⟩], 0, 0⟩ := by
  have hs := h.size
  unfold Lx.tokensM
  rw [if_neg (by omega), show s.size + 1 = t.length + 1 + 1 + 1 + 1 by omega]
  by_cases h30 : 30 < t.length
  · rw [if_pos h30, Lx.toks_wrong h.gap0 (by omega) (by rw [h.tok1 B hB, if_pos h30]; exact (by decide : ¬ (6 : Int) = 0)), h.tok1 B hB, if_pos h30]
    rfl
  · rw [if_neg h30, Lx.toks_more h.gap0 (by omega) (by rw [h.tok1 B hB, if_neg h30]) (by decide)]
    have e1 : Lx.tkOf s 1 (Lx.tokenM s 1) = ⟨if Lx.wordB B = true then 2 else 1, 1, B, ⟨#[]⟩, 0, false⟩ := by
      unfold Lx.tkOf; rw [h.tok1 B hB, if_neg h30, if_neg h30]; simp only; rw [h.ext B hB]
    rw [e1, h.tok1 B hB]
    simp only
    rw [Lx.toks_more h.gap1 (by omega) (by rw [h.tok2]) (by simp)]
    have e2 : Lx.tkOf s (2 + t.length) (Lx.tokenM s (2 + t.length)) = ⟨5, 2 + t.length, ⟨#[59]⟩, ⟨#[]⟩, 0, false⟩ := by
      unfold Lx.tkOf; rw [h.tok2]; simp only; rw [show 3 + t.length = 2 + t.length + 1 by omega, h.ext2]
    rw [e2, h.tok2]
    simp only
    rw [show 3 + t.length = s.size by omega, Lx.toks_end h.gap2 rfl]
    rfl
end
end Go.Proofs.Ytlpoahjgonjelaa
