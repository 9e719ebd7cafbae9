/- What a text is taken apart to that is signs alone, without a gap, and with a blank behind each. -/
import Derived.Test.YtlpoahjgonjelaaLexNamesM
namespace Go.Proofs.Ytlpoahjgonjelaa
open Go.RowKit
set_option linter.unusedVariables false

/-- The law's sixteen signs. -/
def sgs : List (List UInt8) := [[60], [61], [62], [38], [124], [45], [43], [33], [60, 60], [62, 61], [45, 62], [38, 38], [40], [91], [59], [126]]
def sgB (c : Int) : Bool := decide (c = 60 ∨ c = 61 ∨ c = 62 ∨ c = 38 ∨ c = 124 ∨ c = 45 ∨ c = 43 ∨ c = 33 ∨ c = 40 ∨ c = 91 ∨ c = 59 ∨ c = 126)
theorem sgB_iff (c : Int) : sgB c = true ↔ (c = 60 ∨ c = 61 ∨ c = 62 ∨ c = 38 ∨ c = 124 ∨ c = 45 ∨ c = 43 ∨ c = 33 ∨ c = 40 ∨ c = 91 ∨ c = 59 ∨ c = 126) := by unfold sgB; exact decide_eq_true_iff
theorem sgs_all : ∀ q ∈ sgs, (q.length = 1 ∨ q.length = 2) ∧ ∀ b ∈ q, sgB (b.toNat : Int) = true := by decide
theorem sgB_not {c : Int} (h : sgB c = true) : Lx.blankB c = false ∧ c ≠ 47 ∧ Lx.letB c = false ∧ Lx.digB c = false ∧ c ≠ 39 := by
  have h1 := (sgB_iff c).1 h
  rcases h1 with rfl | rfl | rfl | rfl | rfl | rfl | rfl | rfl | rfl | rfl | rfl | rfl <;> decide
theorem signM_pos {c : Int} (h : sgB c = true) (d e : Int) : 1 ≤ Lx.signM c d e := by
  have h1 := (sgB_iff c).1 h
  rcases h1 with rfl | rfl | rfl | rfl | rfl | rfl | rfl | rfl | rfl | rfl | rfl | rfl <;> simp [Lx.signM] <;> (repeat' split) <;> omega
def sg (s : ByteArray) (p : Nat) : Nat := Lx.signM (Lx.pk s p) (Lx.pk s (p + 1)) (Lx.pk s (p + 2))
def sgTk (s : ByteArray) (p : Nat) : Lx.Tk := ⟨5, p, s.extract p (p + sg s p), ⟨#[]⟩, 0, false⟩
theorem sg_tok {s : ByteArray} {p : Nat} (h : sgB (Lx.pk s p) = true) : Lx.tokenM s p = ⟨0, p + sg s p, 5, ⟨#[]⟩, 0, false⟩ ∧ 1 ≤ sg s p ∧ p + sg s p ≤ s.size := by
  obtain ⟨h1, h2, h3, h4, h5⟩ := sgB_not h
  have hp := signM_pos h (Lx.pk s (p + 1)) (Lx.pk s (p + 2))
  have e : Lx.tokenM s p = ⟨0, p + sg s p, 5, ⟨#[]⟩, 0, false⟩ := by
    unfold Lx.tokenM
    rw [if_neg (by rw [h3]; decide), if_neg (by rw [h4]; decide), if_neg h5, if_neg (by omega)]
    rfl
  have hlt : p < s.size := Lx.pk_in (fun h0 => by rw [h0] at h; exact absurd h (by decide))
  have hb := (Lx.tokenM_bd hlt).2.1
  rw [e] at hb
  exact ⟨e, hp, hb⟩
theorem sg_gap {s : ByteArray} {p : Nat} (h : sgB (Lx.pk s p) = true) (f : Nat) : Lx.gap s f p = (p, true) := by
  obtain ⟨h1, h2, h3, h4, h5⟩ := sgB_not h
  exact Lx.gap_stop h1 (fun hh => h2 hh.1) (fun hh => h2 hh.1)
theorem sg_tkOf {s : ByteArray} {p : Nat} (h : sgB (Lx.pk s p) = true) : Lx.tkOf s p (Lx.tokenM s p) = sgTk s p := by
  unfold Lx.tkOf sgTk; rw [(sg_tok h).1]
/-- The longest signs, one behind the other. -/
def greedy (s : ByteArray) : Nat → Nat → List Lx.Tk
  | 0, _ => []
  | f + 1, p => if p < s.size then sgTk s p :: greedy s f (p + sg s p) else []
theorem greedy_len (s : ByteArray) (hs : ∀ p, p < s.size → sgB (Lx.pk s p) = true) (f p : Nat) : (greedy s f p).length ≤ s.size - p := by
  induction f generalizing p with
  | zero => exact Nat.zero_le _
  | succ f ih =>
    rw [greedy]
    split
    · next h =>
      have := ih (p + sg s p)
      have h1 := (sg_tok (hs p h)).2.1
      rw [List.length_cons]; omega
    · exact Nat.zero_le _
theorem greedy_toks (s : ByteArray) (hs : ∀ p, p < s.size → sgB (Lx.pk s p) = true) (f p : Nat) (acc : List Lx.Tk) (hp : p ≤ s.size) (hf : s.size - p < f) (ha : acc.length + (s.size - p) ≤ 5999) :
    Lx.toksM s f p acc = ⟨acc ++ greedy s f p, 0, 0⟩ := by
  induction f generalizing p acc with
  | zero => omega
  | succ f ih =>
    by_cases h : p < s.size
    · have hb := hs p h
      obtain ⟨h1, h2, h3⟩ := sg_tok hb
      rw [Lx.toks_more (sg_gap hb _) (by omega) (by rw [h1]) (by omega), sg_tkOf hb, greedy, if_pos h]
      have := ih (p + sg s p) (acc ++ [sgTk s p]) h3 (by omega) (by rw [List.length_append]; simp; omega)
      rw [h1]
      simp only
      rw [this, List.append_assoc]
      rfl
    · obtain rfl : p = s.size := by omega
      rw [Lx.toks_end (Lx.gap_end (by omega)) rfl, greedy, if_neg (by omega), List.append_nil]
theorem greedy_kind (s : ByteArray) (f p : Nat) : ∀ t ∈ greedy s f p, t.kind = 5 := by
  induction f generalizing p with
  | zero => intro t ht; cases ht
  | succ f ih =>
    rw [greedy]
    split
    · intro t ht
      rcases List.mem_cons.1 ht with rfl | ht
      · rfl
      · exact ih _ t ht
    · intro t ht; cases ht
theorem drop_take_add (l : List UInt8) (a n : Nat) : (l.drop a).take n ++ l.drop (a + n) = l.drop a := by
  rw [← List.drop_drop]; exact List.take_append_drop n _
/-- They make the text again. -/
theorem greedy_text (s : ByteArray) (hs : ∀ p, p < s.size → sgB (Lx.pk s p) = true) (f p : Nat) (hf : s.size - p < f) :
    (greedy s f p).flatMap (fun t => t.text.data.toList) = s.data.toList.drop p := by
  induction f generalizing p with
  | zero => omega
  | succ f ih =>
    rw [greedy]
    split
    · next h =>
      have h1 := (sg_tok (hs p h)).2.1
      rw [List.flatMap_cons, ih _ (by omega)]
      have : (sgTk s p).text.data.toList = (s.data.toList.drop p).take (sg s p) := by
        rw [← ByteArray.toList_eq]; exact ext_list s p (sg s p)
      rw [this]
      exact drop_take_add _ _ _
    · next h => rw [List.drop_of_length_le (by rw [← size_list]; omega)]; rfl
theorem pk_drop (s : ByteArray) (p k : Nat) : Lx.pk s (p + k) = lb (s.data.toList.drop p) k := by
  rw [pk_lb]; unfold lb; rw [List.getElem?_drop]
theorem sgs_two : ∀ q ∈ sgs, q.length = 2 → ∀ e : Int, 2 ≤ Lx.signM (lb q 0) (lb q 1) e := by
  intro q hq h2 e
  simp only [sgs, List.mem_cons, List.mem_nil_iff, or_false] at hq
  rcases hq with rfl | rfl | rfl | rfl | rfl | rfl | rfl | rfl | rfl | rfl | rfl | rfl | rfl | rfl | rfl | rfl <;> first | (exact absurd h2 (by decide)) | (simp [Lx.signM, lb] <;> (repeat' split) <;> omega)
/-- No more of them than were laid side by side. -/
theorem greedy_le (s : ByteArray) (hs : ∀ p, p < s.size → sgB (Lx.pk s p) = true) (Q : List (List UInt8)) (hQ : ∀ q ∈ Q, q ∈ sgs) (f p d : Nat) (h : s.data.toList.drop p = Q.flatten.drop d) : (greedy s f p).length ≤ Q.length := by
  induction Q generalizing f p d with
  | nil =>
    cases f with
    | zero => exact Nat.zero_le _
    | succ f =>
      rw [greedy, if_neg]
      · exact Nat.zero_le _
      · intro hp
        have := congrArg List.length h
        simp at this
        have e : s.data.size = s.size := rfl
        omega
  | cons q Q ih =>
    have ih' := ih (fun q' hq' => hQ q' (List.mem_cons_of_mem _ hq'))
    rw [List.flatten_cons] at h
    by_cases hd : q.length ≤ d
    · rw [List.drop_append, List.drop_of_length_le hd, List.nil_append] at h
      have := ih' f p _ h
      rw [List.length_cons]; omega
    · cases f with
      | zero => exact Nat.zero_le _
      | succ f =>
        rw [greedy]
        split
        · next hp =>
          obtain ⟨hq1, hq2⟩ := sgs_all q (hQ q (List.mem_cons_self ..))
          obtain ⟨h1, h2, h3⟩ := sg_tok (hs p hp)
          have hL : q.length - d ≤ sg s p := by
            rcases hq1 with hq1 | hq1
            · omega
            · by_cases hd0 : d = 0
              · subst hd0
                have e0 : Lx.pk s p = lb q 0 := by
                  have := pk_drop s p 0
                  rw [Nat.add_zero, h, List.drop_zero, lb_left (by omega)] at this; exact this
                have e1 : Lx.pk s (p + 1) = lb q 1 := by
                  have := pk_drop s p 1
                  rw [h, List.drop_zero, lb_left (by omega)] at this; exact this
                have := sgs_two q (hQ q (List.mem_cons_self ..)) hq1 (Lx.pk s (p + 2))
                unfold sg; rw [e0, e1]; omega
              · omega
          have h' : s.data.toList.drop (p + sg s p) = Q.flatten.drop (d + sg s p - q.length) := by
            rw [← List.drop_drop, h, List.drop_drop, List.drop_append, List.drop_of_length_le (by omega), List.nil_append]
          have := ih' f _ _ h'
          rw [List.length_cons, List.length_cons]; omega
        · exact Nat.zero_le _
end Go.Proofs.Ytlpoahjgonjelaa
