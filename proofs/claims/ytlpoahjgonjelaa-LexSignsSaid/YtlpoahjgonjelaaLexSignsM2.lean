/- What a text is taken apart to that is signs with a blank behind each. -/
import Derived.Test.YtlpoahjgonjelaaLexSignsM
namespace Go.Proofs.Ytlpoahjgonjelaa
open Go.RowKit
set_option linter.unusedVariables false

def loose (Q : List (List UInt8)) : List UInt8 := Q.flatMap (fun q => q ++ [32])
theorem loose_cons (q : List UInt8) (Q : List (List UInt8)) : loose (q :: Q) = q ++ 32 :: loose Q := by unfold loose; rw [List.flatMap_cons]; simp
theorem sgs_one : ∀ q ∈ sgs, q.length = 1 → ∀ e : Int, Lx.signM (lb q 0) 32 e = 1 := by
  intro q hq h2 e
  simp only [sgs, List.mem_cons, List.mem_nil_iff, or_false] at hq
  rcases hq with rfl | rfl | rfl | rfl | rfl | rfl | rfl | rfl | rfl | rfl | rfl | rfl | rfl | rfl | rfl | rfl <;> first | (exact absurd h2 (by decide)) | (simp [Lx.signM, lb]; done) | (simp [Lx.signM, lb] <;> (repeat' split) <;> omega)
theorem sgs_two2 : ∀ q ∈ sgs, q.length = 2 → Lx.signM (lb q 0) (lb q 1) 32 = 2 := by decide
theorem lb_cons0 (a : UInt8) (l : List UInt8) : lb (a :: l) 0 = (a.toNat : Int) := rfl
theorem loose_at {s : ByteArray} {p : Nat} {q : List UInt8} {Q : List (List UInt8)} (hq : q ∈ sgs) (h : s.data.toList.drop p = loose (q :: Q)) : sgB (Lx.pk s p) = true ∧ sg s p = q.length := by
  obtain ⟨h1, h2⟩ := sgs_all q hq
  rw [loose_cons] at h
  have e0 : Lx.pk s p = lb q 0 := by
    have := pk_drop s p 0
    rw [Nat.add_zero, h, lb_left (by omega)] at this; exact this
  constructor
  · rw [e0]
    obtain ⟨b, hb, he⟩ := lb_mem (l := q) (k := 0) (by omega)
    rw [he]; exact h2 b hb
  · rcases h1 with h1 | h1
    · have e1 : Lx.pk s (p + 1) = 32 := by
        have := pk_drop s p 1
        rw [h, lb_right (by omega), h1] at this; exact this
      unfold sg; rw [e0, e1, h1]; exact sgs_one q hq h1 _
    · have e1 : Lx.pk s (p + 1) = lb q 1 := by
        have := pk_drop s p 1
        rw [h, lb_left (by omega)] at this; exact this
      have e2 : Lx.pk s (p + 2) = 32 := by
        have := pk_drop s p 2
        rw [h, lb_right (by omega), h1] at this; exact this
      unfold sg; rw [e0, e1, e2, h1]; exact sgs_two2 q hq h1
theorem loose_gapA {s : ByteArray} {p : Nat} {Q : List (List UInt8)} (hQ : ∀ q ∈ Q, q ∈ sgs) (h : s.data.toList.drop p = loose Q) (f : Nat) : Lx.gap s f p = (p, true) := by
  cases Q with
  | nil =>
    refine Lx.gap_end (fun hp => ?_)
    have := congrArg List.length h
    have e : s.data.size = s.size := rfl
    simp [loose] at this; omega
  | cons q Q => exact sg_gap (loose_at (hQ q (List.mem_cons_self ..)) h).1 f
theorem loose_gapB {s : ByteArray} {p : Nat} {Q : List (List UInt8)} (hQ : ∀ q ∈ Q, q ∈ sgs) (h : s.data.toList.drop p = 32 :: loose Q) : Lx.gap s s.size p = (p + 1, true) ∧ s.data.toList.drop (p + 1) = loose Q := by
  have e0 : Lx.pk s p = 32 := by
    have := pk_drop s p 0
    rw [Nat.add_zero, h] at this; exact this
  have hlt : p < s.size := Lx.pk_in (by rw [e0]; decide)
  have hd : s.data.toList.drop (p + 1) = loose Q := by rw [← List.drop_drop, h]; rfl
  obtain ⟨n, hn⟩ : ∃ n, s.size = n + 1 := ⟨s.size - 1, by omega⟩
  refine ⟨?_, hd⟩
  have e : Lx.gap s (n + 1) p = Lx.gap s n (p + 1) := Lx.gap_blank hlt (by rw [e0]; decide)
  rw [hn, e, loose_gapA hQ hd n]
theorem loose_toks (s : ByteArray) (Q : List (List UInt8)) (hQ : ∀ q ∈ Q, q ∈ sgs) (f p : Nat) (acc : List Lx.Tk) (hp : p ≤ s.size) (hf : Q.length < f) (ha : acc.length + Q.length ≤ 5999) (h : s.data.toList.drop p = loose Q ∨ s.data.toList.drop p = 32 :: loose Q) :
    ∃ L : List Lx.Tk, Lx.toksM s f p acc = ⟨acc ++ L, 0, 0⟩ ∧ L.map (fun t => t.text.data.toList) = Q := by
  induction Q generalizing f p acc with
  | nil =>
    obtain ⟨f, rfl⟩ : ∃ f', f = f' + 1 := ⟨f - 1, by omega⟩
    have hg : ∃ p', Lx.gap s s.size p = (p', true) ∧ s.data.toList.drop p' = loose [] := by
      rcases h with h | h
      · exact ⟨p, loose_gapA hQ h _, h⟩
      · exact ⟨p + 1, loose_gapB hQ h⟩
    obtain ⟨p', hg1, hg2⟩ := hg
    have hb := (Lx.gap_bd (s := s) s.size p hp).2
    rw [hg1] at hb
    have : p' = s.size := by
      have := congrArg List.length hg2
      have e : s.data.size = s.size := rfl
      simp [loose] at this; simp at hb; omega
    exact ⟨[], by rw [Lx.toks_end hg1 this, List.append_nil], rfl⟩
  | cons q Q ih =>
    obtain ⟨f, rfl⟩ : ∃ f', f = f' + 1 := ⟨f - 1, by omega⟩
    have hg : ∃ p', Lx.gap s s.size p = (p', true) ∧ s.data.toList.drop p' = loose (q :: Q) := by
      rcases h with h | h
      · exact ⟨p, loose_gapA hQ h _, h⟩
      · exact ⟨p + 1, loose_gapB hQ h⟩
    obtain ⟨p', hg1, hg2⟩ := hg
    obtain ⟨hs1, hs2⟩ := loose_at (hQ q (List.mem_cons_self ..)) hg2
    obtain ⟨h1, h2, h3⟩ := sg_tok hs1
    have hd : s.data.toList.drop (p' + sg s p') = 32 :: loose Q := by
      rw [← List.drop_drop, hg2, loose_cons, hs2]; simp
    rw [List.length_cons] at hf ha
    have hlt : p' < s.size := by omega
    obtain ⟨L, hL1, hL2⟩ := ih (fun q' hq' => hQ q' (List.mem_cons_of_mem _ hq')) f (p' + sg s p') (acc ++ [sgTk s p']) h3 (by omega) (by rw [List.length_append]; simp; omega) (.inr hd)
    refine ⟨sgTk s p' :: L, ?_, ?_⟩
    · rw [Lx.toks_more hg1 (by omega) (by rw [h1]) (by omega), sg_tkOf hs1, h1]
      simp only
      rw [hL1, List.append_assoc]; rfl
    · rw [List.map_cons, hL2]
      congr 1
      show (s.extract p' (p' + sg s p')).data.toList = q
      rw [← ByteArray.toList_eq, ext_list, hg2, loose_cons, hs2]; simp
/-- The law's two texts. -/
theorem tight_tokens (s : ByteArray) (Q : List (List UInt8)) (hQ : ∀ q ∈ Q, q ∈ sgs) (hn : Q.length ≤ 12) (h : s.data.toList = Q.flatten) :
    ∃ L : List Lx.Tk, Lx.tokensM s = ⟨L, 0, 0⟩ ∧ L.length ≤ Q.length ∧ (∀ t ∈ L, t.kind = 5) ∧ L.flatMap (fun t => t.text.data.toList) = s.data.toList := by
  have hsz : s.size ≤ 24 := by
    rw [size_list, h, List.length_flatten]
    have : ∀ R : List (List UInt8), (∀ q ∈ R, q ∈ sgs) → (R.map List.length).sum ≤ 2 * R.length := fun R hR => by
      induction R with
      | nil => simp
      | cons q R ih =>
        have := ih (fun q' hq' => hR q' (List.mem_cons_of_mem _ hq'))
        have h2 := (sgs_all q (hR q (List.mem_cons_self ..))).1
        rw [List.map_cons, List.sum_cons, List.length_cons]; omega
    have := this Q hQ
    omega
  have hall : ∀ p, p < s.size → sgB (Lx.pk s p) = true := fun p hp => by
    obtain ⟨b, hb, he⟩ := lb_mem (l := s.data.toList) (k := p) (by rw [← size_list]; exact hp)
    rw [pk_lb, he]
    rw [h] at hb
    obtain ⟨q, hq, hbq⟩ := List.mem_flatten.1 hb
    exact (sgs_all q (hQ q hq)).2 b hbq
  refine ⟨greedy s (s.size + 1) 0, ?_, greedy_le s hall Q hQ _ 0 0 (by rw [List.drop_zero, List.drop_zero, h]), greedy_kind s _ _, ?_⟩
  · unfold Lx.tokensM
    rw [if_neg (by omega), greedy_toks s hall _ 0 [] (Nat.zero_le _) (by omega) (by simp; omega)]; rfl
  · rw [greedy_text s hall _ 0 (by omega), List.drop_zero]
theorem loose_tokens (s : ByteArray) (Q : List (List UInt8)) (hQ : ∀ q ∈ Q, q ∈ sgs) (hn : Q.length ≤ 12) (h : s.data.toList = loose Q) :
    ∃ L : List Lx.Tk, Lx.tokensM s = ⟨L, 0, 0⟩ ∧ L.map (fun t => t.text.data.toList) = Q := by
  have hsz : s.size ≤ 3 * Q.length ∧ Q.length ≤ s.size := by
    rw [size_list, h]
    have : ∀ R : List (List UInt8), (∀ q ∈ R, q ∈ sgs) → (loose R).length ≤ 3 * R.length ∧ R.length ≤ (loose R).length := fun R hR => by
      induction R with
      | nil => simp [loose]
      | cons q R ih =>
        have := ih (fun q' hq' => hR q' (List.mem_cons_of_mem _ hq'))
        have h2 := (sgs_all q (hR q (List.mem_cons_self ..))).1
        rw [loose_cons, List.length_append, List.length_cons, List.length_cons]; omega
    exact this Q hQ
  obtain ⟨L, h1, h2⟩ := loose_toks s Q hQ (s.size + 1) 0 [] (Nat.zero_le _) (by omega) (by simp; omega) (.inl (by rw [List.drop_zero, h]))
  refine ⟨L, ?_, h2⟩
  unfold Lx.tokensM
  rw [if_neg (by omega), h1]; rfl
end Go.Proofs.Ytlpoahjgonjelaa
