/- The tokens of a text that is rebuilt of them, with a gap ahead of each. -/
import Derived.Test.YtlpoahjgonjelaaLexPartsM
namespace Go.Proofs.Ytlpoahjgonjelaa
open Go.RowKit
set_option linter.unusedVariables false

/-- Here something begins that is no gap. -/
def Start (s : ByteArray) (g : Nat) : Prop := Lx.blankB (Lx.pk s g) = false ∧ ¬ (Lx.pk s g = 47 ∧ Lx.pk s (g + 1) = 47) ∧ ¬ (Lx.pk s g = 47 ∧ Lx.pk s (g + 1) = 42)
theorem gap_start {s : ByteArray} : ∀ (f i : Nat) {g : Nat}, Lx.gap s f i = (g, true) → g < s.size → s.size ≤ i + f → Start s g := by
  intro f
  induction f with
  | zero => intro i g h hg hf; simp only [Lx.gap, Prod.mk.injEq] at h; omega
  | succ f ih =>
    intro i g h hg hf
    by_cases h0 : i < s.size
    · by_cases hb : Lx.blankB (Lx.pk s i) = true
      · rw [Lx.gap_blank h0 hb] at h; exact ih (i + 1) h hg (by omega)
      · by_cases h1 : Lx.pk s i = 47 ∧ Lx.pk s (i + 1) = 47
        · rw [Lx.gap_line h0 h1.1 h1.2] at h
          have := Lx.lineEnd_gt h0 h1.1
          exact ih _ h hg (by omega)
        · by_cases h2 : Lx.pk s i = 47 ∧ Lx.pk s (i + 1) = 42
          · rw [Lx.gap_block h0 h2.1 h2.2] at h
            split at h
            · have := Lx.blockEnd_ge s (i + 2); exact ih _ h hg (by omega)
            · simp only [Prod.mk.injEq] at h; exact absurd h.2 (by decide)
          · have hb' : Lx.blankB (Lx.pk s i) = false := by simpa using hb
            rw [Lx.gap_stop hb' h1 h2] at h
            simp only [Prod.mk.injEq, and_true] at h
            subst h; exact ⟨hb', h1, h2⟩
    · rw [Lx.gap_end h0] at h; simp only [Prod.mk.injEq, and_true] at h; omega
theorem Start.gap {s : ByteArray} {g : Nat} (h : Start s g) (f : Nat) : Lx.gap s f g = (g, true) := Lx.gap_stop h.1 h.2.1 h.2.2
theorem Start.moved {s s' : ByteArray} {i p : Nat} {t : List UInt8} (h : Start s i) (m : Moved s s' i p t) (ht : 0 < t.length) : Start s' p := by
  have e0 := m.eq0 ht
  by_cases h2 : 1 < t.length
  · have e1 := m.eq (k := 1) h2
    unfold Start; rw [e0, e1]; exact h
  · have hb := m.blank
    rw [show t.length = 1 by omega] at hb
    have := blank_not hb
    exact ⟨by rw [e0]; exact h.1, fun hh => this.2.1 hh.2, fun hh => this.2.2.1 hh.2⟩
/-- The law's five gaps. -/
def gps : List (List UInt8) := [[32], [10], [32, 47, 42, 32, 42, 32, 42, 47], [32, 47, 47, 120, 10], [9, 32, 13]]
theorem gps_head : ∀ w ∈ gps, ∃ c r, w = c :: r ∧ Lx.blankB (c.toNat : Int) = true := by
  intro w hw
  simp only [gps, List.mem_cons, List.mem_nil_iff, or_false] at hw
  rcases hw with rfl | rfl | rfl | rfl | rfl <;> exact ⟨_, _, rfl, by decide⟩
theorem gps_len : ∀ w ∈ gps, 1 ≤ w.length ∧ w.length ≤ 8 := by decide
theorem gp_gap {s : ByteArray} {p : Nat} {w u : List UInt8} (hw : w ∈ gps) (h : s.data.toList.drop p = w ++ u) (hS : ∀ f, Lx.gap s f (p + w.length) = (p + w.length, true)) : Lx.gap s s.size p = (p + w.length, true) := by
  have P : ∀ k, k < w.length → Lx.pk s (p + k) = lb w k := fun k hk => by rw [pk_drop, h, lb_left hk]
  have hlen : p + w.length ≤ s.size := by
    have := congrArg List.length h
    have e : s.data.size = s.size := rfl
    have := (gps_len w hw).1
    simp at *; omega
  have B1 : ∀ (f k : Nat), k < w.length → Lx.blankB (lb w k) = true → Lx.gap s (f + 1) (p + k) = Lx.gap s f (p + k + 1) := fun f k hk hb => Lx.gap_blank (by omega) (by rw [P k hk]; exact hb)
  simp only [gps, List.mem_cons, List.mem_nil_iff, or_false] at hw
  rcases hw with rfl | rfl | rfl | rfl | rfl
  · obtain ⟨f, hf⟩ : ∃ f, s.size = f + 1 := ⟨s.size - 1, by simp at hlen; omega⟩
    rw [hf]
    exact (B1 f 0 (by decide) (by decide)).trans (hS f)
  · obtain ⟨f, hf⟩ : ∃ f, s.size = f + 1 := ⟨s.size - 1, by simp at hlen; omega⟩
    rw [hf]
    exact (B1 f 0 (by decide) (by decide)).trans (hS f)
  · obtain ⟨f, hf⟩ : ∃ f, s.size = f + 1 + 1 := ⟨s.size - 2, by simp at hlen; omega⟩
    have hl8 : p + 8 ≤ s.size := hlen
    have hbe : Lx.blockEnd s (p + 1 + 2) = p + 6 := by
      refine scan_run (p + 6) s.size (p + 1 + 2) (by omega) (by omega) (fun k h1 h2 => ?_) ?_
      · have hk : k = p + 3 ∨ k = p + 4 ∨ k = p + 5 := by omega
        unfold Lx.blockP
        rcases hk with rfl | rfl | rfl
        · rw [decide_eq_true (by omega), P 3 (by decide)]; rfl
        · rw [decide_eq_true (by omega), P 4 (by decide), show p + 4 + 1 = p + 5 from rfl, P 5 (by decide)]; rfl
        · rw [decide_eq_true (by omega), P 5 (by decide)]; rfl
      · unfold Lx.blockP
        rw [P 6 (by decide), show p + 6 + 1 = p + 7 from rfl, P 7 (by decide), decide_eq_true (by omega)]; rfl
    rw [hf]
    refine (B1 (f + 1) 0 (by decide) (by decide)).trans ?_
    show Lx.gap s (f + 1) (p + 1) = _
    rw [Lx.gap_block (by omega) (by rw [P 1 (by decide)]; rfl) (by rw [show p + 1 + 1 = p + 2 from rfl, P 2 (by decide)]; rfl), hbe, if_pos (by omega)]
    exact hS f
  · obtain ⟨f, hf⟩ : ∃ f, s.size = f + 1 + 1 + 1 := ⟨s.size - 3, by simp at hlen; omega⟩
    have hl5 : p + 5 ≤ s.size := hlen
    have hle : Lx.lineEnd s (p + 1) = p + 4 := by
      refine scan_run (p + 4) s.size (p + 1) (by omega) (by omega) (fun k h1 h2 => ?_) ?_
      · have hk : k = p + 1 ∨ k = p + 2 ∨ k = p + 3 := by omega
        unfold Lx.lineP
        rcases hk with rfl | rfl | rfl
        · rw [decide_eq_true (by omega), P 1 (by decide)]; rfl
        · rw [decide_eq_true (by omega), P 2 (by decide)]; rfl
        · rw [decide_eq_true (by omega), P 3 (by decide)]; rfl
      · unfold Lx.lineP
        rw [P 4 (by decide), decide_eq_true (by omega)]; rfl
    rw [hf]
    refine (B1 (f + 1 + 1) 0 (by decide) (by decide)).trans ?_
    show Lx.gap s (f + 1 + 1) (p + 1) = _
    rw [Lx.gap_line (by omega) (by rw [P 1 (by decide)]; rfl) (by rw [show p + 1 + 1 = p + 2 from rfl, P 2 (by decide)]; rfl), hle]
    exact (B1 f 4 (by decide) (by decide)).trans (hS f)
  · obtain ⟨f, hf⟩ : ∃ f, s.size = f + 1 + 1 + 1 := ⟨s.size - 3, by simp at hlen; omega⟩
    rw [hf]
    refine (B1 (f + 1 + 1) 0 (by decide) (by decide)).trans ?_
    refine (B1 (f + 1) 1 (by decide) (by decide)).trans ?_
    exact (B1 f 2 (by decide) (by decide)).trans (hS f)
theorem last_gap {s : ByteArray} {p : Nat} (h : s.data.toList.drop p = [32]) : Lx.gap s s.size p = (s.size, true) := by
  have hlen := congrArg List.length h
  have e : s.data.size = s.size := rfl
  simp at hlen
  obtain ⟨f, hf⟩ : ∃ f, s.size = f + 1 := ⟨s.size - 1, by omega⟩
  have hp : p = f := by omega
  have e0 : Lx.pk s p = 32 := pk_drop0 h
  have : Lx.gap s (f + 1) p = Lx.gap s f (p + 1) := Lx.gap_blank (by omega) (by rw [e0]; decide)
  rw [hf, this, Lx.gap_end (by omega), hp]
/-- Tokens that stand one behind the other. -/
def Chain (s : ByteArray) : Nat → List Lx.Tk → Prop
  | _, [] => True
  | i, t :: L => ∃ g, i ≤ g ∧ g < s.size ∧ Start s g ∧ (Lx.tokenM s g).code = 0 ∧ t = Lx.tkOf s g (Lx.tokenM s g) ∧ Chain s (Lx.tokenM s g).j L
theorem toks_chain (s : ByteArray) : ∀ (f i : Nat) (acc : List Lx.Tk), i ≤ s.size → acc.length ≤ 6000 → ∀ r, Lx.toksM s f i acc = r → (r.code = 0 ∧ r.l.length ≤ 6000 ∧ ∃ L, r.l = acc ++ L ∧ Chain s i L) ∨ (r.code ≠ 0 ∧ r.l = []) := by
  intro f
  induction f with
  | zero => intro i acc hi ha r hr; subst hr; exact .inl ⟨rfl, ha, [], by rw [List.append_nil]; rfl, trivial⟩
  | succ f ih =>
    intro i acc hi ha r hr
    obtain ⟨⟨g, b⟩, hg⟩ : ∃ r, Lx.gap s s.size i = r := ⟨_, rfl⟩
    have hb := Lx.gap_bd (s := s) s.size i hi
    rw [hg] at hb
    simp only at hb
    cases b
    · rw [Lx.toks_bad hg] at hr; subst hr; exact .inr ⟨show ¬ (3 : Int) = 0 by decide, rfl⟩
    · by_cases he : g = s.size
      · rw [Lx.toks_end hg he] at hr; subst hr; exact .inl ⟨rfl, ha, [], by rw [List.append_nil], trivial⟩
      · by_cases hc : (Lx.tokenM s g).code = 0
        · by_cases hn : acc.length = 6000
          · rw [Lx.toks_many hg he hc hn] at hr; subst hr; exact .inr ⟨show ¬ (6 : Int) = 0 by decide, rfl⟩
          · rw [Lx.toks_more hg he hc hn] at hr
            have hbd := Lx.tokenM_bd (s := s) (i := g) (by omega)
            rcases ih _ _ hbd.2.1 (by rw [List.length_append]; simp; omega) r hr with ⟨h1, h2, L, h3, h4⟩ | h
            · refine .inl ⟨h1, h2, Lx.tkOf s g (Lx.tokenM s g) :: L, by rw [h3, List.append_assoc]; rfl, g, hb.1, by omega, gap_start _ _ hg (by omega) (by omega), hc, rfl, h4⟩
            · exact .inr h
        · rw [Lx.toks_wrong hg he hc] at hr; subst hr; exact .inr ⟨hc, rfl⟩
/-- The text of tokens, with a gap ahead of each. -/
def rbl (G : Nat → List UInt8) : Nat → List Lx.Tk → List UInt8
  | _, [] => []
  | k, t :: L => G k ++ (t.text.data.toList ++ rbl G (k + 1) L)
theorem rbl_snoc (G : Nat → List UInt8) : ∀ (L : List Lx.Tk) (k : Nat) (t : Lx.Tk), rbl G k (L ++ [t]) = rbl G k L ++ (G (k + L.length) ++ t.text.data.toList) := by
  intro L
  induction L with
  | nil => intro k t; simp [rbl]
  | cons a L ih => intro k t; simp [rbl, ih, List.append_assoc, show k + 1 + L.length = k + (L.length + 1) by omega]
theorem rbl_head (G : Nat → List UInt8) (hG : ∀ k, G k ∈ gps) (k : Nat) (L : List Lx.Tk) : ∃ c r, rbl G k L ++ [32] = c :: r ∧ Lx.blankB (c.toNat : Int) = true := by
  cases L with
  | nil => exact ⟨32, [], rfl, by decide⟩
  | cons t L =>
    obtain ⟨c, r, h1, h2⟩ := gps_head _ (hG k)
    exact ⟨c, r ++ (t.text.data.toList ++ rbl G (k + 1) L) ++ [32], by rw [rbl, h1]; simp, h2⟩
/-- All but where it begins. -/
def noAt (t : Lx.Tk) : Lx.Tk := { t with at_ := 0 }
theorem chain_text {s : ByteArray} {g : Nat} (hg : g < s.size) (hc : (Lx.tokenM s g).code = 0) : (Lx.tokenM s g).j = g + (s.extract g (Lx.tokenM s g).j).data.toList.length ∧ ∃ r, s.data.toList.drop g = (s.extract g (Lx.tokenM s g).j).data.toList ++ r := by
  have hbd := Lx.tokenM_bd hg
  have h1 := hbd.1 hc
  obtain ⟨n, hn⟩ : ∃ n, (Lx.tokenM s g).j = g + n := ⟨(Lx.tokenM s g).j - g, by omega⟩
  have h2 := hbd.2.1
  rw [hn] at h2 ⊢
  have e : (s.extract g (g + n)).data.toList = (s.data.toList.drop g).take n := by rw [← ByteArray.toList_eq]; exact ext_list s g n
  refine ⟨?_, (s.data.toList.drop g).drop n, by rw [e]; exact (List.take_append_drop n _).symm⟩
  rw [e, List.length_take, List.length_drop, ← size_list]; omega
theorem chain_toks (s s' : ByteArray) (G : Nat → List UInt8) (hG : ∀ k, G k ∈ gps) : ∀ (L : List Lx.Tk) (f i p k : Nat) (acc : List Lx.Tk), Chain s i L → s'.data.toList.drop p = rbl G k L ++ [32] → p ≤ s'.size → L.length < f → acc.length + L.length ≤ 6000 →
    ∃ L', Lx.toksM s' f p acc = ⟨acc ++ L', 0, 0⟩ ∧ L'.map noAt = L.map noAt := by
  intro L
  induction L with
  | nil =>
    intro f i p k acc hC h hp hf ha
    obtain ⟨f, rfl⟩ : ∃ f', f = f' + 1 := ⟨f - 1, by omega⟩
    exact ⟨[], by rw [Lx.toks_end (last_gap h) rfl, List.append_nil], rfl⟩
  | cons t L ih =>
    intro f i p k acc hC h hp hf ha
    obtain ⟨f, rfl⟩ : ∃ f', f = f' + 1 := ⟨f - 1, by omega⟩
    obtain ⟨g, hg1, hg2, hS, hc, ht, hC'⟩ := hC
    obtain ⟨hj, hr⟩ := chain_text hg2 hc
    have htx : t.text = s.extract g (Lx.tokenM s g).j := by rw [ht]; rfl
    rw [rbl, htx] at h
    obtain ⟨u, hu⟩ : ∃ u, (s.extract g (Lx.tokenM s g).j).data.toList = u := ⟨_, rfl⟩
    rw [hu] at h hj hr
    have hd1 : s'.data.toList.drop (p + (G k).length) = u ++ (rbl G (k + 1) L ++ [32]) := by
      rw [← List.drop_drop, h, List.append_assoc, List.drop_append, List.drop_of_length_le (Nat.le_refl _), Nat.sub_self, List.drop_zero, List.nil_append, List.append_assoc]
    obtain ⟨c, r, hc1, hc2⟩ := rbl_head G hG (k + 1) L
    have hM : Moved s s' g (p + (G k).length) u := ⟨hr, c, r, by rw [hd1, hc1], hc2⟩
    have hbd := Lx.tokenM_bd hg2
    have hpos : 0 < u.length := by have := hbd.1 hc; omega
    have hS' := hS.moved hM hpos
    have hT := tok_moved hM hg2 hc hj
    have hgap := gp_gap (hG k) (u := u ++ (rbl G (k + 1) L ++ [32])) (by rw [h]; simp) (fun f => hS'.gap f)
    have hlt := hM.lt
    have hd2 : s'.data.toList.drop (p + (G k).length + u.length) = rbl G (k + 1) L ++ [32] := by
      rw [← List.drop_drop, hd1, List.drop_append, List.drop_of_length_le (Nat.le_refl _), Nat.sub_self, List.drop_zero, List.nil_append]
    rw [List.length_cons] at hf ha
    obtain ⟨L', hL1, hL2⟩ := ih f (Lx.tokenM s g).j (p + (G k).length + u.length) (k + 1) (acc ++ [Lx.tkOf s' (p + (G k).length) (Lx.tokenM s' (p + (G k).length))]) hC' hd2 (by omega) (by omega) (by rw [List.length_append]; simp; omega)
    refine ⟨Lx.tkOf s' (p + (G k).length) (Lx.tokenM s' (p + (G k).length)) :: L', ?_, ?_⟩
    · rw [Lx.toks_more hgap (by omega) (by rw [hT]; exact hc) (by omega)]
      rw [hT] at hL1 ⊢
      simp only at hL1 ⊢
      rw [hL1, List.append_assoc]; rfl
    · rw [List.map_cons, List.map_cons, hL2, ht, hT]
      congr 1
      unfold noAt Lx.tkOf
      simp only
      rw [hM.ext, ← hj]
theorem chain_len (s : ByteArray) : ∀ (L : List Lx.Tk) (i : Nat), Chain s i L → L.length ≤ s.size - i := by
  intro L
  induction L with
  | nil => intro i _; exact Nat.zero_le _
  | cons t L ih =>
    intro i h
    obtain ⟨g, hg1, hg2, hS, hc, ht, hC'⟩ := h
    have := ih _ hC'
    have := (Lx.tokenM_bd hg2).1 hc
    rw [List.length_cons]; omega
/-- What the law asks of each token, from where the one ahead ended. -/
def endOf : Nat → List Lx.Tk → Nat
  | e, [] => e
  | _, t :: L => endOf (t.at_ + t.text.size) L
theorem endOf_snoc : ∀ (L : List Lx.Tk) (e : Nat) (t : Lx.Tk), endOf e (L ++ [t]) = t.at_ + t.text.size := by
  intro L
  induction L with
  | nil => intro e t; rfl
  | cons a L ih => intro e t; exact ih _ t
theorem chain_each (s : ByteArray) : ∀ (L : List Lx.Tk) (i : Nat), Chain s i L → ∀ (A : List Lx.Tk) (t : Lx.Tk) (B : List Lx.Tk), L = A ++ t :: B → endOf i A ≤ t.at_ ∧ t.at_ + t.text.size ≤ s.size ∧ s.extract t.at_ (t.at_ + t.text.size) = t.text ∧ 0 < t.text.size := by
  intro L
  induction L with
  | nil => intro i _ A t B h; cases A <;> cases h
  | cons a L ih =>
    intro i h A t B hL
    obtain ⟨g, hg1, hg2, hS, hc, ht, hC'⟩ := h
    obtain ⟨hj, hr⟩ := chain_text hg2 hc
    have hbd := Lx.tokenM_bd hg2
    have hz : (s.extract g (Lx.tokenM s g).j).size = (Lx.tokenM s g).j - g := by
      have := size_list (s.extract g (Lx.tokenM s g).j); omega
    have hp := hbd.1 hc
    cases A with
    | nil =>
      rw [List.nil_append] at hL
      injection hL with h1 h2
      subst h1
      rw [ht]
      show i ≤ g ∧ g + (s.extract g (Lx.tokenM s g).j).size ≤ s.size ∧ s.extract g (g + (s.extract g (Lx.tokenM s g).j).size) = s.extract g (Lx.tokenM s g).j ∧ 0 < (s.extract g (Lx.tokenM s g).j).size
      rw [hz, show g + ((Lx.tokenM s g).j - g) = (Lx.tokenM s g).j by omega]
      exact ⟨hg1, hbd.2.1, rfl, by omega⟩
    | cons a' A =>
      rw [List.cons_append] at hL
      injection hL with h1 h2
      subst h1
      have := ih _ hC' A t B h2
      have he : a.at_ + a.text.size = (Lx.tokenM s g).j := by
        rw [ht]
        show g + (s.extract g (Lx.tokenM s g).j).size = _
        omega
      show endOf (a.at_ + a.text.size) A ≤ _ ∧ _
      rw [he]; exact this
theorem rbl_len (s : ByteArray) (G : Nat → List UInt8) (hG : ∀ k, G k ∈ gps) : ∀ (L : List Lx.Tk) (k : Nat), (∀ t ∈ L, t.text.size ≤ s.size) → (rbl G k L).length ≤ L.length * (8 + s.size) := by
  intro L
  induction L with
  | nil => intro k _; simp [rbl]
  | cons t L ih =>
    intro k h
    have := ih (k + 1) (fun t' ht' => h t' (List.mem_cons_of_mem _ ht'))
    have h1 := h t (List.mem_cons_self ..)
    have h2 := (gps_len _ (hG k)).2
    rw [size_list] at h1
    rw [rbl, List.length_append, List.length_append, List.length_cons, Nat.add_mul]; omega
/-- The texts of a chain, all together, are no longer than the text. -/
theorem rbl_chain (s : ByteArray) (G : Nat → List UInt8) (hG : ∀ k, G k ∈ gps) : ∀ (L : List Lx.Tk) (i k : Nat), Chain s i L → (rbl G k L).length ≤ 8 * L.length + (s.size - i) := by
  intro L
  induction L with
  | nil => intro i k _; simp [rbl]
  | cons t L ih =>
    intro i k h
    obtain ⟨g, hg1, hg2, hS, hc, ht, hC'⟩ := h
    obtain ⟨hj, hr⟩ := chain_text hg2 hc
    have hbd := Lx.tokenM_bd hg2
    have := ih _ (k + 1) hC'
    have h2 := (gps_len _ (hG k)).2
    have htx : t.text = s.extract g (Lx.tokenM s g).j := by rw [ht]; rfl
    rw [rbl, List.length_append, List.length_append, List.length_cons, htx]
    have := hbd.1 hc
    omega
/-- The rebuilt text is taken apart to the same tokens, but for where they begin. -/
theorem parts_tokens (s s' : ByteArray) (G : Nat → List UInt8) (hG : ∀ k, G k ∈ gps) (hs : s.size ≤ 600) (L : List Lx.Tk) (hC : Chain s 0 L) (h : s'.data.toList = rbl G 0 L ++ [32]) :
    ∃ L', Lx.tokensM s' = ⟨L', 0, 0⟩ ∧ L'.map noAt = L.map noAt := by
  have h1 := chain_len s L 0 hC
  have h2 := rbl_chain s G hG L 0 0 hC
  have hz : s'.size = (rbl G 0 L).length + 1 := by rw [size_list, h]; simp
  have h3 : L.length ≤ (rbl G 0 L).length := by
    have : ∀ (M : List Lx.Tk) (k : Nat), M.length ≤ (rbl G k M).length := by
      intro M
      induction M with
      | nil => intro k; exact Nat.zero_le _
      | cons t M ih =>
        intro k
        have := ih (k + 1)
        have := (gps_len _ (hG k)).1
        rw [rbl, List.length_append, List.length_append, List.length_cons]; omega
    exact this L 0
  obtain ⟨L', hL1, hL2⟩ := chain_toks s s' G hG L (s'.size + 1) 0 0 0 [] hC (by rw [List.drop_zero, h]) (Nat.zero_le _) (by omega) (by simp; omega)
  refine ⟨L', ?_, hL2⟩
  unfold Lx.tokensM
  rw [if_neg (by omega), hL1]; rfl
/-- What the first text is taken apart to. -/
theorem first_tokens (s : ByteArray) (hs : s.size ≤ 600) : (∃ L, Lx.tokensM s = ⟨L, 0, 0⟩ ∧ Chain s 0 L ∧ L.length ≤ 600) ∨ (∃ c p, Lx.tokensM s = ⟨[], c, p⟩ ∧ c ≠ 0) := by
  obtain ⟨r, hr⟩ : ∃ r, Lx.tokensM s = r := ⟨_, rfl⟩
  have hr' := hr
  unfold Lx.tokensM at hr'
  rw [if_neg (by omega)] at hr'
  rcases toks_chain s _ 0 [] (Nat.zero_le _) (by simp) r hr' with ⟨h1, h2, L, h3, h4⟩ | ⟨h1, h2⟩
  · left
    have h5 := chain_len s L 0 h4
    obtain ⟨l, c, p⟩ := r
    simp only at h1 h2 h3
    subst h1
    have hp : p = 0 := by
      have key : ∀ (f i : Nat) (acc : List Lx.Tk), (Lx.toksM s f i acc).code = 0 → (Lx.toksM s f i acc).pos = 0 := by
        intro f
        induction f with
        | zero => intro i acc _; rfl
        | succ f ih =>
          intro i acc
          rw [Lx.toksM]
          (repeat' split) <;> intro h <;> first | rfl | exact ih _ _ h | (exact absurd h (show ¬ (3 : Int) = 0 by decide)) | (exact absurd h (show ¬ (6 : Int) = 0 by decide)) | (exact absurd h (by assumption))
      have := key (s.size + 1) 0 [] (by rw [hr'])
      rw [hr'] at this; exact this
    subst hp
    exact ⟨L, by rw [hr, h3, List.nil_append], h4, by omega⟩
  · right
    obtain ⟨l, c, p⟩ := r
    simp only at h1 h2
    subst h2
    exact ⟨c, p, hr, h1⟩
end Go.Proofs.Ytlpoahjgonjelaa
