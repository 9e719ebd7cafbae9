/- The lexer said without Go: tokens of a whole text. -/
import Derived.Test.YtlpoahjgonjelaaLexM2
namespace Go.Proofs.Ytlpoahjgonjelaa.Lx
open Go.RowKit
set_option linter.unusedVariables false

structure Tk where
  kind : Int
  at_ : Nat
  text : ByteArray
  suf : ByteArray
  num : Int
  hex : Bool
def Tk.cells (t : Tk) : List Value := [.int .i64 t.kind, .int .i64 (t.at_ : Int), .string t.text, .string t.suf, .int .u64 t.num, .bool t.hex]
def rowOf (l : List Tk) : List Value := l.flatMap Tk.cells
theorem rowOf_snoc (l : List Tk) (t : Tk) : rowOf (l ++ [t]) = rowOf l ++ t.cells := by unfold rowOf; rw [List.flatMap_append]; simp
/-- Tokens and what is wrong. -/
structure TkR where
  l : List Tk
  code : Int
  pos : Int
def tkOf (s : ByteArray) (i : Nat) (t : NumR) : Tk := ⟨t.kind, i, s.extract i t.j, t.suf, t.num, t.hex⟩
def toksM (s : ByteArray) : Nat → Nat → List Tk → TkR
  | 0, _, acc => ⟨acc, 0, 0⟩
  | f + 1, i, acc =>
    if (gap s s.size i).2 = false then ⟨[], 3, ((gap s s.size i).1 : Int)⟩
    else if (gap s s.size i).1 = s.size then ⟨acc, 0, 0⟩
    else if (tokenM s (gap s s.size i).1).code ≠ 0 then ⟨[], (tokenM s (gap s s.size i).1).code, ((gap s s.size i).1 : Int)⟩
    else if acc.length = 6000 then ⟨[], 6, ((gap s s.size i).1 : Int)⟩
    else toksM s f (tokenM s (gap s s.size i).1).j (acc ++ [tkOf s (gap s s.size i).1 (tokenM s (gap s s.size i).1)])
def tokensM (s : ByteArray) : TkR := if 20000 < s.size then ⟨[], 6, 0⟩ else toksM s (s.size + 1) 0 []
section
variable {s : ByteArray} {f i g : Nat} {acc : List Tk}
theorem toks_bad (h : gap s s.size i = (g, false)) : toksM s (f + 1) i acc = ⟨[], 3, (g : Int)⟩ := by rw [toksM, h]; rfl
theorem toks_end (h : gap s s.size i = (g, true)) (hg : g = s.size) : toksM s (f + 1) i acc = ⟨acc, 0, 0⟩ := by rw [toksM, h, if_neg (by simp), if_pos hg]
theorem toks_wrong (h : gap s s.size i = (g, true)) (hg : g ≠ s.size) (hc : (tokenM s g).code ≠ 0) : toksM s (f + 1) i acc = ⟨[], (tokenM s g).code, (g : Int)⟩ := by
  rw [toksM, h, if_neg (by simp), if_neg hg, if_pos hc]
theorem toks_many (h : gap s s.size i = (g, true)) (hg : g ≠ s.size) (hc : (tokenM s g).code = 0) (hn : acc.length = 6000) : toksM s (f + 1) i acc = ⟨[], 6, (g : Int)⟩ := by
  rw [toksM, h, if_neg (by simp), if_neg hg, if_neg (by rw [hc]; simp), if_pos hn]
theorem toks_more (h : gap s s.size i = (g, true)) (hg : g ≠ s.size) (hc : (tokenM s g).code = 0) (hn : acc.length ≠ 6000) :
    toksM s (f + 1) i acc = toksM s f (tokenM s g).j (acc ++ [tkOf s g (tokenM s g)]) := by
  rw [toksM, h, if_neg (by simp), if_neg hg, if_neg (by rw [hc]; simp), if_neg hn]
end
theorem sufLen_le2 (s : ByteArray) (k : Nat) : sufLen s k ≤ 2 := by unfold sufLen; (repeat' split) <;> omega
theorem nEnd_bd {s : ByteArray} {b : Int} {k : Nat} (hk : k ≤ s.size) : k ≤ nEnd s b k ∧ nEnd s b k ≤ s.size := by
  have := digM_bd (b := b) hk
  unfold nEnd
  exact ⟨by omega, sufLen_le this.2.1⟩
theorem digs_gt {s : ByteArray} {b : Int} {k : Nat} {n : Int} {ok : Bool} (hk : k < s.size) (h : 0 ≤ valB b (pk s k)) (hn : 0 ≤ n ∧ n ≤ 18446744073709551615) : k < (digs s b s.size k n ok).1 := by
  cases hs : s.size with
  | zero => omega
  | succ f =>
    rw [digs_yes h]
    have := digs_bd (s := s) (b := b) f (k + 1) ((n * b + valB b (pk s k)) % 18446744073709551616) (ok && decide (n ≤ (18446744073709551615 - valB b (pk s k)) / b)) (by omega) (by omega)
    omega
/-- A token that is right has bytes, and ends within the text; its number is one of 64 bits. -/
theorem tokenM_bd {s : ByteArray} {i : Nat} (hi : i < s.size) : ((tokenM s i).code = 0 → i < (tokenM s i).j) ∧ (tokenM s i).j ≤ s.size ∧ (0 ≤ (tokenM s i).num ∧ (tokenM s i).num ≤ 18446744073709551615) ∧ (0 ≤ (tokenM s i).code ∧ (tokenM s i).code ≤ 6) ∧ (0 ≤ (tokenM s i).kind ∧ (tokenM s i).kind ≤ 5) ∧ (tokenM s i).suf.size ≤ 2 := by
  have N0 : (0 : Int) ≤ 0 ∧ (0 : Int) ≤ 18446744073709551615 := by decide
  have C0 : (0 : Int) ≤ 0 ∧ (0 : Int) ≤ 6 := by decide
  have C3 : (0 : Int) ≤ 3 ∧ (3 : Int) ≤ 6 := by decide
  have C6 : (0 : Int) ≤ 6 ∧ (6 : Int) ≤ 6 := by decide
  have K0 : (0 : Int) ≤ 0 ∧ (0 : Int) ≤ 5 := by decide
  have K1 : (0 : Int) ≤ 1 ∧ (1 : Int) ≤ 5 := by decide
  have K2 : (0 : Int) ≤ 2 ∧ (2 : Int) ≤ 5 := by decide
  have K3 : (0 : Int) ≤ 3 ∧ (3 : Int) ≤ 5 := by decide
  have K4 : (0 : Int) ≤ 4 ∧ (4 : Int) ≤ 5 := by decide
  have K5 : (0 : Int) ≤ 5 ∧ (5 : Int) ≤ 5 := by decide
  have S0 : (0 : Nat) ≤ 2 := by decide
  have suf2 : ∀ k, (sufStr s k).size ≤ 2 := fun k => by unfold sufStr; (repeat' split) <;> (try exact Nat.le_refl _) <;> (try exact Nat.zero_le _) <;> exact Nat.le_succ _
  have tl : ∀ (b : Int) (k : Nat) (hex : Bool), k ≤ s.size → (i < nEnd s b k ∨ nCode s b k ≠ 0) → (((tailM s b k hex).code = 0 → i < (tailM s b k hex).j) ∧ (tailM s b k hex).j ≤ s.size ∧ (0 ≤ (tailM s b k hex).num ∧ (tailM s b k hex).num ≤ 18446744073709551615) ∧ (0 ≤ (tailM s b k hex).code ∧ (tailM s b k hex).code ≤ 6) ∧ (0 ≤ (tailM s b k hex).kind ∧ (tailM s b k hex).kind ≤ 5) ∧ (tailM s b k hex).suf.size ≤ 2) := fun b k hex hk hgt => by
    have h1 := nEnd_bd (b := b) hk
    have h2 := digM_bd (b := b) hk
    unfold tailM
    by_cases hc : nCode s b k = 0
    · rw [if_pos hc]
      exact ⟨fun _ => hgt.resolve_right (fun h => h hc), h1.2, h2.2.2, C0, K3, suf2 _⟩
    · rw [if_neg hc]
      refine ⟨fun h => absurd h hc, h1.2, N0, ?_, K0, S0⟩
      show 0 ≤ nCode s b k ∧ nCode s b k ≤ 6
      unfold nCode; (repeat' split) <;> first | exact C0 | exact C3 | exact C6
  unfold tokenM
  split
  · next hL =>
    have hb := nameEnd_bd (s := s) (i := i) (by omega)
    have hgt : i < nameEnd s i := by
      have hp : nameP s i = true := by unfold nameP inB; rw [hL]; rfl
      unfold nameEnd
      cases hs : s.size with
      | zero => omega
      | succ n => rw [scan_yes hp]; exact Nat.lt_of_lt_of_le (Nat.lt_succ_self _) (scan_ge _ _ _)
    refine ⟨fun _ => hgt, hb.2, N0, ?_, ?_, S0⟩
    · show 0 ≤ (nameM s i (nameEnd s i)).1 ∧ _ ≤ (6 : Int); unfold nameM; (repeat' split) <;> first | exact C0 | exact C6
    · show 0 ≤ (nameM s i (nameEnd s i)).2 ∧ _ ≤ (5 : Int); unfold nameM; (repeat' split) <;> first | exact K0 | exact K1 | exact K2
  · split
    · next hD =>
      unfold numberM
      split
      · next hx =>
        have hk : i + 2 ≤ s.size := by have := pk_in (s := s) (i := i + 1) (by rw [hx.2]; decide); omega
        split
        · exact ⟨fun h => absurd h (show ¬ (3 : Int) = 0 by decide), hk, N0, C3, K0, S0⟩
        · refine tl 16 (i + 2) true hk (Or.inl ?_)
          have := nEnd_bd (s := s) (b := 16) hk; omega
      · refine tl 10 i false (by omega) (Or.inl ?_)
        have hv : 0 ≤ valB 10 (pk s i) := by unfold valB; rw [if_pos hD]; have := (digB_iff _).1 hD; omega
        unfold nEnd digM
        split
        · show i < i + 1 + _; omega
        · have := digs_gt (s := s) (b := 10) (n := 0) (ok := true) hi hv ⟨by decide, by decide⟩; omega
    · split
      · have hb := fun k => pk_bd s k
        have h4 : ∀ k, pk s k = 39 → k < s.size := fun k h => pk_in (by rw [h]; decide)
        have c2 := hb (i + 2)
        have c1 := hb (i + 1)
        refine ⟨fun h => ?_, ?_, ?_, ?_, ?_, S0⟩
        · show i < i + (chM s i).2.1
          have h' : (chM s i).1 = 0 := h
          unfold chM at h' ⊢
          revert h'
          (repeat' split) <;> intro h' <;> first | (show i < i + 4; omega) | (show i < i + 3; omega) | exact absurd h' (show ¬ (3 : Int) = 0 by decide)
        · show i + (chM s i).2.1 ≤ s.size
          unfold chM
          (repeat' split) <;> first | (have := h4 (i + 3) (by assumption); show i + 4 ≤ s.size; omega) | (have := h4 (i + 2) (by assumption); show i + 3 ≤ s.size; omega) | (show i + 0 ≤ s.size; omega)
        · show 0 ≤ (chM s i).2.2 ∧ _ ≤ (18446744073709551615 : Int)
          unfold chM
          (repeat' split) <;> first | exact N0 | exact (show (0 : Int) ≤ 10 ∧ (10 : Int) ≤ 18446744073709551615 by decide) | (show 0 ≤ pk s (i + 2) ∧ pk s (i + 2) ≤ 18446744073709551615; omega) | (show 0 ≤ pk s (i + 1) ∧ pk s (i + 1) ≤ 18446744073709551615; omega)
        · show 0 ≤ (chM s i).1 ∧ _ ≤ (6 : Int)
          unfold chM; (repeat' split) <;> first | exact C0 | exact C3
        · show 0 ≤ chK s i ∧ chK s i ≤ 5
          unfold chK; split <;> first | exact K0 | exact K4
      · split
        · exact ⟨fun h => absurd h (show ¬ (3 : Int) = 0 by decide), by show i ≤ _; omega, N0, C3, K0, S0⟩
        · next hn =>
          refine ⟨fun _ => by show i < i + _; omega, ?_, N0, C0, K5, S0⟩
          show i + signM (pk s i) (pk s (i + 1)) (pk s (i + 2)) ≤ s.size
          have g1 : 1 < signM (pk s i) (pk s (i + 1)) (pk s (i + 2)) → pk s (i + 1) ≠ 0 := by
            unfold signM; intro h e; rw [e] at h; revert h
            (repeat' split) <;> intro h <;> omega
          have g2 : 2 < signM (pk s i) (pk s (i + 1)) (pk s (i + 2)) → pk s (i + 2) ≠ 0 := by
            unfold signM; intro h e; rw [e] at h; revert h
            (repeat' split) <;> intro h <;> omega
          have h3 := signM_le (pk s i) (pk s (i + 1)) (pk s (i + 2))
          by_cases h1 : 1 < signM (pk s i) (pk s (i + 1)) (pk s (i + 2))
          · have := pk_in (g1 h1)
            by_cases h2 : 2 < signM (pk s i) (pk s (i + 1)) (pk s (i + 2))
            · have := pk_in (g2 h2); omega
            · omega
          · omega
end Go.Proofs.Ytlpoahjgonjelaa.Lx
