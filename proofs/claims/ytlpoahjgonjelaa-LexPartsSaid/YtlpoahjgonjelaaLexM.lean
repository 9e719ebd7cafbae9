/- The lexer said without Go: what a text is taken apart to. -/
import Derived.WalkKit
namespace Go.Proofs.Ytlpoahjgonjelaa.Lx
open Go.RowKit
set_option linter.unusedVariables false

/-- The byte of a text; 0 behind its end. -/
def pk (s : ByteArray) (i : Nat) : Int := if h : i < s.size then (s[i].toNat : Int) else 0
theorem pk_lt {s : ByteArray} {i : Nat} (h : i < s.size) : pk s i = (s[i].toNat : Int) := dif_pos h
theorem pk_ge {s : ByteArray} {i : Nat} (h : ¬ i < s.size) : pk s i = 0 := dif_neg h
theorem pk_bd (s : ByteArray) (i : Nat) : 0 ≤ pk s i ∧ pk s i ≤ 255 := by
  unfold pk
  split
  · have := s[i].toNat_lt; omega
  · decide
theorem pk_in {s : ByteArray} {i : Nat} (h : pk s i ≠ 0) : i < s.size := by
  by_cases h' : i < s.size
  · exact h'
  · exact absurd (pk_ge h') h

def digB (c : Int) : Bool := decide (48 ≤ c ∧ c ≤ 57)
def letB (c : Int) : Bool := decide (97 ≤ c ∧ c ≤ 122 ∨ 65 ≤ c ∧ c ≤ 90 ∨ c = 95)
def inB (c : Int) : Bool := letB c || digB c
def blankB (c : Int) : Bool := decide (c = 32 ∨ c = 9 ∨ c = 10 ∨ c = 13)
/-- What a digit of a base counts; -1: it is none. -/
def valB (base c : Int) : Int :=
  if digB c = true then c - 48 else if base = 16 ∧ 97 ≤ c ∧ c ≤ 102 then c - 87 else if base = 16 ∧ 65 ≤ c ∧ c ≤ 70 then c - 55 else -1
theorem digB_iff (c : Int) : digB c = true ↔ 48 ≤ c ∧ c ≤ 57 := by unfold digB; exact decide_eq_true_iff
theorem letB_iff (c : Int) : letB c = true ↔ (97 ≤ c ∧ c ≤ 122 ∨ 65 ≤ c ∧ c ≤ 90 ∨ c = 95) := by unfold letB; exact decide_eq_true_iff
theorem blankB_iff (c : Int) : blankB c = true ↔ (c = 32 ∨ c = 9 ∨ c = 10 ∨ c = 13) := by unfold blankB; exact decide_eq_true_iff
theorem inB_iff (c : Int) : inB c = true ↔ (letB c = true ∨ digB c = true) := by unfold inB; exact Bool.or_eq_true _ _ |>.to_iff
theorem valB_bd (base c : Int) : -1 ≤ valB base c ∧ valB base c ≤ 15 := by
  unfold valB
  by_cases h : digB c = true
  · rw [if_pos h]; rw [digB_iff] at h; omega
  · rw [if_neg h]; split <;> (try split) <;> omega

/-- The first place from i on where p does not hold. -/
def scan (p : Nat → Bool) : Nat → Nat → Nat
  | 0, i => i
  | f + 1, i => if p i = true then scan p f (i + 1) else i
theorem scan_yes {p : Nat → Bool} {f i : Nat} (h : p i = true) : scan p (f + 1) i = scan p f (i + 1) := by rw [scan, if_pos h]
theorem scan_no {p : Nat → Bool} {f i : Nat} (h : p i = false) : scan p f i = i := by
  cases f
  · rfl
  · rw [scan, if_neg (by rw [h]; decide)]
theorem scan_ge (p : Nat → Bool) (f i : Nat) : i ≤ scan p f i := by
  induction f generalizing i with
  | zero => exact Nat.le_refl _
  | succ f ih =>
    rw [scan]
    split
    · exact Nat.le_trans (Nat.le_succ _) (ih _)
    · exact Nat.le_refl _
/-- All that is gone over holds. -/
theorem scan_all (p : Nat → Bool) (f i k : Nat) (h : i ≤ k) (hk : k < scan p f i) : p k = true := by
  induction f generalizing i with
  | zero => simp [scan] at hk; omega
  | succ f ih =>
    rw [scan] at hk
    by_cases hp : p i = true
    · rw [if_pos hp] at hk
      by_cases he : k = i
      · rw [he]; exact hp
      · exact ih (i + 1) (by omega) hk
    · rw [if_neg hp] at hk; omega
/-- Where it stands it does not hold, if there was fuel. -/
theorem scan_end (p : Nat → Bool) (n f i : Nat) (hf : n ≤ i + f) (hp : ∀ k, n ≤ k → p k = false) : p (scan p f i) = false := by
  induction f generalizing i with
  | zero => exact hp i (by omega)
  | succ f ih =>
    rw [scan]
    by_cases h : p i = true
    · rw [if_pos h]; exact ih (i + 1) (by omega)
    · rw [if_neg h]; simpa using h
theorem scan_le (p : Nat → Bool) (n f i : Nat) (hi : i ≤ n) (hp : ∀ k, n ≤ k → p k = false) : scan p f i ≤ n := by
  by_cases h : scan p f i ≤ n
  · exact h
  · have := scan_all p f i n hi (by omega)
    rw [hp n (Nat.le_refl _)] at this; cases this

def lineP (s : ByteArray) (k : Nat) : Bool := decide (k < s.size) && !(pk s k == 10) && !(pk s k == 13)
def blockP (s : ByteArray) (k : Nat) : Bool := decide (k + 1 < s.size) && !(pk s k == 42 && pk s (k + 1) == 47)
def nameP (s : ByteArray) (k : Nat) : Bool := inB (pk s k)
def lineEnd (s : ByteArray) (i : Nat) : Nat := scan (lineP s) s.size i
def blockEnd (s : ByteArray) (i : Nat) : Nat := scan (blockP s) s.size i
def nameEnd (s : ByteArray) (i : Nat) : Nat := scan (nameP s) s.size i
theorem lineP_ge (s : ByteArray) (k : Nat) (h : s.size ≤ k) : lineP s k = false := by unfold lineP; rw [decide_eq_false (by omega)]; rfl
theorem blockP_ge (s : ByteArray) (k : Nat) (h : s.size ≤ k + 1) : blockP s k = false := by unfold blockP; rw [decide_eq_false (by omega)]; rfl
theorem nameP_ge (s : ByteArray) (k : Nat) (h : s.size ≤ k) : nameP s k = false := by unfold nameP; rw [pk_ge (by omega)]; rfl

/-- What is between tokens: where it ends; false: a comment that begins there does not. -/
def gap (s : ByteArray) : Nat → Nat → Nat × Bool
  | 0, i => (i, true)
  | f + 1, i =>
    if i < s.size then
      if blankB (pk s i) = true then gap s f (i + 1)
      else if pk s i = 47 ∧ pk s (i + 1) = 47 then gap s f (lineEnd s i)
      else if pk s i = 47 ∧ pk s (i + 1) = 42 then
        if blockEnd s (i + 2) + 1 < s.size then gap s f (blockEnd s (i + 2) + 2) else (i, false)
      else (i, true)
    else (i, true)
theorem gap_end {s : ByteArray} {f i : Nat} (h : ¬ i < s.size) : gap s f i = (i, true) := by
  cases f
  · rfl
  · rw [gap, if_neg h]
theorem gap_blank {s : ByteArray} {f i : Nat} (h : i < s.size) (hb : blankB (pk s i) = true) : gap s (f + 1) i = gap s f (i + 1) := by rw [gap, if_pos h, if_pos hb]
theorem gap_line {s : ByteArray} {f i : Nat} (h : i < s.size) (h1 : pk s i = 47) (h2 : pk s (i + 1) = 47) : gap s (f + 1) i = gap s f (lineEnd s i) := by
  rw [gap, if_pos h, if_neg (by rw [h1]; decide), if_pos ⟨h1, h2⟩]
theorem gap_block {s : ByteArray} {f i : Nat} (h : i < s.size) (h1 : pk s i = 47) (h2 : pk s (i + 1) = 42) :
    gap s (f + 1) i = if blockEnd s (i + 2) + 1 < s.size then gap s f (blockEnd s (i + 2) + 2) else (i, false) := by
  rw [gap, if_pos h, if_neg (by rw [h1]; decide), if_neg (by rw [h2]; omega), if_pos ⟨h1, h2⟩]
theorem gap_stop {s : ByteArray} {f i : Nat} (hb : blankB (pk s i) = false) (h1 : ¬ (pk s i = 47 ∧ pk s (i + 1) = 47)) (h2 : ¬ (pk s i = 47 ∧ pk s (i + 1) = 42)) : gap s f i = (i, true) := by
  cases f
  · rfl
  · by_cases h0 : i < s.size
    · rw [gap, if_pos h0, if_neg (by rw [hb]; decide), if_neg h1, if_neg h2]
    · exact gap_end h0
theorem lineEnd_gt {s : ByteArray} {i : Nat} (h : i < s.size) (h1 : pk s i = 47) : i < lineEnd s i := by
  have hp : lineP s i = true := by unfold lineP; rw [decide_eq_true h, h1]; rfl
  unfold lineEnd
  cases hs : s.size with
  | zero => omega
  | succ n => rw [scan_yes hp]; exact Nat.lt_of_lt_of_le (Nat.lt_succ_self _) (scan_ge _ _ _)
theorem lineEnd_le {s : ByteArray} {i : Nat} (h : i ≤ s.size) : lineEnd s i ≤ s.size := scan_le _ _ _ _ h (fun k hk => lineP_ge s k hk)
theorem blockEnd_ge (s : ByteArray) (i : Nat) : i ≤ blockEnd s i := scan_ge _ _ _
/-- Where skipBlock leaves the scanner, behind a comment's two first bytes. -/
def blockAt (s : ByteArray) (b : Nat) : Nat := if b + 1 < s.size then b + 2 else b
theorem blockAt_yes {s : ByteArray} {b : Nat} (h : b + 1 < s.size) : blockAt s b = b + 2 := if_pos h
theorem blockAt_no {s : ByteArray} {b : Nat} (h : ¬ b + 1 < s.size) : blockAt s b = b := if_neg h
theorem gap_bd {s : ByteArray} (f i : Nat) (h : i ≤ s.size) : i ≤ (gap s f i).1 ∧ (gap s f i).1 ≤ s.size := by
  induction f generalizing i with
  | zero => exact ⟨Nat.le_refl _, h⟩
  | succ f ih =>
    rw [gap]
    split
    · next h0 =>
      split
      · have := ih (i + 1) (by omega); exact ⟨by omega, this.2⟩
      · split
        · next h1 => have := ih _ (lineEnd_le h); exact ⟨by have := lineEnd_gt h0 h1.1; omega, this.2⟩
        · split
          · split
            · have h3 := blockEnd_ge s (i + 2); have := ih (blockEnd s (i + 2) + 2) (by omega); exact ⟨by omega, this.2⟩
            · exact ⟨Nat.le_refl _, h⟩
          · exact ⟨Nat.le_refl _, h⟩
    · exact ⟨Nat.le_refl _, h⟩
end Go.Proofs.Ytlpoahjgonjelaa.Lx
