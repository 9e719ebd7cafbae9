/- The lexer said without Go, more: words, signs, suffixes, letters, numbers. -/
import Derived.Test.YtlpoahjgonjelaaLexM
namespace Go.Proofs.Ytlpoahjgonjelaa.Lx
open Go.RowKit
set_option linter.unusedVariables false

/-- A word of the language. -/
def wordB (t : ByteArray) : Bool :=
  (t.toList == [118, 111, 105, 100]) || (t.toList == [99, 104, 97, 114]) || (t.toList == [115, 104, 111, 114, 116]) || (t.toList == [105, 110, 116]) || (t.toList == [108, 111, 110, 103]) || (t.toList == [117, 110, 115, 105, 103, 110, 101, 100]) || (t.toList == [115, 116, 114, 117, 99, 116]) || (t.toList == [116, 121, 112, 101, 100, 101, 102])
    || (t.toList == [105, 102]) || (t.toList == [101, 108, 115, 101]) || (t.toList == [119, 104, 105, 108, 101]) || (t.toList == [100, 111]) || (t.toList == [102, 111, 114]) || (t.toList == [115, 119, 105, 116, 99, 104]) || (t.toList == [99, 97, 115, 101]) || (t.toList == [100, 101, 102, 97, 117, 108, 116])
    || (t.toList == [98, 114, 101, 97, 107]) || (t.toList == [99, 111, 110, 116, 105, 110, 117, 101]) || (t.toList == [114, 101, 116, 117, 114, 110]) || (t.toList == [103, 111, 116, 111]) || (t.toList == [115, 105, 122, 101, 111, 102])
/-- How many bytes the longest sign has that these three bytes begin; 0: none. -/
def signM (c d e : Int) : Nat :=
  if c = 60 ∨ c = 62 then (if d = c ∧ e = 61 then 3 else if d = c ∨ d = 61 then 2 else 1)
  else if c = 45 then (if d = 61 ∨ d = 62 then 2 else 1)
  else if c = 38 ∨ c = 124 then (if d = 61 ∨ d = c then 2 else 1)
  else if c = 43 ∨ c = 42 ∨ c = 47 ∨ c = 37 ∨ c = 94 ∨ c = 61 ∨ c = 33 then (if d = 61 then 2 else 1)
  else if c = 126 ∨ c = 40 ∨ c = 41 ∨ c = 91 ∨ c = 93 ∨ c = 123 ∨ c = 125 ∨ c = 44 ∨ c = 59 ∨ c = 58 ∨ c = 63 ∨ c = 46 then 1 else 0
theorem signM_le (c d e : Int) : signM c d e ≤ 3 := by
  unfold signM; (repeat' split) <;> omega
def sufLen (s : ByteArray) (k : Nat) : Nat := if pk s k = 117 then (if pk s (k + 1) = 108 then 2 else 1) else if pk s k = 108 then 1 else 0
def sufStr (s : ByteArray) (k : Nat) : ByteArray := if pk s k = 117 then (if pk s (k + 1) = 108 then ⟨#[117, 108]⟩ else ⟨#[117]⟩) else if pk s k = 108 then ⟨#[108]⟩ else ⟨#[]⟩
theorem sufLen_le {s : ByteArray} {k : Nat} (hk : k ≤ s.size) : k + sufLen s k ≤ s.size := by
  unfold sufLen
  split
  · next h =>
    have := pk_in (s := s) (i := k) (by rw [h]; decide)
    split
    · next h1 => have := pk_in (s := s) (i := k + 1) (by rw [h1]; decide); omega
    · omega
  · split
    · next h => have := pk_in (s := s) (i := k) (by rw [h]; decide); omega
    · omega
/-- The letter between quotes: what is wrong (0: nothing), how many bytes, its number. -/
def chM (s : ByteArray) (i : Nat) : Int × Nat × Int :=
  if pk s (i + 1) = 92 then
    if pk s (i + 2) = 110 ∨ pk s (i + 2) = 48 ∨ pk s (i + 2) = 92 ∨ pk s (i + 2) = 39 then
      if pk s (i + 3) = 39 then (0, 4, if pk s (i + 2) = 110 then 10 else if pk s (i + 2) = 48 then 0 else pk s (i + 2)) else (3, 0, 0)
    else (3, 0, 0)
  else if pk s (i + 1) < 32 ∨ 126 < pk s (i + 1) ∨ pk s (i + 1) = 39 then (3, 0, 0)
  else if pk s (i + 2) = 39 then (0, 3, pk s (i + 1)) else (3, 0, 0)
/-- A row of digits: where it ends, its number, whether it is one of 64 bits. -/
def digs (s : ByteArray) (b : Int) : Nat → Nat → Int → Bool → Nat × Int × Bool
  | 0, k, n, ok => (k, n, ok)
  | f + 1, k, n, ok => if 0 ≤ valB b (pk s k) then digs s b f (k + 1) ((n * b + valB b (pk s k)) % 18446744073709551616) (ok && decide (n ≤ (18446744073709551615 - valB b (pk s k)) / b)) else (k, n, ok)
theorem digs_yes {s : ByteArray} {b : Int} {f k : Nat} {n : Int} {ok : Bool} (h : 0 ≤ valB b (pk s k)) :
    digs s b (f + 1) k n ok = digs s b f (k + 1) ((n * b + valB b (pk s k)) % 18446744073709551616) (ok && decide (n ≤ (18446744073709551615 - valB b (pk s k)) / b)) := by rw [digs, if_pos h]
theorem digs_no {s : ByteArray} {b : Int} {f k : Nat} {n : Int} {ok : Bool} (h : ¬ 0 ≤ valB b (pk s k)) : digs s b f k n ok = (k, n, ok) := by
  cases f
  · rfl
  · rw [digs, if_neg h]
theorem valB_in {s : ByteArray} {b : Int} {k : Nat} (h : 0 ≤ valB b (pk s k)) : k < s.size := by
  by_cases h' : k < s.size
  · exact h'
  · rw [pk_ge h'] at h
    have : valB b 0 = -1 := by unfold valB digB; rw [if_neg (by decide), if_neg (by omega), if_neg (by omega)]
    rw [this] at h; exact absurd h (by decide)
theorem digs_bd {s : ByteArray} {b : Int} (f k : Nat) (n : Int) (ok : Bool) (hn : 0 ≤ n ∧ n ≤ 18446744073709551615) (hk : k ≤ s.size) :
    k ≤ (digs s b f k n ok).1 ∧ (digs s b f k n ok).1 ≤ s.size ∧ 0 ≤ (digs s b f k n ok).2.1 ∧ (digs s b f k n ok).2.1 ≤ 18446744073709551615 := by
  induction f generalizing k n ok with
  | zero => exact ⟨Nat.le_refl _, hk, hn.1, hn.2⟩
  | succ f ih =>
    rw [digs]
    split
    · next h =>
      have h1 := valB_in h
      have := ih (k + 1) ((n * b + valB b (pk s k)) % 18446744073709551616) (ok && decide (n ≤ (18446744073709551615 - valB b (pk s k)) / b)) (by omega) (by omega)
      exact ⟨by omega, this.2⟩
    · exact ⟨Nat.le_refl _, hk, hn.1, hn.2⟩
/-- What digits reads. A decimal 0 stands alone. -/
def digM (s : ByteArray) (b : Int) (k : Nat) : Nat × Int × Bool := if b = 10 ∧ pk s k = 48 then (k + 1, 0, true) else digs s b s.size k 0 true
theorem digM_bd {s : ByteArray} {b : Int} {k : Nat} (hk : k ≤ s.size) : k ≤ (digM s b k).1 ∧ (digM s b k).1 ≤ s.size ∧ 0 ≤ (digM s b k).2.1 ∧ (digM s b k).2.1 ≤ 18446744073709551615 := by
  unfold digM
  split
  · next h => have := pk_in (s := s) (i := k) (by rw [h.2]; decide); exact ⟨by show k ≤ k + 1; omega, by show k + 1 ≤ _; omega, Int.le_refl _, by show (0 : Int) ≤ _; decide⟩
  · exact digs_bd _ _ _ _ ⟨by decide, by decide⟩ hk
/-- A name: what is wrong, its kind. -/
def nameM (s : ByteArray) (i e : Nat) : Int × Int := if 30 < e - i then (6, 0) else if wordB (s.extract i e) = true then (0, 2) else (0, 1)
theorem nameEnd_bd {s : ByteArray} {i : Nat} (hi : i ≤ s.size) : i ≤ nameEnd s i ∧ nameEnd s i ≤ s.size :=
  ⟨scan_ge _ _ _, scan_le _ _ _ _ hi (fun k hk => nameP_ge s k hk)⟩
/-- Where a number ends, with its suffix; what is wrong with it. -/
def nEnd (s : ByteArray) (b : Int) (k : Nat) : Nat := (digM s b k).1 + sufLen s (digM s b k).1
def nCode (s : ByteArray) (b : Int) (k : Nat) : Int := if inB (pk s (nEnd s b k)) = true then 3 else if (digM s b k).2.2 = true then 0 else 6
/-- What a part of the scanner answers: what is wrong, where it stands, the token. -/
structure NumR where
  code : Int
  j : Nat
  kind : Int
  suf : ByteArray
  num : Int
  hex : Bool
def bad (code : Int) (j : Nat) : NumR := ⟨code, j, 0, ⟨#[]⟩, 0, false⟩
def tailM (s : ByteArray) (b : Int) (k : Nat) (hex : Bool) : NumR := if nCode s b k = 0 then ⟨0, nEnd s b k, 3, sufStr s (digM s b k).1, (digM s b k).2.1, hex⟩ else bad (nCode s b k) (nEnd s b k)
def numberM (s : ByteArray) (i : Nat) : NumR :=
  if pk s i = 48 ∧ pk s (i + 1) = 120 then (if valB 16 (pk s (i + 2)) < 0 then bad 3 (i + 2) else tailM s 16 (i + 2) true) else tailM s 10 i false
def chK (s : ByteArray) (i : Nat) : Int := if (chM s i).1 = 0 then 4 else 0
/-- The token that begins at a place: what is wrong, where it ends, the token. -/
def tokenM (s : ByteArray) (i : Nat) : NumR :=
  if letB (pk s i) = true then ⟨(nameM s i (nameEnd s i)).1, nameEnd s i, (nameM s i (nameEnd s i)).2, ⟨#[]⟩, 0, false⟩
  else if digB (pk s i) = true then numberM s i
  else if pk s i = 39 then ⟨(chM s i).1, i + (chM s i).2.1, chK s i, ⟨#[]⟩, (chM s i).2.2, false⟩
  else if signM (pk s i) (pk s (i + 1)) (pk s (i + 2)) = 0 then bad 3 i else ⟨0, i + signM (pk s i) (pk s (i + 1)) (pk s (i + 2)), 5, ⟨#[]⟩, 0, false⟩
end Go.Proofs.Ytlpoahjgonjelaa.Lx
