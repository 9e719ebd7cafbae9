/- The plain mathematics of package word and of the document's own answer: integers of widths, with no Go in sight. -/
import Derived.WalkKit
import Derived.Laws.BitsAllLaws
namespace Go.Proofs.YtkiimljdoebclaaDoor.Wd
open Go.RowKit

/-- The table of widths. -/
def tabB (k : Nat) : Int := if k < 2 then 8 else if k < 4 then 16 else if k < 6 then 32 else 64
def tabS (k : Nat) : Bool := k % 2 == 0
/-- A width may be. -/
def may (b : Int) : Bool := b == 8 || b == 16 || b == 32 || b == 64

theorem tab_may (k : Nat) (b : Int) (h : tabB k = b) : may b = true := by
  unfold tabB at h; subst h; unfold may
  split <;> (try split) <;> (try split) <;> decide
theorem may_tab (b : Int) (s : Bool) (h : may b = true) : ∃ k, k < 8 ∧ tabB k = b ∧ tabS k = s := by
  unfold may at h
  simp only [Bool.or_eq_true, beq_iff_eq] at h
  rcases h with ((h | h) | h) | h <;> subst h <;> cases s
  · exact ⟨1, by decide, by decide, by decide⟩
  · exact ⟨0, by decide, by decide, by decide⟩
  · exact ⟨3, by decide, by decide, by decide⟩
  · exact ⟨2, by decide, by decide, by decide⟩
  · exact ⟨5, by decide, by decide, by decide⟩
  · exact ⟨4, by decide, by decide, by decide⟩
  · exact ⟨7, by decide, by decide, by decide⟩
  · exact ⟨6, by decide, by decide, by decide⟩

/-- The middle language's reckoning in 64 bits: is it defined, and what it makes (0, if not). -/
def plainOk (sub a b : Int) : Bool :=
  if sub = 4 ∨ sub = 5 then !(b == 0) && !(a == -9223372036854775808 && b == -1)
  else if sub = 6 ∨ sub = 7 then !(b == 0) else decide (1 ≤ sub ∧ sub ≤ 19)
def plainV (sub a b : Int) : Int :=
  if plainOk sub a b = false then 0
  else if sub = 1 then wrap64 (a + b) else if sub = 2 then wrap64 (a - b) else if sub = 3 then wrap64 (a * b)
  else if sub = 4 then wrap64 (a.tdiv b) else if sub = 5 then a.tmod b
  else if sub = 6 then wrap64 (IntKind.u64.wrap ((IntKind.u64.wrap a).tdiv (IntKind.u64.wrap b)))
  else if sub = 7 then wrap64 ((IntKind.u64.wrap a).tmod (IntKind.u64.wrap b))
  else if sub = 8 then bits BinOp.and IntKind.i64 a b else if sub = 9 then bits BinOp.or IntKind.i64 a b else if sub = 10 then bits BinOp.xor IntKind.i64 a b
  else if sub = 11 then wrap64 (a * 2 ^ (b % 64).toNat) else if sub = 12 then wrap64 (IntKind.u64.wrap a / 2 ^ (b % 64).toNat)
  else if sub = 13 then a / 2 ^ (b % 64).toNat
  else if sub = 14 then (if a = b then 1 else 0) else if sub = 15 then (if a = b then 0 else 1)
  else if sub = 16 then (if a < b then 1 else 0) else if sub = 17 then (if a ≤ b then 1 else 0)
  else if sub = 18 then (if IntKind.u64.wrap a < IntKind.u64.wrap b then 1 else 0)
  else (if IntKind.u64.wrap a ≤ IntKind.u64.wrap b then 1 else 0)

theorem u64_zero (b : Int) (h : -9223372036854775808 ≤ b ∧ b ≤ 9223372036854775807) : IntKind.u64.wrap b = 0 ↔ b = 0 := by
  simp only [IntKind.wrap, IntKind.bits, IntKind.signed]; simp; omega
theorem u64_bd (b : Int) : 0 ≤ IntKind.u64.wrap b ∧ IntKind.u64.wrap b ≤ 18446744073709551615 := by
  simp only [IntKind.wrap, IntKind.bits, IntKind.signed]; simp; omega
theorem u64_and63 (b : Int) : bits BinOp.and IntKind.u64 (IntKind.u64.wrap b) 63 = b % 64 := by
  have h := u64_bd b
  rw [u64_and _ _ h.1 (by omega) (by decide) (by decide)]
  rw [show (63 : Int).toNat = 63 from rfl, nat_mask6]
  simp only [IntKind.wrap, IntKind.bits, IntKind.signed]; simp; omega
theorem u64_mod64 (b : Int) : (IntKind.u64.wrap b).tmod 64 = b % 64 := by
  rw [Int.tmod_eq_emod_of_nonneg (u64_bd b).1]
  simp only [IntKind.wrap, IntKind.bits, IntKind.signed]; simp

/-- The number of a width that n's lowest bits are. -/
def wrap (b : Int) (s : Bool) (n : Int) : Int :=
  if b = 8 then (if s then (n + 128) % 256 - 128 else n % 256)
  else if b = 16 then (if s then (n + 32768) % 65536 - 32768 else n % 65536)
  else if b = 32 then (if s then (n + 2147483648) % 4294967296 - 2147483648 else n % 4294967296)
  else if b = 64 then n else 0
theorem wrap_8t (n : Int) : wrap 8 true n = (n + 128) % 256 - 128 := rfl
theorem wrap_8f (n : Int) : wrap 8 false n = n % 256 := rfl
theorem wrap_16t (n : Int) : wrap 16 true n = (n + 32768) % 65536 - 32768 := rfl
theorem wrap_16f (n : Int) : wrap 16 false n = n % 65536 := rfl
theorem wrap_32t (n : Int) : wrap 32 true n = (n + 2147483648) % 4294967296 - 2147483648 := rfl
theorem wrap_32f (n : Int) : wrap 32 false n = n % 4294967296 := rfl
theorem wrap_64 (s : Bool) (n : Int) : wrap 64 s n = n := rfl
theorem wrap_no (b : Int) (s : Bool) (n : Int) (h : may b = false) : wrap b s n = 0 := by
  unfold may at h
  simp only [Bool.or_eq_false_iff, beq_eq_false_iff_ne] at h
  unfold wrap
  rw [if_neg h.1.1.1, if_neg h.1.1.2, if_neg h.1.2, if_neg h.2]
theorem may_cases (b : Int) : b = 8 ∨ b = 16 ∨ b = 32 ∨ b = 64 ∨ may b = false := by
  by_cases h : may b = true
  · unfold may at h
    simp only [Bool.or_eq_true, beq_iff_eq] at h
    rcases h with ((h | h) | h) | h <;> simp [h]
  · simp at h; simp [h]
theorem wrap_bd (b : Int) (s : Bool) (n : Int) (h : -9223372036854775808 ≤ n ∧ n ≤ 9223372036854775807) : -9223372036854775808 ≤ wrap b s n ∧ wrap b s n ≤ 9223372036854775807 := by
  unfold wrap
  split
  · split <;> omega
  · split
    · split <;> omega
    · split
      · split <;> omega
      · split <;> omega
/- The walks' own forms. -/
theorem k8t (n : Int) : wrap64 (IntKind.i8.wrap n) = wrap 8 true n := by
  rw [wrap_8t]; simp only [IntKind.wrap, IntKind.bits, IntKind.signed, wrap64]; simp; omega
theorem k8f (n : Int) : n % 256 = wrap 8 false n := rfl
theorem k16t (n : Int) : wrap64 (IntKind.i16.wrap n) = wrap 16 true n := by
  rw [wrap_16t]; simp only [IntKind.wrap, IntKind.bits, IntKind.signed, wrap64]; simp; omega
theorem k16f (n : Int) : wrap64 (IntKind.u16.wrap n) = wrap 16 false n := by
  rw [wrap_16f]; simp only [IntKind.wrap, IntKind.bits, IntKind.signed, wrap64]; simp; omega
theorem k32t (n : Int) : wrap64 (wrap32 n) = wrap 32 true n := by
  rw [wrap_32t]; unfold wrap64 wrap32; omega
theorem r8t (n : Int) : wrap64 (n * 72057594037927936) / 72057594037927936 = wrap 8 true n := by rw [wrap_8t]; unfold wrap64; omega
theorem r8f (n : Int) : wrap64 (IntKind.u64.wrap (IntKind.u64.wrap n * 72057594037927936) / 72057594037927936) = wrap 8 false n := by
  rw [wrap_8f]; simp only [IntKind.wrap, IntKind.bits, IntKind.signed, wrap64]; simp; omega
theorem r16t (n : Int) : wrap64 (n * 281474976710656) / 281474976710656 = wrap 16 true n := by rw [wrap_16t]; unfold wrap64; omega
theorem r16f (n : Int) : wrap64 (IntKind.u64.wrap (IntKind.u64.wrap n * 281474976710656) / 281474976710656) = wrap 16 false n := by
  rw [wrap_16f]; simp only [IntKind.wrap, IntKind.bits, IntKind.signed, wrap64]; simp; omega
theorem r32t (n : Int) : wrap64 (n * 4294967296) / 4294967296 = wrap 32 true n := by rw [wrap_32t]; unfold wrap64; omega
theorem r32f (n : Int) : wrap64 (IntKind.u64.wrap (IntKind.u64.wrap n * 4294967296) / 4294967296) = wrap 32 false n := by
  rw [wrap_32f]; simp only [IntKind.wrap, IntKind.bits, IntKind.signed, wrap64]; simp; omega
theorem r64f (n : Int) (h : -9223372036854775808 ≤ n ∧ n ≤ 9223372036854775807) : wrap64 (IntKind.u64.wrap (IntKind.u64.wrap n)) = wrap 64 false n := by
  rw [wrap_64]; simp only [IntKind.wrap, IntKind.bits, IntKind.signed, wrap64]; simp; omega

end Go.Proofs.YtkiimljdoebclaaDoor.Wd
