/- What the laws on word share, without Go: bits of a number. -/
import Derived.Test.YtmappfpolbkbcaaDoorWordSpecB
import Derived.Laws.Bits128
namespace Go.Proofs.YtmappfpolbkbcaaDoor.Wd
open Go.RowKit
theorem and1 (x : Int) : bits BinOp.and IntKind.i64 x 1 = 0 ∨ bits BinOp.and IntKind.i64 x 1 = 1 := by
  have e : (BitVec.ofInt 64 x &&& BitVec.ofInt 64 1).toNat = (BitVec.ofInt 64 x).toNat % 2 := by
    rw [BitVec.toNat_and, show (BitVec.ofInt 64 1).toNat = 1 from by decide, nat_mask1]
  show IntKind.i64.wrap ((BitVec.ofInt 64 x &&& BitVec.ofInt 64 1).toNat : Nat) = 0 ∨ IntKind.i64.wrap ((BitVec.ofInt 64 x &&& BitVec.ofInt 64 1).toNat : Nat) = 1
  rw [e]
  have : (BitVec.ofInt 64 x).toNat % 2 = 0 ∨ (BitVec.ofInt 64 x).toNat % 2 = 1 := by omega
  rcases this with h | h <;> rw [h]
  · left; decide
  · right; decide
theorem and2 (x : Int) : bits BinOp.and IntKind.i64 x 2 = 0 ∨ bits BinOp.and IntKind.i64 x 2 = 2 := by
  have e : (BitVec.ofInt 64 x &&& BitVec.ofInt 64 2).toNat = (BitVec.ofInt 64 x).toNat / 2 ^ 1 % 2 * 2 ^ 1 := by
    rw [BitVec.toNat_and, show (BitVec.ofInt 64 2).toNat = 2 ^ 1 from by decide, nat_bit]
  show IntKind.i64.wrap ((BitVec.ofInt 64 x &&& BitVec.ofInt 64 2).toNat : Nat) = 0 ∨ IntKind.i64.wrap ((BitVec.ofInt 64 x &&& BitVec.ofInt 64 2).toNat : Nat) = 2
  rw [e]
  have : (BitVec.ofInt 64 x).toNat / 2 ^ 1 % 2 = 0 ∨ (BitVec.ofInt 64 x).toNat / 2 ^ 1 % 2 = 1 := by omega
  rcases this with h | h <;> rw [h]
  · left; decide
  · right; decide
end Go.Proofs.YtmappfpolbkbcaaDoor.Wd
