import Derived.Test.YtflbkdfbjofllaaGreatDoorSyPkQ
set_option maxRecDepth 100000
set_option maxHeartbeats 25600000
set_option linter.unusedSimpArgs false
set_option linter.unusedVariables false
namespace Go.Proofs.YtflbkdfbjofllaaGreatDoor
open Go.RowKit Lx
namespace Sy
def signs : List ByteArray := [⟨#[124, 124]⟩, ⟨#[38, 38]⟩, ⟨#[124]⟩, ⟨#[94]⟩, ⟨#[38]⟩, ⟨#[61, 61]⟩, ⟨#[60]⟩, ⟨#[60, 60]⟩, ⟨#[43]⟩, ⟨#[42]⟩]
def signAt (k : Nat) : ByteArray := signs.getD k nt
def kindOf (s : ByteArray) : ByteArray := if s.toList == [124, 124] then ⟨#[111, 114]⟩ else if s.toList == [38, 38] then ⟨#[97, 110, 100]⟩ else ⟨#[98, 105, 110, 32]⟩ ++ s
def textB (p q : ByteArray) : ByteArray := ⟨#[105, 110, 116, 32, 120, 32, 61, 32, 97, 32]⟩ ++ p ++ ⟨#[32, 98, 32]⟩ ++ q ++ ⟨#[32, 99, 59]⟩
def wantG (kp kq : ByteArray) : ByteArray := ⟨#[40, 118, 97, 114, 32, 105, 51, 50, 32, 120, 32, 48, 32, 40]⟩ ++ kq ++ ⟨#[32, 40]⟩ ++ kp ++ ⟨#[32, 40, 110, 97, 109, 101, 32, 97, 41, 32, 40, 110, 97, 109, 101, 32, 98, 41, 41, 32, 40, 110, 97, 109, 101, 32, 99, 41, 41, 41, 10]⟩
def wantL (kp kq : ByteArray) : ByteArray := ⟨#[40, 118, 97, 114, 32, 105, 51, 50, 32, 120, 32, 48, 32, 40]⟩ ++ kp ++ ⟨#[32, 40, 110, 97, 109, 101, 32, 97, 41, 32, 40]⟩ ++ kq ++ ⟨#[32, 40, 110, 97, 109, 101, 32, 98, 41, 32, 40, 110, 97, 109, 101, 32, 99, 41, 41, 41, 41, 10]⟩
def BinOk (a b : Nat) : Prop := ∃ T, textB (signAt a) (signAt b) = T ∧ parseOk T = true ∧ dumpM T = (if a < b then wantL (kindOf (signAt a)) (kindOf (signAt b)) else wantG (kindOf (signAt a)) (kindOf (signAt b)), 0, 0)
end Sy
namespace Sy
theorem bn00 : BinOk 0 0 := ⟨⟨#[105, 110, 116, 32, 120, 32, 61, 32, 97, 32, 124, 124, 32, 98, 32, 124, 124, 32, 99, 59]⟩, by kernel_rfl, by kernel_rfl, by kernel_rfl⟩
theorem bn01 : BinOk 0 1 := ⟨⟨#[105, 110, 116, 32, 120, 32, 61, 32, 97, 32, 124, 124, 32, 98, 32, 38, 38, 32, 99, 59]⟩, by kernel_rfl, by kernel_rfl, by kernel_rfl⟩
theorem bn02 : BinOk 0 2 := ⟨⟨#[105, 110, 116, 32, 120, 32, 61, 32, 97, 32, 124, 124, 32, 98, 32, 124, 32, 99, 59]⟩, by kernel_rfl, by kernel_rfl, by kernel_rfl⟩
theorem bn03 : BinOk 0 3 := ⟨⟨#[105, 110, 116, 32, 120, 32, 61, 32, 97, 32, 124, 124, 32, 98, 32, 94, 32, 99, 59]⟩, by kernel_rfl, by kernel_rfl, by kernel_rfl⟩
theorem bn04 : BinOk 0 4 := ⟨⟨#[105, 110, 116, 32, 120, 32, 61, 32, 97, 32, 124, 124, 32, 98, 32, 38, 32, 99, 59]⟩, by kernel_rfl, by kernel_rfl, by kernel_rfl⟩
theorem bn05 : BinOk 0 5 := ⟨⟨#[105, 110, 116, 32, 120, 32, 61, 32, 97, 32, 124, 124, 32, 98, 32, 61, 61, 32, 99, 59]⟩, by kernel_rfl, by kernel_rfl, by kernel_rfl⟩
theorem bn06 : BinOk 0 6 := ⟨⟨#[105, 110, 116, 32, 120, 32, 61, 32, 97, 32, 124, 124, 32, 98, 32, 60, 32, 99, 59]⟩, by kernel_rfl, by kernel_rfl, by kernel_rfl⟩
theorem bn07 : BinOk 0 7 := ⟨⟨#[105, 110, 116, 32, 120, 32, 61, 32, 97, 32, 124, 124, 32, 98, 32, 60, 60, 32, 99, 59]⟩, by kernel_rfl, by kernel_rfl, by kernel_rfl⟩
theorem bn08 : BinOk 0 8 := ⟨⟨#[105, 110, 116, 32, 120, 32, 61, 32, 97, 32, 124, 124, 32, 98, 32, 43, 32, 99, 59]⟩, by kernel_rfl, by kernel_rfl, by kernel_rfl⟩
theorem bn09 : BinOk 0 9 := ⟨⟨#[105, 110, 116, 32, 120, 32, 61, 32, 97, 32, 124, 124, 32, 98, 32, 42, 32, 99, 59]⟩, by kernel_rfl, by kernel_rfl, by kernel_rfl⟩
theorem bin0 (b : Nat) (hb : b < 10) : BinOk 0 b := by
 match b, hb with
 | 0, _ => exact bn00
 | 1, _ => exact bn01
 | 2, _ => exact bn02
 | 3, _ => exact bn03
 | 4, _ => exact bn04
 | 5, _ => exact bn05
 | 6, _ => exact bn06
 | 7, _ => exact bn07
 | 8, _ => exact bn08
 | 9, _ => exact bn09
 | n + 10, h => exact absurd h (by omega)
theorem bn10 : BinOk 1 0 := ⟨⟨#[105, 110, 116, 32, 120, 32, 61, 32, 97, 32, 38, 38, 32, 98, 32, 124, 124, 32, 99, 59]⟩, by kernel_rfl, by kernel_rfl, by kernel_rfl⟩
theorem bn11 : BinOk 1 1 := ⟨⟨#[105, 110, 116, 32, 120, 32, 61, 32, 97, 32, 38, 38, 32, 98, 32, 38, 38, 32, 99, 59]⟩, by kernel_rfl, by kernel_rfl, by kernel_rfl⟩
theorem bn12 : BinOk 1 2 := ⟨⟨#[105, 110, 116, 32, 120, 32, 61, 32, 97, 32, 38, 38, 32, 98, 32, 124, 32, 99, 59]⟩, by kernel_rfl, by kernel_rfl, by kernel_rfl⟩
theorem bn13 : BinOk 1 3 := ⟨⟨#[105, 110, 116, 32, 120, 32, 61, 32, 97, 32, 38, 38, 32, 98, 32, 94, 32, 99, 59]⟩, by kernel_rfl, by kernel_rfl, by kernel_rfl⟩
theorem bn14 : BinOk 1 4 := ⟨⟨#[105, 110, 116, 32, 120, 32, 61, 32, 97, 32, 38, 38, 32, 98, 32, 38, 32, 99, 59]⟩, by kernel_rfl, by kernel_rfl, by kernel_rfl⟩
theorem bn15 : BinOk 1 5 := ⟨⟨#[105, 110, 116, 32, 120, 32, 61, 32, 97, 32, 38, 38, 32, 98, 32, 61, 61, 32, 99, 59]⟩, by kernel_rfl, by kernel_rfl, by kernel_rfl⟩
theorem bn16 : BinOk 1 6 := ⟨⟨#[105, 110, 116, 32, 120, 32, 61, 32, 97, 32, 38, 38, 32, 98, 32, 60, 32, 99, 59]⟩, by kernel_rfl, by kernel_rfl, by kernel_rfl⟩
theorem bn17 : BinOk 1 7 := ⟨⟨#[105, 110, 116, 32, 120, 32, 61, 32, 97, 32, 38, 38, 32, 98, 32, 60, 60, 32, 99, 59]⟩, by kernel_rfl, by kernel_rfl, by kernel_rfl⟩
theorem bn18 : BinOk 1 8 := ⟨⟨#[105, 110, 116, 32, 120, 32, 61, 32, 97, 32, 38, 38, 32, 98, 32, 43, 32, 99, 59]⟩, by kernel_rfl, by kernel_rfl, by kernel_rfl⟩
theorem bn19 : BinOk 1 9 := ⟨⟨#[105, 110, 116, 32, 120, 32, 61, 32, 97, 32, 38, 38, 32, 98, 32, 42, 32, 99, 59]⟩, by kernel_rfl, by kernel_rfl, by kernel_rfl⟩
theorem bin1 (b : Nat) (hb : b < 10) : BinOk 1 b := by
 match b, hb with
 | 0, _ => exact bn10
 | 1, _ => exact bn11
 | 2, _ => exact bn12
 | 3, _ => exact bn13
 | 4, _ => exact bn14
 | 5, _ => exact bn15
 | 6, _ => exact bn16
 | 7, _ => exact bn17
 | 8, _ => exact bn18
 | 9, _ => exact bn19
 | n + 10, h => exact absurd h (by omega)
theorem bn20 : BinOk 2 0 := ⟨⟨#[105, 110, 116, 32, 120, 32, 61, 32, 97, 32, 124, 32, 98, 32, 124, 124, 32, 99, 59]⟩, by kernel_rfl, by kernel_rfl, by kernel_rfl⟩
theorem bn21 : BinOk 2 1 := ⟨⟨#[105, 110, 116, 32, 120, 32, 61, 32, 97, 32, 124, 32, 98, 32, 38, 38, 32, 99, 59]⟩, by kernel_rfl, by kernel_rfl, by kernel_rfl⟩
theorem bn22 : BinOk 2 2 := ⟨⟨#[105, 110, 116, 32, 120, 32, 61, 32, 97, 32, 124, 32, 98, 32, 124, 32, 99, 59]⟩, by kernel_rfl, by kernel_rfl, by kernel_rfl⟩
theorem bn23 : BinOk 2 3 := ⟨⟨#[105, 110, 116, 32, 120, 32, 61, 32, 97, 32, 124, 32, 98, 32, 94, 32, 99, 59]⟩, by kernel_rfl, by kernel_rfl, by kernel_rfl⟩
theorem bn24 : BinOk 2 4 := ⟨⟨#[105, 110, 116, 32, 120, 32, 61, 32, 97, 32, 124, 32, 98, 32, 38, 32, 99, 59]⟩, by kernel_rfl, by kernel_rfl, by kernel_rfl⟩
theorem bn25 : BinOk 2 5 := ⟨⟨#[105, 110, 116, 32, 120, 32, 61, 32, 97, 32, 124, 32, 98, 32, 61, 61, 32, 99, 59]⟩, by kernel_rfl, by kernel_rfl, by kernel_rfl⟩
theorem bn26 : BinOk 2 6 := ⟨⟨#[105, 110, 116, 32, 120, 32, 61, 32, 97, 32, 124, 32, 98, 32, 60, 32, 99, 59]⟩, by kernel_rfl, by kernel_rfl, by kernel_rfl⟩
theorem bn27 : BinOk 2 7 := ⟨⟨#[105, 110, 116, 32, 120, 32, 61, 32, 97, 32, 124, 32, 98, 32, 60, 60, 32, 99, 59]⟩, by kernel_rfl, by kernel_rfl, by kernel_rfl⟩
theorem bn28 : BinOk 2 8 := ⟨⟨#[105, 110, 116, 32, 120, 32, 61, 32, 97, 32, 124, 32, 98, 32, 43, 32, 99, 59]⟩, by kernel_rfl, by kernel_rfl, by kernel_rfl⟩
theorem bn29 : BinOk 2 9 := ⟨⟨#[105, 110, 116, 32, 120, 32, 61, 32, 97, 32, 124, 32, 98, 32, 42, 32, 99, 59]⟩, by kernel_rfl, by kernel_rfl, by kernel_rfl⟩
theorem bin2 (b : Nat) (hb : b < 10) : BinOk 2 b := by
 match b, hb with
 | 0, _ => exact bn20
 | 1, _ => exact bn21
 | 2, _ => exact bn22
 | 3, _ => exact bn23
 | 4, _ => exact bn24
 | 5, _ => exact bn25
 | 6, _ => exact bn26
 | 7, _ => exact bn27
 | 8, _ => exact bn28
 | 9, _ => exact bn29
 | n + 10, h => exact absurd h (by omega)
theorem bn30 : BinOk 3 0 := ⟨⟨#[105, 110, 116, 32, 120, 32, 61, 32, 97, 32, 94, 32, 98, 32, 124, 124, 32, 99, 59]⟩, by kernel_rfl, by kernel_rfl, by kernel_rfl⟩
theorem bn31 : BinOk 3 1 := ⟨⟨#[105, 110, 116, 32, 120, 32, 61, 32, 97, 32, 94, 32, 98, 32, 38, 38, 32, 99, 59]⟩, by kernel_rfl, by kernel_rfl, by kernel_rfl⟩
theorem bn32 : BinOk 3 2 := ⟨⟨#[105, 110, 116, 32, 120, 32, 61, 32, 97, 32, 94, 32, 98, 32, 124, 32, 99, 59]⟩, by kernel_rfl, by kernel_rfl, by kernel_rfl⟩
theorem bn33 : BinOk 3 3 := ⟨⟨#[105, 110, 116, 32, 120, 32, 61, 32, 97, 32, 94, 32, 98, 32, 94, 32, 99, 59]⟩, by kernel_rfl, by kernel_rfl, by kernel_rfl⟩
theorem bn34 : BinOk 3 4 := ⟨⟨#[105, 110, 116, 32, 120, 32, 61, 32, 97, 32, 94, 32, 98, 32, 38, 32, 99, 59]⟩, by kernel_rfl, by kernel_rfl, by kernel_rfl⟩
theorem bn35 : BinOk 3 5 := ⟨⟨#[105, 110, 116, 32, 120, 32, 61, 32, 97, 32, 94, 32, 98, 32, 61, 61, 32, 99, 59]⟩, by kernel_rfl, by kernel_rfl, by kernel_rfl⟩
theorem bn36 : BinOk 3 6 := ⟨⟨#[105, 110, 116, 32, 120, 32, 61, 32, 97, 32, 94, 32, 98, 32, 60, 32, 99, 59]⟩, by kernel_rfl, by kernel_rfl, by kernel_rfl⟩
theorem bn37 : BinOk 3 7 := ⟨⟨#[105, 110, 116, 32, 120, 32, 61, 32, 97, 32, 94, 32, 98, 32, 60, 60, 32, 99, 59]⟩, by kernel_rfl, by kernel_rfl, by kernel_rfl⟩
theorem bn38 : BinOk 3 8 := ⟨⟨#[105, 110, 116, 32, 120, 32, 61, 32, 97, 32, 94, 32, 98, 32, 43, 32, 99, 59]⟩, by kernel_rfl, by kernel_rfl, by kernel_rfl⟩
theorem bn39 : BinOk 3 9 := ⟨⟨#[105, 110, 116, 32, 120, 32, 61, 32, 97, 32, 94, 32, 98, 32, 42, 32, 99, 59]⟩, by kernel_rfl, by kernel_rfl, by kernel_rfl⟩
theorem bin3 (b : Nat) (hb : b < 10) : BinOk 3 b := by
 match b, hb with
 | 0, _ => exact bn30
 | 1, _ => exact bn31
 | 2, _ => exact bn32
 | 3, _ => exact bn33
 | 4, _ => exact bn34
 | 5, _ => exact bn35
 | 6, _ => exact bn36
 | 7, _ => exact bn37
 | 8, _ => exact bn38
 | 9, _ => exact bn39
 | n + 10, h => exact absurd h (by omega)
theorem bn40 : BinOk 4 0 := ⟨⟨#[105, 110, 116, 32, 120, 32, 61, 32, 97, 32, 38, 32, 98, 32, 124, 124, 32, 99, 59]⟩, by kernel_rfl, by kernel_rfl, by kernel_rfl⟩
theorem bn41 : BinOk 4 1 := ⟨⟨#[105, 110, 116, 32, 120, 32, 61, 32, 97, 32, 38, 32, 98, 32, 38, 38, 32, 99, 59]⟩, by kernel_rfl, by kernel_rfl, by kernel_rfl⟩
theorem bn42 : BinOk 4 2 := ⟨⟨#[105, 110, 116, 32, 120, 32, 61, 32, 97, 32, 38, 32, 98, 32, 124, 32, 99, 59]⟩, by kernel_rfl, by kernel_rfl, by kernel_rfl⟩
theorem bn43 : BinOk 4 3 := ⟨⟨#[105, 110, 116, 32, 120, 32, 61, 32, 97, 32, 38, 32, 98, 32, 94, 32, 99, 59]⟩, by kernel_rfl, by kernel_rfl, by kernel_rfl⟩
theorem bn44 : BinOk 4 4 := ⟨⟨#[105, 110, 116, 32, 120, 32, 61, 32, 97, 32, 38, 32, 98, 32, 38, 32, 99, 59]⟩, by kernel_rfl, by kernel_rfl, by kernel_rfl⟩
theorem bn45 : BinOk 4 5 := ⟨⟨#[105, 110, 116, 32, 120, 32, 61, 32, 97, 32, 38, 32, 98, 32, 61, 61, 32, 99, 59]⟩, by kernel_rfl, by kernel_rfl, by kernel_rfl⟩
theorem bn46 : BinOk 4 6 := ⟨⟨#[105, 110, 116, 32, 120, 32, 61, 32, 97, 32, 38, 32, 98, 32, 60, 32, 99, 59]⟩, by kernel_rfl, by kernel_rfl, by kernel_rfl⟩
theorem bn47 : BinOk 4 7 := ⟨⟨#[105, 110, 116, 32, 120, 32, 61, 32, 97, 32, 38, 32, 98, 32, 60, 60, 32, 99, 59]⟩, by kernel_rfl, by kernel_rfl, by kernel_rfl⟩
theorem bn48 : BinOk 4 8 := ⟨⟨#[105, 110, 116, 32, 120, 32, 61, 32, 97, 32, 38, 32, 98, 32, 43, 32, 99, 59]⟩, by kernel_rfl, by kernel_rfl, by kernel_rfl⟩
theorem bn49 : BinOk 4 9 := ⟨⟨#[105, 110, 116, 32, 120, 32, 61, 32, 97, 32, 38, 32, 98, 32, 42, 32, 99, 59]⟩, by kernel_rfl, by kernel_rfl, by kernel_rfl⟩
theorem bin4 (b : Nat) (hb : b < 10) : BinOk 4 b := by
 match b, hb with
 | 0, _ => exact bn40
 | 1, _ => exact bn41
 | 2, _ => exact bn42
 | 3, _ => exact bn43
 | 4, _ => exact bn44
 | 5, _ => exact bn45
 | 6, _ => exact bn46
 | 7, _ => exact bn47
 | 8, _ => exact bn48
 | 9, _ => exact bn49
 | n + 10, h => exact absurd h (by omega)
theorem bn50 : BinOk 5 0 := ⟨⟨#[105, 110, 116, 32, 120, 32, 61, 32, 97, 32, 61, 61, 32, 98, 32, 124, 124, 32, 99, 59]⟩, by kernel_rfl, by kernel_rfl, by kernel_rfl⟩
theorem bn51 : BinOk 5 1 := ⟨⟨#[105, 110, 116, 32, 120, 32, 61, 32, 97, 32, 61, 61, 32, 98, 32, 38, 38, 32, 99, 59]⟩, by kernel_rfl, by kernel_rfl, by kernel_rfl⟩
theorem bn52 : BinOk 5 2 := ⟨⟨#[105, 110, 116, 32, 120, 32, 61, 32, 97, 32, 61, 61, 32, 98, 32, 124, 32, 99, 59]⟩, by kernel_rfl, by kernel_rfl, by kernel_rfl⟩
theorem bn53 : BinOk 5 3 := ⟨⟨#[105, 110, 116, 32, 120, 32, 61, 32, 97, 32, 61, 61, 32, 98, 32, 94, 32, 99, 59]⟩, by kernel_rfl, by kernel_rfl, by kernel_rfl⟩
theorem bn54 : BinOk 5 4 := ⟨⟨#[105, 110, 116, 32, 120, 32, 61, 32, 97, 32, 61, 61, 32, 98, 32, 38, 32, 99, 59]⟩, by kernel_rfl, by kernel_rfl, by kernel_rfl⟩
theorem bn55 : BinOk 5 5 := ⟨⟨#[105, 110, 116, 32, 120, 32, 61, 32, 97, 32, 61, 61, 32, 98, 32, 61, 61, 32, 99, 59]⟩, by kernel_rfl, by kernel_rfl, by kernel_rfl⟩
theorem bn56 : BinOk 5 6 := ⟨⟨#[105, 110, 116, 32, 120, 32, 61, 32, 97, 32, 61, 61, 32, 98, 32, 60, 32, 99, 59]⟩, by kernel_rfl, by kernel_rfl, by kernel_rfl⟩
theorem bn57 : BinOk 5 7 := ⟨⟨#[105, 110, 116, 32, 120, 32, 61, 32, 97, 32, 61, 61, 32, 98, 32, 60, 60, 32, 99, 59]⟩, by kernel_rfl, by kernel_rfl, by kernel_rfl⟩
theorem bn58 : BinOk 5 8 := ⟨⟨#[105, 110, 116, 32, 120, 32, 61, 32, 97, 32, 61, 61, 32, 98, 32, 43, 32, 99, 59]⟩, by kernel_rfl, by kernel_rfl, by kernel_rfl⟩
theorem bn59 : BinOk 5 9 := ⟨⟨#[105, 110, 116, 32, 120, 32, 61, 32, 97, 32, 61, 61, 32, 98, 32, 42, 32, 99, 59]⟩, by kernel_rfl, by kernel_rfl, by kernel_rfl⟩
theorem bin5 (b : Nat) (hb : b < 10) : BinOk 5 b := by
 match b, hb with
 | 0, _ => exact bn50
 | 1, _ => exact bn51
 | 2, _ => exact bn52
 | 3, _ => exact bn53
 | 4, _ => exact bn54
 | 5, _ => exact bn55
 | 6, _ => exact bn56
 | 7, _ => exact bn57
 | 8, _ => exact bn58
 | 9, _ => exact bn59
 | n + 10, h => exact absurd h (by omega)
theorem bn60 : BinOk 6 0 := ⟨⟨#[105, 110, 116, 32, 120, 32, 61, 32, 97, 32, 60, 32, 98, 32, 124, 124, 32, 99, 59]⟩, by kernel_rfl, by kernel_rfl, by kernel_rfl⟩
theorem bn61 : BinOk 6 1 := ⟨⟨#[105, 110, 116, 32, 120, 32, 61, 32, 97, 32, 60, 32, 98, 32, 38, 38, 32, 99, 59]⟩, by kernel_rfl, by kernel_rfl, by kernel_rfl⟩
theorem bn62 : BinOk 6 2 := ⟨⟨#[105, 110, 116, 32, 120, 32, 61, 32, 97, 32, 60, 32, 98, 32, 124, 32, 99, 59]⟩, by kernel_rfl, by kernel_rfl, by kernel_rfl⟩
theorem bn63 : BinOk 6 3 := ⟨⟨#[105, 110, 116, 32, 120, 32, 61, 32, 97, 32, 60, 32, 98, 32, 94, 32, 99, 59]⟩, by kernel_rfl, by kernel_rfl, by kernel_rfl⟩
theorem bn64 : BinOk 6 4 := ⟨⟨#[105, 110, 116, 32, 120, 32, 61, 32, 97, 32, 60, 32, 98, 32, 38, 32, 99, 59]⟩, by kernel_rfl, by kernel_rfl, by kernel_rfl⟩
theorem bn65 : BinOk 6 5 := ⟨⟨#[105, 110, 116, 32, 120, 32, 61, 32, 97, 32, 60, 32, 98, 32, 61, 61, 32, 99, 59]⟩, by kernel_rfl, by kernel_rfl, by kernel_rfl⟩
theorem bn66 : BinOk 6 6 := ⟨⟨#[105, 110, 116, 32, 120, 32, 61, 32, 97, 32, 60, 32, 98, 32, 60, 32, 99, 59]⟩, by kernel_rfl, by kernel_rfl, by kernel_rfl⟩
theorem bn67 : BinOk 6 7 := ⟨⟨#[105, 110, 116, 32, 120, 32, 61, 32, 97, 32, 60, 32, 98, 32, 60, 60, 32, 99, 59]⟩, by kernel_rfl, by kernel_rfl, by kernel_rfl⟩
theorem bn68 : BinOk 6 8 := ⟨⟨#[105, 110, 116, 32, 120, 32, 61, 32, 97, 32, 60, 32, 98, 32, 43, 32, 99, 59]⟩, by kernel_rfl, by kernel_rfl, by kernel_rfl⟩
theorem bn69 : BinOk 6 9 := ⟨⟨#[105, 110, 116, 32, 120, 32, 61, 32, 97, 32, 60, 32, 98, 32, 42, 32, 99, 59]⟩, by kernel_rfl, by kernel_rfl, by kernel_rfl⟩
theorem bin6 (b : Nat) (hb : b < 10) : BinOk 6 b := by
 match b, hb with
 | 0, _ => exact bn60
 | 1, _ => exact bn61
 | 2, _ => exact bn62
 | 3, _ => exact bn63
 | 4, _ => exact bn64
 | 5, _ => exact bn65
 | 6, _ => exact bn66
 | 7, _ => exact bn67
 | 8, _ => exact bn68
 | 9, _ => exact bn69
 | n + 10, h => exact absurd h (by omega)
theorem bn70 : BinOk 7 0 := ⟨⟨#[105, 110, 116, 32, 120, 32, 61, 32, 97, 32, 60, 60, 32, 98, 32, 124, 124, 32, 99, 59]⟩, by kernel_rfl, by kernel_rfl, by kernel_rfl⟩
theorem bn71 : BinOk 7 1 := ⟨⟨#[105, 110, 116, 32, 120, 32, 61, 32, 97, 32, 60, 60, 32, 98, 32, 38, 38, 32, 99, 59]⟩, by kernel_rfl, by kernel_rfl, by kernel_rfl⟩
theorem bn72 : BinOk 7 2 := ⟨⟨#[105, 110, 116, 32, 120, 32, 61, 32, 97, 32, 60, 60, 32, 98, 32, 124, 32, 99, 59]⟩, by kernel_rfl, by kernel_rfl, by kernel_rfl⟩
theorem bn73 : BinOk 7 3 := ⟨⟨#[105, 110, 116, 32, 120, 32, 61, 32, 97, 32, 60, 60, 32, 98, 32, 94, 32, 99, 59]⟩, by kernel_rfl, by kernel_rfl, by kernel_rfl⟩
theorem bn74 : BinOk 7 4 := ⟨⟨#[105, 110, 116, 32, 120, 32, 61, 32, 97, 32, 60, 60, 32, 98, 32, 38, 32, 99, 59]⟩, by kernel_rfl, by kernel_rfl, by kernel_rfl⟩
theorem bn75 : BinOk 7 5 := ⟨⟨#[105, 110, 116, 32, 120, 32, 61, 32, 97, 32, 60, 60, 32, 98, 32, 61, 61, 32, 99, 59]⟩, by kernel_rfl, by kernel_rfl, by kernel_rfl⟩
theorem bn76 : BinOk 7 6 := ⟨⟨#[105, 110, 116, 32, 120, 32, 61, 32, 97, 32, 60, 60, 32, 98, 32, 60, 32, 99, 59]⟩, by kernel_rfl, by kernel_rfl, by kernel_rfl⟩
theorem bn77 : BinOk 7 7 := ⟨⟨#[105, 110, 116, 32, 120, 32, 61, 32, 97, 32, 60, 60, 32, 98, 32, 60, 60, 32, 99, 59]⟩, by kernel_rfl, by kernel_rfl, by kernel_rfl⟩
theorem bn78 : BinOk 7 8 := ⟨⟨#[105, 110, 116, 32, 120, 32, 61, 32, 97, 32, 60, 60, 32, 98, 32, 43, 32, 99, 59]⟩, by kernel_rfl, by kernel_rfl, by kernel_rfl⟩
theorem bn79 : BinOk 7 9 := ⟨⟨#[105, 110, 116, 32, 120, 32, 61, 32, 97, 32, 60, 60, 32, 98, 32, 42, 32, 99, 59]⟩, by kernel_rfl, by kernel_rfl, by kernel_rfl⟩
theorem bin7 (b : Nat) (hb : b < 10) : BinOk 7 b := by
 match b, hb with
 | 0, _ => exact bn70
 | 1, _ => exact bn71
 | 2, _ => exact bn72
 | 3, _ => exact bn73
 | 4, _ => exact bn74
 | 5, _ => exact bn75
 | 6, _ => exact bn76
 | 7, _ => exact bn77
 | 8, _ => exact bn78
 | 9, _ => exact bn79
 | n + 10, h => exact absurd h (by omega)
theorem bn80 : BinOk 8 0 := ⟨⟨#[105, 110, 116, 32, 120, 32, 61, 32, 97, 32, 43, 32, 98, 32, 124, 124, 32, 99, 59]⟩, by kernel_rfl, by kernel_rfl, by kernel_rfl⟩
theorem bn81 : BinOk 8 1 := ⟨⟨#[105, 110, 116, 32, 120, 32, 61, 32, 97, 32, 43, 32, 98, 32, 38, 38, 32, 99, 59]⟩, by kernel_rfl, by kernel_rfl, by kernel_rfl⟩
theorem bn82 : BinOk 8 2 := ⟨⟨#[105, 110, 116, 32, 120, 32, 61, 32, 97, 32, 43, 32, 98, 32, 124, 32, 99, 59]⟩, by kernel_rfl, by kernel_rfl, by kernel_rfl⟩
theorem bn83 : BinOk 8 3 := ⟨⟨#[105, 110, 116, 32, 120, 32, 61, 32, 97, 32, 43, 32, 98, 32, 94, 32, 99, 59]⟩, by kernel_rfl, by kernel_rfl, by kernel_rfl⟩
theorem bn84 : BinOk 8 4 := ⟨⟨#[105, 110, 116, 32, 120, 32, 61, 32, 97, 32, 43, 32, 98, 32, 38, 32, 99, 59]⟩, by kernel_rfl, by kernel_rfl, by kernel_rfl⟩
theorem bn85 : BinOk 8 5 := ⟨⟨#[105, 110, 116, 32, 120, 32, 61, 32, 97, 32, 43, 32, 98, 32, 61, 61, 32, 99, 59]⟩, by kernel_rfl, by kernel_rfl, by kernel_rfl⟩
theorem bn86 : BinOk 8 6 := ⟨⟨#[105, 110, 116, 32, 120, 32, 61, 32, 97, 32, 43, 32, 98, 32, 60, 32, 99, 59]⟩, by kernel_rfl, by kernel_rfl, by kernel_rfl⟩
theorem bn87 : BinOk 8 7 := ⟨⟨#[105, 110, 116, 32, 120, 32, 61, 32, 97, 32, 43, 32, 98, 32, 60, 60, 32, 99, 59]⟩, by kernel_rfl, by kernel_rfl, by kernel_rfl⟩
theorem bn88 : BinOk 8 8 := ⟨⟨#[105, 110, 116, 32, 120, 32, 61, 32, 97, 32, 43, 32, 98, 32, 43, 32, 99, 59]⟩, by kernel_rfl, by kernel_rfl, by kernel_rfl⟩
theorem bn89 : BinOk 8 9 := ⟨⟨#[105, 110, 116, 32, 120, 32, 61, 32, 97, 32, 43, 32, 98, 32, 42, 32, 99, 59]⟩, by kernel_rfl, by kernel_rfl, by kernel_rfl⟩
theorem bin8 (b : Nat) (hb : b < 10) : BinOk 8 b := by
 match b, hb with
 | 0, _ => exact bn80
 | 1, _ => exact bn81
 | 2, _ => exact bn82
 | 3, _ => exact bn83
 | 4, _ => exact bn84
 | 5, _ => exact bn85
 | 6, _ => exact bn86
 | 7, _ => exact bn87
 | 8, _ => exact bn88
 | 9, _ => exact bn89
 | n + 10, h => exact absurd h (by omega)
theorem bn90 : BinOk 9 0 := ⟨⟨#[105, 110, 116, 32, 120, 32, 61, 32, 97, 32, 42, 32, 98, 32, 124, 124, 32, 99, 59]⟩, by kernel_rfl, by kernel_rfl, by kernel_rfl⟩
theorem bn91 : BinOk 9 1 := ⟨⟨#[105, 110, 116, 32, 120, 32, 61, 32, 97, 32, 42, 32, 98, 32, 38, 38, 32, 99, 59]⟩, by kernel_rfl, by kernel_rfl, by kernel_rfl⟩
theorem bn92 : BinOk 9 2 := ⟨⟨#[105, 110, 116, 32, 120, 32, 61, 32, 97, 32, 42, 32, 98, 32, 124, 32, 99, 59]⟩, by kernel_rfl, by kernel_rfl, by kernel_rfl⟩
theorem bn93 : BinOk 9 3 := ⟨⟨#[105, 110, 116, 32, 120, 32, 61, 32, 97, 32, 42, 32, 98, 32, 94, 32, 99, 59]⟩, by kernel_rfl, by kernel_rfl, by kernel_rfl⟩
theorem bn94 : BinOk 9 4 := ⟨⟨#[105, 110, 116, 32, 120, 32, 61, 32, 97, 32, 42, 32, 98, 32, 38, 32, 99, 59]⟩, by kernel_rfl, by kernel_rfl, by kernel_rfl⟩
theorem bn95 : BinOk 9 5 := ⟨⟨#[105, 110, 116, 32, 120, 32, 61, 32, 97, 32, 42, 32, 98, 32, 61, 61, 32, 99, 59]⟩, by kernel_rfl, by kernel_rfl, by kernel_rfl⟩
theorem bn96 : BinOk 9 6 := ⟨⟨#[105, 110, 116, 32, 120, 32, 61, 32, 97, 32, 42, 32, 98, 32, 60, 32, 99, 59]⟩, by kernel_rfl, by kernel_rfl, by kernel_rfl⟩
theorem bn97 : BinOk 9 7 := ⟨⟨#[105, 110, 116, 32, 120, 32, 61, 32, 97, 32, 42, 32, 98, 32, 60, 60, 32, 99, 59]⟩, by kernel_rfl, by kernel_rfl, by kernel_rfl⟩
theorem bn98 : BinOk 9 8 := ⟨⟨#[105, 110, 116, 32, 120, 32, 61, 32, 97, 32, 42, 32, 98, 32, 43, 32, 99, 59]⟩, by kernel_rfl, by kernel_rfl, by kernel_rfl⟩
theorem bn99 : BinOk 9 9 := ⟨⟨#[105, 110, 116, 32, 120, 32, 61, 32, 97, 32, 42, 32, 98, 32, 42, 32, 99, 59]⟩, by kernel_rfl, by kernel_rfl, by kernel_rfl⟩
theorem bin9 (b : Nat) (hb : b < 10) : BinOk 9 b := by
 match b, hb with
 | 0, _ => exact bn90
 | 1, _ => exact bn91
 | 2, _ => exact bn92
 | 3, _ => exact bn93
 | 4, _ => exact bn94
 | 5, _ => exact bn95
 | 6, _ => exact bn96
 | 7, _ => exact bn97
 | 8, _ => exact bn98
 | 9, _ => exact bn99
 | n + 10, h => exact absurd h (by omega)
theorem binds_at {a b : Nat} (ha : a < 10) (hb : b < 10) : parseOk (textB (signAt a) (signAt b)) = true ∧ dumpM (textB (signAt a) (signAt b)) = (if a < b then wantL (kindOf (signAt a)) (kindOf (signAt b)) else wantG (kindOf (signAt a)) (kindOf (signAt b)), 0, 0) := by
 have h : BinOk a b := by
  match a, ha with
  | 0, _ => exact bin0 b hb
  | 1, _ => exact bin1 b hb
  | 2, _ => exact bin2 b hb
  | 3, _ => exact bin3 b hb
  | 4, _ => exact bin4 b hb
  | 5, _ => exact bin5 b hb
  | 6, _ => exact bin6 b hb
  | 7, _ => exact bin7 b hb
  | 8, _ => exact bin8 b hb
  | 9, _ => exact bin9 b hb
  | n + 10, h => exact absurd h (by omega)
 obtain ⟨T, h1, h2, h3⟩ := h
 rw [h1]
 exact ⟨h2, h3⟩
end Sy
def signRow : List Value := [.string ⟨#[124, 124]⟩, .string ⟨#[38, 38]⟩, .string ⟨#[124]⟩, .string ⟨#[94]⟩, .string ⟨#[38]⟩, .string ⟨#[61, 61]⟩, .string ⟨#[60]⟩, .string ⟨#[60, 60]⟩, .string ⟨#[43]⟩, .string ⟨#[42]⟩]
theorem sign_cell (w : World) (T : TypeId) {k : Nat} (hk : k < 10) : (w.alloc (.cells signRow.toArray T)).cell? ⟨w.heap.size, k, none⟩ = some (.string (Sy.signAt k)) := by
 rw [World.cell?_alloc_at _ _ _ _ rfl]
 match k, hk with
 | 0, _ => exact rfl
 | 1, _ => exact rfl
 | 2, _ => exact rfl
 | 3, _ => exact rfl
 | 4, _ => exact rfl
 | 5, _ => exact rfl
 | 6, _ => exact rfl
 | 7, _ => exact rfl
 | 8, _ => exact rfl
 | 9, _ => exact rfl
 | n + 10, h => exact absurd h (by omega)
theorem sign_size {k : Nat} (hk : k < 10) : (Sy.signAt k).size ≤ 2 := by
 match k, hk with
 | 0, _ => exact of_decide_eq_true rfl
 | 1, _ => exact of_decide_eq_true rfl
 | 2, _ => exact of_decide_eq_true rfl
 | 3, _ => exact of_decide_eq_true rfl
 | 4, _ => exact of_decide_eq_true rfl
 | 5, _ => exact of_decide_eq_true rfl
 | 6, _ => exact of_decide_eq_true rfl
 | 7, _ => exact of_decide_eq_true rfl
 | 8, _ => exact of_decide_eq_true rfl
 | 9, _ => exact of_decide_eq_true rfl
 | n + 10, h => exact absurd h (by omega)
theorem kind_size {k : Nat} (hk : k < 10) : (Sy.kindOf (Sy.signAt k)).size ≤ 6 := by
 match k, hk with
 | 0, _ => exact of_decide_eq_true (by kernel_rfl)
 | 1, _ => exact of_decide_eq_true (by kernel_rfl)
 | 2, _ => exact of_decide_eq_true (by kernel_rfl)
 | 3, _ => exact of_decide_eq_true (by kernel_rfl)
 | 4, _ => exact of_decide_eq_true (by kernel_rfl)
 | 5, _ => exact of_decide_eq_true (by kernel_rfl)
 | 6, _ => exact of_decide_eq_true (by kernel_rfl)
 | 7, _ => exact of_decide_eq_true (by kernel_rfl)
 | 8, _ => exact of_decide_eq_true (by kernel_rfl)
 | 9, _ => exact of_decide_eq_true (by kernel_rfl)
 | n + 10, h => exact absurd h (by omega)
theorem binary_any (x : Int) (hx : I64 x) (k : Nat) (hk : k < 10) (hk2 : IntKind.u64.wrap x % 10 = (k : Int)) (w : World) : Calls Tryz.prog 19 #[.int .i64 x] w fun e w' => e = .returned (.string (Sy.signAt k)) ∧ Keeps No w w' := by
 have HLO := zz (fun W => low_any x 10 hx (by decide) W)
 rw [hk2] at HLO
 have hk3 : (k : Int) < 10 := by omega
 have hk0 : (0 : Int) ≤ (k : Int) := by omega
 have HC := zz (sign_cell w 9 hk)
 have HK := zz ((Keeps.refl No w).alloc (.cells signRow.toArray 9))
 unfold signRow at HC HK
 simp only [List.toArray] at HC HK
 clear hk hk2
 go_enter Tryz.func19, Tryz.ntmps19
 go_wp2_with fail
 refine (HLO.out _).mono ?_
 rintro e w1 ⟨rfl, rfl⟩
 have c0 := HC.out
 go_wp2_with fail
 go_returns
 exact ⟨rfl, HK.out⟩
theorem kindof_any (s : ByteArray) (hs : s.size ≤ 2) (w : World) : Calls Tryz.prog 20 #[.string s] w fun e w' => e = .returned (.string (Sy.kindOf s)) ∧ Keeps No w w' := by
 obtain ⟨b1, h1⟩ : ∃ b, (s.toList == [124, 124]) = b := ⟨_, rfl⟩
 obtain ⟨b2, h2⟩ : ∃ b, (s.toList == [38, 38]) = b := ⟨_, rfl⟩
 have HM : Hid (Sy.kindOf s = if b1 then ⟨#[111, 114]⟩ else if b2 then ⟨#[97, 110, 100]⟩ else ⟨#[98, 105, 110, 32]⟩ ++ s) := zz (by unfold Sy.kindOf; rw [h1, h2])
 go_enter Tryz.func20, Tryz.ntmps20
 cases b1 with
 | true =>
   go_wp2_with fail
   go_returns
   rw [HM.out]
   exact ⟨rfl, Keeps.refl _ _⟩
 | false =>
   cases b2 with
   | true =>
     go_wp2_with fail
     go_returns
     rw [HM.out]
     exact ⟨rfl, Keeps.refl _ _⟩
   | false =>
     go_wp2_with fail
     go_returns
     rw [HM.out]
     exact ⟨rfl, Keeps.refl _ _⟩
theorem binds_walk (x y : Int) (hx : I64 x) (hy : I64 y) (w : World) (hl : LaidP w) : Calls Tryz.prog 6 #[.int .i64 x, .int .i64 y] w fun e w' => e = .returned (.bool true) ∧ Keeps No w w' := by
 have HL := zz hl
 obtain ⟨a, ha, hae⟩ := low_nat x 10 hx (by decide)
 obtain ⟨b, hb, hbe⟩ := low_nat y 10 hy (by decide)
 have hat := Sy.binds_at (a := a) (b := b) (by omega) (by omega)
 have HBX := zz (fun W => binary_any x hx a (by omega) hae W)
 have HBY := zz (fun W => binary_any y hy b (by omega) hbe W)
 have HLX := zz (fun W => low_any x 10 hx (by decide) W)
 have HLY := zz (fun W => low_any y 10 hy (by decide) W)
 rw [hae] at HLX
 rw [hbe] at HLY
 have hpz := sign_size (k := a) (by omega)
 have hqz := sign_size (k := b) (by omega)
 have hkpz := kind_size (k := a) (by omega)
 have hkqz := kind_size (k := b) (by omega)
 have HKP := zz (fun W => kindof_any (Sy.signAt a) hpz W)
 have HKQ := zz (fun W => kindof_any (Sy.signAt b) hqz W)
 obtain ⟨kp, hkp⟩ : ∃ z, Sy.kindOf (Sy.signAt a) = z := ⟨_, rfl⟩
 obtain ⟨kq, hkq⟩ : ∃ z, Sy.kindOf (Sy.signAt b) = z := ⟨_, rfl⟩
 rw [hkp] at hat HKP hkpz
 rw [hkq] at hat HKQ hkqz
 obtain ⟨p, hp⟩ : ∃ z, Sy.signAt a = z := ⟨_, rfl⟩
 obtain ⟨q, hq⟩ : ∃ z, Sy.signAt b = z := ⟨_, rfl⟩
 rw [hp] at hat HKP hpz HBX
 rw [hq] at hat HKQ hqz HBY
 obtain ⟨hok, hdm⟩ := hat
 have HCD := zz (fun W hW => dump_to _ _ _ _ hdm hok W hW)
 unfold Sy.textB at HCD
 clear hp hq hkp hkq hae hbe hok hdm hl hx hy
 go_enter Tryz.func6, Tryz.ntmps6
 go_wp2_with fail
 refine (HBX.out w).mono ?_
 rintro e w1 ⟨rfl, hk1⟩
 have HK1 := zz hk1
 clear hk1
 go_wp2_with fail
 refine (HBY.out w1).mono ?_
 rintro e w2 ⟨rfl, hk2⟩
 have HK2 := zz (HK1.out.trans hk2 (fun _ _ e => e))
 clear hk2
 go_wp2_with fail
 refine (HCD.out w2 (HL.out.no HK2.out)).mono ?_
 rintro e w3 ⟨rfl, hk3⟩
 have HK3 := zz (HK2.out.trans hk3 (fun _ _ e => e))
 clear hk3
 obtain ⟨D, hD⟩ : ∃ D, (if a < b then Sy.wantL kp kq else Sy.wantG kp kq) = D := ⟨_, rfl⟩
 have HD := zz hD
 rw [hD]
 clear hD
 go_upto_region 3 with fail
 have hn4 : (w3.alloc (.cells #[.int .i64 0, .int .i64 0] 25)).heap[w3.heap.size]? = some (.cells #[.int .i64 0, .int .i64 0] 25 (0, 0)) := heap_alloc_new _ _
 have hk4 : Keeps No w (w3.alloc (.cells #[.int .i64 0, .int .i64 0] 25)) := HK3.out.alloc _
 generalize w3.alloc (.cells #[.int .i64 0, .int .i64 0] 25) = w4 at hn4 hk4 ⊢
 obtain ⟨R, hR⟩ : ∃ q, w3.heap.size = q := ⟨_, rfl⟩
 rw [hR] at hn4 ⊢
 have HN4 := zz hn4
 have HK4 := zz hk4
 clear hR hn4 hk4
 go_wp2_with fail
 refine (HKQ.out w4).mono ?_
 rintro e w5 ⟨rfl, hk5⟩
 have HN5 := zz (wrong_kept hk5 HN4.out)
 have HK5 := zz (HK4.out.trans hk5 (fun _ _ e => e))
 clear hk5
 go_wp2_with fail
 refine (HKP.out w5).mono ?_
 rintro e w6 ⟨rfl, hk6⟩
 have HN6 := zz (wrong_kept hk6 HN5.out)
 have HK6 := zz (HK5.out.trans hk6 (fun _ _ e => e))
 clear hk6
 go_wp2_with fail
 refine (HLX.out w6).mono ?_
 rintro e w7 ⟨rfl, rfl⟩
 go_wp2_with fail
 refine (HLY.out w6).mono ?_
 rintro e w7 ⟨rfl, rfl⟩
 by_cases hlt : a < b
 · have hlt1 : (a : Int) < (b : Int) := by omega
   obtain rfl : Sy.wantL kp kq = D := by have e := HD.out; rw [if_pos hlt] at e; exact e
   unfold Sy.wantL
   clear hlt
   go_wp2_with fail
   refine (HKP.out w6).mono ?_
   rintro e w7 ⟨rfl, hk7⟩
   have HN7 := zz (wrong_kept hk7 HN6.out)
   have HK7 := zz (HK6.out.trans hk7 (fun _ _ e => e))
   clear hk7
   go_wp2_with fail
   refine (HKQ.out w7).mono ?_
   rintro e w8 ⟨rfl, hk8⟩
   have HN8 := zz (wrong_kept hk8 HN7.out)
   have HK8 := zz (HK7.out.trans hk8 (fun _ _ e => e))
   clear hk8
   have c0 : w8.cell? ⟨R, 0, none⟩ = some (.int .i64 0) := by rw [cell_of_row w8 R 0 _ _ _ HN8.out]; rfl
   have HAW := zz (awake_any w8 (HL.out.no HK8.out))
   go_wp2_with fail
   refine HAW.out.mono ?_
   rintro e w9 ⟨rfl, hk9⟩
   have HK9 := zz (HK8.out.trans hk9 (fun _ _ e => e))
   clear hk9 c0
   go_wp2_with fail
   go_returns
   exact ⟨rfl, HK9.out⟩
 · have hlt1 : ¬ (a : Int) < (b : Int) := by omega
   obtain rfl : Sy.wantG kp kq = D := by have e := HD.out; rw [if_neg hlt] at e; exact e
   unfold Sy.wantG
   clear hlt
   have c0 : w6.cell? ⟨R, 0, none⟩ = some (.int .i64 0) := by rw [cell_of_row w6 R 0 _ _ _ HN6.out]; rfl
   have HAW := zz (awake_any w6 (HL.out.no HK6.out))
   go_wp2_with fail
   refine HAW.out.mono ?_
   rintro e w9 ⟨rfl, hk9⟩
   have HK9 := zz (HK6.out.trans hk9 (fun _ _ e => e))
   clear hk9 c0
   go_wp2_with fail
   go_returns
   exact ⟨rfl, HK9.out⟩
end Go.Proofs.YtflbkdfbjofllaaGreatDoor
