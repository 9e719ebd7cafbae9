/- Numbers as bytes: little.Put, little.Get. -/
import Derived.Test.YtbfjmhfhhlncjaaDoorIrRuns
namespace Go.Proofs.YtbfjmhfhhlncjaaDoor
open Go.RowKit
set_option linter.unusedVariables false
set_option linter.unusedSimpArgs false

def bytesN (n : Int) (b : Nat) : List Int := (List.range b).map fun j => n / 2 ^ (8 * j) % 256
theorem bytesN_len (n : Int) (b : Nat) : (bytesN n b).length = b := by unfold bytesN; simp
theorem bytesN_succ (n : Int) (b : Nat) : bytesN n (b + 1) = bytesN n b ++ [n / 2 ^ (8 * b) % 256] := by unfold bytesN; rw [List.range_succ, List.map_append]; rfl
theorem bytesN_get (n : Int) (b j : Nat) (h : j < b) : (bytesN n b)[j]? = some (n / 2 ^ (8 * j) % 256) := by unfold bytesN; simp [h]
def laidB (cur : List Value) (o : Nat) (l : List Int) : List Value := cur.take o ++ (brow l ++ cur.drop (o + l.length))
theorem laidB_nil (cur : List Value) (o : Nat) : laidB cur o [] = cur := by unfold laidB; simp [brow]
theorem laidB_set (cur : List Value) (o : Nat) (l : List Int) (z : Int) (h : o + l.length < cur.length) : (laidB cur o l).set (o + l.length) (.int .u8 z) = laidB cur o (l ++ [z]) := by
  unfold laidB
  have h1 : (cur.take o).length = o := by rw [List.length_take]; omega
  rw [List.set_append_right _ _ (by rw [h1]; omega), h1, show o + l.length - o = (brow l).length by rw [brow_len]; omega, List.set_append_right _ _ (Nat.le_refl _), Nat.sub_self, brow_app, List.length_append]
  rw [List.drop_eq_getElem_cons h]
  simp [brow, Nat.add_assoc]
theorem laidB_len (cur : List Value) (o : Nat) (l : List Int) (h : o + l.length ≤ cur.length) : (laidB cur o l).length = cur.length := by
  unfold laidB; simp [brow_len]; omega
set_option maxRecDepth 100000 in
set_option maxHeartbeats 3200000 in
theorem put_any (g o b cap : Nat) (n : Int) (hn : I64 n) (w : World) (hb : b ≤ 8) (hcap : b ≤ cap ∧ cap ≤ 9223372036854775807) (cur : List Value) (hg : w.heap[g]? = some (.cells cur.toArray 5 (0, 0))) (hfit : o + b ≤ cur.length) :
    Calls Tryd.prog 62 #[.slice (some ⟨g, o, none⟩) b cap, .int .i64 n] w fun e w' => e = .returned (.tuple #[]) ∧ w'.heap[g]? = some (.cells (laidB cur o (bytesN n b)).toArray 5 (0, 0)) ∧ Keeps (fun q => q = g) w w' := by
  have HG := Lib.hid hg
  have HN := Lib.hid hn
  clear hg hn
  go_enter Tryd.func62, Tryd.ntmps62
  go_wp2_with fail
  go_loopg [7] b (fun gg v wr => ∃ i : Nat, v = .int .i64 (i : Int) ∧ i ≤ b ∧ gg = b - i ∧ Hid (wr.heap[g]? = some (.cells (laidB cur o (bytesN n i)).toArray 5 (0, 0))) ∧ Hid (Keeps (fun q => q = g) w wr))
  case atStart => exact ⟨0, rfl, Nat.zero_le _, rfl, Lib.hid (by rw [show bytesN n 0 = [] from rfl, laidB_nil]; exact HG.out), Lib.hid (Keeps.refl _ _)⟩
  case round =>
    obtain ⟨i, rfl, hi, hgg, HR, HK⟩ := hrel
    by_cases hlt : i < b
    · have hlt' : (i : Int) < (b : Int) := by omega
      have i0 : (0 : Int) ≤ (i : Int) := by omega
      have hl : (laidB cur o (bytesN n i)).length = cur.length := laidB_len _ _ _ (by rw [bytesN_len]; omega)
      obtain ⟨v, hv⟩ : ∃ v, (laidB cur o (bytesN n i))[o + i]? = some v := ⟨_, List.getElem?_eq_getElem (by omega)⟩
      have c1 : wr.cell? ⟨g, o + i, none⟩ = some v := by rw [cell_of_row wr g _ _ _ _ HR.out, List.getElem?_toArray]; exact hv
      have f1 : wr.frozen? ⟨g, o + i, none⟩ = false := frozen_of_row wr g _ _ _ HR.out
      have HR2 : Hid ((wr.setCell ⟨g, o + i, none⟩ (.int .u8 (n / 2 ^ (8 * i) % 256))).heap[g]? = some (.cells (laidB cur o (bytesN n (i + 1))).toArray 5 (0, 0))) := Lib.hid (by
        rw [heap_setCell_same wr g _ _ _ _ HR.out, bytesN_succ, ← laidB_set _ _ _ _ (by rw [bytesN_len]; omega), bytesN_len]; simp)
      have HK2 := Lib.hid (HK.out.setCell (p := ⟨g, o + i, none⟩) (.inl rfl) (.int .u8 (n / 2 ^ (8 * i) % 256)))
      clear hv hl
      go_wp2_with fail
      go_roundg (b - (i + 1))
      case rel => exact ⟨i + 1, by go_num, by omega, rfl, HR2, HK2⟩
      case measure => omega
    · obtain rfl : i = b := by omega
      have hlt' : ¬ (i : Int) < (i : Int) := by omega
      go_wp2_with fail
      go_returns
      exact ⟨rfl, HR.out, HK.out⟩
theorem ofInt_wrap64 (z : Int) : BitVec.ofInt 64 (wrap64 z) = BitVec.ofInt 64 z := by
  apply BitVec.eq_of_toNat_eq
  simp only [BitVec.toNat_ofInt]
  congr 1
  unfold wrap64
  omega
theorem or_parts (X q P : Nat) (j : Nat) (hP : P = 2 ^ j) (hX : X < P) (hq : q * P + X < 18446744073709551616) : bits .or .i64 (wrap64 (X : Int)) (wrap64 ((q * P : Nat) : Int)) = wrap64 ((q * P + X : Nat) : Int) := by
  show IntKind.i64.wrap ((BitVec.ofInt 64 (wrap64 (X : Int)) ||| BitVec.ofInt 64 (wrap64 ((q * P : Nat) : Int))).toNat) = _
  rw [ofInt_wrap64, ofInt_wrap64]
  have h1 : (BitVec.ofInt 64 (X : Int)).toNat = X := by simp [BitVec.toNat_ofInt]; omega
  have h2 : (BitVec.ofInt 64 ((q * P : Nat) : Int)).toNat = q * P := by rw [BitVec.toNat_ofInt]; omega
  rw [BitVec.toNat_or, h1, h2, IntKind.wrap_i64]
  have h3 : X ||| (q * P) = q * P + X := by
    subst hP
    rw [Nat.or_comm, Nat.mul_comm q, ← Nat.two_pow_add_eq_or_of_lt hX q]
  rw [h3]
  simp only [wrap64]
theorem get_step (n : Int) (i : Nat) (hi : i < 8) : bits .or .i64 (wrap64 (n % 2 ^ (8 * i))) (wrap64 (n / 2 ^ (8 * i) % 256 * 2 ^ (8 * i))) = wrap64 (n % 2 ^ (8 * (i + 1))) := by
  have h : i = 0 ∨ i = 1 ∨ i = 2 ∨ i = 3 ∨ i = 4 ∨ i = 5 ∨ i = 6 ∨ i = 7 := by omega
  have go (P : Nat) (j : Nat) (hP : P = 2 ^ j) (hb : P * 256 ≤ 18446744073709551616) (Q : Int) (hQ : Q = (P : Int)) (T : Int) (hT : T = (P * 256 : Nat)) (hT2 : n % T = n / Q % 256 * Q + n % Q) : bits .or .i64 (wrap64 (n % Q)) (wrap64 (n / Q % 256 * Q)) = wrap64 (n % T) := by
    have hP0 : 0 < P := by rw [hP]; exact Nat.two_pow_pos j
    obtain ⟨X, hX⟩ := Int.eq_ofNat_of_zero_le (show 0 ≤ n % Q from Int.emod_nonneg _ (by omega))
    obtain ⟨q, hq⟩ := Int.eq_ofNat_of_zero_le (show 0 ≤ n / Q % 256 from Int.emod_nonneg _ (by decide))
    have hX1 : n % Q < Q := Int.emod_lt_of_pos _ (by omega)
    have hq1 : n / Q % 256 < 256 := Int.emod_lt_of_pos _ (by decide)
    rw [hT2, hX, hq, hQ]
    rw [hX, hQ] at hX1
    rw [hq] at hq1
    have hXl : X < P := by omega
    have hql : q < 256 := by omega
    have hm : q * P + X < 18446744073709551616 := by
      have : (q + 1) * P ≤ 256 * P := Nat.mul_le_mul_right P hql
      rw [Nat.add_mul] at this
      omega
    have := or_parts X q P j hP hXl hm
    rw [← Int.natCast_mul, this]
    rfl
  rcases h with rfl | rfl | rfl | rfl | rfl | rfl | rfl | rfl
  · exact go 1 0 rfl (by decide) _ rfl _ rfl (by show n % 256 = n / 1 % 256 * 1 + n % 1; omega)
  · exact go 256 8 rfl (by decide) _ rfl _ rfl (by show n % 65536 = n / 256 % 256 * 256 + n % 256; omega)
  · exact go 65536 16 rfl (by decide) _ rfl _ rfl (by show n % 16777216 = n / 65536 % 256 * 65536 + n % 65536; omega)
  · exact go 16777216 24 rfl (by decide) _ rfl _ rfl (by show n % 4294967296 = n / 16777216 % 256 * 16777216 + n % 16777216; omega)
  · exact go 4294967296 32 rfl (by decide) _ rfl _ rfl (by show n % 1099511627776 = n / 4294967296 % 256 * 4294967296 + n % 4294967296; omega)
  · exact go 1099511627776 40 rfl (by decide) _ rfl _ rfl (by show n % 281474976710656 = n / 1099511627776 % 256 * 1099511627776 + n % 1099511627776; omega)
  · exact go 281474976710656 48 rfl (by decide) _ rfl _ rfl (by show n % 72057594037927936 = n / 281474976710656 % 256 * 281474976710656 + n % 281474976710656; omega)
  · exact go 72057594037927936 56 rfl (by decide) _ rfl _ rfl (by show n % 18446744073709551616 = n / 72057594037927936 % 256 * 72057594037927936 + n % 72057594037927936; omega)
set_option maxRecDepth 100000 in
set_option maxHeartbeats 3200000 in
theorem get_any (g o b cap : Nat) (n : Int) (w : World) (hb : b ≤ 8) (hcap : b ≤ cap ∧ cap ≤ 9223372036854775807) (hc : ∀ (j : Nat) z, (bytesN n b)[j]? = some z → w.cell? ⟨g, o + j, none⟩ = some (.int .u8 z)) :
    Calls Tryd.prog 80 #[.slice (some ⟨g, o, none⟩) b cap] w fun e w' => e = .returned (.int .i64 (wrap64 (n % 2 ^ (8 * b)))) ∧ w' = w := by
  have HC := Lib.hid hc
  obtain ⟨RR, hRR⟩ : ∃ R, wrap64 (n % 2 ^ (8 * b)) = R := ⟨_, rfl⟩
  rw [hRR]
  have HRR := Lib.hid hRR
  clear hc hRR
  go_enter Tryd.func80, Tryd.ntmps80
  go_wp2_with fail
  go_loopg [3, 8] b (fun gg v3 v wr => ∃ (i : Nat) (x : Int), v3 = .int .i64 x ∧ v = .int .i64 (i : Int) ∧ i ≤ b ∧ gg = b - i ∧ w = wr ∧ Hid (x = wrap64 (n % 2 ^ (8 * i))))
  case atStart => exact ⟨0, 0, rfl, rfl, Nat.zero_le _, rfl, rfl, Lib.hid (by show (0 : Int) = wrap64 (n % 1); rw [Int.emod_one]; unfold wrap64; omega)⟩
  case round =>
    obtain ⟨i, x, rfl, rfl, hi, hgg, rfl, HX⟩ := hrel
    by_cases hlt : i < b
    · have hlt' : (i : Int) < (b : Int) := by omega
      have i0 : (0 : Int) ≤ (i : Int) := by omega
      obtain ⟨z, hz⟩ : ∃ z, n / 2 ^ (8 * i) % 256 = z := ⟨_, rfl⟩
      have c1 := HC.out i z (by rw [bytesN_get n b i hlt, hz])
      have hzb : 0 ≤ z ∧ z < 256 := by rw [← hz]; exact ⟨Int.emod_nonneg _ (by decide), Int.emod_lt_of_pos _ (by decide)⟩
      have HZ := Lib.hid hz
      clear hz
      go_wp2_with fail
      go_roundg (b - (i + 1))
      case rel => exact ⟨i + 1, _, rfl, by go_num, by omega, rfl, rfl, Lib.hid (by rw [HX.out, ← HZ.out]; exact get_step n i (by omega))⟩
      case measure => omega
    · obtain rfl : i = b := by omega
      have hlt' : ¬ (i : Int) < (i : Int) := by omega
      have HE : Hid (x = RR) := Lib.hid (HX.out.trans HRR.out)
      go_wp2_with fail
      go_returns
      exact ⟨ri rfl HE.out, rfl⟩
/-! What is read. -/
theorem wrap_read (b : Nat) (s : Bool) (n : Int) (hn : I64 n) (hb : b = 1 ∨ b = 2 ∨ b = 4 ∨ b = 8) : Wd.wrap (8 * (b : Int)) s (wrap64 (n % 2 ^ (8 * b))) = Wd.wrap (8 * (b : Int)) s n := by
  unfold I64 at hn
  rcases hb with rfl | rfl | rfl | rfl
  · cases s <;> simp [Wd.wrap, wrap64] <;> omega
  · cases s <;> simp [Wd.wrap, wrap64] <;> omega
  · cases s <;> simp [Wd.wrap, wrap64] <;> omega
  · cases s <;> simp [Wd.wrap, wrap64] <;> omega
end Go.Proofs.YtbfjmhfhhlncjaaDoor
/- word.Wrap, of the widths that may be. -/
namespace Go.Proofs.YtbfjmhfhhlncjaaDoor
open Go.RowKit
set_option linter.unusedVariables false
set_option linter.unusedSimpArgs false

set_option maxHeartbeats 400000 in
theorem mwrap_8true (n : Int) (hn : -9223372036854775808 ≤ n ∧ n ≤ 9223372036854775807) (w : World) :
    Calls Tryd.prog 66 #[.agg #[.int .i64 8, .bool true], .int .i64 n] w fun e w' => e = .returned (.int .i64 (Wd.wrap 8 true n)) ∧ Keeps No w w' := by
  go_enter Tryd.func66, Tryd.ntmps66
  go_wp2
  all_goals (go_returns; exact ⟨ri rfl (Wd.k8t n), (Keeps.refl No _).alloc _⟩)
set_option maxHeartbeats 400000 in
theorem mwrap_8false (n : Int) (hn : -9223372036854775808 ≤ n ∧ n ≤ 9223372036854775807) (w : World) :
    Calls Tryd.prog 66 #[.agg #[.int .i64 8, .bool false], .int .i64 n] w fun e w' => e = .returned (.int .i64 (Wd.wrap 8 false n)) ∧ Keeps No w w' := by
  go_enter Tryd.func66, Tryd.ntmps66
  go_wp2
  all_goals (go_returns; exact ⟨ri rfl (Wd.k8f n), (Keeps.refl No _).alloc _⟩)
set_option maxHeartbeats 400000 in
theorem mwrap_16true (n : Int) (hn : -9223372036854775808 ≤ n ∧ n ≤ 9223372036854775807) (w : World) :
    Calls Tryd.prog 66 #[.agg #[.int .i64 16, .bool true], .int .i64 n] w fun e w' => e = .returned (.int .i64 (Wd.wrap 16 true n)) ∧ Keeps No w w' := by
  go_enter Tryd.func66, Tryd.ntmps66
  go_wp2
  all_goals (go_returns; exact ⟨ri rfl (Wd.k16t n), (Keeps.refl No _).alloc _⟩)
set_option maxHeartbeats 400000 in
theorem mwrap_16false (n : Int) (hn : -9223372036854775808 ≤ n ∧ n ≤ 9223372036854775807) (w : World) :
    Calls Tryd.prog 66 #[.agg #[.int .i64 16, .bool false], .int .i64 n] w fun e w' => e = .returned (.int .i64 (Wd.wrap 16 false n)) ∧ Keeps No w w' := by
  go_enter Tryd.func66, Tryd.ntmps66
  go_wp2
  all_goals (go_returns; exact ⟨ri rfl (Wd.k16f n), (Keeps.refl No _).alloc _⟩)
set_option maxHeartbeats 400000 in
theorem mwrap_32true (n : Int) (hn : -9223372036854775808 ≤ n ∧ n ≤ 9223372036854775807) (w : World) :
    Calls Tryd.prog 66 #[.agg #[.int .i64 32, .bool true], .int .i64 n] w fun e w' => e = .returned (.int .i64 (Wd.wrap 32 true n)) ∧ Keeps No w w' := by
  go_enter Tryd.func66, Tryd.ntmps66
  go_wp2
  all_goals (go_returns; exact ⟨ri rfl (Wd.k32t n), (Keeps.refl No _).alloc _⟩)
set_option maxHeartbeats 400000 in
theorem mwrap_32false (n : Int) (hn : -9223372036854775808 ≤ n ∧ n ≤ 9223372036854775807) (w : World) :
    Calls Tryd.prog 66 #[.agg #[.int .i64 32, .bool false], .int .i64 n] w fun e w' => e = .returned (.int .i64 (Wd.wrap 32 false n)) ∧ Keeps No w w' := by
  go_enter Tryd.func66, Tryd.ntmps66
  go_wp2
  all_goals (go_returns; exact ⟨ri rfl (rfl), (Keeps.refl No _).alloc _⟩)
set_option maxHeartbeats 400000 in
theorem mwrap_64true (n : Int) (hn : -9223372036854775808 ≤ n ∧ n ≤ 9223372036854775807) (w : World) :
    Calls Tryd.prog 66 #[.agg #[.int .i64 64, .bool true], .int .i64 n] w fun e w' => e = .returned (.int .i64 (Wd.wrap 64 true n)) ∧ Keeps No w w' := by
  go_enter Tryd.func66, Tryd.ntmps66
  go_wp2
  all_goals (go_returns; exact ⟨ri rfl (rfl), (Keeps.refl No _).alloc _⟩)
set_option maxHeartbeats 400000 in
theorem mwrap_64false (n : Int) (hn : -9223372036854775808 ≤ n ∧ n ≤ 9223372036854775807) (w : World) :
    Calls Tryd.prog 66 #[.agg #[.int .i64 64, .bool false], .int .i64 n] w fun e w' => e = .returned (.int .i64 (Wd.wrap 64 false n)) ∧ Keeps No w w' := by
  go_enter Tryd.func66, Tryd.ntmps66
  go_wp2
  all_goals (go_returns; exact ⟨ri rfl (rfl), (Keeps.refl No _).alloc _⟩)
theorem mwrap (b : Int) (s : Bool) (hb : b = 8 ∨ b = 16 ∨ b = 32 ∨ b = 64) (n A : Int) (hn : I64 n) (HA : Hid (Wd.wrap b s n = A)) (w : World) :
    Calls Tryd.prog 66 #[.agg #[.int .i64 b, .bool s], .int .i64 n] w fun e w' => e = .returned (.int .i64 A) ∧ Keeps No w w' := by
  have h := HA.out
  subst h
  unfold I64 at hn
  rcases hb with rfl | rfl | rfl | rfl <;> cases s
  · exact mwrap_8false n hn w
  · exact mwrap_8true n hn w
  · exact mwrap_16false n hn w
  · exact mwrap_16true n hn w
  · exact mwrap_32false n hn w
  · exact mwrap_32true n hn w
  · exact mwrap_64false n hn w
  · exact mwrap_64true n hn w
end Go.Proofs.YtbfjmhfhhlncjaaDoor
/- A run's memory: the stack, the globals; bytes. -/
namespace Go.Proofs.YtbfjmhfhhlncjaaDoor
open Go.RowKit
set_option linter.unusedVariables false
set_option linter.unusedSimpArgs false

def laidI (sk : List Int) (o : Nat) (l : List Int) : List Int := sk.take o ++ (l ++ sk.drop (o + l.length))
theorem laidI_len (sk : List Int) (o : Nat) (l : List Int) (h : o + l.length ≤ sk.length) : (laidI sk o l).length = sk.length := by unfold laidI; simp; omega
theorem laidI_get (sk : List Int) (o : Nat) (l : List Int) (h : o + l.length ≤ sk.length) (j : Nat) (hj : j < l.length) : (laidI sk o l)[o + j]? = l[j]? := by
  unfold laidI
  have h1 : (sk.take o).length = o := by rw [List.length_take]; omega
  rw [List.getElem?_append_right (by omega), h1, show o + j - o = j by omega, List.getElem?_append_left hj]
theorem laidB_take (cur : List Value) (sk : List Int) (N o : Nat) (l : List Int) (hN : sk.length = N) (hc : cur.take N = brow sk) (h : o + l.length ≤ N) : (laidB cur o l).take N = brow (laidI sk o l) := by
  have hcl : N ≤ cur.length := by have := congrArg List.length hc; rw [List.length_take, brow_len, hN] at this; omega
  have e1 : cur = brow sk ++ cur.drop N := by rw [← hc, List.take_append_drop]
  unfold laidB laidI
  have t1 : cur.take o = brow (sk.take o) := by
    rw [e1, List.take_append_of_le_length (by rw [brow_len]; omega)]; unfold brow; rw [List.map_take]
  have t2 : cur.drop (o + l.length) = brow (sk.drop (o + l.length)) ++ cur.drop N := by
    conv => lhs; rw [e1]
    rw [List.drop_append_of_le_length (by rw [brow_len]; omega)]; unfold brow; rw [List.map_drop]
  rw [t1, t2, brow_app, brow_app, ← List.append_assoc (brow l), ← List.append_assoc (brow (sk.take o))]
  rw [List.take_append_of_le_length (by simp [brow_len]; omega), List.take_of_length_le (by simp [brow_len]; omega)]
section
variable {X : Sx} {w w' : World} {c : Cs} {s : St}
/-- A row of bytes, opened. -/
theorem own_cur {B n : Nat} {v : Value} {xs : List Value} (h : w.ownsRow B 5 1 v n xs) (hn : 0 < n) : ∃ g cap cur, v = .slice (some ⟨g, 0, none⟩) n cap ∧ B ≤ g ∧ w.heap[g]? = some (.cells cur 5 (0, 0)) ∧ n ≤ cap ∧ cap ≤ maxLen ∧ cur.size = cap ∧ cur.toList.take n = xs := by
  rcases h.2 with ⟨_, h0⟩ | ⟨g, cap, cur, e, hB, hg, h1, h2, h3, h4⟩
  · omega
  · exact ⟨g, cap, cur, e, hB, hg, h1, h2, by simpa using h3, by simpa using h4⟩
theorem own_mk {B g n cap : Nat} {cur : List Value} {xs : List Value} (hB : B ≤ g) (hg : w.heap[g]? = some (.cells cur.toArray 5 (0, 0))) (h1 : n ≤ cap) (h2 : cap ≤ maxLen) (h3 : cur.length = cap) (h4 : cur.take n = xs) : w.ownsRow B 5 1 (.slice (some ⟨g, 0, none⟩) n cap) n xs :=
  ⟨by rw [← h4, List.length_take]; omega, .inr ⟨g, cap, cur.toArray, rfl, hB, hg, h1, h2, by simpa using h3, by simpa using h4⟩⟩
theorem MAt.newK (h : MAt X w c s) {g cap N : Nat} (hg : c.sk = .slice (some ⟨g, 0, none⟩) N cap) (hN : s.sk.length = N) (sk' : List Int) (hl : sk'.length = N) (ho : w'.ownsRow X.B 5 1 (.slice (some ⟨g, 0, none⟩) N cap) N (brow sk'))
    (hk : Keeps (fun q => q = g) w w') : MAt X w' c { s with sk := sk' } := by
  have R := h.rows
  have hq : c.sk.ownBlock = some g := by rw [hg]; rfl
  have hM : X.M ≠ g := fun e => own_ne R.k h.row (by decide) (by rw [hq, e])
  have hB := (R.k.lt g hq).1
  have row : w'.heap[X.M]? = some (.cells (mcells X c { s with sk := sk' }) 84 (0, 0)) := (hk.block X.M (Array.getElem?_eq_some_iff.1 h.row).1 hM).trans h.row
  refine ⟨row, ⟨keeps_row R.f hk (fun q hq' e => own_ne2 R.f R.k (by decide) hq (by rw [← e]; exact hq')), keeps_row R.r hk (fun q hq' e => own_ne2 R.r R.k (by decide) hq (by rw [← e]; exact hq')), keeps_row R.o hk (fun q hq' e => R.d2 q hq' (by rw [hq, e])), keeps_row R.t hk (fun q hq' e => R.d3 q hq' (by rw [hq, e])), ?_, ?_, R.k1.trans hk (fun q _ e => by subst e; exact ⟨hB, R.nk q hq⟩), R.nf, R.nr, R.no, R.nt, R.nk, R.d1, R.d2, R.d3⟩, h.hM, h.fx⟩
  · rw [hg, hl]; exact ho
  · refine ⟨hk.os.trans R.k0.os, hk.tape.trans R.k0.tape, hk.output.trans R.k0.output, Nat.le_trans R.k0.size hk.size, fun k hk' _ => (hk.block k (Nat.lt_of_lt_of_le hk' R.k0.size) (fun e => ?_)).trans (R.k0.block k hk' (fun e => e))⟩
    subst e; exact absurd hk' (Nat.not_lt.2 hB)
theorem MAt.newT (h : MAt X w c s) {g cap N : Nat} (hg : c.dt = .slice (some ⟨g, 0, none⟩) N cap) (hN : s.dt.length = N) (dt' : List Int) (hl : dt'.length = N) (ho : w'.ownsRow X.B 5 1 (.slice (some ⟨g, 0, none⟩) N cap) N (brow dt'))
    (hk : Keeps (fun q => q = g) w w') : MAt X w' c { s with dt := dt' } := by
  have R := h.rows
  have hq : c.dt.ownBlock = some g := by rw [hg]; rfl
  have hM : X.M ≠ g := fun e => own_ne R.t h.row (by decide) (by rw [hq, e])
  have hB := (R.t.lt g hq).1
  have row : w'.heap[X.M]? = some (.cells (mcells X c { s with dt := dt' }) 84 (0, 0)) := (hk.block X.M (Array.getElem?_eq_some_iff.1 h.row).1 hM).trans h.row
  refine ⟨row, ⟨keeps_row R.f hk (fun q hq' e => own_ne2 R.f R.t (by decide) hq (by rw [← e]; exact hq')), keeps_row R.r hk (fun q hq' e => own_ne2 R.r R.t (by decide) hq (by rw [← e]; exact hq')), keeps_row R.o hk (fun q hq' e => R.d1 q hq' (by rw [hq, e])), ?_, keeps_row R.k hk (fun q hq' e => R.d3 g hq (by rw [← e]; exact hq')), ?_, R.k1.trans hk (fun q _ e => by subst e; exact ⟨hB, R.nt q hq⟩), R.nf, R.nr, R.no, R.nt, R.nk, R.d1, R.d2, R.d3⟩, h.hM, h.fx⟩
  · rw [hg, hl]; exact ho
  · refine ⟨hk.os.trans R.k0.os, hk.tape.trans R.k0.tape, hk.output.trans R.k0.output, Nat.le_trans R.k0.size hk.size, fun k hk' _ => (hk.block k (Nat.lt_of_lt_of_le hk' R.k0.size) (fun e => ?_)).trans (R.k0.block k hk' (fun e => e))⟩
    subst e; exact absurd hk' (Nat.not_lt.2 hB)
end
/-- What is known of the memory of the law's program. -/
structure SxM (X : Sx) : Prop where
  st : ∃ sb sc, X.st = .slice (some ⟨sb, 0, none⟩) 1 sc ∧ (1 ≤ sc ∧ sc ≤ maxLen) ∧ X.Fx sb ∧ X.w1.cell? ⟨sb, 0, none⟩ = some (.int .i64 0)
  sl : ∃ lb lc ib ic, X.sl = .slice (some ⟨lb, 0, none⟩) 1 lc ∧ (1 ≤ lc ∧ lc ≤ maxLen) ∧ X.Fx lb ∧ X.w1.cell? ⟨lb, 0, none⟩ = some (.slice (some ⟨ib, 0, none⟩) 1 ic) ∧ (1 ≤ ic ∧ ic ≤ maxLen) ∧ X.Fx ib ∧ X.w1.cell? ⟨ib, 0, none⟩ = some (.int .i64 32)
  gn : X.P.gn = 1
  gl : ∃ g, X.P.gl = [g] ∧ g.size = 24
theorem SxM.keep {X : Sx} {w : World} {c : Cs} {s : St} (h : MAt X w c s) {b : Nat} {j : Nat} {v : Value} (hb : X.Fx b) (hc : X.w1.cell? ⟨b, j, none⟩ = some v) : w.cell? ⟨b, j, none⟩ = some v :=
  h.rows.k1.cell hc (fun e => e.2 hb)
set_option maxRecDepth 100000 in
set_option maxHeartbeats 3200000 in
theorem bytes_stack (X : Sx) (w : World) (c : Cs) (s : St) (h : MAt X w c s) (k : Nat) (f : Fr1) (hl : s.fs.length = k + 1) (hk : k ≤ 1000000) (hf : s.fs[k]? = some f) (hlow : 15728640 ≤ f.low) (g cap : Nat) (hg : c.sk = .slice (some ⟨g, 0, none⟩) 1048576 cap) (hcap : 1048576 ≤ cap ∧ cap ≤ maxLen) (o n : Nat) (hn : 1 ≤ n ∧ n ≤ 8) (hon : o + n ≤ 1048576) (hlo : f.low ≤ 15728640 + (o : Int)) :
    Calls Tryd.prog 79 #[.pointer (some ⟨X.M, 0, none⟩), .int .i64 (15728640 + (o : Int)), .int .i64 (n : Int)] w fun e w' => e = .returned (.slice (some ⟨g, o, none⟩) n (cap - o)) ∧ ∃ m, w.drewN m = w' := by
  obtain ⟨fg, fcap, e1, e2, e3⟩ := h.fform (by rw [hl]; omega)
  have c1 : w.cell? ⟨X.M, 1, none⟩ = some c.fs := h.cell 1 _ rfl
  have c6 : w.cell? ⟨X.M, 6, none⟩ = some c.sk := h.cell 6 _ rfl
  have d6 := h.fcell e1 hf 6 _ rfl
  rw [hl] at e1 e2
  rw [e1] at c1
  rw [hg] at c6
  unfold maxLen at e3 hcap
  have H6 := Lib.hid (fun m : Nat => (h.drewN m).cell 6 c.sk rfl)
  rw [hg] at H6
  obtain ⟨lo, hlo'⟩ : ∃ l, f.low = l := ⟨_, rfl⟩
  rw [hlo'] at d6 hlow hlo
  clear h hl hf e1 hg hlo'
  have h1 : ((15728640 : Int) + (o : Int)) ≤ 16777216 - (n : Int) := by omega
  have h2 : (15728640 : Int) + (o : Int) - 15728640 = (o : Int) := by omega
  have h3 : ¬ cap = o := by omega
  have h4 : (o : Int) + (n : Int) ≤ (cap : Int) := by omega
  have h5 : (o : Int) ≤ (o : Int) + (n : Int) := by omega
  have h6 : ((o : Int) + (n : Int)).toNat = o + n := by omega
  go_enter Tryd.func79, Tryd.ntmps79
  go_wp2_with fail
  go_quiet (fail)
  have b6 := H6.out nq
  go_wp2_with fail
  go_returns
  exact ⟨rfl, nq, rfl⟩
set_option maxRecDepth 100000 in
theorem less_zero (z : Int) (w : World) : Calls Tryd.prog 97 #[.int .i64 0, .int .i64 z] w fun e w' => e = .returned (.bool (decide (0 < z))) ∧ w = w' := by
  have HN : ∀ x : Int, Calls Tryd.prog 100 #[.int .i64 x] w fun e w' => e = .returned (.bool false) ∧ w = w' := fun x => by
    have e : (x != x) = false := by simp
    go_enter Tryd.func100, Tryd.ntmps100
    go_wp2_with fail
    go_returns
    exact ⟨rfl, rfl⟩
  have HNN := Lib.hid HN
  obtain ⟨Z, hZ⟩ : ∃ Z, decide (0 < z) = Z := ⟨_, rfl⟩
  rw [hZ]
  clear HN
  go_enter Tryd.func97, Tryd.ntmps97
  go_wp2_with fail
  refine (HNN.out 0).mono ?_
  rintro e w1 ⟨rfl, rfl⟩
  go_wp2_with fail
  go_returns
  exact ⟨rb rfl rfl, rfl⟩
set_option maxRecDepth 100000 in
set_option maxHeartbeats 3200000 in
theorem search_one (sb sc : Nat) (hsc : 1 ≤ sc ∧ sc ≤ maxLen) (w : World) (hc : w.cell? ⟨sb, 0, none⟩ = some (.int .i64 0)) (z : Nat) (i : Int) (hi : i = if z = 0 then 0 else 1) (fd : Bool) (hfd : fd = decide (z = 0)) :
    Calls Tryd.prog 90 #[.slice (some ⟨sb, 0, none⟩) 1 sc, .int .i64 (z : Int)] w fun e w' => e = .returned (.tuple #[.int .i64 i, .bool fd]) ∧ w = w' := by
  unfold maxLen at hsc
  have HL := Lib.hid (less_zero (z : Int) w)
  go_enter Tryd.func90, Tryd.ntmps90
  go_wp2_with fail
  go_loopg [7, 8, 9] 1 (fun gg v7 v8 v9 wr => w = wr ∧ ((v7 = .int .i64 0 ∧ v8 = .int .i64 1 ∧ gg = 1) ∨ (v7 = .int .i64 i ∧ v8 = .int .i64 i ∧ gg = 0)))
  case atStart => exact ⟨rfl, .inl ⟨rfl, rfl, rfl⟩⟩
  case round =>
    obtain ⟨rfl, ⟨rfl, rfl, rfl⟩ | ⟨rfl, rfl, rfl⟩⟩ := hrel
    · go_wp2_with fail
      refine HL.out.mono ?_
      rintro e w1 ⟨rfl, rfl⟩
      by_cases hz : z = 0
      · subst hz
        rw [if_pos rfl] at hi
        subst hi
        go_wp2_with fail
        go_roundg 0
        case rel => exact ⟨rfl, .inr ⟨rfl, rfl, rfl⟩⟩
        case measure => omega
      · have hz1 : (0 : Int) < (z : Int) := by omega
        rw [if_neg hz] at hi
        subst hi
        go_wp2_with fail
        go_roundg 0
        case rel => exact ⟨rfl, .inr ⟨rfl, rfl, rfl⟩⟩
        case measure => omega
    · by_cases hz : z = 0
      · subst hz
        rw [if_pos rfl] at hi
        have hfd' : fd = true := hfd
        clear hfd
        subst hi
        subst hfd'
        go_wp2_with fail
        go_returns
        exact ⟨rfl, rfl⟩
      · rw [if_neg hz] at hi
        have hfd' : fd = false := by rw [hfd]; exact decide_eq_false hz
        clear hfd hz
        subst hi
        subst hfd'
        go_wp2_with fail
        go_returns
        exact ⟨rfl, rfl⟩
end Go.Proofs.YtbfjmhfhhlncjaaDoor
/- A run's memory: bytes of the globals; nothing there. -/
namespace Go.Proofs.YtbfjmhfhhlncjaaDoor
open Go.RowKit
set_option linter.unusedVariables false
set_option linter.unusedSimpArgs false

set_option maxRecDepth 100000 in
set_option maxHeartbeats 3200000 in
theorem bytes_far (X : Sx) (w : World) (c : Cs) (s : St) (h : MAt X w c s) (k : Nat) (f : Fr1) (hl : s.fs.length = k + 1) (hk : k ≤ 1000000) (hf : s.fs[k]? = some f) (hd : s.dt.length = 32) (z : Int) (n : Nat) (hn : 1 ≤ n ∧ n ≤ 8) (hz : -1000 ≤ z ∧ z ≤ 100000000) (hlo : z < f.low ∨ 16777216 - (n : Int) < z) (hfar : z < 65536 ∨ 65568 ≤ z) :
    Calls Tryd.prog 79 #[.pointer (some ⟨X.M, 0, none⟩), .int .i64 z, .int .i64 (n : Int)] w fun e w' => e = .returned (.slice none 0 0) ∧ ∃ m, w.drewN m = w' := by
  obtain ⟨fg, fcap, e1, e2, e3⟩ := h.fform (by rw [hl]; omega)
  obtain ⟨tg, tcap, tcur, t1, _, _, t2, t3, _⟩ := own_cur h.rows.t (by omega)
  have c1 : w.cell? ⟨X.M, 1, none⟩ = some c.fs := h.cell 1 _ rfl
  have d6 := h.fcell e1 hf 6 _ rfl
  rw [hl] at e1 e2
  rw [e1] at c1
  rw [hd] at t1
  unfold maxLen at e3 t3
  have H6 := Lib.hid (fun m : Nat => (h.drewN m).cell 5 c.dt rfl)
  rw [t1] at H6
  obtain ⟨lo, hlo'⟩ : ∃ l, f.low = l := ⟨_, rfl⟩
  rw [hlo'] at d6 hlo
  clear h hl hf e1 t1 hlo' hd
  go_enter Tryd.func79, Tryd.ntmps79
  go_wp2_with fail
  go_quiet (fail)
  have b6 := H6.out nq
  by_cases h1 : lo ≤ z
  · have h2 : ¬ z ≤ 16777216 - (n : Int) := by omega
    rcases hfar with hfar | hfar
    · have h3 : z - 65536 < 0 := by omega
      clear hlo hfar
      go_wp2_with fail
      go_returns
      exact ⟨rfl, nq, rfl⟩
    · have h3 : ¬ z - 65536 < 0 := by omega
      have h4 : (32 : Int) ≤ z - 65536 := by omega
      clear hlo hfar
      go_wp2_with fail
      go_returns
      exact ⟨rfl, nq, rfl⟩
  · rcases hfar with hfar | hfar
    · have h3 : z - 65536 < 0 := by omega
      clear hlo hfar
      go_wp2_with fail
      go_returns
      exact ⟨rfl, nq, rfl⟩
    · have h3 : ¬ z - 65536 < 0 := by omega
      have h4 : (32 : Int) ≤ z - 65536 := by omega
      clear hlo hfar
      go_wp2_with fail
      go_returns
      exact ⟨rfl, nq, rfl⟩
/-- The data's slice, in memory. -/
theorem SxM.glob {X : Sx} (hM : SxM X) (hX : SxOk X) : ∃ gb go_ gc, (1 ≤ gc ∧ gc ≤ maxLen) ∧ ∀ W, Keeps No X.w0 W → W.cell? ⟨X.pb, 0, none⟩ = some (.slice (some ⟨gb, go_, none⟩) 1 gc) ∧ W.cell? ⟨gb, go_ + 1, none⟩ = some (.int .i64 24) := by
  have hP := hX.pok
  obtain ⟨g, hg, hs⟩ := hM.gl
  obtain ⟨gb, go_, e, hc⟩ := hP.gat (by rw [hM.gn]; omega)
  have hc1 := hc 0 g (by rw [hg]; rfl) 1 _ rfl
  have hcap := hP.gcap
  rw [hM.gn] at hcap
  refine ⟨gb, go_, X.P.gc, hcap, fun W hW => ?_⟩
  have p0 := hW.cell0 (hX.pat 0 _ rfl)
  rw [e, hM.gn] at p0
  have p1 := hW.cell0 hc1
  rw [hs] at p1
  simp only [Nat.zero_mul, Nat.add_zero] at p0 p1
  exact ⟨p0, p1⟩
set_option maxRecDepth 100000 in
set_option maxHeartbeats 3200000 in
theorem bytes_data (X : Sx) (hX : SxOk X) (hXM : SxM X) (w : World) (c : Cs) (s : St) (h : MAt X w c s) (k : Nat) (f : Fr1) (hl : s.fs.length = k + 1) (hk : k ≤ 1000000) (hf : s.fs[k]? = some f) (hlow : 15728640 ≤ f.low) (tg tcap : Nat) (t1 : c.dt = .slice (some ⟨tg, 0, none⟩) 32 tcap) (htc : 32 ≤ tcap ∧ tcap ≤ maxLen) (o n : Nat) (hn : 1 ≤ n ∧ n ≤ 8) (ho : o < 32) (V : Value) (hV : V = if o + n ≤ 24 then .slice (some ⟨tg, o, none⟩) n (tcap - o) else .slice none 0 0) :
    Calls Tryd.prog 79 #[.pointer (some ⟨X.M, 0, none⟩), .int .i64 (65536 + (o : Int)), .int .i64 (n : Int)] w fun e w' => e = .returned V ∧ ∃ m, w.drewN m = w' := by
  obtain ⟨fg, fcap, e1, e2, e3⟩ := h.fform (by rw [hl]; omega)
  obtain ⟨sb, sc, s1, s2, s3, s4⟩ := hXM.st
  obtain ⟨gb, go_, gc, g1, g2⟩ := hXM.glob hX
  have c1 : w.cell? ⟨X.M, 1, none⟩ = some c.fs := h.cell 1 _ rfl
  have d6 := h.fcell e1 hf 6 _ rfl
  rw [hl] at e1 e2
  rw [e1] at c1
  have HSS := Lib.hid (fun m : Nat => search_one sb sc s2 (w.drewN m) (SxM.keep (h.drewN m) s3 s4) o (if o = 0 then 0 else 1) rfl (decide (o = 0)) rfl)
  unfold maxLen at e3 s2 g1 htc
  have H6 := Lib.hid (fun m : Nat => (h.drewN m).cell 5 c.dt rfl)
  rw [t1] at H6
  have H3 := Lib.hid (fun m : Nat => (h.drewN m).cell 3 X.st rfl)
  rw [s1] at H3
  have HB0 := Lib.hid (And.intro (h.cell 0 (.pointer (some ⟨X.pb, 0, none⟩)) rfl) (And.intro (h.cell 3 X.st rfl) (And.intro (SxM.keep h s3 s4) (g2 _ h.rows.k0))))
  rw [s1] at HB0
  obtain ⟨lo, hlo'⟩ : ∃ l, f.low = l := ⟨_, rfl⟩
  rw [hlo'] at d6 hlow
  clear h hl hf e1 t1 hlo' s1 s3 s4 g2 hX hXM
  have h1 : ¬ lo ≤ 65536 + (o : Int) := by omega
  have h2 : (65536 : Int) + (o : Int) - 65536 = (o : Int) := by omega
  have h3 : ¬ (o : Int) < 0 := by omega
  have h4 : ¬ (32 : Int) ≤ (o : Int) := by omega
  go_enter Tryd.func79, Tryd.ntmps79
  go_wp2_with fail
  go_quiet (fail)
  generalize nq = n1
  have b5 := H6.out n1
  have b3 := H3.out n1
  go_wp2_with fail
  refine (HSS.out n1).mono ?_
  rintro e w1 ⟨rfl, rfl⟩
  obtain ⟨b0, b30, bs, q0, q1⟩ := HB0.out
  by_cases ho0 : o = 0
  · rw [if_pos ho0]
    have hd : decide (o = 0) = true := decide_eq_true ho0
    rw [hd]
    clear hd ho0
    by_cases hon : o + n ≤ 24
    · rw [if_pos hon] at hV
      subst hV
      have h5 : ¬ ((24 : Int) < (o : Int) + (n : Int)) := by omega
      have h6 : (o : Int) + (n : Int) ≤ (tcap : Int) := by omega
      have h7 : (o : Int) ≤ (o : Int) + (n : Int) := by omega
      have h8 : ((o : Int) + (n : Int)).toNat = o + n := by omega
      have h9 : ¬ tcap = o := by omega
      go_wp2_with fail
      go_quiet (fail)
      have b5' := H6.out (n1 + nq)
      go_wp2_with fail
      go_returns
      exact ⟨rfl, n1 + nq, by first | rfl | rw [World.drewN_drewN]⟩
    · rw [if_neg hon] at hV
      subst hV
      have h5 : ((24 : Int) < (o : Int) + (n : Int)) := by omega
      go_wp2_with fail
      go_quiet (fail)
      go_wp2_with fail
      go_returns
      exact ⟨rfl, n1 + nq, by first | rfl | rw [World.drewN_drewN]⟩
  · rw [if_neg ho0]
    have hd : decide (o = 0) = false := decide_eq_false ho0
    rw [hd]
    clear hd ho0
    by_cases hon : o + n ≤ 24
    · rw [if_pos hon] at hV
      subst hV
      have h5 : ¬ ((24 : Int) < (o : Int) + (n : Int)) := by omega
      have h6 : (o : Int) + (n : Int) ≤ (tcap : Int) := by omega
      have h7 : (o : Int) ≤ (o : Int) + (n : Int) := by omega
      have h8 : ((o : Int) + (n : Int)).toNat = o + n := by omega
      have h9 : ¬ tcap = o := by omega
      go_wp2_with fail
      go_quiet (fail)
      have b5' := H6.out (n1 + nq)
      go_wp2_with fail
      go_returns
      exact ⟨rfl, n1 + nq, by first | rfl | rw [World.drewN_drewN]⟩
    · rw [if_neg hon] at hV
      subst hV
      have h5 : ((24 : Int) < (o : Int) + (n : Int)) := by omega
      go_wp2_with fail
      go_quiet (fail)
      go_wp2_with fail
      go_returns
      exact ⟨rfl, n1 + nq, by first | rfl | rw [World.drewN_drewN]⟩
end Go.Proofs.YtbfjmhfhhlncjaaDoor
/- A run's memory: touch. -/
namespace Go.Proofs.YtbfjmhfhhlncjaaDoor
open Go.RowKit
set_option linter.unusedVariables false
set_option linter.unusedSimpArgs false

theorem quiet_drawn {P : Program} {f : FuncId} {args : Array Value} {W : World} {v : Value} {n : Nat} (c : ∀ m, Calls P f args (W.drewN m) fun e w' => e = .returned v ∧ ∃ m', (W.drewN m).drewN m' = w') :
    Calls P f args (W.drewN n) fun e w'' => e = .returned v ∧ ∃ m, w'' = W.drewN m := (c n).mono fun _ _ h => by
  obtain ⟨h1, m', h2⟩ := h
  exact ⟨h1, n + m', by rw [← h2, World.drewN_drewN]⟩
def BytesTo (X : Sx) (w : World) (z : Int) (n : Nat) (V : Value) : Prop := ∀ m, Calls Tryd.prog 79 #[.pointer (some ⟨X.M, 0, none⟩), .int .i64 z, .int .i64 (n : Int)] (w.drewN m) fun e w' => e = .returned V ∧ ∃ m', (w.drewN m).drewN m' = w'
set_option maxRecDepth 100000 in
set_option maxHeartbeats 3200000 in
theorem touch_no (X : Sx) (w : World) (c : Cs) (s : St) (h : MAt X w c s) (ib io rb base ln rc a n : Nat) (z : Int) (hn : 1 ≤ n ∧ n ≤ 8) (hx3 : w.cell? ⟨ib, io + 3, none⟩ = some (.int .i64 a)) (hx6 : w.cell? ⟨ib, io + 6, none⟩ = some (.int .i64 (8 * (n : Int)))) (ha : a < ln) (hl : ln ≤ 1000000) (hz : w.cell? ⟨rb, base + a, none⟩ = some (.int .i64 z)) (HB : BytesTo X w z n (.slice none 0 0)) :
    Calls Tryd.prog 67 #[.pointer (some ⟨X.M, 0, none⟩), .pointer (some ⟨ib, io, none⟩), .slice (some ⟨rb, base, none⟩) ln rc] w (StepTo X (s.stop 2 0)) := by
  have HBB := Lib.hid HB
  have HS := Lib.hid (fun m : Nat => stop_any X (w.drewN m) c s (h.drewN m) 2 0)
  have ha1 : (a : Int) < (ln : Int) := by omega
  have ha0 : (0 : Int) ≤ (a : Int) := by omega
  have h8 : (8 * (n : Int)).tdiv 8 = (n : Int) := by rw [Int.mul_comm]; exact Int.mul_tdiv_cancel _ (by decide)
  have q34 : ∀ (w : World) (a : Option Addr) (n c n' c' : Nat), (binOp .eql 55 (.slice a n c) (.slice none n' c')).run Tryd.prog w = .ok (.bool a.isNone) w := fun w a n c n' c' => Lib.run_eql_slice_nil w _ _ a n c n' c' Tryd.underlying55
  clear h HB
  go_enter Tryd.func67, Tryd.ntmps67
  go_wp2_with fail
  go_quiet ((go_at_call 79; exact quiet_drawn HBB.out))
  go_wp2_with fail
  refine (HS.out nq).mono ?_
  rintro e w1 ⟨rfl, h1⟩
  have H1 := Lib.hid h1
  clear h1
  go_wp2_with fail
  go_returns
  exact ⟨rfl, _, H1.out⟩
set_option maxRecDepth 100000 in
set_option maxHeartbeats 3200000 in
theorem touch_store (X : Sx) (w : World) (c : Cs) (s s' : St) (ib io rb base ln rc a b_ n g o cap : Nat) (z zb : Int) (hn : 1 ≤ n ∧ n ≤ 8) (hx0 : w.cell? ⟨ib, io, none⟩ = some (.int .i64 6)) (hx3 : w.cell? ⟨ib, io + 3, none⟩ = some (.int .i64 a)) (hx4 : w.cell? ⟨ib, io + 4, none⟩ = some (.int .i64 b_)) (hx6 : w.cell? ⟨ib, io + 6, none⟩ = some (.int .i64 (8 * (n : Int)))) (ha : a < ln) (hb : b_ < ln) (hl : ln ≤ 1000000)
    (hz : w.cell? ⟨rb, base + a, none⟩ = some (.int .i64 z)) (hzb : w.cell? ⟨rb, base + b_, none⟩ = some (.int .i64 zb)) (hib : I64 zb) (HB : BytesTo X w z n (.slice (some ⟨g, o, none⟩) n cap)) (hcap : n ≤ cap ∧ cap ≤ 9223372036854775807)
    (cur : List Value) (hg : w.heap[g]? = some (.cells cur.toArray 5 (0, 0))) (hfit : o + n ≤ cur.length)
    (hfin : ∀ w', w'.heap[g]? = some (.cells (laidB cur o (bytesN zb n)).toArray 5 (0, 0)) → Keeps (fun q => q = g) w w' → ∃ c', MAt X w' c' s') :
    Calls Tryd.prog 67 #[.pointer (some ⟨X.M, 0, none⟩), .pointer (some ⟨ib, io, none⟩), .slice (some ⟨rb, base, none⟩) ln rc] w (StepTo X s') := by
  have HBB := Lib.hid HB
  have HP := Lib.hid (fun m : Nat => put_any g o n cap zb hib (w.drewN m) hn.2 hcap cur hg hfit)
  have HF := Lib.hid hfin
  have ha1 : (a : Int) < (ln : Int) := by omega
  have ha0 : (0 : Int) ≤ (a : Int) := by omega
  have hb1 : (b_ : Int) < (ln : Int) := by omega
  have hb0 : (0 : Int) ≤ (b_ : Int) := by omega
  have h8 : (8 * (n : Int)).tdiv 8 = (n : Int) := by rw [Int.mul_comm]; exact Int.mul_tdiv_cancel _ (by decide)
  have q34 : ∀ (w : World) (a : Option Addr) (n c n' c' : Nat), (binOp .eql 55 (.slice a n c) (.slice none n' c')).run Tryd.prog w = .ok (.bool a.isNone) w := fun w a n c n' c' => Lib.run_eql_slice_nil w _ _ a n c n' c' Tryd.underlying55
  clear HB hg hfin hcap hfit
  go_enter Tryd.func67, Tryd.ntmps67
  go_wp2_with fail
  go_quiet ((go_at_call 79; exact quiet_drawn HBB.out))
  go_wp2_with fail
  refine (HP.out nq).mono ?_
  rintro e w1 ⟨rfl, h1, h2⟩
  obtain ⟨c', h3⟩ := HF.out w1 h1 (((Keeps.refl (fun q => q = g) w).drewN nq).trans h2 (fun _ _ e => e))
  have H3 := Lib.hid h3
  clear h1 h2 h3
  go_wp2_with fail
  go_returns
  exact ⟨rfl, _, H3.out⟩
set_option maxRecDepth 100000 in
set_option maxHeartbeats 6400000 in
theorem touch_load (X : Sx) (w : World) (c : Cs) (s s' : St) (ib io rb base ln rc a d n g o cap : Nat) (z zb V bits : Int) (sg : Bool) (hn : 1 ≤ n ∧ n ≤ 8) (hbits : bits = 8 * (n : Int)) (hbv : bits = 8 ∨ bits = 16 ∨ bits = 32 ∨ bits = 64) (hx0 : w.cell? ⟨ib, io, none⟩ = some (.int .i64 5)) (hx2 : w.cell? ⟨ib, io + 2, none⟩ = some (.int .i64 d)) (hx3 : w.cell? ⟨ib, io + 3, none⟩ = some (.int .i64 a)) (hx6 : w.cell? ⟨ib, io + 6, none⟩ = some (.int .i64 bits)) (hx7 : w.cell? ⟨ib, io + 7, none⟩ = some (.bool sg)) (ha : a < ln) (hd : d < ln) (hl : ln ≤ 1000000)
    (hz : w.cell? ⟨rb, base + a, none⟩ = some (.int .i64 z)) (HB : BytesTo X w z n (.slice (some ⟨g, o, none⟩) n cap)) (hcap : n ≤ cap ∧ cap ≤ 9223372036854775807)
    (hc : ∀ (j : Nat) y, (bytesN zb n)[j]? = some y → w.cell? ⟨g, o + j, none⟩ = some (.int .u8 y)) (hV : Wd.wrap bits sg (wrap64 (zb % 2 ^ (8 * n))) = V)
    (hfin : ∀ w', Keeps No w w' → (∃ zo, w'.cell? ⟨rb, base + d, none⟩ = some (.int .i64 zo)) ∧ w'.frozen? ⟨rb, base + d, none⟩ = false ∧ ∃ c', MAt X (w'.setCell ⟨rb, base + d, none⟩ (.int .i64 V)) c' s') :
    Calls Tryd.prog 67 #[.pointer (some ⟨X.M, 0, none⟩), .pointer (some ⟨ib, io, none⟩), .slice (some ⟨rb, base, none⟩) ln rc] w (StepTo X s') := by
  have HBB := Lib.hid HB
  have hI : I64 (wrap64 (zb % 2 ^ (8 * n))) := by unfold I64 wrap64; omega
  obtain ⟨RR, hRR⟩ : ∃ R, wrap64 (zb % 2 ^ (8 * n)) = R := ⟨_, rfl⟩
  have HG : Hid (∀ (W : World) (hW : Keeps No w W), Calls Tryd.prog 80 #[.slice (some ⟨g, o, none⟩) n cap] W fun e w' => e = .returned (.int .i64 RR) ∧ w' = W) := Lib.hid (fun W hW => by
    have := get_any g o n cap zb W hn.2 hcap (fun j y hy => hW.cell0 (hc j y hy)); rw [hRR] at this; exact this)
  rw [hRR] at hV hI
  have HW := Lib.hid (fun (W : World) => mwrap bits sg hbv RR V hI (Lib.hid hV) W)
  have HF := Lib.hid hfin
  have ha1 : (a : Int) < (ln : Int) := by omega
  have ha0 : (0 : Int) ≤ (a : Int) := by omega
  have hd1 : (d : Int) < (ln : Int) := by omega
  have hd0 : (0 : Int) ≤ (d : Int) := by omega
  have h8 : bits.tdiv 8 = (n : Int) := by rw [hbits, Int.mul_comm]; exact Int.mul_tdiv_cancel _ (by decide)
  have q34 : ∀ (w : World) (a : Option Addr) (n c n' c' : Nat), (binOp .eql 55 (.slice a n c) (.slice none n' c')).run Tryd.prog w = .ok (.bool a.isNone) w := fun w a n c n' c' => Lib.run_eql_slice_nil w _ _ a n c n' c' Tryd.underlying55
  clear HB hc hfin hcap hbv hbits hV hRR hI
  go_enter Tryd.func67, Tryd.ntmps67
  go_wp2_with fail
  go_quiet ((go_at_call 79; exact quiet_drawn HBB.out))
  go_wp2_with fail
  obtain ⟨w1, hw1⟩ : ∃ W, w.drewN nq = W := ⟨_, rfl⟩
  have hk1 : Keeps No w w1 := by rw [← hw1]; exact (Keeps.refl _ _).drewN nq
  rw [hw1]
  have x2 : ∀ u : KW w1, u.W.cell? ⟨ib, io + 2, none⟩ = some (.int .i64 d) := fun u => u.cell (hk1.cell0 hx2)
  have x6 : ∀ u : KW w1, u.W.cell? ⟨ib, io + 6, none⟩ = some (.int .i64 bits) := fun u => u.cell (hk1.cell0 hx6)
  have x7 : ∀ u : KW w1, u.W.cell? ⟨ib, io + 7, none⟩ = some (.bool sg) := fun u => u.cell (hk1.cell0 hx7)
  have hne : Nonempty (KW w1) := ⟨KW.of _⟩
  have HK1 := Lib.hid hk1
  clear hw1 hk1 hx0 hx2 hx3 hx6 hx7 hz q34 h8
  refine Mix.wp_region_mix (fun W => ∃ u : KW w1, W = u.W) [13] (by kernel_rfl) ?_
  have HK4 : Hid (Keeps No w1 w1.drew) := Lib.hid ((Keeps.refl _ w1).drew)
  generalize w1.drew = w4 at HK4 ⊢
  refine Mix.mix_seg 0 10 4 (by kernel_rfl) (by kernel_rfl) rfl rfl ⟨⟨w4, HK4.out⟩, rfl⟩ ?_
  simp only [List.drop_succ_cons, List.drop_zero, List.take_succ_cons, List.take_zero]
  repeat (go_big_quiet_step (fail))
  refine wpQuiet_nil ?_
  clear x2 x6 x7 hne
  refine Mix.mix_one 10 3 (by kernel_rfl) rfl rfl ?_
  simp only [List.drop_succ_cons, List.drop_zero, List.take_succ_cons, List.take_zero]
  go_wp2_with fail
  refine (HG.out w4 (HK1.out.trans HK4.out (fun _ _ e => e))).mono ?_
  rintro e w5 ⟨rfl, rfl⟩
  go_wp2_with fail
  refine ⟨.inr ⟨⟨w5, HK4.out⟩, rfl⟩, ?_⟩
  refine Mix.mix_one 11 2 (by kernel_rfl) rfl rfl ?_
  simp only [List.drop_succ_cons, List.drop_zero, List.take_succ_cons, List.take_zero]
  go_wp2_with fail
  refine (HW.out w5).mono ?_
  rintro e w6 ⟨rfl, hk6⟩
  have HK6 := Lib.hid (HK4.out.trans hk6 (fun _ _ e => e))
  clear hk6
  go_wp2_with fail
  refine ⟨.inr ⟨⟨w6, HK6.out⟩, rfl⟩, ?_⟩
  refine Mix.mix_one 12 1 (by kernel_rfl) rfl rfl ?_
  simp only [List.drop_succ_cons, List.drop_zero, List.take_succ_cons, List.take_zero]
  go_wp2_with fail
  refine ⟨.inr ⟨⟨w6, HK6.out⟩, rfl⟩, ?_⟩
  obtain ⟨⟨zo, c9⟩, f9, c', h9⟩ := HF.out w6 (HK1.out.trans HK6.out (fun _ _ e => e))
  have H9 := Lib.hid h9
  clear h9
  refine Mix.mix_one 13 0 (by kernel_rfl) rfl rfl ?_
  simp only [List.drop_succ_cons, List.drop_zero, List.take_succ_cons, List.take_zero]
  go_wp2_with fail
  refine ⟨.inl ⟨rfl, rfl⟩, ?_⟩
  refine Mix.mix_end (by kernel_rfl) ?_
  go_wp2_with fail
  go_returns
  exact ⟨rfl, _, H9.out⟩
end Go.Proofs.YtbfjmhfhhlncjaaDoor
