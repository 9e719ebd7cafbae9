/- The document's letter between quotes. -/
import Derived.Test.YtlpoahjgonjelaaLexRef
import Derived.Test.YtlpoahjgonjelaaLexM3
import Derived.Deep.LoopGhost
namespace Go.Proofs.Ytlpoahjgonjelaa
open Go.RowKit
set_option linter.unusedVariables false

theorem gn_trans {a b c : World} (h : a.grownBy b none) (k : b.grownBy c none) : a.grownBy c none :=
  ⟨k.os.trans h.os, k.tape.trans h.tape, k.output.trans h.output, Nat.le_trans h.size k.size, fun q hq hr => (k.block q (Nat.lt_of_lt_of_le hq h.size) hr).trans (h.block q hq hr)⟩
theorem gn_alloc {a b : World} (h : a.grownBy b none) (o : Obj) : a.grownBy (b.alloc o) none := gn_trans h (World.grownBy_alloc b o _)
theorem gn_drew {a w : World} (h : a.grownBy w none) : a.grownBy w.drew none := ⟨h.os, h.tape, h.output, h.size, h.block⟩
theorem gn_drewN {a w : World} (h : a.grownBy w none) (n : Nat) : a.grownBy (w.drewN n) none := ⟨h.os, h.tape, h.output, h.size, h.block⟩
theorem gn_refl (w : World) : w.grownBy w none := ⟨rfl, rfl, rfl, Nat.le_refl _, fun _ _ _ => rfl⟩
theorem gn_set {a w : World} (h : a.grownBy w none) {q : Nat} (hq : a.heap.size ≤ q) (o : Nat) (u : Value) : a.grownBy (w.setCell ⟨q, o, none⟩ u) none :=
  ⟨h.os, h.tape, h.output, by have := h.size; simpa [World.setCell] using this, fun k hk hr => (Below.heap_setCell _ _ _ _ (fun e => by have e' : k = q := e; omega)).trans (h.block k hk hr)⟩
/-- What char answers: right or not, and the token. -/
def RChar (s : ByteArray) (i : Nat) (b : Bool) (E : Nat) (n : Int) (w : World) (e : Ending) (w' : World) : Prop :=
  ∃ (T : ByteArray) (m : Int), e = .returned (.tuple #[.agg #[.int .i64 4, .int .i64 (i : Int), .string T, .string ⟨#[]⟩, .int .u64 m, .bool false], .bool b]) ∧ (b = true → T = s.extract i E ∧ m = n) ∧ w.grownBy w' none
set_option maxHeartbeats 1000000 in
theorem rchar_bad (s : ByteArray) (i : Nat) (hi : i < s.size) (hs : s.size ≤ 4611686018427387904) (c : Int) (HC : Hid (Lx.pk s (i + 1) = c)) (hc : c < 32 ∨ 126 < c ∨ c = 39) (E : Nat) (n : Int) (w : World) :
    Calls Try.prog 34 #[.string s, .int .i64 (i : Int)] w (RChar s i false E n w) := by
  go_enter Try.func34, Try.ntmps34
  go_wp2_with fail
  refine (rat_as s (i + 1) _ c (by omega) hs HC _).mono ?_
  rintro e w1 ⟨rfl, rfl⟩
  go_wp2_with fail
  all_goals first
    | (exfalso; simp only [beq_eq_false_iff_ne, ne_eq] at *; omega)
    | (exfalso; simp at *; omega)
    | (refine bodyPost_ret (v := .tuple #[.agg #[.int .i64 4, .int .i64 (i : Int), .string ⟨#[]⟩, .string ⟨#[]⟩, .int .u64 0, .bool false], .bool false]) (by simp [results, Try.results34, go_sem]) rfl ⟨_, _, rfl, (fun h => by cases h), ?_⟩
       repeat (first | with_reducible exact gn_refl _ | with_reducible refine gn_alloc ?_ _))
set_option maxHeartbeats 1000000 in
theorem rchar_plain (s : ByteArray) (i : Nat) (hi : i < s.size) (hs : s.size ≤ 4611686018427387904) (c d : Int) (HC : Hid (Lx.pk s (i + 1) = c)) (HD : Hid (Lx.pk s (i + 2) = d)) (hc : ¬ (c < 32 ∨ 126 < c ∨ c = 39)) (hb : c ≠ 92) (w : World) :
    Calls Try.prog 34 #[.string s, .int .i64 (i : Int)] w (RChar s i (decide (d = 39)) (i + 3) c w) := by
  have h1 : i + 1 < s.size := Lx.pk_in (by rw [HC.out]; omega)
  have n1 : ¬ (s.size : Int) ≤ (i : Int) + 1 := by omega
  have n2 : ¬ c < 32 := by omega
  have n3 : ¬ 126 < c := by omega
  have n4 : (c == 39) = false := beq_eq_false_iff_ne.2 (by omega)
  have n5 : (c == 92) = false := beq_eq_false_iff_ne.2 hb
  have hw : IntKind.u64.wrap c = c := by simp only [IntKind.wrap, IntKind.bits, IntKind.signed]; simp; omega
  clear hc hb
  by_cases hd : d = 39
  · subst hd
    have h2 : i + 2 < s.size := Lx.pk_in (by rw [HD.out]; decide)
    have h3 : (i : Int) + 3 ≤ (s.size : Int) := by omega
    go_enter Try.func34, Try.ntmps34
    go_wp2_with fail
    refine (rat_as s (i + 1) _ c (by omega) hs HC _).mono ?_
    rintro e w1 ⟨rfl, rfl⟩
    go_wp2_with fail
    refine (rat_as s (i + 2) _ 39 (by omega) hs HD _).mono ?_
    rintro e w1 ⟨rfl, rfl⟩
    go_wp2_with fail
    refine bodyPost_ret (v := .tuple #[.agg #[.int .i64 4, .int .i64 (i : Int), .string (s.extract i (i + 3)), .string ⟨#[]⟩, .int .u64 c, .bool false], .bool true]) (by simp [results, Try.results34, go_sem]; done) rfl ⟨_, _, rfl, (fun _ => ⟨rfl, rfl⟩), ?_⟩
    repeat (first | with_reducible exact gn_refl _ | with_reducible refine gn_alloc ?_ _)
  · rw [decide_eq_false hd]
    have m1 : (d != 39) = true := bne_iff_ne.2 hd
    clear hd
    go_enter Try.func34, Try.ntmps34
    go_wp2_with fail
    refine (rat_as s (i + 1) _ c (by omega) hs HC _).mono ?_
    rintro e w1 ⟨rfl, rfl⟩
    go_wp2_with fail
    refine (rat_as s (i + 2) _ d (by omega) hs HD _).mono ?_
    rintro e w1 ⟨rfl, rfl⟩
    go_wp2_with fail
    refine bodyPost_ret (v := .tuple #[.agg #[.int .i64 4, .int .i64 (i : Int), .string ⟨#[]⟩, .string ⟨#[]⟩, .int .u64 c, .bool false], .bool false]) (by simp [results, Try.results34, go_sem]; done) rfl ⟨_, _, rfl, (fun h => by cases h), ?_⟩
    repeat (first | with_reducible exact gn_refl _ | with_reducible refine gn_alloc ?_ _)
-- GEN
set_option maxHeartbeats 1000000 in
theorem rchar_110_yes (s : ByteArray) (i : Nat) (hi : i < s.size) (hs : s.size ≤ 4611686018427387904) (HC : Hid (Lx.pk s (i + 1) = 92)) (HD : Hid (Lx.pk s (i + 2) = 110)) (HE : Hid (Lx.pk s (i + 3) = 39)) (w : World) :
    Calls Try.prog 34 #[.string s, .int .i64 (i : Int)] w (RChar s i true (i + 4) 10 w) := by
  have n0 : (i : Int) + 1 < (s.size : Int) := by have := Lx.pk_in (s := s) (i := i + 1) (by rw [HC.out]; decide); omega
  have hm : (i : Int) + 2 ≤ (s.size : Int) := by omega
  have hp : 110 = (Lx.pk s (i + 2)) := HD.out.symm
  have h2 : i + 2 < s.size := Lx.pk_in (by rw [HD.out]; decide)
  have h3 : i + 3 < s.size := Lx.pk_in (by rw [HE.out]; decide)
  have h4 : (i : Int) + 4 ≤ (s.size : Int) := by omega
  have h5 : (i : Int) + 2 < (s.size : Int) := by omega
  rw [Lx.pk_lt h2] at hp
  have hp' : (s[i + 2].toNat : Int) = 110 := hp.symm
  clear hp
  go_enter Try.func34, Try.ntmps34
  go_wp2_with fail
  refine (rat_as s (i + 1) _ 92 (by omega) hs HC _).mono ?_
  rintro e w1 ⟨rfl, rfl⟩
  go_wp2_with fail
  refine (rat_as s (i + 2) _ 110 (by omega) hs HD _).mono ?_
  rintro e w1 ⟨rfl, rfl⟩
  go_wp2_with fail
  refine (rat_as s (i + 3) _ 39 (by omega) hs HE _).mono ?_
  rintro e w1 ⟨rfl, rfl⟩
  go_wp2_with fail
  refine bodyPost_ret (v := .tuple #[.agg #[.int .i64 4, .int .i64 (i : Int), .string (s.extract i (i + 4)), .string ⟨#[]⟩, .int .u64 10, .bool false], .bool true]) (by simp [results, Try.results34, go_sem]; done) rfl ⟨_, _, rfl, (fun _ => ⟨rfl, rfl⟩), ?_⟩
  repeat (first | with_reducible exact gn_refl _ | with_reducible refine gn_alloc ?_ _)
set_option maxHeartbeats 1000000 in
theorem rchar_110_no (s : ByteArray) (i : Nat) (hi : i < s.size) (hs : s.size ≤ 4611686018427387904) (HC : Hid (Lx.pk s (i + 1) = 92)) (HD : Hid (Lx.pk s (i + 2) = 110)) (e : Int) (HE : Hid (Lx.pk s (i + 3) = e)) (he : (e != 39) = true) (E : Nat) (n : Int) (w : World) :
    Calls Try.prog 34 #[.string s, .int .i64 (i : Int)] w (RChar s i false E n w) := by
  have n0 : (i : Int) + 1 < (s.size : Int) := by have := Lx.pk_in (s := s) (i := i + 1) (by rw [HC.out]; decide); omega
  have hm : (i : Int) + 2 ≤ (s.size : Int) := by omega
  have hp : 110 = (Lx.pk s (i + 2)) := HD.out.symm
  have h2 : i + 2 < s.size := Lx.pk_in (by rw [HD.out]; decide)
  have h5 : (i : Int) + 2 < (s.size : Int) := by omega
  rw [Lx.pk_lt h2] at hp
  have hp' : (s[i + 2].toNat : Int) = 110 := hp.symm
  clear hp
  go_enter Try.func34, Try.ntmps34
  go_wp2_with fail
  refine (rat_as s (i + 1) _ 92 (by omega) hs HC _).mono ?_
  rintro e w1 ⟨rfl, rfl⟩
  go_wp2_with fail
  refine (rat_as s (i + 2) _ 110 (by omega) hs HD _).mono ?_
  rintro e w1 ⟨rfl, rfl⟩
  go_wp2_with fail
  refine (rat_as s (i + 3) _ e (by omega) hs HE _).mono ?_
  rintro e w1 ⟨rfl, rfl⟩
  go_wp2_with fail
  refine bodyPost_ret (v := .tuple #[.agg #[.int .i64 4, .int .i64 (i : Int), .string ⟨#[]⟩, .string ⟨#[]⟩, .int .u64 10, .bool false], .bool false]) (by simp [results, Try.results34, go_sem]; done) rfl ⟨_, _, rfl, (fun h => by cases h), ?_⟩
  repeat (first | with_reducible exact gn_refl _ | with_reducible refine gn_alloc ?_ _)
set_option maxHeartbeats 1000000 in
theorem rchar_48_yes (s : ByteArray) (i : Nat) (hi : i < s.size) (hs : s.size ≤ 4611686018427387904) (HC : Hid (Lx.pk s (i + 1) = 92)) (HD : Hid (Lx.pk s (i + 2) = 48)) (HE : Hid (Lx.pk s (i + 3) = 39)) (w : World) :
    Calls Try.prog 34 #[.string s, .int .i64 (i : Int)] w (RChar s i true (i + 4) 0 w) := by
  have n0 : (i : Int) + 1 < (s.size : Int) := by have := Lx.pk_in (s := s) (i := i + 1) (by rw [HC.out]; decide); omega
  have hm : (i : Int) + 2 ≤ (s.size : Int) := by omega
  have hp : 48 = (Lx.pk s (i + 2)) := HD.out.symm
  have h2 : i + 2 < s.size := Lx.pk_in (by rw [HD.out]; decide)
  have h3 : i + 3 < s.size := Lx.pk_in (by rw [HE.out]; decide)
  have h4 : (i : Int) + 4 ≤ (s.size : Int) := by omega
  have h5 : (i : Int) + 2 < (s.size : Int) := by omega
  rw [Lx.pk_lt h2] at hp
  have hp' : (s[i + 2].toNat : Int) = 48 := hp.symm
  clear hp
  go_enter Try.func34, Try.ntmps34
  go_wp2_with fail
  refine (rat_as s (i + 1) _ 92 (by omega) hs HC _).mono ?_
  rintro e w1 ⟨rfl, rfl⟩
  go_wp2_with fail
  refine (rat_as s (i + 2) _ 48 (by omega) hs HD _).mono ?_
  rintro e w1 ⟨rfl, rfl⟩
  go_wp2_with fail
  refine (rat_as s (i + 3) _ 39 (by omega) hs HE _).mono ?_
  rintro e w1 ⟨rfl, rfl⟩
  go_wp2_with fail
  refine bodyPost_ret (v := .tuple #[.agg #[.int .i64 4, .int .i64 (i : Int), .string (s.extract i (i + 4)), .string ⟨#[]⟩, .int .u64 0, .bool false], .bool true]) (by simp [results, Try.results34, go_sem]; done) rfl ⟨_, _, rfl, (fun _ => ⟨rfl, rfl⟩), ?_⟩
  repeat (first | with_reducible exact gn_refl _ | with_reducible refine gn_alloc ?_ _)
set_option maxHeartbeats 1000000 in
theorem rchar_48_no (s : ByteArray) (i : Nat) (hi : i < s.size) (hs : s.size ≤ 4611686018427387904) (HC : Hid (Lx.pk s (i + 1) = 92)) (HD : Hid (Lx.pk s (i + 2) = 48)) (e : Int) (HE : Hid (Lx.pk s (i + 3) = e)) (he : (e != 39) = true) (E : Nat) (n : Int) (w : World) :
    Calls Try.prog 34 #[.string s, .int .i64 (i : Int)] w (RChar s i false E n w) := by
  have n0 : (i : Int) + 1 < (s.size : Int) := by have := Lx.pk_in (s := s) (i := i + 1) (by rw [HC.out]; decide); omega
  have hm : (i : Int) + 2 ≤ (s.size : Int) := by omega
  have hp : 48 = (Lx.pk s (i + 2)) := HD.out.symm
  have h2 : i + 2 < s.size := Lx.pk_in (by rw [HD.out]; decide)
  have h5 : (i : Int) + 2 < (s.size : Int) := by omega
  rw [Lx.pk_lt h2] at hp
  have hp' : (s[i + 2].toNat : Int) = 48 := hp.symm
  clear hp
  go_enter Try.func34, Try.ntmps34
  go_wp2_with fail
  refine (rat_as s (i + 1) _ 92 (by omega) hs HC _).mono ?_
  rintro e w1 ⟨rfl, rfl⟩
  go_wp2_with fail
  refine (rat_as s (i + 2) _ 48 (by omega) hs HD _).mono ?_
  rintro e w1 ⟨rfl, rfl⟩
  go_wp2_with fail
  refine (rat_as s (i + 3) _ e (by omega) hs HE _).mono ?_
  rintro e w1 ⟨rfl, rfl⟩
  go_wp2_with fail
  refine bodyPost_ret (v := .tuple #[.agg #[.int .i64 4, .int .i64 (i : Int), .string ⟨#[]⟩, .string ⟨#[]⟩, .int .u64 0, .bool false], .bool false]) (by simp [results, Try.results34, go_sem]; done) rfl ⟨_, _, rfl, (fun h => by cases h), ?_⟩
  repeat (first | with_reducible exact gn_refl _ | with_reducible refine gn_alloc ?_ _)
set_option maxHeartbeats 1000000 in
theorem rchar_92_yes (s : ByteArray) (i : Nat) (hi : i < s.size) (hs : s.size ≤ 4611686018427387904) (HC : Hid (Lx.pk s (i + 1) = 92)) (HD : Hid (Lx.pk s (i + 2) = 92)) (HE : Hid (Lx.pk s (i + 3) = 39)) (w : World) :
    Calls Try.prog 34 #[.string s, .int .i64 (i : Int)] w (RChar s i true (i + 4) 92 w) := by
  have n0 : (i : Int) + 1 < (s.size : Int) := by have := Lx.pk_in (s := s) (i := i + 1) (by rw [HC.out]; decide); omega
  have hm : (i : Int) + 2 ≤ (s.size : Int) := by omega
  have hp : 92 = (Lx.pk s (i + 2)) := HD.out.symm
  have h2 : i + 2 < s.size := Lx.pk_in (by rw [HD.out]; decide)
  have h3 : i + 3 < s.size := Lx.pk_in (by rw [HE.out]; decide)
  have h4 : (i : Int) + 4 ≤ (s.size : Int) := by omega
  have h5 : (i : Int) + 2 < (s.size : Int) := by omega
  rw [Lx.pk_lt h2] at hp
  have hp' : (s[i + 2].toNat : Int) = 92 := hp.symm
  clear hp
  go_enter Try.func34, Try.ntmps34
  go_wp2_with fail
  refine (rat_as s (i + 1) _ 92 (by omega) hs HC _).mono ?_
  rintro e w1 ⟨rfl, rfl⟩
  go_wp2_with fail
  refine (rat_as s (i + 2) _ 92 (by omega) hs HD _).mono ?_
  rintro e w1 ⟨rfl, rfl⟩
  go_wp2_with fail
  refine (rat_as s (i + 3) _ 39 (by omega) hs HE _).mono ?_
  rintro e w1 ⟨rfl, rfl⟩
  go_wp2_with fail
  refine bodyPost_ret (v := .tuple #[.agg #[.int .i64 4, .int .i64 (i : Int), .string (s.extract i (i + 4)), .string ⟨#[]⟩, .int .u64 92, .bool false], .bool true]) (by simp [results, Try.results34, go_sem]; done) rfl ⟨_, _, rfl, (fun _ => ⟨rfl, rfl⟩), ?_⟩
  repeat (first | with_reducible exact gn_refl _ | with_reducible refine gn_alloc ?_ _)
set_option maxHeartbeats 1000000 in
theorem rchar_92_no (s : ByteArray) (i : Nat) (hi : i < s.size) (hs : s.size ≤ 4611686018427387904) (HC : Hid (Lx.pk s (i + 1) = 92)) (HD : Hid (Lx.pk s (i + 2) = 92)) (e : Int) (HE : Hid (Lx.pk s (i + 3) = e)) (he : (e != 39) = true) (E : Nat) (n : Int) (w : World) :
    Calls Try.prog 34 #[.string s, .int .i64 (i : Int)] w (RChar s i false E n w) := by
  have n0 : (i : Int) + 1 < (s.size : Int) := by have := Lx.pk_in (s := s) (i := i + 1) (by rw [HC.out]; decide); omega
  have hm : (i : Int) + 2 ≤ (s.size : Int) := by omega
  have hp : 92 = (Lx.pk s (i + 2)) := HD.out.symm
  have h2 : i + 2 < s.size := Lx.pk_in (by rw [HD.out]; decide)
  have h5 : (i : Int) + 2 < (s.size : Int) := by omega
  rw [Lx.pk_lt h2] at hp
  have hp' : (s[i + 2].toNat : Int) = 92 := hp.symm
  clear hp
  go_enter Try.func34, Try.ntmps34
  go_wp2_with fail
  refine (rat_as s (i + 1) _ 92 (by omega) hs HC _).mono ?_
  rintro e w1 ⟨rfl, rfl⟩
  go_wp2_with fail
  refine (rat_as s (i + 2) _ 92 (by omega) hs HD _).mono ?_
  rintro e w1 ⟨rfl, rfl⟩
  go_wp2_with fail
  refine (rat_as s (i + 3) _ e (by omega) hs HE _).mono ?_
  rintro e w1 ⟨rfl, rfl⟩
  go_wp2_with fail
  refine bodyPost_ret (v := .tuple #[.agg #[.int .i64 4, .int .i64 (i : Int), .string ⟨#[]⟩, .string ⟨#[]⟩, .int .u64 92, .bool false], .bool false]) (by simp [results, Try.results34, go_sem]; done) rfl ⟨_, _, rfl, (fun h => by cases h), ?_⟩
  repeat (first | with_reducible exact gn_refl _ | with_reducible refine gn_alloc ?_ _)
set_option maxHeartbeats 1000000 in
theorem rchar_39_yes (s : ByteArray) (i : Nat) (hi : i < s.size) (hs : s.size ≤ 4611686018427387904) (HC : Hid (Lx.pk s (i + 1) = 92)) (HD : Hid (Lx.pk s (i + 2) = 39)) (HE : Hid (Lx.pk s (i + 3) = 39)) (w : World) :
    Calls Try.prog 34 #[.string s, .int .i64 (i : Int)] w (RChar s i true (i + 4) 39 w) := by
  have n0 : (i : Int) + 1 < (s.size : Int) := by have := Lx.pk_in (s := s) (i := i + 1) (by rw [HC.out]; decide); omega
  have hm : (i : Int) + 2 ≤ (s.size : Int) := by omega
  have hp : 39 = (Lx.pk s (i + 2)) := HD.out.symm
  have h2 : i + 2 < s.size := Lx.pk_in (by rw [HD.out]; decide)
  have h3 : i + 3 < s.size := Lx.pk_in (by rw [HE.out]; decide)
  have h4 : (i : Int) + 4 ≤ (s.size : Int) := by omega
  have h5 : (i : Int) + 2 < (s.size : Int) := by omega
  rw [Lx.pk_lt h2] at hp
  have hp' : (s[i + 2].toNat : Int) = 39 := hp.symm
  clear hp
  go_enter Try.func34, Try.ntmps34
  go_wp2_with fail
  refine (rat_as s (i + 1) _ 92 (by omega) hs HC _).mono ?_
  rintro e w1 ⟨rfl, rfl⟩
  go_wp2_with fail
  refine (rat_as s (i + 2) _ 39 (by omega) hs HD _).mono ?_
  rintro e w1 ⟨rfl, rfl⟩
  go_wp2_with fail
  refine (rat_as s (i + 3) _ 39 (by omega) hs HE _).mono ?_
  rintro e w1 ⟨rfl, rfl⟩
  go_wp2_with fail
  refine bodyPost_ret (v := .tuple #[.agg #[.int .i64 4, .int .i64 (i : Int), .string (s.extract i (i + 4)), .string ⟨#[]⟩, .int .u64 39, .bool false], .bool true]) (by simp [results, Try.results34, go_sem]; done) rfl ⟨_, _, rfl, (fun _ => ⟨rfl, rfl⟩), ?_⟩
  repeat (first | with_reducible exact gn_refl _ | with_reducible refine gn_alloc ?_ _)
set_option maxHeartbeats 1000000 in
theorem rchar_39_no (s : ByteArray) (i : Nat) (hi : i < s.size) (hs : s.size ≤ 4611686018427387904) (HC : Hid (Lx.pk s (i + 1) = 92)) (HD : Hid (Lx.pk s (i + 2) = 39)) (e : Int) (HE : Hid (Lx.pk s (i + 3) = e)) (he : (e != 39) = true) (E : Nat) (n : Int) (w : World) :
    Calls Try.prog 34 #[.string s, .int .i64 (i : Int)] w (RChar s i false E n w) := by
  have n0 : (i : Int) + 1 < (s.size : Int) := by have := Lx.pk_in (s := s) (i := i + 1) (by rw [HC.out]; decide); omega
  have hm : (i : Int) + 2 ≤ (s.size : Int) := by omega
  have hp : 39 = (Lx.pk s (i + 2)) := HD.out.symm
  have h2 : i + 2 < s.size := Lx.pk_in (by rw [HD.out]; decide)
  have h5 : (i : Int) + 2 < (s.size : Int) := by omega
  rw [Lx.pk_lt h2] at hp
  have hp' : (s[i + 2].toNat : Int) = 39 := hp.symm
  clear hp
  go_enter Try.func34, Try.ntmps34
  go_wp2_with fail
  refine (rat_as s (i + 1) _ 92 (by omega) hs HC _).mono ?_
  rintro e w1 ⟨rfl, rfl⟩
  go_wp2_with fail
  refine (rat_as s (i + 2) _ 39 (by omega) hs HD _).mono ?_
  rintro e w1 ⟨rfl, rfl⟩
  go_wp2_with fail
  refine (rat_as s (i + 3) _ e (by omega) hs HE _).mono ?_
  rintro e w1 ⟨rfl, rfl⟩
  go_wp2_with fail
  refine bodyPost_ret (v := .tuple #[.agg #[.int .i64 4, .int .i64 (i : Int), .string ⟨#[]⟩, .string ⟨#[]⟩, .int .u64 39, .bool false], .bool false]) (by simp [results, Try.results34, go_sem]; done) rfl ⟨_, _, rfl, (fun h => by cases h), ?_⟩
  repeat (first | with_reducible exact gn_refl _ | with_reducible refine gn_alloc ?_ _)
set_option maxHeartbeats 1000000 in
theorem rchar_else (s : ByteArray) (i : Nat) (hi : i < s.size) (hs : s.size ≤ 4611686018427387904) (HC : Hid (Lx.pk s (i + 1) = 92)) (d : Int) (HD : Hid (Lx.pk s (i + 2) = d)) (h1 : (d == 110) = false) (h2 : (d == 48) = false) (h3 : (d == 92) = false) (h4 : (d == 39) = false) (E : Nat) (n : Int) (w : World) :
    Calls Try.prog 34 #[.string s, .int .i64 (i : Int)] w (RChar s i false E n w) := by
  have n0 : (i : Int) + 1 < (s.size : Int) := by have := Lx.pk_in (s := s) (i := i + 1) (by rw [HC.out]; decide); omega
  have hm : (i : Int) + 2 ≤ (s.size : Int) := by omega
  go_enter Try.func34, Try.ntmps34
  go_wp2_with fail
  refine (rat_as s (i + 1) _ 92 (by omega) hs HC _).mono ?_
  rintro e w1 ⟨rfl, rfl⟩
  go_wp2_with fail
  refine (rat_as s (i + 2) _ d (by omega) hs HD _).mono ?_
  rintro e w1 ⟨rfl, rfl⟩
  go_wp2_with fail
  refine bodyPost_ret (v := .tuple #[.agg #[.int .i64 4, .int .i64 (i : Int), .string ⟨#[]⟩, .string ⟨#[]⟩, .int .u64 0, .bool false], .bool false]) (by simp [results, Try.results34, go_sem]; done) rfl ⟨_, _, rfl, (fun h => by cases h), ?_⟩
  repeat (first | with_reducible exact gn_refl _ | with_reducible refine gn_alloc ?_ _)
theorem rchar_any (s : ByteArray) (i : Nat) (hi : i < s.size) (hs : s.size ≤ 4611686018427387904) (w : World) :
    Calls Try.prog 34 #[.string s, .int .i64 (i : Int)] w (RChar s i (decide ((Lx.chM s i).1 = 0)) (i + (Lx.chM s i).2.1) (Lx.chM s i).2.2 w) := by
  obtain ⟨c, hc⟩ : ∃ c, Lx.pk s (i + 1) = c := ⟨_, rfl⟩
  obtain ⟨d, hd⟩ : ∃ d, Lx.pk s (i + 2) = d := ⟨_, rfl⟩
  obtain ⟨e, he⟩ : ∃ e, Lx.pk s (i + 3) = e := ⟨_, rfl⟩
  unfold Lx.chM
  rw [hc, hd, he]
  by_cases h92 : c = 92
  · rw [if_pos h92]
    subst h92
    by_cases h1 : d = 110
    · subst h1
      rw [if_pos (.inl rfl)]
      by_cases h39 : e = 39
      · subst h39; exact rchar_110_yes s i hi hs (Lib.hid hc) (Lib.hid hd) (Lib.hid he) w
      · rw [if_neg h39]; exact rchar_110_no s i hi hs (Lib.hid hc) (Lib.hid hd) e (Lib.hid he) (bne_iff_ne.2 h39) _ _ w
    · by_cases h2 : d = 48
      · subst h2
        rw [if_pos (.inr (.inl rfl))]
        by_cases h39 : e = 39
        · subst h39; exact rchar_48_yes s i hi hs (Lib.hid hc) (Lib.hid hd) (Lib.hid he) w
        · rw [if_neg h39]; exact rchar_48_no s i hi hs (Lib.hid hc) (Lib.hid hd) e (Lib.hid he) (bne_iff_ne.2 h39) _ _ w
      · by_cases h3 : d = 92
        · subst h3
          rw [if_pos (.inr (.inr (.inl rfl)))]
          by_cases h39 : e = 39
          · subst h39; exact rchar_92_yes s i hi hs (Lib.hid hc) (Lib.hid hd) (Lib.hid he) w
          · rw [if_neg h39]; exact rchar_92_no s i hi hs (Lib.hid hc) (Lib.hid hd) e (Lib.hid he) (bne_iff_ne.2 h39) _ _ w
        · by_cases h4 : d = 39
          · subst h4
            rw [if_pos (.inr (.inr (.inr rfl)))]
            by_cases h39 : e = 39
            · subst h39; exact rchar_39_yes s i hi hs (Lib.hid hc) (Lib.hid hd) (Lib.hid he) w
            · rw [if_neg h39]; exact rchar_39_no s i hi hs (Lib.hid hc) (Lib.hid hd) e (Lib.hid he) (bne_iff_ne.2 h39) _ _ w
          · rw [if_neg (by omega)]
            exact rchar_else s i hi hs (Lib.hid hc) d (Lib.hid hd) (beq_eq_false_iff_ne.2 h1) (beq_eq_false_iff_ne.2 h2) (beq_eq_false_iff_ne.2 h3) (beq_eq_false_iff_ne.2 h4) _ _ w
  · rw [if_neg h92]
    by_cases hb : c < 32 ∨ 126 < c ∨ c = 39
    · rw [if_pos hb]; exact rchar_bad s i hi hs c (Lib.hid hc) hb _ _ w
    · rw [if_neg hb]
      have := rchar_plain s i hi hs c d (Lib.hid hc) (Lib.hid hd) hb h92 w
      by_cases h39 : d = 39
      · rw [if_pos h39]; rw [decide_eq_true h39] at this; exact this
      · rw [if_neg h39]; rw [decide_eq_false h39] at this
        exact this.mono fun e w' ⟨T, m, h1, _, h3⟩ => ⟨T, m, h1, (fun h => by cases h), h3⟩
end Go.Proofs.Ytlpoahjgonjelaa
