/- What the walks of the scanner share: its block, and worlds that have grown beside it. -/
import Derived.Test.YtlpoahjgonjelaaProg
import Derived.WalkKit
import Derived.WalkSpells
import Derived.WalkLawsBesides
import Derived.RowKit3
import Derived.Handy
import Derived.Lib.Hide
import Derived.BigQuiet
import Derived.Deep.QuietTactic
import Derived.OneCell
import Derived.Test.YtlpoahjgonjelaaLexM
namespace Go.Proofs.Ytlpoahjgonjelaa
open Go.RowKit
set_option linter.unusedVariables false

theorem rb {v : Value} {a b : Bool} (hv : v = .bool a) (h : a = b) : Ending.returned v = .returned (.bool b) := by rw [hv, h]
theorem ri {v : Value} {k : IntKind} {a b : Int} (hv : v = .int k a) (h : a = b) : Ending.returned v = .returned (.int k b) := by rw [hv, h]

/-- w is w0 grown, written nowhere but in block p, where the scanner stands at i of s. -/
structure Sc (p : Nat) (s : ByteArray) (i : Nat) (w0 w : World) : Prop where
  g : w0.grownBy w (some p)
  a : w.heap[p]? = some (.cells #[.string s, .int .i64 (i : Int)] 43 (0, 0))
theorem grown_trans {a b c : World} {r : Option Nat} (h : a.grownBy b r) (k : b.grownBy c r) : a.grownBy c r :=
  ⟨k.os.trans h.os, k.tape.trans h.tape, k.output.trans h.output, Nat.le_trans h.size k.size, fun q hq hr => (k.block q (Nat.lt_of_lt_of_le hq h.size) hr).trans (h.block q hq hr)⟩
theorem grown_refl (w : World) (r : Option Nat) : w.grownBy w r := ⟨rfl, rfl, rfl, Nat.le_refl _, fun _ _ _ => rfl⟩
theorem grown_drew {a w : World} {r : Option Nat} (h : a.grownBy w r) : a.grownBy w.drew r := ⟨h.os, h.tape, h.output, h.size, h.block⟩
theorem grown_set {a w : World} {p : Nat} (h : a.grownBy w (some p)) (o : Nat) (u : Value) : a.grownBy (w.setCell ⟨p, o, none⟩ u) (some p) :=
  grown_trans h ⟨rfl, rfl, rfl, by simp [World.setCell], fun k hk hne => Below.heap_setCell _ _ _ _ (by intro e; subst e; exact hne rfl)⟩
section
variable {p : Nat} {s : ByteArray} {i : Nat} {w0 w : World}
theorem Sc.lt (h : Sc p s i w0 w) : p < w.heap.size := (Array.getElem?_eq_some_iff.1 h.a).1
theorem Sc.c0 (h : Sc p s i w0 w) : w.cell? ⟨p, 0, none⟩ = some (.string s) := by simp [World.cell?, h.a]
theorem Sc.c1 (h : Sc p s i w0 w) : w.cell? ⟨p, 1, none⟩ = some (.int .i64 (i : Int)) := by simp [World.cell?, h.a]
theorem Sc.f (h : Sc p s i w0 w) (o : Nat) : w.frozen? ⟨p, o, none⟩ = false := by simp [World.frozen?, h.a]
theorem Sc.alloc (h : Sc p s i w0 w) (o : Obj) : Sc p s i w0 (w.alloc o) :=
  ⟨grown_trans h.g (World.grownBy_alloc w o _), (Below.heap_alloc w o p h.lt).trans h.a⟩
theorem Sc.drew (h : Sc p s i w0 w) : Sc p s i w0 w.drew := ⟨grown_drew h.g, h.a⟩
theorem Sc.drewN (h : Sc p s i w0 w) (n : Nat) : Sc p s i w0 (w.drewN n) := ⟨⟨h.g.os, h.g.tape, h.g.output, h.g.size, h.g.block⟩, h.a⟩
theorem Sc.set (h : Sc p s i w0 w) (j : Nat) : Sc p s j w0 (w.setCell ⟨p, 1, none⟩ (.int .i64 (j : Int))) :=
  ⟨grown_set h.g _ _, by simp [World.setCell, Array.getElem?_modify, h.a]⟩
theorem Sc.setI (h : Sc p s i w0 w) {v : Int} {j : Nat} (hv : v = (j : Int)) : Sc p s j w0 (w.setCell ⟨p, 1, none⟩ (.int .i64 v)) := by rw [hv]; exact h.set j
theorem Sc.refl (h : Sc p s i w0 w) : Sc p s i w w := ⟨grown_refl w _, h.a⟩
theorem Sc.onto {j : Nat} {w' : World} (h : Sc p s i w0 w) (k : Sc p s j w w') : Sc p s j w0 w' := ⟨grown_trans h.g k.g, k.a⟩
end
/-- A block of the call's own is written. -/
theorem Sc.setq {p : Nat} {s : ByteArray} {i : Nat} {w0 w : World} (h : Sc p s i w0 w) {q : Nat} (hq : w0.heap.size ≤ q) (hqp : q ≠ p) (o : Nat) (u : Value) : Sc p s i w0 (w.setCell ⟨q, o, none⟩ u) :=
  ⟨⟨h.g.os, h.g.tape, h.g.output, by have := h.g.size; simpa [World.setCell] using this, fun k hk hr => (Below.heap_setCell _ _ _ _ (fun e => by have e' : k = q := e; omega)).trans (h.g.block k hk hr)⟩,
    (Below.heap_setCell _ _ _ _ (fun e => hqp e.symm)).trans h.a⟩
theorem Sc.other {p : Nat} {s : ByteArray} {i : Nat} {w0 w : World} (h : Sc p s i w0 w) {q : Nat} (hq : q < w0.heap.size) (hqp : q ≠ p) : w.heap[q]? = w0.heap[q]? := h.g.block q hq (by simpa using hqp)
/-- A token's block, as it was made. -/
structure TokAt (q : Nat) (w : World) : Prop where
  a : w.heap[q]? = some (.cells #[.int .i64 0, .int .i64 0, .string ⟨#[]⟩, .string ⟨#[]⟩, .int .u64 0, .bool false] 33 (0, 0))
theorem TokAt.cells {q : Nat} {w : World} (h : TokAt q w) : w.cell? ⟨q, 0, none⟩ = some (.int .i64 0) ∧ w.cell? ⟨q, 1, none⟩ = some (.int .i64 0) ∧ w.cell? ⟨q, 2, none⟩ = some (.string ⟨#[]⟩) ∧ w.cell? ⟨q, 3, none⟩ = some (.string ⟨#[]⟩) ∧ w.cell? ⟨q, 4, none⟩ = some (.int .u64 0) ∧ w.cell? ⟨q, 5, none⟩ = some (.bool false) ∧ (∀ o, w.frozen? ⟨q, o, none⟩ = false) := by
  refine ⟨?_, ?_, ?_, ?_, ?_, ?_, fun o => ?_⟩ <;> simp [World.cell?, World.frozen?, h.a]
theorem TokAt.made (w : World) : TokAt w.heap.size (w.alloc (.cells #[.int .i64 0, .int .i64 0, .string ⟨#[]⟩, .string ⟨#[]⟩, .int .u64 0, .bool false] 33)) :=
  ⟨heap_alloc_new w _⟩
theorem TokAt.on {p q : Nat} {s : ByteArray} {i : Nat} {w0 w : World} (t : TokAt q w0) (h : Sc p s i w0 w) (hq : q < w0.heap.size) (hqp : q ≠ p) : TokAt q w := ⟨(h.other hq hqp).trans t.a⟩
/-- Such a world. -/
structure ScW (p : Nat) (s : ByteArray) (i : Nat) (w0 : World) where
  W : World
  h : Sc p s i w0 W
theorem sc_call {p : Nat} {s : ByteArray} {i : Nat} {w0 : World} (u : ScW p s i w0) {F : FuncId} {args : Array Value} {v : Value}
    (h : Calls Try.prog F args u.W fun e w' => e = .returned v ∧ Sc p s i w0 w') : Calls Try.prog F args u.W fun e w'' => e = .returned v ∧ ∃ m : ScW p s i w0, w'' = m.W :=
  h.mono fun e w' ⟨he, hg⟩ => ⟨he, ⟨w', hg⟩, rfl⟩
theorem wp_region_class {P : Program} {C : World → Prop} {id : Nat} {Q : Exit → Act → World → Prop} {a : Act} {w : World} {l : List Oper} (hm : P.follows .mixedOrders = true) (hB : Region.lexB .any l.toArray = true) (hC : C { w with drawn := w.drawn + 1 })
    (h : wpQuiet P l.toArray C (fun a' => ∀ w', C w' → Q .normal a' w') l a) : (Code.region id l.toArray true).wp P Q a w :=
  wp_region_quiet hm hB hC h

set_option maxHeartbeats 400000 in
theorem peek_in (p : Nat) (s : ByteArray) (i k : Nat) (o : Int) (ho : 0 ≤ o) (hk : (i : Int) + o = k) (hlt : k < s.size) (hs : s.size ≤ maxLen) (w0 w : World) (h : Sc p s i w0 w) :
    Calls Try.prog 21 #[.pointer (some ⟨p, 0, none⟩), .int .i64 o] w fun e w' => e = .returned (.int .u8 (Lx.pk s k)) ∧ Sc p s i w0 w' := by
  unfold maxLen at hs
  have HS := Lib.hid h
  have c0 := h.c0
  have c1 := h.c1
  have hk1 : (i : Int) + o < (s.size : Int) := by omega
  have hk0 : 0 ≤ (i : Int) + o := by omega
  have hkn : ((i : Int) + o).toNat = k := by omega
  have hp := Lx.pk_lt hlt
  have HP := Lib.hid hp
  clear hp h
  go_enter Try.func21, Try.ntmps21
  go_wp2_with fail
  go_quiet (fail)
  go_wp2_with fail
  go_quiet (fail)
  go_wp2_with fail
  go_returns
  exact ⟨ri rfl HP.out.symm, (HS.out.drewN _).drewN _⟩
set_option maxHeartbeats 400000 in
theorem peek_out (p : Nat) (s : ByteArray) (i k : Nat) (o : Int) (ho : 0 ≤ o ∧ o ≤ 100) (hk : (i : Int) + o = k) (hge : ¬ k < s.size) (hi : i ≤ s.size) (hs : s.size ≤ 4611686018427387904) (w0 w : World) (h : Sc p s i w0 w) :
    Calls Try.prog 21 #[.pointer (some ⟨p, 0, none⟩), .int .i64 o] w fun e w' => e = .returned (.int .u8 (Lx.pk s k)) ∧ Sc p s i w0 w' := by
  have HS := Lib.hid h
  have c0 := h.c0
  have c1 := h.c1
  have hk1 : ¬ (i : Int) + o < (s.size : Int) := by omega
  have hk0 : 0 ≤ (i : Int) + o := by omega
  have hp := Lx.pk_ge hge
  have HP := Lib.hid hp
  clear hp h
  go_enter Try.func21, Try.ntmps21
  go_wp2_with fail
  go_quiet (fail)
  go_wp2_with fail
  go_returns
  exact ⟨ri rfl HP.out.symm, (HS.out.drewN _)⟩
theorem peek_as (p : Nat) (s : ByteArray) (i k : Nat) (o c : Int) (ho : 0 ≤ o ∧ o ≤ 100) (hk : (i : Int) + o = k) (hi : i ≤ s.size) (hs : s.size ≤ 4611686018427387904) (HC : Hid (Lx.pk s k = c)) (w0 w : World) (h : Sc p s i w0 w) :
    Calls Try.prog 21 #[.pointer (some ⟨p, 0, none⟩), .int .i64 o] w fun e w' => e = .returned (.int .u8 c) ∧ Sc p s i w0 w' := by
  rw [← HC.out]
  by_cases hlt : k < s.size
  · exact peek_in p s i k o ho.1 hk hlt (by unfold maxLen; omega) w0 w h
  · exact peek_out p s i k o ho hk hlt hi hs w0 w h
end Go.Proofs.Ytlpoahjgonjelaa
