/- The document's numbers. -/
import Derived.Test.YtlpoahjgonjelaaLexRefChar
import Derived.Test.YtlpoahjgonjelaaLexNumber
import Derived.Test.YtlpoahjgonjelaaLexSignM
import Derived.Deep.LoopGhost
import Derived.Deep.DeepCutAuto
import Derived.StillTailTactics
import Derived.IntWalk
import Derived.Laws.Tables
namespace Go.Proofs.Ytlpoahjgonjelaa
open Go.RowKit
set_option linter.unusedVariables false

theorem one6 (a b : Int) (T S : ByteArray) (n : Int) (h : Bool) : (#[Value.int .i64 a, .int .i64 b, .string T, .string S, .int .u64 n, .bool h] : Array Value).all (fun x => x.oneCell') = true := by simp [Value.oneCell']
theorem infoS : (Try.prog.info? 33).map (·.size) = some 6 := by kernel_rfl
theorem gn_row {a w : World} (h : a.grownBy w none) {g : Nat} (hg : a.heap.size ≤ g) (cs : Array Value) : a.grownBy (w.setRow g cs) none :=
  ⟨h.os, h.tape, h.output, by rw [setRow_size]; exact h.size, fun k hk hr => (setRow_other _ _ _ _ (by omega)).trans (h.block k hk hr)⟩
/-- A row's own cells. -/
theorem row_cell (w : World) (g : Nat) (cs : Array Value) {t : TypeId} {old : Array Value} (hg : w.heap[g]? = some (.cells old t (0, 0))) (j : Nat) : (w.setRow g cs).cell? ⟨g, j, none⟩ = cs[j]? := cell_setRow_same w g j old cs t (0, 0) hg
/-- The world of number's walk: its answer's block, and its token's. -/
structure NB (w : World) (i : Nat) (T S : ByteArray) (V : Int) (H : Bool) (x : World) : Prop where
  g : w.grownBy x none
  a : TokAt w.heap.size x
  b : TokG (w.heap.size + 1) 3 (i : Int) T S V H x
section
variable {w x : World} {i : Nat} {T S : ByteArray} {V : Int} {H : Bool}
theorem NB.start (w : World) (i : Nat) (H : Bool) : NB w i ⟨#[]⟩ ⟨#[]⟩ 0 H ((w.alloc (.cells #[.int .i64 0, .int .i64 0, .string ⟨#[]⟩, .string ⟨#[]⟩, .int .u64 0, .bool false] 33)).alloc (.cells #[.int .i64 3, .int .i64 (i : Int), .string ⟨#[]⟩, .string ⟨#[]⟩, .int .u64 0, .bool H] 33)) := by
  refine ⟨gn_alloc (gn_alloc (gn_refl w) _) _, ⟨?_⟩, ⟨?_⟩⟩
  · exact (Below.heap_alloc _ _ _ (by simp)).trans (heap_alloc_new w _)
  · have := heap_alloc_new (w.alloc (.cells #[.int .i64 0, .int .i64 0, .string ⟨#[]⟩, .string ⟨#[]⟩, .int .u64 0, .bool false] 33)) (.cells #[.int .i64 3, .int .i64 (i : Int), .string ⟨#[]⟩, .string ⟨#[]⟩, .int .u64 0, .bool H] 33)
    rw [heap_two] at this; exact this
theorem NB.lt (h : NB w i T S V H x) : w.heap.size + 1 < x.heap.size := h.b.lt
theorem NB.drewN (h : NB w i T S V H x) (n : Nat) : NB w i T S V H (x.drewN n) := ⟨gn_drewN h.g n, ⟨h.a.a⟩, ⟨h.b.a⟩⟩
theorem NB.drew (h : NB w i T S V H x) : NB w i T S V H x.drew := ⟨gn_drew h.g, ⟨h.a.a⟩, ⟨h.b.a⟩⟩
theorem NB.seta {u : Value} {o : Nat} (h : NB w i T S V H x) (b : TokG (w.heap.size + 1) 3 (i : Int) T S V H (x.setCell ⟨w.heap.size + 1, o, none⟩ u)) : NB w i T S V H (x.setCell ⟨w.heap.size + 1, o, none⟩ u) :=
  ⟨gn_set h.g (by omega) _ _, ⟨(Below.heap_setCell _ _ _ _ (by show w.heap.size ≠ w.heap.size + 1; omega)).trans h.a.a⟩, b⟩
theorem NB.num (h : NB w i T S V H x) {m n : Int} (e : m = n) : NB w i T S n H (x.setCell ⟨w.heap.size + 1, 4, none⟩ (.int .u64 m)) := by
  subst e
  exact ⟨gn_set h.g (by omega) _ _, ⟨(Below.heap_setCell _ _ _ _ (by show w.heap.size ≠ w.heap.size + 1; omega)).trans h.a.a⟩, ⟨by simp [World.setCell, Array.getElem?_modify, h.b.a]⟩⟩
theorem NB.hexed (h : NB w i T S V H x) (u : Bool) : NB w i T S V u (x.setCell ⟨w.heap.size + 1, 5, none⟩ (.bool u)) :=
  ⟨gn_set h.g (by omega) _ _, ⟨(Below.heap_setCell _ _ _ _ (by show w.heap.size ≠ w.heap.size + 1; omega)).trans h.a.a⟩, ⟨by simp [World.setCell, Array.getElem?_modify, h.b.a]⟩⟩
theorem NB.sufd (h : NB w i T S V H x) (u : ByteArray) : NB w i T u V H (x.setCell ⟨w.heap.size + 1, 3, none⟩ (.string u)) :=
  ⟨gn_set h.g (by omega) _ _, ⟨(Below.heap_setCell _ _ _ _ (by show w.heap.size ≠ w.heap.size + 1; omega)).trans h.a.a⟩, ⟨by simp [World.setCell, Array.getElem?_modify, h.b.a]⟩⟩
theorem NB.texted (h : NB w i T S V H x) (u : ByteArray) : NB w i u S V H (x.setCell ⟨w.heap.size + 1, 2, none⟩ (.string u)) :=
  ⟨gn_set h.g (by omega) _ _, ⟨(Below.heap_setCell _ _ _ _ (by show w.heap.size ≠ w.heap.size + 1; omega)).trans h.a.a⟩, ⟨by simp [World.setCell, Array.getElem?_modify, h.b.a]⟩⟩
end
/-- What a part of the document's scanner answers: what is wrong, and, if nothing is, the token. -/
def RTok (s : ByteArray) (i : Nat) (R : Lx.NumR) (w : World) (e : Ending) (w' : World) : Prop :=
  ∃ (k a : Int) (T S : ByteArray) (n : Int) (h : Bool), e = .returned (.tuple #[.agg #[.int .i64 k, .int .i64 a, .string T, .string S, .int .u64 n, .bool h], .int .i64 R.code]) ∧ (R.code = 0 → k = R.kind ∧ a = (i : Int) ∧ T = s.extract i R.j ∧ S = R.suf ∧ n = R.num ∧ h = R.hex) ∧ w.grownBy w' none
theorem fit16 {n V : Int} (hV : 0 ≤ V) (hv : V ≤ 15) : (1152921504606846976 ≤ n) ↔ ¬ n ≤ (18446744073709551615 - V) / 16 := by omega
theorem valB10 {c : Int} (h : 0 ≤ Lx.valB 10 c) : Lx.digB c = true := by
  cases hD : Lx.digB c
  · unfold Lx.valB at h; rw [hD, if_neg (by decide), if_neg (by omega), if_neg (by omega)] at h; omega
  · rfl
theorem zero_next {s : ByteArray} {i : Nat} (hi : i < s.size) (h0 : Lx.pk s i = 48) : Lx.digs s 10 s.size i 0 true = Lx.digs s 10 (s.size - 1) (i + 1) 0 true := by
  obtain ⟨m, hm⟩ : ∃ m, s.size = m + 1 := ⟨s.size - 1, by omega⟩
  have hv : Lx.valB 10 48 = 0 := by decide
  rw [hm, Lx.digs_yes (by rw [h0, hv]; decide), h0, hv]
  simp
theorem zero_digM {s : ByteArray} {i : Nat} (h0 : Lx.pk s i = 48) : Lx.digM s 10 i = (i + 1, 0, true) := by unfold Lx.digM; rw [if_pos ⟨rfl, h0⟩]
/-- A first 0 and digits behind it: wrong. -/
theorem zero_more {s : ByteArray} {i k : Nat} {n : Int} {b : Bool} (hi : i < s.size) (h0 : Lx.pk s i = 48) (h : Lx.digs s 10 s.size i 0 true = (k, n, b)) (hk : i + 1 < k) : Lx.tailM s 10 i false = Lx.bad 3 (i + 1) := by
  rw [zero_next hi h0] at h
  by_cases hv : 0 ≤ Lx.valB 10 (Lx.pk s (i + 1))
  · have hD := valB10 hv
    have hd := (Lx.digB_iff _).1 hD
    have hs : Lx.sufLen s (i + 1) = 0 := by unfold Lx.sufLen; rw [if_neg (by omega), if_neg (by omega)]
    have hE : Lx.nEnd s 10 i = i + 1 := by unfold Lx.nEnd; rw [zero_digM h0]; show i + 1 + Lx.sufLen s (i + 1) = _; rw [hs]
    have hC : Lx.nCode s 10 i = 3 := by unfold Lx.nCode; rw [hE, if_pos (by unfold Lx.inB; rw [hD, Bool.or_true])]
    unfold Lx.tailM; rw [hC, hE, if_neg (by decide)]
  · rw [Lx.digs_no hv] at h
    have := congrArg Prod.fst h
    simp at this; omega
/-- A 0 alone. -/
theorem zero_one {s : ByteArray} {i k : Nat} {n : Int} {b : Bool} (hi : i < s.size) (h0 : Lx.pk s i = 48) (h : Lx.digs s 10 s.size i 0 true = (k, n, b)) (hk : ¬ i + 1 < k) : Lx.digM s 10 i = (k, n, b) := by
  rw [zero_next hi h0] at h
  by_cases hv : 0 ≤ Lx.valB 10 (Lx.pk s (i + 1))
  · have hlt := Lx.valB_in hv
    obtain ⟨m, hm⟩ : ∃ m, s.size - 1 = m + 1 := ⟨s.size - 2, by omega⟩
    rw [hm, Lx.digs_yes hv] at h
    have hb := Lx.digs_bd (s := s) (b := 10) m (i + 1 + 1) ((0 * 10 + Lx.valB 10 (Lx.pk s (i + 1))) % 18446744073709551616) (true && decide (0 ≤ (18446744073709551615 - Lx.valB 10 (Lx.pk s (i + 1))) / 10)) (by omega) (by omega)
    rw [h] at hb
    have := hb.1
    simp at this; omega
  · rw [Lx.digs_no hv] at h
    rw [zero_digM h0]; exact h
end Go.Proofs.Ytlpoahjgonjelaa
