/- An argument of moves, opened. -/
import Derived.Test.YtheapamlhoogaaaMvBase
import Derived.Deep.SlicePairs
import Derived.ChangeArms
import Derived.ChangeShapes
namespace Go.Proofs.Ytheapamlhoogaaa
open Go.RowKit Go.Maps Go.WideShapes Go.ChangeShapes Go.Deep
set_option linter.unusedVariables false
set_option linter.unusedSimpArgs false

theorem cells_mv : Try.prog.cellsOf 32 = 2 := by kernel_rfl
theorem cells_i : Try.prog.cellsOf 3 = 1 := by kernel_rfl
theorem open_movs {H : Type} {enc : TypeId × Value → H} {W : World} {fuel : Nat} {a0 : Option Addr} {len cap : Nat} {x : DataW H × List MemPlace}
    (h : DataW.trod enc Try.prog W 0 (fun _ => true) true fuel 22 [.slice a0 len cap] = some x) :
    ∃ l, Movs W a0 len l ∧ (a0 = none → len = 0 ∧ cap = 0) ∧ len ≤ 9223372036854775807 := by
  rcases open_slice_pairs Try.underlying22 Try.underlying32 cells_mv rfl rfl cells_i cells_i h with ⟨hcs, hx⟩ | ⟨a, len', cap', m, n, V0, V1, D0, D1, P0, P1, hcs, _, hl, hm, hmm, hx, hall⟩
  · simp at hcs
    obtain ⟨rfl, rfl, rfl⟩ := hcs
    exact ⟨[], movs_nil _ _, fun _ => ⟨rfl, rfl⟩, by omega⟩
  · simp only [List.cons.injEq, Value.slice.injEq, and_true] at hcs
    obtain ⟨rfl, rfl, rfl⟩ := hcs
    rw [if_pos rfl] at hmm
    subst hmm
    have hz : ∀ i, i < len → ∃ t : Int × Int, W.cell? (a.add (i * 2)) = some (.int .i64 t.1) ∧ W.cell? (a.add (i * 2 + 1)) = some (.int .i64 t.2) ∧ I64 t.1 ∧ I64 t.2 := fun i hi => by
      obtain ⟨c0, c1, t0, t1⟩ := hall i (by omega)
      obtain ⟨z0, e0, _, w0⟩ := DataW.trod_int Try.underlying3 t0
      obtain ⟨z1, e1, _, w1⟩ := DataW.trod_int Try.underlying3 t1
      injection e0 with e0; injection e1 with e1
      rw [e0] at c0; rw [e1] at c1
      have b : ∀ {z : Int}, (Lit.int .i64 z).wf = true → I64 z := fun {z} h => by
        have h1 : IntKind.i64.min = -9223372036854775808 := rfl
        have h2 : IntKind.i64.max = 9223372036854775807 := rfl
        simp [Lit.wf] at h
        unfold I64; omega
      exact ⟨(z0, z1), c0, c1, b w0, b w1⟩
    obtain ⟨q, hq⟩ := choose_lt hz
    refine ⟨(List.range len).map q, ⟨by simp, fun t ht => ?_, fun hn => ?_⟩, fun e => (by cases e), by unfold maxLen at hm; omega⟩
    · obtain ⟨i, hi, rfl⟩ := List.mem_map.1 ht
      have := hq i (List.mem_range.1 hi)
      exact ⟨this.2.2.1, this.2.2.2⟩
    · obtain ⟨b, off, spot⟩ := a
      have hspot : spot = none := by simpa [Addr.add] using World.cell?_spot (hq 0 hn).1
      subst hspot
      refine ⟨b, off, rfl, fun i t ht => ?_⟩
      have hi : i < len := by have := (List.getElem?_eq_some_iff.1 ht).1; simpa using this
      have he : t = q i := by rw [List.getElem?_map, List.getElem?_range hi] at ht; simpa using ht.symm
      subst he
      obtain ⟨c0, c1, _⟩ := hq i hi
      rw [add_plain] at c0 c1
      exact ⟨c0, by rw [← Nat.add_assoc] at c1; exact c1⟩
end Go.Proofs.Ytheapamlhoogaaa
