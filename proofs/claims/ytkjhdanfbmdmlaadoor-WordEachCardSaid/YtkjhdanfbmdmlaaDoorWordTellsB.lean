/- Two boxed widths read as they were laid (what the walk of WordTells holds through its region). -/
import Derived.Test.YtkjhdanfbmdmlaaDoorWordTellsA
namespace Go.Proofs.YtkjhdanfbmdmlaaDoor
open Go.RowKit
set_option linter.unusedVariables false
set_option linter.unusedSimpArgs false

/-- Two boxed widths read as they were laid, in every world grown from there. -/
theorem two_at (w : World) (c : Int) (t : Bool) (b : Int) (s : Bool) (k : TypeId) {W : World} (h : Gr ((w.alloc (.cells #[.int .i64 c, .bool t] k)).alloc (.cells #[.int .i64 b, .bool s] k)) W) :
    W.cell? ⟨w.heap.size, 0, none⟩ = some (.int .i64 c) ∧ W.cell? ⟨w.heap.size, 1, none⟩ = some (.bool t) ∧ W.cell? ⟨w.heap.size + 1, 0, none⟩ = some (.int .i64 b) ∧ W.cell? ⟨w.heap.size + 1, 1, none⟩ = some (.bool s) ∧ w.heap.size + 1 < W.heap.size ∧ Hid (Gr w W) := by
  have hs := h.size
  obtain ⟨a1, a2, _, _⟩ := h.two (k := w.heap.size) (by simp; omega)
  obtain ⟨b1, b2, _, _⟩ := h.two (k := w.heap.size + 1) (by simp)
  refine ⟨?_, ?_, ?_, ?_, ?_, ?_⟩
  · rw [a1, World.cell?_alloc_past _ _ _ (by simp), World.cell?_alloc_at _ _ _ _ rfl]; rfl
  · rw [a2, World.cell?_alloc_past _ _ _ (by simp), World.cell?_alloc_at _ _ _ _ rfl]; rfl
  · rw [b1, World.cell?_alloc_at _ _ _ _ (by simp)]; rfl
  · rw [b2, World.cell?_alloc_at _ _ _ _ (by simp)]; rfl
  · simp at hs; omega
  · exact h.of_alloc.of_alloc
theorem two_on {w W V : World} {c : Int} {t : Bool} {b : Int} {s : Bool}
    (h : W.cell? ⟨w.heap.size, 0, none⟩ = some (.int .i64 c) ∧ W.cell? ⟨w.heap.size, 1, none⟩ = some (.bool t) ∧ W.cell? ⟨w.heap.size + 1, 0, none⟩ = some (.int .i64 b) ∧ W.cell? ⟨w.heap.size + 1, 1, none⟩ = some (.bool s) ∧ w.heap.size + 1 < W.heap.size ∧ Hid (Gr w W)) (g : Gr W V) :
    V.cell? ⟨w.heap.size, 0, none⟩ = some (.int .i64 c) ∧ V.cell? ⟨w.heap.size, 1, none⟩ = some (.bool t) ∧ V.cell? ⟨w.heap.size + 1, 0, none⟩ = some (.int .i64 b) ∧ V.cell? ⟨w.heap.size + 1, 1, none⟩ = some (.bool s) ∧ w.heap.size + 1 < V.heap.size ∧ Hid (Gr w V) := by
  obtain ⟨h1, h2, h3, h4, h5, h6⟩ := h
  have hs := g.size
  obtain ⟨a1, a2, _, _⟩ := g.two (k := w.heap.size) (by omega)
  obtain ⟨b1, b2, _, _⟩ := g.two (k := w.heap.size + 1) (by omega)
  exact ⟨a1.trans h1, a2.trans h2, b1.trans h3, b2.trans h4, by omega, h6.out.trans g⟩
/-- A world in which the two widths read so, grown from w. -/
structure Held (w : World) (c : Int) (t : Bool) (b : Int) (s : Bool) where
  W : World
  h : W.cell? ⟨w.heap.size, 0, none⟩ = some (.int .i64 c) ∧ W.cell? ⟨w.heap.size, 1, none⟩ = some (.bool t) ∧ W.cell? ⟨w.heap.size + 1, 0, none⟩ = some (.int .i64 b) ∧ W.cell? ⟨w.heap.size + 1, 1, none⟩ = some (.bool s) ∧ w.heap.size + 1 < W.heap.size ∧ Hid (Gr w W)
/-- A callee that leaves all as it was but for new blocks keeps the class. -/
theorem held_call {w : World} {c : Int} {t : Bool} {b : Int} {s : Bool} (u : Held w c t b s) {f : FuncId} {args : Array Value} {v : Value}
    (h : Calls Tryd.prog f args u.W fun e w' => e = .returned v ∧ Gr u.W w') : Calls Tryd.prog f args u.W fun e w'' => e = .returned v ∧ ∃ m : Held w c t b s, w'' = m.W :=
  h.mono fun e w' ⟨he, hg⟩ => ⟨he, ⟨w', two_on u.h hg⟩, rfl⟩
theorem wp_region_class {P : Program} {C : World → Prop} {id : Nat} {Q : Exit → Act → World → Prop} {a : Act} {w : World} {l : List Oper} (hm : P.follows .mixedOrders = true) (hB : Region.lexB .any l.toArray = true) (hC : C { w with drawn := w.drawn + 1 })
    (h : wpQuiet P l.toArray C (fun a' => ∀ w', C w' → Q .normal a' w') l a) : (Code.region id l.toArray true).wp P Q a w :=
  wp_region_quiet hm hB hC h
theorem two_gr {w W : World} {P1 P2 P3 P4 P5 : Prop} (h : P1 ∧ P2 ∧ P3 ∧ P4 ∧ P5 ∧ Hid (Gr w W)) : Gr w W := h.2.2.2.2.2.out

end Go.Proofs.YtkjhdanfbmdmlaaDoor
