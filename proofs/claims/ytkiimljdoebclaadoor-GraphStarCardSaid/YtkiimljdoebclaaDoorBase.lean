/- What the walks share: a world that has grown by blocks of the call's own ('Gr'), and the table of widths that lies in memory ('Laid'). -/
import Derived.Test.YtkiimljdoebclaaDoorProg
import Derived.WalkKit
import Derived.WalkSpells
import Derived.WalkLawsBesides
import Derived.RowKit3
import Derived.Handy
import Derived.Lib.Hide
import Derived.BigQuiet
import Derived.Deep.QuietTactic
namespace Go.Proofs.YtkiimljdoebclaaDoor
open Go.RowKit

/-- w' is w with new blocks behind it, those written, and draws made. -/
structure Gr (w w' : World) : Prop where
  b : Below w.heap.size w w'
  f : ∀ a, w'.frozen? a = w.frozen? a

theorem Gr.refl (w : World) : Gr w w := ⟨Below.refl _ _, fun _ => rfl⟩
theorem Gr.trans {a b c : World} (h : Gr a b) (k : Gr b c) : Gr a c :=
  ⟨h.b.trans (k.b.mono h.b.size), fun x => (k.f x).trans (h.f x)⟩
theorem Gr.alloc {a w : World} (h : Gr a w) (c : Array Value) (t : TypeId) : Gr a (w.alloc (.cells c t)) :=
  ⟨h.b.alloc h.b.size _, fun x => (frozen?_alloc_cells _ _ _ x).trans (h.f x)⟩
theorem Gr.drew {a w : World} (h : Gr a w) : Gr a w.drew := ⟨h.b.drew, h.f⟩
theorem Gr.setCell {a w : World} (h : Gr a w) {p : Addr} (hp : a.heap.size ≤ p.block) (u : Value) : Gr a (w.setCell p u) :=
  ⟨h.b.setCell hp u, fun x => (World.frozen?_setCell _ _ _ _).trans (h.f x)⟩
theorem Gr.of_alloc {w w' : World} {c : Array Value} {t : TypeId} (h : Gr (w.alloc (.cells c t)) w') : Gr w w' :=
  ((Gr.refl w).alloc c t).trans h
theorem Gr.size {w w' : World} (h : Gr w w') : w.heap.size ≤ w'.heap.size := h.b.size
theorem Gr.cell {w w' : World} (h : Gr w w') {b o : Nat} (hb : b < w.heap.size) : w'.cell? ⟨b, o, none⟩ = w.cell? ⟨b, o, none⟩ :=
  h.b.cell (p := ⟨b, o, none⟩) hb
/-- What was there reads as it did: the two rules that a walk takes behind a call. -/
theorem Gr.cells {w w' : World} (h : Gr w w') : (∀ b o, b < w.heap.size → w'.cell? ⟨b, o, none⟩ = w.cell? ⟨b, o, none⟩) ∧ (∀ b o, b < w.heap.size → w'.frozen? ⟨b, o, none⟩ = w.frozen? ⟨b, o, none⟩) :=
  ⟨fun _ _ hb => h.b.cell (p := ⟨_, _, none⟩) hb, fun _ _ _ => h.f _⟩
theorem Gr.grown {w w' : World} (h : Gr w w') : Grown w w' := ⟨h.b.frame _, h.f, h.b.size⟩

/-! What a call returns: the slot's value, and what is known of it. -/
theorem rb {v : Value} {a b : Bool} (hv : v = .bool a) (h : a = b) : Ending.returned v = .returned (.bool b) := by rw [hv, h]
theorem ri {v : Value} {k : IntKind} {a b : Int} (hv : v = .int k a) (h : a = b) : Ending.returned v = .returned (.int k b) := by rw [hv, h]
theorem rt {v u : Value} {k : IntKind} {a b : Int} {p q : Bool} (hv : v = .int k a) (hu : u = .bool p) (h : a = b) (h' : p = q) :
    Ending.returned (.tuple #[v, u]) = .returned (.tuple #[.int k b, .bool q]) := by rw [hv, hu, h, h']

end Go.Proofs.YtkiimljdoebclaaDoor
