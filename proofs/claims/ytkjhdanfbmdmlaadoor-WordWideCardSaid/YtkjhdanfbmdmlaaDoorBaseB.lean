/- More on worlds that have grown. -/
import Derived.Test.YtkjhdanfbmdmlaaDoorBase
namespace Go.Proofs.YtkjhdanfbmdmlaaDoor
open Go.RowKit
/-- A block of two cells reads as it did. -/
theorem Gr.two {w w' : World} (h : Gr w w') {k : Nat} (hk : k < w.heap.size) :
    w'.cell? ⟨k, 0, none⟩ = w.cell? ⟨k, 0, none⟩ ∧ w'.cell? ⟨k, 1, none⟩ = w.cell? ⟨k, 1, none⟩ ∧ w'.frozen? ⟨k, 0, none⟩ = w.frozen? ⟨k, 0, none⟩ ∧ w'.frozen? ⟨k, 1, none⟩ = w.frozen? ⟨k, 1, none⟩ :=
  ⟨h.cell hk, h.cell hk, h.f _, h.f _⟩
end Go.Proofs.YtkjhdanfbmdmlaaDoor
