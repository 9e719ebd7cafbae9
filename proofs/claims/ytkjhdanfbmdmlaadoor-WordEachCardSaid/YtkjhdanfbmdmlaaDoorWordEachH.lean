/- WordEach: what its regions hold: the row of the eight widths. -/
import Derived.Test.YtkjhdanfbmdmlaaDoorWordWidthsB
import Derived.Test.YtkjhdanfbmdmlaaDoorWordTellsB
namespace Go.Proofs.YtkjhdanfbmdmlaaDoor
open Go.RowKit
set_option linter.unusedVariables false

/-- A world in which the row of the eight widths reads so, grown from w. -/
structure Row8 (w : World) (g : Nat) where
  W : World
  c : ∀ k : Nat, k < 8 → W.cell? ⟨g, k * 2, none⟩ = some (.int .i64 (Wd.tabB k)) ∧ W.cell? ⟨g, k * 2 + 1, none⟩ = some (.bool (Wd.tabS k))
  z : g < W.heap.size
  n : Below w.heap.size w W
def Row8.on {w : World} {g : Nat} (u : Row8 w g) {V : World} (h : Gr u.W V) : Row8 w g :=
  ⟨V, fun k hk => ⟨(h.cell u.z).trans (u.c k hk).1, (h.cell u.z).trans (u.c k hk).2⟩, Nat.lt_of_lt_of_le u.z h.size, u.n.trans (h.b.mono u.n.size)⟩
theorem row8_call {w : World} {g : Nat} (u : Row8 w g) {F : FuncId} {args : Array Value} {v : Value}
    (h : Calls Tryd.prog F args u.W fun e w' => e = .returned v ∧ Gr u.W w') : Calls Tryd.prog F args u.W fun e w'' => e = .returned v ∧ ∃ m : Row8 w g, w'' = m.W :=
  h.mono fun e w' ⟨he, hg⟩ => ⟨he, u.on hg, rfl⟩
theorem row8_next {w : World} {g : Nat} (u : Row8 w g) {V : World} (h : Gr u.W V) : ∃ m : Row8 w g, m.W = V := ⟨u.on h, rfl⟩
theorem row8_made {w w' : World} {g : Nat} (z : g < w'.heap.size) (n : Below w.heap.size w w') (c : ∀ k : Nat, k < 8 → w'.cell? ⟨g, k * 2, none⟩ = some (.int .i64 (Wd.tabB k)) ∧ w'.cell? ⟨g, k * 2 + 1, none⟩ = some (.bool (Wd.tabS k))) :
    ∃ m : Row8 w g, m.W = w' := ⟨⟨w', c, z, n⟩, rfl⟩
end Go.Proofs.YtkjhdanfbmdmlaaDoor
