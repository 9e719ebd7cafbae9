/- Draws alone. -/
import Derived.Test.YtkjhdanfbmdmlaaDoorBaseB
namespace Go.Proofs.YtkjhdanfbmdmlaaDoor
open Go.RowKit
/-- w' is w with so many draws made. -/
def Drawn (w w' : World) : Prop := ∃ n, w' = w.drewN n
theorem Gr.drewN {a w : World} (h : Gr a w) (n : Nat) : Gr a (w.drewN n) := ⟨h.b.trans ⟨rfl, rfl, rfl, Nat.le_refl _, fun _ _ => rfl⟩, h.f⟩
end Go.Proofs.YtkjhdanfbmdmlaaDoor
