/- Three boxed widths, held through a region. -/
import Derived.Test.YtkjhdanfbmdmlaaDoorWordWidthsB
import Derived.Test.YtkjhdanfbmdmlaaDoorWordTellsB
import Derived.Deep.RegionHeld3
import Derived.Deep.DeepCutAuto
namespace Go.Proofs.YtkjhdanfbmdmlaaDoor
open Go.RowKit
set_option linter.unusedVariables false

/-- A world in which three boxed widths read so, grown from w. -/
structure Three (w : World) (p q r : Nat) (b : Int) (s : Bool) (c : Int) (t : Bool) (B : Int) (S : Bool) where
  W : World
  p0 : W.cell? ⟨p, 0, none⟩ = some (.int .i64 b)
  p1 : W.cell? ⟨p, 1, none⟩ = some (.bool s)
  q0 : W.cell? ⟨q, 0, none⟩ = some (.int .i64 c)
  q1 : W.cell? ⟨q, 1, none⟩ = some (.bool t)
  r0 : W.cell? ⟨r, 0, none⟩ = some (.int .i64 B)
  r1 : W.cell? ⟨r, 1, none⟩ = some (.bool S)
  zp : p < W.heap.size
  zq : q < W.heap.size
  zr : r < W.heap.size
  g : Below w.heap.size w W
def Three.on {w : World} {p q r : Nat} {b : Int} {s : Bool} {c : Int} {t : Bool} {B : Int} {S : Bool} (u : Three w p q r b s c t B S) {V : World} (h : Gr u.W V) : Three w p q r b s c t B S :=
  ⟨V, (h.cell u.zp).trans u.p0, (h.cell u.zp).trans u.p1, (h.cell u.zq).trans u.q0, (h.cell u.zq).trans u.q1, (h.cell u.zr).trans u.r0, (h.cell u.zr).trans u.r1,
    Nat.lt_of_lt_of_le u.zp h.size, Nat.lt_of_lt_of_le u.zq h.size, Nat.lt_of_lt_of_le u.zr h.size, u.g.trans (h.b.mono u.g.size)⟩
theorem three_call {w : World} {p q r : Nat} {b : Int} {s : Bool} {c : Int} {t : Bool} {B : Int} {S : Bool} (u : Three w p q r b s c t B S) {f : FuncId} {args : Array Value} {v : Value}
    (h : Calls Tryd.prog f args u.W fun e w' => e = .returned v ∧ Gr u.W w') : Calls Tryd.prog f args u.W fun e w'' => e = .returned v ∧ ∃ m : Three w p q r b s c t B S, w'' = m.W :=
  h.mono fun e w' ⟨he, hg⟩ => ⟨he, u.on hg, rfl⟩
end Go.Proofs.YtkjhdanfbmdmlaaDoor
