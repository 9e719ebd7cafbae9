/- WordTurns: what its regions hold: two boxed widths. -/
import Derived.Test.YtkjhdanfbmdmlaaDoorWordWidthsB
import Derived.Test.YtkjhdanfbmdmlaaDoorWordTellsB
import Derived.Deep.RegionHeld3
import Derived.Deep.DeepCutAuto
namespace Go.Proofs.YtkjhdanfbmdmlaaDoor
open Go.RowKit
set_option linter.unusedVariables false

/-- A world in which two boxed widths read so, grown from w. -/
structure Two (w : World) (p q : Nat) (b : Int) (s : Bool) (c : Int) (t : Bool) where
  W : World
  p0 : W.cell? ⟨p, 0, none⟩ = some (.int .i64 b)
  p1 : W.cell? ⟨p, 1, none⟩ = some (.bool s)
  q0 : W.cell? ⟨q, 0, none⟩ = some (.int .i64 c)
  q1 : W.cell? ⟨q, 1, none⟩ = some (.bool t)
  zp : p < W.heap.size
  zq : q < W.heap.size
  g : Below w.heap.size w W
def Two.on {w : World} {p q : Nat} {b : Int} {s : Bool} {c : Int} {t : Bool} (u : Two w p q b s c t) {V : World} (h : Gr u.W V) : Two w p q b s c t :=
  ⟨V, (h.cell u.zp).trans u.p0, (h.cell u.zp).trans u.p1, (h.cell u.zq).trans u.q0, (h.cell u.zq).trans u.q1,
    Nat.lt_of_lt_of_le u.zp h.size, Nat.lt_of_lt_of_le u.zq h.size, u.g.trans (h.b.mono u.g.size)⟩
theorem two_call {w : World} {p q : Nat} {b : Int} {s : Bool} {c : Int} {t : Bool} (u : Two w p q b s c t) {f : FuncId} {args : Array Value} {v : Value}
    (h : Calls Tryd.prog f args u.W fun e w' => e = .returned v ∧ Gr u.W w') : Calls Tryd.prog f args u.W fun e w'' => e = .returned v ∧ ∃ m : Two w p q b s c t, w'' = m.W :=
  h.mono fun e w' ⟨he, hg⟩ => ⟨he, u.on hg, rfl⟩
theorem two_mk {w V : World} {p q : Nat} {b : Int} {s : Bool} {c : Int} {t : Bool} (p0 : V.cell? ⟨p, 0, none⟩ = some (.int .i64 b)) (p1 : V.cell? ⟨p, 1, none⟩ = some (.bool s)) (q0 : V.cell? ⟨q, 0, none⟩ = some (.int .i64 c)) (q1 : V.cell? ⟨q, 1, none⟩ = some (.bool t))
    (zp : p < V.heap.size) (zq : q < V.heap.size) (g : Below w.heap.size w V) : ∃ m : Two w p q b s c t, m.W = V := ⟨⟨V, p0, p1, q0, q1, zp, zq, g⟩, rfl⟩
/-- A call outside a region: the world that it leaves is one of these. -/
theorem two_next {w : World} {p q : Nat} {b : Int} {s : Bool} {c : Int} {t : Bool} (u : Two w p q b s c t) {V : World} (h : Gr u.W V) : ∃ m : Two w p q b s c t, m.W = V := ⟨u.on h, rfl⟩
end Go.Proofs.YtkjhdanfbmdmlaaDoor
