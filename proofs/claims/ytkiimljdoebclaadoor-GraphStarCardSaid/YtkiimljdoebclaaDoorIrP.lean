/- Programs of the middle language: as data, and as they lie in memory. -/
import Derived.Test.YtkiimljdoebclaaDoorIrLow
namespace Go.Proofs.YtkiimljdoebclaaDoor
open Go.RowKit
set_option linter.unusedVariables false
set_option linter.unusedSimpArgs false

/-- A block: its row of instructions. -/
structure Bx where
  a : Option Addr
  n : Nat
  cap : Nat
  l : List Ix
abbrev Bx.v (x : Bx) : Value := .slice x.a x.n x.cap
structure BxAt (w : World) (x : Bx) : Prop where
  len : x.l.length = x.n
  cap : x.n ≤ x.cap ∧ x.cap ≤ maxLen
  ok : ∀ i ∈ x.l, IxOk w i
  at_ : 0 < x.n → ∃ b off, x.a = some ⟨b, off, none⟩ ∧ ∀ (k : Nat) (i : Ix), x.l[k]? = some i → i.at_ w b (off + k * 11)
structure Fx where
  name : ByteArray
  params : Int
  regs : Int
  slots : Sl
  ba : Option Addr
  bn : Nat
  bc : Nat
  bl : List Bx
  value : Bool
def Fx.cells (f : Fx) : List Value := [.string f.name, .int .i64 f.params, .int .i64 f.regs, f.slots.v, .slice f.ba f.bn f.bc, .bool f.value]
def Fx.at_ (f : Fx) (w : World) (b off : Nat) : Prop := ∀ (j : Nat) (v : Value), f.cells[j]? = some v → w.cell? ⟨b, off + j, none⟩ = some v
structure FxOk (w : World) (f : Fx) : Prop where
  name : f.name.size ≤ maxLen
  params : I64 f.params
  regs : I64 f.regs
  slots : SlAt w f.slots
  len : f.bl.length = f.bn
  cap : f.bn ≤ f.bc ∧ f.bc ≤ maxLen
  ok : ∀ x ∈ f.bl, BxAt w x
  at_ : 0 < f.bn → ∃ b off, f.ba = some ⟨b, off, none⟩ ∧ ∀ (k : Nat) (x : Bx), f.bl[k]? = some x → w.cell? ⟨b, off + k, none⟩ = some x.v
structure Px where
  at_ : Int
  bytes : Int
  func : Int
  n : Int
structure Gx where
  name : ByteArray
  size : Int
  pa : Option Addr
  pn : Nat
  pc : Nat
  pl : List Px
def Gx.cells (g : Gx) : List Value := [.string g.name, .int .i64 g.size, .slice g.pa g.pn g.pc]
def Px.cells (p : Px) : List Value := [.int .i64 p.at_, .int .i64 p.bytes, .int .i64 p.func, .int .i64 p.n]
structure GxOk (w : World) (g : Gx) : Prop where
  name : g.name.size ≤ maxLen
  size : I64 g.size
  len : g.pl.length = g.pn
  cap : g.pn ≤ g.pc ∧ g.pc ≤ maxLen
  ok : ∀ p ∈ g.pl, I64 p.at_ ∧ I64 p.bytes ∧ I64 p.func ∧ I64 p.n
  at_ : 0 < g.pn → ∃ b off, g.pa = some ⟨b, off, none⟩ ∧ ∀ (k : Nat) (p : Px), g.pl[k]? = some p → ∀ (j : Nat) (v : Value), p.cells[j]? = some v → w.cell? ⟨b, off + k * 4 + j, none⟩ = some v
structure Pg where
  ga : Option Addr
  gn : Nat
  gc : Nat
  gl : List Gx
  fa : Option Addr
  fn : Nat
  fc : Nat
  fl : List Fx
  main : Int
def Pg.cells (p : Pg) : List Value := [.slice p.ga p.gn p.gc, .slice p.fa p.fn p.fc, .int .i64 p.main]
def Pg.at_ (p : Pg) (w : World) (b off : Nat) : Prop := ∀ (j : Nat) (v : Value), p.cells[j]? = some v → w.cell? ⟨b, off + j, none⟩ = some v
structure PgOk (w : World) (p : Pg) : Prop where
  main : I64 p.main
  glen : p.gl.length = p.gn
  gcap : p.gn ≤ p.gc ∧ p.gc ≤ maxLen
  gok : ∀ g ∈ p.gl, GxOk w g
  gat : 0 < p.gn → ∃ b off, p.ga = some ⟨b, off, none⟩ ∧ ∀ (k : Nat) (g : Gx), p.gl[k]? = some g → ∀ (j : Nat) (v : Value), g.cells[j]? = some v → w.cell? ⟨b, off + k * 3 + j, none⟩ = some v
  flen : p.fl.length = p.fn
  fcap : p.fn ≤ p.fc ∧ p.fc ≤ maxLen
  fok : ∀ f ∈ p.fl, FxOk w f
  fat : 0 < p.fn → ∃ b off, p.fa = some ⟨b, off, none⟩ ∧ ∀ (k : Nat) (f : Fx), p.fl[k]? = some f → f.at_ w b (off + k * 6)
section
variable {w w' : World}
theorem BxAt.no {x : Bx} (h : BxAt w x) (hk : Keeps No w w') : BxAt w' x := by
  refine ⟨h.len, h.cap, fun i hi => (h.ok i hi).no hk, fun hn => ?_⟩
  obtain ⟨b, off, e, hc⟩ := h.at_ hn
  exact ⟨b, off, e, fun k i hi => (hc k i hi).no hk⟩
theorem Fx.at_.no {f : Fx} {b off : Nat} (h : f.at_ w b off) (hk : Keeps No w w') : f.at_ w' b off := fun j v hj => hk.cell0 (h j v hj)
theorem FxOk.no {f : Fx} (h : FxOk w f) (hk : Keeps No w w') : FxOk w' f := by
  refine ⟨h.name, h.params, h.regs, h.slots.no hk, h.len, h.cap, fun x hx => (h.ok x hx).no hk, fun hn => ?_⟩
  obtain ⟨b, off, e, hc⟩ := h.at_ hn
  exact ⟨b, off, e, fun k x hx => hk.cell0 (hc k x hx)⟩
theorem GxOk.no {g : Gx} (h : GxOk w g) (hk : Keeps No w w') : GxOk w' g := by
  refine ⟨h.name, h.size, h.len, h.cap, h.ok, fun hn => ?_⟩
  obtain ⟨b, off, e, hc⟩ := h.at_ hn
  exact ⟨b, off, e, fun k p hp j v hj => hk.cell0 (hc k p hp j v hj)⟩
theorem Pg.at_.no {p : Pg} {b off : Nat} (h : p.at_ w b off) (hk : Keeps No w w') : p.at_ w' b off := fun j v hj => hk.cell0 (h j v hj)
theorem PgOk.no {p : Pg} (h : PgOk w p) (hk : Keeps No w w') : PgOk w' p := by
  refine ⟨h.main, h.glen, h.gcap, fun g hg => (h.gok g hg).no hk, fun hn => ?_, h.flen, h.fcap, fun f hf => (h.fok f hf).no hk, fun hn => ?_⟩
  · obtain ⟨b, off, e, hc⟩ := h.gat hn
    exact ⟨b, off, e, fun k g hg j v hj => hk.cell0 (hc k g hg j v hj)⟩
  · obtain ⟨b, off, e, hc⟩ := h.fat hn
    exact ⟨b, off, e, fun k f hf => (hc k f hf).no hk⟩
end
/-! What may be. -/
def hasReg (regs r : Int) : Bool := decide (0 ≤ r) && decide (r < regs)
def Ix.regsOk (regs : Int) (x : Ix) : Bool :=
  !(readsAI x.op x.a && !hasReg regs x.a) && !(readsBI x.op && !hasReg regs x.b) && !(writesI x.op x.d && !hasReg regs x.d) && (!callsI x.op || x.args.l.all (hasReg regs))
def Ix.many (x : Ix) : Option Int := if x.op = 14 then some 1 else if x.op = 15 then some 2 else if x.op = 16 then some ((x.cases_.n : Int) + 1) else none
def Ix.leadsOk (blocks : Nat) (x : Ix) : Bool := match x.many with
  | none => true
  | some c => decide ((x.to.n : Int) = c) && x.to.l.all (fun b => decide (0 ≤ b) && decide (b < (blocks : Int)))
def Ix.formOk (regs : Int) (blocks : Nat) (last : Bool) (x : Ix) : Bool := decide (1 ≤ x.op) && decide (x.op < 22) && (endsI x.op == last) && x.regsOk regs && x.leadsOk blocks
def formRow (regs : Int) (blocks : Nat) : List Ix → Bool
  | [] => true
  | [x] => x.formOk regs blocks true
  | x :: y :: t => x.formOk regs blocks false && formRow regs blocks (y :: t)
def Fx.formOk (f : Fx) : Bool := decide (f.params ≤ 6) && decide (f.params ≤ f.regs) && decide (f.regs ≤ 100000) && !f.bl.isEmpty && f.bl.all (fun x => !x.l.isEmpty && formRow f.regs f.bn x.l)
end Go.Proofs.YtkiimljdoebclaaDoor
