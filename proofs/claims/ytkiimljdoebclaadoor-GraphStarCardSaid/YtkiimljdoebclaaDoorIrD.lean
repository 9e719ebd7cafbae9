/- Instructions of the middle language: as data, and as they lie in memory. -/
import Derived.Test.YtkiimljdoebclaaDoorKeeps
namespace Go.Proofs.YtkiimljdoebclaaDoor
open Go.RowKit
set_option linter.unusedVariables false
set_option linter.unusedSimpArgs false

def I64 (x : Int) : Prop := -9223372036854775808 ≤ x ∧ x ≤ 9223372036854775807
/-- A slice of numbers. -/
structure Sl where
  a : Option Addr
  n : Nat
  cap : Nat
  l : List Int
abbrev Sl.v (s : Sl) : Value := .slice s.a s.n s.cap
structure SlAt (w : World) (s : Sl) : Prop where
  len : s.l.length = s.n
  cap : s.n ≤ s.cap ∧ s.cap ≤ maxLen
  bd : ∀ z ∈ s.l, I64 z
  at_ : 0 < s.n → ∃ b off, s.a = some ⟨b, off, none⟩ ∧ ∀ (i : Nat) (z : Int), s.l[i]? = some z → w.cell? ⟨b, off + i, none⟩ = some (.int .i64 z)
structure Ix where
  op : Int
  sub : Int
  d : Int
  a : Int
  b : Int
  n : Int
  wb : Int
  ws : Bool
  args : Sl
  to : Sl
  cases_ : Sl
def Ix.cells (x : Ix) : List Value := [.int .i64 x.op, .int .i64 x.sub, .int .i64 x.d, .int .i64 x.a, .int .i64 x.b, .int .i64 x.n, .int .i64 x.wb, .bool x.ws, x.args.v, x.to.v, x.cases_.v]
/-- An instruction's fields, in memory from an address on. -/
def Ix.at_ (x : Ix) (w : World) (b off : Nat) : Prop := ∀ (j : Nat) (v : Value), x.cells[j]? = some v → w.cell? ⟨b, off + j, none⟩ = some v
structure IxOk (w : World) (x : Ix) : Prop where
  op : I64 x.op
  sub : I64 x.sub
  d : I64 x.d
  a : I64 x.a
  b : I64 x.b
  n : I64 x.n
  wb : I64 x.wb
  args : SlAt w x.args
  to : SlAt w x.to
  cases_ : SlAt w x.cases_
section
variable {w w' : World}
theorem SlAt.keep {s : Sl} {S : Nat → Prop} (h : SlAt w s) (hk : Keeps S w w') (hS : ∀ b off, s.a = some ⟨b, off, none⟩ → ¬ S b) : SlAt w' s := by
  refine ⟨h.len, h.cap, h.bd, fun hn => ?_⟩
  obtain ⟨b, off, e, hc⟩ := h.at_ hn
  exact ⟨b, off, e, fun i z hz => hk.cell (hc i z hz) (hS b off e)⟩
theorem SlAt.no {s : Sl} (h : SlAt w s) (hk : Keeps No w w') : SlAt w' s := h.keep hk (fun _ _ _ e => e)
theorem Ix.at_.no {x : Ix} {b off : Nat} (h : x.at_ w b off) (hk : Keeps No w w') : x.at_ w' b off := fun j v hj => hk.cell0 (h j v hj)
theorem IxOk.no {x : Ix} (h : IxOk w x) (hk : Keeps No w w') : IxOk w' x := ⟨h.op, h.sub, h.d, h.a, h.b, h.n, h.wb, h.args.no hk, h.to.no hk, h.cases_.no hk⟩
end
def callsI (op : Int) : Bool := (op == 10) || (op == 11) || (op == 19) || (op == 20)
def endsI (op : Int) : Bool := decide (14 ≤ op) && decide (op ≤ 21)
def readsAI (op a : Int) : Bool := (op == 2) || (op == 3) || (op == 4) || (op == 5) || (op == 6) || (op == 11) || (op == 13) || (op == 15) || (op == 16) || (op == 18) || (op == 20) || ((op == 17) && (a != -1))
def readsBI (op : Int) : Bool := (op == 3) || (op == 6)
def writesI (op d : Int) : Bool := (op == 1) || (op == 2) || (op == 3) || (op == 4) || (op == 5) || (op == 7) || (op == 8) || (op == 9) || (op == 12) || (((op == 10) || (op == 11)) && (d != -1))
def pureI (op sub : Int) : Bool := (op == 1) || (op == 2) || (op == 4) || (op == 7) || (op == 8) || (op == 9) || ((op == 3) && (sub != 4) && (sub != 5) && (sub != 6) && (sub != 7))
def Ix.uses (x : Ix) : List Int := (if readsAI x.op x.a then [x.a] else []) ++ (if readsBI x.op then [x.b] else []) ++ (if callsI x.op then x.args.l else [])
end Go.Proofs.YtkiimljdoebclaaDoor
