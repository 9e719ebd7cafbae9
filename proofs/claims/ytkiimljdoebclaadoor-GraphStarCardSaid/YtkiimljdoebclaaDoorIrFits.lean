/- What may be: what an instruction names besides registers and blocks. -/
import Derived.Test.YtkiimljdoebclaaDoorIrForm3
import Derived.Test.YtkiimljdoebclaaDoorWordMay
namespace Go.Proofs.YtkiimljdoebclaaDoor
open Go.RowKit
set_option linter.unusedVariables false
set_option linter.unusedSimpArgs false

theorem Laid.no {w w' : World} (L : Laid w) (h : Keeps No w w') : Laid w' :=
  ⟨Nat.lt_of_lt_of_le L.z h.size, fun k hk => h.cell0 (L.b k hk), fun k hk => h.cell0 (L.s k hk)⟩
def Ix.below (x : Ix) (n : Nat) : Bool := decide (0 ≤ x.n) && decide (x.n < (n : Int))
def Ix.callOk (x : Ix) (fl : List Fx) (v : Bool) : Bool := match fl[x.n.toNat]? with
  | some g => x.below fl.length && (decide ((x.args.n : Int) = g.params) && (v || g.value))
  | none => false
def Ix.fitsOk (x : Ix) (slots globals : Nat) (fl : List Fx) (fv : Bool) : Bool :=
  if x.op = 3 then decide (1 ≤ x.sub) && decide (x.sub < 20)
  else if x.op = 4 ∨ x.op = 5 ∨ x.op = 6 then Wd.may x.wb
  else if x.op = 7 then x.below slots
  else if x.op = 8 then x.below globals
  else if x.op = 9 then x.below fl.length
  else if x.op = 10 then x.callOk fl (decide (x.d = -1))
  else if x.op = 19 then x.callOk fl (!fv)
  else if x.op = 11 ∨ x.op = 20 then decide (x.args.n ≤ 6)
  else if x.op = 17 then decide (x.a = -1) || fv
  else true
set_option maxHeartbeats 800000 in
theorem below_any (x : Ix) (n : Nat) (q b off : Nat) (w : World) (h0 : w.cell? ⟨q, 0, none⟩ = some (.pointer (some ⟨b, off, none⟩))) (hx : x.at_ w b off) :
    Calls Tryd.prog 61 #[.int .i64 (n : Int), .pointer (some ⟨q, 0, none⟩)] w fun e w' => e = .returned (.bool (x.below n)) ∧ w = w' := by
  unfold Ix.below
  have c5 := hx 5 _ rfl
  clear hx
  go_enter Tryd.func61, Tryd.ntmps61
  go_wp2_with fail
  all_goals (go_returns; exact ⟨rb rfl (by simp_all; try omega), rfl⟩)
theorem quiet_one {P : Program} {f : FuncId} {args : Array Value} {W : World} {v : Value} {n : Nat} (c : ∀ m, Calls P f args (W.drewN m) fun e w' => e = .returned v ∧ W.drewN m = w') :
    Calls P f args (W.drewN n) fun e w'' => e = .returned v ∧ ∃ m, w'' = W.drewN m := (c n).mono fun _ _ h => ⟨h.1, n, h.2.symm⟩
end Go.Proofs.YtkiimljdoebclaaDoor
