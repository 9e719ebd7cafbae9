/- The plain mathematics, more: promotion, the usual width, the reckoning. -/
import Derived.Test.YtpjilcfmcbapcaaDoorWordMath
namespace Go.Proofs.YtpjilcfmcbapcaaDoor.Wd
open Go.RowKit

def pb (b : Int) : Int := if b < 32 then 32 else b
def ps (b : Int) (s : Bool) : Bool := if b < 32 then true else s
theorem pb_lt {b : Int} (h : b < 32) : pb b = 32 := if_pos h
theorem ps_lt {b : Int} {s : Bool} (h : b < 32) : ps b s = true := if_pos h
theorem pb_ge {b : Int} (h : ¬ b < 32) : pb b = b := if_neg h
theorem ps_ge {b : Int} {s : Bool} (h : ¬ b < 32) : ps b s = s := if_neg h
/-- The usual width of two: its bits, its sign. -/
def ub (b : Int) (_s : Bool) (c : Int) (_t : Bool) : Int :=
  if may b && may c then (if pb b < pb c then pb c else pb b) else 0
def us (b : Int) (s : Bool) (c : Int) (t : Bool) : Bool :=
  if may b && may c then (if pb b < pb c then ps c t else if pb c < pb b then ps b s else (ps b s && ps c t)) else false
/-- A width that is reckoned in. -/
def reck (b : Int) : Bool := b == 32 || b == 64
theorem reck_may (b : Int) : (may b && decide (32 ≤ b)) = reck b := by
  rcases may_cases b with h | h | h | h | h
  · subst h; rfl
  · subst h; rfl
  · subst h; rfl
  · subst h; rfl
  · rw [h]
    unfold may at h
    simp only [Bool.or_eq_false_iff] at h
    unfold reck
    rw [h.1.2, h.2]; rfl
end Go.Proofs.YtpjilcfmcbapcaaDoor.Wd
