/- Functions of one block, in memory; one block that leads nowhere. -/
import Derived.Test.YtpjilcfmcbapcaaDoorLvBehind
import Derived.Test.YtpjilcfmcbapcaaDoorLvDead
import Derived.Test.YtpjilcfmcbapcaaDoorLvSame
namespace Go.Proofs.YtpjilcfmcbapcaaDoor
open Go.RowKit
set_option linter.unusedVariables false
set_option linter.unusedSimpArgs false

def xrow (l : List Ix) : List Value := l.flatMap Ix.cells
theorem cells_len (x : Ix) : x.cells.length = 11 := rfl
theorem xrow_len (l : List Ix) : (xrow l).length = l.length * 11 := by
  unfold xrow
  induction l with
  | nil => rfl
  | cons x t ih => rw [List.flatMap_cons, List.length_append, ih, cells_len, List.length_cons]; omega
theorem xrow_app (l m : List Ix) : xrow (l ++ m) = xrow l ++ xrow m := by unfold xrow; rw [List.flatMap_append]
theorem xrow_get : ∀ (l : List Ix) (k : Nat) (x : Ix), l[k]? = some x → ∀ (j : Nat) (v : Value), x.cells[j]? = some v → (xrow l)[k * 11 + j]? = some v
  | [], k, x, h, _, _, _ => by cases h
  | y :: t, 0, x, h, j, v, hv => by
    injection h with h
    subst h
    have hj : j < 11 := by have := (List.getElem?_eq_some_iff.1 hv).1; rw [cells_len] at this; exact this
    show (y.cells ++ xrow t)[0 * 11 + j]? = some v
    rw [Nat.zero_mul, Nat.zero_add, List.getElem?_append_left (by rw [cells_len]; exact hj)]; exact hv
  | y :: t, k + 1, x, h, j, v, hv => by
    show (y.cells ++ xrow t)[(k + 1) * 11 + j]? = some v
    rw [List.getElem?_append_right (by rw [cells_len]; omega), cells_len, show (k + 1) * 11 + j - 11 = k * 11 + j by omega]
    exact xrow_get t k x h j v hv
def Sl0 : Sl := ⟨none, 0, 0, []⟩
theorem sl0_at (w : World) : SlAt w Sl0 := ⟨rfl, ⟨Nat.le_refl _, Nat.zero_le _⟩, (fun z hz => by cases hz), fun h => absurd h (Nat.lt_irrefl 0)⟩
/-- An instruction without rows. -/
structure Bare (x : Ix) : Prop where
  op : I64 x.op
  sub : I64 x.sub
  d : I64 x.d
  a : I64 x.a
  b : I64 x.b
  n : I64 x.n
  wb : I64 x.wb
  args : x.args = Sl0
  to_ : x.to = Sl0
  cases_ : x.cases_ = Sl0
theorem Bare.ok {x : Ix} (h : Bare x) (w : World) : IxOk w x := ⟨h.op, h.sub, h.d, h.a, h.b, h.n, h.wb, by rw [h.args]; exact sl0_at w, by rw [h.to_]; exact sl0_at w, by rw [h.cases_]; exact sl0_at w⟩
/-- A function of one block, whose instructions lie at g. -/
def ofn (q g cap : Nat) (p r : Int) (l : List Ix) : Fx := ⟨ByteArray.empty, p, r, Sl0, some ⟨q, 0, none⟩, 1, 1, [⟨some ⟨g, 0, none⟩, l.length, cap, l⟩], true⟩
theorem ofn_ok {w : World} {q g cap : Nat} {p r : Int} {l : List Ix} (hp : I64 p) (hr : I64 r) (hl : ∀ x ∈ l, Bare x) (hc : l.length ≤ cap ∧ cap ≤ maxLen) (h1 : w.cell? ⟨q, 0, none⟩ = some (.slice (some ⟨g, 0, none⟩) l.length cap))
    (h2 : ∀ (j : Nat) (v : Value), (xrow l)[j]? = some v → w.cell? ⟨g, j, none⟩ = some v) : FxOk w (ofn q g cap p r l) := by
  refine ⟨Nat.zero_le _, hp, hr, sl0_at w, rfl, ⟨Nat.le_refl _, by unfold maxLen ofn; simp only; omega⟩, fun x hx => ?_, fun _ => ⟨q, 0, rfl, fun k x hk => ?_⟩⟩
  · obtain rfl : x = ⟨some ⟨g, 0, none⟩, l.length, cap, l⟩ := by simpa [ofn] using hx
    exact ⟨rfl, hc, fun i hi => (hl i hi).ok w, fun _ => ⟨g, 0, rfl, fun k i hk j v hv => by rw [Nat.zero_add]; exact h2 _ v (xrow_get l k i hk j v hv)⟩⟩
  · cases k with
    | zero =>
      obtain rfl : ⟨some ⟨g, 0, none⟩, l.length, cap, l⟩ = x := by simpa [ofn] using hk
      exact h1
    | succ k => simp [ofn] at hk
theorem ofn_bls (q g cap : Nat) (p r : Int) (l : List Ix) : bls (ofn q g cap p r l) = [l] := rfl
/-- Behind a block that leads nowhere nothing is live. -/
theorem least_zero {l : List Ix} {O : Nat → Nat} (h : Least [l] O) (hl : lastTo l = []) : O 0 = 0 := by
  refine Sub.antisymm (h.least (fun _ => 0) (fun p c hp hc he => ?_) 0 (by simp)) (zero_sub _)
  have hp0 : p = 0 := by simp at hp; exact hp
  subst hp0
  have e : blk [l] 0 = l := rfl
  rw [e, hl] at he
  cases he
end Go.Proofs.YtpjilcfmcbapcaaDoor
