/- Sets of registers as numbers; what is live, as the least answer. -/
import Derived.Test.YtpjilcfmcbapcaaDoorIrP
namespace Go.Proofs.YtpjilcfmcbapcaaDoor
open Go.RowKit
set_option linter.unusedVariables false
set_option linter.unusedSimpArgs false

def addB (X r : Nat) : Nat := X ||| 2 ^ r
def dropB (X r : Nat) : Nat := X ^^^ (X &&& 2 ^ r)
theorem tb_add (X r j : Nat) : (addB X r).testBit j = (X.testBit j || decide (r = j)) := by
  unfold addB; rw [Nat.testBit_or, Nat.testBit_two_pow]
theorem tb_drop (X r j : Nat) : (dropB X r).testBit j = (X.testBit j && !decide (r = j)) := by
  unfold dropB; rw [Nat.testBit_xor, Nat.testBit_and, Nat.testBit_two_pow]
  cases X.testBit j <;> cases decide (r = j) <;> rfl
def Sub (X Y : Nat) : Prop := ∀ j, X.testBit j = true → Y.testBit j = true
theorem Sub.refl (X : Nat) : Sub X X := fun _ h => h
theorem Sub.trans {X Y Z : Nat} (h : Sub X Y) (g : Sub Y Z) : Sub X Z := fun j hj => g j (h j hj)
theorem Sub.antisymm {X Y : Nat} (h : Sub X Y) (g : Sub Y X) : X = Y := Nat.eq_of_testBit_eq (fun j => by
  cases hx : X.testBit j with
  | true => exact (h j hx).symm
  | false => cases hy : Y.testBit j with
    | true => rw [g j hy] at hx; cases hx
    | false => rfl)
theorem sub_or_left (X Y : Nat) : Sub X (X ||| Y) := fun j h => by rw [Nat.testBit_or, h]; rfl
theorem sub_or_right (X Y : Nat) : Sub Y (X ||| Y) := fun j h => by rw [Nat.testBit_or, h, Bool.or_true]
theorem Sub.or {X Y Z : Nat} (h : Sub X Z) (g : Sub Y Z) : Sub (X ||| Y) Z := fun j hj => by
  rw [Nat.testBit_or, Bool.or_eq_true] at hj
  exact hj.elim (h j) (g j)
theorem Sub.or_eq {X Y : Nat} (h : Sub Y X) : X ||| Y = X := (Sub.or (Sub.refl X) h).antisymm (sub_or_left X Y)
theorem Sub.le {X Y : Nat} (h : Sub X Y) : X ≤ Y := by
  have e : Y ||| X = Y := h.or_eq
  calc X ≤ Y ||| X := Nat.right_le_or
    _ = Y := e
theorem zero_sub (X : Nat) : Sub 0 X := fun j h => by simp at h
theorem addB_lt {X r R : Nat} (h : X < 2 ^ R) (hr : r < R) : addB X r < 2 ^ R := Nat.or_lt_two_pow h (Nat.pow_lt_pow_right (by decide) hr)
theorem dropB_sub (X r : Nat) : Sub (dropB X r) X := fun j h => by rw [tb_drop, Bool.and_eq_true] at h; exact h.1
theorem dropB_lt {X r R : Nat} (h : X < 2 ^ R) : dropB X r < 2 ^ R := Nat.lt_of_le_of_lt (dropB_sub X r).le h
theorem out_bit {X R j : Nat} (h : X < 2 ^ R) (hj : R ≤ j) : X.testBit j = false :=
  Nat.testBit_lt_two_pow (Nat.lt_of_lt_of_le h (Nat.pow_le_pow_right (by decide) hj))
theorem ext_below {X Y R : Nat} (hX : X < 2 ^ R) (hY : Y < 2 ^ R) (h : ∀ j, j < R → X.testBit j = Y.testBit j) : X = Y :=
  Nat.eq_of_testBit_eq (fun j => by
    by_cases hj : j < R
    · exact h j hj
    · rw [out_bit hX (by omega), out_bit hY (by omega)])
/-! One instruction, and a row of them. -/
def defI (x : Ix) : Int := if writesI x.op x.d then x.d else -1
def usesX (X : Nat) (l : List Int) : Nat := l.foldl (fun X r => addB X r.toNat) X
def dropD (X : Nat) (d : Int) : Nat := if 0 ≤ d then dropB X d.toNat else X
def backI (X : Nat) (x : Ix) : Nat := usesX (dropD X (defI x)) x.uses
def backs (l : List Ix) (X : Nat) : Nat := l.foldr (fun x X => backI X x) X
theorem tb_uses (l : List Int) : ∀ (X j : Nat), (usesX X l).testBit j = (X.testBit j || l.any (fun r => decide (r.toNat = j))) := by
  induction l with
  | nil => intro X j; simp [usesX]
  | cons r t ih => intro X j; show (usesX (addB X r.toNat) t).testBit j = _; rw [ih, tb_add, List.any_cons, Bool.or_assoc]
theorem usesX_app (X : Nat) (l m : List Int) : usesX X (l ++ m) = usesX (usesX X l) m := by unfold usesX; rw [List.foldl_append]
theorem tb_dropD (X : Nat) (d : Int) (j : Nat) : (dropD X d).testBit j = (X.testBit j && !(decide (0 ≤ d) && decide (d.toNat = j))) := by
  unfold dropD
  by_cases h : 0 ≤ d
  · rw [if_pos h, tb_drop, decide_eq_true h, Bool.true_and]
  · rw [if_neg h, decide_eq_false h, Bool.false_and]; simp
theorem tb_back (X : Nat) (x : Ix) (j : Nat) : (backI X x).testBit j = ((X.testBit j && !(decide (0 ≤ defI x) && decide ((defI x).toNat = j))) || x.uses.any (fun r => decide (r.toNat = j))) := by
  unfold backI; rw [tb_uses, tb_dropD]
theorem backI_mono {X Y : Nat} (h : Sub X Y) (x : Ix) : Sub (backI X x) (backI Y x) := fun j hj => by
  rw [tb_back] at *
  rw [Bool.or_eq_true, Bool.and_eq_true] at hj
  rcases hj with ⟨h1, h2⟩ | h3
  · rw [h j h1, h2]; rfl
  · rw [h3, Bool.or_true]
theorem backs_mono (l : List Ix) {X Y : Nat} (h : Sub X Y) : Sub (backs l X) (backs l Y) := by
  induction l with
  | nil => exact h
  | cons x t ih => exact backI_mono ih x
theorem backs_drop {l : List Ix} {k : Nat} {x : Ix} (h : l[k]? = some x) (X : Nat) : backs (l.drop k) X = backI (backs (l.drop (k + 1)) X) x := by
  obtain ⟨h1, h2⟩ := List.getElem?_eq_some_iff.1 h
  rw [List.drop_eq_getElem_cons h1, h2]; rfl
/-- All registers that an instruction names are below R. -/
def Fit (R : Nat) (x : Ix) : Prop := (∀ r ∈ x.uses, 0 ≤ r ∧ r.toNat < R) ∧ (0 ≤ defI x → (defI x).toNat < R)
theorem usesX_lt {R : Nat} (l : List Int) : ∀ {X : Nat}, X < 2 ^ R → (∀ r ∈ l, 0 ≤ r ∧ r.toNat < R) → usesX X l < 2 ^ R := by
  induction l with
  | nil => intro X h _; exact h
  | cons r t ih => intro X h g; exact ih (addB_lt h (g r (List.mem_cons_self ..)).2) (fun z hz => g z (List.mem_cons_of_mem _ hz))
theorem dropD_lt {R X : Nat} (h : X < 2 ^ R) (d : Int) : dropD X d < 2 ^ R := by
  unfold dropD; split
  · exact dropB_lt h
  · exact h
theorem backI_lt {R X : Nat} {x : Ix} (h : X < 2 ^ R) (hx : Fit R x) : backI X x < 2 ^ R := usesX_lt _ (dropD_lt h _) hx.1
theorem backs_lt {R X : Nat} {l : List Ix} (h : X < 2 ^ R) (hl : ∀ x ∈ l, Fit R x) : backs l X < 2 ^ R := by
  induction l with
  | nil => exact h
  | cons x t ih => exact backI_lt (ih (fun y hy => hl y (List.mem_cons_of_mem _ hy))) (hl x (List.mem_cons_self ..))
/-! Blocks. -/
def toI (x : Ix) : List Int := if x.op = 14 ∨ x.op = 15 ∨ x.op = 16 then x.to.l else []
def lastTo (l : List Ix) : List Int := match l.getLast? with
  | none => []
  | some x => toI x
def blk (bl : List (List Ix)) (b : Nat) : List Ix := bl.getD b []
/-- G holds, behind each block, what is live at the beginning of each that it leads to. -/
def Post (bl : List (List Ix)) (G : Nat → Nat) : Prop := ∀ (p c : Nat), p < bl.length → c < bl.length → (c : Int) ∈ lastTo (blk bl p) → Sub (backs (blk bl c) (G c)) (G p)
structure Least (bl : List (List Ix)) (O : Nat → Nat) : Prop where
  post : Post bl O
  least : ∀ G, Post bl G → ∀ b, b < bl.length → Sub (O b) (G b)
theorem Least.uniq {bl : List (List Ix)} {O O' : Nat → Nat} (h : Least bl O) (g : Least bl O') {b : Nat} (hb : b < bl.length) : O b = O' b :=
  (h.least _ g.post b hb).antisymm (g.least _ h.post b hb)
/-- How many pure instructions of a row write what is not read later. -/
def deadRow (X : Nat) : List Ix → Nat
  | [] => 0
  | x :: t => (if pureI x.op x.sub && !(backs t X).testBit x.d.toNat then 1 else 0) + deadRow X t
theorem deadRow_drop {l : List Ix} {k : Nat} {x : Ix} (h : l[k]? = some x) (X : Nat) : deadRow X (l.drop k) = (if pureI x.op x.sub && !(backs (l.drop (k + 1)) X).testBit x.d.toNat then 1 else 0) + deadRow X (l.drop (k + 1)) := by
  obtain ⟨h1, h2⟩ := List.getElem?_eq_some_iff.1 h
  rw [List.drop_eq_getElem_cons h1, h2]; rfl
theorem deadRow_le (X : Nat) (l : List Ix) : deadRow X l ≤ l.length := by
  induction l with
  | nil => exact Nat.le_refl _
  | cons x t ih => show _ + _ ≤ t.length + 1; split <;> omega
/-- All of them. -/
def deadAll (O : Nat → Nat) (bl : List (List Ix)) (n : Nat) : Nat := ((List.range n).map (fun b => deadRow (O b) (bl.getD b []))).sum
/-- A set's registers, rising. -/
def listB (X R : Nat) : List Int := ((List.range R).filter X.testBit).map Int.ofNat
end Go.Proofs.YtpjilcfmcbapcaaDoor
