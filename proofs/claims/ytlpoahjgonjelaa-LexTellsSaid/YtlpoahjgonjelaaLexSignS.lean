/- The document's longest sign is the scanner's: how long it is. -/
import Derived.Test.YtlpoahjgonjelaaLexSignM
namespace Go.Proofs.Ytlpoahjgonjelaa
open Go.RowKit
set_option linter.unusedVariables false
set_option linter.unusedSimpArgs false

def fsz (c d e : Int) : Nat :=
  if c = 60 ∧ d = 60 ∧ e = 61 then 3 else
  if c = 62 ∧ d = 62 ∧ e = 61 then 3 else
  if c = 60 ∧ d = 60 then 2 else
  if c = 62 ∧ d = 62 then 2 else
  if c = 60 ∧ d = 61 then 2 else
  if c = 62 ∧ d = 61 then 2 else
  if c = 61 ∧ d = 61 then 2 else
  if c = 33 ∧ d = 61 then 2 else
  if c = 38 ∧ d = 38 then 2 else
  if c = 124 ∧ d = 124 then 2 else
  if c = 45 ∧ d = 62 then 2 else
  if c = 43 ∧ d = 61 then 2 else
  if c = 45 ∧ d = 61 then 2 else
  if c = 42 ∧ d = 61 then 2 else
  if c = 47 ∧ d = 61 then 2 else
  if c = 37 ∧ d = 61 then 2 else
  if c = 38 ∧ d = 61 then 2 else
  if c = 124 ∧ d = 61 then 2 else
  if c = 94 ∧ d = 61 then 2 else
  if c = 43 then 1 else
  if c = 45 then 1 else
  if c = 42 then 1 else
  if c = 47 then 1 else
  if c = 37 then 1 else
  if c = 38 then 1 else
  if c = 124 then 1 else
  if c = 94 then 1 else
  if c = 126 then 1 else
  if c = 33 then 1 else
  if c = 60 then 1 else
  if c = 62 then 1 else
  if c = 61 then 1 else
  if c = 40 then 1 else
  if c = 41 then 1 else
  if c = 91 then 1 else
  if c = 93 then 1 else
  if c = 123 then 1 else
  if c = 125 then 1 else
  if c = 44 then 1 else
  if c = 59 then 1 else
  if c = 58 then 1 else
  if c = 63 then 1 else
  if c = 46 then 1 else
  0
theorem ps (p : ByteArray → Bool) (a : ByteArray) (l : List ByteArray) : (((a :: l).find? p).getD ⟨#[]⟩).size = if p a = true then a.size else ((l.find? p).getD ⟨#[]⟩).size := by
  by_cases h : p a = true
  · rw [List.find?_cons_of_pos h, if_pos h]; rfl
  · rw [List.find?_cons_of_neg h, if_neg h]
theorem if_to {b : Bool} {q : Prop} [Decidable q] {n m m' : Nat} (h1 : b = decide q) (h2 : m = m') : (if b = true then n else m) = if q then n else m' := by
  subst h2; rw [h1]; by_cases h : q <;> simp [h]
set_option maxRecDepth 100000 in
theorem rsign_fsz (s : ByteArray) (i : Nat) : (rsign s i).size = fsz (Lx.pk s i) (Lx.pk s (i + 1)) (Lx.pk s (i + 2)) := by
  unfold rsign sl fsz
  refine (ps _ _ _).trans (if_to (m3 s i _ _ _ (by decide) (by decide) (by decide)) ?_)
  refine (ps _ _ _).trans (if_to (m3 s i _ _ _ (by decide) (by decide) (by decide)) ?_)
  refine (ps _ _ _).trans (if_to (m2 s i _ _ (by decide) (by decide)) ?_)
  refine (ps _ _ _).trans (if_to (m2 s i _ _ (by decide) (by decide)) ?_)
  refine (ps _ _ _).trans (if_to (m2 s i _ _ (by decide) (by decide)) ?_)
  refine (ps _ _ _).trans (if_to (m2 s i _ _ (by decide) (by decide)) ?_)
  refine (ps _ _ _).trans (if_to (m2 s i _ _ (by decide) (by decide)) ?_)
  refine (ps _ _ _).trans (if_to (m2 s i _ _ (by decide) (by decide)) ?_)
  refine (ps _ _ _).trans (if_to (m2 s i _ _ (by decide) (by decide)) ?_)
  refine (ps _ _ _).trans (if_to (m2 s i _ _ (by decide) (by decide)) ?_)
  refine (ps _ _ _).trans (if_to (m2 s i _ _ (by decide) (by decide)) ?_)
  refine (ps _ _ _).trans (if_to (m2 s i _ _ (by decide) (by decide)) ?_)
  refine (ps _ _ _).trans (if_to (m2 s i _ _ (by decide) (by decide)) ?_)
  refine (ps _ _ _).trans (if_to (m2 s i _ _ (by decide) (by decide)) ?_)
  refine (ps _ _ _).trans (if_to (m2 s i _ _ (by decide) (by decide)) ?_)
  refine (ps _ _ _).trans (if_to (m2 s i _ _ (by decide) (by decide)) ?_)
  refine (ps _ _ _).trans (if_to (m2 s i _ _ (by decide) (by decide)) ?_)
  refine (ps _ _ _).trans (if_to (m2 s i _ _ (by decide) (by decide)) ?_)
  refine (ps _ _ _).trans (if_to (m2 s i _ _ (by decide) (by decide)) ?_)
  refine (ps _ _ _).trans (if_to (m1 s i _ (by decide)) ?_)
  refine (ps _ _ _).trans (if_to (m1 s i _ (by decide)) ?_)
  refine (ps _ _ _).trans (if_to (m1 s i _ (by decide)) ?_)
  refine (ps _ _ _).trans (if_to (m1 s i _ (by decide)) ?_)
  refine (ps _ _ _).trans (if_to (m1 s i _ (by decide)) ?_)
  refine (ps _ _ _).trans (if_to (m1 s i _ (by decide)) ?_)
  refine (ps _ _ _).trans (if_to (m1 s i _ (by decide)) ?_)
  refine (ps _ _ _).trans (if_to (m1 s i _ (by decide)) ?_)
  refine (ps _ _ _).trans (if_to (m1 s i _ (by decide)) ?_)
  refine (ps _ _ _).trans (if_to (m1 s i _ (by decide)) ?_)
  refine (ps _ _ _).trans (if_to (m1 s i _ (by decide)) ?_)
  refine (ps _ _ _).trans (if_to (m1 s i _ (by decide)) ?_)
  refine (ps _ _ _).trans (if_to (m1 s i _ (by decide)) ?_)
  refine (ps _ _ _).trans (if_to (m1 s i _ (by decide)) ?_)
  refine (ps _ _ _).trans (if_to (m1 s i _ (by decide)) ?_)
  refine (ps _ _ _).trans (if_to (m1 s i _ (by decide)) ?_)
  refine (ps _ _ _).trans (if_to (m1 s i _ (by decide)) ?_)
  refine (ps _ _ _).trans (if_to (m1 s i _ (by decide)) ?_)
  refine (ps _ _ _).trans (if_to (m1 s i _ (by decide)) ?_)
  refine (ps _ _ _).trans (if_to (m1 s i _ (by decide)) ?_)
  refine (ps _ _ _).trans (if_to (m1 s i _ (by decide)) ?_)
  refine (ps _ _ _).trans (if_to (m1 s i _ (by decide)) ?_)
  refine (ps _ _ _).trans (if_to (m1 s i _ (by decide)) ?_)
  refine (ps _ _ _).trans (if_to (m1 s i _ (by decide)) ?_)
  rfl
set_option maxHeartbeats 4000000 in
theorem fsz_signM (c d e : Int) : fsz c d e = Lx.signM c d e := by
  by_cases h33 : c = 33
  · subst h33; simp [fsz, Lx.signM] <;> ((repeat' split) <;> first | rfl | omega)
  by_cases h37 : c = 37
  · subst h37; simp [fsz, Lx.signM] <;> ((repeat' split) <;> first | rfl | omega)
  by_cases h38 : c = 38
  · subst h38; simp [fsz, Lx.signM] <;> ((repeat' split) <;> first | rfl | omega)
  by_cases h40 : c = 40
  · subst h40; simp [fsz, Lx.signM] <;> ((repeat' split) <;> first | rfl | omega)
  by_cases h41 : c = 41
  · subst h41; simp [fsz, Lx.signM] <;> ((repeat' split) <;> first | rfl | omega)
  by_cases h42 : c = 42
  · subst h42; simp [fsz, Lx.signM] <;> ((repeat' split) <;> first | rfl | omega)
  by_cases h43 : c = 43
  · subst h43; simp [fsz, Lx.signM] <;> ((repeat' split) <;> first | rfl | omega)
  by_cases h44 : c = 44
  · subst h44; simp [fsz, Lx.signM] <;> ((repeat' split) <;> first | rfl | omega)
  by_cases h45 : c = 45
  · subst h45; simp [fsz, Lx.signM] <;> ((repeat' split) <;> first | rfl | omega)
  by_cases h46 : c = 46
  · subst h46; simp [fsz, Lx.signM] <;> ((repeat' split) <;> first | rfl | omega)
  by_cases h47 : c = 47
  · subst h47; simp [fsz, Lx.signM] <;> ((repeat' split) <;> first | rfl | omega)
  by_cases h58 : c = 58
  · subst h58; simp [fsz, Lx.signM] <;> ((repeat' split) <;> first | rfl | omega)
  by_cases h59 : c = 59
  · subst h59; simp [fsz, Lx.signM] <;> ((repeat' split) <;> first | rfl | omega)
  by_cases h60 : c = 60
  · subst h60; simp [fsz, Lx.signM] <;> ((repeat' split) <;> first | rfl | omega)
  by_cases h61 : c = 61
  · subst h61; simp [fsz, Lx.signM] <;> ((repeat' split) <;> first | rfl | omega)
  by_cases h62 : c = 62
  · subst h62; simp [fsz, Lx.signM] <;> ((repeat' split) <;> first | rfl | omega)
  by_cases h63 : c = 63
  · subst h63; simp [fsz, Lx.signM] <;> ((repeat' split) <;> first | rfl | omega)
  by_cases h91 : c = 91
  · subst h91; simp [fsz, Lx.signM] <;> ((repeat' split) <;> first | rfl | omega)
  by_cases h93 : c = 93
  · subst h93; simp [fsz, Lx.signM] <;> ((repeat' split) <;> first | rfl | omega)
  by_cases h94 : c = 94
  · subst h94; simp [fsz, Lx.signM] <;> ((repeat' split) <;> first | rfl | omega)
  by_cases h123 : c = 123
  · subst h123; simp [fsz, Lx.signM] <;> ((repeat' split) <;> first | rfl | omega)
  by_cases h124 : c = 124
  · subst h124; simp [fsz, Lx.signM] <;> ((repeat' split) <;> first | rfl | omega)
  by_cases h125 : c = 125
  · subst h125; simp [fsz, Lx.signM] <;> ((repeat' split) <;> first | rfl | omega)
  by_cases h126 : c = 126
  · subst h126; simp [fsz, Lx.signM] <;> ((repeat' split) <;> first | rfl | omega)
  simp [fsz, Lx.signM, h33, h37, h38, h40, h41, h42, h43, h44, h45, h46, h47, h58, h59, h60, h61, h62, h63, h91, h93, h94, h123, h124, h125, h126]
theorem rsign_size (s : ByteArray) (i : Nat) : (rsign s i).size = Lx.signM (Lx.pk s i) (Lx.pk s (i + 1)) (Lx.pk s (i + 2)) := (rsign_fsz s i).trans (fsz_signM _ _ _)
end Go.Proofs.Ytlpoahjgonjelaa
