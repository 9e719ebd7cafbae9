/- What Order makes of places that are turned round: reckoned, and what it does, done again and again. -/
import Derived.Test.YtheapamlhoogaaaMvBase
namespace Go.Proofs.Ytheapamlhoogaaa
open Go.RowKit Go.Maps
set_option linter.unusedVariables false

/-- M places turned round by u: the first i of the moves. -/
def turnP (M u i : Nat) : List Mv.Pr := (List.range i).map (fun (j : Nat) => ((j : Int), (((j + u) % M : Nat) : Int)))
theorem turnP_succ (M u i : Nat) : turnP M u (i + 1) = turnP M u i ++ [((i : Int), (((i + u) % M : Nat) : Int))] := by unfold turnP; rw [List.range_succ, List.map_append]; rfl
theorem turnP_len (M u i : Nat) : (turnP M u i).length = i := by unfold turnP; simp
theorem turnP_bd (M u i : Nat) (hM : M ≤ 100) (hi : i ≤ 100) (hu : u ≤ 100) : ∀ t ∈ turnP M u i, I64 t.1 ∧ I64 t.2 := by
  intro t ht
  obtain ⟨j, hj, rfl⟩ := List.mem_map.1 ht
  have := List.mem_range.1 hj
  have h2 : (j + u) % M ≤ j + u := Nat.mod_le _ _
  unfold I64
  simp only
  omega
/-- Moves done one behind the other. -/
def app1 (t : Mv.Pr) (f : Nat → Int) : Nat → Int := fun x => if x = t.1.toNat then f t.2.toNat else f x
def app : List Mv.Pr → (Nat → Int) → (Nat → Int)
  | [], f => f
  | t :: l, f => app l (app1 t f)
theorem app_snoc (l : List Mv.Pr) (t : Mv.Pr) : ∀ f, app (l ++ [t]) f = app1 t (app l f) := by
  induction l with
  | nil => intro f; rfl
  | cons a l ih => intro f; exact ih _
/-- .. from which place each has what it has. -/
def appN : List Mv.Pr → (Nat → Nat) → (Nat → Nat)
  | [], f => f
  | t :: l, f => appN l (fun x => if x = t.1.toNat then f t.2.toNat else f x)
theorem app_comp (l : List Mv.Pr) : ∀ (F : Nat → Int) (h : Nat → Nat) (x : Nat), app l (fun y => F (h y)) x = F (appN l h x) := by
  induction l with
  | nil => intro F h x; rfl
  | cons t l ih =>
    intro F h x
    have e : app1 t (fun y => F (h y)) = fun y => F ((fun x => if x = t.1.toNat then h t.2.toNat else h x) y) := by
      funext y
      unfold app1
      simp only
      split <;> rfl
    show app l (app1 t (fun y => F (h y))) x = _
    rw [e]; exact ih F _ x
theorem app_id (l : List Mv.Pr) (F : Nat → Int) (x : Nat) : app l F x = F (appN l (fun y => y) x) := app_comp l F (fun y => y) x
def okT (M u : Nat) : Bool := match Mv.orderM (turnP M u M) 30 with
  | some (r, true) => r.all (fun t => decide (0 ≤ t.1) && decide (t.1 ≤ 30) && decide (0 ≤ t.2) && decide (t.2 ≤ 30)) && decide (r.length ≤ 2 * M) && (!(u == 0) || r.length == 0) && (List.range M).all (fun i => appN r (fun y => y) i == (i + u) % M)
  | _ => false
set_option maxRecDepth 100000 in
theorem okT_all : ∀ k < 24, ∀ u < k + 1, okT (k + 1) u = true := by decide +kernel
theorem turns_one {k u : Nat} (hk : k < 24) (hu : u < k + 1) : ∃ r, Mv.orderM (turnP (k + 1) u (k + 1)) 30 = some (r, true) ∧ (∀ t ∈ r, 0 ≤ t.1 ∧ t.1 ≤ 30 ∧ 0 ≤ t.2 ∧ t.2 ≤ 30) ∧ r.length ≤ 2 * (k + 1) ∧ (u = 0 → r.length = 0) ∧ ∀ i < k + 1, appN r (fun y => y) i = (i + u) % (k + 1) := by
  have h := okT_all k hk u hu
  unfold okT at h
  split at h
  · next r hr =>
    simp only [Bool.and_eq_true, List.all_eq_true, decide_eq_true_eq, Bool.or_eq_true, Bool.not_eq_true', beq_iff_eq, beq_eq_false_iff_ne, List.mem_range] at h
    obtain ⟨⟨⟨h1, h2⟩, h3⟩, h4⟩ := h
    refine ⟨r, hr, fun t ht => ?_, h2, fun hu0 => ?_, h4⟩
    · obtain ⟨⟨⟨a, b⟩, c⟩, d⟩ := h1 t ht
      exact ⟨a, b, c, d⟩
    · rcases h3 with h3 | h3
      · exact absurd hu0 h3
      · exact h3
  · cases h
/-- Done so often. -/
theorem rounds_done {M u : Nat} {r : List Mv.Pr} (hM : 0 < M) (h : ∀ i < M, appN r (fun y => y) i = (i + u) % M) (f : Nat → Int) (t : Nat) (hf : ∀ i < M, f i = (((i + t * u) % M : Nat) : Int)) : ∀ i < M, app r f i = (((i + (t + 1) * u) % M : Nat) : Int) := by
  intro i hi
  rw [app_id, h i hi, hf _ (Nat.mod_lt _ hM)]
  congr 1
  rw [Nat.mod_add_mod]
  congr 1
  rw [Nat.add_mul]; omega
/-- An array's cells. -/
structure Arr (P : Nat) (f : Nat → Int) (wr : World) : Prop where
  lt : P < wr.heap.size
  c : ∀ i < 31, wr.cell? ⟨P, i, none⟩ = some (.int .i64 (f i))
  fr : ∀ i, wr.frozen? ⟨P, i, none⟩ = false
end Go.Proofs.Ytheapamlhoogaaa
