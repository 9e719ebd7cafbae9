/- What Order makes of rings: reckoned, ring by ring. -/
import Derived.Test.YtheapamlhoogaaaMvBase
namespace Go.Proofs.Ytheapamlhoogaaa
open Go.RowKit Go.Maps
set_option linter.unusedVariables false

/-- Places each of which gets what the next one has, round. -/
def ringP (M i : Nat) : List Mv.Pr := (List.range i).map (fun (j : Nat) => ((j : Int), (((j + 1) % M : Nat) : Int)))
theorem ringP_succ (M i : Nat) : ringP M (i + 1) = ringP M i ++ [((i : Int), (((i + 1) % M : Nat) : Int))] := by unfold ringP; rw [List.range_succ, List.map_append]; rfl
theorem ringP_len (M i : Nat) : (ringP M i).length = i := by unfold ringP; simp
theorem ringP_bd (M i : Nat) (hM : M ≤ 100) (hi : i ≤ 100) : ∀ t ∈ ringP M i, I64 t.1 ∧ I64 t.2 := by
  intro t ht
  obtain ⟨j, hj, rfl⟩ := List.mem_map.1 ht
  have := List.mem_range.1 hj
  have h2 : (j + 1) % M ≤ j + 1 := Nat.mod_le _ _
  unfold I64
  simp only
  omega
def okR (M : Nat) : Bool := match Mv.orderM (ringP M M) 99 with
  | some (r, true) => r.length == M + 1
  | _ => false
def okR2 (M w : Nat) : Bool := match Mv.orderM (ringP M M ++ [(50, (w : Int))]) 99 with
  | some (r, true) => decide (M + 1 ≤ r.length) && decide (r.length ≤ M + 2)
  | _ => false
set_option maxRecDepth 100000 in
theorem okR_all : ∀ k < 19, okR (k + 2) = true := by decide +kernel
set_option maxRecDepth 100000 in
theorem okR2_all : ∀ k < 19, ∀ w < k + 2, okR2 (k + 2) w = true := by decide +kernel
theorem rings_one {k : Nat} (hk : k < 19) : ∃ r, Mv.orderM (ringP (k + 2) (k + 2)) 99 = some (r, true) ∧ r.length = k + 3 := by
  have h := okR_all k hk
  unfold okR at h
  split at h
  · next r hr => exact ⟨r, hr, by simpa using h⟩
  · cases h
theorem rings_two {k w : Nat} (hk : k < 19) (hw : w < k + 2) : ∃ r, Mv.orderM (ringP (k + 2) (k + 2) ++ [(50, (w : Int))]) 99 = some (r, true) ∧ k + 3 ≤ r.length ∧ r.length ≤ k + 4 := by
  have h := okR2_all k hk w hw
  unfold okR2 at h
  split at h
  · next r hr => simp at h; exact ⟨r, hr, h.1, h.2⟩
  · cases h
end Go.Proofs.Ytheapamlhoogaaa
