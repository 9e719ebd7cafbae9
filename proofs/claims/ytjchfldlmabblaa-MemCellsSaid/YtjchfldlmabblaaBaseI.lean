/- A slice of integers that comes in and is only read: what a walk is told of it, and that it reads behind the call as it read before. -/
import Derived.Below
import Derived.ChangeSlices
import Derived.ChangeSame
import Derived.RowKit
import Derived.WalkKit
import Derived.ProofKit
import Derived.OpenShut
namespace Go.Proofs.Ytjchfldlmabblaa
open Go.RowKit Go.WideShapes Go.ChangeShapes
set_option linter.unusedVariables false

/-- n integers stand there, in cells of world w. -/
structure IntsIn (w : World) (a : Option Addr) (n : Nat) (z : Nat → Int) : Prop where
  len : n ≤ 9223372036854775807
  at_ : 0 < n → ∃ b off, a = some ⟨b, off, none⟩ ∧ ∀ i, i < n → w.cell? ⟨b, off + i, none⟩ = some (.int .i64 (z i))
  bd : ∀ i, i < n → -9223372036854775808 ≤ z i ∧ z i ≤ 9223372036854775807
theorem intsIn_nil (w : World) : IntsIn w none 0 (fun _ => 0) := ⟨by omega, fun h => absurd h (by omega), fun i h => absurd h (by omega)⟩
theorem wf_bd {z : Int} (h : (Lit.int .i64 z).wf = true) : -9223372036854775808 ≤ z ∧ z ≤ 9223372036854775807 := by
  have h1 : IntKind.i64.min = -9223372036854775808 := rfl
  have h2 : IntKind.i64.max = 9223372036854775807 := rfl
  simp [Lit.wf] at h
  omega
theorem intsIn_some {w : World} {a : Addr} {len cap : Nat} {zs : List Int} (hl : len ≤ cap) (hm : cap ≤ maxLen) (hz : zs.length = cap) (hcell : ∀ i, i < zs.length → w.cell? (a.add i) = some (.int .i64 (zs.getD i 0))) (hw : ∀ n ∈ zs, (Lit.int .i64 n).wf = true) :
    IntsIn w (some a) len (fun i => zs.getD i 0) := by
  refine ⟨by unfold maxLen at hm; omega, fun h => ?_, fun i hi => ?_⟩
  · obtain ⟨b, off, spot⟩ := a
    have hspot : spot = none := by simpa [Addr.add] using World.cell?_spot (hcell 0 (by omega))
    subst hspot
    exact ⟨b, off, rfl, fun i hi => by rw [← add_plain]; exact hcell i (by omega)⟩
  · refine wf_bd (hw _ ?_)
    have hi' : i < zs.length := by omega
    rw [List.getD_eq_getElem?_getD, List.getElem?_eq_getElem hi']
    exact List.getElem_mem hi'
theorem ints_again {H : Type} {enc : TypeId × Value → H} {P : Program} {W u : World} {t e : TypeId} {a : Addr} {len cap : Nat} {zs : List Int} (ht : P.underlying t = some (.slice e)) (he : P.underlying e = some (.int .i64)) (hc : P.cellsOf e = 1)
    (hl : len ≤ cap) (hm : cap ≤ maxLen) (hz : zs.length = cap) (hcell : ∀ i, i < zs.length → W.cell? (a.add i) = some (.int .i64 (zs.getD i 0))) (hw : ∀ n ∈ zs, (Lit.int .i64 n).wf = true) (hb : Below W.heap.size W u)
    (sp : Nat → Bool) (hsp : ∀ p ∈ MemPlace.row a zs.length, sp p.block = true) :
    DataW.Trod enc P u 0 sp true t (.slice (some a) len cap) (.slice (lits .i64 (zs.take len)) (lits .i64 (zs.drop len))) (MemPlace.row a zs.length) := by
  have hblk : ∀ i, (a.add i).block = a.block := fun i => by simp [Addr.add]; (try split) <;> rfl
  refine ⟨2, shut_ints 0 ht he hc (Nat.zero_le _) hl hm ?_ (fun i hi => ?_) hw⟩
  · by_cases h0 : zs.length = 0
    · split <;> omega
    · have hs : sp a.block = true := hsp (.cell a.block (a.off + 0)) (MemPlace.mem_row.2 ⟨0, by omega, rfl⟩)
      rw [if_pos hs]; exact hz
  · rw [hb.cell (p := a.add i) (block_lt_of_cell (hcell i hi))]; exact hcell i hi
end Go.Proofs.Ytjchfldlmabblaa
