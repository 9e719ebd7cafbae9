/- The widths' row opened, and two widths boxed: what WordUsual's and WordTurns' first statements come to. -/
import Derived.Test.YtkjhdanfbmdmlaaDoorWordWidths
import Derived.Test.YtkjhdanfbmdmlaaDoorWordLow
import Derived.Test.YtkjhdanfbmdmlaaDoorWordMay
namespace Go.Proofs.YtkjhdanfbmdmlaaDoor
open Go.RowKit
set_option linter.unusedVariables false

theorem Laid.below {w w' : World} (L : Laid w) (h : Below w.heap.size w w') : Laid w' :=
  ⟨Nat.lt_of_lt_of_le L.z h.size, fun k hk => (h.cell (p := ⟨_, _, none⟩) L.z).trans (L.b k hk), fun k hk => (h.cell (p := ⟨_, _, none⟩) L.z).trans (L.s k hk)⟩

/-- The widths' row, cell by cell. -/
theorem wids_open {w w' : World} {e : Ending} (h : Wids w e w') : ∃ g cap, e = .returned (.slice (some ⟨g, 0, none⟩) 8 cap) ∧ w.heap.size ≤ g ∧ g < w'.heap.size ∧ Below w.heap.size w w' ∧
    (∀ k : Nat, k < 8 → w'.cell? ⟨g, k * 2, none⟩ = some (.int .i64 (Wd.tabB k)) ∧ w'.cell? ⟨g, k * 2 + 1, none⟩ = some (.bool (Wd.tabS k))) := by
  obtain ⟨v, rfl, hown, hb⟩ := h
  have hc : ∀ g, v.ownBlock = some g → _ := fun g hg => hown.cells (g := g) hg
  have hlt := hown.lt
  obtain ⟨hl, ⟨rfl, h0⟩ | ⟨g, cap, cur, rfl, hg, hh, hc8, hcm, hcs, hct⟩⟩ := hown
  · cases h0
  refine ⟨g, cap, rfl, hg, (hlt g rfl).2, hb, fun k hk => ?_⟩
  have h := hc g rfl
  match k, hk with
  | 0, _ => exact ⟨h 0 _ rfl, h 1 _ rfl⟩
  | 1, _ => exact ⟨h 2 _ rfl, h 3 _ rfl⟩
  | 2, _ => exact ⟨h 4 _ rfl, h 5 _ rfl⟩
  | 3, _ => exact ⟨h 6 _ rfl, h 7 _ rfl⟩
  | 4, _ => exact ⟨h 8 _ rfl, h 9 _ rfl⟩
  | 5, _ => exact ⟨h 10 _ rfl, h 11 _ rfl⟩
  | 6, _ => exact ⟨h 12 _ rfl, h 13 _ rfl⟩
  | 7, _ => exact ⟨h 14 _ rfl, h 15 _ rfl⟩

/-- Two widths boxed, in new blocks of the call's own. -/
def Boxed (w : World) (b : Int) (s : Bool) (c : Int) (t : Bool) (v8 v9 : Value) (wx : World) : Prop :=
  ∃ p q : Nat, v8 = .pointer (some ⟨p, 0, none⟩) ∧ v9 = .pointer (some ⟨q, 0, none⟩) ∧ w.heap.size ≤ p ∧ w.heap.size ≤ q ∧ p < wx.heap.size ∧ q < wx.heap.size ∧
    wx.cell? ⟨p, 0, none⟩ = some (.int .i64 b) ∧ wx.cell? ⟨p, 1, none⟩ = some (.bool s) ∧ wx.cell? ⟨q, 0, none⟩ = some (.int .i64 c) ∧ wx.cell? ⟨q, 1, none⟩ = some (.bool t) ∧ Below w.heap.size w wx
end Go.Proofs.YtkjhdanfbmdmlaaDoor
