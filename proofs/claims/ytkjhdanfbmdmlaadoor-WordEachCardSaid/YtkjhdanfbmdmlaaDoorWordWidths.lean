/- The eight widths that the law makes for itself: a slice that owns its sixteen cells. -/
import Derived.Test.YtkjhdanfbmdmlaaDoorBaseB
namespace Go.Proofs.YtkjhdanfbmdmlaaDoor
open Go.RowKit
set_option linter.unusedVariables false
set_option linter.unusedSimpArgs false

theorem infoW : (Tryd.prog.info? 23).map (fun i => (i.zero, i.size, i.bytes)) = some (some (.agg #[.int .i64 0, .bool false]), 2, 16) := by kernel_rfl
/-- What a call of it leaves. -/
def Wids (w : World) (e : Ending) (w' : World) : Prop := ∃ v, e = .returned v ∧ w'.ownsRow w.heap.size 23 2 v 8 [.int .i64 8, .bool true, .int .i64 8, .bool false, .int .i64 16, .bool true, .int .i64 16, .bool false, .int .i64 32, .bool true, .int .i64 32, .bool false, .int .i64 64, .bool true, .int .i64 64, .bool false] ∧ Below w.heap.size w w'

set_option maxHeartbeats 800000 in
theorem widths_any (w : World) : Calls Tryd.prog 29 #[] w (Wids w) := by
  obtain ⟨i0, hi, hz0, hz1, hz2⟩ := info_parts infoW
  go_enter Tryd.func29, Tryd.ntmps29
  go_wp2_with fail
  go_loopw [1, 2] (fun v i wr => ((i = .int .i64 8 ∧ wr.ownsRow w.heap.size 23 2 v 0 []) ∨ (i = .int .i64 16 ∧ wr.ownsRow w.heap.size 23 2 v 2 [.int .i64 8, .bool true, .int .i64 8, .bool false]) ∨ (i = .int .i64 32 ∧ wr.ownsRow w.heap.size 23 2 v 4 [.int .i64 8, .bool true, .int .i64 8, .bool false, .int .i64 16, .bool true, .int .i64 16, .bool false]) ∨ (i = .int .i64 64 ∧ wr.ownsRow w.heap.size 23 2 v 6 [.int .i64 8, .bool true, .int .i64 8, .bool false, .int .i64 16, .bool true, .int .i64 16, .bool false, .int .i64 32, .bool true, .int .i64 32, .bool false]) ∨ (i = .int .i64 128 ∧ wr.ownsRow w.heap.size 23 2 v 8 [.int .i64 8, .bool true, .int .i64 8, .bool false, .int .i64 16, .bool true, .int .i64 16, .bool false, .int .i64 32, .bool true, .int .i64 32, .bool false, .int .i64 64, .bool true, .int .i64 64, .bool false])) ∧ Below w.heap.size w wr) (fun _ i _ => 128 - (intOf i).toNat)
  case atStart => exact ⟨.inl ⟨rfl, World.ownsRow_nil _ _ _ _⟩, Below.refl _ _⟩
  case round =>
    obtain ⟨hrel, hnx⟩ := hrel
    have hsz := hnx.size
    rcases hrel with ⟨rfl, hown⟩ | ⟨rfl, hown⟩ | ⟨rfl, hown⟩ | ⟨rfl, hown⟩ | ⟨rfl, hown⟩
    · go_wp2_with (at_builtin; refine wpList_append_own _ rfl _ _ 36 rfl w.heap.size 23 i0 (.agg #[.int .i64 0, .bool false]) 2 16 Tryd.underlying36 hi hz0 hz1 hz2 rfl (by decide) _ _ _ rfl (hown.alloc _) ⟨wr.heap.size, 0, none⟩ 2 2 [.int .i64 8, .bool true, .int .i64 8, .bool false] rfl rfl ?a0 ?b0 (by decide) (by decide) (by simp; omega) ?_)
      case a0 =>
        intro j u hj
        match j, hj with
        | 0, hj => simp at hj; subst hj; simp [Addr.add]
        | 1, hj => simp at hj; subst hj; simp [Addr.add]
        | 2, hj => simp at hj; subst hj; simp [Addr.add]
        | 3, hj => simp at hj; subst hj; simp [Addr.add]
      case b0 => intro u hu; simp at hu; rcases hu with rfl | rfl | rfl | rfl <;> rfl
      intro v' w1 hown' hgrow _
      have hb1 : Below w.heap.size w w1 := (hnx.alloc hsz _).grown hgrow (by simp; omega) (fun k hk => (hown.lt k hk).1)
      clear hgrow hown hnx
      go_wp2
      go_roundw
      case rel => exact ⟨.inr (.inl ⟨rfl, hown'⟩), hb1⟩
      case measure => simp [intOf]
    · go_wp2_with (at_builtin; refine wpList_append_own _ rfl _ _ 36 rfl w.heap.size 23 i0 (.agg #[.int .i64 0, .bool false]) 2 16 Tryd.underlying36 hi hz0 hz1 hz2 rfl (by decide) _ _ _ rfl (hown.alloc _) ⟨wr.heap.size, 0, none⟩ 2 2 [.int .i64 16, .bool true, .int .i64 16, .bool false] rfl rfl ?a1 ?b1 (by decide) (by decide) (by simp; omega) ?_)
      case a1 =>
        intro j u hj
        match j, hj with
        | 0, hj => simp at hj; subst hj; simp [Addr.add]
        | 1, hj => simp at hj; subst hj; simp [Addr.add]
        | 2, hj => simp at hj; subst hj; simp [Addr.add]
        | 3, hj => simp at hj; subst hj; simp [Addr.add]
      case b1 => intro u hu; simp at hu; rcases hu with rfl | rfl | rfl | rfl <;> rfl
      intro v' w1 hown' hgrow _
      have hb1 : Below w.heap.size w w1 := (hnx.alloc hsz _).grown hgrow (by simp; omega) (fun k hk => (hown.lt k hk).1)
      clear hgrow hown hnx
      go_wp2
      go_roundw
      case rel => exact ⟨.inr (.inr (.inl ⟨rfl, hown'⟩)), hb1⟩
      case measure => simp [intOf]
    · go_wp2_with (at_builtin; refine wpList_append_own _ rfl _ _ 36 rfl w.heap.size 23 i0 (.agg #[.int .i64 0, .bool false]) 2 16 Tryd.underlying36 hi hz0 hz1 hz2 rfl (by decide) _ _ _ rfl (hown.alloc _) ⟨wr.heap.size, 0, none⟩ 2 2 [.int .i64 32, .bool true, .int .i64 32, .bool false] rfl rfl ?a2 ?b2 (by decide) (by decide) (by simp; omega) ?_)
      case a2 =>
        intro j u hj
        match j, hj with
        | 0, hj => simp at hj; subst hj; simp [Addr.add]
        | 1, hj => simp at hj; subst hj; simp [Addr.add]
        | 2, hj => simp at hj; subst hj; simp [Addr.add]
        | 3, hj => simp at hj; subst hj; simp [Addr.add]
      case b2 => intro u hu; simp at hu; rcases hu with rfl | rfl | rfl | rfl <;> rfl
      intro v' w1 hown' hgrow _
      have hb1 : Below w.heap.size w w1 := (hnx.alloc hsz _).grown hgrow (by simp; omega) (fun k hk => (hown.lt k hk).1)
      clear hgrow hown hnx
      go_wp2
      go_roundw
      case rel => exact ⟨.inr (.inr (.inr (.inl ⟨rfl, hown'⟩))), hb1⟩
      case measure => simp [intOf]
    · go_wp2_with (at_builtin; refine wpList_append_own _ rfl _ _ 36 rfl w.heap.size 23 i0 (.agg #[.int .i64 0, .bool false]) 2 16 Tryd.underlying36 hi hz0 hz1 hz2 rfl (by decide) _ _ _ rfl (hown.alloc _) ⟨wr.heap.size, 0, none⟩ 2 2 [.int .i64 64, .bool true, .int .i64 64, .bool false] rfl rfl ?a3 ?b3 (by decide) (by decide) (by simp; omega) ?_)
      case a3 =>
        intro j u hj
        match j, hj with
        | 0, hj => simp at hj; subst hj; simp [Addr.add]
        | 1, hj => simp at hj; subst hj; simp [Addr.add]
        | 2, hj => simp at hj; subst hj; simp [Addr.add]
        | 3, hj => simp at hj; subst hj; simp [Addr.add]
      case b3 => intro u hu; simp at hu; rcases hu with rfl | rfl | rfl | rfl <;> rfl
      intro v' w1 hown' hgrow _
      have hb1 : Below w.heap.size w w1 := (hnx.alloc hsz _).grown hgrow (by simp; omega) (fun k hk => (hown.lt k hk).1)
      clear hgrow hown hnx
      go_wp2
      go_roundw
      case rel => exact ⟨.inr (.inr (.inr (.inr (⟨rfl, hown'⟩)))), hb1⟩
      case measure => simp [intOf]
    · go_wp2_with fail
      go_returns
      exact ⟨_, rfl, hown, hnx⟩
end Go.Proofs.YtkjhdanfbmdmlaaDoor
