/- WordWide: what its regions hold: two boxed widths, and the two rows of three numbers. -/
import Derived.Test.YtkjhdanfbmdmlaaDoorWordTellsB
import Derived.Test.YtkjhdanfbmdmlaaDoorWordWidthsB
namespace Go.Proofs.YtkjhdanfbmdmlaaDoor
open Go.RowKit
set_option linter.unusedVariables false

/-- A world in which the law's own four blocks read so, grown from w. -/
structure Four (w : World) (f g : Nat → Int) where
  W : World
  a0 : W.cell? ⟨w.heap.size, 0, none⟩ = some (.int .i64 32)
  a1 : W.cell? ⟨w.heap.size, 1, none⟩ = some (.bool true)
  b0 : W.cell? ⟨w.heap.size + 1, 0, none⟩ = some (.int .i64 32)
  b1 : W.cell? ⟨w.heap.size + 1, 1, none⟩ = some (.bool false)
  c : ∀ k, k < 3 → W.cell? ⟨w.heap.size + 1 + 1, k, none⟩ = some (.int .i64 (f k))
  d : ∀ k, k < 3 → W.cell? ⟨w.heap.size + 1 + 1 + 1, k, none⟩ = some (.int .u32 (g k))
  z : w.heap.size + 1 + 1 + 1 < W.heap.size
  n : Below w.heap.size w W
def Four.on {w : World} {f g : Nat → Int} (u : Four w f g) {V : World} (h : Gr u.W V) : Four w f g :=
  ⟨V, (h.cell (by have := u.z; omega)).trans u.a0, (h.cell (by have := u.z; omega)).trans u.a1, (h.cell (by have := u.z; omega)).trans u.b0, (h.cell (by have := u.z; omega)).trans u.b1,
    fun k hk => (h.cell (by have := u.z; omega)).trans (u.c k hk), fun k hk => (h.cell (by have := u.z; omega)).trans (u.d k hk), Nat.lt_of_lt_of_le u.z h.size, u.n.trans (h.b.mono u.n.size)⟩
theorem four_call {w : World} {f g : Nat → Int} (u : Four w f g) {F : FuncId} {args : Array Value} {v : Value}
    (h : Calls Tryd.prog F args u.W fun e w' => e = .returned v ∧ Gr u.W w') : Calls Tryd.prog F args u.W fun e w'' => e = .returned v ∧ ∃ m : Four w f g, w'' = m.W :=
  h.mono fun e w' ⟨he, hg⟩ => ⟨he, u.on hg, rfl⟩
theorem four_next {w : World} {f g : Nat → Int} (u : Four w f g) {V : World} (h : Gr u.W V) : ∃ m : Four w f g, m.W = V := ⟨u.on h, rfl⟩
theorem four_made (w : World) (T1 T2 T3 T4 : TypeId) (x0 x1 x2 y0 y1 y2 : Int) (f g : Nat → Int) (h0 : x0 = f 0) (h1 : x1 = f 1) (h2 : x2 = f 2) (k0 : y0 = g 0) (k1 : y1 = g 1) (k2 : y2 = g 2) :
    ∃ m : Four w f g, m.W = (((w.alloc (.cells #[.int .i64 32, .bool true] T1)).alloc (.cells #[.int .i64 32, .bool false] T2)).alloc (.cells #[.int .i64 x0, .int .i64 x1, .int .i64 x2] T3)).alloc (.cells #[.int .u32 y0, .int .u32 y1, .int .u32 y2] T4) := by
  subst h0 h1 h2 k0 k1 k2
  obtain ⟨V, hV⟩ : ∃ V, V = (((w.alloc (.cells #[.int .i64 32, .bool true] T1)).alloc (.cells #[.int .i64 32, .bool false] T2)).alloc (.cells #[.int .i64 (f 0), .int .i64 (f 1), .int .i64 (f 2)] T3)).alloc (.cells #[.int .u32 (g 0), .int .u32 (g 1), .int .u32 (g 2)] T4) := ⟨_, rfl⟩
  have p0 : ∀ o, V.cell? ⟨w.heap.size, o, none⟩ = (w.alloc (.cells #[.int .i64 32, .bool true] T1)).cell? ⟨w.heap.size, o, none⟩ := fun o => by
    rw [hV, World.cell?_alloc_past _ _ _ (by first | (simp; done) | (simp; omega)), World.cell?_alloc_past _ _ _ (by first | (simp; done) | (simp; omega)), World.cell?_alloc_past _ _ _ (by simp)]
  have p1 : ∀ o, V.cell? ⟨w.heap.size + 1, o, none⟩ = ((w.alloc (.cells #[.int .i64 32, .bool true] T1)).alloc (.cells #[.int .i64 32, .bool false] T2)).cell? ⟨w.heap.size + 1, o, none⟩ := fun o => by
    rw [hV, World.cell?_alloc_past _ _ _ (by first | (simp; done) | (simp; omega)), World.cell?_alloc_past _ _ _ (by simp)]
  have p2 : ∀ o, V.cell? ⟨w.heap.size + 1 + 1, o, none⟩ = (((w.alloc (.cells #[.int .i64 32, .bool true] T1)).alloc (.cells #[.int .i64 32, .bool false] T2)).alloc (.cells #[.int .i64 (f 0), .int .i64 (f 1), .int .i64 (f 2)] T3)).cell? ⟨w.heap.size + 1 + 1, o, none⟩ := fun o => by
    rw [hV, World.cell?_alloc_past _ _ _ (by simp)]
  refine ⟨{ W := V, a0 := ?_, a1 := ?_, b0 := ?_, b1 := ?_, c := fun k hk => ?_, d := fun k hk => ?_, z := ?_, n := ?_ }, hV⟩
  · rw [p0, World.cell?_alloc_at _ _ _ _ rfl]; rfl
  · rw [p0, World.cell?_alloc_at _ _ _ _ rfl]; rfl
  · rw [p1, World.cell?_alloc_at _ _ _ _ (by simp)]; rfl
  · rw [p1, World.cell?_alloc_at _ _ _ _ (by simp)]; rfl
  · rw [p2, World.cell?_alloc_at _ _ _ _ (by simp)]
    obtain rfl | rfl | rfl : k = 0 ∨ k = 1 ∨ k = 2 := by omega
    all_goals rfl
  · rw [hV, World.cell?_alloc_at _ _ _ _ (by simp)]
    obtain rfl | rfl | rfl : k = 0 ∨ k = 1 ∨ k = 2 := by omega
    all_goals rfl
  · rw [hV]; simp
  · rw [hV]; exact ((((Below.refl _ _).alloc (Nat.le_refl _) _).alloc (by simp) _).alloc (by first | (simp; done) | (simp; omega)) _).alloc (by first | (simp; done) | (simp; omega)) _
end Go.Proofs.YtkjhdanfbmdmlaaDoor
