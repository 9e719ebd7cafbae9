/- The law WordWide: its walk, for every input. -/
import Derived.Test.YtkjhdanfbmdmlaaDoorWordWideA
import Derived.Test.YtkjhdanfbmdmlaaDoorWordWideM
namespace Go.Proofs.YtkjhdanfbmdmlaaDoor
open Go.RowKit
set_option linter.unusedVariables false

theorem lit32 {n : Int} (h : (Lit.int .i32 n).wf = true) : -2147483648 ≤ n ∧ n ≤ 2147483647 := by
  simp [Lit.wf, IntKind.min, IntKind.max, IntKind.signed, IntKind.bits] at h
  omega
theorem wordWide_walk (a b : Int) (w0 : (Lit.int .i32 a).wf = true) (w1 : (Lit.int .i32 b).wf = true) (w : World) (L : Laid w) :
    Calls Tryd.prog 5 #[.int .i32 a, .int .i32 b] w fun e w' => e = .returned (.bool true) ∧ Below w.heap.size w w' := by
  have ha := lit32 w0
  have hb := lit32 w1
  obtain ⟨Q, R, C, P, h1, h2, h3, h4, h5⟩ := Wd.wide_d a b ha hb
  refine wide_core a b ha hb (fun k => Wd.exact (1 + k) a b) (fun k => Wd.bval 32 false (1 + k) (a % 4294967296) (b % 4294967296)) (fun k => Wd.bval 32 true (1 + k) a b) (fun k => Wd.bok 32 true (1 + k) a b)
    (Wd.wide_f a b ha hb) (Wd.wide_g a b) (fun _ _ => Lib.hid rfl) (fun _ _ => Lib.hid rfl) (fun _ _ => Lib.hid rfl) (fun k hk => Lib.hid (Wd.wide_u a b k hk).2)
    (fun k hk h => Wd.wide_n a b ha hb k hk h) (fun k hk => Wd.wide_e a b ha hb k hk) (fun k hk => Wd.wide_y a b k hk) Q R C P (Lib.hid h1) (Lib.hid h2) (Lib.hid h3) (Lib.hid h4) ?_ w L
  rcases h5 with h | h | ⟨x, y, z, u, v⟩ | ⟨x, y, z, v⟩
  · exact .inl h
  · exact .inr (.inl h)
  · exact .inr (.inr (.inl ⟨x, y, z, u, Lib.hid v⟩))
  · exact .inr (.inr (.inr ⟨x, y, z, Lib.hid v⟩))
end Go.Proofs.YtkjhdanfbmdmlaaDoor
