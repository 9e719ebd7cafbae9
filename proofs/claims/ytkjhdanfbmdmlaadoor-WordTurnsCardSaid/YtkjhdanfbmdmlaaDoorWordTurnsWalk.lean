/- The law WordTurns: its walk, for every input. -/
import Derived.Test.YtkjhdanfbmdmlaaDoorWordTurnsLtS
import Derived.Test.YtkjhdanfbmdmlaaDoorWordTurnsLtB
import Derived.Test.YtkjhdanfbmdmlaaDoorWordTurnsGeS
import Derived.Test.YtkjhdanfbmdmlaaDoorWordTurnsGeB
import Derived.Test.YtkjhdanfbmdmlaaDoorWordTurnsM
namespace Go.Proofs.YtkjhdanfbmdmlaaDoor
open Go.RowKit
set_option linter.unusedVariables false

theorem turns64 {n : Int} (h : (Lit.int .i64 n).wf = true) : -9223372036854775808 ≤ n ∧ n ≤ 9223372036854775807 := by
  simp [Lit.wf, IntKind.min, IntKind.max, IntKind.signed, IntKind.bits] at h
  omega
theorem tab_small {M : Nat} (hM : M < 8) (h : Wd.tabB M < 32) : Wd.reck (Wd.tabB M) = false := by
  rcases Wd.tab8 hM with rfl | rfl | rfl | rfl | rfl | rfl | rfl | rfl <;> first | rfl | exact absurd h (by decide)
theorem tab_big {M : Nat} (hM : M < 8) (h : ¬ Wd.tabB M < 32) : Wd.tabB M = 32 ∨ Wd.tabB M = 64 := by
  rcases Wd.tab8 hM with rfl | rfl | rfl | rfl | rfl | rfl | rfl | rfl <;> first | exact .inl rfl | exact .inr rfl | exact absurd (by decide) h
theorem no_ring {B : Int} (t : Bool) (h : Wd.reck B = false) : Wd.bval B t 1 1 1 = 0 ∧ Wd.bok B t 1 1 1 = false := by
  have e : Wd.bok B t 1 1 1 = false := by unfold Wd.bok; rw [h]; rfl
  exact ⟨by unfold Wd.bval; rw [if_pos e], e⟩

theorem wordTurns_walk (x y n : Int) (w0 : (Lit.int .i64 x).wf = true) (w1 : (Lit.int .i64 y).wf = true) (w2 : (Lit.int .i64 n).wf = true) (w : World) (L : Laid w) :
    Calls Tryd.prog 9 #[.int .i64 x, .int .i64 y, .int .i64 n] w fun e w' => e = .returned (.bool true) ∧ Below w.heap.size w w' := by
  obtain ⟨K, hK, HK⟩ := Wd.low8 x
  obtain ⟨M, hM, HM⟩ := Wd.low8 y
  have hx := turns64 w0
  have hy := turns64 w1
  have hn := turns64 w2
  have hX := Wd.wrap_bd (Wd.tabB M) (Wd.tabS M) n hn
  have hV := Wd.wrap_bd (Wd.tabB K) (Wd.tabS K) n hn
  by_cases hs : Wd.tabB M < 32
  · have hr := tab_small hM hs
    obtain ⟨d1, d2⟩ := no_ring (Wd.tabS M) hr
    by_cases hge : Wd.tabB M ≤ Wd.tabB K
    · exact turns_GeS x y n K M hK hM (Lib.hid HK) (Lib.hid HM) hx hy _ _ _ _ _ (Lib.hid rfl) (Lib.hid rfl) (Lib.hid rfl) (Lib.hid rfl) hn hX (Lib.hid rfl) _ hV (Lib.hid rfl) (Lib.hid (Wd.turned hK hM n hge)) hge hs (Lib.hid hr) (Lib.hid d1) (Lib.hid d2) w L
    · exact turns_LtS x y n K M hK hM (Lib.hid HK) (Lib.hid HM) hx hy _ _ _ _ _ (Lib.hid rfl) (Lib.hid rfl) (Lib.hid rfl) (Lib.hid rfl) hn hX (Lib.hid rfl) (by omega) hs (Lib.hid hr) (Lib.hid d1) (Lib.hid d2) w L
  · have hB := tab_big hM hs
    have hr : Wd.reck (Wd.tabB M) = true := by rcases hB with h | h <;> rw [h] <;> rfl
    obtain ⟨a, b, c, d, e, f, g⟩ := Wd.reck_all (Wd.tabS M) hB n hn _ rfl
    have hM1 := Wd.wrap_bd (Wd.tabB M) (Wd.tabS M) (bits .xor .i64 (-1) (Wd.wrap (Wd.tabB M) (Wd.tabS M) n)) (Wd.xor_64 _ _)
    by_cases hge : Wd.tabB M ≤ Wd.tabB K
    · exact turns_GeB x y n K M hK hM (Lib.hid HK) (Lib.hid HM) hx hy _ _ _ _ _ (Lib.hid rfl) (Lib.hid rfl) (Lib.hid rfl) (Lib.hid rfl) hn hX (Lib.hid rfl) _ hV (Lib.hid rfl) (Lib.hid (Wd.turned hK hM n hge)) hge hs _ _ _ _ _ hM1 (Lib.hid hr)
        (Lib.hid a) (Lib.hid b) (Lib.hid c) (Lib.hid d) (Lib.hid rfl) (Lib.hid rfl) (Lib.hid e) (Lib.hid f) (Lib.hid rfl) (Lib.hid rfl) (Lib.hid rfl) (Lib.hid g) w L
    · exact turns_LtB x y n K M hK hM (Lib.hid HK) (Lib.hid HM) hx hy _ _ _ _ _ (Lib.hid rfl) (Lib.hid rfl) (Lib.hid rfl) (Lib.hid rfl) hn hX (Lib.hid rfl) (by omega) hs _ _ _ _ _ hM1 (Lib.hid hr)
        (Lib.hid a) (Lib.hid b) (Lib.hid c) (Lib.hid d) (Lib.hid rfl) (Lib.hid rfl) (Lib.hid e) (Lib.hid f) (Lib.hid rfl) (Lib.hid rfl) (Lib.hid rfl) (Lib.hid g) w L
end Go.Proofs.YtkjhdanfbmdmlaaDoor
