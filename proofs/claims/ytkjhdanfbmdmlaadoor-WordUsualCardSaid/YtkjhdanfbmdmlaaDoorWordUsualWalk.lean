/- The law WordUsual: its walk, for every input. -/
import Derived.Test.YtkjhdanfbmdmlaaDoorWordUsualA
import Derived.Test.YtkjhdanfbmdmlaaDoorWordUsualB
import Derived.Test.YtkjhdanfbmdmlaaDoorWordUsualC
import Derived.Test.YtkjhdanfbmdmlaaDoorWordUsualD
import Derived.Test.YtkjhdanfbmdmlaaDoorWordUsualM
namespace Go.Proofs.YtkjhdanfbmdmlaaDoor
open Go.RowKit
set_option linter.unusedVariables false

theorem lit64 {n : Int} (h : (Lit.int .i64 n).wf = true) : -9223372036854775808 ≤ n ∧ n ≤ 9223372036854775807 := by
  simp [Lit.wf, IntKind.min, IntKind.max, IntKind.signed, IntKind.bits] at h
  omega

theorem wordUsual_walk (x y n : Int) (w0 : (Lit.int .i64 x).wf = true) (w1 : (Lit.int .i64 y).wf = true) (w2 : (Lit.int .i64 n).wf = true) (w : World) (L : Laid w) :
    Calls Tryd.prog 6 #[.int .i64 x, .int .i64 y, .int .i64 n] w fun e w' => e = .returned (.bool true) ∧ Below w.heap.size w w' := by
  obtain ⟨K, hK, HK⟩ := Wd.low8 x
  obtain ⟨M, hM, HM⟩ := Wd.low8 y
  have hx := lit64 w0
  have hy := lit64 w1
  have hn := lit64 w2
  obtain ⟨B, hB⟩ : ∃ B, Wd.ub (Wd.tabB K) (Wd.tabS K) (Wd.tabB M) (Wd.tabS M) = B := ⟨_, rfl⟩
  obtain ⟨S, hS⟩ : ∃ S, Wd.us (Wd.tabB K) (Wd.tabS K) (Wd.tabB M) (Wd.tabS M) = S := ⟨_, rfl⟩
  obtain ⟨a, b, c, d, e, f, g, i, j, k⟩ := Wd.uok_open hK hM hB hS
  have hX := Wd.wrap_bd (Wd.tabB K) (Wd.tabS K) n hn
  have kp := Wd.keep hK n B S k
  have one : ∀ {p q : Int}, p = q → (p == q) = true := fun h => by rw [h]; exact beq_self_eq_true _
  cases S
  · by_cases hneg : Wd.wrap (Wd.tabB K) (Wd.tabS K) n < 0
    · cases hs : Wd.tabS K
      · rw [hs] at hneg
        have h64 := Wd.neg_64 hK hs hneg
        have hB64 : B = 64 := by
          rcases k with k | ⟨_, k, _⟩
          · exact k
          · omega
        rw [hs] at a b e f hB hS hX kp
        exact usual_C x y n K M hK hM (Lib.hid HK) (Lib.hid HM) hx hy B _ _ (Lib.hid hs) hneg hn hX (Lib.hid rfl) (Lib.hid hB) (Lib.hid hS) (Lib.hid a) (Lib.hid b) (Lib.hid c) (Lib.hid d) (Lib.hid e) (Lib.hid f) (Lib.hid g) i j (Lib.hid rfl)
          (Lib.hid (one (kp fun _ h => by omega))) w L
      · rw [hs] at hneg a b e f hB hS hX
        exact usual_D x y n K M hK hM (Lib.hid HK) (Lib.hid HM) hx hy B _ (Lib.hid hs) hneg hn hX (Lib.hid rfl) (Lib.hid hB) (Lib.hid hS) (Lib.hid a) (Lib.hid b) (Lib.hid c) (Lib.hid d) (Lib.hid e) (Lib.hid f) (Lib.hid g) i j w L
    · exact usual_B x y n K M hK hM (Lib.hid HK) (Lib.hid HM) hx hy B _ _ _ (Lib.hid rfl) hneg hn hX (Lib.hid rfl) (Lib.hid hB) (Lib.hid hS) (Lib.hid a) (Lib.hid b) (Lib.hid c) (Lib.hid d) (Lib.hid e) (Lib.hid f) (Lib.hid g) i j (Lib.hid rfl)
          (Lib.hid (one (kp fun _ _ => by omega))) w L
  · exact usual_A x y n K M hK hM (Lib.hid HK) (Lib.hid HM) hx hy B _ _ _ (Lib.hid rfl) hn hX (Lib.hid rfl) (Lib.hid hB) (Lib.hid hS) (Lib.hid a) (Lib.hid b) (Lib.hid c) (Lib.hid d) (Lib.hid e) (Lib.hid f) (Lib.hid g) i j (Lib.hid rfl)
          (Lib.hid (one (kp fun h => by cases h))) w L
end Go.Proofs.YtkjhdanfbmdmlaaDoor
