/- From the listed variable to the walks' own word 'Laid'; and that the program's own start meets the condition. -/
import Derived.Test.YtkiimljdoebclaaDoorRows
import Derived.Test.YtkiimljdoebclaaDoorWordMay
import Derived.ProofKit
import Derived.LaidMore
import Derived.OpenShut
import Derived.Stop.Joined
namespace Go.Proofs.YtkiimljdoebclaaDoor
open Go.ChangeShapes Go.WideShapes Go.ChangeAt Go.RowKit

def laidD : List (String × DataW Unit) := [("spokeshave/word.widths", Rows.laid_spokeshave_word_widths)]

theorem own : ownKnob Tryd.prog.godebug = none := by kernel_rfl
theorem gW : Tryd.prog.globalNamed "spokeshave/word.widths" = some 0 := by kernel_rfl
theorem tW : (Tryd.prog.globals[0]?).map (·.type) = some 122 := by kernel_rfl
theorem cW : Tryd.prog.cellsOf 37 = 2 := by kernel_rfl
theorem cW8 : Tryd.prog.cellsOf 122 = 16 := by kernel_rfl
theorem cI : Tryd.prog.cellsOf 3 = 1 := by kernel_rfl
theorem cB : Tryd.prog.cellsOf 4 = 1 := by kernel_rfl

set_option maxRecDepth 100000 in
theorem door_met (os : Os) (args : Array Value) : laidMetH Tryd.prog laidD ((World.doorLaid Tryd.prog 22 os).forCall (fun _ _ => 0) ⟨#[], args, []⟩).memory :=
  laidMetH_of_parts3 (fuel := 8) (laidMet_of_run' 8 (by kernel_rfl) (by kernel_rfl)) (by kernel_rfl) (by kernel_rfl)

set_option maxRecDepth 100000 in
/-- Two fields of a width's reading, cell by cell. -/
theorem width_cells {H : Type} {enc : TypeId × Value → H} {w : World} {base : Nat} {sp : Nat → Bool} {held : Bool} {fuel : Nat} {cs : List Value} {b : Int} {s : Bool} {p : List MemPlace}
    (h : DataW.trod enc Tryd.prog w base sp held fuel 37 cs = some (.agg [.lit (.int .i64 b), .lit (.bool s)], p)) : cs = [.int .i64 b, .bool s] := by
  obtain ⟨y0, y1, n, hx, hl, h0, h1⟩ := trod_struct2 Tryd.underlying37 h
  simp only [Prod.mk.injEq, DataW.agg.injEq, List.cons.injEq, and_true] at hx
  rw [cW] at hl
  match cs, hl with
  | [c0, c1], _ =>
    simp only [cI, cB] at h0 h1
    obtain ⟨m, e0, e1, _⟩ := DataW.trod_int Tryd.underlying3 h0
    obtain ⟨q, f0, f1⟩ := DataW.trod_bool Tryd.underlying4 h1
    simp at e0 f0
    subst e0 f0
    have hb := hx.1.1
    have hs := hx.1.2
    rw [e1] at hb
    rw [f1] at hs
    simp at hb hs
    rw [hb, hs]

set_option maxRecDepth 100000 in
theorem laid_of {W : World} (h : laidMetH Tryd.prog laidD W) : Laid W := by
  rw [MakeChecks.laidMetH_plain _ _ _ (by kernel_rfl)] at h
  obtain ⟨ps, ⟨g3, t3, cs3, f3, p3, q3, hg3, ht3, hv3, hd3, _, _⟩, _, _⟩ := h
  obtain rfl := Option.some.inj (gW.symm.trans hg3)
  obtain rfl := Option.some.inj (tW.symm.trans ht3)
  obtain ⟨xs, m1, rfl, hx1, hlen, hn3, hel⟩ := DataW.trod_array Tryd.underlying122 hd3
  rw [cW8] at hlen
  rw [cW] at hel
  simp only [Prod.mk.injEq, DataW.agg.injEq, Rows.laid_spokeshave_word_widths] at hx1
  have key : ∀ k, k < 8 → (cs3.toList.drop (k * 2)).take 2 = [.int .i64 (Wd.tabB k), .bool (Wd.tabS k)] := by
    intro k hk
    have hk1 := hel k hk
    match xs, hn3, hx1.1 with
    | [x0, x1, x2, x3, x4, x5, x6, x7], _, hx =>
      simp only [List.map_cons, List.map_nil, List.cons.injEq, and_true] at hx
      obtain ⟨e0, e1, e2, e3, e4, e5, e6, e7⟩ := hx
      have hc : k = 0 ∨ k = 1 ∨ k = 2 ∨ k = 3 ∨ k = 4 ∨ k = 5 ∨ k = 6 ∨ k = 7 := by omega
      rcases hc with rfl | rfl | rfl | rfl | rfl | rfl | rfl | rfl
      · exact width_cells (hk1.trans (by show some x0 = _; rw [show x0 = (x0.1, x0.2) from rfl, ← e0]; rfl))
      · exact width_cells (hk1.trans (by show some x1 = _; rw [show x1 = (x1.1, x1.2) from rfl, ← e1]; rfl))
      · exact width_cells (hk1.trans (by show some x2 = _; rw [show x2 = (x2.1, x2.2) from rfl, ← e2]; rfl))
      · exact width_cells (hk1.trans (by show some x3 = _; rw [show x3 = (x3.1, x3.2) from rfl, ← e3]; rfl))
      · exact width_cells (hk1.trans (by show some x4 = _; rw [show x4 = (x4.1, x4.2) from rfl, ← e4]; rfl))
      · exact width_cells (hk1.trans (by show some x5 = _; rw [show x5 = (x5.1, x5.2) from rfl, ← e5]; rfl))
      · exact width_cells (hk1.trans (by show some x6 = _; rw [show x6 = (x6.1, x6.2) from rfl, ← e6]; rfl))
      · exact width_cells (hk1.trans (by show some x7 = _; rw [show x7 = (x7.1, x7.2) from rfl, ← e7]; rfl))
  have cell : ∀ i, W.cell? ⟨0, i, none⟩ = cs3[i]? := World.var?_cell hg3 hv3
  have get : ∀ k j, k < 8 → j < 2 → cs3[k * 2 + j]? = ([.int .i64 (Wd.tabB k), .bool (Wd.tabS k)] : List Value)[j]? := by
    intro k j hk hj
    rw [← key k hk, List.getElem?_take, if_pos hj, List.getElem?_drop]
    simp
  refine ⟨?_, fun k hk => ?_, fun k hk => ?_⟩
  · by_cases hz : 0 < W.heap.size
    · exact hz
    · have h0 := cell 0
      have h1 := get 0 0 (by decide) (by decide)
      rw [show 0 * 2 + 0 = 0 from rfl] at h1
      rw [h1] at h0
      have : W.heap[0]? = none := Array.getElem?_eq_none (by omega)
      simp [World.cell?, this] at h0
  · rw [cell]; exact get k 0 hk (by decide)
  · rw [cell]; exact get k 1 hk (by decide)
end Go.Proofs.YtkiimljdoebclaaDoor
