/- From the listed variable to the walks' own word 'LaidT'; and that the program's own start meets the condition. -/
import Derived.Test.YtpjilcfmcbapcaaDoorRows
import Derived.Test.YtpjilcfmcbapcaaDoorLvSets
import Derived.ProofKit
import Derived.LaidMore
import Derived.OpenShut
import Derived.Stop.Joined
namespace Go.Proofs.YtpjilcfmcbapcaaDoor
open Go.ChangeShapes Go.WideShapes Go.ChangeAt Go.RowKit

def laidD : List (String × DataW Unit) := [("math/bits.deBruijn64tab", Rows.laid_math_bits_deBruijn64tab)]

theorem own : ownKnob Tryd.prog.godebug = none := by kernel_rfl
theorem gT : Tryd.prog.globalNamed "math/bits.deBruijn64tab" = some 0 := by kernel_rfl
theorem tT : (Tryd.prog.globals[0]?).map (·.type) = some 93 := by kernel_rfl
theorem cB8 : Tryd.prog.cellsOf 5 = 1 := by kernel_rfl
theorem cT64 : Tryd.prog.cellsOf 93 = 64 := by kernel_rfl
theorem data_eq : (Rows.laid_math_bits_deBruijn64tab : DataW Unit) = .agg (dbt.map (fun v : Nat => .lit (.int .u8 (v : Int)))) := by rfl

set_option maxRecDepth 100000 in
theorem door_met (os : Os) (args : Array Value) : laidMetH Tryd.prog laidD ((World.doorLaid Tryd.prog 14 os).forCall (fun _ _ => 0) ⟨#[], args, []⟩).memory :=
  laidMetH_of_parts3 (fuel := 8) (laidMet_of_run' 8 (by kernel_rfl) (by kernel_rfl)) (by kernel_rfl) (by kernel_rfl)

set_option maxRecDepth 100000 in
theorem byte_cell {H : Type} {enc : TypeId × Value → H} {w : World} {base : Nat} {sp : Nat → Bool} {held : Bool} {fuel : Nat} {cs : List Value} {b : Int} {p : List MemPlace}
    (h : DataW.trod enc Tryd.prog w base sp held fuel 5 cs = some (.lit (.int .u8 b), p)) : cs = [.int .u8 b] := by
  obtain ⟨m, e0, e1, _⟩ := DataW.trod_int Tryd.underlying5 h
  simp at e1
  rw [e0, e1.1]

set_option maxRecDepth 100000 in
theorem laid_of {W : World} (h : laidMetH Tryd.prog laidD W) : LaidT W := by
  rw [MakeChecks.laidMetH_plain _ _ _ (by kernel_rfl)] at h
  obtain ⟨ps, ⟨g3, t3, cs3, f3, p3, q3, hg3, ht3, hv3, hd3, _, _⟩, _, _⟩ := h
  obtain rfl := Option.some.inj (gT.symm.trans hg3)
  obtain rfl := Option.some.inj (tT.symm.trans ht3)
  obtain ⟨xs, m1, rfl, hx1, hlen, hn3, hel⟩ := DataW.trod_array Tryd.underlying93 hd3
  rw [cT64] at hlen
  rw [cB8] at hel
  rw [data_eq] at hx1
  simp only [Prod.mk.injEq, DataW.agg.injEq] at hx1
  have cell : ∀ i, W.cell? ⟨0, i, none⟩ = cs3[i]? := World.var?_cell hg3 hv3
  have key : ∀ (k v : Nat), dbt[k]? = some v → cs3[k]? = some (.int .u8 (v : Int)) := fun k v hk => by
    have hk64 : k < 64 := (List.getElem?_eq_some_iff.1 hk).1
    have e1 : (xs.map (fun x => x.1))[k]? = some (.lit (.int .u8 (v : Int))) := by
      rw [← hx1.1, List.getElem?_map, hk]; rfl
    rw [List.getElem?_map] at e1
    cases hx : xs[k]? with
    | none => rw [hx] at e1; cases e1
    | some x =>
      rw [hx] at e1
      have e2 : x.1 = .lit (.int .u8 (v : Int)) := Option.some.inj e1
      have h2 := hel k hk64
      rw [hx, show x = (x.1, x.2) from rfl, e2] at h2
      have h3 := byte_cell h2
      have h4 : (List.take 1 (List.drop (k * 1) cs3.toList))[0]? = cs3.toList[k]? := by
        rw [List.getElem?_take, if_pos (by decide), List.getElem?_drop, Nat.mul_one, Nat.add_zero]
      rw [h3] at h4
      rw [← Array.getElem?_toList, ← h4]; rfl
  refine ⟨?_, fun k v hk => by rw [cell]; exact key k v hk⟩
  by_cases hz : 0 < W.heap.size
  · exact hz
  · have h0 := cell 0
    rw [key 0 0 rfl] at h0
    have : W.heap[0]? = none := Array.getElem?_eq_none (by omega)
    simp [World.cell?, this] at h0
end Go.Proofs.YtpjilcfmcbapcaaDoor
