/- An argument that is an instruction, opened. -/
import Derived.Test.YtpjilcfmcbapcaaDoorIrLeaf
import Derived.Deep.SlicePairs
import Derived.ChangeArms
import Derived.ChangeShapes
import Derived.WideShapes
namespace Go.Proofs.YtpjilcfmcbapcaaDoor
open Go.RowKit Go.Maps Go.WideShapes Go.ChangeShapes Go.Deep
set_option linter.unusedVariables false
set_option linter.unusedSimpArgs false

theorem cells_ins : Tryd.prog.cellsOf 38 = 11 := by kernel_rfl
theorem cells_wid : Tryd.prog.cellsOf 35 = 2 := by kernel_rfl
theorem cells_i : Tryd.prog.cellsOf 3 = 1 := by kernel_rfl
theorem cells_b : Tryd.prog.cellsOf 4 = 1 := by kernel_rfl
theorem cells_i64 : Tryd.prog.cellsOf 2 = 1 := by kernel_rfl
theorem cells_si : Tryd.prog.cellsOf 22 = 1 := by kernel_rfl
theorem cells_sl : Tryd.prog.cellsOf 36 = 1 := by kernel_rfl
theorem i64_wf {z : Int} (h : (Lit.int .i64 z).wf = true) : I64 z := by
  have h1 : IntKind.i64.min = -9223372036854775808 := rfl
  have h2 : IntKind.i64.max = 9223372036854775807 := rfl
  simp [Lit.wf] at h
  unfold I64; omega
theorem some_of {α : Type} {l : List α} {i : Nat} {o : Option α} (h : o = l[i]?) (hi : i < l.length) : ∃ y, o = some y := ⟨_, h.trans (List.getElem?_eq_getElem hi)⟩
section
variable {H : Type} {enc : TypeId × Value → H} {W : World} {fuel : Nat}
theorem open_i {t : TypeId} (ht : Tryd.prog.underlying t = some (.int .i64)) {c : Value} {x : DataW H × List MemPlace} (h : DataW.trod enc Tryd.prog W 0 (fun _ => true) true fuel t [c] = some x) : ∃ z, c = .int .i64 z ∧ I64 z := by
  obtain ⟨z, e, _, w⟩ := DataW.trod_int ht h
  injection e with e
  exact ⟨z, e, i64_wf w⟩
theorem open_row {t s : TypeId} (hs : Tryd.prog.underlying s = some (.slice t)) (ht : Tryd.prog.underlying t = some (.int .i64)) (h1 : Tryd.prog.cellsOf t = 1) {c : Value} {x : DataW H × List MemPlace} (h : DataW.trod enc Tryd.prog W 0 (fun _ => true) true fuel s [c] = some x) :
    ∃ q : Sl, SlAt W q ∧ c = q.v := by
  rcases open_slice1 hs h1 h with ⟨hcs, hx⟩ | ⟨a, len, cap, m, n, V, D, Pl, hcs, _, hl, hm, hmm, hx, hall⟩
  · injection hcs with hcs
    exact ⟨⟨none, 0, 0, []⟩, ⟨rfl, ⟨Nat.le_refl _, Nat.zero_le _⟩, (fun z h => by cases h), fun h => by simp at h⟩, hcs⟩
  · injection hcs with hcs
    rw [if_pos rfl] at hmm
    subst hmm
    have hz : ∀ i, i < len → ∃ z : Int, W.cell? (a.add i) = some (.int .i64 z) ∧ I64 z := fun i hi => by
      obtain ⟨c0, t0⟩ := hall i (by omega)
      obtain ⟨z0, e0, w0⟩ := open_i ht t0
      rw [e0] at c0
      exact ⟨z0, c0, w0⟩
    obtain ⟨q, hq⟩ := choose_lt hz
    refine ⟨⟨some a, len, m, (List.range len).map q⟩, ⟨by simp, ⟨hl, hm⟩, fun t ht => ?_, fun hn => ?_⟩, hcs⟩
    · obtain ⟨i, hi, rfl⟩ := List.mem_map.1 ht
      exact (hq i (List.mem_range.1 hi)).2
    · obtain ⟨b, off, spot⟩ := a
      have hspot : spot = none := by simpa [Addr.add] using World.cell?_spot (hq 0 hn).1
      subst hspot
      refine ⟨b, off, rfl, fun i t ht => ?_⟩
      have hi : i < len := by have := (List.getElem?_eq_some_iff.1 ht).1; simpa using this
      have he : t = q i := by rw [List.getElem?_map, List.getElem?_range hi] at ht; simpa using ht.symm
      subst he
      have c0 := (hq i hi).1
      rw [add_plain] at c0
      exact c0
set_option maxRecDepth 10000 in
theorem open_wid {c0 c1 : Value} {x : DataW H × List MemPlace} (h : DataW.trod enc Tryd.prog W 0 (fun _ => true) true fuel 35 [c0, c1] = some x) : ∃ (b : Int) (s : Bool), I64 b ∧ c0 = .int .i64 b ∧ c1 = .bool s := by
  obtain ⟨xs, n, _, _, _, hxl, hf⟩ := DataW.trod_struct Tryd.underlying35 h
  obtain ⟨y0, g0⟩ := some_of (hf 0 _ rfl) (by rw [hxl]; decide)
  obtain ⟨y1, g1⟩ := some_of (hf 1 _ rfl) (by rw [hxl]; decide)
  simp [cells_i, cells_b] at g0 g1
  obtain ⟨z0, rfl, w0⟩ := open_i Tryd.underlying3 g0
  obtain ⟨s, e1, _⟩ := DataW.trod_bool Tryd.underlying4 g1
  injection e1 with e1
  exact ⟨z0, s, w0, rfl, e1⟩
set_option maxRecDepth 10000 in
theorem open_ins {cs : List Value} {x : DataW H × List MemPlace} (h : DataW.trod enc Tryd.prog W 0 (fun _ => true) true fuel 38 cs = some x) : ∃ a : Ix, IxOk W a ∧ cs = a.cells := by
  obtain ⟨xs, n, _, _, hcl, hxl, hf⟩ := DataW.trod_struct Tryd.underlying38 h
  rw [cells_ins] at hcl
  match cs, hcl with
  | [a0, a1, a2, a3, a4, a5, a6, a7, a8, a9, a10], _ =>
    obtain ⟨y0, g0⟩ := some_of (hf 0 _ rfl) (by rw [hxl]; decide)
    obtain ⟨y1, g1⟩ := some_of (hf 1 _ rfl) (by rw [hxl]; decide)
    obtain ⟨y2, g2⟩ := some_of (hf 2 _ rfl) (by rw [hxl]; decide)
    obtain ⟨y3, g3⟩ := some_of (hf 3 _ rfl) (by rw [hxl]; decide)
    obtain ⟨y4, g4⟩ := some_of (hf 4 _ rfl) (by rw [hxl]; decide)
    obtain ⟨y5, g5⟩ := some_of (hf 5 _ rfl) (by rw [hxl]; decide)
    obtain ⟨y6, g6⟩ := some_of (hf 6 _ rfl) (by rw [hxl]; decide)
    obtain ⟨y7, g7⟩ := some_of (hf 7 _ rfl) (by rw [hxl]; decide)
    obtain ⟨y8, g8⟩ := some_of (hf 8 _ rfl) (by rw [hxl]; decide)
    obtain ⟨y9, g9⟩ := some_of (hf 9 _ rfl) (by rw [hxl]; decide)
    simp [cells_i, cells_i64, cells_wid, cells_si, cells_sl] at g0 g1 g2 g3 g4 g5 g6 g7 g8 g9
    obtain ⟨z0, rfl, w0⟩ := open_i Tryd.underlying3 g0
    obtain ⟨z1, rfl, w1⟩ := open_i Tryd.underlying3 g1
    obtain ⟨z2, rfl, w2⟩ := open_i Tryd.underlying3 g2
    obtain ⟨z3, rfl, w3⟩ := open_i Tryd.underlying3 g3
    obtain ⟨z4, rfl, w4⟩ := open_i Tryd.underlying3 g4
    obtain ⟨z5, rfl, w5⟩ := open_i Tryd.underlying2 g5
    obtain ⟨b, s, w6, rfl, rfl⟩ := open_wid g6
    obtain ⟨q7, w7, rfl⟩ := open_row Tryd.underlying22 Tryd.underlying3 cells_i g7
    obtain ⟨q8, w8, rfl⟩ := open_row Tryd.underlying22 Tryd.underlying3 cells_i g8
    obtain ⟨q9, w9, rfl⟩ := open_row Tryd.underlying36 Tryd.underlying2 cells_i64 g9
    exact ⟨⟨z0, z1, z2, z3, z4, z5, b, s, q7, q8, q9⟩, ⟨w0, w1, w2, w3, w4, w5, w6, w7, w8, w9⟩, rfl⟩
set_option maxRecDepth 100000 in
theorem open_ins_arg {r : Reach} {b0 : Nat} {v : Value} {d : DataW H} {p : List MemPlace} (hv : Value.okWide Tryd.prog W r b0 38 v) (h : DataW.Trod enc Tryd.prog W 0 (fun _ => true) true 38 v d p) : ∃ a : Ix, IxOk W a ∧ v = ia a := by
  obtain ⟨cs, rfl, hsz⟩ := okWide_struct Tryd.underlying38 hv
  obtain ⟨fuel, hf⟩ := h
  rw [cells_ins] at hsz
  obtain ⟨a, ha, hcs⟩ := open_ins hf
  refine ⟨a, ha, ?_⟩
  have h2 : cs.toList = a.cells := by simpa [Value.cells] using hcs
  show Value.agg cs = Value.agg a.cells.toArray
  rw [← h2]
end
end Go.Proofs.YtpjilcfmcbapcaaDoor
