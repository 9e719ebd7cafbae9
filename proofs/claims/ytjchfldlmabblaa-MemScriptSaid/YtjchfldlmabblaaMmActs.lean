/- An argument of acts, opened. -/
import Derived.Test.YtjchfldlmabblaaMmMemD
import Derived.Deep.SlicePairs
import Derived.ChangeArms
import Derived.ChangeShapes
namespace Go.Proofs.Ytjchfldlmabblaa
open Go.RowKit Go.Maps Go.WideShapes Go.ChangeShapes Go.Deep
set_option linter.unusedVariables false
set_option linter.unusedSimpArgs false

structure Ax where
  d : Int
  z : Int
  ca : Option Addr
  cn : Nat
  cc : Nat
  cl : List Ck
  p : Vl
  q : Vl
  v : Vl
  t : ByteArray
  y : Int
def Ax.cells (x : Ax) : List Value := [.int .i64 x.d, .int .i64 x.z, .slice x.ca x.cn x.cc, .int .i64 x.p.k, .int .i64 x.p.n, .int .i64 x.p.b, .int .i64 x.p.o, .int .i64 x.q.k, .int .i64 x.q.n, .int .i64 x.q.b, .int .i64 x.q.o, .int .i64 x.v.k, .int .i64 x.v.n, .int .i64 x.v.b, .int .i64 x.v.o, .string x.t, .int .i64 x.y]
structure AxOk (W : World) (x : Ax) : Prop where
  d : I64 x.d
  z : I64 x.z
  c : CellsIn W x.ca x.cn x.cl
  cn : x.cn ≤ x.cc ∧ x.cc ≤ maxLen
  p : vlOk x.p
  q : vlOk x.q
  v : vlOk x.v
  t : x.t.size ≤ maxLen
  y : I64 x.y
/-- A row of acts. -/
structure ActsIn (W : World) (a : Option Addr) (n : Nat) (L : List Ax) : Prop where
  len : L.length = n
  ok : ∀ x ∈ L, AxOk W x
  at_ : 0 < n → ∃ b off, a = some ⟨b, off, none⟩ ∧ ∀ (i : Nat) (x : Ax), L[i]? = some x → ∀ (j : Nat) (u : Value), x.cells[j]? = some u → W.cell? ⟨b, off + i * 17 + j, none⟩ = some u
theorem cells_act : Try.prog.cellsOf 32 = 17 := by kernel_rfl
theorem cells_val : Try.prog.cellsOf 30 = 4 := by kernel_rfl
theorem cells_cell : Try.prog.cellsOf 35 = 2 := by kernel_rfl
theorem cells_slc : Try.prog.cellsOf 28 = 1 := by kernel_rfl
theorem cells_i : Try.prog.cellsOf 3 = 1 := by kernel_rfl
theorem cells_i64 : Try.prog.cellsOf 2 = 1 := by kernel_rfl
theorem cells_str : Try.prog.cellsOf 9 = 1 := by kernel_rfl
theorem i64_wf {z : Int} (h : (Lit.int .i64 z).wf = true) : I64 z := by
  have h1 : IntKind.i64.min = -9223372036854775808 := rfl
  have h2 : IntKind.i64.max = 9223372036854775807 := rfl
  simp [Lit.wf] at h
  unfold I64; omega
section
variable {H : Type} {enc : TypeId × Value → H} {W : World} {fuel : Nat}
theorem open_i {t : TypeId} (ht : Try.prog.underlying t = some (.int .i64)) {c : Value} {x : DataW H × List MemPlace} (h : DataW.trod enc Try.prog W 0 (fun _ => true) true fuel t [c] = some x) : ∃ z, c = .int .i64 z ∧ I64 z := by
  obtain ⟨z, e, _, w⟩ := DataW.trod_int ht h
  injection e with e
  exact ⟨z, e, i64_wf w⟩
theorem some_of {α : Type} {l : List α} {i : Nat} {o : Option α} (h : o = l[i]?) (hi : i < l.length) : ∃ y, o = some y := ⟨_, h.trans (List.getElem?_eq_getElem hi)⟩
theorem open_val {c0 c1 c2 c3 : Value} {x : DataW H × List MemPlace} (h : DataW.trod enc Try.prog W 0 (fun _ => true) true fuel 30 [c0, c1, c2, c3] = some x) :
    ∃ v : Vl, vlOk v ∧ c0 = .int .i64 v.k ∧ c1 = .int .i64 v.n ∧ c2 = .int .i64 v.b ∧ c3 = .int .i64 v.o := by
  obtain ⟨xs, n, _, _, _, hxl, hf⟩ := DataW.trod_struct Try.underlying30 h
  obtain ⟨y0, g0⟩ := some_of (hf 0 _ rfl) (by rw [hxl]; decide)
  obtain ⟨y1, g1⟩ := some_of (hf 1 _ rfl) (by rw [hxl]; decide)
  obtain ⟨y2, g2⟩ := some_of (hf 2 _ rfl) (by rw [hxl]; decide)
  obtain ⟨y3, g3⟩ := some_of (hf 3 _ rfl) (by rw [hxl]; decide)
  simp [cells_i, cells_i64] at g0 g1 g2 g3
  obtain ⟨z0, rfl, w0⟩ := open_i Try.underlying3 g0
  obtain ⟨z1, rfl, w1⟩ := open_i Try.underlying2 g1
  obtain ⟨z2, rfl, w2⟩ := open_i Try.underlying3 g2
  obtain ⟨z3, rfl, w3⟩ := open_i Try.underlying3 g3
  exact ⟨⟨z0, z1, z2, z3⟩, ⟨w0, w1, w2, w3⟩, rfl, rfl, rfl, rfl⟩
theorem open_cells {c : Value} {x : DataW H × List MemPlace} (h : DataW.trod enc Try.prog W 0 (fun _ => true) true fuel 28 [c] = some x) :
    ∃ (a : Option Addr) (n cap : Nat) (l : List Ck), c = .slice a n cap ∧ CellsIn W a n l ∧ n ≤ cap ∧ cap ≤ maxLen := by
  rcases open_slice_pairs Try.underlying28 Try.underlying35 cells_cell rfl rfl cells_i cells_str h with ⟨hcs, hx⟩ | ⟨a, len, cap, m, n, V0, V1, D0, D1, P0, P1, hcs, _, hl, hm, hmm, hx, hall⟩
  · injection hcs with hcs
    exact ⟨none, 0, 0, [], hcs, ⟨rfl, (fun c h => by cases h), fun h => by omega⟩, Nat.le_refl _, Nat.zero_le _⟩
  · injection hcs with hcs
    rw [if_pos rfl] at hmm
    subst hmm
    have hz : ∀ i, i < len → ∃ t : Ck, W.cell? (a.add (i * 2)) = some (.int .i64 t.1) ∧ W.cell? (a.add (i * 2 + 1)) = some (.string t.2) ∧ ckOk t := fun i hi => by
      obtain ⟨c0, c1, t0, t1⟩ := hall i (by omega)
      obtain ⟨z0, e0, w0⟩ := open_i Try.underlying3 t0
      obtain ⟨z1, e1, _, w1⟩ := DataW.trod_string Try.underlying9 t1
      injection e1 with e1
      rw [e0] at c0; rw [e1] at c1
      exact ⟨(z0, z1), c0, c1, w0, w1⟩
    obtain ⟨q, hq⟩ := choose_lt hz
    refine ⟨some a, len, m, (List.range len).map q, hcs, ⟨by simp, fun t ht => ?_, fun hn => ?_⟩, hl, hm⟩
    · obtain ⟨i, hi, rfl⟩ := List.mem_map.1 ht
      exact (hq i (List.mem_range.1 hi)).2.2
    · obtain ⟨b, off, spot⟩ := a
      have hspot : spot = none := by simpa [Addr.add] using World.cell?_spot (hq 0 hn).1
      subst hspot
      refine ⟨b, off, rfl, fun i t ht => ?_⟩
      have hi : i < len := by have := (List.getElem?_eq_some_iff.1 ht).1; simpa using this
      have he : t = q i := by rw [List.getElem?_map, List.getElem?_range hi] at ht; simpa using ht.symm
      subst he
      obtain ⟨c0, c1, _⟩ := hq i hi
      rw [add_plain] at c0 c1
      exact ⟨c0, by rw [← Nat.add_assoc] at c1; exact c1⟩
set_option maxRecDepth 10000 in
theorem open_act {cs : List Value} {x : DataW H × List MemPlace} (h : DataW.trod enc Try.prog W 0 (fun _ => true) true fuel 32 cs = some x) : ∃ a : Ax, AxOk W a ∧ cs = a.cells := by
  obtain ⟨xs, n, _, _, hcl, hxl, hf⟩ := DataW.trod_struct Try.underlying32 h
  rw [cells_act] at hcl
  match cs, hcl with
  | [a0, a1, a2, a3, a4, a5, a6, a7, a8, a9, a10, a11, a12, a13, a14, a15, a16], _ =>
    obtain ⟨y0, g0⟩ := some_of (hf 0 _ rfl) (by rw [hxl]; decide)
    obtain ⟨y1, g1⟩ := some_of (hf 1 _ rfl) (by rw [hxl]; decide)
    obtain ⟨y2, g2⟩ := some_of (hf 2 _ rfl) (by rw [hxl]; decide)
    obtain ⟨y3, g3⟩ := some_of (hf 3 _ rfl) (by rw [hxl]; decide)
    obtain ⟨y4, g4⟩ := some_of (hf 4 _ rfl) (by rw [hxl]; decide)
    obtain ⟨y5, g5⟩ := some_of (hf 5 _ rfl) (by rw [hxl]; decide)
    obtain ⟨y6, g6⟩ := some_of (hf 6 _ rfl) (by rw [hxl]; decide)
    obtain ⟨y7, g7⟩ := some_of (hf 7 _ rfl) (by rw [hxl]; decide)
    simp [cells_i, cells_i64, cells_str, cells_slc, cells_val] at g0 g1 g2 g3 g4 g5 g6 g7
    obtain ⟨z0, rfl, w0⟩ := open_i Try.underlying3 g0
    obtain ⟨z1, rfl, w1⟩ := open_i Try.underlying3 g1
    obtain ⟨ca, cn, cc, cl, rfl, w2, w2', w2''⟩ := open_cells g2
    obtain ⟨p, w3, rfl, rfl, rfl, rfl⟩ := open_val g3
    obtain ⟨q, w4, rfl, rfl, rfl, rfl⟩ := open_val g4
    obtain ⟨v, w5, rfl, rfl, rfl, rfl⟩ := open_val g5
    obtain ⟨t, e6, _, w6⟩ := DataW.trod_string Try.underlying9 g6
    injection e6 with e6
    subst e6
    obtain ⟨z7, rfl, w7⟩ := open_i Try.underlying2 g7
    exact ⟨⟨z0, z1, ca, cn, cc, cl, p, q, v, t, z7⟩, ⟨w0, w1, w2, ⟨w2', w2''⟩, w3, w4, w5, w6, w7⟩, rfl⟩
theorem open_acts {a0 : Option Addr} {len cap : Nat} {x : DataW H × List MemPlace}
    (h : DataW.trod enc Try.prog W 0 (fun _ => true) true fuel 22 [.slice a0 len cap] = some x) :
    ∃ L, ActsIn W a0 len L ∧ (a0 = none → len = 0 ∧ cap = 0) ∧ len ≤ 9223372036854775807 := by
  rcases open_slice Try.underlying22 h with ⟨hcs, hx⟩ | ⟨a, len', cap', m, n, D, Pl, hcs, _, hl, hm, hmm, hx, hall⟩
  · simp at hcs
    obtain ⟨rfl, rfl, rfl⟩ := hcs
    exact ⟨[], ⟨rfl, (fun c h => by cases h), fun h => by omega⟩, fun _ => ⟨rfl, rfl⟩, by omega⟩
  · simp only [List.cons.injEq, Value.slice.injEq, and_true] at hcs
    obtain ⟨rfl, rfl, rfl⟩ := hcs
    rw [if_pos rfl] at hmm
    subst hmm
    have hz : ∀ i, i < len → ∃ t : Ax, AxOk W t ∧ ∀ (j : Nat) (u : Value), t.cells[j]? = some u → W.cell? ((a.add (i * 17)).add j) = some u := fun i hi => by
      obtain ⟨cs', h1, h2⟩ := hall i (by omega)
      obtain ⟨t, ht, rfl⟩ := open_act h2
      rw [cells_act] at h1
      obtain ⟨_, hlen, hcell⟩ := World.cells?_some h1
      exact ⟨t, ht, fun j u hj => (hcell j (by have := (List.getElem?_eq_some_iff.1 hj).1; rw [hlen] at this; exact this)).trans hj⟩
    have : Inhabited Ax := ⟨⟨0, 0, none, 0, 0, [], ⟨0, 0, 0, 0⟩, ⟨0, 0, 0, 0⟩, ⟨0, 0, 0, 0⟩, ⟨#[]⟩, 0⟩⟩
    obtain ⟨q, hq⟩ := choose_lt hz
    refine ⟨(List.range len).map q, ⟨by simp, fun t ht => ?_, fun hn => ?_⟩, fun e => (by cases e), by unfold maxLen at hm; omega⟩
    · obtain ⟨i, hi, rfl⟩ := List.mem_map.1 ht
      exact (hq i (List.mem_range.1 hi)).1
    · obtain ⟨b, off, spot⟩ := a
      have hspot : spot = none := by simpa [Addr.add] using World.cell?_spot ((hq 0 hn).2 0 _ rfl)
      subst hspot
      refine ⟨b, off, rfl, fun i t ht j u hu => ?_⟩
      have hi : i < len := by have := (List.getElem?_eq_some_iff.1 ht).1; simpa using this
      have he : t = q i := by rw [List.getElem?_map, List.getElem?_range hi] at ht; simpa using ht.symm
      subst he
      have := (hq i hi).2 j u hu
      rw [add_plain, add_plain] at this
      exact this
end
end Go.Proofs.Ytjchfldlmabblaa
