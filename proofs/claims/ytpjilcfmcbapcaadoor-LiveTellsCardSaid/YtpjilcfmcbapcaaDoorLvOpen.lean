/- An argument that is a function, opened. -/
import Derived.Test.YtpjilcfmcbapcaaDoorIrOpen
import Derived.Test.YtpjilcfmcbapcaaDoorIrP
namespace Go.Proofs.YtpjilcfmcbapcaaDoor
open Go.RowKit Go.Maps Go.WideShapes Go.ChangeShapes Go.Deep
set_option linter.unusedVariables false
set_option linter.unusedSimpArgs false

abbrev fv (f : Fx) : Value := .agg #[.string f.name, .int .i64 f.params, .int .i64 f.regs, f.slots.v, .slice f.ba f.bn f.bc, .bool f.value]

theorem cells_blk : Tryd.prog.cellsOf 30 = 1 := by kernel_rfl
theorem cells_fn : Tryd.prog.cellsOf 25 = 6 := by kernel_rfl
theorem cells_str : Tryd.prog.cellsOf 9 = 1 := by kernel_rfl
theorem cells_sins : Tryd.prog.cellsOf 28 = 1 := by kernel_rfl
theorem cells_sblk : Tryd.prog.cellsOf 23 = 1 := by kernel_rfl
section
variable {H : Type} {enc : TypeId × Value → H} {W : World} {fuel : Nat}
/-- A slice of structs, opened. -/
theorem open_structs {α : Type} (dflt : α) (P : α → Prop) (cellsA : α → List Value) (hpos : ∀ x, 0 < (cellsA x).length) {s t : TypeId} (K : Nat) (hs : Tryd.prog.underlying s = some (.slice t)) (hK : Tryd.prog.cellsOf t = K)
    (one : ∀ {fuel : Nat} {cs : List Value} {x : DataW H × List MemPlace}, DataW.trod enc Tryd.prog W 0 (fun _ => true) true fuel t cs = some x → ∃ a : α, P a ∧ cs = cellsA a)
    {c : Value} {x : DataW H × List MemPlace} (h : DataW.trod enc Tryd.prog W 0 (fun _ => true) true fuel s [c] = some x) :
    ∃ (a : Option Addr) (n cap : Nat) (L : List α), c = .slice a n cap ∧ L.length = n ∧ (n ≤ cap ∧ cap ≤ maxLen) ∧ (∀ x ∈ L, P x) ∧ (0 < n → ∃ b off, a = some ⟨b, off, none⟩ ∧ ∀ (i : Nat) (x : α), L[i]? = some x → ∀ (j : Nat) (u : Value), (cellsA x)[j]? = some u → W.cell? ⟨b, off + i * K + j, none⟩ = some u) := by
  rcases open_slice hs h with ⟨hcs, hx⟩ | ⟨a, len, cap, m, n, D, Pl, hcs, _, hl, hm, hmm, hx, hall⟩
  · injection hcs with hcs
    exact ⟨none, 0, 0, [], hcs, rfl, ⟨Nat.le_refl _, Nat.zero_le _⟩, (fun c h => by cases h), fun h => by omega⟩
  · injection hcs with hcs
    rw [if_pos rfl] at hmm
    subst hmm
    have hz : ∀ i, i < len → ∃ t : α, P t ∧ ∀ (j : Nat) (u : Value), (cellsA t)[j]? = some u → W.cell? ((a.add (i * K)).add j) = some u := fun i hi => by
      obtain ⟨cs', h1, h2⟩ := hall i (by omega)
      obtain ⟨t, ht, rfl⟩ := one h2
      rw [hK] at h1
      obtain ⟨_, hlen, hcell⟩ := World.cells?_some h1
      exact ⟨t, ht, fun j u hj => (hcell j (by have := (List.getElem?_eq_some_iff.1 hj).1; rw [hlen] at this; exact this)).trans hj⟩
    have : Inhabited α := ⟨dflt⟩
    obtain ⟨q, hq⟩ := choose_lt hz
    refine ⟨some a, len, m, (List.range len).map q, hcs, by simp, ⟨hl, hm⟩, fun t ht => ?_, fun hn => ?_⟩
    · obtain ⟨i, hi, rfl⟩ := List.mem_map.1 ht
      exact (hq i (List.mem_range.1 hi)).1
    · obtain ⟨b, off, spot⟩ := a
      have hspot : spot = none := by
        obtain ⟨u, hu⟩ : ∃ u, (cellsA (q 0))[0]? = some u := ⟨_, List.getElem?_eq_getElem (hpos _)⟩
        simpa [Addr.add] using World.cell?_spot ((hq 0 hn).2 0 u hu)
      subst hspot
      refine ⟨b, off, rfl, fun i t ht j u hj => ?_⟩
      have hi : i < len := by have := (List.getElem?_eq_some_iff.1 ht).1; simpa using this
      have he : t = q i := by rw [List.getElem?_map, List.getElem?_range hi] at ht; simpa using ht.symm
      subst he
      have c0 := (hq i hi).2 j u hj
      rw [add_plain, add_plain] at c0
      exact c0
set_option maxRecDepth 10000 in
theorem open_blk {fuel : Nat} {cs : List Value} {x : DataW H × List MemPlace} (h : DataW.trod enc Tryd.prog W 0 (fun _ => true) true fuel 30 cs = some x) : ∃ a : Bx, BxAt W a ∧ cs = [a.v] := by
  obtain ⟨xs, n, _, _, hcl, hxl, hf⟩ := DataW.trod_struct Tryd.underlying30 h
  rw [cells_blk] at hcl
  match cs, hcl with
  | [a0], _ =>
    obtain ⟨y0, g0⟩ := some_of (hf 0 _ rfl) (by rw [hxl]; decide)
    simp [cells_sins] at g0
    obtain ⟨a, n, cap, L, rfl, hl, hc, hok, hat⟩ := open_structs (⟨0, 0, 0, 0, 0, 0, 0, false, ⟨none, 0, 0, []⟩, ⟨none, 0, 0, []⟩, ⟨none, 0, 0, []⟩⟩ : Ix) (IxOk W) Ix.cells (fun _ => Nat.zero_lt_succ _) 11 Tryd.underlying28 cells_ins open_ins g0
    refine ⟨⟨a, n, cap, L⟩, ⟨hl, hc, hok, fun hn => ?_⟩, rfl⟩
    obtain ⟨b, off, e, hcell⟩ := hat hn
    exact ⟨b, off, e, fun k i hk j v hj => hcell k i hk j v hj⟩
set_option maxRecDepth 10000 in
theorem open_fn {fuel : Nat} {cs : List Value} {x : DataW H × List MemPlace} (h : DataW.trod enc Tryd.prog W 0 (fun _ => true) true fuel 25 cs = some x) : ∃ a : Fx, FxOk W a ∧ cs = a.cells := by
  obtain ⟨xs, n, _, _, hcl, hxl, hf⟩ := DataW.trod_struct Tryd.underlying25 h
  rw [cells_fn] at hcl
  match cs, hcl with
  | [a0, a1, a2, a3, a4, a5], _ =>
    obtain ⟨y0, g0⟩ := some_of (hf 0 _ rfl) (by rw [hxl]; decide)
    obtain ⟨y1, g1⟩ := some_of (hf 1 _ rfl) (by rw [hxl]; decide)
    obtain ⟨y2, g2⟩ := some_of (hf 2 _ rfl) (by rw [hxl]; decide)
    obtain ⟨y3, g3⟩ := some_of (hf 3 _ rfl) (by rw [hxl]; decide)
    obtain ⟨y4, g4⟩ := some_of (hf 4 _ rfl) (by rw [hxl]; decide)
    obtain ⟨y5, g5⟩ := some_of (hf 5 _ rfl) (by rw [hxl]; decide)
    simp [cells_str, cells_i, cells_si, cells_sblk, cells_b] at g0 g1 g2 g3 g4 g5
    obtain ⟨t, e0, _, w0⟩ := DataW.trod_string Tryd.underlying9 g0
    injection e0 with e0
    subst e0
    obtain ⟨z1, rfl, w1⟩ := open_i Tryd.underlying3 g1
    obtain ⟨z2, rfl, w2⟩ := open_i Tryd.underlying3 g2
    obtain ⟨q3, w3, rfl⟩ := open_row Tryd.underlying22 Tryd.underlying3 cells_i g3
    obtain ⟨a, n, cap, L, rfl, hl, hc, hok, hat⟩ := open_structs (⟨none, 0, 0, []⟩ : Bx) (BxAt W) (fun b => [b.v]) (fun _ => Nat.zero_lt_succ _) 1 Tryd.underlying23 cells_blk open_blk g4
    obtain ⟨s, e5, _⟩ := DataW.trod_bool Tryd.underlying4 g5
    injection e5 with e5
    subst e5
    refine ⟨⟨t, z1, z2, q3, a, n, cap, L, s⟩, ⟨w0, w1, w2, w3, hl, hc, hok, fun hn => ?_⟩, rfl⟩
    obtain ⟨b, off, e, hcell⟩ := hat hn
    exact ⟨b, off, e, fun k x hk => by have := hcell k x hk 0 _ rfl; rw [Nat.mul_one, Nat.add_zero] at this; exact this⟩
set_option maxRecDepth 100000 in
theorem open_fn_arg {r : Reach} {b0 : Nat} {v : Value} {d : DataW H} {p : List MemPlace} (hv : Value.okWide Tryd.prog W r b0 25 v) (h : DataW.Trod enc Tryd.prog W 0 (fun _ => true) true 25 v d p) : ∃ q : Fx, FxOk W q ∧ v = fv q := by
  obtain ⟨cs, rfl, hsz⟩ := okWide_struct Tryd.underlying25 hv
  obtain ⟨fuel, hf⟩ := h
  rw [cells_fn] at hsz
  obtain ⟨a, ha, hcs⟩ := open_fn hf
  refine ⟨a, ha, ?_⟩
  have h2 : cs.toList = a.cells := by simpa [Value.cells] using hcs
  show Value.agg cs = Value.agg a.cells.toArray
  rw [← h2]
end
end Go.Proofs.YtpjilcfmcbapcaaDoor
