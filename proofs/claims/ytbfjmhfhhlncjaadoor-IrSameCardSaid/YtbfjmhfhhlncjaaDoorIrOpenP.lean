/- An argument that is a program, or a function, opened. -/
import Derived.Test.YtbfjmhfhhlncjaaDoorIrOpen
import Derived.Test.YtbfjmhfhhlncjaaDoorIrP
import Derived.Test.YtbfjmhfhhlncjaaDoorIrRuns
import Derived.Test.YtbfjmhfhhlncjaaDoorIrCopies
namespace Go.Proofs.YtbfjmhfhhlncjaaDoor
open Go.RowKit Go.Maps Go.WideShapes Go.ChangeShapes Go.Deep
set_option linter.unusedVariables false
set_option linter.unusedSimpArgs false

theorem cells_blk : Tryd.prog.cellsOf 45 = 1 := by kernel_rfl
theorem cells_fn : Tryd.prog.cellsOf 42 = 6 := by kernel_rfl
theorem cells_pc : Tryd.prog.cellsOf 51 = 4 := by kernel_rfl
theorem cells_gl : Tryd.prog.cellsOf 49 = 3 := by kernel_rfl
theorem cells_pg : Tryd.prog.cellsOf 36 = 3 := by kernel_rfl
theorem cells_str : Tryd.prog.cellsOf 9 = 1 := by kernel_rfl
theorem cells_sins : Tryd.prog.cellsOf 43 = 1 := by kernel_rfl
theorem cells_sblk : Tryd.prog.cellsOf 40 = 1 := by kernel_rfl
theorem cells_sfn : Tryd.prog.cellsOf 34 = 1 := by kernel_rfl
theorem cells_spc : Tryd.prog.cellsOf 47 = 1 := by kernel_rfl
theorem cells_sgl : Tryd.prog.cellsOf 33 = 1 := by kernel_rfl
section
variable {H : Type} {enc : TypeId × Value → H} {W : World} {fuel : Nat}
/-- A slice of structs, opened. -/
theorem open_structs {α : Type} (dflt : α) (P : α → Prop) (cellsA : α → List Value) (hpos : ∀ x, 0 < (cellsA x).length) {s t : TypeId} (K : Nat) (hs : Tryd.prog.underlying s = some (.slice t)) (hK : Tryd.prog.cellsOf t = K)
    (one : ∀ {fuel : Nat} {cs : List Value} {x : DataW H × List MemPlace}, DataW.trod enc Tryd.prog W 0 (fun _ => true) true fuel t cs = some x → ∃ a : α, P a ∧ cs = cellsA a)
    {c : Value} {x : DataW H × List MemPlace} (h : DataW.trod enc Tryd.prog W 0 (fun _ => true) true fuel s [c] = some x) :
    ∃ (a : Option Addr) (n cap : Nat) (L : List α), c = .slice a n cap ∧ L.length = n ∧ (n ≤ cap ∧ cap ≤ maxLen) ∧ (∀ x ∈ L, P x) ∧ (0 < n → ∃ b off, a = some ⟨b, off, none⟩ ∧ ∀ (i : Nat) (x : α), L[i]? = some x → ∀ (j : Nat) (u : Value), (cellsA x)[j]? = some u → W.cell? ⟨b, off + i * K + j, none⟩ = some u) := by
  rcases open_slice hs h with ⟨hcs, hx⟩ | ⟨a, len, cap, m, n, D, Pl, hcs, _, hl, hm, hmm, hx, hall⟩
  · injection hcs with hcs
    exact ⟨none, 0, 0, [], hcs, rfl, ⟨Nat.le_refl _, Nat.zero_le _⟩, (fun c h => by cases h), fun h => by omega⟩
  · injection hcs with hcs
    rw [if_pos rfl] at hmm
    subst hmm
    have hz : ∀ i, i < len → ∃ t : α, P t ∧ ∀ (j : Nat) (u : Value), (cellsA t)[j]? = some u → W.cell? ((a.add (i * K)).add j) = some u := fun i hi => by
      obtain ⟨cs', h1, h2⟩ := hall i (by omega)
      obtain ⟨t, ht, rfl⟩ := one h2
      rw [hK] at h1
      obtain ⟨_, hlen, hcell⟩ := World.cells?_some h1
      exact ⟨t, ht, fun j u hj => (hcell j (by have := (List.getElem?_eq_some_iff.1 hj).1; rw [hlen] at this; exact this)).trans hj⟩
    have : Inhabited α := ⟨dflt⟩
    obtain ⟨q, hq⟩ := choose_lt hz
    refine ⟨some a, len, m, (List.range len).map q, hcs, by simp, ⟨hl, hm⟩, fun t ht => ?_, fun hn => ?_⟩
    · obtain ⟨i, hi, rfl⟩ := List.mem_map.1 ht
      exact (hq i (List.mem_range.1 hi)).1
    · obtain ⟨b, off, spot⟩ := a
      have hspot : spot = none := by
        obtain ⟨u, hu⟩ : ∃ u, (cellsA (q 0))[0]? = some u := ⟨_, List.getElem?_eq_getElem (hpos _)⟩
        simpa [Addr.add] using World.cell?_spot ((hq 0 hn).2 0 u hu)
      subst hspot
      refine ⟨b, off, rfl, fun i t ht j u hj => ?_⟩
      have hi : i < len := by have := (List.getElem?_eq_some_iff.1 ht).1; simpa using this
      have he : t = q i := by rw [List.getElem?_map, List.getElem?_range hi] at ht; simpa using ht.symm
      subst he
      have c0 := (hq i hi).2 j u hj
      rw [add_plain, add_plain] at c0
      exact c0
set_option maxRecDepth 10000 in
theorem open_blk {fuel : Nat} {cs : List Value} {x : DataW H × List MemPlace} (h : DataW.trod enc Tryd.prog W 0 (fun _ => true) true fuel 45 cs = some x) : ∃ a : Bx, BxAt W a ∧ cs = [a.v] := by
  obtain ⟨xs, n, _, _, hcl, hxl, hf⟩ := DataW.trod_struct Tryd.underlying45 h
  rw [cells_blk] at hcl
  match cs, hcl with
  | [a0], _ =>
    obtain ⟨y0, g0⟩ := some_of (hf 0 _ rfl) (by rw [hxl]; decide)
    simp [cells_sins] at g0
    obtain ⟨a, n, cap, L, rfl, hl, hc, hok, hat⟩ := open_structs (⟨0, 0, 0, 0, 0, 0, 0, false, ⟨none, 0, 0, []⟩, ⟨none, 0, 0, []⟩, ⟨none, 0, 0, []⟩⟩ : Ix) (IxOk W) Ix.cells (fun _ => Nat.zero_lt_succ _) 11 Tryd.underlying43 cells_ins open_ins g0
    refine ⟨⟨a, n, cap, L⟩, ⟨hl, hc, hok, fun hn => ?_⟩, rfl⟩
    obtain ⟨b, off, e, hcell⟩ := hat hn
    exact ⟨b, off, e, fun k i hk j v hj => hcell k i hk j v hj⟩
set_option maxRecDepth 10000 in
theorem open_fn {fuel : Nat} {cs : List Value} {x : DataW H × List MemPlace} (h : DataW.trod enc Tryd.prog W 0 (fun _ => true) true fuel 42 cs = some x) : ∃ a : Fx, FxOk W a ∧ cs = a.cells := by
  obtain ⟨xs, n, _, _, hcl, hxl, hf⟩ := DataW.trod_struct Tryd.underlying42 h
  rw [cells_fn] at hcl
  match cs, hcl with
  | [a0, a1, a2, a3, a4, a5], _ =>
    obtain ⟨y0, g0⟩ := some_of (hf 0 _ rfl) (by rw [hxl]; decide)
    obtain ⟨y1, g1⟩ := some_of (hf 1 _ rfl) (by rw [hxl]; decide)
    obtain ⟨y2, g2⟩ := some_of (hf 2 _ rfl) (by rw [hxl]; decide)
    obtain ⟨y3, g3⟩ := some_of (hf 3 _ rfl) (by rw [hxl]; decide)
    obtain ⟨y4, g4⟩ := some_of (hf 4 _ rfl) (by rw [hxl]; decide)
    obtain ⟨y5, g5⟩ := some_of (hf 5 _ rfl) (by rw [hxl]; decide)
    simp [cells_str, cells_i, cells_si, cells_sblk, cells_b] at g0 g1 g2 g3 g4 g5
    obtain ⟨t, e0, _, w0⟩ := DataW.trod_string Tryd.underlying9 g0
    injection e0 with e0
    subst e0
    obtain ⟨z1, rfl, w1⟩ := open_i Tryd.underlying3 g1
    obtain ⟨z2, rfl, w2⟩ := open_i Tryd.underlying3 g2
    obtain ⟨q3, w3, rfl⟩ := open_row Tryd.underlying24 Tryd.underlying3 cells_i g3
    obtain ⟨a, n, cap, L, rfl, hl, hc, hok, hat⟩ := open_structs (⟨none, 0, 0, []⟩ : Bx) (BxAt W) (fun b => [b.v]) (fun _ => Nat.zero_lt_succ _) 1 Tryd.underlying40 cells_blk open_blk g4
    obtain ⟨s, e5, _⟩ := DataW.trod_bool Tryd.underlying4 g5
    injection e5 with e5
    subst e5
    refine ⟨⟨t, z1, z2, q3, a, n, cap, L, s⟩, ⟨w0, w1, w2, w3, hl, hc, hok, fun hn => ?_⟩, rfl⟩
    obtain ⟨b, off, e, hcell⟩ := hat hn
    exact ⟨b, off, e, fun k x hk => by have := hcell k x hk 0 _ rfl; rw [Nat.mul_one, Nat.add_zero] at this; exact this⟩
set_option maxRecDepth 10000 in
theorem open_pc {fuel : Nat} {cs : List Value} {x : DataW H × List MemPlace} (h : DataW.trod enc Tryd.prog W 0 (fun _ => true) true fuel 51 cs = some x) : ∃ a : Px, (I64 a.at_ ∧ I64 a.bytes ∧ I64 a.func ∧ I64 a.n) ∧ cs = a.cells := by
  obtain ⟨xs, n, _, _, hcl, hxl, hf⟩ := DataW.trod_struct Tryd.underlying51 h
  rw [cells_pc] at hcl
  match cs, hcl with
  | [a0, a1, a2, a3], _ =>
    obtain ⟨y0, g0⟩ := some_of (hf 0 _ rfl) (by rw [hxl]; decide)
    obtain ⟨y1, g1⟩ := some_of (hf 1 _ rfl) (by rw [hxl]; decide)
    obtain ⟨y2, g2⟩ := some_of (hf 2 _ rfl) (by rw [hxl]; decide)
    obtain ⟨y3, g3⟩ := some_of (hf 3 _ rfl) (by rw [hxl]; decide)
    simp [cells_i, cells_i64] at g0 g1 g2 g3
    obtain ⟨z0, rfl, w0⟩ := open_i Tryd.underlying3 g0
    obtain ⟨z1, rfl, w1⟩ := open_i Tryd.underlying3 g1
    obtain ⟨z2, rfl, w2⟩ := open_i Tryd.underlying3 g2
    obtain ⟨z3, rfl, w3⟩ := open_i Tryd.underlying2 g3
    exact ⟨⟨z0, z1, z2, z3⟩, ⟨w0, w1, w2, w3⟩, rfl⟩
set_option maxRecDepth 10000 in
theorem open_gl {fuel : Nat} {cs : List Value} {x : DataW H × List MemPlace} (h : DataW.trod enc Tryd.prog W 0 (fun _ => true) true fuel 49 cs = some x) : ∃ a : Gx, GxOk W a ∧ cs = a.cells := by
  obtain ⟨xs, n, _, _, hcl, hxl, hf⟩ := DataW.trod_struct Tryd.underlying49 h
  rw [cells_gl] at hcl
  match cs, hcl with
  | [a0, a1, a2], _ =>
    obtain ⟨y0, g0⟩ := some_of (hf 0 _ rfl) (by rw [hxl]; decide)
    obtain ⟨y1, g1⟩ := some_of (hf 1 _ rfl) (by rw [hxl]; decide)
    obtain ⟨y2, g2⟩ := some_of (hf 2 _ rfl) (by rw [hxl]; decide)
    simp [cells_str, cells_i, cells_spc] at g0 g1 g2
    obtain ⟨t, e0, _, w0⟩ := DataW.trod_string Tryd.underlying9 g0
    injection e0 with e0
    subst e0
    obtain ⟨z1, rfl, w1⟩ := open_i Tryd.underlying3 g1
    obtain ⟨a, n, cap, L, rfl, hl, hc, hok, hat⟩ := open_structs (⟨0, 0, 0, 0⟩ : Px) (fun a => I64 a.at_ ∧ I64 a.bytes ∧ I64 a.func ∧ I64 a.n) Px.cells (fun _ => Nat.zero_lt_succ _) 4 Tryd.underlying47 cells_pc open_pc g2
    exact ⟨⟨t, z1, a, n, cap, L⟩, ⟨w0, w1, hl, hc, hok, hat⟩, rfl⟩
set_option maxRecDepth 10000 in
theorem open_pg {fuel : Nat} {cs : List Value} {x : DataW H × List MemPlace} (h : DataW.trod enc Tryd.prog W 0 (fun _ => true) true fuel 36 cs = some x) : ∃ p : Pg, PgOk W p ∧ cs = p.cells := by
  obtain ⟨xs, n, _, _, hcl, hxl, hf⟩ := DataW.trod_struct Tryd.underlying36 h
  rw [cells_pg] at hcl
  match cs, hcl with
  | [a0, a1, a2], _ =>
    obtain ⟨y0, g0⟩ := some_of (hf 0 _ rfl) (by rw [hxl]; decide)
    obtain ⟨y1, g1⟩ := some_of (hf 1 _ rfl) (by rw [hxl]; decide)
    obtain ⟨y2, g2⟩ := some_of (hf 2 _ rfl) (by rw [hxl]; decide)
    simp [cells_i, cells_sfn, cells_sgl] at g0 g1 g2
    obtain ⟨ga, gn, gc, GL, rfl, gl, gcp, gok, gat⟩ := open_structs (⟨⟨#[]⟩, 0, none, 0, 0, []⟩ : Gx) (GxOk W) Gx.cells (fun _ => Nat.zero_lt_succ _) 3 Tryd.underlying33 cells_gl open_gl g0
    obtain ⟨fa, fn, fc, FL, rfl, fl, fcp, fok, fat⟩ := open_structs (⟨⟨#[]⟩, 0, 0, ⟨none, 0, 0, []⟩, none, 0, 0, [], false⟩ : Fx) (FxOk W) Fx.cells (fun _ => Nat.zero_lt_succ _) 6 Tryd.underlying34 cells_fn open_fn g1
    obtain ⟨z2, rfl, w2⟩ := open_i Tryd.underlying3 g2
    exact ⟨⟨ga, gn, gc, GL, fa, fn, fc, FL, z2⟩, ⟨w2, gl, gcp, gok, gat, fl, fcp, fok, fat⟩, rfl⟩
set_option maxRecDepth 100000 in
theorem open_pg_arg {r : Reach} {b0 : Nat} {v : Value} {d : DataW H} {p : List MemPlace} (hv : Value.okWide Tryd.prog W r b0 36 v) (h : DataW.Trod enc Tryd.prog W 0 (fun _ => true) true 36 v d p) : ∃ q : Pg, PgOk W q ∧ v = pv q := by
  obtain ⟨cs, rfl, hsz⟩ := okWide_struct Tryd.underlying36 hv
  obtain ⟨fuel, hf⟩ := h
  rw [cells_pg] at hsz
  obtain ⟨a, ha, hcs⟩ := open_pg hf
  refine ⟨a, ha, ?_⟩
  have h2 : cs.toList = a.cells := by simpa [Value.cells] using hcs
  show Value.agg cs = Value.agg a.cells.toArray
  rw [← h2]
set_option maxRecDepth 100000 in
theorem open_fn_arg {r : Reach} {b0 : Nat} {v : Value} {d : DataW H} {p : List MemPlace} (hv : Value.okWide Tryd.prog W r b0 42 v) (h : DataW.Trod enc Tryd.prog W 0 (fun _ => true) true 42 v d p) : ∃ q : Fx, FxOk W q ∧ v = fv q := by
  obtain ⟨cs, rfl, hsz⟩ := okWide_struct Tryd.underlying42 hv
  obtain ⟨fuel, hf⟩ := h
  rw [cells_fn] at hsz
  obtain ⟨a, ha, hcs⟩ := open_fn hf
  refine ⟨a, ha, ?_⟩
  have h2 : cs.toList = a.cells := by simpa [Value.cells] using hcs
  show Value.agg cs = Value.agg a.cells.toArray
  rw [← h2]
end
end Go.Proofs.YtbfjmhfhhlncjaaDoor
