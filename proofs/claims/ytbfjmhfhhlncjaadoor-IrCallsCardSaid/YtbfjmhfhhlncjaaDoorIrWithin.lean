/- A call ends: leave, and answer behind it; a branch. -/
import Derived.Test.YtbfjmhfhhlncjaaDoorIrRuns
import Derived.Test.YtbfjmhfhhlncjaaDoorFr
import Derived.ArgAppend
namespace Go.Proofs.YtbfjmhfhhlncjaaDoor
open Go.RowKit
set_option linter.unusedVariables false
set_option linter.unusedSimpArgs false

theorem own_take {w : World} {B z n g cap : Nat} {e : TypeId} {xs : List Value} (h : w.ownsRow B e z (.slice (some ⟨g, 0, none⟩) n cap) n xs) (m : Nat) (hm : m ≤ n) : w.ownsRow B e z (.slice (some ⟨g, 0, none⟩) m cap) m (xs.take (m * z)) := by
  rcases h.2 with ⟨e1, _⟩ | ⟨g', cap', cur, e1, hB, hg, h1, h2, h3, h4⟩
  · cases e1
  · injection e1 with e1 _ e2
    injection e1 with e1
    injection e1 with e1 _ _
    subst e1; subst e2
    have hl := h.1
    have hmz : m * z ≤ n * z := Nat.mul_le_mul_right z hm
    refine ⟨by rw [List.length_take, hl]; exact Nat.min_eq_left hmz, .inr ⟨g, cap, cur, rfl, hB, hg, by omega, h2, h3, ?_⟩⟩
    rw [← h4, List.take_take, Nat.min_eq_left hmz]
theorem frow_take (X : Sx) (l : List Fr1) (m : Nat) (hm : m ≤ l.length) : (frow X l).take (m * 8) = frow X (l.take m) := by
  have e : frow X l = frow X (l.take m) ++ frow X (l.drop m) := by unfold frow; rw [← List.flatMap_append, List.take_append_drop]
  rw [e, List.take_append_of_le_length (by rw [frow_len, List.length_take]; omega), List.take_of_length_le (by rw [frow_len, List.length_take]; omega)]
section
variable {X : Sx} {w w' : World} {c : Cs} {s : St}
/-- Fewer frames, fewer registers. -/
theorem MAt.cut2 (h : MAt X w c s) {g cap n : Nat} (hg : c.fs = .slice (some ⟨g, 0, none⟩) n cap) (hn : s.fs.length = n) (m : Nat) (hm : m ≤ n) {g2 cap2 n2 : Nat} (hg2 : c.rg = .slice (some ⟨g2, 0, none⟩) n2 cap2) (hn2 : s.rg.length = n2) (m2 : Nat) (hm2 : m2 ≤ n2)
    (hk : Keeps (fun q => q = X.M) w w') (hrow : w'.heap[X.M]? = some (.cells (mcells X { c with fs := .slice (some ⟨g, 0, none⟩) m cap, rg := .slice (some ⟨g2, 0, none⟩) m2 cap2 } s) 84 (0, 0))) :
    MAt X w' { c with fs := .slice (some ⟨g, 0, none⟩) m cap, rg := .slice (some ⟨g2, 0, none⟩) m2 cap2 } { s with fs := s.fs.take m, rg := s.rg.take m2 } := by
  subst hn; subst hn2
  have R := h.rows
  have hq : c.fs.ownBlock = some g := by rw [hg]; rfl
  have hq2 : c.rg.ownBlock = some g2 := by rw [hg2]; rfl
  have nM : ∀ {B z n : Nat} {e : TypeId} {v : Value} {xs : List Value}, w.ownsRow B e z v n xs → 84 ≠ e → ∀ q, v.ownBlock = some q → ¬ q = X.M := fun ho h1 q hq hc => own_ne ho h.row h1 (by rw [hq, hc])
  have hf := R.f
  have hr := R.r
  have kf := keeps_row R.f hk (nM R.f (by decide))
  have kr := keeps_row R.r hk (nM R.r (by decide))
  rw [hg] at kf
  rw [hg2] at kr
  have tf := own_take kf m hm
  have tr := own_take kr m2 hm2
  rw [frow_take X s.fs m hm] at tf
  rw [Nat.mul_one, show (irow s.rg).take m2 = irow (s.rg.take m2) by unfold irow; rw [List.map_take]] at tr
  refine ⟨hrow, ⟨?_, ?_, keeps_row R.o hk (nM R.o (by decide)), keeps_row R.t hk (nM R.t (by decide)), keeps_row R.k hk (nM R.k (by decide)), ?_, ?_, ?_, ?_, R.no, R.nt, R.nk, R.d1, R.d2, R.d3⟩, h.hM, h.fx⟩
  · rw [show (s.fs.take m).length = m by rw [List.length_take]; omega]; exact tf
  · rw [show (s.rg.take m2).length = m2 by rw [List.length_take]; omega]; exact tr
  · refine ⟨hk.os.trans R.k0.os, hk.tape.trans R.k0.tape, hk.output.trans R.k0.output, Nat.le_trans R.k0.size hk.size, fun k hk' _ => (hk.block k (Nat.lt_of_lt_of_le hk' R.k0.size) (fun e => ?_)).trans (R.k0.block k hk' (fun e => e))⟩
    have := h.hM.1; subst e; exact absurd hk' (Nat.not_lt.2 this)
  · exact R.k1.trans hk (fun q _ e => by subst e; exact h.hM)
  · intro q hq'; exact R.nf q (by rw [hq]; exact hq')
  · intro q hq'; exact R.nr q (by rw [hq2]; exact hq')
end
def fagg (X : Sx) (f : Fr1) : Value := .agg (fcells X f).toArray
def St.leave (s : St) (k : Nat) (f : Fr1) : St := { s with fs := s.fs.take k, rg := s.rg.take f.base }
set_option maxRecDepth 100000 in
set_option maxHeartbeats 6400000 in
theorem leave_any (X : Sx) (w : World) (c : Cs) (s : St) (h : MAt X w c s) (k : Nat) (f : Fr1) (hl : s.fs.length = k + 1) (hk : k ≤ 1000000) (hf : s.fs[k]? = some f) (hb : f.base ≤ s.rg.length) (hr0 : 0 < s.rg.length) (hr1 : s.rg.length ≤ 1000000) :
    Calls Tryd.prog 91 #[.pointer (some ⟨X.M, 0, none⟩)] w fun e w' => e = .returned (fagg X f) ∧ ∃ c', MAt X w' c' (s.leave k f) ∧ (∀ q, c'.rg.ownBlock = some q → c.rg.ownBlock = some q) ∧ Keeps (fun q => q = X.M) w w' := by
  obtain ⟨g, cap, e1, e2, e3⟩ := h.fform (by rw [hl]; omega)
  obtain ⟨rb, rc, r1, r2, r3⟩ := h.rform hr0
  obtain ⟨w0, hw0⟩ : ∃ W, w.alloc (.cells #[.pointer none, .int .i64 0, .int .i64 0, .int .i64 0, .int .i64 0, .int .i64 0, .int .i64 0, .int .i64 0] 104) = W := ⟨_, rfl⟩
  have h0 : MAt X w0 c s := by rw [← hw0]; exact h.alloc _
  have c1 : w0.cell? ⟨X.M, 1, none⟩ = some c.fs := h0.cell 1 _ rfl
  have d0 := h0.fcell e1 hf 0 _ rfl
  have d1 := h0.fcell e1 hf 1 _ rfl
  have d2 := h0.fcell e1 hf 2 _ rfl
  have d3 := h0.fcell e1 hf 3 _ rfl
  have d4 := h0.fcell e1 hf 4 _ rfl
  have d5 := h0.fcell e1 hf 5 _ rfl
  have d6 := h0.fcell e1 hf 6 _ rfl
  have d7 := h0.fcell e1 hf 7 _ rfl
  have h1 := h0.alloc (.cells #[.pointer (some ⟨X.fb, X.fo + f.fi * 6, none⟩), .int .i64 f.fi, .int .i64 f.bl, .int .i64 f.at_, .int .i64 f.base, .int .i64 f.top, .int .i64 f.low, .int .i64 f.d] 104)
  have b1 := h1.cell 1 c.fs rfl
  have f1 := h1.frozen 1
  rw [Nat.add_zero] at d0
  rw [hl] at e1 e2
  rw [e1] at c1 b1
  unfold maxLen at e3 r3
  have H1 := Lib.hid h1
  have HL := Lib.hid hl
  have HE := Lib.hid (And.intro e1 r1)
  have HW0 := Lib.hid hw0
  obtain ⟨rl, hrl⟩ : ∃ n, s.rg.length = n := ⟨_, rfl⟩
  have HRL := Lib.hid hrl
  rw [hrl] at hb hr0 hr1 r2
  have e1' : ((k : Int) + 1 - 1) = k := by omega
  have hMl : X.M < w.heap.size := (Array.getElem?_eq_some_iff.1 h.row).1
  have HMM := Lib.hid h
  clear h h0 h1 hf hl e1 r1 hrl
  go_enter Tryd.func91, Tryd.ntmps91
  go_upto_region 1 with fail
  clear hw0
  go_wp2_with fail
  obtain ⟨w1, hw1⟩ : ∃ W, ((w0.alloc (.cells #[.pointer (some ⟨X.fb, X.fo + f.fi * 6, none⟩), .int .i64 f.fi, .int .i64 f.bl, .int .i64 f.at_, .int .i64 f.base, .int .i64 f.top, .int .i64 f.low, .int .i64 f.d] 104)).setCell ⟨X.M, 1, none⟩ (.slice (some ⟨g, 0, none⟩) k cap)) = W := ⟨_, rfl⟩
  have hMl0 : X.M < w0.heap.size := by rw [← HW0.out]; simp; omega
  have hs0 : w0.heap.size = w.heap.size + 1 := by rw [← HW0.out]; simp
  have r1M : w1.heap[X.M]? = some (.cells ((mcells X c s).setIfInBounds 1 (.slice (some ⟨g, 0, none⟩) k cap)) 84 (0, 0)) := by rw [← hw1]; exact heap_setCell_same _ X.M 1 _ _ _ H1.out.row
  have r1F : w1.heap[w0.heap.size]? = some (.cells #[.pointer (some ⟨X.fb, X.fo + f.fi * 6, none⟩), .int .i64 f.fi, .int .i64 f.bl, .int .i64 f.at_, .int .i64 f.base, .int .i64 f.top, .int .i64 f.low, .int .i64 f.d] 104 (0, 0)) := by
    rw [← hw1, Below.heap_setCell _ _ _ _ (by simp; omega)]; exact heap_alloc_new _ _
  have r1R : w1.heap[w.heap.size]? = some (.cells #[.pointer none, .int .i64 0, .int .i64 0, .int .i64 0, .int .i64 0, .int .i64 0, .int .i64 0, .int .i64 0] 104 (0, 0)) := by
    rw [← hw1, Below.heap_setCell _ _ _ _ (by simp; omega), Below.heap_alloc _ _ _ (by omega), ← HW0.out]; exact heap_alloc_new _ _
  have K1 : Keeps (fun q => q = X.M) w w1 := by
    rw [← hw1, ← HW0.out]; exact ((((Keeps.refl (fun q => q = X.M) w).alloc _).alloc _).setCell (.inl rfl) _)
  rw [hw1]
  have HB := Lib.hid hs0
  obtain ⟨B0, hB0⟩ : ∃ q, w.heap.size = q := ⟨_, rfl⟩
  obtain ⟨B1, hB1⟩ : ∃ q, w0.heap.size = q := ⟨_, rfl⟩
  rw [hB1, hB0] at hs0
  rw [hB1] at r1F hMl0
  rw [hB0] at r1R hMl
  simp only [hB0, hB1]
  have m2 : w1.cell? ⟨X.M, 2, none⟩ = some c.rg := by rw [cell_of_row w1 X.M 2 _ _ _ r1M]; rfl
  have n2 : w1.frozen? ⟨X.M, 2, none⟩ = false := frozen_of_row w1 X.M 2 _ _ r1M
  have q4 : w1.cell? ⟨B1, 4, none⟩ = some (.int .i64 f.base) := by rw [cell_of_row w1 B1 4 _ _ _ r1F]; rfl
  rw [HE.out.2, HRL.out] at m2
  have HR1 := Lib.hid (And.intro r1M (And.intro r1F (And.intro r1R K1)))
  have HBB := Lib.hid (And.intro hB0 (And.intro hB1 (And.intro hs0 (And.intro hMl hMl0))))
  clear hw1 r1M r1F r1R K1 d0 d1 d2 d3 d4 d5 d6 d7 c1 b1 f1 hs0 hB0 hB1 hMl hMl0 e1'
  have hbi : (f.base : Int) ≤ rl := by omega
  have hbj : (f.base : Int) ≤ rc := by omega
  have hbk : f.base ≤ rc := by omega
  go_still_tail 10, (by kernel_rfl)
  change wpList _ _ _ _ _ w1.drew
  have r2M : w1.drew.heap[X.M]? = some (.cells ((mcells X c s).setIfInBounds 1 (.slice (some ⟨g, 0, none⟩) k cap)) 84 (0, 0)) := HR1.out.1
  have r2F := HR1.out.2.1
  have r2R := HR1.out.2.2.1
  have K2 := HR1.out.2.2.2.drew
  change w1.drew.heap[B1]? = _ at r2F
  change w1.drew.heap[B0]? = _ at r2R
  clear HR1 m2 n2 q4
  generalize w1.drew = w2 at r2M r2F r2R K2 ⊢
  obtain ⟨w3, hw3⟩ : ∃ W, w2.setCell ⟨X.M, 2, none⟩ (.slice (some ⟨rb, 0, none⟩) f.base rc) = W := ⟨_, rfl⟩
  have n2 : w2.frozen? ⟨X.M, 2, none⟩ = false := frozen_of_row w2 X.M 2 _ _ r2M
  have m2 : w2.cell? ⟨X.M, 2, none⟩ = some c.rg := by rw [cell_of_row w2 X.M 2 _ _ _ r2M]; rfl
  have hMB1 : X.M ≠ B1 := by have := HBB.out.2.2.2.2; omega
  have hMB0 : X.M ≠ B0 := by have := HBB.out.2.2.2.1; omega
  have r3M : w3.heap[X.M]? = some (.cells (mcells X { c with fs := .slice (some ⟨g, 0, none⟩) k cap, rg := .slice (some ⟨rb, 0, none⟩) f.base rc } s) 84 (0, 0)) := by rw [← hw3]; exact heap_setCell_same _ X.M 2 _ _ _ r2M
  have r3F := (show w3.heap[B1]? = w2.heap[B1]? by rw [← hw3]; exact Below.heap_setCell _ _ _ _ (by simpa using hMB1.symm)).trans r2F
  have r3R := (show w3.heap[B0]? = w2.heap[B0]? by rw [← hw3]; exact Below.heap_setCell _ _ _ _ (by simpa using hMB0.symm)).trans r2R
  have K3 : Keeps (fun q => q = X.M) w w3 := by rw [← hw3]; exact K2.setCell (.inl rfl) _
  have HR3 := Lib.hid (And.intro r3M (And.intro r3R K3))
  have p0 : w3.cell? ⟨B1, 0, none⟩ = some (.pointer (some ⟨X.fb, X.fo + f.fi * 6, none⟩)) := by rw [cell_of_row w3 B1 0 _ _ _ r3F]; rfl
  have p1 : w3.cell? ⟨B1, 1, none⟩ = some (.int .i64 f.fi) := by rw [cell_of_row w3 B1 1 _ _ _ r3F]; rfl
  have p2 : w3.cell? ⟨B1, 2, none⟩ = some (.int .i64 f.bl) := by rw [cell_of_row w3 B1 2 _ _ _ r3F]; rfl
  have p3 : w3.cell? ⟨B1, 3, none⟩ = some (.int .i64 f.at_) := by rw [cell_of_row w3 B1 3 _ _ _ r3F]; rfl
  have p4 : w3.cell? ⟨B1, 4, none⟩ = some (.int .i64 f.base) := by rw [cell_of_row w3 B1 4 _ _ _ r3F]; rfl
  have p5 : w3.cell? ⟨B1, 5, none⟩ = some (.int .i64 f.top) := by rw [cell_of_row w3 B1 5 _ _ _ r3F]; rfl
  have p6 : w3.cell? ⟨B1, 6, none⟩ = some (.int .i64 f.low) := by rw [cell_of_row w3 B1 6 _ _ _ r3F]; rfl
  have p7 : w3.cell? ⟨B1, 7, none⟩ = some (.int .i64 f.d) := by rw [cell_of_row w3 B1 7 _ _ _ r3F]; rfl
  have z0 : w3.cell? ⟨B0, 0, none⟩ = some (.pointer none) := by rw [cell_of_row w3 B0 0 _ _ _ r3R]; rfl
  have z1 : w3.cell? ⟨B0, 1, none⟩ = some (.int .i64 0) := by rw [cell_of_row w3 B0 1 _ _ _ r3R]; rfl
  have z2 : w3.cell? ⟨B0, 2, none⟩ = some (.int .i64 0) := by rw [cell_of_row w3 B0 2 _ _ _ r3R]; rfl
  have z3 : w3.cell? ⟨B0, 3, none⟩ = some (.int .i64 0) := by rw [cell_of_row w3 B0 3 _ _ _ r3R]; rfl
  have z4 : w3.cell? ⟨B0, 4, none⟩ = some (.int .i64 0) := by rw [cell_of_row w3 B0 4 _ _ _ r3R]; rfl
  have z5 : w3.cell? ⟨B0, 5, none⟩ = some (.int .i64 0) := by rw [cell_of_row w3 B0 5 _ _ _ r3R]; rfl
  have z6 : w3.cell? ⟨B0, 6, none⟩ = some (.int .i64 0) := by rw [cell_of_row w3 B0 6 _ _ _ r3R]; rfl
  have z7 : w3.cell? ⟨B0, 7, none⟩ = some (.int .i64 0) := by rw [cell_of_row w3 B0 7 _ _ _ r3R]; rfl
  have y0 : w3.frozen? ⟨B0, 0, none⟩ = false := frozen_of_row w3 B0 0 _ _ r3R
  have y1 : w3.frozen? ⟨B0, 1, none⟩ = false := frozen_of_row w3 B0 1 _ _ r3R
  have y2 : w3.frozen? ⟨B0, 2, none⟩ = false := frozen_of_row w3 B0 2 _ _ r3R
  have y3 : w3.frozen? ⟨B0, 3, none⟩ = false := frozen_of_row w3 B0 3 _ _ r3R
  have y4 : w3.frozen? ⟨B0, 4, none⟩ = false := frozen_of_row w3 B0 4 _ _ r3R
  have y5 : w3.frozen? ⟨B0, 5, none⟩ = false := frozen_of_row w3 B0 5 _ _ r3R
  have y6 : w3.frozen? ⟨B0, 6, none⟩ = false := frozen_of_row w3 B0 6 _ _ r3R
  have y7 : w3.frozen? ⟨B0, 7, none⟩ = false := frozen_of_row w3 B0 7 _ _ r3R
  clear r2M r2F r2R K2 r3M r3F r3R K3 hMB1 hMB0
  go_wp2_with fail
  clear p0 p1 p2 p3 p4 p5 p6 p7 z0 z1 z2 z3 z4 z5 z6 z7 y0 y1 y2 y3 y4 y5 y6 y7 m2 n2
  obtain ⟨w4, hw4⟩ : ∃ W, ((((((((w3.setCell ⟨B0, 0, none⟩ (.pointer (some ⟨X.fb, X.fo + f.fi * 6, none⟩))).setCell ⟨B0, 1, none⟩ (.int .i64 f.fi)).setCell ⟨B0, 2, none⟩ (.int .i64 f.bl)).setCell ⟨B0, 3, none⟩ (.int .i64 f.at_)).setCell ⟨B0, 4, none⟩ (.int .i64 f.base)).setCell ⟨B0, 5, none⟩ (.int .i64 f.top)).setCell ⟨B0, 6, none⟩ (.int .i64 f.low)).setCell ⟨B0, 7, none⟩ (.int .i64 f.d)) = W := ⟨_, rfl⟩
  rw [hw4]
  have hMB0 : X.M ≠ B0 := by have := HBB.out.2.2.2.1; omega
  have r4R : w4.heap[B0]? = some (.cells #[.pointer (some ⟨X.fb, X.fo + f.fi * 6, none⟩), .int .i64 f.fi, .int .i64 f.bl, .int .i64 f.at_, .int .i64 f.base, .int .i64 f.top, .int .i64 f.low, .int .i64 f.d] 104 (0, 0)) := by
    rw [← hw4]; exact heap_setCell_same _ B0 7 _ _ _ (heap_setCell_same _ B0 6 _ _ _ (heap_setCell_same _ B0 5 _ _ _ (heap_setCell_same _ B0 4 _ _ _ (heap_setCell_same _ B0 3 _ _ _ (heap_setCell_same _ B0 2 _ _ _ (heap_setCell_same _ B0 1 _ _ _ (heap_setCell_same _ B0 0 _ _ _ HR3.out.2.1)))))))
  have K4 : Keeps (fun q => q = X.M) w w4 := by
    have hB : w.heap.size ≤ B0 := Nat.le_of_eq HBB.out.1
    rw [← hw4]
    exact (((((((HR3.out.2.2.setCell (.inr hB) _).setCell (.inr hB) _).setCell (.inr hB) _).setCell (.inr hB) _).setCell (.inr hB) _).setCell (.inr hB) _).setCell (.inr hB) _).setCell (.inr hB) _
  have r4M : w4.heap[X.M]? = some (.cells (mcells X { c with fs := .slice (some ⟨g, 0, none⟩) k cap, rg := .slice (some ⟨rb, 0, none⟩) f.base rc } s) 84 (0, 0)) := by
    rw [← hw4]
    iterate 8 rw [Below.heap_setCell _ _ _ _ (by simpa using hMB0)]
    exact HR3.out.1
  have hfin : MAt X w4 _ (s.leave k f) := HMM.out.cut2 HE.out.1 HL.out k (by omega) (by rw [HE.out.2, HRL.out]) HRL.out f.base (by omega) K4 r4M
  have p0 : w4.cell? ⟨B0, 0, none⟩ = some (.pointer (some ⟨X.fb, X.fo + f.fi * 6, none⟩)) := by rw [cell_of_row w4 B0 0 _ _ _ r4R]; rfl
  have p1 : w4.cell? ⟨B0, 1, none⟩ = some (.int .i64 f.fi) := by rw [cell_of_row w4 B0 1 _ _ _ r4R]; rfl
  have p2 : w4.cell? ⟨B0, 2, none⟩ = some (.int .i64 f.bl) := by rw [cell_of_row w4 B0 2 _ _ _ r4R]; rfl
  have p3 : w4.cell? ⟨B0, 3, none⟩ = some (.int .i64 f.at_) := by rw [cell_of_row w4 B0 3 _ _ _ r4R]; rfl
  have p4 : w4.cell? ⟨B0, 4, none⟩ = some (.int .i64 f.base) := by rw [cell_of_row w4 B0 4 _ _ _ r4R]; rfl
  have p5 : w4.cell? ⟨B0, 5, none⟩ = some (.int .i64 f.top) := by rw [cell_of_row w4 B0 5 _ _ _ r4R]; rfl
  have p6 : w4.cell? ⟨B0, 6, none⟩ = some (.int .i64 f.low) := by rw [cell_of_row w4 B0 6 _ _ _ r4R]; rfl
  have p7 : w4.cell? ⟨B0, 7, none⟩ = some (.int .i64 f.d) := by rw [cell_of_row w4 B0 7 _ _ _ r4R]; rfl
  refine bodyPost_ret (v := fagg X f) ?_ ?_ ⟨rfl, _, hfin, fun q hq => by rw [HE.out.2]; exact hq, K4⟩
  · simp [results, Tryd.results91, go_sem, p0, p1, p2, p3, p4, p5, p6, p7, fagg, fcells]
  · rfl
end Go.Proofs.YtbfjmhfhhlncjaaDoor
/- A branch within a run; what goes on by a call. -/
namespace Go.Proofs.YtbfjmhfhhlncjaaDoor
open Go.RowKit
set_option linter.unusedVariables false
set_option linter.unusedSimpArgs false

set_option maxRecDepth 100000 in
set_option maxHeartbeats 3200000 in
theorem lead_branch (X : Sx) (w : World) (c : Cs) (s : St) (h : MAt X w c s) (k : Nat) (f : Fr1) (hf : s.fs[k]? = some f) (g cap : Nat) (hg : c.fs = .slice (some ⟨g, 0, none⟩) s.fs.length cap) (ib io rb base ln rc a tb to_ tc : Nat) (z t0 t1 : Int)
    (hx0 : w.cell? ⟨ib, io, none⟩ = some (.int .i64 15)) (hx3 : w.cell? ⟨ib, io + 3, none⟩ = some (.int .i64 a)) (hx8 : w.cell? ⟨ib, io + 9, none⟩ = some (.slice (some ⟨tb, to_, none⟩) 2 tc)) (ht0 : w.cell? ⟨tb, to_, none⟩ = some (.int .i64 t0)) (ht1 : w.cell? ⟨tb, to_ + 1, none⟩ = some (.int .i64 t1)) (ha : a < ln) (hl : ln ≤ 1000000)
    (hz : w.cell? ⟨rb, base + a, none⟩ = some (.int .i64 z)) (t : Nat) (ht : (t : Int) = if z = 0 then t1 else t0) :
    Calls Tryd.prog 69 #[.pointer (some ⟨X.M, 0, none⟩), .pointer (some ⟨g, k * 8, none⟩), .pointer (some ⟨ib, io, none⟩), .slice (some ⟨rb, base, none⟩) ln rc] w (StepTo X { s with fs := s.fs.set k { f with bl := t, at_ := 0 } }) := by
  have ha1 : (a : Int) < (ln : Int) := by omega
  have ha0 : (0 : Int) ≤ (a : Int) := by omega
  have hkl : k < s.fs.length := (List.getElem?_eq_some_iff.1 hf).1
  have h1 := h.putF hg hf 2 (.int .i64 t) { f with bl := t } rfl (by omega)
  have h2 := h1.putF (k := k) (f := { f with bl := t }) (by show c.fs = .slice _ (s.fs.set k _).length cap; rw [List.length_set]; exact hg) (by show (s.fs.set k _)[k]? = _; rw [List.getElem?_set_self hkl]) 3 (.int .i64 0) { f with bl := t, at_ := 0 } rfl (by omega)
  have H2 : Hid (MAt X ((w.setCell ⟨g, k * 8 + 2, none⟩ (.int .i64 t)).setCell ⟨g, k * 8 + 3, none⟩ (.int .i64 0)) c { s with fs := s.fs.set k { f with bl := t, at_ := 0 } }) := Lib.hid (by
    have e : (s.fs.set k { f with bl := t }).set k { f with bl := t, at_ := 0 } = s.fs.set k { f with bl := t, at_ := 0 } := by rw [List.set_set]
    rw [← e]; exact h2)
  have d2 := h.fcell hg hf 2 _ rfl
  have d3 := h.fcell hg hf 3 _ rfl
  have g2 := h.ffrozen hg (k * 8 + 2)
  have g3 := h.ffrozen hg (k * 8 + 3)
  clear h h1 h2 hf hg hkl
  by_cases hz0 : z = 0
  · subst hz0
    rw [if_pos rfl] at ht
    rw [← ht] at ht1
    clear ht
    go_enter Tryd.func69, Tryd.ntmps69
    go_wp2_with fail
    go_returns
    exact ⟨rfl, _, H2.out⟩
  · have ez : (z == 0) = false := beq_eq_false_iff_ne.2 hz0
    rw [if_neg hz0] at ht
    rw [← ht] at ht0
    clear ht hz0
    go_enter Tryd.func69, Tryd.ntmps69
    go_wp2_with fail
    go_returns
    exact ⟨rfl, _, H2.out⟩
end Go.Proofs.YtbfjmhfhhlncjaaDoor
/- A call within a run: what is handed in, the frame behind it. -/
namespace Go.Proofs.YtbfjmhfhhlncjaaDoor
open Go.RowKit
set_option linter.unusedVariables false
set_option linter.unusedSimpArgs false

/-- Room for six numbers, the first ones laid. -/
structure Room6 (w : World) (q : Nat) (l : List Int) : Prop where
  r : ∃ cur : List Value, w.heap[q]? = some (.cells cur.toArray 134 (0, 0)) ∧ cur.length = 6 ∧ cur.take l.length = irow l
theorem Room6.cell {w : World} {q : Nat} {l : List Int} (h : Room6 w q l) (j : Nat) (z : Int) (hj : l[j]? = some z) : w.cell? ⟨q, 0 + j, none⟩ = some (.int .i64 z) := by
  obtain ⟨cur, hc, _, ht⟩ := h.r
  have hl : j < l.length := (List.getElem?_eq_some_iff.1 hj).1
  rw [Nat.zero_add, cell_of_row w q j _ _ _ hc, List.getElem?_toArray]
  have h2 := irow_get hj
  rw [← ht, List.getElem?_take, if_pos hl] at h2
  exact h2
theorem Room6.keep {w w' : World} {q : Nat} {l : List Int} (h : Room6 w q l) (hq : w'.heap[q]? = w.heap[q]?) : Room6 w' q l := by
  obtain ⟨cur, hc, h6, ht⟩ := h.r
  exact ⟨cur, hq.trans hc, h6, ht⟩
/-- A number is appended to it, at the operation. -/
theorem wpList_appR (w : World) {ops : Array Oper} {rest : List Oper} {o : Oper} {a : Act} {Q : Exit → Act → World → Prop} (hgd : o.guard = none) (s x : Operand) (t : TypeId)
    (ho : o.op = .call { callee := .builtin .append, args := #[s, x], argTypes := #[t, t] }) (ht : Tryd.prog.underlying t = some (.slice 2))
    (q i : Nat) (l : List Int) (hr : Room6 w q l) (hi : l.length = i) (hi6 : i < 6) (z : Int) (q2 : Nat) (hs : a.eval s = .slice (some ⟨q, 0, none⟩) i 6) (hx : a.eval x = .slice (some ⟨q2, 0, none⟩) 1 1) (hq2 : w.heap[q2]? = some (.cells #[.int .i64 z] 2 (0, 0)))
    (h : ∀ w', Room6 w' q (l ++ [z]) → Keeps (fun k => k = q) w w' → wpList Tryd.prog ops Q rest (a.put o.dst (.slice (some ⟨q, 0, none⟩) (i + 1) 6)) w') : wpList Tryd.prog ops Q (o :: rest) a w := by
  obtain ⟨i0, hi0, hz0, hz1, hz2⟩ := info_parts infoI64
  obtain ⟨cur, hc, h6, htk⟩ := hr.r
  have hnews : ∀ (j : Nat) u, [Value.int .i64 z][j]? = some u → w.cell? ((⟨q2, 0, none⟩ : Addr).add j) = some u := fun j u hu => by
    cases j with
    | zero => obtain rfl : Value.int .i64 z = u := by simpa using hu
              have e : (⟨q2, 0, none⟩ : Addr).add 0 = ⟨q2, 0, none⟩ := by unfold Addr.add; split <;> simp_all
              rw [e]; unfold World.cell?; simp only; rw [hq2]; rfl
    | succ j => cases hu
  refine wpList_append_arg w hgd s x t ho 2 i0 (.int .i64 0) 1 8 ht hi0 hz0 hz1 hz2 rfl (by decide) q 0 i 6 (irow l) hs (by rw [irow_len, hi, Nat.mul_one]) (fun j u hj => ?_) ⟨q2, 0, none⟩ 1 1 [.int .i64 z] hx rfl hnews (by intro u hu; simp at hu; subst hu; rfl) (fun _ j hj => ?_) (by unfold maxLen; omega) (by omega) (fun _ => ?_) (fun e => absurd e (by omega))
  · obtain ⟨y, hy, rfl⟩ := irow_of hj
    exact hr.cell j y hy
  · have hj0 : j = 0 := by simp at hj; exact hj
    subst hj0
    refine ⟨?_, frozen_of_row w q _ _ _ hc⟩
    rw [show 0 + i * 1 + 0 = i by omega, cell_of_row w q i _ _ _ hc, List.getElem?_toArray, List.getElem?_eq_getElem (by omega)]; rfl
  · have e : w.setCells q (0 + i * 1) [.int .i64 z] = w.setCell ⟨q, i, none⟩ (.int .i64 z) := by rw [show 0 + i * 1 = i by omega]; rfl
    rw [e]
    refine h _ ⟨cur.set i (.int .i64 z), ?_, by rw [List.length_set]; exact h6, ?_⟩ ((Keeps.refl (fun k => k = q) w).setCell (.inl rfl) _)
    · rw [heap_setCell_same w q i _ _ _ hc]; simp
    · rw [List.length_append, hi, irow_app, ← htk, hi]
      show (cur.set i _).take (i + 1) = _
      rw [List.take_succ_eq_append_getElem (by rw [List.length_set]; omega), List.take_set_of_le (by omega)]
      simp [irow]
set_option maxRecDepth 100000 in
theorem eta188 (l : List Value) (h : l.length = 188) : ∃ f : Nat → Value, l = [f 0, f 1, f 2, f 3, f 4, f 5, f 6, f 7, f 8, f 9, f 10, f 11, f 12, f 13, f 14, f 15, f 16, f 17, f 18, f 19, f 20, f 21, f 22, f 23, f 24, f 25, f 26, f 27, f 28, f 29, f 30, f 31, f 32, f 33, f 34, f 35, f 36, f 37, f 38, f 39, f 40, f 41, f 42, f 43, f 44, f 45, f 46, f 47, f 48, f 49, f 50, f 51, f 52, f 53, f 54, f 55, f 56, f 57, f 58, f 59, f 60, f 61, f 62, f 63, f 64, f 65, f 66, f 67, f 68, f 69, f 70, f 71, f 72, f 73, f 74, f 75, f 76, f 77, f 78, f 79, f 80, f 81, f 82, f 83, f 84, f 85, f 86, f 87, f 88, f 89, f 90, f 91, f 92, f 93, f 94, f 95, f 96, f 97, f 98, f 99, f 100, f 101, f 102, f 103, f 104, f 105, f 106, f 107, f 108, f 109, f 110, f 111, f 112, f 113, f 114, f 115, f 116, f 117, f 118, f 119, f 120, f 121, f 122, f 123, f 124, f 125, f 126, f 127, f 128, f 129, f 130, f 131, f 132, f 133, f 134, f 135, f 136, f 137, f 138, f 139, f 140, f 141, f 142, f 143, f 144, f 145, f 146, f 147, f 148, f 149, f 150, f 151, f 152, f 153, f 154, f 155, f 156, f 157, f 158, f 159, f 160, f 161, f 162, f 163, f 164, f 165, f 166, f 167, f 168, f 169, f 170, f 171, f 172, f 173, f 174, f 175, f 176, f 177, f 178, f 179, f 180, f 181, f 182, f 183, f 184, f 185, f 186, f 187] := by
  refine ⟨fun k => l.getD k undef, ?_⟩
  have e := list_eta l
  rw [h] at e
  exact e.trans (by kernel_rfl)
set_option maxRecDepth 100000 in
theorem frC (c0 c1 c2 c3 c8 c9 c13 c153 c154 c155 : Value) (a : Act) (h : Fr 188 [(0, c0), (1, c1), (2, c2), (3, c3), (8, c8), (9, c9), (13, c13), (153, c153), (154, c154), (155, c155)] a) : ∃ f : Nat → Value, a = ⟨#[c0, c1, c2, c3, f 4, f 5, f 6, f 7, c8, c9, f 10, f 11, f 12, c13, f 14, f 15, f 16, f 17, f 18, f 19, f 20, f 21, f 22, f 23, f 24, f 25, f 26, f 27, f 28, f 29, f 30, f 31, f 32, f 33, f 34, f 35, f 36, f 37, f 38, f 39, f 40, f 41, f 42, f 43, f 44, f 45, f 46, f 47, f 48, f 49, f 50, f 51, f 52, f 53, f 54, f 55, f 56, f 57, f 58, f 59, f 60, f 61, f 62, f 63, f 64, f 65, f 66, f 67, f 68, f 69, f 70, f 71, f 72, f 73, f 74, f 75, f 76, f 77, f 78, f 79, f 80, f 81, f 82, f 83, f 84, f 85, f 86, f 87, f 88, f 89, f 90, f 91, f 92, f 93, f 94, f 95, f 96, f 97, f 98, f 99, f 100, f 101, f 102, f 103, f 104, f 105, f 106, f 107, f 108, f 109, f 110, f 111, f 112, f 113, f 114, f 115, f 116, f 117, f 118, f 119, f 120, f 121, f 122, f 123, f 124, f 125, f 126, f 127, f 128, f 129, f 130, f 131, f 132, f 133, f 134, f 135, f 136, f 137, f 138, f 139, f 140, f 141, f 142, f 143, f 144, f 145, f 146, f 147, f 148, f 149, f 150, f 151, f 152, c153, c154, c155, f 156, f 157, f 158, f 159, f 160, f 161, f 162, f 163, f 164, f 165, f 166, f 167, f 168, f 169, f 170, f 171, f 172, f 173, f 174, f 175, f 176, f 177, f 178, f 179, f 180, f 181, f 182, f 183, f 184, f 185, f 186, f 187], []⟩ := by
  obtain ⟨l, hl, h, rfl⟩ := h
  obtain ⟨f, rfl⟩ := eta188 l hl
  obtain ⟨e0, e1, e2, e3, e8, e9, e13, e153, e154, e155, _⟩ := h
  cases (show f 0 = c0 from Option.some.inj e0)
  cases (show f 1 = c1 from Option.some.inj e1)
  cases (show f 2 = c2 from Option.some.inj e2)
  cases (show f 3 = c3 from Option.some.inj e3)
  cases (show f 8 = c8 from Option.some.inj e8)
  cases (show f 9 = c9 from Option.some.inj e9)
  cases (show f 13 = c13 from Option.some.inj e13)
  cases (show f 153 = c153 from Option.some.inj e153)
  cases (show f 154 = c154 from Option.some.inj e154)
  cases (show f 155 = c155 from Option.some.inj e155)
  exact ⟨f, rfl⟩
/-- What a call hands in, where it lies. -/
structure Hands (w : World) (ab ao rb base ln : Nat) (la : List Int) : Prop where
  n : 0 < la.length ∧ la.length ≤ 6
  a : ∀ (j : Nat) z, la[j]? = some z → ∃ q : Nat, q < ln ∧ w.cell? ⟨ab, ao + j, none⟩ = some (.int .i64 q) ∧ w.cell? ⟨rb, base + q, none⟩ = some (.int .i64 z)
set_option maxRecDepth 100000 in
set_option maxHeartbeats 12800000 in
theorem call_new (X : Sx) (hX : SxOk X) (w : World) (c : Cs) (s : St) (h : MAt X w c s) (k : Nat) (f : Fr1) (hl : s.fs.length = k + 1) (hk : k < 999) (hf : s.fs[k]? = some f) (g : Nat) (hg : ∃ cap, c.fs = .slice (some ⟨g, 0, none⟩) (k + 1) cap)
    (ib io rb ln rc ab ao ac : Nat) (d : Int) (fi : Nat) (la : List Int) (hx0 : w.cell? ⟨ib, io, none⟩ = some (.int .i64 10)) (hx2 : w.cell? ⟨ib, io + 2, none⟩ = some (.int .i64 d)) (hx5 : w.cell? ⟨ib, io + 5, none⟩ = some (.int .i64 fi)) (hx7 : w.cell? ⟨ib, io + 8, none⟩ = some (.slice (some ⟨ab, ao, none⟩) la.length ac))
    (hac : la.length ≤ ac ∧ ac ≤ 1000000) (hln : ln ≤ 1000000) (hH : Hands w ab ao rb f.base ln la) (F : Fx) (hF : X.P.fl[fi]? = some F) (hsl : F.slots.n = 0) (R : Nat) (hR : F.regs = R) (hR1 : 1 ≤ R ∧ R ≤ 256) (hla : la.length ≤ R) (hlow : 15728640 ≤ f.low) (hrl : s.rg.length ≤ 900000) :
    Calls Tryd.prog 83 #[.pointer (some ⟨X.M, 0, none⟩), .pointer (some ⟨g, k * 8, none⟩), .pointer (some ⟨ib, io, none⟩), .slice (some ⟨rb, f.base, none⟩) ln rc] w (StepTo X (s.enter fi R la d f.low)) := by
  obtain ⟨cap, hg⟩ := hg
  have hcap : k + 1 ≤ cap ∧ cap ≤ maxLen := by
    obtain ⟨g', cap', e1, e2, e3⟩ := h.fform (by rw [hl]; omega)
    rw [hg, hl] at e1; injection e1 with _ _ e1; subst e1; rw [hl] at e2; exact ⟨e2, e3⟩
  unfold maxLen at hcap
  have c1 : w.cell? ⟨X.M, 1, none⟩ = some c.fs := h.cell 1 _ rfl
  rw [hg] at c1
  have c6 := h.fcell (by rw [hl]; exact hg) hf 6 _ rfl
  have HE := Lib.hid (fun (W : World) (hW : Keeps No w W) aa ca (hA : ArgsAt X W c aa la) => enter0 X hX W c s (h.keep hW) fi F hF hsl R hR hR1 aa ca la hla hA d f.low hlow hrl (by rw [hl]; omega))
  have hML := (Array.getElem?_eq_some_iff.1 h.row).1
  have HML := Lib.hid hML
  have HRG := Lib.hid (fun q hq => (h.rows.r.lt q hq).2)
  have HH := Lib.hid hH
  obtain ⟨m, hm⟩ : ∃ m, la.length = m := ⟨_, rfl⟩
  have HM := Lib.hid hm
  obtain ⟨lo, hlo⟩ : ∃ m, f.low = m := ⟨_, rfl⟩
  obtain ⟨fb, hfb⟩ : ∃ m, f.base = m := ⟨_, rfl⟩
  have hmn := hH.n
  rw [hm] at hx7 hac hmn HE
  rw [hlo] at c6 HE
  rw [hfb] at HH
  rw [hfb, hlo]
  have HX := Lib.hid (And.intro hx0 (And.intro hx2 (And.intro hx5 hx7)))
  clear h hl hf hg hH hF hsl hR hla hlow hrl hX hML hm hlo hfb
  have hk1 : ¬ (k : Int) + 1 = 1000 := by omega
  obtain ⟨w0, hw0⟩ : ∃ W, w.alloc (.cells #[.int .i64 0, .int .i64 0, .int .i64 0, .int .i64 0, .int .i64 0, .int .i64 0] 134) = W := ⟨_, rfl⟩
  have k0 : Keeps No w w0 := by rw [← hw0]; exact (Keeps.refl _ _).alloc _
  have y7 := k0.cell0 hx7
  have hR0 : Room6 w0 w.heap.size [] := ⟨[.int .i64 0, .int .i64 0, .int .i64 0, .int .i64 0, .int .i64 0, .int .i64 0], by rw [← hw0]; exact heap_alloc_new _ _, rfl, rfl⟩
  have HR0 := Lib.hid hR0
  have HK0 := Lib.hid k0
  have HS0 : Hid (w0.heap.size = w.heap.size + 1) := Lib.hid (by rw [← hw0]; simp)
  clear k0 hR0
  go_enter Tryd.func83, Tryd.ntmps83
  go_upto_region 15 with fail
  clear hw0
  have HLA0 : Hid (la.take 0 = []) := Lib.hid (by simp)
  obtain ⟨q, hq⟩ : ∃ q, w.heap.size = q := ⟨_, rfl⟩
  rw [hq] at HR0 ⊢
  have HQ := Lib.hid hq
  clear hq
  go_wp2_with fail
  refine wp_loop_ghost_k (fun gg a' wo => ∃ (i : Nat), Fr 188 [(0, .pointer (some ⟨X.M, 0, none⟩)), (1, .pointer (some ⟨g, k * 8, none⟩)), (2, .pointer (some ⟨ib, io, none⟩)), (3, .slice (some ⟨rb, fb, none⟩) ln rc), (8, .int .i64 fi), (9, .bool false), (13, .slice (some ⟨q, 0, none⟩) i 6), (153, .slice (some ⟨ab, ao, none⟩) m ac), (154, .int .i64 m), (155, .int .i64 (i : Int))] a' ∧ i ≤ m ∧ gg = m - i ∧ Hid (Room6 wo q (la.take i)) ∧ Hid (Keeps No w wo)) m ?_ ?_
  · exact ⟨0, ⟨_, rfl, ⟨rfl, rfl, rfl, rfl, rfl, rfl, rfl, rfl, rfl, rfl, trivial⟩, rfl⟩, Nat.zero_le _, rfl, Lib.hid (by rw [HLA0.out]; exact HR0.out), HK0⟩
  · rintro gg a' wo ⟨i, hFr, hi, hgg, HRO, HKO⟩ J K3 hJ hK3
    obtain ⟨ff, rfl⟩ := frC _ _ _ _ _ _ _ _ _ _ _ hFr
    clear hFr
    by_cases hlt : i < m
    · have hlt' : (i : Int) < (m : Int) := by omega
      have i0 : (0 : Int) ≤ (i : Int) := by omega
      obtain ⟨z, hz⟩ : ∃ z, la[i]? = some z := ⟨_, List.getElem?_eq_getElem (by rw [HM.out]; exact hlt)⟩
      obtain ⟨p, hp, hpa, hpr⟩ := HH.out.a i z hz
      have ca := HKO.out.cell0 hpa
      have cr := HKO.out.cell0 hpr
      have hp' : (p : Int) < (ln : Int) := by omega
      have p0 : (0 : Int) ≤ (p : Int) := by omega
      have hi6 : i < 6 := by omega
      have HZ := Lib.hid hz
      have HQS : Hid (q < wo.heap.size) := Lib.hid (by obtain ⟨cur, hc, _⟩ := HRO.out.r; exact (Array.getElem?_eq_some_iff.1 hc).1)
      have HTL : Hid ((la.take i).length = i) := Lib.hid (by rw [List.length_take, HM.out]; omega)
      clear hz hpa hpr
      go_wp2_with (at_builtin; refine wpList_appR _ rfl (.tmp 159) (.tmp 164) 25 rfl Tryd.underlying25 q i (la.take i) (HRO.out.keep (Below.heap_alloc _ _ _ HQS.out)) HTL.out hi6 z wo.heap.size rfl rfl (heap_alloc_new _ _) ?_)
      intro w3 hR3 hK3'
      have HR3 : Hid (Room6 w3 q (la.take (i + 1))) := Lib.hid (by
        obtain ⟨h1, h2⟩ := List.getElem?_eq_some_iff.1 HZ.out
        rw [List.take_succ_eq_append_getElem h1, h2]; exact hR3)
      have HK3 : Hid (Keeps No w w3) := Lib.hid ((HKO.out.alloc _).trans hK3' (fun b hb e => by
        have := HQ.out; omega))
      clear hR3 hK3'
      go_wp2_with fail
      exact Handed.intro (m - (i + 1)) (by omega) (hJ _ _ _ ⟨i + 1, ⟨_, rfl, ⟨rfl, rfl, rfl, rfl, rfl, rfl, rfl, rfl, rfl, congrArg some (by go_num), trivial⟩, rfl⟩, by omega, rfl, HR3, HK3⟩)
    · obtain rfl : i = m := by omega
      have hlt' : ¬ (i : Int) < (i : Int) := by omega
      clear hJ hK3 hlt hi
      have x2 := HKO.out.cell0 HX.out.2.1
      have f6 := HKO.out.cell0 c6
      have HTL : Hid (la.take i = la) := Lib.hid (List.take_of_length_le (by rw [HM.out]; omega))
      go_wp2_with fail
      go_quiet (fail)
      go_wp2_with fail
      refine (HE.out (wo.drewN nq) (HKO.out.drewN nq) _ _ (.inr ⟨q, 0, rfl, by have := HML.out; have := HQ.out; omega, fun e => by have := HRG.out _ e; have := HQ.out; omega, fun j z hj => ?_⟩)).mono ?_
      · have := HRO.out.cell j z (by rw [HTL.out]; exact hj)
        exact this
      rintro e w5 ⟨rfl, c5, h5⟩
      have H5 := Lib.hid h5
      clear h5
      go_wp2_with fail
      go_returns
      exact ⟨rfl, _, H5.out⟩
set_option maxRecDepth 100000 in
set_option maxHeartbeats 12800000 in
theorem call_tail (X : Sx) (hX : SxOk X) (w : World) (c : Cs) (s : St) (h : MAt X w c s) (k : Nat) (f : Fr1) (hl : s.fs.length = k + 1) (hk : k < 100000) (hf : s.fs[k]? = some f) (g : Nat) (hg : ∃ cap, c.fs = .slice (some ⟨g, 0, none⟩) (k + 1) cap)
    (ib io rb ln rc ab ao ac : Nat) (d0 : Int) (fi : Nat) (la : List Int) (hx0 : w.cell? ⟨ib, io, none⟩ = some (.int .i64 19)) (hx2 : w.cell? ⟨ib, io + 2, none⟩ = some (.int .i64 d0)) (hx5 : w.cell? ⟨ib, io + 5, none⟩ = some (.int .i64 fi)) (hx7 : w.cell? ⟨ib, io + 8, none⟩ = some (.slice (some ⟨ab, ao, none⟩) la.length ac))
    (hac : la.length ≤ ac ∧ ac ≤ 1000000) (hln : ln ≤ 1000000) (hH : Hands w ab ao rb f.base ln la) (F : Fx) (hF : X.P.fl[fi]? = some F) (hsl : F.slots.n = 0) (R : Nat) (hR : F.regs = R) (hR1 : 1 ≤ R ∧ R ≤ 256) (hla : la.length ≤ R) (htop : 15728640 ≤ f.top) (hrl : s.rg.length ≤ 900000) (hr0 : 0 < s.rg.length) (hbl : f.base ≤ s.rg.length) :
    Calls Tryd.prog 83 #[.pointer (some ⟨X.M, 0, none⟩), .pointer (some ⟨g, k * 8, none⟩), .pointer (some ⟨ib, io, none⟩), .slice (some ⟨rb, f.base, none⟩) ln rc] w (StepTo X ((s.leave k f).enter fi R la f.d f.top)) := by
  obtain ⟨cap, hg⟩ := hg
  have hcap : k + 1 ≤ cap ∧ cap ≤ maxLen := by
    obtain ⟨g', cap', e1, e2, e3⟩ := h.fform (by rw [hl]; omega)
    rw [hg, hl] at e1; injection e1 with _ _ e1; subst e1; rw [hl] at e2; exact ⟨e2, e3⟩
  unfold maxLen at hcap
  have c1 : w.cell? ⟨X.M, 1, none⟩ = some c.fs := h.cell 1 _ rfl
  rw [hg] at c1
  have c6 := h.fcell (by rw [hl]; exact hg) hf 6 _ rfl
  have HLV := Lib.hid (fun (W : World) (hW : Keeps No w W) => leave_any X W c s (h.keep hW) k f hl (by omega) hf hbl hr0 (by omega))
  have HE := Lib.hid (fun (W : World) c' (hm' : MAt X W c' (s.leave k f)) aa ca (hA : ArgsAt X W c' aa la) => enter0 X hX W c' (s.leave k f) hm' fi F hF hsl R hR hR1 aa ca la hla hA f.d f.top htop (by show (s.rg.take f.base).length ≤ _; rw [List.length_take]; omega) (by show (s.fs.take k).length ≤ _; rw [List.length_take]; omega))
  have hML := (Array.getElem?_eq_some_iff.1 h.row).1
  have HML := Lib.hid hML
  have HRG := Lib.hid (fun q hq => (h.rows.r.lt q hq).2)
  have HH := Lib.hid hH
  obtain ⟨m, hm⟩ : ∃ m, la.length = m := ⟨_, rfl⟩
  have HM := Lib.hid hm
  obtain ⟨F0, hF0⟩ : ∃ S, (s.leave k f).enter fi R la f.d f.top = S := ⟨_, rfl⟩
  obtain ⟨fb, hfb⟩ : ∃ m, f.base = m := ⟨_, rfl⟩
  have hmn := hH.n
  rw [hm] at hx7 hac hmn HE
  obtain ⟨lo, hlo⟩ : ∃ m, f.low = m := ⟨_, rfl⟩
  rw [hlo] at c6
  rw [hF0] at HE
  rw [hfb] at HH
  rw [hfb, hF0]
  have HX := Lib.hid (And.intro hx0 (And.intro hx5 hx7))
  clear h hl hf hg hH hF hsl hR hla htop hrl hr0 hbl hX hML hm hF0 hfb hlo
  obtain ⟨w0, hw0⟩ : ∃ W, w.alloc (.cells #[.int .i64 0, .int .i64 0, .int .i64 0, .int .i64 0, .int .i64 0, .int .i64 0] 134) = W := ⟨_, rfl⟩
  have k0 : Keeps No w w0 := by rw [← hw0]; exact (Keeps.refl _ _).alloc _
  have y7 := k0.cell0 hx7
  have hR0 : Room6 w0 w.heap.size [] := ⟨[.int .i64 0, .int .i64 0, .int .i64 0, .int .i64 0, .int .i64 0, .int .i64 0], by rw [← hw0]; exact heap_alloc_new _ _, rfl, rfl⟩
  have HR0 := Lib.hid hR0
  have HK0 := Lib.hid k0
  have HS0 : Hid (w0.heap.size = w.heap.size + 1) := Lib.hid (by rw [← hw0]; simp)
  clear k0 hR0
  go_enter Tryd.func83, Tryd.ntmps83
  go_upto_region 15 with fail
  clear hw0
  have HLA0 : Hid (la.take 0 = []) := Lib.hid (by simp)
  obtain ⟨q, hq⟩ : ∃ q, w.heap.size = q := ⟨_, rfl⟩
  rw [hq] at HR0 ⊢
  have HQ := Lib.hid hq
  clear hq
  go_wp2_with fail
  refine wp_loop_ghost_k (fun gg a' wo => ∃ (i : Nat), Fr 188 [(0, .pointer (some ⟨X.M, 0, none⟩)), (1, .pointer (some ⟨g, k * 8, none⟩)), (2, .pointer (some ⟨ib, io, none⟩)), (3, .slice (some ⟨rb, fb, none⟩) ln rc), (8, .int .i64 fi), (9, .bool true), (13, .slice (some ⟨q, 0, none⟩) i 6), (153, .slice (some ⟨ab, ao, none⟩) m ac), (154, .int .i64 m), (155, .int .i64 (i : Int))] a' ∧ i ≤ m ∧ gg = m - i ∧ Hid (Room6 wo q (la.take i)) ∧ Hid (Keeps No w wo)) m ?_ ?_
  · exact ⟨0, ⟨_, rfl, ⟨rfl, rfl, rfl, rfl, rfl, rfl, rfl, rfl, rfl, rfl, trivial⟩, rfl⟩, Nat.zero_le _, rfl, Lib.hid (by rw [HLA0.out]; exact HR0.out), HK0⟩
  · rintro gg a' wo ⟨i, hFr, hi, hgg, HRO, HKO⟩ J K3 hJ hK3
    obtain ⟨ff, rfl⟩ := frC _ _ _ _ _ _ _ _ _ _ _ hFr
    clear hFr
    by_cases hlt : i < m
    · have hlt' : (i : Int) < (m : Int) := by omega
      have i0 : (0 : Int) ≤ (i : Int) := by omega
      obtain ⟨z, hz⟩ : ∃ z, la[i]? = some z := ⟨_, List.getElem?_eq_getElem (by rw [HM.out]; exact hlt)⟩
      obtain ⟨p, hp, hpa, hpr⟩ := HH.out.a i z hz
      have ca := HKO.out.cell0 hpa
      have cr := HKO.out.cell0 hpr
      have hp' : (p : Int) < (ln : Int) := by omega
      have p0 : (0 : Int) ≤ (p : Int) := by omega
      have hi6 : i < 6 := by omega
      have HZ := Lib.hid hz
      have HQS : Hid (q < wo.heap.size) := Lib.hid (by obtain ⟨cur, hc, _⟩ := HRO.out.r; exact (Array.getElem?_eq_some_iff.1 hc).1)
      have HTL : Hid ((la.take i).length = i) := Lib.hid (by rw [List.length_take, HM.out]; omega)
      clear hz hpa hpr
      go_wp2_with (at_builtin; refine wpList_appR _ rfl (.tmp 159) (.tmp 164) 25 rfl Tryd.underlying25 q i (la.take i) (HRO.out.keep (Below.heap_alloc _ _ _ HQS.out)) HTL.out hi6 z wo.heap.size rfl rfl (heap_alloc_new _ _) ?_)
      intro w3 hR3 hK3'
      have HR3 : Hid (Room6 w3 q (la.take (i + 1))) := Lib.hid (by
        obtain ⟨h1, h2⟩ := List.getElem?_eq_some_iff.1 HZ.out
        rw [List.take_succ_eq_append_getElem h1, h2]; exact hR3)
      have HK3 : Hid (Keeps No w w3) := Lib.hid ((HKO.out.alloc _).trans hK3' (fun b hb e => by
        have := HQ.out; omega))
      clear hR3 hK3'
      go_wp2_with fail
      exact Handed.intro (m - (i + 1)) (by omega) (hJ _ _ _ ⟨i + 1, ⟨_, rfl, ⟨rfl, rfl, rfl, rfl, rfl, rfl, rfl, rfl, rfl, congrArg some (by go_num), trivial⟩, rfl⟩, by omega, rfl, HR3, HK3⟩)
    · obtain rfl : i = m := by omega
      have hlt' : ¬ (i : Int) < (i : Int) := by omega
      clear hJ hK3 hlt hi
      have x2 := HKO.out.cell0 hx2
      have f6 := HKO.out.cell0 c6
      have HTL : Hid (la.take i = la) := Lib.hid (List.take_of_length_le (by rw [HM.out]; omega))
      go_wp2_with fail
      go_quiet (fail)
      go_wp2_with fail
      refine (HLV.out _ (HKO.out.drewN _)).mono ?_
      rintro e w5 ⟨rfl, c5, h5, h5r, hk5⟩
      have H5 := Lib.hid h5
      have H5R := Lib.hid h5r
      have HK5 := Lib.hid hk5
      clear h5 h5r hk5
      unfold fagg fcells
      go_wp2_with fail
      obtain ⟨w6, hw6⟩ : ∃ W, w5.alloc (.cells #[.pointer (some ⟨X.fb, X.fo + f.fi * 6, none⟩), .int .i64 f.fi, .int .i64 f.bl, .int .i64 f.at_, .int .i64 f.base, .int .i64 f.top, .int .i64 f.low, .int .i64 f.d] 104) = W := ⟨_, rfl⟩
      obtain ⟨B5, hB5⟩ : ∃ q, w5.heap.size = q := ⟨_, rfl⟩
      have r6 : w6.heap[B5]? = some (.cells #[.pointer (some ⟨X.fb, X.fo + f.fi * 6, none⟩), .int .i64 f.fi, .int .i64 f.bl, .int .i64 f.at_, .int .i64 f.base, .int .i64 f.top, .int .i64 f.low, .int .i64 f.d] 104 (0, 0)) := by rw [← hw6, ← hB5]; exact heap_alloc_new _ _
      have p7 : w6.cell? ⟨B5, 7, none⟩ = some (.int .i64 f.d) := by rw [cell_of_row w6 B5 7 _ _ _ r6]; rfl
      have p5 : w6.cell? ⟨B5, 5, none⟩ = some (.int .i64 f.top) := by rw [cell_of_row w6 B5 5 _ _ _ r6]; rfl
      have HK6 : Hid (Keeps No w5 w6) := Lib.hid (by rw [← hw6]; exact (Keeps.refl _ _).alloc _)
      have H6 : Hid (MAt X w6 c5 (s.leave k f)) := Lib.hid (by rw [← hw6]; exact H5.out.alloc _)
      rw [hw6]
      simp only [hB5]
      clear hw6 hB5 r6
      go_quiet (fail)
      go_wp2_with fail
      have hqM : q ≠ X.M := by have := HML.out; have := HQ.out; omega
      refine (HE.out (w6.drewN nq) c5 (H6.out.drewN _) _ _ (.inr ⟨q, 0, rfl, hqM, fun e => by have := HRG.out _ (H5R.out _ e); have := HQ.out; omega, fun j z hj => ?_⟩)).mono ?_
      · have := HRO.out.cell j z (by rw [HTL.out]; exact hj)
        exact HK6.out.cell0 (HK5.out.cell this hqM)
      rintro e w7 ⟨rfl, c7, h7⟩
      have H7 := Lib.hid h7
      clear h7
      go_wp2_with fail
      go_returns
      exact ⟨rfl, _, H7.out⟩
end Go.Proofs.YtbfjmhfhhlncjaaDoor
/- A call's answer; a call too many; what goes on by a call. -/
namespace Go.Proofs.YtbfjmhfhhlncjaaDoor
open Go.RowKit
set_option linter.unusedVariables false
set_option linter.unusedSimpArgs false

set_option maxRecDepth 100000 in
set_option maxHeartbeats 3200000 in
theorem lead_call (X : Sx) (w : World) (s' : St) (ib io : Nat) (vf vr : Value) (O : Int) (hO : O = 10 ∨ O = 19) (hx0 : w.cell? ⟨ib, io, none⟩ = some (.int .i64 O))
    (HA : Calls Tryd.prog 83 #[.pointer (some ⟨X.M, 0, none⟩), vf, .pointer (some ⟨ib, io, none⟩), vr] w (StepTo X s')) :
    Calls Tryd.prog 69 #[.pointer (some ⟨X.M, 0, none⟩), vf, .pointer (some ⟨ib, io, none⟩), vr] w (StepTo X s') := by
  have HAA := Lib.hid HA
  clear HA
  have o14 : (O == 14) = false := by rw [beq_eq_false_iff_ne]; omega
  have o15 : (O == 15) = false := by rw [beq_eq_false_iff_ne]; omega
  have o16 : (O == 16) = false := by rw [beq_eq_false_iff_ne]; omega
  have o17 : (O == 17) = false := by rw [beq_eq_false_iff_ne]; omega
  have o18 : (O == 18) = false := by rw [beq_eq_false_iff_ne]; omega
  have o21 : (O == 21) = false := by rw [beq_eq_false_iff_ne]; omega
  clear hO
  go_enter Tryd.func69, Tryd.ntmps69
  go_wp2_with fail
  refine HAA.out.mono ?_
  rintro e w1 ⟨rfl, c', h1⟩
  have H1 := Lib.hid h1
  clear h1
  go_wp2_with fail
  go_returns
  exact ⟨rfl, _, H1.out⟩
set_option maxRecDepth 100000 in
set_option maxHeartbeats 6400000 in
theorem call_full (X : Sx) (w : World) (c : Cs) (s : St) (h : MAt X w c s) (hl : s.fs.length = 1000) (vf : Value) (ib io : Nat) (vr : Value) (fi : Nat) (hx0 : w.cell? ⟨ib, io, none⟩ = some (.int .i64 10)) (hx5 : w.cell? ⟨ib, io + 5, none⟩ = some (.int .i64 fi)) :
    Calls Tryd.prog 83 #[.pointer (some ⟨X.M, 0, none⟩), vf, .pointer (some ⟨ib, io, none⟩), vr] w (StepTo X (s.stop 3 0)) := by
  obtain ⟨g, cap, e1, e2, e3⟩ := h.fform (by rw [hl]; omega)
  rw [hl] at e1
  have c1 : w.cell? ⟨X.M, 1, none⟩ = some c.fs := h.cell 1 _ rfl
  rw [e1] at c1
  have HS := Lib.hid (stop_any X w c s h 3 0)
  clear h hl e1 e2
  go_enter Tryd.func83, Tryd.ntmps83
  go_wp2_with fail
  refine HS.out.mono ?_
  rintro e w1 ⟨rfl, h1⟩
  have H1 := Lib.hid h1
  clear h1
  go_wp2_with fail
  go_returns
  exact ⟨rfl, _, H1.out⟩
theorem fldD (a b c d e f g h : Value) (W : World) : (Instr.field 104 (.agg #[a, b, c, d, e, f, g, h]) 7).run Tryd.prog W = .ok h W := by
  unfold Instr.field
  simp [go_sem, run_underlying Tryd.underlying104, asAgg]
set_option maxRecDepth 100000 in
set_option maxHeartbeats 6400000 in
theorem answer_many (X : Sx) (w : World) (c : Cs) (s : St) (h : MAt X w c s) (k : Nat) (f f0 : Fr1) (hl : s.fs.length = k + 2) (hk : k ≤ 900000) (hf : s.fs[k + 1]? = some f) (hf0 : s.fs[k]? = some f0) (hb : f.base ≤ s.rg.length) (hr0 : 0 < s.rg.length) (hr1 : s.rg.length ≤ 1000000) (d : Nat) (hd : f.d = d) (hdl : f0.base + d < f.base) (n : Int) :
    Calls Tryd.prog 82 #[.pointer (some ⟨X.M, 0, none⟩), .int .i64 n] w (StepTo X { s.leave (k + 1) f with rg := (s.rg.take f.base).set (f0.base + d) n }) := by
  obtain ⟨g, cap, e1, e2, e3⟩ := h.fform (by rw [hl]; omega)
  rw [hl] at e1
  have c1 : w.cell? ⟨X.M, 1, none⟩ = some c.fs := h.cell 1 _ rfl
  rw [e1] at c1
  have HLV := Lib.hid (leave_any X w c s h (k + 1) f hl (by omega) hf hb hr0 hr1)
  have hk1 : ((k : Int) + 2 == 1) = false := by rw [beq_eq_false_iff_ne]; omega
  have hfl : (s.leave (k + 1) f).fs.length = k + 1 := by show (s.fs.take _).length = _; rw [List.length_take]; omega
  have hrl : (s.leave (k + 1) f).rg.length = f.base := by show (s.rg.take _).length = _; rw [List.length_take]; omega
  have hff : (s.leave (k + 1) f).fs[k]? = some f0 := by show (s.fs.take _)[k]? = _; rw [List.getElem?_take, if_pos (by omega)]; exact hf0
  have HF := Lib.hid (And.intro hfl (And.intro hrl hff))
  obtain ⟨bs, hbs⟩ : ∃ q, f.base = q := ⟨_, rfl⟩
  obtain ⟨b0, hb0⟩ : ∃ q, f0.base = q := ⟨_, rfl⟩
  have HB := Lib.hid (And.intro hbs hb0)
  obtain ⟨S', hS'⟩ : ∃ S, ({ s.leave (k + 1) f with rg := (s.rg.take f.base).set (f0.base + d) n } : St) = S := ⟨_, rfl⟩
  rw [hS']
  have HS' := Lib.hid hS'
  have hbb : bs ≤ 1000000 := by omega
  have hdb : b0 + d < bs := by omega
  have HD := Lib.hid hd
  clear h hl e1 e2 hf hf0 hb hr0 hr1 hfl hrl hff hbs hb0 hdl hS' hd
  go_enter Tryd.func82, Tryd.ntmps82
  go_wp2_with fail
  refine HLV.out.mono ?_
  rintro e w1 ⟨rfl, c', h1, _, _⟩
  obtain ⟨g', cap', e1, e2, e3'⟩ := h1.fform (by rw [HF.out.1]; omega)
  obtain ⟨rb, rc, r1, r2, r3⟩ := h1.rform (by rw [HF.out.2.1, HB.out.1]; omega)
  have HE := Lib.hid (And.intro e1 r1)
  rw [HF.out.1] at e1
  rw [HF.out.2.1, HB.out.1] at r1 r2
  unfold maxLen at e3' r3
  have c1 : w1.cell? ⟨X.M, 1, none⟩ = some c'.fs := h1.cell 1 _ rfl
  have c2 : w1.cell? ⟨X.M, 2, none⟩ = some c'.rg := h1.cell 2 _ rfl
  rw [e1] at c1
  rw [r1] at c2
  have d4 := h1.fcell (by rw [HF.out.1]; exact e1) HF.out.2.2 4 _ rfl
  rw [HB.out.2] at d4
  have H1 := Lib.hid h1
  have e2' : k + 1 ≤ cap' := by rw [HF.out.1] at e2; exact e2
  clear h1 e1 r1 HLV e2
  have hk2 : (k : Int) < (k : Int) + 1 := by omega
  have hdb1 : ((b0 : Int) + (d : Int)) < (bs : Int) := by omega
  have hdb0 : (0 : Int) ≤ (b0 : Int) + (d : Int) := by omega
  obtain ⟨zold, hzo⟩ : ∃ z, (s.leave (k + 1) f).rg[b0 + d]? = some z := ⟨_, List.getElem?_eq_getElem (by rw [HF.out.2.1, HB.out.1]; exact hdb)⟩
  have zc := H1.out.drew.rcell HE.out.2 hzo
  have zfr := H1.out.drew.rfrozen HE.out.2 (b0 + d)
  have H7 : Hid (MAt X (w1.drew.setCell ⟨rb, b0 + d, none⟩ (.int .i64 n)) c' S') := Lib.hid (by
    have h6 := H1.out.drew.putR HE.out.2 (b0 + d) n
    rw [← HS'.out]
    unfold St.leave at h6 ⊢
    simp only [HB.out.1, HB.out.2] at h6 ⊢
    exact h6)
  clear hzo
  unfold fagg fcells
  rw [HD.out]
  have hd0 : (0 : Int) ≤ (d : Int) := by omega
  have hfd : ∀ W, _ = _ := fldD (.pointer (some ⟨X.fb, X.fo + f.fi * 6, none⟩)) (.int .i64 f.fi) (.int .i64 f.bl) (.int .i64 f.at_) (.int .i64 f.base) (.int .i64 f.top) (.int .i64 f.low) (.int .i64 d)
  go_wp2_with fail
  have hkw : IntKind.i64.wrap (k : Int) = k := by rw [IntKind.wrap_i64]; omega
  have hbw : IntKind.i64.wrap ((b0 : Int) + (d : Int)) = (b0 : Int) + (d : Int) := by rw [IntKind.wrap_i64]; omega
  have hk0 : (0 : Int) ≤ (k : Int) := by omega
  have hbt : ((b0 : Int) + (d : Int)).toNat = b0 + d := by omega
  go_still_tail 21, (by kernel_rfl)
  change wpList _ _ _ _ _ w1.drew
  go_wp2_with fail
  go_returns
  exact ⟨rfl, _, H7.out⟩
end Go.Proofs.YtbfjmhfhhlncjaaDoor
