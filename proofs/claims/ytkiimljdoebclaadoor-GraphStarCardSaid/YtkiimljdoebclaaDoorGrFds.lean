/- The finder in memory. -/
import Derived.Test.YtkiimljdoebclaaDoorGrMirror
import Derived.Lib.SliceRun
namespace Go.Proofs.YtkiimljdoebclaaDoor
open Go.RowKit Gm
set_option linter.unusedVariables false
set_option linter.unusedSimpArgs false

/-- A row of numbers that fills its block. -/
def RowAt (w : World) (W : Nat) (l : List Int) : Prop := w.heap[W]? = some (.cells (irow l).toArray 3 (0, 0))
theorem RowAt.lt {w : World} {W : Nat} {l : List Int} (h : RowAt w W l) : W < w.heap.size := (Array.getElem?_eq_some_iff.1 h).1
theorem RowAt.cell {w : World} {W : Nat} {l : List Int} (h : RowAt w W l) {i : Nat} {z : Int} (hz : l[i]? = some z) : w.cell? ⟨W, i, none⟩ = some (.int .i64 z) := by
  rw [cell_of_row w W i _ _ _ h, List.getElem?_toArray]; exact irow_get hz
theorem RowAt.frozen {w : World} {W : Nat} {l : List Int} (h : RowAt w W l) (i : Nat) : w.frozen? ⟨W, i, none⟩ = false := frozen_of_row w W i _ _ h
theorem RowAt.keep {w w' : World} {W : Nat} {l : List Int} {S : Nat → Prop} (h : RowAt w W l) (hk : Keeps S w w') (hS : ¬ S W) : RowAt w' W l := (hk.block W h.lt hS).trans h
theorem RowAt.set {w : World} {W : Nat} {l : List Int} (h : RowAt w W l) (i : Nat) (z : Int) : RowAt (w.setCell ⟨W, i, none⟩ (.int .i64 z)) W (l.set i z) := by
  unfold RowAt
  rw [heap_setCell_same w W i _ _ _ h]
  have e : irow (l.set i z) = (irow l).set i (.int .i64 z) := by unfold irow; rw [List.map_set]
  rw [e]; simp
theorem setC (w : World) (p : Addr) (v : Value) : Keeps (fun q => q = p.block) w (w.setCell p v) := (Keeps.refl (fun q => q = p.block) w).setCell (.inl rfl) v
theorem ne_type {w : World} {a b : Nat} {ca cb : Array Value} {ta tb : TypeId} {fa fb : Nat × Nat} (ha : w.heap[a]? = some (.cells ca ta fa)) (hb : w.heap[b]? = some (.cells cb tb fb)) (h : ta ≠ tb) : a ≠ b := fun e => by
  subst e; rw [ha] at hb; injection hb with hb; injection hb with _ e2 _; exact h e2
theorem own_typ {w : World} {B z n : Nat} {e : TypeId} {v : Value} {xs : List Value} (h : w.ownsRow B e z v n xs) {q : Nat} (hq : v.ownBlock = some q) : ∃ cs, w.heap[q]? = some (.cells cs e (0, 0)) := by
  rcases h.2 with ⟨rfl, _⟩ | ⟨g, cap, cur, rfl, _, h3, _⟩
  · cases hq
  · injection hq with hq; subst hq; exact ⟨cur, h3⟩
/-- Sets of functions in a row of the call's own; none of their rows is one of these. -/
structure PS (w : World) (B : Nat) (v : Value) (ls : List (List Int)) (bad : Nat → Prop) : Prop where
  ex : ∃ vs : List Value, w.ownsRow B 28 1 v ls.length vs ∧ ∀ (i : Nat) (l : List Int), ls[i]? = some l → ∃ u, vs[i]? = some u ∧ w.ownsRow B 3 1 u l.length (irow l) ∧ ∀ q, u.ownBlock = some q → ¬ bad q
theorem PS.keep {w w' : World} {B : Nat} {v : Value} {ls : List (List Int)} {bad S : Nat → Prop} (h : PS w B v ls bad) (hk : Keeps S w w') (hS : ∀ q, S q → bad q ∨ ∃ cs t, w.heap[q]? = some (.cells cs t (0, 0)) ∧ t ≠ 28 ∧ t ≠ 3) (hb : ∀ q, bad q → q < w.heap.size → ∃ cs t, w.heap[q]? = some (.cells cs t (0, 0)) ∧ t ≠ 28) : PS w' B v ls bad := by
  obtain ⟨vs, h1, h2⟩ := h.ex
  refine ⟨vs, own_kept h1 (fun q hq => hk.block q (ownG_lt h1 q hq) (fun e => ?_)), fun i l hl => ?_⟩
  · obtain ⟨c1, t1⟩ := own_typ h1 hq
    rcases hS q e with e | ⟨cs, t, e1, e2, e3⟩
    · obtain ⟨cs, t, e1, e2⟩ := hb q e (ownG_lt h1 q hq)
      exact ne_type e1 t1 e2 rfl
    · exact ne_type e1 t1 e2 rfl
  · obtain ⟨u, g1, g2, g3⟩ := h2 i l hl
    refine ⟨u, g1, own_kept g2 (fun q hq => hk.block q (ownG_lt g2 q hq) (fun e => ?_)), g3⟩
    rcases hS q e with e | ⟨cs, t, e1, e2, e3⟩
    · exact g3 q hq e
    · obtain ⟨c1, t1⟩ := own_typ g2 hq
      exact ne_type e1 t1 e3 rfl
/-- The finder at R. -/
structure FD (w0 w : World) (R W L P n : Nat) (ca : Option Addr) (cc : Nat) (s : Fdr) (oa : Option Addr) (oc : Nat) (qa : Option Addr) (qc : Nat) : Prop where
  kp : Keeps No w0 w
  lo : w0.heap.size ≤ R ∧ w0.heap.size ≤ W ∧ w0.heap.size ≤ L ∧ w0.heap.size ≤ P
  ne : W ≠ L ∧ W ≠ P ∧ L ≠ P
  row : w.heap[R]? = some (.cells #[.slice ca n cc, .slice (some ⟨W, 0, none⟩) n n, .slice (some ⟨L, 0, none⟩) n n, .slice (some ⟨P, 0, none⟩) n n, .slice oa s.op.length oc, .int .i64 (s.came : Int), .slice qa s.parts.length qc] 56 (0, 0))
  wh : RowAt w W s.when
  lw : RowAt w L s.low
  pt : RowAt w P s.part
  len : s.when.length = n ∧ s.low.length = n ∧ s.part.length = n
  op : w.ownsRow w0.heap.size 3 1 (.slice oa s.op.length oc) s.op.length (irow s.op)
  opn : ∀ q, (Value.slice oa s.op.length oc).ownBlock = some q → q ≠ W ∧ q ≠ L ∧ q ≠ P
  qs : PS w w0.heap.size (.slice qa s.parts.length qc) s.parts (fun q => q = W ∨ q = L ∨ q = P ∨ (Value.slice oa s.op.length oc).ownBlock = some q)
section
variable {w0 w w' : World} {R W L P n : Nat} {ca : Option Addr} {cc : Nat} {s : Fdr} {oa : Option Addr} {oc : Nat} {qa : Option Addr} {qc : Nat}
theorem FD.lt (h : FD w0 w R W L P n ca cc s oa oc qa qc) : R < w.heap.size := (Array.getElem?_eq_some_iff.1 h.row).1
theorem FD.cell (h : FD w0 w R W L P n ca cc s oa oc qa qc) {j : Nat} {v : Value} (hv : #[Value.slice ca n cc, .slice (some ⟨W, 0, none⟩) n n, .slice (some ⟨L, 0, none⟩) n n, .slice (some ⟨P, 0, none⟩) n n, .slice oa s.op.length oc, .int .i64 (s.came : Int), .slice qa s.parts.length qc][j]? = some v) : w.cell? ⟨R, j, none⟩ = some v := by
  rw [cell_of_row w R j _ _ _ h.row]; exact hv
theorem FD.frozen (h : FD w0 w R W L P n ca cc s oa oc qa qc) (j : Nat) : w.frozen? ⟨R, j, none⟩ = false := frozen_of_row w R j _ _ h.row
/-- The blocks of numbers that are written. -/
def Bad (W L P : Nat) (o : Value) (q : Nat) : Prop := q = W ∨ q = L ∨ q = P ∨ o.ownBlock = some q
theorem FD.badT (h : FD w0 w R W L P n ca cc s oa oc qa qc) : ∀ q, (q = W ∨ q = L ∨ q = P ∨ (Value.slice oa s.op.length oc).ownBlock = some q) → ∃ cs, w.heap[q]? = some (.cells cs 3 (0, 0)) := fun q hq => by
  rcases hq with rfl | rfl | rfl | hq
  · exact ⟨_, h.wh⟩
  · exact ⟨_, h.lw⟩
  · exact ⟨_, h.pt⟩
  · exact own_typ h.op hq
theorem FD.qkeep (h : FD w0 w R W L P n ca cc s oa oc qa qc) {S : Nat → Prop} (hk : Keeps S w w') (hS : ∀ q, S q → q = R ∨ q = W ∨ q = L ∨ q = P ∨ (Value.slice oa s.op.length oc).ownBlock = some q) :
    PS w' w0.heap.size (.slice qa s.parts.length qc) s.parts (fun q => q = W ∨ q = L ∨ q = P ∨ (Value.slice oa s.op.length oc).ownBlock = some q) :=
  h.qs.keep hk (fun q hq => by
    rcases hS q hq with rfl | e
    · exact .inr ⟨_, _, h.row, by decide, by decide⟩
    · exact .inl e) (fun q hq _ => by obtain ⟨cs, e⟩ := h.badT q hq; exact ⟨cs, _, e, by decide⟩)
theorem FD.no (h : FD w0 w R W L P n ca cc s oa oc qa qc) (hk : Keeps No w w') : FD w0 w' R W L P n ca cc s oa oc qa qc :=
  ⟨h.kp.trans hk (fun _ _ e => e), h.lo, h.ne, (hk.block _ h.lt (fun e => e)).trans h.row, h.wh.keep hk (fun e => e), h.lw.keep hk (fun e => e), h.pt.keep hk (fun e => e), h.len, own_kept h.op (fun q hq => hk.block q (ownG_lt h.op q hq) (fun e => e)), h.opn, h.qkeep hk (fun _ e => e.elim)⟩
theorem FD.RneI (h : FD w0 w R W L P n ca cc s oa oc qa qc) {q : Nat} {cs : Array Value} (hq : w.heap[q]? = some (.cells cs 3 (0, 0))) : R ≠ q := ne_type h.row hq (by decide)
theorem FD.setW (h : FD w0 w R W L P n ca cc s oa oc qa qc) (i : Nat) (z : Int) : FD w0 (w.setCell ⟨W, i, none⟩ (.int .i64 z)) R W L P n ca cc { s with when := s.when.set i z } oa oc qa qc := by
  have hk := setC w ⟨W, i, none⟩ (.int .i64 z)
  refine ⟨h.kp.trans hk (fun q hq e => by have := h.lo.2.1; simp only at e; omega), h.lo, h.ne, (hk.block _ h.lt (h.RneI h.wh)).trans h.row, h.wh.set i z, h.lw.keep hk (fun e => h.ne.1 e.symm), h.pt.keep hk (fun e => h.ne.2.1 e.symm), ?_, own_kept h.op (fun q hq => hk.block q (ownG_lt h.op q hq) (h.opn q hq).1), h.opn, h.qkeep hk (fun q e => .inr (.inl e))⟩
  exact ⟨by simp only [List.length_set]; exact h.len.1, h.len.2⟩
theorem FD.setL (h : FD w0 w R W L P n ca cc s oa oc qa qc) (i : Nat) (z : Int) : FD w0 (w.setCell ⟨L, i, none⟩ (.int .i64 z)) R W L P n ca cc { s with low := s.low.set i z } oa oc qa qc := by
  have hk := setC w ⟨L, i, none⟩ (.int .i64 z)
  refine ⟨h.kp.trans hk (fun q hq e => by have := h.lo.2.2.1; simp only at e; omega), h.lo, h.ne, (hk.block _ h.lt (h.RneI h.lw)).trans h.row, h.wh.keep hk (fun e => h.ne.1 e), h.lw.set i z, h.pt.keep hk (fun e => h.ne.2.2 e.symm), ?_, own_kept h.op (fun q hq => hk.block q (ownG_lt h.op q hq) (h.opn q hq).2.1), h.opn, h.qkeep hk (fun q e => .inr (.inr (.inl e)))⟩
  exact ⟨h.len.1, by simp only [List.length_set]; exact h.len.2.1, h.len.2.2⟩
theorem FD.setP (h : FD w0 w R W L P n ca cc s oa oc qa qc) (i : Nat) (z : Int) : FD w0 (w.setCell ⟨P, i, none⟩ (.int .i64 z)) R W L P n ca cc { s with part := s.part.set i z } oa oc qa qc := by
  have hk := setC w ⟨P, i, none⟩ (.int .i64 z)
  refine ⟨h.kp.trans hk (fun q hq e => by have := h.lo.2.2.2; simp only at e; omega), h.lo, h.ne, (hk.block _ h.lt (h.RneI h.pt)).trans h.row, h.wh.keep hk (fun e => h.ne.2.1 e), h.lw.keep hk (fun e => h.ne.2.2 e), h.pt.set i z, ?_, own_kept h.op (fun q hq => hk.block q (ownG_lt h.op q hq) (h.opn q hq).2.2), h.opn, h.qkeep hk (fun q e => .inr (.inr (.inr (.inl e))))⟩
  exact ⟨h.len.1, h.len.2.1, by simp only [List.length_set]; exact h.len.2.2⟩
theorem FD.setCame (h : FD w0 w R W L P n ca cc s oa oc qa qc) (k : Nat) : FD w0 (w.setCell ⟨R, 5, none⟩ (.int .i64 (k : Int))) R W L P n ca cc { s with came := k } oa oc qa qc := by
  have hk := setC w ⟨R, 5, none⟩ (.int .i64 (k : Int))
  refine ⟨h.kp.trans hk (fun q hq e => by have := h.lo.1; simp only at e; omega), h.lo, h.ne, ?_, h.wh.keep hk (fun e => h.RneI h.wh e.symm), h.lw.keep hk (fun e => h.RneI h.lw e.symm), h.pt.keep hk (fun e => h.RneI h.pt e.symm), h.len, own_kept h.op (fun q hq => hk.block q (ownG_lt h.op q hq) (fun e => by obtain ⟨cs, hc⟩ := own_typ h.op hq; exact h.RneI hc e.symm)), h.opn, h.qkeep hk (fun q e => .inl e)⟩
  rw [heap_setCell_same w R 5 _ _ _ h.row]; rfl
/-- One more is open: its row has grown, and is told. -/
theorem FD.pushO {z : Int} {g' cap : Nat} (h : FD w0 w R W L P n ca cc s oa oc qa qc) (hk : Keeps (fun q => (Value.slice oa s.op.length oc).ownBlock = some q) w w')
    (ho : w'.ownsRow w0.heap.size 3 1 (.slice (some ⟨g', 0, none⟩) (s.op.length + 1) cap) (s.op.length + 1) (irow (s.op ++ [z]))) (hg : (Value.slice oa s.op.length oc).ownBlock = some g' ∨ w.heap.size ≤ g') :
    FD w0 (w'.setCell ⟨R, 4, none⟩ (.slice (some ⟨g', 0, none⟩) (s.op.length + 1) cap)) R W L P n ca cc { s with op := s.op ++ [z] } (some ⟨g', 0, none⟩) cap qa qc := by
  have hl : (s.op ++ [z]).length = s.op.length + 1 := by simp
  have hn : ∀ q, (Value.slice (some ⟨g', 0, none⟩) (s.op.length + 1) cap).ownBlock = some q → q ≠ W ∧ q ≠ L ∧ q ≠ P := fun q hq => by
    have e1 : g' = q := by injection hq
    subst e1
    rcases hg with hg | hg
    · exact h.opn g' hg
    · have := h.wh.lt; have := h.lw.lt; have := h.pt.lt; omega
  have hR : ∀ q, (Value.slice oa s.op.length oc).ownBlock = some q → q ≠ R := fun q hq e => by obtain ⟨cs, hc⟩ := own_typ h.op hq; exact h.RneI hc e.symm
  have hr : w'.heap[R]? = some (.cells _ _ (0, 0)) := (hk.block _ h.lt (fun e => hR R e rfl)).trans h.row
  have hgR : g' ≠ R := fun e => by
    rcases hg with hg | hg
    · exact hR g' hg e
    · have := h.lt; omega
  have hk2 := setC w' ⟨R, 4, none⟩ (.slice (some ⟨g', 0, none⟩) (s.op.length + 1) cap)
  have t := fun {q : Nat} {l : List Int} (hq : RowAt w q l) (h1 : ¬ (Value.slice oa s.op.length oc).ownBlock = some q) => (hq.keep hk h1).keep hk2 (fun e => h.RneI hq e.symm)
  refine ⟨(h.kp.trans hk (fun q hq e => by have := ownG_lo h.op q e; omega)).trans hk2 (fun q hq e => by have := h.lo.1; simp only at e; omega), h.lo, h.ne, ?_, t h.wh (fun e => (h.opn _ e).1 rfl), t h.lw (fun e => (h.opn _ e).2.1 rfl), t h.pt (fun e => (h.opn _ e).2.2 rfl), h.len, ?_, by rw [hl]; exact hn, ?_⟩
  · rw [heap_setCell_same w' R 4 _ _ _ hr]; simp only [hl]; rfl
  · have hgR' : ∀ q, (Value.slice (some ⟨g', 0, none⟩) (s.op.length + 1) cap).ownBlock = some q → q ≠ R := fun q hq e => by
      have e1 : g' = q := by injection hq
      exact hgR (e1.trans e)
    simp only [hl]
    exact own_kept ho (fun q hq => hk2.block q (ownG_lt ho q hq) (hgR' q hq))
  · have k2 : ∀ q, q < w.heap.size → q ≠ R → (Value.slice oa s.op.length oc).ownBlock ≠ some q → (w'.setCell ⟨R, 4, none⟩ (.slice (some ⟨g', 0, none⟩) (s.op.length + 1) cap)).heap[q]? = w.heap[q]? := fun q h1 h2 h3 =>
      (hk2.block q (Nat.lt_of_lt_of_le h1 hk.size) h2).trans (hk.block q h1 h3)
    obtain ⟨vs, h2, h3⟩ := h.qs.ex
    refine ⟨vs, own_kept h2 (fun q hq => ?_), fun i l hl2 => ?_⟩
    · obtain ⟨cs, hc⟩ := own_typ h2 hq
      refine k2 q (ownG_lt h2 q hq) (fun e => ne_type h.row hc (by decide) e.symm) (fun e => ?_)
      obtain ⟨c1, h1⟩ := own_typ h.op e
      exact ne_type h1 hc (by decide) rfl
    · obtain ⟨u, g1, g2, g3⟩ := h3 i l hl2
      refine ⟨u, g1, own_kept g2 (fun q hq => ?_), fun q hq hb => ?_⟩
      · obtain ⟨cs, hc⟩ := own_typ g2 hq
        exact k2 q (ownG_lt g2 q hq) (fun e => h.RneI hc e.symm) (fun e => g3 q hq (.inr (.inr (.inr e))))
      · rcases hb with e | e | e | e
        · exact g3 q hq (.inl e)
        · exact g3 q hq (.inr (.inl e))
        · exact g3 q hq (.inr (.inr (.inl e)))
        · have e1 : g' = q := by injection e
          subst e1
          rcases hg with hg | hg
          · exact g3 g' hq (.inr (.inr (.inr hg)))
          · have := ownG_lt g2 g' hq; omega
/-- Some are open no more. -/
theorem FD.cutO {g A : Nat} (h : FD w0 w R W L P n ca cc s oa oc qa qc) (hoa : oa = some ⟨g, 0, none⟩) (hA : A ≤ s.op.length) :
    FD w0 (w.setCell ⟨R, 4, none⟩ (.slice (some ⟨g, 0, none⟩) A oc)) R W L P n ca cc { s with op := s.op.take A } (some ⟨g, 0, none⟩) oc qa qc := by
  subst hoa
  have hl : (s.op.take A).length = A := by rw [List.length_take]; omega
  have hk2 := setC w ⟨R, 4, none⟩ (.slice (some ⟨g, 0, none⟩) A oc)
  refine ⟨h.kp.trans hk2 (fun q hq e => by have := h.lo.1; simp only at e; omega), h.lo, h.ne, ?_, h.wh.keep hk2 (fun e => h.RneI h.wh e.symm), h.lw.keep hk2 (fun e => h.RneI h.lw e.symm), h.pt.keep hk2 (fun e => h.RneI h.pt e.symm), h.len, ?_, h.opn, ?_⟩
  · rw [heap_setCell_same w R 4 _ _ _ h.row]; simp only [hl]; rfl
  · simp only [hl]
    have ho := own_kept h.op (fun q hq => hk2.block q (ownG_lt h.op q hq) (fun e => by obtain ⟨cs, hc⟩ := own_typ h.op hq; exact h.RneI hc e.symm))
    rcases ho.2 with ⟨h1, _⟩ | ⟨g1, cap, cur, h1, h2, h3, h4, h5, h6, h7⟩
    · cases h1
    · cases h1
      refine ⟨by unfold irow; rw [List.length_map, hl, Nat.mul_one], .inr ⟨g, oc, cur, rfl, h2, h3, by omega, h5, h6, ?_⟩⟩
      have e : irow (s.op.take A) = (irow s.op).take A := by unfold irow; rw [List.map_take]
      rw [e, ← h7, List.take_take, Nat.mul_one, Nat.mul_one, Nat.min_eq_left hA]
  · exact h.qkeep hk2 (fun q e => .inl e)
/-- One more set is told: the row of sets has grown, and is told. -/
theorem FD.pushQ {l : List Int} {u : Value} {g' cap : Nat} (h : FD w0 w R W L P n ca cc s oa oc qa qc) (hk : Keeps (fun q => (Value.slice qa s.parts.length qc).ownBlock = some q) w w')
    (vs : List Value) (h2 : w.ownsRow w0.heap.size 28 1 (.slice qa s.parts.length qc) s.parts.length vs) (h3 : ∀ (i : Nat) (l : List Int), s.parts[i]? = some l → ∃ u, vs[i]? = some u ∧ w.ownsRow w0.heap.size 3 1 u l.length (irow l) ∧ ∀ q, u.ownBlock = some q → ¬ (q = W ∨ q = L ∨ q = P ∨ (Value.slice oa s.op.length oc).ownBlock = some q))
    (hu : w.ownsRow w0.heap.size 3 1 u l.length (irow l)) (hub : ∀ q, u.ownBlock = some q → ¬ (q = W ∨ q = L ∨ q = P ∨ (Value.slice oa s.op.length oc).ownBlock = some q))
    (ho : w'.ownsRow w0.heap.size 28 1 (.slice (some ⟨g', 0, none⟩) (s.parts.length + 1) cap) (s.parts.length + 1) (vs ++ [u])) (hg : (Value.slice qa s.parts.length qc).ownBlock = some g' ∨ w.heap.size ≤ g') :
    FD w0 (w'.setCell ⟨R, 6, none⟩ (.slice (some ⟨g', 0, none⟩) (s.parts.length + 1) cap)) R W L P n ca cc { s with parts := s.parts ++ [l] } oa oc (some ⟨g', 0, none⟩) cap := by
  have hl : (s.parts ++ [l]).length = s.parts.length + 1 := by simp
  have hR : ∀ q, (Value.slice qa s.parts.length qc).ownBlock = some q → q ≠ R := fun q hq e => by obtain ⟨cs, hc⟩ := own_typ h2 hq; exact ne_type h.row hc (by decide) e.symm
  have hr : w'.heap[R]? = some (.cells _ _ (0, 0)) := (hk.block _ h.lt (fun e => hR R e rfl)).trans h.row
  have hgR : g' ≠ R := fun e => by
    rcases hg with hg | hg
    · exact hR g' hg e
    · have := h.lt; omega
  have hk2 := setC w' ⟨R, 6, none⟩ (.slice (some ⟨g', 0, none⟩) (s.parts.length + 1) cap)
  have k2 : ∀ q, q < w.heap.size → (∃ cs, w.heap[q]? = some (.cells cs 3 (0, 0))) → (w'.setCell ⟨R, 6, none⟩ (.slice (some ⟨g', 0, none⟩) (s.parts.length + 1) cap)).heap[q]? = w.heap[q]? := fun q h1 ⟨cs, hc⟩ =>
    (hk2.block q (Nat.lt_of_lt_of_le h1 hk.size) (fun e => h.RneI hc e.symm)).trans (hk.block q h1 (fun e => by obtain ⟨c1, hd⟩ := own_typ h2 e; exact ne_type hd hc (by decide) rfl))
  have t := fun {q : Nat} {l : List Int} (hq : RowAt w q l) => ((k2 q hq.lt ⟨_, hq⟩).trans hq : RowAt _ q l)
  have ow := fun {v : Value} {l : List Int} (hv : w.ownsRow w0.heap.size 3 1 v l.length (irow l)) => own_kept hv (fun q hq => k2 q (ownG_lt hv q hq) (own_typ hv hq))
  refine ⟨(h.kp.trans hk (fun q hq e => by have := ownG_lo h2 q e; omega)).trans hk2 (fun q hq e => by have := h.lo.1; simp only at e; omega), h.lo, h.ne, ?_, t h.wh, t h.lw, t h.pt, h.len, ow h.op, h.opn, ?_⟩
  · rw [heap_setCell_same w' R 6 _ _ _ hr]; simp only [hl]; rfl
  · refine ⟨vs ++ [u], ?_, fun i l2 hl2 => ?_⟩
    · rw [hl]
      exact own_kept ho (fun q hq => hk2.block q (ownG_lt ho q hq) (fun e => by
        have e1 : g' = q := by injection hq
        exact hgR (e1.trans e)))
    · have hvl : vs.length = s.parts.length := by have := h2.1; omega
      by_cases hi : i < s.parts.length
      · rw [List.getElem?_append_left hi] at hl2
        obtain ⟨y, g1, g2, g3⟩ := h3 i l2 hl2
        exact ⟨y, by rw [List.getElem?_append_left (by omega)]; exact g1, ow g2, g3⟩
      · have hi2 : i = s.parts.length := by have := (List.getElem?_eq_some_iff.1 hl2).1; rw [hl] at this; omega
        subst hi2
        rw [List.getElem?_append_right (Nat.le_refl _), Nat.sub_self] at hl2
        obtain rfl : l = l2 := by simpa using hl2
        exact ⟨u, by rw [List.getElem?_append_right (by omega), hvl, Nat.sub_self]; rfl, ow hu, hub⟩
/-- The finder, when but its own block and the row of sets' numbers were written. -/
theorem FD.rejoin {p : List Int} {A : Nat} {g : Nat} (h : FD w0 w R W L P n ca cc s (some ⟨g, 0, none⟩) oc qa qc) (hA : A ≤ s.op.length) (hk : Keeps (fun q => q = R ∨ q = P) w w')
    (hr : w'.heap[R]? = some (.cells #[.slice ca n cc, .slice (some ⟨W, 0, none⟩) n n, .slice (some ⟨L, 0, none⟩) n n, .slice (some ⟨P, 0, none⟩) n n, .slice (some ⟨g, 0, none⟩) A oc, .int .i64 (s.came : Int), .slice qa s.parts.length qc] 56 (0, 0))) (hp : RowAt w' P p) (hpl : p.length = n) :
    FD w0 w' R W L P n ca cc { s with part := p, op := s.op.take A } (some ⟨g, 0, none⟩) oc qa qc := by
  have hl : (s.op.take A).length = A := by rw [List.length_take]; omega
  have t := fun {q : Nat} {l : List Int} (hq : RowAt w q l) (h1 : q ≠ P) => hq.keep hk (fun e => by rcases e with e | e; exact h.RneI hq e.symm; exact h1 e)
  refine ⟨h.kp.trans hk (fun q hq e => by have := h.lo; omega), h.lo, h.ne, by simp only [hl]; exact hr, t h.wh h.ne.2.1, t h.lw h.ne.2.2, hp, ⟨h.len.1, h.len.2.1, hpl⟩, ?_, h.opn, ?_⟩
  · simp only [hl]
    have ho := own_kept h.op (fun q hq => hk.block q (ownG_lt h.op q hq) (fun e => by
      rcases e with e | e
      · obtain ⟨cs, hc⟩ := own_typ h.op hq; exact h.RneI hc e.symm
      · exact (h.opn q hq).2.2 e))
    rcases ho.2 with ⟨h1, _⟩ | ⟨g1, cap, cur, h1, h2, h3, h4, h5, h6, h7⟩
    · cases h1
    · cases h1
      refine ⟨by unfold irow; rw [List.length_map, hl, Nat.mul_one], .inr ⟨g, oc, cur, rfl, h2, h3, by omega, h5, h6, ?_⟩⟩
      have e : irow (s.op.take A) = (irow s.op).take A := by unfold irow; rw [List.map_take]
      rw [e, ← h7, List.take_take, Nat.mul_one, Nat.mul_one, Nat.min_eq_left hA]
  · exact h.qkeep hk (fun q e => by rcases e with e | e; exact .inl e; exact .inr (.inr (.inr (.inl e))))
end
/-- While a set's functions are told their set: its row pv is new. -/
structure TS (w0 w : World) (R P n : Nat) (cr : Array Value) (pv : Value) (pl pk : List Int) : Prop where
  kp : Keeps (fun q => q = R ∨ q = P) w0 w
  row : w.heap[R]? = some (.cells cr 56 (0, 0))
  pt : RowAt w P pk
  len : pk.length = n
  own : w.ownsRow w0.heap.size 3 1 pv pl.length (irow pl)
  lt : P < w0.heap.size
section
variable {w0 w w' : World} {R P n : Nat} {cr : Array Value} {pv : Value} {pl pk : List Int}
theorem TS.no (h : TS w0 w R P n cr pv pl pk) (hk : Keeps No w w') : TS w0 w' R P n cr pv pl pk :=
  ⟨h.kp.trans hk (fun _ _ e => e.elim), (hk.block _ (Array.getElem?_eq_some_iff.1 h.row).1 (fun e => e)).trans h.row, h.pt.keep hk (fun e => e), h.len, own_kept h.own (fun q hq => hk.block q (ownG_lt h.own q hq) (fun e => e)), h.lt⟩
theorem TS.cell (h : TS w0 w R P n cr pv pl pk) {j : Nat} {v : Value} (hv : cr[j]? = some v) : w.cell? ⟨R, j, none⟩ = some v := by
  rw [cell_of_row w R j _ _ _ h.row]; exact hv
theorem TS.set (h : TS w0 w R P n cr pv pl pk) (u : Nat) (k : Int) : TS w0 (w.setCell ⟨P, u, none⟩ (.int .i64 k)) R P n cr pv pl (pk.set u k) := by
  have hk := setC w ⟨P, u, none⟩ (.int .i64 k)
  refine ⟨h.kp.trans hk (fun q _ e => .inr e), (hk.block _ (Array.getElem?_eq_some_iff.1 h.row).1 (ne_type h.row h.pt (by decide))).trans h.row, h.pt.set u k, by rw [List.length_set]; exact h.len, own_kept h.own (fun q hq => hk.block q (ownG_lt h.own q hq) (fun e => ?_)), h.lt⟩
  have := ownG_lo h.own q hq
  have := h.lt
  simp only at e
  omega
end
end Go.Proofs.YtkiimljdoebclaaDoor
/- slices.Clone, Index, Contains of numbers. -/
namespace Go.Proofs.YtkiimljdoebclaaDoor
open Go.RowKit
set_option linter.unusedVariables false
set_option linter.unusedSimpArgs false

def Stop (p : Prop) : Prop := p
theorem stop_here {p : Prop} (h : Stop p) : p := h
set_option maxRecDepth 100000 in
set_option maxHeartbeats 3200000 in
theorem clone_any (w : World) (g off m c : Nat) (l : List Int) (hl : l.length = m) (h0 : 0 < m) (hm : m ≤ 999999) (hc : ∀ (j : Nat) z, l[j]? = some z → w.cell? ⟨g, off + j, none⟩ = some (.int .i64 z)) :
    Calls Tryd.prog 41 #[.slice (some ⟨g, off, none⟩) m c] w fun e w' => ∃ g' cap, e = .returned (.slice (some ⟨g', 0, none⟩) m cap) ∧ w'.ownsRow w.heap.size 3 1 (.slice (some ⟨g', 0, none⟩) m cap) m (irow l) ∧ Keeps No w w' := by
  have HC := Lib.hid hc
  clear hc
  have q : ∀ (w : World) (a : Option Addr) (n c n' c' : Nat), (binOp .eql 28 (.slice a n c) (.slice none n' c')).run Tryd.prog w = .ok (.bool a.isNone) w := fun w a n c n' c' => Lib.run_eql_slice_nil w _ _ a n c n' c' Tryd.underlying28
  go_enter Tryd.func41, Tryd.ntmps41
  go_wp2_with (at_builtin; refine stop_here ?_)
  unfold Stop
  have hn : (w.alloc (.cells #[] 3)).heap[w.heap.size]? = some (.cells #[] 3 (0, 0)) := heap_alloc_new _ _
  have hk0 : Keeps No w (w.alloc (.cells #[] 3)) := (Keeps.refl _ _).alloc _
  have HC1 : Hid (∀ (j : Nat) z, l[j]? = some z → (w.alloc (.cells #[] 3)).cell? ⟨g, off + j, none⟩ = some (.int .i64 z)) := Lib.hid (fun j z hz => hk0.cell0 (HC.out j z hz))
  have HO : Hid ((w.alloc (.cells #[] 3)).ownsRow w.heap.size 3 1 (.slice (some ⟨w.heap.size, 0, none⟩) 0 0) 0 (irow [])) := Lib.hid ⟨rfl, .inr ⟨w.heap.size, 0, #[], rfl, Nat.le_refl _, hn, Nat.le_refl _, Nat.zero_le _, rfl, rfl⟩⟩
  have HS : Hid (w.heap.size ≤ (w.alloc (.cells #[] 3)).heap.size) := Lib.hid hk0.size
  have HK0 := Lib.hid hk0
  clear hn hk0
  refine wpList_appIs _ rfl (.tmp 5) (.tmp 6) 28 rfl Tryd.underlying28 w.heap.size (.slice (some ⟨w.heap.size, 0, none⟩) 0 0) 0 [] l g off m c m (Nat.zero_add m) rfl HO.out rfl hl h0 HC1.out (by omega) HS.out ?_
  intro g' cap w2 ho hg
  have hk2 : Keeps No w w2 := HK0.out.trans ((Keeps.refl (fun q => q = w.heap.size) _).grown hg (fun q e => .inl (by injection e with e; exact e.symm))) (fun q hq e => by omega)
  have HOK := Lib.hid (And.intro ho hk2)
  clear ho hg hk2
  go_wp2_with fail
  go_returns
  exact ⟨g', cap, rfl, HOK.out.1, HOK.out.2⟩
set_option maxHeartbeats 3200000 in
theorem index_any (w : World) (s : Sl) (x : Int) (hs : SlAt w s) (hn : s.n ≤ 1000000) :
    Calls Tryd.prog 34 #[s.v, .int .i64 x] w fun e w' => ∃ K : Int, e = .returned (.int .i64 K) ∧ (0 ≤ K ↔ x ∈ s.l) ∧ w' = w := by
  have HS := Lib.hid hs
  have hcs := hs.cap
  unfold maxLen at hcs
  clear hs
  obtain ⟨sa, sn, sc, sl⟩ := s
  simp only at hn hcs
  change Calls Tryd.prog 34 #[.slice sa sn sc, .int .i64 x] w _
  go_enter Tryd.func34, Tryd.ntmps34
  go_wp2_with fail
  go_loopg [8] sn (fun k v wr => ∃ i : Nat, v = .int .i64 (i : Int) ∧ i ≤ sn ∧ k = sn - i ∧ Hid (x ∉ sl.take i) ∧ wr = w)
  case atStart => exact ⟨0, rfl, Nat.zero_le _, rfl, Lib.hid (by simp), rfl⟩
  case round =>
    obtain ⟨i, rfl, hi, hg, HN, rfl⟩ := hrel
    by_cases hlt : i < sn
    · have hlt' : (i : Int) < (sn : Int) := by omega
      have i0 : (0 : Int) ≤ (i : Int) := by omega
      obtain ⟨b1, o1, z, hz, rfl, c1⟩ := HS.out.get hlt
      have HZ := Lib.hid hz
      clear hz
      by_cases hxz : x = z
      · have e2 : (x == z) = true := beq_iff_eq.2 hxz
        have HM : Hid (x ∈ sl) := Lib.hid (by rw [hxz]; exact List.mem_of_getElem? HZ.out)
        clear hxz
        go_wp2_with fail
        go_returns
        exact ⟨_, rfl, ⟨fun _ => HM.out, fun _ => i0⟩, rfl⟩
      · have e2 : (x == z) = false := beq_eq_false_iff_ne.2 hxz
        have HX := Lib.hid hxz
        clear hxz
        go_wp2_with fail
        go_roundg (sn - (i + 1))
        case rel => exact ⟨i + 1, by go_num, by omega, rfl, Lib.hid (by
          have h := HZ.out
          rw [List.take_add_one, h]
          simp only [Option.toList_some, List.mem_append, List.mem_singleton]
          rintro (e | e)
          · exact HN.out e
          · exact HX.out e), rfl⟩
        case measure => omega
    · obtain rfl : i = sn := by omega
      have hlt' : ¬ (i : Int) < (i : Int) := by omega
      have HM : Hid (x ∉ sl) := Lib.hid (by
        have h := HN.out
        rw [List.take_of_length_le (by have := HS.out.len; simp only at this; omega)] at h
        exact h)
      go_wp2_with fail
      go_returns
      exact ⟨-1, rfl, ⟨fun h => absurd h (by decide), fun h => absurd h HM.out⟩, rfl⟩
theorem contains_any (w : World) (s : Sl) (x : Int) (hs : SlAt w s) (hn : s.n ≤ 1000000) :
    Calls Tryd.prog 22 #[s.v, .int .i64 x] w fun e w' => e = .returned (.bool (decide (x ∈ s.l))) ∧ w' = w := by
  have HI := Lib.hid (index_any w s x hs hn)
  obtain ⟨sa, sn, sc, sl⟩ := s
  clear hs hn
  obtain ⟨X, hX⟩ : ∃ X, decide (x ∈ sl) = X := ⟨_, rfl⟩
  simp only
  rw [hX]
  have HX := Lib.hid hX
  clear hX
  change Calls Tryd.prog 22 #[.slice sa sn sc, .int .i64 x] w _
  go_enter Tryd.func22, Tryd.ntmps22
  go_wp2_with fail
  refine HI.out.mono ?_
  rintro e w1 ⟨K, rfl, hK, rfl⟩
  have HK := Lib.hid hK
  clear hK HI
  go_wp2_with fail
  go_returns
  exact ⟨rb rfl (by rw [← HX.out]; by_cases h : (0 : Int) ≤ K
                    · simp [h, HK.out.1 h]
                    · have hn : ¬ x ∈ sl := fun e => h (HK.out.2 e)
                      simp [h, hn]), rfl⟩
end Go.Proofs.YtkiimljdoebclaaDoor
