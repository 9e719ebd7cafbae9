/- calls: those that each function calls. -/
import Derived.Test.YtkiimljdoebclaaDoorGrAdd
import Derived.Test.YtkiimljdoebclaaDoorGrLists
import Derived.Deep.DeepCutAuto
namespace Go.Proofs.YtkiimljdoebclaaDoor
open Go.RowKit Gm
set_option linter.unusedVariables false
set_option linter.unusedSimpArgs false

theorem own_fullG {w : World} {B g n : Nat} {e : TypeId} {xs : List Value} (h : w.ownsRow B e 1 (.slice (some ⟨g, 0, none⟩) n n) n xs) : w.heap[g]? = some (.cells xs.toArray e (0, 0)) := by
  rcases h.2 with ⟨h1, _⟩ | ⟨g1, cap, cur, h1, _, h3, _, _, h6, h7⟩
  · cases h1
  · injection h1 with h1 _ h2
    injection h1 with h1
    injection h1 with h1
    subst h1 h2
    rw [h3]
    have e : cur.toList = xs := by rw [← h7, List.take_of_length_le (by simp; omega)]
    rw [← e]
theorem made_one (z : Value) (n : Nat) : (madeCells #[z] (n * 1)).toList = List.replicate n z := by
  rw [Nat.mul_one]; exact toList_madeCells_one z n
section
variable (w : World) {ops : Array Oper} {rest : List Oper} {o : Oper} {a : Act} {Q : Exit → Act → World → Prop}
theorem wpList_makeI (hg : o.guard = none) (l : Operand) (hop : o.op = Op.makeSlice 28 l l) (n : Nat) (hl : a.eval l = .int .i64 (n : Int)) (hn : n ≤ 1000000)
    (h : ∀ w', w'.heap[w.heap.size]? = some (.cells (List.replicate n (Value.int .i64 0)).toArray 3 (0, 0)) → Keeps No w w' → wpList Tryd.prog ops Q rest (a.put o.dst (.slice (some ⟨w.heap.size, 0, none⟩) n n)) w') : wpList Tryd.prog ops Q (o :: rest) a w := by
  obtain ⟨i0, hi, hz0, hz1, hz2⟩ := info_parts infoI
  refine wpList_make_full w hg l l 28 hop w.heap.size 3 i0 _ 1 Tryd.underlying28 hi hz0 hz1 .i64 .i64 (n : Int) (n : Int) n hl hl rfl rfl (by rw [hz2]; omega) (by unfold maxLen; omega) (Nat.le_refl _) (fun w' ho hgr => ?_)
  refine h w' ?_ ((Keeps.refl _ _).grown hgr (fun q e => by cases e))
  have e := own_fullG ho
  rw [e, ← made_one]; rfl
theorem wpList_makeS (hg : o.guard = none) (l : Operand) (hop : o.op = Op.makeSlice 29 l l) (n : Nat) (hl : a.eval l = .int .i64 (n : Int)) (hn : n ≤ 1000000)
    (h : ∀ w', w'.heap[w.heap.size]? = some (.cells (List.replicate n (Value.slice none 0 0)).toArray 28 (0, 0)) → Keeps No w w' → wpList Tryd.prog ops Q rest (a.put o.dst (.slice (some ⟨w.heap.size, 0, none⟩) n n)) w') : wpList Tryd.prog ops Q (o :: rest) a w := by
  obtain ⟨i0, hi, hz0, hz1, hz2⟩ := info_parts infoSI
  refine wpList_make_full w hg l l 29 hop w.heap.size 28 i0 _ 1 Tryd.underlying29 hi hz0 hz1 .i64 .i64 (n : Int) (n : Int) n hl hl rfl rfl (by rw [hz2]; omega) (by unfold maxLen; omega) (Nat.le_refl _) (fun w' ho hgr => ?_)
  refine h w' ?_ ((Keeps.refl _ _).grown hgr (fun q e => by cases e))
  have e := own_fullG ho
  rw [e, ← made_one]; rfl
end
/-- calls under way: f functions gone over. -/
structure CO (w0 w : World) (SB SE OB n f : Nat) (rows : List (List Int)) : Prop where
  kp : Keeps No w0 w
  lo : w0.heap.size ≤ SB ∧ w0.heap.size ≤ SE ∧ w0.heap.size ≤ OB
  ne : SB ≠ OB
  sb : w.heap[SB]? = some (.cells #[.slice (some ⟨SE, 0, none⟩) n n] 28 (0, 0))
  se : ∃ sn, RowAt w SE sn ∧ sn.length = n ∧ ∀ (g : Nat) x, sn[g]? = some x → x ≤ (f : Int)
  ob : ∃ vs : List Value, w.heap[OB]? = some (.cells (vs ++ List.replicate (n - f) (Value.slice none 0 0)).toArray 28 (0, 0)) ∧ vs.length = f ∧ ∀ (i : Nat) (l : List Int), rows[i]? = some l → ∃ u, vs[i]? = some u ∧ w.ownsRow w0.heap.size 3 1 u l.length (irow l) ∧ ∀ q, u.ownBlock = some q → q ≠ SE
  rl : rows.length = f
section
variable {w0 w w' : World} {SB SE OB n f : Nat} {rows : List (List Int)}
theorem CO.no (h : CO w0 w SB SE OB n f rows) (hk : Keeps No w w') : CO w0 w' SB SE OB n f rows := by
  obtain ⟨sn, s1, s2, s3⟩ := h.se
  obtain ⟨vs, o1, o2, o3⟩ := h.ob
  refine ⟨h.kp.trans hk (fun _ _ e => e), h.lo, h.ne, (hk.block _ (Array.getElem?_eq_some_iff.1 h.sb).1 (fun e => e)).trans h.sb, ⟨sn, s1.keep hk (fun e => e), s2, s3⟩, ⟨vs, (hk.block _ (Array.getElem?_eq_some_iff.1 o1).1 (fun e => e)).trans o1, o2, fun i l hl => ?_⟩, h.rl⟩
  obtain ⟨u, u1, u2, u3⟩ := o3 i l hl
  exact ⟨u, u1, own_kept u2 (fun q hq => hk.block q (ownG_lt u2 q hq) (fun e => e)), u3⟩
/-- One function's row is told. -/
theorem CO.put {u : Value} {l : List Int} {w1 : World} (h : CO w0 w SB SE OB n f rows) (hf : f < n) (hk : Keeps (fun q => q = SE) w w1) (hs : ∃ sn, RowAt w1 SE sn ∧ sn.length = n ∧ ∀ (g : Nat) x, sn[g]? = some x → x ≤ ((f + 1 : Nat) : Int))
    (hu : w1.ownsRow w.heap.size 3 1 u l.length (irow l)) : CO w0 (w1.setCell ⟨OB, f, none⟩ u) SB SE OB n (f + 1) (rows ++ [l]) := by
  obtain ⟨sn, s1, s2, s3⟩ := hs
  obtain ⟨s0, t1, t2, t3⟩ := h.se
  obtain ⟨vs, o1, o2, o3⟩ := h.ob
  have hlt := (Array.getElem?_eq_some_iff.1 o1).1
  have hOSE : OB ≠ SE := ne_type o1 t1 (by decide)
  have hSSE : SB ≠ SE := ne_type h.sb t1 (by decide)
  have o1' := (hk.block _ hlt hOSE).trans o1
  have hk2 := setC w1 ⟨OB, f, none⟩ u
  refine ⟨(h.kp.trans hk (fun q hq e => by have := h.lo; omega)).trans hk2 (fun q hq e => by have := h.lo; simp only at e; omega), h.lo, h.ne, ?_, ⟨sn, s1.keep hk2 (fun e => hOSE e.symm), s2, s3⟩, ⟨vs ++ [u], ?_, by simp [o2], fun i l2 hl => ?_⟩, by simp [h.rl]⟩
  · have hb := (hk.block _ (Array.getElem?_eq_some_iff.1 h.sb).1 hSSE).trans h.sb
    exact (hk2.block _ (Array.getElem?_eq_some_iff.1 hb).1 h.ne).trans hb
  · rw [heap_setCell_same w1 OB f _ _ _ o1']
    have e : (vs ++ List.replicate (n - f) (Value.slice none 0 0)).set f u = (vs ++ [u]) ++ List.replicate (n - (f + 1)) (Value.slice none 0 0) := by
      rw [List.set_append_right _ _ (by omega), o2, Nat.sub_self, show n - f = (n - (f + 1)) + 1 by omega, List.replicate_succ, List.set_cons_zero, List.append_assoc]; rfl
    rw [← e]; simp
  · by_cases hi : i < rows.length
    · rw [List.getElem?_append_left hi] at hl
      obtain ⟨y, y1, y2, y3⟩ := o3 i l2 hl
      refine ⟨y, by rw [List.getElem?_append_left (by rw [o2, ← h.rl]; exact hi)]; exact y1, own_kept y2 (fun q hq => ?_), y3⟩
      have hq1 := ownG_lt y2 q hq
      refine (hk2.block q (Nat.lt_of_lt_of_le hq1 hk.size) (fun e => ?_)).trans (hk.block q hq1 (y3 q hq))
      obtain ⟨cs, hc⟩ := own_typ y2 hq
      exact ne_type o1 hc (by decide) e.symm
    · have hi2 : i = rows.length := by have := (List.getElem?_eq_some_iff.1 hl).1; simp at this; omega
      subst hi2
      rw [List.getElem?_append_right (Nat.le_refl _), Nat.sub_self] at hl
      obtain rfl : l = l2 := by simpa using hl
      have hlo := ownG_lo hu
      refine ⟨u, by rw [List.getElem?_append_right (by rw [o2, h.rl]; exact Nat.le_refl _), o2, h.rl, Nat.sub_self]; rfl, own_mono (own_kept hu (fun q hq => hk2.block q (ownG_lt hu q hq) (fun e => ?_))) h.kp.size, fun q hq e => ?_⟩
      · have := hlo q hq; simp only at e; omega
      · have := hlo q hq; have := t1.lt; omega
end
end Go.Proofs.YtkiimljdoebclaaDoor
