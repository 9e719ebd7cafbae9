/- Rows of cells that grow. -/
import Derived.Test.YtjchfldlmabblaaMmLow
import Derived.Deep.AppendLies
import Derived.Deep.LoopGhost
import Derived.OwnWalk
namespace Go.Proofs.Ytjchfldlmabblaa
open Go.RowKit Go.Maps
set_option linter.unusedVariables false

def crow (l : List Ck) : List Value := l.flatMap (fun t => [.int .i64 t.1, .string t.2])
theorem crow_snoc (l : List Ck) (t : Ck) : crow (l ++ [t]) = crow l ++ [.int .i64 t.1, .string t.2] := by unfold crow; rw [List.flatMap_append]; simp
theorem crow_get (l : List Ck) (k : Nat) (t : Ck) (h : l[k]? = some t) : (crow l)[k * 2]? = some (.int .i64 t.1) ∧ (crow l)[k * 2 + 1]? = some (.string t.2) := by
  induction l generalizing k with
  | nil => cases h
  | cons a l ih =>
    have e : crow (a :: l) = [.int .i64 a.1, .string a.2] ++ crow l := by unfold crow; rw [List.flatMap_cons]
    rw [e]
    cases k with
    | zero => injection h with h; subst h; exact ⟨rfl, rfl⟩
    | succ k =>
      obtain ⟨h1, h2⟩ := ih k h
      rw [show (k + 1) * 2 = k * 2 + 2 by omega, show k * 2 + 2 + 1 = (k * 2 + 1) + 2 by omega]
      exact ⟨h1, h2⟩
def cellInfo (e : TypeId) : Prop := (Try.prog.info? e).map (fun i => (i.zero, i.size, i.bytes)) = some (some (.agg #[.int .i64 0, .string ⟨#[]⟩]), 2, 24)
theorem infoC : cellInfo 35 := by unfold cellInfo; kernel_rfl
/-- A cell is appended, at the operation. -/
theorem wpList_app2 (w : World) {ops : Array Oper} {rest : List Oper} {o : Oper} {a : Act} {Q : Exit → Act → World → Prop} (hgd : o.guard = none) (s x : Operand) (t e : TypeId)
    (ho : o.op = .call { callee := .builtin .append, args := #[s, x], argTypes := #[t, t] }) (ht : Try.prog.underlying t = some (.slice e)) (hinf : cellInfo e)
    (B : Nat) (v : Value) (n : Nat) (l : List Ck) (T : Int) (S : ByteArray) (q : Nat) (hs : a.eval s = v) (hown : w.ownsRow B e 2 v n (crow l)) (hx : a.eval x = .slice (some ⟨q, 0, none⟩) 1 1) (hq : w.heap[q]? = some (.cells #[.int .i64 T, .string S] e (0, 0)))
    (hn : n ≤ 1000000) (hB : B ≤ w.heap.size) (H : Nat) (hH : w.heap.size = H)
    (h : ∀ g cap w', w'.ownsRow B e 2 (.slice (some ⟨g, 0, none⟩) (n + 1) cap) (n + 1) (crow l ++ [.int .i64 T, .string S]) → w.grownBy w' v.ownBlock → (v.ownBlock = some g ∨ g = H) → wpList Try.prog ops Q rest (a.put o.dst (.slice (some ⟨g, 0, none⟩) (n + 1) cap)) w') : wpList Try.prog ops Q (o :: rest) a w := by
  obtain ⟨i0, hi, hz0, hz1, hz2⟩ := info_parts hinf
  refine wpList_append_lies w hgd s x t ho B e i0 (.agg #[.int .i64 0, .string ⟨#[]⟩]) 2 24 ht hi hz0 hz1 hz2 rfl (by decide) v n (crow l) hs hown ⟨q, 0, none⟩ 1 1 [.int .i64 T, .string S] hx rfl ?_ ?_ (by decide) (by unfold maxLen; omega) (by omega) hB H hH (fun g cap w' k1 k2 k3 _ => h g cap w' k1 k2 k3)
  · intro j u hj
    match j, hj with
    | 0, hj => simp at hj; subst hj; simp [Addr.add, World.cell?, hq]
    | 1, hj => simp at hj; subst hj; simp [Addr.add, World.cell?, hq]
  · intro u hu; simp at hu; rcases hu with rfl | rfl <;> rfl
theorem CellsIn.of_row {w : World} {B : Nat} {e : TypeId} {a : Option Addr} {n cap : Nat} {l : List Ck} (h : w.ownsRow B e 2 (.slice a n cap) n (crow l)) (hl : l.length = n) (hb : ∀ t ∈ l, ckOk t) : CellsIn w a n l := by
  refine ⟨hl, hb, fun hn => ?_⟩
  obtain ⟨aa, ca, he, hg⟩ := own_form h
  injection he with e1 e2 e3
  subst e1 e3
  obtain ⟨g, rfl⟩ := hg hn
  refine ⟨g, 0, rfl, fun i t ht => ?_⟩
  have hi : i < n := by rw [← hl]; exact (List.getElem?_eq_some_iff.1 ht).1
  obtain ⟨r1, r2⟩ := crow_get l i t ht
  rw [Nat.zero_add]
  exact ⟨(h.cellAt (i * 2) (by omega)).trans r1, (h.cellAt (i * 2 + 1) (by omega)).trans r2⟩
theorem CellsIn.keep {w w' : World} {a : Option Addr} {n : Nat} {l : List Ck} (h : CellsIn w a n l) (hk : ∀ b off, a = some ⟨b, off, none⟩ → b < w.heap.size → w'.heap[b]? = w.heap[b]?) : CellsIn w' a n l := by
  refine ⟨h.len, h.bd, fun hn => ?_⟩
  obtain ⟨b, off, rfl, hc⟩ := h.at_ hn
  refine ⟨b, off, rfl, fun i t ht => ?_⟩
  obtain ⟨c1, c2⟩ := hc i t ht
  have e := hk b off rfl (block_lt_of_cell c1)
  refine ⟨?_, ?_⟩
  · unfold World.cell? at c1 ⊢; simp only at c1 ⊢; rw [e]; exact c1
  · unfold World.cell? at c2 ⊢; simp only at c2 ⊢; rw [e]; exact c2
end Go.Proofs.Ytjchfldlmabblaa
