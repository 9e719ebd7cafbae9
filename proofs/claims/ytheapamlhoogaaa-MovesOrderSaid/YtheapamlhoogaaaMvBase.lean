/- What the walks of moves share: maps of numbers that a call makes, rows of moves. -/
import Derived.Test.YtheapamlhoogaaaProg
import Derived.WalkKit
import Derived.WalkSpells
import Derived.WalkLawsBesides
import Derived.RowKit3
import Derived.Handy
import Derived.Lib.Hide
import Derived.OneCell
import Derived.IntWalk
import Derived.KernelRfl
import Derived.Deep.LoopGhost
import Derived.Deep.AppendLies
import Derived.Deep.Onto
import Derived.Maps.OwnSet
import Derived.Maps.OwnOps
import Derived.Maps.Views
import Derived.Test.YtheapamlhoogaaaMvM
namespace Go.Proofs.Ytheapamlhoogaaa
open Go.RowKit Go.Maps
set_option linter.unusedVariables false

theorem rb {v : Value} {a b : Bool} (hv : v = .bool a) (h : a = b) : Ending.returned v = .returned (.bool b) := by rw [hv, h]
theorem ri {v : Value} {k : IntKind} {a b : Int} (hv : v = .int k a) (h : a = b) : Ending.returned v = .returned (.int k b) := by rw [hv, h]
theorem heap_two (w : World) (o : Obj) : (w.alloc o).heap.size = w.heap.size + 1 := by simp
theorem own_to {w w' : World} {B n z : Nat} {e : TypeId} {v : Value} {xs : List Value} (h : w.ownsRow B e z v n xs) (hb : Below w.heap.size w w') : w'.ownsRow B e z v n xs :=
  h.kept (row := none) ⟨hb.os, hb.tape, hb.output, hb.size, fun k hk _ => hb.block k hk⟩ (by cases hv : v.ownBlock with
    | none => exact .inl rfl
    | some q => exact .inr (by simp))
theorem own_form {w : World} {B : Nat} {e : TypeId} {z n : Nat} {v : Value} {xs : List Value} (h : w.ownsRow B e z v n xs) : ∃ aa ca, v = .slice aa n ca ∧ (0 < n → ∃ g, aa = some ⟨g, 0, none⟩) := by
  rcases h.2 with ⟨h1, h2⟩ | ⟨g, cap, cur, h1, _⟩
  · exact ⟨none, 0, by rw [h2]; exact h1, fun h => by omega⟩
  · exact ⟨_, _, h1, fun _ => ⟨g, rfl⟩⟩
def I64 (x : Int) : Prop := -9223372036854775808 ≤ x ∧ x ≤ 9223372036854775807
theorem I64.wf {x : Int} (h : I64 x) : (Lit.int .i64 x).wf = true := by
  have h1 : IntKind.i64.min = -9223372036854775808 := rfl
  have h2 : IntKind.i64.max = 9223372036854775807 := rfl
  simp [Lit.wf]
  unfold I64 at h; omega
theorem wf_I64 {z : Int} (h : (Lit.int .i64 z).wf = true) : I64 z := by
  have h1 : IntKind.i64.min = -9223372036854775808 := rfl
  have h2 : IntKind.i64.max = 9223372036854775807 := rfl
  simp [Lit.wf] at h
  unfold I64; omega
theorem w64_I64 (x : Int) : I64 (Mv.w64 x) := by unfold I64 Mv.w64; simp only [IntKind.wrap, IntKind.bits, IntKind.signed]; simp; omega

theorem lawI : Keyed Try.prog 3 := int_keyed Try.underlying3
theorem zeroI (w : World) : (zeroValue 3).run Try.prog w = .ok (.int .i64 0) w := by kernel_rfl
/-- What a key reads as. -/
abbrev lk (k : Int) : Lit := .int .i64 k
theorem lk_ne {a b : Int} (h : a ≠ b) : lk a ≠ lk b := fun e => h (by injection e)
/-- Block b is a map that reads as the list al. -/
structure MapAs (w : World) (b : Nat) (al : List Mv.Pr) : Prop where
  once : Mv.Once al
  bd : ∀ k v, Mv.aget al k = some v → I64 v
  ex : ∃ (n : Nat) (D : DataW Unit), w.ownsMap Try.prog 3 (plainElem Try.prog 3) b n D ∧ Tidy D ∧ Maps.size D = al.length ∧ ∀ k : Int, has D (lk k) = (Mv.aget al k).isSome ∧ D.atKey (lk k) (.lit (.int .i64 0)) = .lit (.int .i64 ((Mv.aget al k).getD 0))
section
variable {w w' : World} {b : Nat} {al : List Mv.Pr}
theorem MapAs.made (w : World) : MapAs (w.alloc (.map #[] 0)) w.heap.size [] :=
  ⟨trivial, (fun k v h => by cases h), 0, _, World.ownsMap_made _ _ _ _, tidy_empty, rfl, fun k => ⟨rfl, rfl⟩⟩
theorem MapAs.kept {row : Option Nat} (h : MapAs w b al) (hg : w.grownBy w' row) (hne : some b ≠ row) : MapAs w' b al := by
  obtain ⟨n, D, h1, h2⟩ := h.ex
  exact ⟨h.once, h.bd, n, D, h1.kept hg hne, h2⟩
theorem MapAs.alloc (h : MapAs w b al) (o : Obj) : MapAs (w.alloc o) b al := h.kept (World.grownBy_alloc w o none) (by simp)
theorem MapAs.setCell (h : MapAs w b al) {p : Addr} (hp : b ≠ p.block) (u : Value) : MapAs (w.setCell p u) b al := by
  obtain ⟨n, D, h1, h2⟩ := h.ex
  exact ⟨h.once, h.bd, n, D, h1.setCell hp u, h2⟩
theorem MapAs.lt (h : MapAs w b al) : b < w.heap.size := by
  obtain ⟨n, D, h1, h2⟩ := h.ex
  exact h1.lt
theorem MapAs.size_own {n : Nat} {D : DataW Unit} (h : w.ownsMap Try.prog 3 (plainElem Try.prog 3) b n D) : w.ownsMap Try.prog 3 (plainElem Try.prog 3) b (Maps.size D) D := by
  obtain ⟨es, clock, hb, F, hs, rfl⟩ := h
  refine ⟨es, clock, hb, F, ?_, rfl⟩
  have e1 : Maps.size (DataW.map ((es.toList.map (WideElems.rg Try.prog 3 (plainElem (H := Unit) Try.prog 3))).foldr DataW.insert [])) = es.size := by simp [Maps.size, length_sorted]
  rw [e1]; exact Nat.le_refl _
/-- 'm[k]'. -/
theorem MapAs.look (h : MapAs w b al) {k : Int} (hk : I64 k) : (Instr.lookup 44 (.map (some b)) (.int .i64 k) false).run Try.prog w = .ok (.int .i64 ((Mv.aget al k).getD 0)) w := by
  obtain ⟨n, D, h1, h2, h3, h4⟩ := h.ex
  obtain ⟨c, hrun, hat, hwc⟩ := h1.lookup_int lawI Try.underlying44 Try.underlying3 (zeroI _) (keyOf_int_mk Try.underlying3 hk.wf)
  rw [(h4 k).2] at hat
  injection hat with e
  injection e with _ e
  rw [hrun, e]
/-- 'v, ok := m[k]'. -/
theorem MapAs.lookok (h : MapAs w b al) {k : Int} (hk : I64 k) : (Instr.lookup 44 (.map (some b)) (.int .i64 k) true).run Try.prog w = .ok (.tuple #[.int .i64 ((Mv.aget al k).getD 0), .bool (Mv.aget al k).isSome]) w := by
  obtain ⟨n, D, h1, h2, h3, h4⟩ := h.ex
  obtain ⟨v, ps, hrun, hv⟩ := h1.look_ok lawI Try.underlying44 (zeroI w) (plainElem_int Try.underlying3 (q := .i64) (by decide)) (keyOf_int_mk Try.underlying3 hk.wf)
  rw [(h4 k).2] at hv
  obtain ⟨c, rfl, hc, hwc⟩ := plainElem_int_inv Try.underlying3 hv
  have e := congrArg Prod.fst hc
  simp only at e
  injection e with e
  injection e with _ e
  rw [hrun, (h4 k).1, e]
end
/-- 'm[k] = v', at the operation. -/
theorem wpList_put (w : World) {ops : Array Oper} {rest : List Oper} {o : Oper} {a : Act} {Q : Exit → Act → World → Prop}
    (hg : o.guard = none) (m x v : Operand) (hop : o.op = Op.mapUpdate 44 m x v) (b : Nat) (al : List Mv.Pr) (k y : Int)
    (hm : a.eval m = .map (some b)) (h : MapAs w b al) (hn : al.length < maxLen) (hx : a.eval x = .int .i64 k) (hv : a.eval v = .int .i64 y) (hk : I64 k) (hy : I64 y)
    (hK : ∀ w', MapAs w' b (Mv.aput al k y) → w.grownBy w' (some b) → wpList Try.prog ops Q rest (a.put o.dst undef) w') :
    wpList Try.prog ops Q (o :: rest) a w := by
  obtain ⟨n, D, h1, h2, h3, h4⟩ := h.ex
  have h1' := MapAs.size_own h1
  rw [h3] at h1'
  refine wpList_mapUpdate_own w hg m x v _ hop 3 3 lawI Try.underlying44 _ b al.length D hm h1' hn _ _ (lk k) hx hv (keyOf_int_mk Try.underlying3 hk.wf) _ [] (plainElem_int Try.underlying3 hy.wf) ?_
  intro w' g1 g2
  refine hK w' ⟨h.once.put k y, fun q z hz => ?_, _, _, g1, h2.put (k := lk k) trivial _, ?_, fun q => ?_⟩ g2
  · by_cases e : q = k
    · subst e; rw [Mv.aget_put_same] at hz; injection hz with hz; subst hz; exact hy
    · rw [Mv.aget_put_other _ _ e] at hz; exact h.bd q z hz
  · rw [size_put h2, (h4 k).1, Mv.aput_len h.once, h3]
  · by_cases e : q = k
    · subst e; rw [Mv.aget_put_same, has_put_same (k := lk q) h2.isMap trivial, atKey_put_same (k := lk q) h2.isMap trivial]; exact ⟨rfl, rfl⟩
    · rw [Mv.aget_put_other _ _ e, has_put_other (lk_ne e), atKey_put_other (lk_ne e)]; exact h4 q
/-- 'delete(m, k)', at the operation. -/
theorem wpList_del (w : World) {ops : Array Oper} {rest : List Oper} {o : Oper} {a : Act} {Q : Exit → Act → World → Prop}
    (hg : o.guard = none) (m x : Operand) (hop : o.op = Op.call { callee := Callee.builtin Builtin.delete, args := #[m, x], argTypes := #[44, 3] }) (b : Nat) (al : List Mv.Pr) (k : Int)
    (hm : a.eval m = .map (some b)) (h : MapAs w b al) (hx : a.eval x = .int .i64 k) (hk : I64 k)
    (hK : ∀ w', MapAs w' b (Mv.adel al k) → w.grownBy w' (some b) → wpList Try.prog ops Q rest (a.put o.dst (.tuple #[])) w') :
    wpList Try.prog ops Q (o :: rest) a w := by
  obtain ⟨n, D, h1, h2, h3, h4⟩ := h.ex
  refine wpList_delete_own w hg m x _ _ hop 3 lawI Try.underlying44 _ b n D hm h1 _ (lk k) hx (keyOf_int_mk Try.underlying3 hk.wf) ?_
  intro w' g1 g2
  refine hK w' ⟨h.once.del k, fun q z hz => ?_, _, _, g1, h2.del _, ?_, fun q => ?_⟩ g2.grown
  · by_cases e : q = k
    · subst e; rw [Mv.aget_del_same] at hz; cases hz
    · rw [Mv.aget_del_other _ e] at hz; exact h.bd q z hz
  · have := size_del (k := lk k) h2
    rw [(h4 k).1, h3] at this
    cases hq : Mv.aget al k with
    | none => rw [hq] at this; rw [Mv.adel_none hq]; simpa using this
    | some z => rw [hq] at this; have := Mv.adel_len_some h.once hq; simp at *; omega
  · by_cases e : q = k
    · subst e; rw [Mv.aget_del_same, has_del_same, atKey_del_same]; exact ⟨rfl, rfl⟩
    · rw [Mv.aget_del_other _ e, has_del_other (lk_ne e), atKey_del_other (lk_ne e)]; exact h4 q
/-- The cells of a row of moves. -/
def mrow (l : List Mv.Pr) : List Value := l.flatMap (fun t => [.int .i64 t.1, .int .i64 t.2])
theorem mrow_snoc (l : List Mv.Pr) (t : Mv.Pr) : mrow (l ++ [t]) = mrow l ++ [.int .i64 t.1, .int .i64 t.2] := by unfold mrow; rw [List.flatMap_append]; simp
theorem mrow_len (l : List Mv.Pr) : (mrow l).length = l.length * 2 := by
  induction l with
  | nil => rfl
  | cons t l ih => unfold mrow at *; rw [List.flatMap_cons, List.length_append, ih]; simp; omega
theorem mrow_get (l : List Mv.Pr) (k : Nat) (t : Mv.Pr) (h : l[k]? = some t) : (mrow l)[k * 2]? = some (.int .i64 t.1) ∧ (mrow l)[k * 2 + 1]? = some (.int .i64 t.2) := by
  induction l generalizing k with
  | nil => simp at h
  | cons a l ih =>
    have e : mrow (a :: l) = [.int .i64 a.1, .int .i64 a.2] ++ mrow l := by unfold mrow; rw [List.flatMap_cons]
    rw [e]
    cases k with
    | zero => simp at h; subst h; exact ⟨rfl, rfl⟩
    | succ k =>
      have h1 : (k + 1) * 2 = k * 2 + 2 := by omega
      rw [h1]
      have := ih k (by simpa using h)
      simpa using this
/-- A slice of moves stands there. -/
structure Movs (w : World) (a : Option Addr) (n : Nat) (l : List Mv.Pr) : Prop where
  len : l.length = n
  bd : ∀ t ∈ l, I64 t.1 ∧ I64 t.2
  at_ : 0 < n → ∃ b off, a = some ⟨b, off, none⟩ ∧ ∀ i t, l[i]? = some t → w.cell? ⟨b, off + i * 2, none⟩ = some (.int .i64 t.1) ∧ w.cell? ⟨b, off + i * 2 + 1, none⟩ = some (.int .i64 t.2)
theorem Movs.of_row {w : World} {B : Nat} {e : TypeId} {a : Option Addr} {n cap : Nat} {l : List Mv.Pr} (h : w.ownsRow B e 2 (.slice a n cap) n (mrow l)) (hl : l.length = n) (hb : ∀ t ∈ l, I64 t.1 ∧ I64 t.2) : Movs w a n l := by
  refine ⟨hl, hb, fun hn => ?_⟩
  obtain ⟨aa, ca, he, hg⟩ := own_form h
  injection he with e1 e2 e3
  obtain ⟨g, hg⟩ := hg hn
  subst e1 hg
  refine ⟨g, 0, rfl, fun i t ht => ?_⟩
  obtain ⟨r1, r2⟩ := mrow_get l i t ht
  have hi : i < l.length := (List.getElem?_eq_some_iff.1 ht).1
  have c := fun o (ho : o < 2) => h.cellAt (i * 2 + o) (by omega)
  rw [Nat.zero_add]
  exact ⟨(c 0 (by decide)).trans r1, (c 1 (by decide)).trans r2⟩
theorem Movs.to {w w' : World} {a : Option Addr} {n : Nat} {l : List Mv.Pr} (h : Movs w a n l) (hb : Below w.heap.size w w') : Movs w' a n l := by
  refine ⟨h.len, h.bd, fun hn => ?_⟩
  obtain ⟨b, off, rfl, hc⟩ := h.at_ hn
  refine ⟨b, off, rfl, fun i t ht => ?_⟩
  obtain ⟨c1, c2⟩ := hc i t ht
  exact ⟨(hb.cell (p := ⟨b, _, none⟩) (block_lt_of_cell c1)).trans c1, (hb.cell (p := ⟨b, _, none⟩) (block_lt_of_cell c2)).trans c2⟩
theorem movs_nil (w : World) (a : Option Addr) : Movs w a 0 [] := ⟨rfl, (fun t ht => by cases ht), fun h => absurd h (by omega)⟩
end Go.Proofs.Ytheapamlhoogaaa
