/- LiveRow: what lies in memory. -/
import Derived.Test.YtpjilcfmcbapcaaDoorLvRowM
import Derived.Test.YtpjilcfmcbapcaaDoorLvAwake
import Derived.Test.YtpjilcfmcbapcaaDoorWordLow
import Derived.Deep.AppendLies
namespace Go.Proofs.YtpjilcfmcbapcaaDoor
open Go.RowKit
set_option linter.unusedVariables false
set_option linter.unusedSimpArgs false

theorem infoIns : (Tryd.prog.info? 38).map (fun i => (i.zero, i.size, i.bytes)) = some (some (.agg #[.int .i64 0, .int .i64 0, .int .i64 0, .int .i64 0, .int .i64 0, .int .i64 0, .int .i64 0, .bool false, .slice none 0 0, .slice none 0 0, .slice none 0 0]), 11, 136) := by kernel_rfl
theorem infoPair : (Tryd.prog.info? 33).map (fun i => (i.zero, i.size, i.bytes)) = some (some (.agg #[.int .i64 0, .int .i64 0]), 2, 16) := by kernel_rfl
theorem xrow_one (l : List Ix) : ∀ u ∈ xrow l, u.oneCell' = true := by
  intro u hu
  unfold xrow at hu
  obtain ⟨x, _, hx⟩ := List.mem_flatMap.1 hu
  unfold Ix.cells at hx
  simp only [List.mem_cons, List.not_mem_nil, or_false] at hx
  rcases hx with rfl | rfl | rfl | rfl | rfl | rfl | rfl | rfl | rfl | rfl | rfl <;> rfl
/-- An instruction is appended, at the operation. -/
theorem wpList_appX1 (w : World) {ops : Array Oper} {rest : List Oper} {o : Oper} {a : Act} {Q : Exit → Act → World → Prop} (hgd : o.guard = none) (s x : Operand) (t : TypeId)
    (ho : o.op = .call { callee := .builtin .append, args := #[s, x], argTypes := #[t, t] }) (ht : Tryd.prog.underlying t = some (.slice 38))
    (B : Nat) (v : Value) (n : Nat) (l1 : List Ix) (y : Ix) (q : Nat) (hs : a.eval s = v) (hown : w.ownsRow B 38 11 v n (xrow l1)) (hx : a.eval x = .slice (some ⟨q, 0, none⟩) 1 1) (hq : w.heap[q]? = some (.cells (xrow [y]).toArray 38 (0, 0)))
    (hn : n ≤ 999999) (hB : B ≤ w.heap.size)
    (h : ∀ g' cap w', w'.ownsRow B 38 11 (.slice (some ⟨g', 0, none⟩) (n + 1) cap) (n + 1) (xrow (l1 ++ [y])) → w.grownBy w' v.ownBlock → wpList Tryd.prog ops Q rest (a.put o.dst (.slice (some ⟨g', 0, none⟩) (n + 1) cap)) w') : wpList Tryd.prog ops Q (o :: rest) a w := by
  obtain ⟨i0, hi, hz0, hz1, hz2⟩ := info_parts infoIns
  refine wpList_append_lies w hgd s x t ho B 38 i0 _ 11 136 ht hi hz0 hz1 hz2 rfl (by decide) v n (xrow l1) hs hown ⟨q, 0, none⟩ 1 1 (xrow [y]) hx (by rw [xrow_len]; rfl) (fun j u hu => ?_) (xrow_one _) (by decide) (by unfold maxLen; omega) (by omega) hB _ rfl (fun g' cap w' k1 k2 k3 _ => h g' cap w' (by rw [xrow_app]; exact k1) k2)
  have e : (⟨q, 0, none⟩ : Addr).add j = ⟨q, 0 + j, none⟩ := by unfold Addr.add; split <;> simp_all
  rw [e, Nat.zero_add, cell_of_row w q _ _ _ _ hq, List.getElem?_toArray]
  exact hu
def pcells (p : Nat × Nat) : List Value := [.int .i64 (p.1 : Int), .int .i64 (p.2 : Int)]
def prow (l : List (Nat × Nat)) : List Value := l.flatMap pcells
theorem prow_len (l : List (Nat × Nat)) : (prow l).length = l.length * 2 := by
  unfold prow
  induction l with
  | nil => rfl
  | cons x t ih => rw [List.flatMap_cons, List.length_append, ih, List.length_cons]; show 2 + _ = _; omega
theorem prow_app (l m : List (Nat × Nat)) : prow (l ++ m) = prow l ++ prow m := by unfold prow; rw [List.flatMap_append]
theorem prow_get : ∀ (l : List (Nat × Nat)) (k : Nat) (p : Nat × Nat), l[k]? = some p → (prow l)[k * 2]? = some (.int .i64 (p.1 : Int)) ∧ (prow l)[k * 2 + 1]? = some (.int .i64 (p.2 : Int))
  | [], k, p, h => by cases h
  | q :: t, 0, p, h => by injection h with h; subst h; exact ⟨rfl, rfl⟩
  | q :: t, k + 1, p, h => by
    obtain ⟨h1, h2⟩ := prow_get t k p h
    refine ⟨?_, ?_⟩
    · show (pcells q ++ prow t)[(k + 1) * 2]? = _
      rw [List.getElem?_append_right (by show 2 ≤ _; omega)]
      show (prow t)[(k + 1) * 2 - 2]? = _
      rw [show (k + 1) * 2 - 2 = k * 2 by omega]; exact h1
    · show (pcells q ++ prow t)[(k + 1) * 2 + 1]? = _
      rw [List.getElem?_append_right (by show 2 ≤ _; omega)]
      show (prow t)[(k + 1) * 2 + 1 - 2]? = _
      rw [show (k + 1) * 2 + 1 - 2 = k * 2 + 1 by omega]; exact h2
theorem prow_one (l : List (Nat × Nat)) : ∀ u ∈ prow l, u.oneCell' = true := by
  intro u hu
  unfold prow at hu
  obtain ⟨x, _, hx⟩ := List.mem_flatMap.1 hu
  unfold pcells at hx
  simp only [List.mem_cons, List.not_mem_nil, or_false] at hx
  rcases hx with rfl | rfl <;> rfl
/-- A pair is appended, at the operation. -/
theorem wpList_appP (w : World) {ops : Array Oper} {rest : List Oper} {o : Oper} {a : Act} {Q : Exit → Act → World → Prop} (hgd : o.guard = none) (s x : Operand) (t : TypeId)
    (ho : o.op = .call { callee := .builtin .append, args := #[s, x], argTypes := #[t, t] }) (ht : Tryd.prog.underlying t = some (.slice 33))
    (B : Nat) (v : Value) (n : Nat) (l1 : List (Nat × Nat)) (p : Nat × Nat) (q : Nat) (hs : a.eval s = v) (hown : w.ownsRow B 33 2 v n (prow l1)) (hx : a.eval x = .slice (some ⟨q, 0, none⟩) 1 1) (hq : w.heap[q]? = some (.cells #[.int .i64 (p.1 : Int), .int .i64 (p.2 : Int)] 33 (0, 0)))
    (hn : n ≤ 999999) (hB : B ≤ w.heap.size)
    (h : ∀ g' cap w', w'.ownsRow B 33 2 (.slice (some ⟨g', 0, none⟩) (n + 1) cap) (n + 1) (prow (l1 ++ [p])) → w.grownBy w' v.ownBlock → wpList Tryd.prog ops Q rest (a.put o.dst (.slice (some ⟨g', 0, none⟩) (n + 1) cap)) w') : wpList Tryd.prog ops Q (o :: rest) a w := by
  obtain ⟨i0, hi, hz0, hz1, hz2⟩ := info_parts infoPair
  refine wpList_append_lies w hgd s x t ho B 33 i0 _ 2 16 ht hi hz0 hz1 hz2 rfl (by decide) v n (prow l1) hs hown ⟨q, 0, none⟩ 1 1 (prow [p]) hx rfl (fun j u hu => ?_) (prow_one _) (by decide) (by unfold maxLen; omega) (by omega) hB _ rfl (fun g' cap w' k1 k2 k3 _ => h g' cap w' (by rw [prow_app]; exact k1) k2)
  have e : (⟨q, 0, none⟩ : Addr).add j = ⟨q, 0 + j, none⟩ := by unfold Addr.add; split <;> simp_all
  rw [e, Nat.zero_add, cell_of_row w q _ _ _ _ hq, List.getElem?_toArray]
  exact hu
/-- What the law has made. -/
structure LR (w0 w : World) (FB FV : Nat) (ps : List (Nat × Nat)) (l : List Ix) (fr ins : Value) : Prop where
  k : Keeps No w0 w
  hv : w.heap[FV]? = some (.cells #[.string ByteArray.empty, .int .i64 2, .int .i64 24, .slice none 0 0, .slice (some ⟨FB, 0, none⟩) 1 1, .bool true] 25 (0, 0))
  hb : w.heap[FB]? = some (.cells #[ins] 30 (0, 0))
  fr : w.ownsRow (FV + 1) 33 2 fr ps.length (prow ps)
  ins : w.ownsRow (FV + 1) 38 11 ins l.length (xrow l)
  lo : w0.heap.size ≤ FB ∧ FB < FV
section
variable {w0 w w' : World} {FB FV : Nat} {ps ps' : List (Nat × Nat)} {l l' : List Ix} {fr fr' ins ins' : Value}
theorem LR.no (h : LR w0 w FB FV ps l fr ins) (hk : Keeps No w w') : LR w0 w' FB FV ps l fr ins :=
  ⟨h.k.trans hk (fun _ _ e => e), (hk.block FV (Array.getElem?_eq_some_iff.1 h.hv).1 (fun e => e)).trans h.hv, (hk.block FB (Array.getElem?_eq_some_iff.1 h.hb).1 (fun e => e)).trans h.hb, own_kept h.fr (fun q hq => hk.block q (own_ltb h.fr hq) (fun e => e)), own_kept h.ins (fun q hq => hk.block q (own_ltb h.ins hq) (fun e => e)), h.lo⟩
theorem LR.keepS {S : Nat → Prop} (h : LR w0 w FB FV ps l fr ins) (hk : Keeps S w w') (h0 : ∀ q, S q → w0.heap.size ≤ q) (h1 : ¬ S FV) (h2 : ¬ S FB) (h3 : ∀ q, fr.ownBlock = some q → ¬ S q) (h4 : ∀ q, ins.ownBlock = some q → ¬ S q) : LR w0 w' FB FV ps l fr ins :=
  ⟨h.k.trans hk (fun q hq e => by have := h0 q e; omega), (hk.block FV (Array.getElem?_eq_some_iff.1 h.hv).1 h1).trans h.hv, (hk.block FB (Array.getElem?_eq_some_iff.1 h.hb).1 h2).trans h.hb, own_kept h.fr (fun q hq => hk.block q (own_ltb h.fr hq) (h3 q hq)), own_kept h.ins (fun q hq => hk.block q (own_ltb h.ins hq) (h4 q hq)), h.lo⟩
theorem LR.app_fr (h : LR w0 w FB FV ps l fr ins) (hk : Keeps (fun q => fr.ownBlock = some q) w w') (ho : w'.ownsRow (FV + 1) 33 2 fr' ps'.length (prow ps')) : LR w0 w' FB FV ps' l fr' ins := by
  have nS : ∀ {k : Nat} {cs : Array Value} {ty : TypeId}, w.heap[k]? = some (.cells cs ty (0, 0)) → ty ≠ 33 → ¬ (fr.ownBlock = some k) := fun {k : Nat} {cs : Array Value} {ty : TypeId} hh h1 e => by
    obtain ⟨cs2, h2⟩ := own_typ h.fr e
    exact type_ne hh h2 h1 rfl
  refine ⟨h.k.trans hk (fun q hq e => by have := own_lo h.fr q e; have := h.lo; omega), (hk.block FV (Array.getElem?_eq_some_iff.1 h.hv).1 (nS h.hv (by decide))).trans h.hv, (hk.block FB (Array.getElem?_eq_some_iff.1 h.hb).1 (nS h.hb (by decide))).trans h.hb, ho, own_kept h.ins (fun q hq => hk.block q (own_ltb h.ins hq) (fun e => ?_)), h.lo⟩
  obtain ⟨cs, hcs⟩ := own_typ h.ins hq
  exact nS hcs (by decide) e
theorem LR.app_ins (h : LR w0 w FB FV ps l fr ins) (hk : Keeps (fun q => ins.ownBlock = some q) w w') (ho : w'.ownsRow (FV + 1) 38 11 ins' l'.length (xrow l')) : LR w0 (w'.setCell ⟨FB, 0, none⟩ ins') FB FV ps l' fr ins' := by
  have nS : ∀ {k : Nat} {cs : Array Value} {ty : TypeId}, w.heap[k]? = some (.cells cs ty (0, 0)) → ty ≠ 38 → ¬ (ins.ownBlock = some k) := fun {k : Nat} {cs : Array Value} {ty : TypeId} hh h1 e => by
    obtain ⟨cs2, h2⟩ := own_typ h.ins e
    exact type_ne hh h2 h1 rfl
  have hv2 := (hk.block FV (Array.getElem?_eq_some_iff.1 h.hv).1 (nS h.hv (by decide))).trans h.hv
  have hb2 := (hk.block FB (Array.getElem?_eq_some_iff.1 h.hb).1 (nS h.hb (by decide))).trans h.hb
  have hfr2 : w'.ownsRow (FV + 1) 33 2 fr ps.length (prow ps) := own_kept h.fr (fun q hq => hk.block q (own_ltb h.fr hq) (fun e => by
    obtain ⟨cs, hcs⟩ := own_typ h.fr hq
    exact nS hcs (by decide) e))
  refine ⟨(h.k.trans hk (fun q hq e => by have := own_lo h.ins q e; have := h.lo; omega)).setCell (.inr h.lo.1) _, (Below.heap_setCell _ _ _ _ (by have := h.lo; simp only; omega)).trans hv2, by rw [heap_setCell_same w' FB 0 _ _ _ hb2]; rfl,
    own_kept hfr2 (fun q hq => Below.heap_setCell _ _ _ _ (by have := own_lo hfr2 q hq; have := h.lo; simp only; omega)), own_kept ho (fun q hq => Below.heap_setCell _ _ _ _ (by have := own_lo ho q hq; have := h.lo; simp only; omega)), h.lo⟩
end
/-- Flags for 24 registers. -/
def frow (X : Nat) : List Value := (List.range 24).map (fun r => .bool (X.testBit r))
theorem frow_len (X : Nat) : (frow X).length = 24 := by unfold frow; rw [List.length_map, List.length_range]
theorem frow_get {X r : Nat} (h : r < 24) : (frow X)[r]? = some (.bool (X.testBit r)) := by unfold frow; rw [List.getElem?_map, List.getElem?_range h]; rfl
theorem frow_set {X r : Nat} (h : r < 24) : (frow X).set r (.bool true) = frow (addB X r) := by
  refine List.ext_getElem? fun i => ?_
  rw [List.getElem?_set, frow_len]
  by_cases hi : i < 24
  · rw [frow_get hi, frow_get hi, tb_add]
    by_cases e : r = i
    · subst e; rw [if_pos rfl, if_pos hi]; simp
    · rw [if_neg e, decide_eq_false e, Bool.or_false]
  · rw [if_neg (by omega), List.getElem?_eq_none (by rw [frow_len]; omega), List.getElem?_eq_none (by rw [frow_len]; omega)]
theorem low_nat (x : Int) (n : Nat) (hx : I64 x) (hn : 1 ≤ n ∧ n ≤ 1000) : ∃ a : Nat, a < n ∧ ∀ w : World, Calls Tryd.prog 8 #[.int .i64 x, .int .i64 (n : Int)] w fun e w' => e = .returned (.int .i64 (a : Int)) ∧ Keeps No w w' := by
  have h0 : 0 ≤ IntKind.u64.wrap x % (n : Int) := Int.emod_nonneg _ (by omega)
  have h1 : IntKind.u64.wrap x % (n : Int) < n := Int.emod_lt_of_pos _ (by omega)
  refine ⟨(IntKind.u64.wrap x % (n : Int)).toNat, by omega, fun w => (low_any x n hx ⟨by omega, by omega⟩ w).mono (fun e w' h => ?_)⟩
  obtain ⟨rfl, rfl⟩ := h
  exact ⟨by rw [Int.toNat_of_nonneg h0], Keeps.refl _ _⟩
end Go.Proofs.YtpjilcfmcbapcaaDoor
