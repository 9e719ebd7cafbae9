/- A star of functions, as data. -/
import Derived.Test.YtkiimljdoebclaaDoorGrRings
import Derived.Test.YtkiimljdoebclaaDoorGrStars
import Derived.Deep.AppendLies
namespace Go.Proofs.YtkiimljdoebclaaDoor
open Go.RowKit Gm Go.Maps
set_option linter.unusedVariables false
set_option linter.unusedSimpArgs false

def xret : Ix := ⟨17, 0, 0, -1, 0, 0, 0, false, sl0, sl0, sl0⟩
def xcall (tg : Int) : Ix := ⟨10, 0, -1, 0, 0, tg, 0, false, sl0, sl0, sl0⟩
def xfunc (tg : Int) : Ix := ⟨9, 0, 0, 0, 0, tg, 0, false, sl0, sl0, sl0⟩
/-- Main's instructions. -/
def sixs (t : Nat) (S : List Int) : List Ix := xfunc (t : Int) :: (S.map xcall ++ [xret])
def lfx (ib bb : Nat) : Fx := ⟨⟨#[]⟩, 0, 0, sl0, some ⟨bb, 0, none⟩, 1, 1, [⟨some ⟨ib, 0, none⟩, 1, 1, [xret]⟩], false⟩
def mfx (t : Nat) (S : List Int) (ib bb ic : Nat) : Fx := ⟨⟨#[]⟩, 0, 1, sl0, some ⟨bb, 0, none⟩, 1, 1, [⟨some ⟨ib, 0, none⟩, S.length + 2, ic, sixs t S⟩], false⟩
structure IsStar (p : Pg) (m t : Nat) (S : List Int) : Prop where
  ga : p.ga = none ∧ p.gn = 0 ∧ p.gc = 0 ∧ p.gl = []
  main : p.main = (m : Int)
  fn : p.fn = m + 1
  len : p.fl.length = m + 1
  fl : ∀ i, i < m → ∃ ib bb, p.fl[i]? = some (lfx ib bb)
  fm : ∃ ib bb ic, p.fl[m]? = some (mfx t S ib bb ic)
theorem lfx_ins (ib bb : Nat) : (lfx ib bb).ins = [xret] := by simp [Fx.ins, lfx]
theorem mfx_ins (t : Nat) (S : List Int) (ib bb ic : Nat) : (mfx t S ib bb ic).ins = sixs t S := by simp [Fx.ins, mfx]
theorem calls_named (S : List Int) : (S.map xcall).flatMap namedX = S := by
  induction S with
  | nil => rfl
  | cons a s ih => rw [List.map_cons, List.flatMap_cons, ih]; simp [namedX, xcall]
theorem calls_funcs (S : List Int) : (S.map xcall).flatMap funcsX = [] := by
  induction S with
  | nil => rfl
  | cons a s ih => rw [List.map_cons, List.flatMap_cons, ih]; simp [funcsX, xcall]
theorem sixs_named (t : Nat) (S : List Int) : (sixs t S).flatMap namedX = S := by
  unfold sixs
  rw [List.flatMap_cons, List.flatMap_append, calls_named]
  simp [namedX, xfunc, xret]
theorem sixs_funcs (t : Nat) (S : List Int) : (sixs t S).flatMap funcsX = [(t : Int)] := by
  unfold sixs
  rw [List.flatMap_cons, List.flatMap_append, calls_funcs]
  simp [funcsX, xfunc, xret]
section
variable {p : Pg} {m t : Nat} {S : List Int}
theorem IsStar.mem (h : IsStar p m t S) {f : Fx} (hf : f ∈ p.fl) : (∃ ib bb, f = lfx ib bb) ∨ ∃ ib bb ic, f = mfx t S ib bb ic := by
  obtain ⟨i, hi⟩ := List.mem_iff_getElem?.1 hf
  have him : i < m + 1 := by rw [← h.len]; exact (List.getElem?_eq_some_iff.1 hi).1
  by_cases hm : i < m
  · obtain ⟨ib, bb, e⟩ := h.fl i hm
    rw [hi] at e
    injection e with e
    exact .inl ⟨ib, bb, e⟩
  · obtain rfl : i = m := by omega
    obtain ⟨ib, bb, ic, e⟩ := h.fm
    rw [hi] at e
    injection e with e
    exact .inr ⟨ib, bb, ic, e⟩
theorem star_ext {α : Type} {A B : List α} {k : Nat} (hA : A.length = k + 1) (hB : B.length = k + 1) (h1 : ∀ i, i < k → A[i]? = B[i]?) (h2 : A[k]? = B[k]?) : A = B := by
  refine List.ext_getElem? fun i => ?_
  by_cases hi : i < k
  · exact h1 i hi
  · by_cases hk : i = k
    · subst hk; exact h2
    · rw [List.getElem?_eq_none (by omega), List.getElem?_eq_none (by omega)]
theorem IsStar.nm (h : IsStar p m t S) : p.nm = starC m S := by
  refine star_ext (k := m) (by unfold Pg.nm; rw [List.length_map, h.len]) (by simp [starC]) (fun i hi => ?_) ?_
  · obtain ⟨ib, bb, e⟩ := h.fl i hi
    rw [star_leaf hi]
    unfold Pg.nm
    rw [List.getElem?_map, e]
    simp only [Option.map_some, lfx_ins]
    rfl
  · obtain ⟨ib, bb, ic, e⟩ := h.fm
    rw [star_main]
    unfold Pg.nm
    rw [List.getElem?_map, e]
    simp only [Option.map_some, mfx_ins, sixs_named]
theorem IsStar.fs (h : IsStar p m t S) : p.fs = starF m t := by
  refine star_ext (k := m) (by unfold Pg.fs; rw [List.length_map, h.len]) (by simp [starF]) (fun i hi => ?_) ?_
  · obtain ⟨ib, bb, e⟩ := h.fl i hi
    unfold starF
    rw [List.getElem?_append_left (by simpa using hi), List.getElem?_replicate, if_pos hi]
    unfold Pg.fs
    rw [List.getElem?_map, e]
    simp only [Option.map_some, lfx_ins]
    rfl
  · obtain ⟨ib, bb, ic, e⟩ := h.fm
    unfold starF
    rw [List.getElem?_append_right (by simp)]
    unfold Pg.fs
    rw [List.getElem?_map, e]
    simp only [Option.map_some, mfx_ins, sixs_funcs]
    simp
theorem IsStar.split (h : IsStar p m t S) : ∃ A ib bb ic, p.fl = A ++ [mfx t S ib bb ic] ∧ A.length = m ∧ ∀ f ∈ A, ∃ ib bb, f = lfx ib bb := by
  obtain ⟨ib, bb, ic, e⟩ := h.fm
  refine ⟨p.fl.take m, ib, bb, ic, ?_, by rw [List.length_take, h.len]; omega, fun f hf => ?_⟩
  · have h1 : p.fl.take (m + 1) = p.fl := List.take_of_length_le (by rw [h.len]; exact Nat.le_refl _)
    rw [List.take_add_one, e] at h1
    exact h1.symm
  · obtain ⟨j, hj⟩ := List.mem_iff_getElem?.1 hf
    have hjm : j < m := by
      have := (List.getElem?_eq_some_iff.1 hj).1
      rw [List.length_take] at this; omega
    rw [List.getElem?_take, if_pos hjm] at hj
    obtain ⟨ib, bb, e2⟩ := h.fl j hjm
    rw [hj] at e2
    exact ⟨ib, bb, Option.some.inj e2⟩
theorem leaves_ins : ∀ A : List Fx, (∀ f ∈ A, ∃ ib bb, f = lfx ib bb) → A.flatMap Fx.ins = List.replicate A.length xret
  | [], _ => rfl
  | f :: r, h => by
    obtain ⟨ib, bb, rfl⟩ := h f (by simp)
    rw [List.flatMap_cons, lfx_ins, leaves_ins r (fun g hg => h g (by simp [hg])), List.length_cons, List.replicate_succ]; rfl
theorem IsStar.ins (h : IsStar p m t S) : p.ins = List.replicate m xret ++ sixs t S := by
  obtain ⟨A, ib, bb, ic, e, hl, hA⟩ := h.split
  unfold Pg.ins
  rw [e, List.flatMap_append, leaves_ins A hA, hl, List.flatMap_cons, List.flatMap_nil, List.append_nil, mfx_ins]
theorem IsStar.tk (h : IsStar p m t S) : p.tk = [((t : Int), 1)] := by
  unfold Pg.tk
  rw [h.ins, List.foldl_append, no_taken (List.replicate m xret) [] (fun x hx => by rw [List.eq_of_mem_replicate hx]; decide)]
  unfold sixs
  rw [List.foldl_cons, no_taken (S.map xcall ++ [xret]) _ (fun x hx => by
    rcases List.mem_append.1 hx with hx | hx
    · obtain ⟨z, _, rfl⟩ := List.mem_map.1 hx
      simp [xcall]
    · obtain rfl : x = xret := by simpa using hx
      decide)]
  simp [takenX, xfunc, kput, kdel]
theorem IsStar.tkOk (h : IsStar p m t S) (ht : t < m) : TkOk p := by
  refine ⟨by rw [h.tk]; simp, fun z hz => ?_⟩
  rw [h.tk] at hz
  obtain rfl : z = (t : Int) := by simpa [keys] using hz
  obtain ⟨ib, bb, e⟩ := h.fl t ht
  exact ⟨t, _, rfl, e, rfl⟩
theorem IsStar.plain (h : IsStar p m t S) (hm : m ≤ 12) (hl : S.length ≤ 12) (hS : ∀ z ∈ S, ∃ u : Nat, z = (u : Int) ∧ u < m) : Plain p := by
  refine ⟨h.ga.2.1, by rw [h.fn]; omega, by rw [h.fn]; omega, ?_, fun x hx => ?_, fun l hl' => ?_, fun l hl' z hz => ?_⟩
  · rw [h.ins]; simp [sixs]; omega
  · rw [h.ins] at hx
    rcases List.mem_append.1 hx with hx | hx
    · rw [List.eq_of_mem_replicate hx]; decide
    · unfold sixs at hx
      rcases List.mem_cons.1 hx with rfl | hx
      · simp [xfunc]
      · rcases List.mem_append.1 hx with hx | hx
        · obtain ⟨z, _, rfl⟩ := List.mem_map.1 hx
          simp [xcall]
        · obtain rfl : x = xret := by simpa using hx
          decide
  · rw [h.nm] at hl'
    unfold starC at hl'
    rcases List.mem_append.1 hl' with hx | hx
    · rw [List.eq_of_mem_replicate hx]; simp
    · obtain rfl : l = S := by simpa using hx
      exact hl
  · rw [h.nm] at hl'
    unfold starC at hl'
    rcases List.mem_append.1 hl' with hx | hx
    · rw [List.eq_of_mem_replicate hx] at hz; cases hz
    · obtain rfl : l = S := by simpa using hx
      obtain ⟨u, e, hu⟩ := hS z hz
      exact ⟨u, e, by rw [h.fn]; omega⟩
theorem form_app {r : Int} {n : Nat} {x : Ix} (hx : x.formOk r n true = true) : ∀ A : List Ix, (∀ y ∈ A, y.formOk r n false = true) → formRow r n (A ++ [x]) = true
  | [], _ => hx
  | [y], h => by
    show (y.formOk r n false && x.formOk r n true) = true
    rw [h y (by simp), hx]; rfl
  | y :: z :: A, h => by
    show (y.formOk r n false && formRow r n (z :: A ++ [x])) = true
    rw [h y (by simp), form_app hx (z :: A) (fun u hu => h u (by simp [hu]))]; rfl
theorem lfx_form (ib bb : Nat) : (lfx ib bb).formOk = true := by
  simp [Fx.formOk, lfx, xret, formRow, Ix.formOk, endsI, Ix.regsOk, readsAI, readsBI, writesI, callsI, Ix.leadsOk, Ix.many, sl0, hasReg]
theorem mfx_form (t : Nat) (S : List Int) (ib bb ic : Nat) : (mfx t S ib bb ic).formOk = true := by
  have h : formRow 1 1 (sixs t S) = true := by
    unfold sixs
    rw [← List.cons_append]
    refine form_app ?_ _ (fun y hy => ?_)
    · simp [xret, Ix.formOk, endsI, Ix.regsOk, readsAI, readsBI, writesI, callsI, Ix.leadsOk, Ix.many, sl0, hasReg]
    · rcases List.mem_cons.1 hy with rfl | hy
      · simp [xfunc, Ix.formOk, endsI, Ix.regsOk, readsAI, readsBI, writesI, callsI, Ix.leadsOk, Ix.many, sl0, hasReg]
      · obtain ⟨z, _, rfl⟩ := List.mem_map.1 hy
        simp [xcall, Ix.formOk, endsI, Ix.regsOk, readsAI, readsBI, writesI, callsI, Ix.leadsOk, Ix.many, sl0, hasReg]
  unfold Fx.formOk
  simp only [mfx, List.all_cons, List.all_nil, Bool.and_true, h]
  simp [sixs]
theorem IsStar.ok (h : IsStar p m t S) (ht : t < m) (hS : ∀ z ∈ S, ∃ u : Nat, z = (u : Int) ∧ u < m) : p.ok = true := by
  unfold Pg.ok Pg.mainOk
  obtain ⟨ib, bb, ic, e0⟩ := h.fm
  rw [h.main, h.fn, h.ga.2.2.2, h.ga.2.1]
  rw [show p.fl[(m : Int).toNat]? = some (mfx t S ib bb ic) from e0]
  simp only [List.all_nil, Bool.true_and, Bool.and_eq_true, decide_eq_true_eq]
  have hret : ∀ fv, xret.fitsOk 0 0 p.fl fv = true := fun fv => by simp [Ix.fitsOk, xret]
  refine ⟨by omega, by omega, rfl, List.all_eq_true.2 fun f hf => ?_⟩
  rcases h.mem hf with ⟨ib, bb, rfl⟩ | ⟨ib, bb, ic, rfl⟩
  · unfold Fx.ok
    rw [lfx_form]
    simp only [lfx, sl0, List.all_cons, List.all_nil, Bool.and_true, Bool.true_and, hret]
  · unfold Fx.ok
    rw [mfx_form]
    simp only [mfx, sl0, List.all_cons, List.all_nil, Bool.and_true, Bool.true_and]
    refine List.all_eq_true.2 fun x hx => ?_
    unfold sixs at hx
    rcases List.mem_cons.1 hx with rfl | hx
    · have h1 : ((t : Nat) : Int) < (p.fl.length : Int) := by rw [h.len]; omega
      simp [Ix.fitsOk, xfunc, Ix.below, h1]
      try omega
    · rcases List.mem_append.1 hx with hx | hx
      · obtain ⟨z, hz, rfl⟩ := List.mem_map.1 hx
        obtain ⟨u, rfl, hu⟩ := hS z hz
        obtain ⟨ib2, bb2, e2⟩ := h.fl u hu
        have h1 : ((u : Nat) : Int) < (p.fl.length : Int) := by rw [h.len]; omega
        have hcall : Ix.callOk (xcall (u : Int)) p.fl true = true := by
          unfold Ix.callOk xcall
          simp only [Int.toNat_natCast]
          rw [e2]
          simp [Ix.below, h1, lfx, sl0]
        simp only [Ix.fitsOk, xcall]
        simpa [sl0, xcall] using hcall
      · obtain rfl : x = xret := by simpa using hx
        exact hret _
end
end Go.Proofs.YtkiimljdoebclaaDoor
/- A star of functions, in memory. -/
namespace Go.Proofs.YtkiimljdoebclaaDoor
open Go.RowKit Gm Go.Maps
set_option linter.unusedVariables false
set_option linter.unusedSimpArgs false

def icells (l : List Ix) : List Value := l.flatMap Ix.cells
theorem infoX : (Tryd.prog.info? 40).map (fun i => (i.zero, i.size, i.bytes)) = some (some (.agg (⟨0, 0, 0, 0, 0, 0, 0, false, sl0, sl0, sl0⟩ : Ix).cells.toArray), 11, 136) := by kernel_rfl
theorem icells_app (a b : List Ix) : icells (a ++ b) = icells a ++ icells b := by unfold icells; rw [List.flatMap_append]
theorem icells_one (l : List Ix) : ∀ u ∈ icells l, u.oneCell' = true := by
  intro u hu
  unfold icells at hu
  obtain ⟨x, _, hx⟩ := List.mem_flatMap.1 hu
  unfold Ix.cells at hx
  simp only [List.mem_cons, List.not_mem_nil, or_false] at hx
  rcases hx with rfl | rfl | rfl | rfl | rfl | rfl | rfl | rfl | rfl | rfl | rfl <;> rfl
/-- An instruction is appended, at the operation. -/
theorem wpList_appX (w : World) {ops : Array Oper} {rest : List Oper} {o : Oper} {a : Act} {Q : Exit → Act → World → Prop} (hgd : o.guard = none) (s x : Operand)
    (ho : o.op = .call { callee := .builtin .append, args := #[s, x], argTypes := #[41, 41] })
    (B : Nat) (v : Value) (n : Nat) (l1 : List Ix) (z : Ix) (q : Nat) (hs : a.eval s = v) (hown : w.ownsRow B 40 11 v n (icells l1)) (hx : a.eval x = .slice (some ⟨q, 0, none⟩) 1 1) (hq : w.heap[q]? = some (.cells z.cells.toArray 40 (0, 0)))
    (hn : n ≤ 999999) (hB : B ≤ w.heap.size)
    (h : ∀ g' cap w', w'.ownsRow B 40 11 (.slice (some ⟨g', 0, none⟩) (n + 1) cap) (n + 1) (icells (l1 ++ [z])) → w.grownBy w' v.ownBlock → (v.ownBlock = some g' ∨ w.heap.size ≤ g') → wpList Tryd.prog ops Q rest (a.put o.dst (.slice (some ⟨g', 0, none⟩) (n + 1) cap)) w') : wpList Tryd.prog ops Q (o :: rest) a w := by
  obtain ⟨i0, hi, hz0, hz1, hz2⟩ := info_parts infoX
  have hz : icells [z] = z.cells := by simp [icells]
  refine wpList_append_lies w hgd s x _ ho B 40 i0 _ 11 136 Tryd.underlying41 hi hz0 hz1 hz2 rfl (by decide) v n (icells l1) hs hown ⟨q, 0, none⟩ 1 1 z.cells hx rfl (fun j u hu => ?_) (by rw [← hz]; exact icells_one [z]) (by decide) (by unfold maxLen; omega) (by omega) hB _ rfl (fun g' cap w' k1 k2 k3 _ => h g' cap w' (by rw [icells_app, hz]; exact k1) k2 (k3.imp id (fun e => by omega)))
  have e : (⟨q, 0, none⟩ : Addr).add j = ⟨q, 0 + j, none⟩ := by unfold Addr.add; split <;> simp_all
  rw [e, Nat.zero_add, cell_of_row w q _ _ _ _ hq, List.getElem?_toArray]
  exact hu
/-- As wpList_appG, behind a guard that was met. -/
theorem wpList_appGg (w : World) {ops : Array Oper} {rest : List Oper} {o : Oper} {a : Act} {Q : Exit → Act → World → Prop} (hgd : Region.wanted o (yielded ops a.tmps) = true) (s x : Operand)
    (ho : o.op = .call { callee := .builtin .append, args := #[s, x], argTypes := #[28, 28] })
    (B : Nat) (v : Value) (n : Nat) (l1 : List Int) (z : Int) (q : Nat) (hs : a.eval s = v) (hown : w.ownsRow B 3 1 v n (irow l1)) (hx : a.eval x = .slice (some ⟨q, 0, none⟩) 1 1) (hq : w.heap[q]? = some (.cells #[.int .i64 z] 3 (0, 0)))
    (hn : n ≤ 999999) (hB : B ≤ w.heap.size)
    (h : ∀ g' cap w', w'.ownsRow B 3 1 (.slice (some ⟨g', 0, none⟩) (n + 1) cap) (n + 1) (irow (l1 ++ [z])) → w.grownBy w' v.ownBlock → (v.ownBlock = some g' ∨ w.heap.size ≤ g') → wpList Tryd.prog ops Q rest (a.put o.dst (.slice (some ⟨g', 0, none⟩) (n + 1) cap)) w') : wpList Tryd.prog ops Q (o :: rest) a w := by
  obtain ⟨i0, hi, hz0, hz1, hz2⟩ := info_parts infoI
  unfold wpList
  rw [if_pos hgd]
  refine .inl (wp_append_lies w s x _ ho B 3 i0 (.int .i64 0) 1 8 Tryd.underlying28 hi hz0 hz1 hz2 rfl (by decide) v n (irow l1) hs hown ⟨q, 0, none⟩ 1 1 [.int .i64 z] hx rfl (fun j y hy => ?_) (fun y hy => by simp at hy; subst hy; rfl) (by decide) (by unfold maxLen; omega) (by omega) hB _ rfl (fun g' cap w' k1 k2 k3 _ => h g' cap w' (by rw [irow_app]; exact k1) k2 (k3.imp id (fun e => by omega))))
  cases j with
  | zero => obtain rfl : Value.int .i64 z = y := by simpa using hy
            have e : (⟨q, 0, none⟩ : Addr).add 0 = ⟨q, 0, none⟩ := by unfold Addr.add; split <;> simp_all
            rw [e]; unfold World.cell?; simp only; rw [hq]; rfl
  | succ j => cases hy
theorem xret_ok (w : World) : IxOk w xret := ⟨i64s 17 (by decide), i64s 0 (by decide), i64s 0 (by decide), i64s (-1) (by decide), i64s 0 (by decide), i64s 0 (by decide), i64s 0 (by decide), sl0_at w, sl0_at w, sl0_at w⟩
theorem xcall_ok (w : World) (z : Int) (hz : -1000 ≤ z ∧ z ≤ 1000) : IxOk w (xcall z) := ⟨i64s 10 (by decide), i64s 0 (by decide), i64s (-1) (by decide), i64s 0 (by decide), i64s 0 (by decide), i64s z hz, i64s 0 (by decide), sl0_at w, sl0_at w, sl0_at w⟩
theorem xfunc_ok (w : World) (z : Int) (hz : -1000 ≤ z ∧ z ≤ 1000) : IxOk w (xfunc z) := ⟨i64s 9 (by decide), i64s 0 (by decide), i64s 0 (by decide), i64s 0 (by decide), i64s 0 (by decide), i64s z hz, i64s 0 (by decide), sl0_at w, sl0_at w, sl0_at w⟩
/-- A leaf, in memory. -/
theorem lfx_ok (ib bb : Nat) (w : World) (hi : w.heap[ib]? = some (.cells xret.cells.toArray 40 (0, 0))) (hb : w.heap[bb]? = some (.cells #[.slice (some ⟨ib, 0, none⟩) 1 1] 43 (0, 0))) : FxOk w (lfx ib bb) := by
  have hbx : BxAt w ⟨some ⟨ib, 0, none⟩, 1, 1, [xret]⟩ := ⟨rfl, ⟨Nat.le_refl _, by show 1 ≤ maxLen; unfold maxLen; omega⟩, (fun x hx => by
    obtain rfl : x = xret := by simpa using hx
    exact xret_ok w), fun _ => ⟨ib, 0, rfl, fun k x hx j v hj => by
    cases k with
    | zero =>
      obtain rfl : xret = x := by simpa using hx
      simp only [Nat.zero_mul, Nat.zero_add]
      rw [cell_of_row w ib _ _ _ _ hi, List.getElem?_toArray]
      exact hj
    | succ k => simp at hx⟩⟩
  exact ⟨by show 0 ≤ maxLen; omega, i64s 0 (by decide), i64s 0 (by decide), sl0_at w, rfl, ⟨Nat.le_refl _, by show 1 ≤ maxLen; unfold maxLen; omega⟩, fun x hx => by
    obtain rfl : x = ⟨some ⟨ib, 0, none⟩, 1, 1, [xret]⟩ := by simpa [lfx] using hx
    exact hbx, fun _ => ⟨bb, 0, rfl, fun k x hx => by
      cases k with
      | zero => obtain rfl : (⟨some ⟨ib, 0, none⟩, 1, 1, [xret]⟩ : Bx) = x := by simpa [lfx] using hx
                rw [cell_of_row w bb _ _ _ _ hb]; rfl
      | succ k => simp [lfx] at hx⟩⟩
/-- Main, in memory. -/
theorem mfx_ok (B t : Nat) (S : List Int) (ib bb ic : Nat) (w : World) (ht : t ≤ 1000) (hS : ∀ z ∈ S, -1000 ≤ z ∧ z ≤ 1000) (hi : w.ownsRow B 40 11 (.slice (some ⟨ib, 0, none⟩) (S.length + 2) ic) (S.length + 2) (icells (sixs t S))) (hb : w.heap[bb]? = some (.cells #[.slice (some ⟨ib, 0, none⟩) (S.length + 2) ic] 43 (0, 0))) : FxOk w (mfx t S ib bb ic) := by
  have hcap : S.length + 2 ≤ ic ∧ ic ≤ maxLen := by
    rcases hi.2 with ⟨h1, h2⟩ | ⟨g, cap, cur, h1, _, _, h4, h5, _⟩
    · omega
    · injection h1 with _ _ e; subst e; exact ⟨h4, h5⟩
  have hlen : (sixs t S).length = S.length + 2 := by simp [sixs]
  have hbx : BxAt w ⟨some ⟨ib, 0, none⟩, S.length + 2, ic, sixs t S⟩ := ⟨hlen, hcap, (fun x hx => by
    simp only [sixs] at hx
    rcases List.mem_cons.1 hx with rfl | hx
    · exact xfunc_ok w _ (by omega)
    · rcases List.mem_append.1 hx with hx | hx
      · obtain ⟨z, hz, rfl⟩ := List.mem_map.1 hx
        exact xcall_ok w z (hS z hz)
      · obtain rfl : x = xret := by simpa using hx
        exact xret_ok w), fun _ => ⟨ib, 0, rfl, fun k x hx j v hj => by
    simp only at hx
    have hk : k < S.length + 2 := by rw [← hlen]; exact (List.getElem?_eq_some_iff.1 hx).1
    have hjl : j < 11 := by have := (List.getElem?_eq_some_iff.1 hj).1; simpa [Ix.cells] using this
    rw [Nat.zero_add, World.ownsRow.cellAt hi (k * 11 + j) (by omega)]
    exact flatG_get Ix.cells 11 (fun _ => rfl) (sixs t S) k x hx j v hj⟩⟩
  exact ⟨by show 0 ≤ maxLen; omega, i64s 0 (by decide), i64s 1 (by decide), sl0_at w, rfl, ⟨Nat.le_refl _, by show 1 ≤ maxLen; unfold maxLen; omega⟩, fun x hx => by
    obtain rfl : x = ⟨some ⟨ib, 0, none⟩, S.length + 2, ic, sixs t S⟩ := by simpa [mfx] using hx
    exact hbx, fun _ => ⟨bb, 0, rfl, fun k x hx => by
      cases k with
      | zero => obtain rfl : (⟨some ⟨ib, 0, none⟩, S.length + 2, ic, sixs t S⟩ : Bx) = x := by simpa [mfx] using hx
                rw [cell_of_row w bb _ _ _ _ hb]; rfl
      | succ k => simp [mfx] at hx⟩⟩
/-- The leaves under way. -/
structure LF (w0 w : World) (RB VB m i : Nat) (fa : Option Addr) (fc : Nat) (fl : List Fx) : Prop where
  ret : w.heap[RB]? = some (.cells xret.cells.toArray 40 (0, 0))
  row : w.heap[VB]? = some (.cells #[.slice none 0 0, .slice fa i fc, .int .i64 (m : Int)] 26 (0, 0))
  own : w.ownsRow w0.heap.size 46 6 (.slice fa i fc) i (fl.flatMap Fx.cells)
  len : fl.length = i
  fl_ : ∀ j, j < i → ∃ ib bb, fl[j]? = some (lfx ib bb) ∧ w.heap[ib]? = some (.cells xret.cells.toArray 40 (0, 0)) ∧ w.heap[bb]? = some (.cells #[.slice (some ⟨ib, 0, none⟩) 1 1] 43 (0, 0))
theorem LF.keep {P : Nat → Prop} {w0 w w' : World} {RB VB m i : Nat} {fa : Option Addr} {fc : Nat} {fl : List Fx} (h : LF w0 w RB VB m i fa fc fl) (hk : Keeps P w w')
    (hP : ∀ q cs t, P q → w.heap[q]? = some (.cells cs t (0, 0)) → t ≠ 26 ∧ t ≠ 46 ∧ t ≠ 43 ∧ (t = 40 → q ≠ RB ∧ ∀ (j ib bb : Nat), fl[j]? = some (lfx ib bb) → q ≠ ib)) : LF w0 w' RB VB m i fa fc fl := by
  have kb : ∀ q cs t, w.heap[q]? = some (.cells cs t (0, 0)) → ¬ P q → w'.heap[q]? = some (.cells cs t (0, 0)) := fun q cs t hq hn => (hk.block q (Array.getElem?_eq_some_iff.1 hq).1 hn).trans hq
  refine ⟨kb _ _ _ h.ret (fun e => ((hP _ _ _ e h.ret).2.2.2 rfl).1 rfl), kb _ _ _ h.row (fun e => (hP _ _ _ e h.row).1 rfl), own_kept h.own (fun q hq => hk.block q (ownG_lt h.own q hq) (fun e => ?_)), h.len, fun j hj => ?_⟩
  · obtain ⟨cs, hc⟩ := own_typ h.own hq
    exact (hP _ _ _ e hc).2.1 rfl
  · obtain ⟨ib, bb, h1, h2, h3⟩ := h.fl_ j hj
    exact ⟨ib, bb, h1, kb _ _ _ h2 (fun e => ((hP _ _ _ e h2).2.2.2 rfl).2 j ib bb h1 rfl), kb _ _ _ h3 (fun e => (hP _ _ _ e h3).2.2.1 rfl)⟩
/-- The star under way. -/
structure SG (w0 w : World) (RB VB m i t : Nat) (fa : Option Addr) (fc : Nat) (fl : List Fx) (mv cv rv : Value) (Sm Sc R : List Int) : Prop where
  kp : Keeps No w0 w
  lo : w0.heap.size ≤ VB
  lf : LF w0 w RB VB m i fa fc fl
  mn : w.ownsRow w0.heap.size 40 11 mv (Sm.length + 1) (icells (xfunc (t : Int) :: Sm.map xcall))
  cl : w.ownsRow w0.heap.size 3 1 cv Sc.length (irow Sc)
  rc : w.ownsRow w0.heap.size 3 1 rv R.length (irow R)
  am : ∀ q, mv.ownBlock = some q → q ≠ RB ∧ ∀ (j ib bb : Nat), fl[j]? = some (lfx ib bb) → q ≠ ib
  ac : ∀ q, cv.ownBlock = some q → rv.ownBlock = some q → False
section
variable {w0 w w' w2 w4 : World} {RB VB m i t : Nat} {fa : Option Addr} {fc : Nat} {fl : List Fx} {mv cv rv : Value} {Sm Sc R : List Int}
theorem SG.no (h : SG w0 w RB VB m i t fa fc fl mv cv rv Sm Sc R) (hk : Keeps No w w') : SG w0 w' RB VB m i t fa fc fl mv cv rv Sm Sc R :=
  ⟨h.kp.trans hk (fun _ _ e => e), h.lo, h.lf.keep hk (fun _ _ _ e => e.elim), own_kept h.mn (fun q hq => hk.block q (ownG_lt h.mn q hq) (fun e => e)), own_kept h.cl (fun q hq => hk.block q (ownG_lt h.cl q hq) (fun e => e)), own_kept h.rc (fun q hq => hk.block q (ownG_lt h.rc q hq) (fun e => e)), h.am, h.ac⟩
theorem own_row_typ {B z n q : Nat} {e t : TypeId} {v : Value} {xs : List Value} {cs : Array Value} (h : w.ownsRow B e z v n xs) (hv : v.ownBlock = some q) (hq : w.heap[q]? = some (.cells cs t (0, 0))) : t = e := by
  obtain ⟨c2, hc⟩ := own_typ h hv
  rw [hq] at hc
  injection hc with hc
  injection hc
theorem own_ne {B z n B2 z2 n2 q : Nat} {e e2 : TypeId} {v v2 : Value} {xs xs2 : List Value} (h : w.ownsRow B e z v n xs) (h2 : w.ownsRow B2 e2 z2 v2 n2 xs2) (hne : e ≠ e2) (hq : v.ownBlock = some q) : v2.ownBlock ≠ some q := fun hq2 => by
  obtain ⟨cs, hc⟩ := own_typ h hq
  exact hne (own_row_typ h2 hq2 hc)
theorem SG.main {z : Int} {g' cap : Nat} (h : SG w0 w RB VB m i t fa fc fl mv cv rv Sm Sc R) (hk : Keeps (fun q => mv.ownBlock = some q) w w') (hg : mv.ownBlock = some g' ∨ w.heap.size ≤ g')
    (ho : w'.ownsRow w0.heap.size 40 11 (.slice (some ⟨g', 0, none⟩) (Sm.length + 1 + 1) cap) (Sm.length + 1 + 1) (icells ((xfunc (t : Int) :: Sm.map xcall) ++ [xcall z]))) :
    SG w0 w' RB VB m i t fa fc fl (.slice (some ⟨g', 0, none⟩) (Sm.length + 1 + 1) cap) cv rv (Sm ++ [z]) Sc R := by
  refine ⟨h.kp.trans hk (fun q hq e => by have := ownG_lo h.mn q e; omega), h.lo, h.lf.keep hk (fun q cs ty e hq => ?_), by simpa using ho, own_kept h.cl (fun q hq => hk.block q (ownG_lt h.cl q hq) (fun e => own_ne h.mn h.cl (by decide) e hq)), own_kept h.rc (fun q hq => hk.block q (ownG_lt h.rc q hq) (fun e => own_ne h.mn h.rc (by decide) e hq)), fun q hq => ?_, h.ac⟩
  · obtain rfl := own_row_typ h.mn e hq
    exact ⟨by decide, by decide, by decide, fun _ => h.am q e⟩
  · obtain rfl : g' = q := by injection hq
    rcases hg with e | e
    · exact h.am g' e
    · refine ⟨fun e2 => ?_, fun j ib bb hj e2 => ?_⟩
      · have := (Array.getElem?_eq_some_iff.1 h.lf.ret).1; omega
      · have hji : j < i := by rw [← h.lf.len]; exact (List.getElem?_eq_some_iff.1 hj).1
        obtain ⟨ib2, bb2, h1, h2, _⟩ := h.lf.fl_ j hji
        rw [hj] at h1
        have hib : ib = ib2 := by
          injection h1 with h1
          simp only [lfx, Fx.mk.injEq, List.cons.injEq, Bx.mk.injEq, Option.some.injEq, Addr.mk.injEq] at h1
          simp_all
        have := (Array.getElem?_eq_some_iff.1 h2).1
        omega
theorem SG.calls {z : Int} {g' cap : Nat} (h : SG w0 w RB VB m i t fa fc fl mv cv rv Sm Sc R) (hk : Keeps (fun q => cv.ownBlock = some q) w w') (hg : cv.ownBlock = some g' ∨ w.heap.size ≤ g')
    (ho : w'.ownsRow w0.heap.size 3 1 (.slice (some ⟨g', 0, none⟩) (Sc.length + 1) cap) (Sc.length + 1) (irow (Sc ++ [z]))) :
    SG w0 w' RB VB m i t fa fc fl mv (.slice (some ⟨g', 0, none⟩) (Sc.length + 1) cap) rv Sm (Sc ++ [z]) R := by
  refine ⟨h.kp.trans hk (fun q hq e => by have := ownG_lo h.cl q e; omega), h.lo, h.lf.keep hk (fun q cs ty e hq => ?_), own_kept h.mn (fun q hq => hk.block q (ownG_lt h.mn q hq) (fun e => own_ne h.cl h.mn (by decide) e hq)), by simpa using ho, own_kept h.rc (fun q hq => hk.block q (ownG_lt h.rc q hq) (fun e => h.ac q e hq)), h.am, fun q hq hr => ?_⟩
  · obtain rfl := own_row_typ h.cl e hq
    exact ⟨by decide, by decide, by decide, fun e => absurd e (by decide)⟩
  · obtain rfl : g' = q := by injection hq
    rcases hg with e | e
    · exact h.ac g' e hr
    · have := ownG_lt h.rc g' hr; omega
theorem SG.reach {z : Int} {g' cap : Nat} (h : SG w0 w RB VB m i t fa fc fl mv cv rv Sm Sc R) (hk : Keeps (fun q => rv.ownBlock = some q) w w') (hg : rv.ownBlock = some g' ∨ w.heap.size ≤ g')
    (ho : w'.ownsRow w0.heap.size 3 1 (.slice (some ⟨g', 0, none⟩) (R.length + 1) cap) (R.length + 1) (irow (R ++ [z]))) :
    SG w0 w' RB VB m i t fa fc fl mv cv (.slice (some ⟨g', 0, none⟩) (R.length + 1) cap) Sm Sc (R ++ [z]) := by
  refine ⟨h.kp.trans hk (fun q hq e => by have := ownG_lo h.rc q e; omega), h.lo, h.lf.keep hk (fun q cs ty e hq => ?_), own_kept h.mn (fun q hq => hk.block q (ownG_lt h.mn q hq) (fun e => own_ne h.rc h.mn (by decide) e hq)), own_kept h.cl (fun q hq => hk.block q (ownG_lt h.cl q hq) (fun e => h.ac q hq e)), by simpa using ho, h.am, fun q hq hr => ?_⟩
  · obtain rfl := own_row_typ h.rc e hq
    exact ⟨by decide, by decide, by decide, fun e => absurd e (by decide)⟩
  · obtain rfl : g' = q := by injection hr
    rcases hg with e | e
    · exact h.ac g' hq e
    · have := ownG_lt h.cl g' hq; omega
/-- One function more. -/
theorem SG.leaf {IB BB g' cap : Nat} (h : SG w0 w RB VB m i t fa fc fl mv cv rv Sm Sc R) (hk2 : Keeps No w w2) (hIB : w.heap.size ≤ IB)
    (q0 : w2.heap[IB]? = some (.cells xret.cells.toArray 40 (0, 0))) (q1 : w2.heap[BB]? = some (.cells #[.slice (some ⟨IB, 0, none⟩) 1 1] 43 (0, 0)))
    (hk4 : Keeps (fun q => (Value.slice fa i fc).ownBlock = some q) w2 w4) (ho : w4.ownsRow w0.heap.size 46 6 (.slice (some ⟨g', 0, none⟩) (i + 1) cap) (i + 1) ((fl ++ [lfx IB BB]).flatMap Fx.cells)) :
    SG w0 (w4.setCell ⟨VB, 1, none⟩ (.slice (some ⟨g', 0, none⟩) (i + 1) cap)) RB VB m (i + 1) t (some ⟨g', 0, none⟩) cap (fl ++ [lfx IB BB]) mv cv rv Sm Sc R := by
  have h2 := h.no hk2
  have hs := setC w4 ⟨VB, 1, none⟩ (.slice (some ⟨g', 0, none⟩) (i + 1) cap)
  have hV4 : w4.heap[VB]? = some (.cells #[.slice none 0 0, .slice fa i fc, .int .i64 (m : Int)] 26 (0, 0)) := (hk4.block VB (Array.getElem?_eq_some_iff.1 h2.lf.row).1 (fun e => absurd (own_row_typ h2.lf.own e h2.lf.row) (by decide))).trans h2.lf.row
  have kk : ∀ {q : Nat} {cs : Array Value} {ty : TypeId}, w2.heap[q]? = some (.cells cs ty (0, 0)) → ty ≠ 46 → ty ≠ 26 → (w4.setCell ⟨VB, 1, none⟩ (.slice (some ⟨g', 0, none⟩) (i + 1) cap)).heap[q]? = some (.cells cs ty (0, 0)) := fun {q cs ty} hq h1 h3 => by
    have hq4 := (hk4.block q (Array.getElem?_eq_some_iff.1 hq).1 (fun e => absurd (own_row_typ h2.lf.own e hq) h1)).trans hq
    exact (hs.block q (Array.getElem?_eq_some_iff.1 hq4).1 (fun e => ne_type hq4 hV4 h3 e)).trans hq4
  have ow : ∀ {e : TypeId} {z n : Nat} {v : Value} {xs : List Value}, w2.ownsRow w0.heap.size e z v n xs → e ≠ 46 → e ≠ 26 → (w4.setCell ⟨VB, 1, none⟩ (.slice (some ⟨g', 0, none⟩) (i + 1) cap)).ownsRow w0.heap.size e z v n xs := fun {e z n v xs} hw h1 h3 => own_kept hw (fun q hq => by
    obtain ⟨cs, hc⟩ := own_typ hw hq
    rw [kk hc h1 h3, hc])
  refine ⟨(h2.kp.trans hk4 (fun q hq e => by have := ownG_lo h2.lf.own q e; omega)).trans hs (fun q hq e => by have := h.lo; simp only at e; omega), h.lo, ⟨kk h2.lf.ret (by decide) (by decide), ?_, ?_, by rw [List.length_append, h.lf.len]; rfl, fun j hj => ?_⟩, ow h2.mn (by decide) (by decide), ow h2.cl (by decide) (by decide), ow h2.rc (by decide) (by decide), fun q hq => ⟨(h.am q hq).1, fun j ib bb hj e => ?_⟩, h.ac⟩
  · rw [heap_setCell_same w4 VB 1 _ _ _ hV4]; rfl
  · exact own_kept ho (fun q hq => hs.block q (ownG_lt ho q hq) (fun e => by obtain ⟨cs, hc⟩ := own_typ ho hq; exact ne_type hV4 hc (by decide) e.symm))
  · by_cases hji : j < i
    · obtain ⟨ib, bb, f1, f2, f3⟩ := h2.lf.fl_ j hji
      exact ⟨ib, bb, by rw [List.getElem?_append_left (by rw [h.lf.len]; exact hji)]; exact f1, kk f2 (by decide) (by decide), kk f3 (by decide) (by decide)⟩
    · obtain rfl : j = i := by omega
      exact ⟨IB, BB, by rw [List.getElem?_append_right (by rw [h.lf.len]; exact Nat.le_refl _), h.lf.len, Nat.sub_self]; rfl, kk q0 (by decide) (by decide), kk q1 (by decide) (by decide)⟩
  · by_cases hji : j < i
    · rw [List.getElem?_append_left (by rw [h.lf.len]; exact hji)] at hj
      exact (h.am q hq).2 j ib bb hj e
    · have hjl : j < i + 1 := by have := (List.getElem?_eq_some_iff.1 hj).1; rw [List.length_append, h.lf.len] at this; exact this
      obtain rfl : j = i := by omega
      rw [List.getElem?_append_right (by rw [h.lf.len]; exact Nat.le_refl _), h.lf.len, Nat.sub_self] at hj
      have hib : IB = ib := by
        simp only [List.getElem?_cons_zero, Option.some.injEq, lfx, Fx.mk.injEq, List.cons.injEq, Bx.mk.injEq, Addr.mk.injEq] at hj
        simp_all
      have := ownG_lt h.mn q hq
      omega
end
end Go.Proofs.YtkiimljdoebclaaDoor
/- A star of functions, in memory: made. -/
namespace Go.Proofs.YtkiimljdoebclaaDoor
open Go.RowKit Gm Go.Maps
set_option linter.unusedVariables false
set_option linter.unusedSimpArgs false

/-- Main's instructions are whole. -/
structure SH (w0 w : World) (RB VB m t : Nat) (fa : Option Addr) (fc : Nat) (fl : List Fx) (g1 ic : Nat) (cv rv : Value) (S R : List Int) : Prop where
  kp : Keeps No w0 w
  lo : w0.heap.size ≤ VB
  lf : LF w0 w RB VB m m fa fc fl
  mn : w.ownsRow w0.heap.size 40 11 (.slice (some ⟨g1, 0, none⟩) (S.length + 2) ic) (S.length + 2) (icells (sixs t S))
  cl : w.ownsRow w0.heap.size 3 1 cv S.length (irow S)
  rc : w.ownsRow w0.heap.size 3 1 rv R.length (irow R)
section
variable {w0 w w' w2 w4 : World} {RB VB m t g1 ic : Nat} {fa : Option Addr} {fc : Nat} {fl : List Fx} {mv cv rv : Value} {S R : List Int}
theorem SG.fin (h : SG w0 w RB VB m m t fa fc fl mv cv rv S S R) (hk : Keeps (fun q => mv.ownBlock = some q) w w')
    (ho : w'.ownsRow w0.heap.size 40 11 (.slice (some ⟨g1, 0, none⟩) (S.length + 1 + 1) ic) (S.length + 1 + 1) (icells ((xfunc (t : Int) :: S.map xcall) ++ [xret]))) :
    SH w0 w' RB VB m t fa fc fl g1 ic cv rv S R := by
  refine ⟨h.kp.trans hk (fun q hq e => by have := ownG_lo h.mn q e; omega), h.lo, h.lf.keep hk (fun q cs ty e hq => ?_), ho, own_kept h.cl (fun q hq => hk.block q (ownG_lt h.cl q hq) (fun e => own_ne h.mn h.cl (by decide) e hq)), own_kept h.rc (fun q hq => hk.block q (ownG_lt h.rc q hq) (fun e => own_ne h.mn h.rc (by decide) e hq))⟩
  obtain rfl := own_row_typ h.mn e hq
  exact ⟨by decide, by decide, by decide, fun _ => h.am q e⟩
theorem SH.no (h : SH w0 w RB VB m t fa fc fl g1 ic cv rv S R) (hk : Keeps No w w') : SH w0 w' RB VB m t fa fc fl g1 ic cv rv S R :=
  ⟨h.kp.trans hk (fun _ _ e => e), h.lo, h.lf.keep hk (fun _ _ _ e => e.elim), own_kept h.mn (fun q hq => hk.block q (ownG_lt h.mn q hq) (fun e => e)), own_kept h.cl (fun q hq => hk.block q (ownG_lt h.cl q hq) (fun e => e)), own_kept h.rc (fun q hq => hk.block q (ownG_lt h.rc q hq) (fun e => e))⟩
/-- The star is made. -/
structure Made (w0 w : World) (VB m t : Nat) (cv rv : Value) (S R : List Int) (p : Pg) : Prop where
  kp : Keeps No w0 w
  star : IsStar p m t S
  ok : ∀ W, Keeps (fun q => rv.ownBlock = some q) w W → PgOk W p ∧ p.at_ W VB 0
  cl : w.ownsRow w0.heap.size 3 1 cv S.length (irow S)
  rc : w.ownsRow w0.heap.size 3 1 rv R.length (irow R)
theorem SH.made {BB g' cap : Nat} (h2 : SH w0 w2 RB VB m t fa fc fl g1 ic cv rv S R) (hm : m ≤ 12) (ht : t < m) (hS : ∀ z ∈ S, -1000 ≤ z ∧ z ≤ 1000)
    (q1 : w2.heap[BB]? = some (.cells #[.slice (some ⟨g1, 0, none⟩) (S.length + 2) ic] 43 (0, 0)))
    (hk4 : Keeps (fun q => (Value.slice fa m fc).ownBlock = some q) w2 w4) (ho : w4.ownsRow w0.heap.size 46 6 (.slice (some ⟨g', 0, none⟩) (m + 1) cap) (m + 1) ((fl ++ [mfx t S g1 BB ic]).flatMap Fx.cells)) :
    Made w0 (w4.setCell ⟨VB, 1, none⟩ (.slice (some ⟨g', 0, none⟩) (m + 1) cap)) VB m t cv rv S R ⟨none, 0, 0, [], some ⟨g', 0, none⟩, m + 1, cap, fl ++ [mfx t S g1 BB ic], (m : Int)⟩ := by
  have hs := setC w4 ⟨VB, 1, none⟩ (.slice (some ⟨g', 0, none⟩) (m + 1) cap)
  have hV4 : w4.heap[VB]? = some (.cells #[.slice none 0 0, .slice fa m fc, .int .i64 (m : Int)] 26 (0, 0)) := (hk4.block VB (Array.getElem?_eq_some_iff.1 h2.lf.row).1 (fun e => absurd (own_row_typ h2.lf.own e h2.lf.row) (by decide))).trans h2.lf.row
  have kk : ∀ {q : Nat} {cs : Array Value} {ty : TypeId}, w2.heap[q]? = some (.cells cs ty (0, 0)) → ty ≠ 46 → ty ≠ 26 → (w4.setCell ⟨VB, 1, none⟩ (.slice (some ⟨g', 0, none⟩) (m + 1) cap)).heap[q]? = some (.cells cs ty (0, 0)) := fun {q cs ty} hq h1 h3 => by
    have hq4 := (hk4.block q (Array.getElem?_eq_some_iff.1 hq).1 (fun e => absurd (own_row_typ h2.lf.own e hq) h1)).trans hq
    exact (hs.block q (Array.getElem?_eq_some_iff.1 hq4).1 (fun e => ne_type hq4 hV4 h3 e)).trans hq4
  have ow : ∀ {e : TypeId} {z n : Nat} {v : Value} {xs : List Value}, w2.ownsRow w0.heap.size e z v n xs → e ≠ 46 → e ≠ 26 → (w4.setCell ⟨VB, 1, none⟩ (.slice (some ⟨g', 0, none⟩) (m + 1) cap)).ownsRow w0.heap.size e z v n xs := fun {e z n v xs} hw h1 h3 => own_kept hw (fun q hq => by
    obtain ⟨cs, hc⟩ := own_typ hw hq
    rw [kk hc h1 h3, hc])
  have ho5 : (w4.setCell ⟨VB, 1, none⟩ (.slice (some ⟨g', 0, none⟩) (m + 1) cap)).ownsRow w0.heap.size 46 6 (.slice (some ⟨g', 0, none⟩) (m + 1) cap) (m + 1) ((fl ++ [mfx t S g1 BB ic]).flatMap Fx.cells) :=
    own_kept ho (fun q hq => hs.block q (ownG_lt ho q hq) (fun e => by obtain ⟨cs, hc⟩ := own_typ ho hq; exact ne_type hV4 hc (by decide) e.symm))
  have hV5 : (w4.setCell ⟨VB, 1, none⟩ (.slice (some ⟨g', 0, none⟩) (m + 1) cap)).heap[VB]? = some (.cells #[.slice none 0 0, .slice (some ⟨g', 0, none⟩) (m + 1) cap, .int .i64 (m : Int)] 26 (0, 0)) := by rw [heap_setCell_same w4 VB 1 _ _ _ hV4]; rfl
  have hk5 : Keeps No w0 (w4.setCell ⟨VB, 1, none⟩ (.slice (some ⟨g', 0, none⟩) (m + 1) cap)) := (h2.kp.trans hk4 (fun q hq e => by have := ownG_lo h2.lf.own q e; omega)).trans hs (fun q hq e => by have := h2.lo; simp only at e; omega)
  have mn5 := ow h2.mn (by decide) (by decide)
  have cl5 := ow h2.cl (by decide) (by decide)
  have rc5 := ow h2.rc (by decide) (by decide)
  have b5 := kk q1 (by decide) (by decide)
  have fl5 : ∀ j, j < m → ∃ ib bb, fl[j]? = some (lfx ib bb) ∧ (w4.setCell ⟨VB, 1, none⟩ (.slice (some ⟨g', 0, none⟩) (m + 1) cap)).heap[ib]? = some (.cells xret.cells.toArray 40 (0, 0)) ∧ (w4.setCell ⟨VB, 1, none⟩ (.slice (some ⟨g', 0, none⟩) (m + 1) cap)).heap[bb]? = some (.cells #[.slice (some ⟨ib, 0, none⟩) 1 1] 43 (0, 0)) := fun j hj => by
    obtain ⟨ib, bb, e1, e2, e3⟩ := h2.lf.fl_ j hj
    exact ⟨ib, bb, e1, kk e2 (by decide) (by decide), kk e3 (by decide) (by decide)⟩
  have hfl := h2.lf.len
  generalize w4.setCell ⟨VB, 1, none⟩ (.slice (some ⟨g', 0, none⟩) (m + 1) cap) = w5 at ho5 hV5 hk5 mn5 cl5 rc5 b5 fl5 ⊢
  clear kk ow hs hV4 ho hk4 q1 h2
  have hlen : (fl ++ [mfx t S g1 BB ic]).length = m + 1 := by rw [List.length_append, hfl]; rfl
  have hget : ∀ j, j < m → (fl ++ [mfx t S g1 BB ic])[j]? = fl[j]? := fun j hj => List.getElem?_append_left (by rw [hfl]; exact hj)
  have hgetm : (fl ++ [mfx t S g1 BB ic])[m]? = some (mfx t S g1 BB ic) := by rw [List.getElem?_append_right (by rw [hfl]; exact Nat.le_refl _), hfl, Nat.sub_self]; rfl
  refine ⟨hk5, ⟨⟨rfl, rfl, rfl, rfl⟩, rfl, rfl, hlen, fun j hj => ?_, ⟨g1, BB, ic, hgetm⟩⟩, fun W hW => ?_, cl5, rc5⟩
  · obtain ⟨ib, bb, e1, _⟩ := fl5 j hj
    exact ⟨ib, bb, by show (fl ++ [mfx t S g1 BB ic])[j]? = _; rw [hget j hj]; exact e1⟩
  have kb : ∀ {q : Nat} {cs : Array Value} {ty : TypeId}, w5.heap[q]? = some (.cells cs ty (0, 0)) → ty ≠ 3 → W.heap[q]? = some (.cells cs ty (0, 0)) := fun {q cs ty} hq h1 => (hW.block q (Array.getElem?_eq_some_iff.1 hq).1 (fun e => h1 (own_row_typ rc5 e hq))).trans hq
  have ob : ∀ {e : TypeId} {z n : Nat} {v : Value} {xs : List Value}, w5.ownsRow w0.heap.size e z v n xs → e ≠ 3 → W.ownsRow w0.heap.size e z v n xs := fun {e z n v xs} hw h1 => own_kept hw (fun q hq => by
    obtain ⟨cs, hc⟩ := own_typ hw hq
    rw [kb hc h1, hc])
  have ho6 := ob ho5 (by decide)
  have mn6 := ob mn5 (by decide)
  have b6 := kb b5 (by decide)
  refine ⟨?_, fun j v hj => ?_⟩
  · have hcap : m + 1 ≤ cap ∧ cap ≤ maxLen := by
      rcases ho5.2 with ⟨h1, h2⟩ | ⟨g, cap2, cur, h1, _, _, h4, h5, _⟩
      · omega
      · injection h1 with _ _ e; subst e; exact ⟨h4, h5⟩
    refine ⟨i64s (m : Int) (by omega), rfl, ⟨Nat.le_refl _, Nat.zero_le _⟩, (fun g hg => by cases hg), (fun h => absurd h (Nat.lt_irrefl 0)), hlen, hcap, fun f hf => ?_, fun _ => ?_⟩
    · obtain ⟨j, hj⟩ := List.mem_iff_getElem?.1 hf
      have hjm : j < m + 1 := by rw [← hlen]; exact (List.getElem?_eq_some_iff.1 hj).1
      simp only at hj
      by_cases hjl : j < m
      · rw [hget j hjl] at hj
        obtain ⟨ib, bb, e1, e2, e3⟩ := fl5 j hjl
        rw [hj] at e1
        injection e1 with e1
        subst e1
        exact lfx_ok ib bb W (kb e2 (by decide)) (kb e3 (by decide))
      · obtain rfl : j = m := by omega
        rw [hgetm] at hj
        injection hj with hj
        subst hj
        exact mfx_ok _ t S g1 BB ic W (by omega) hS mn6 b6
    · refine ⟨g', 0, rfl, fun k f hf j v hj => ?_⟩
      simp only at hf
      have hk : k < m + 1 := by rw [← hlen]; exact (List.getElem?_eq_some_iff.1 hf).1
      have hjl : j < 6 := by have := (List.getElem?_eq_some_iff.1 hj).1; simpa [Fx.cells] using this
      rw [Nat.zero_add, World.ownsRow.cellAt ho6 (k * 6 + j) (by omega)]
      exact flatG_get Fx.cells 6 (fun _ => rfl) _ k f hf j v hj
  · rw [Nat.zero_add, cell_of_row W VB j _ _ _ (kb hV5 (by decide))]
    rw [← List.getElem?_toArray] at hj
    exact hj
end
theorem SG.start (w2 : World) (m t : Nat) : SG w2 (((w2.alloc (.cells xret.cells.toArray 40)).alloc (.cells #[.slice none 0 0, .slice none 0 0, .int .i64 (m : Int)] 26)).alloc (.cells (xfunc (t : Int)).cells.toArray 40)) w2.heap.size (w2.heap.size + 1) m 0 t none 0 [] (.slice (some ⟨w2.heap.size + 1 + 1, 0, none⟩) 1 1) (.slice none 0 0) (.slice none 0 0) [] [] [] := by
  have q0 : (((w2.alloc (.cells xret.cells.toArray 40)).alloc (.cells #[.slice none 0 0, .slice none 0 0, .int .i64 (m : Int)] 26)).alloc (.cells (xfunc (t : Int)).cells.toArray 40)).heap[w2.heap.size]? = some (.cells xret.cells.toArray 40 (0, 0)) := by
    rw [Below.heap_alloc _ _ _ (by first | (simp; done) | (simp; omega)), Below.heap_alloc _ _ _ (by first | (simp; done) | (simp; omega))]; exact heap_alloc_new _ _
  have q1 : (((w2.alloc (.cells xret.cells.toArray 40)).alloc (.cells #[.slice none 0 0, .slice none 0 0, .int .i64 (m : Int)] 26)).alloc (.cells (xfunc (t : Int)).cells.toArray 40)).heap[w2.heap.size + 1]? = some (.cells #[.slice none 0 0, .slice none 0 0, .int .i64 (m : Int)] 26 (0, 0)) := by
    rw [Below.heap_alloc _ _ _ (by first | (simp; done) | (simp; omega))]
    have h := heap_alloc_new (w2.alloc (.cells xret.cells.toArray 40)) (.cells #[.slice none 0 0, .slice none 0 0, .int .i64 (m : Int)] 26)
    simpa using h
  have q2 : (((w2.alloc (.cells xret.cells.toArray 40)).alloc (.cells #[.slice none 0 0, .slice none 0 0, .int .i64 (m : Int)] 26)).alloc (.cells (xfunc (t : Int)).cells.toArray 40)).heap[w2.heap.size + 1 + 1]? = some (.cells (xfunc (t : Int)).cells.toArray 40 (0, 0)) := by
    have h := heap_alloc_new ((w2.alloc (.cells xret.cells.toArray 40)).alloc (.cells #[.slice none 0 0, .slice none 0 0, .int .i64 (m : Int)] 26)) (.cells (xfunc (t : Int)).cells.toArray 40)
    simpa using h
  refine ⟨(((Keeps.refl _ _).alloc _).alloc _).alloc _, by omega, ⟨q0, q1, World.ownsRow_nil _ _ _ _, rfl, fun j hj => absurd hj (Nat.not_lt_zero j)⟩, ⟨rfl, .inr ⟨w2.heap.size + 1 + 1, 1, (xfunc (t : Int)).cells.toArray, rfl, by omega, q2, Nat.le_refl _, by unfold maxLen; omega, rfl, rfl⟩⟩, World.ownsRow_nil _ _ _ _, World.ownsRow_nil _ _ _ _, fun q hq => ?_, fun q hq => by cases hq⟩
  obtain rfl : w2.heap.size + 1 + 1 = q := by injection hq
  exact ⟨by omega, fun j ib bb hj => by simp at hj⟩
/-- Which are called, which are reached. -/
structure SR (S R : List Int) (i t : Nat) : Prop where
  sr : Rising S
  sn : S.Nodup
  sb : ∀ z ∈ S, ∃ u : Nat, z = (u : Int) ∧ u < i
  sl : S.length ≤ i
  rr : Rising R
  rn : R.Nodup
  rb : ∀ z ∈ R, ∃ u : Nat, z = (u : Int) ∧ u < i
  rl : R.length ≤ i
  mem : ∀ x, x ∈ R ↔ x ∈ S ∨ (x = (t : Int) ∧ t < i)
theorem row_more {S : List Int} {i : Nat} (h1 : Rising S) (h2 : S.Nodup) (h3 : ∀ z ∈ S, ∃ u : Nat, z = (u : Int) ∧ u < i) : Rising (S ++ [(i : Int)]) ∧ (S ++ [(i : Int)]).Nodup ∧ ∀ z ∈ S ++ [(i : Int)], ∃ u : Nat, z = (u : Int) ∧ u < i + 1 := by
  refine ⟨List.pairwise_append.2 ⟨h1, List.pairwise_singleton _ _, fun a ha b hb => ?_⟩, List.nodup_append.2 ⟨h2, by simp, fun a ha b hb => ?_⟩, fun z hz => ?_⟩
  · obtain ⟨u, rfl, hu⟩ := h3 a ha
    obtain rfl : b = (i : Int) := by simpa using hb
    omega
  · obtain ⟨u, rfl, hu⟩ := h3 a ha
    obtain rfl : b = (i : Int) := by simpa using hb
    omega
  · rcases List.mem_append.1 hz with hz | hz
    · obtain ⟨u, e, hu⟩ := h3 z hz
      exact ⟨u, e, by omega⟩
    · obtain rfl : z = (i : Int) := by simpa using hz
      exact ⟨i, rfl, by omega⟩
theorem row_wait {S : List Int} {i : Nat} (h3 : ∀ z ∈ S, ∃ u : Nat, z = (u : Int) ∧ u < i) : ∀ z ∈ S, ∃ u : Nat, z = (u : Int) ∧ u < i + 1 := fun z hz => by
  obtain ⟨u, e, hu⟩ := h3 z hz
  exact ⟨u, e, by omega⟩
theorem SR.zero (t : Nat) : SR [] [] 0 t := ⟨List.Pairwise.nil, List.nodup_nil, (fun z hz => by cases hz), Nat.le_refl _, List.Pairwise.nil, List.nodup_nil, (fun z hz => by cases hz), Nat.le_refl _, fun x => by simp⟩
theorem SR.both {S R : List Int} {i t : Nat} (h : SR S R i t) : SR (S ++ [(i : Int)]) (R ++ [(i : Int)]) (i + 1) t := by
  obtain ⟨a1, a2, a3⟩ := row_more h.sr h.sn h.sb
  obtain ⟨b1, b2, b3⟩ := row_more h.rr h.rn h.rb
  refine ⟨a1, a2, a3, by have := h.sl; simp; omega, b1, b2, b3, by have := h.rl; simp; omega, fun x => ?_⟩
  rw [List.mem_append, List.mem_append, h.mem x]
  simp only [List.mem_singleton]
  by_cases hs : x ∈ S
  · simp [hs]
  · simp only [hs, false_or]; omega
theorem SR.told {S R : List Int} {i t : Nat} (h : SR S R i t) (hi : i = t) : SR S (R ++ [(i : Int)]) (i + 1) t := by
  obtain ⟨b1, b2, b3⟩ := row_more h.rr h.rn h.rb
  refine ⟨h.sr, h.sn, row_wait h.sb, by have := h.sl; omega, b1, b2, b3, by have := h.rl; simp; omega, fun x => ?_⟩
  rw [List.mem_append, h.mem x]
  simp only [List.mem_singleton]
  by_cases hs : x ∈ S
  · simp [hs]
  · simp only [hs, false_or]; omega
theorem SR.wait {S R : List Int} {i t : Nat} (h : SR S R i t) (hi : i ≠ t) : SR S R (i + 1) t := by
  refine ⟨h.sr, h.sn, row_wait h.sb, by have := h.sl; omega, h.rr, h.rn, row_wait h.rb, by have := h.rl; omega, fun x => ?_⟩
  rw [h.mem x]
  by_cases hs : x ∈ S
  · simp [hs]
  · simp only [hs, false_or]; omega
/-- All that is reached. -/
theorem SR.all {S R : List Int} {m t : Nat} (h : SR S R m t) (ht : t < m) : Rising (R ++ [(m : Int)]) ∧ (R ++ [(m : Int)]).Nodup ∧ ∀ x, x ∈ R ++ [(m : Int)] ↔ x ∈ S ∨ x = (t : Int) ∨ x = (m : Int) := by
  obtain ⟨b1, b2, _⟩ := row_more h.rr h.rn h.rb
  refine ⟨b1, b2, fun x => ?_⟩
  rw [List.mem_append, h.mem x]
  simp only [List.mem_singleton]
  by_cases hs : x ∈ S
  · simp [hs]
  · simp only [hs, false_or]; omega
/-- What the package's mirror answers of the star. -/
structure StarF (p : Pg) (m t : Nat) (S R : List Int) : Prop where
  calls : callsM p.nm = starC m S
  parts : partsM p.fn (callsM p.nm) 40 = some (outs (m + 1))
  cyc : cyclicM p.fn (callsM p.nm) 40 = some []
  reach : ∃ al, reachM p.fn p.nm p.fs 40 [p.main] [] = some al ∧ al.length = (R ++ [(m : Int)]).length ∧ isort (keys al) = R ++ [(m : Int)]
theorem IsStar.facts {p : Pg} {m t : Nat} {S R : List Int} (h : IsStar p m t S) (hr : SR S R m t) (h0 : 0 < m) (hm : m ≤ 12) (ht : t < m) : StarF p m t S R := by
  have e1 : callsM p.nm = starC m S := by rw [h.nm]; exact calls_star hr.sr hr.sn
  have hl : S.length ≤ 12 := Nat.le_trans hr.sl hm
  obtain ⟨a1, a2, a3⟩ := hr.all ht
  refine ⟨e1, by rw [e1, h.fn]; exact parts_star h0 hm hr.sr hr.sn hl hr.sb, by rw [e1, h.fn]; exact cyclic_none (by omega) (star_back hr.sb), ?_⟩
  rw [h.fn, h.nm, h.fs, h.main]
  exact reach_star hm ht hr.sb hl a1 a2 a3
end Go.Proofs.YtkiimljdoebclaaDoor
