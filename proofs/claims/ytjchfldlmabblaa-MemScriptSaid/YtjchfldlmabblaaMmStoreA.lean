/- Pointers within a block: within, Less, Distance, Move. -/
import Derived.Test.YtjchfldlmabblaaMmLeaf
import Derived.Laws.Tables
import Derived.Laws.Rows
namespace Go.Proofs.Ytjchfldlmabblaa
open Go.RowKit Go.Maps
set_option linter.unusedVariables false

theorem Keeps.cell {a b : World} (hg : Keeps No a b) {p : Addr} {v : Value} (h : a.cell? p = some v) : b.cell? p = some v := (KW.mk b hg).cell h
theorem Keeps.tr {a b c : World} (h : Keeps No a b) (g : Keeps No b c) : Keeps No a c := h.trans g (fun _ _ e => e)
theorem at_none {S : Sd} {p : Vl} (h : S.at p = none) : atV S.view p = none := by
  unfold Sd.at at h
  unfold atV Sd.view
  split
  · next hk =>
    rw [if_pos hk] at h
    cases hg : kget S.bs p.b with
    | none => rfl
    | some d =>
      rw [hg] at h
      simp only [Option.map_some, Option.filter]
      by_cases hV : spanV d.view p.o = true
      · simp [Option.filter, hV] at h
      · rw [if_neg hV]
  · rfl
theorem at_some {S : Sd} {p : Vl} {kb : Nat} (h : S.at p = some kb) : ∃ d, kget S.bs p.b = some d ∧ d.kb = kb ∧ atV S.view p = some d.view ∧ spanV d.view p.o = true := by
  unfold Sd.at at h
  unfold atV Sd.view
  split at h
  · next hk =>
    rw [if_pos hk]
    cases hg : kget S.bs p.b with
    | none => rw [hg] at h; simp at h
    | some d =>
      rw [hg] at h
      cases hV : spanV d.view p.o with
      | false => simp [Option.filter, hV] at h
      | true =>
        simp [Option.filter, hV] at h
        exact ⟨d, rfl, h, by simp [Option.filter, hV], hV⟩
  · cases h
theorem at_is (S : Sd) (p : Vl) : inV S.view p = (S.at p).isSome := by
  unfold inV
  cases h : S.at p with
  | none => rw [at_none h]; rfl
  | some kb => obtain ⟨d, _, _, e, _⟩ := at_some h; rw [e]; rfl
theorem at_as (S : Sd) (p : Vl) (A : Option Nat) (hA : S.at p = A) (hp : vlOk p) (w W : World) (h : StoreAs w S) (hk : Keeps No w W) :
    Calls Try.prog 45 #[.pointer (some ⟨S.s, 0, none⟩), va p] W fun e w' => e = .returned (ptrV A) ∧ Keeps No W w' := by
  rw [← hA]; exact at_any S p W (h.no hk) hp
theorem frozen_new (w : World) (c : Array Value) (e : TypeId) {q : Nat} (hq : q = w.heap.size) (o : Nat) : (w.alloc (.cells c e)).frozen? ⟨q, o, none⟩ = false := by
  subst hq
  have h := heap_alloc_new w (.cells c e)
  unfold World.frozen?
  simp only [h]
  simp
/-- What the call's own blocks of its parameters hold. -/
theorem one_param (w : World) (p : Vl) {W : World} (h : Keeps No (w.alloc (.cells #[.int .i64 p.k, .int .i64 p.n, .int .i64 p.b, .int .i64 p.o] 80)) W) :
    W.cell? ⟨w.heap.size, 0, none⟩ = some (.int .i64 p.k) ∧ W.cell? ⟨w.heap.size, 1, none⟩ = some (.int .i64 p.n) ∧ W.cell? ⟨w.heap.size, 2, none⟩ = some (.int .i64 p.b) ∧ W.cell? ⟨w.heap.size, 3, none⟩ = some (.int .i64 p.o) ∧ Hid (Keeps No w W) ∧ ∀ o, W.frozen? ⟨w.heap.size, o, none⟩ = false := by
  refine ⟨h.cell ?_, h.cell ?_, h.cell ?_, h.cell ?_, Lib.hid (((Keeps.refl _ _).alloc _).tr h), fun o => (KW.mk W h).frozen (by simp) (frozen_new _ _ _ rfl o)⟩ <;> (rw [World.cell?_alloc_at _ _ _ _ rfl]; rfl)
theorem two_params (w : World) (p q : Vl) {W : World} (h : Keeps No ((w.alloc (.cells #[.int .i64 p.k, .int .i64 p.n, .int .i64 p.b, .int .i64 p.o] 80)).alloc (.cells #[.int .i64 q.k, .int .i64 q.n, .int .i64 q.b, .int .i64 q.o] 80)) W) :
    (W.cell? ⟨w.heap.size, 0, none⟩ = some (.int .i64 p.k) ∧ W.cell? ⟨w.heap.size, 1, none⟩ = some (.int .i64 p.n) ∧ W.cell? ⟨w.heap.size, 2, none⟩ = some (.int .i64 p.b) ∧ W.cell? ⟨w.heap.size, 3, none⟩ = some (.int .i64 p.o)) ∧
    (W.cell? ⟨w.heap.size + 1, 0, none⟩ = some (.int .i64 q.k) ∧ W.cell? ⟨w.heap.size + 1, 1, none⟩ = some (.int .i64 q.n) ∧ W.cell? ⟨w.heap.size + 1, 2, none⟩ = some (.int .i64 q.b) ∧ W.cell? ⟨w.heap.size + 1, 3, none⟩ = some (.int .i64 q.o)) ∧ Hid (Keeps No w W) ∧ ∀ o, W.frozen? ⟨w.heap.size + 1, o, none⟩ = false := by
  obtain ⟨a1, a2, a3, a4, hk, _⟩ := one_param w p (((Keeps.refl _ _).alloc _).tr h)
  refine ⟨⟨a1, a2, a3, a4⟩, ⟨h.cell ?_, h.cell ?_, h.cell ?_, h.cell ?_⟩, hk, fun o => (KW.mk W h).frozen (by simp) (frozen_new _ _ _ (by simp) o)⟩ <;> (rw [World.cell?_alloc_at _ _ _ _ (by simp)]; rfl)
theorem infoV : (Try.prog.info? 80).map (·.size) = some 4 := by kernel_rfl
theorem one4 (a b c d : Int) : (#[Value.int .i64 a, .int .i64 b, .int .i64 c, .int .i64 d] : Array Value).all (fun x => x.oneCell') = true := by simp [Value.oneCell']
theorem Keeps.setRow {a w : World} {S : Nat → Prop} (h : Keeps S a w) {g : Nat} (hg : a.heap.size ≤ g) (cs : Array Value) : Keeps S a (w.setRow g cs) :=
  ⟨h.os, h.tape, h.output, by simpa using h.size, fun k hk hr => (setRow_other _ _ _ _ (by omega)).trans (h.block k hk hr)⟩
theorem row_cell (w : World) (g : Nat) (cs : Array Value) {t : TypeId} {old : Array Value} (hg : w.heap[g]? = some (.cells old t (0, 0))) (j : Nat) : (w.setRow g cs).cell? ⟨g, j, none⟩ = cs[j]? := cell_setRow_same w g j old cs t (0, 0) hg
theorem set4 {w : World} {g : Nat} {a b c d : Value} {x y z u : Value} {t : TypeId} (h : w.heap[g]? = some (.cells #[x, y, z, u] t (0, 0))) :
    (((w.setCell ⟨g, 0, none⟩ a).setCell ⟨g, 1, none⟩ b).setCell ⟨g, 2, none⟩ c).setCell ⟨g, 3, none⟩ d = w.setRow g #[a, b, c, d] := by
  have hg := (Array.getElem?_eq_some_iff.1 h).1
  have e : ∀ i : Nat, ((((w.setCell ⟨g, 0, none⟩ a).setCell ⟨g, 1, none⟩ b).setCell ⟨g, 2, none⟩ c).setCell ⟨g, 3, none⟩ d).heap[i]? = (w.setRow g #[a, b, c, d]).heap[i]? := by
    intro i
    by_cases hi : i = g
    · subst hi
      rw [setRow_heap _ _ _ _ _ _ h]
      simp [World.setCell, Array.getElem?_modify, h]
    · rw [setRow_other _ _ _ _ hi]
      simp [World.setCell, Array.getElem?_modify, Ne.symm hi]
  have e2 : ((((w.setCell ⟨g, 0, none⟩ a).setCell ⟨g, 1, none⟩ b).setCell ⟨g, 2, none⟩ c).setCell ⟨g, 3, none⟩ d).heap = (w.setRow g #[a, b, c, d]).heap := Array.ext_getElem? e
  have e3 : ∀ (v : World) h2, { v with heap := h2 } = { v with heap := h2 } := fun _ _ => rfl
  show { w with heap := ((((w.setCell ⟨g, 0, none⟩ a).setCell ⟨g, 1, none⟩ b).setCell ⟨g, 2, none⟩ c).setCell ⟨g, 3, none⟩ d).heap } = { w with heap := (w.setRow g #[a, b, c, d]).heap }
  rw [e2]
theorem row_of {w W : World} {o : Obj} (h : Keeps No (w.alloc o) W) : W.heap[w.heap.size]? = some o := (h.block _ (by simp) (fun e => e)).trans (heap_alloc_new w o)
theorem row_of2 {w W : World} {o1 o2 : Obj} (h : Keeps No ((w.alloc o1).alloc o2) W) : W.heap[w.heap.size + 1]? = some o2 := by have e := row_of h; rwa [heap_two] at e
set_option maxHeartbeats 800000 in
theorem within_any (S : Sd) (p q : Vl) (w : World) (h : StoreAs w S) (hp : vlOk p) (hq : vlOk q) :
    Calls Try.prog 47 #[.pointer (some ⟨S.s, 0, none⟩), va p, va q] w fun e w' => e = .returned (.bool (withinV S.view p q)) ∧ Keeps No w w' := by
  obtain ⟨X, hX⟩ : ∃ X, withinV S.view p q = X := ⟨_, rfl⟩
  rw [hX]
  unfold withinV at hX
  rw [at_is, at_is] at hX
  obtain ⟨A, hA⟩ : ∃ A, S.at p = A := ⟨_, rfl⟩
  obtain ⟨B, hB⟩ : ∃ B, S.at q = B := ⟨_, rfl⟩
  rw [hA, hB] at hX
  have HA := Lib.hid (fun W hk => at_as S p A hA hp w W h hk)
  have HB := Lib.hid (fun W hk => at_as S q B hB hq w W h hk)
  have HX := Lib.hid hX
  clear hA hB h hX hp hq
  by_cases hb : p.b = q.b
  · have HP := Lib.hid (fun W => @two_params w p q W)
    obtain ⟨pk, pn, pb, po⟩ := p
    obtain ⟨qk, qn, qb, qo⟩ := q
    simp only at hb HX HP
    subst hb
    go_enter Try.func47, Try.ntmps47
    go_wp2_with fail
    refine (HA.out _ (by repeat (first | with_reducible exact Keeps.refl _ _ | with_reducible refine Keeps.alloc ?_ _ | with_reducible refine Keeps.drewN ?_ _ | with_reducible refine Keeps.drew ?_ | with_reducible refine Keeps.setCell ?_ (.inr (by simp)) _ | with_reducible refine Keeps.setRow ?_ (by simp) _))).mono ?_
    rintro e w1 ⟨rfl, hg1⟩
    obtain ⟨⟨a1, a2, a3, a4⟩, ⟨b1, b2, b3, b4⟩, HK1, _⟩ := HP.out w1 hg1
    clear hg1
    cases A with
    | none =>
      have HE : Hid (X = false) := Lib.hid (by rw [← HX.out]; simp)
      clear HX
      simp only [ptrV]
      go_wp2_with fail
      go_returns
      exact ⟨rb rfl HE.out.symm, HK1.out⟩
    | some A =>
      simp only [ptrV]
      go_wp2_with fail
      refine (HB.out w1 HK1.out).mono ?_
      rintro e w2 ⟨rfl, hg2⟩
      have HK2 := Lib.hid (HK1.out.tr hg2)
      clear hg2
      cases B with
      | none =>
        have HE : Hid (X = false) := Lib.hid (by rw [← HX.out]; simp)
        clear HX
        simp only [ptrV]
        go_wp2_with fail
        go_returns
        exact ⟨rb rfl HE.out.symm, HK2.out⟩
      | some B =>
        have HE : Hid (X = true) := Lib.hid (by rw [← HX.out]; simp)
        clear HX
        simp only [ptrV]
        go_wp2_with fail
        go_returns
        exact ⟨rb rfl HE.out.symm, HK2.out⟩
  · have HE : Hid (X = false) := Lib.hid (by rw [← HX.out]; simp [hb])
    obtain ⟨pk, pn, pb, po⟩ := p
    obtain ⟨qk, qn, qb, qo⟩ := q
    simp only at hb
    have hb' : (pb == qb) = false := beq_eq_false_iff_ne.2 hb
    clear HX HA HB
    go_enter Try.func47, Try.ntmps47
    go_wp2_with fail
    go_returns
    exact ⟨rb rfl HE.out.symm, (by repeat (first | with_reducible exact Keeps.refl _ _ | with_reducible refine Keeps.alloc ?_ _ | with_reducible refine Keeps.drewN ?_ _ | with_reducible refine Keeps.drew ?_ | with_reducible refine Keeps.setCell ?_ (.inr (by simp)) _ | with_reducible refine Keeps.setRow ?_ (by simp) _))⟩
end Go.Proofs.Ytjchfldlmabblaa
