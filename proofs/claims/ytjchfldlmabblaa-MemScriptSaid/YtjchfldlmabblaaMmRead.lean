/- Read. -/
import Derived.Test.YtjchfldlmabblaaMmStoreD
namespace Go.Proofs.Ytjchfldlmabblaa
open Go.RowKit Go.Maps
set_option linter.unusedVariables false

theorem row_on (w : World) (g : Nat) (cs : Array Value) {t : TypeId} {old : Array Value} (hg : w.heap[g]? = some (.cells old t (0, 0))) (o : Obj) (j : Nat) : ((w.setRow g cs).alloc o).cell? ⟨g, j, none⟩ = cs[j]? := by
  have h1 := (Array.getElem?_eq_some_iff.1 hg).1
  rw [World.cell?_alloc_past _ _ _ (by simpa using h1)]
  exact row_cell w g cs hg j
set_option maxRecDepth 100000 in
set_option maxHeartbeats 1600000 in
theorem read_not (S : Sd) (p : Vl) (t : ByteArray) (w : World) (h : StoreAs w S) (hp : vlOk p) (ht : t.size ≤ maxLen) (hX : (cellV S.view p t).isSome = false) :
    Calls Try.prog 35 #[.pointer (some ⟨S.s, 0, none⟩), va p, .string t] w fun e w' => e = .returned (.tuple #[va v0, .bool false]) ∧ Keeps No w w' := by
  obtain ⟨K, hK⟩ : ∃ K, S.cellK p = K := ⟨_, rfl⟩
  have HC := Lib.hid (fun W hk => cell_as S p t w W h hk hp ht K false hK hX)
  clear h hp ht hX hK
  obtain ⟨pk, pn, pb, po⟩ := p
  go_enter Try.func35, Try.ntmps35
  go_wp2_with fail
  refine (HC.out _ (by repeat (first | with_reducible exact Keeps.refl _ _ | with_reducible refine Keeps.alloc ?_ _ | with_reducible refine Keeps.drewN ?_ _ | with_reducible refine Keeps.drew ?_ | with_reducible refine Keeps.setCell ?_ (.inr (by simp)) _ | with_reducible refine Keeps.setRow ?_ (by simp) _))).mono ?_
  rintro e w1 ⟨rfl, hg1⟩
  obtain ⟨⟨a1, a2, a3, a4⟩, _, HK1, _⟩ := two_params w ⟨pk, pn, pb, po⟩ v0 hg1
  have HR := Lib.hid (row_of2 hg1)
  obtain ⟨y0, y1, y2, y3, y4⟩ := four_cells (row_of2 hg1)
  have q0 : w.heap.size < w1.heap.size := by have := hg1.size; simp at this; omega
  have q1 : w.heap.size + 1 < w1.heap.size := by have := hg1.size; simp at this; omega
  have q2 : w.heap.size ≠ w1.heap.size := by omega
  have q3 : w.heap.size + 1 ≠ w1.heap.size := by omega
  have q4 : w.heap.size < w1.heap.size + 1 := by omega
  have q5 : w.heap.size + 1 < w1.heap.size + 1 := by omega
  have q6 : w.heap.size ≠ w1.heap.size + 1 := by omega
  have q7 : w.heap.size + 1 ≠ w1.heap.size + 1 := by omega
  clear hg1
  go_wp2_with fail
  rw [set4 HR.out]
  have hrc := row_on w1 _ #[.int .i64 0, .int .i64 0, .int .i64 0, .int .i64 0] HR.out
  refine bodyPost_ret (v := .tuple #[.agg #[.int .i64 0, .int .i64 0, .int .i64 0, .int .i64 0], .bool false]) ?_ ?_ ⟨rfl, (by repeat (first | with_reducible exact HK1.out | with_reducible refine Keeps.alloc ?_ _ | with_reducible refine Keeps.drewN ?_ _ | with_reducible refine Keeps.drew ?_ | with_reducible refine Keeps.setCell ?_ (.inr (by simp)) _ | with_reducible refine Keeps.setRow ?_ (by simp) _))⟩
  · simp [results, Try.results35, go_sem, hrc]
  · rfl
set_option maxRecDepth 100000 in
set_option maxHeartbeats 1600000 in
theorem read_one (S : Sd) (p : Vl) (t : ByteArray) (w : World) (h : StoreAs w S) (hp : vlOk p) (ht : t.size ≤ maxLen) (d : Bk) (hX : (cellV S.view p t).isSome = true) (hd : kget S.bs p.b = some d) (hK : S.cellK p = some d.kb) (x : Vl) (hx : d.one = x) (hw : d.wr = true) (hf : d.f = (p.o, t)) (h0 : x.k ≠ 0) :
    Calls Try.prog 35 #[.pointer (some ⟨S.s, 0, none⟩), va p, .string t] w fun e w' => e = .returned (.tuple #[va x, .bool true]) ∧ Keeps No w w' := by
  have HC := Lib.hid (fun W hk => cell_as S p t w W h hk hp ht _ true hK hX)
  have HD := Lib.hid (fun W hk => ((h.b p.b d hd).1.no (w' := W) hk))
  have hpo := hp.2.2.2
  obtain ⟨xk, xn, xb, xo⟩ := x
  clear h hp hX hK hd
  obtain ⟨pk, pn, pb, po⟩ := p
  simp only at h0
  have h0' : (xk == 0) = false := beq_eq_false_iff_ne.2 h0
  go_enter Try.func35, Try.ntmps35
  go_wp2_with fail
  refine (HC.out _ (by repeat (first | with_reducible exact Keeps.refl _ _ | with_reducible refine Keeps.alloc ?_ _ | with_reducible refine Keeps.drewN ?_ _ | with_reducible refine Keeps.drew ?_ | with_reducible refine Keeps.setCell ?_ (.inr (by simp)) _ | with_reducible refine Keeps.setRow ?_ (by simp) _))).mono ?_
  rintro e w1 ⟨rfl, hg1⟩
  obtain ⟨⟨a1, a2, a3, a4⟩, _, HK1, _⟩ := two_params w ⟨pk, pn, pb, po⟩ v0 hg1
  have HR := Lib.hid (row_of2 hg1)
  obtain ⟨y0, y1, y2, y3, y4⟩ := four_cells (row_of2 hg1)
  obtain ⟨d0, d1, d2, d3, d4, d5, d6, d7, d8, d9, d10⟩ := (HD.out w1 HK1.out).c
  have hkb := (HD.out w1 HK1.out).lt (.inl rfl)
  have q0 : w.heap.size < w1.heap.size := by have := hg1.size; simp at this; omega
  have q1 : w.heap.size + 1 < w1.heap.size := by have := hg1.size; simp at this; omega
  have q2 : w.heap.size ≠ w1.heap.size := by omega
  have q3 : w.heap.size + 1 ≠ w1.heap.size := by omega
  have q4 : w.heap.size < w1.heap.size + 1 := by omega
  have q5 : w.heap.size + 1 < w1.heap.size + 1 := by omega
  have q6 : w.heap.size ≠ w1.heap.size + 1 := by omega
  have q7 : w.heap.size + 1 ≠ w1.heap.size + 1 := by omega
  have k1 : d.kb ≠ w1.heap.size := by omega
  have k2 : d.kb < w1.heap.size + 1 := by omega
  have k3 : d.kb ≠ w1.heap.size + 1 := by omega
  have k4 : d.kb ≠ w.heap.size + 1 := fun e => by have := (HD.out w (Keeps.refl _ _)).lt (.inl rfl); omega
  clear hg1
  rw [hw] at d2
  rw [hf] at d3 d4
  simp only at d3 d4
  simp only [ptrV]
  go_wp2_with fail
  go_quiet (fail)
  obtain ⟨W2, hW2⟩ : ∃ W2, ((w1.alloc (.cells #[.int .i64 0, .int .i64 0, .int .i64 0, .int .i64 0] 80)).alloc (.cells #[.int .i64 po, .string t] 96)).drewN nq = W2 := ⟨_, rfl⟩
  have hk2 : Keeps No w1 W2 := by rw [← hW2]; exact (by repeat (first | with_reducible exact Keeps.refl _ _ | with_reducible refine Keeps.alloc ?_ _ | with_reducible refine Keeps.drewN ?_ _ | with_reducible refine Keeps.drew ?_ | with_reducible refine Keeps.setCell ?_ (.inr (by simp)) _ | with_reducible refine Keeps.setRow ?_ (by simp) _))
  have hv : W2.heap[w1.heap.size]? = some (.cells #[.int .i64 0, .int .i64 0, .int .i64 0, .int .i64 0] 80 (0, 0)) := by rw [← hW2]; exact (Below.heap_alloc _ _ _ (by simp)).trans (heap_alloc_new w1 _)
  have hr : W2.heap[w.heap.size + 1]? = some (.cells #[.int .i64 0, .int .i64 0, .int .i64 0, .int .i64 0] 80 (0, 0)) := (hk2.block _ q1 (fun e => e)).trans HR.out
  have hr2 : (W2.setRow w1.heap.size #[.int .i64 xk, .int .i64 xn, .int .i64 xb, .int .i64 xo]).heap[w.heap.size + 1]? = some (.cells #[.int .i64 0, .int .i64 0, .int .i64 0, .int .i64 0] 80 (0, 0)) := (setRow_other _ _ _ _ (by omega)).trans hr
  obtain ⟨e0, e1, e2, e3, e4⟩ := four_cells (setRow_heap W2 w1.heap.size _ #[.int .i64 xk, .int .i64 xn, .int .i64 xb, .int .i64 xo] _ _ hv)
  have HV := Lib.hid hv
  have HR2 := Lib.hid hr2
  obtain ⟨d0, d1, d2, d3, d4, d5, d6, d7, d8, d9, d10⟩ := ((HD.out w1 HK1.out).no hk2).c
  rw [hx] at d5 d6 d7 d8
  have HK2 := Lib.hid (HK1.out.tr hk2)
  rw [hW2]
  clear hW2 hv hr hr2 hk2 HD q0 q1 q2 q3 q4 q5 q6 q7 k1 k2 k3 k4 y0 y1 y2 y3 y4 a1 a2 a3 a4
  repeat (first | (refine wpList_store_row rfl _ _ _ rfl w1.heap.size _ rfl rfl _ _ HV.out infoV rfl (one4 _ _ _ _) ?_) | (refine wpList_store_row rfl _ _ _ rfl (w.heap.size + 1) _ rfl rfl _ _ HR2.out infoV rfl (one4 _ _ _ _) ?_) | go_values | go_skip | go_guarded | go_step | go_upon | go_back)
  have hrc := row_cell (W2.setRow w1.heap.size #[.int .i64 xk, .int .i64 xn, .int .i64 xb, .int .i64 xo]) _ #[.int .i64 xk, .int .i64 xn, .int .i64 xb, .int .i64 xo] HR2.out
  refine bodyPost_ret (v := .tuple #[.agg #[.int .i64 xk, .int .i64 xn, .int .i64 xb, .int .i64 xo], .bool true]) ?_ ?_ ⟨rfl, ?_⟩
  · simp [results, Try.results35, go_sem, hrc]
  · rfl
  · exact (HK2.out.setRow (HK1.out.size) _).setRow (by simp) _
set_option maxRecDepth 100000 in
set_option maxHeartbeats 1600000 in
theorem read_one0 (S : Sd) (p : Vl) (t : ByteArray) (w : World) (h : StoreAs w S) (hp : vlOk p) (ht : t.size ≤ maxLen) (d : Bk) (hX : (cellV S.view p t).isSome = true) (hd : kget S.bs p.b = some d) (hK : S.cellK p = some d.kb) (x : Vl) (hx : d.one = x) (hw : d.wr = true) (hf : d.f = (p.o, t)) (h0 : x.k = 0) :
    Calls Try.prog 35 #[.pointer (some ⟨S.s, 0, none⟩), va p, .string t] w fun e w' => e = .returned (.tuple #[va v0, .bool false]) ∧ Keeps No w w' := by
  have HC := Lib.hid (fun W hk => cell_as S p t w W h hk hp ht _ true hK hX)
  have HD := Lib.hid (fun W hk => ((h.b p.b d hd).1.no (w' := W) hk))
  have hpo := hp.2.2.2
  obtain ⟨xk, xn, xb, xo⟩ := x
  clear h hp hX hK hd
  obtain ⟨pk, pn, pb, po⟩ := p
  simp only at h0
  subst h0
  go_enter Try.func35, Try.ntmps35
  go_wp2_with fail
  refine (HC.out _ (by repeat (first | with_reducible exact Keeps.refl _ _ | with_reducible refine Keeps.alloc ?_ _ | with_reducible refine Keeps.drewN ?_ _ | with_reducible refine Keeps.drew ?_ | with_reducible refine Keeps.setCell ?_ (.inr (by simp)) _ | with_reducible refine Keeps.setRow ?_ (by simp) _))).mono ?_
  rintro e w1 ⟨rfl, hg1⟩
  obtain ⟨⟨a1, a2, a3, a4⟩, _, HK1, _⟩ := two_params w ⟨pk, pn, pb, po⟩ v0 hg1
  have HR := Lib.hid (row_of2 hg1)
  obtain ⟨y0, y1, y2, y3, y4⟩ := four_cells (row_of2 hg1)
  obtain ⟨d0, d1, d2, d3, d4, d5, d6, d7, d8, d9, d10⟩ := (HD.out w1 HK1.out).c
  have hkb := (HD.out w1 HK1.out).lt (.inl rfl)
  have q0 : w.heap.size < w1.heap.size := by have := hg1.size; simp at this; omega
  have q1 : w.heap.size + 1 < w1.heap.size := by have := hg1.size; simp at this; omega
  have q2 : w.heap.size ≠ w1.heap.size := by omega
  have q3 : w.heap.size + 1 ≠ w1.heap.size := by omega
  have q4 : w.heap.size < w1.heap.size + 1 := by omega
  have q5 : w.heap.size + 1 < w1.heap.size + 1 := by omega
  have q6 : w.heap.size ≠ w1.heap.size + 1 := by omega
  have q7 : w.heap.size + 1 ≠ w1.heap.size + 1 := by omega
  have k1 : d.kb ≠ w1.heap.size := by omega
  have k2 : d.kb < w1.heap.size + 1 := by omega
  have k3 : d.kb ≠ w1.heap.size + 1 := by omega
  have k4 : d.kb ≠ w.heap.size + 1 := fun e => by have := (HD.out w (Keeps.refl _ _)).lt (.inl rfl); omega
  clear hg1
  rw [hw] at d2
  rw [hf] at d3 d4
  simp only at d3 d4
  simp only [ptrV]
  go_wp2_with fail
  go_quiet (fail)
  obtain ⟨W2, hW2⟩ : ∃ W2, ((w1.alloc (.cells #[.int .i64 0, .int .i64 0, .int .i64 0, .int .i64 0] 80)).alloc (.cells #[.int .i64 po, .string t] 96)).drewN nq = W2 := ⟨_, rfl⟩
  have hk2 : Keeps No w1 W2 := by rw [← hW2]; exact (by repeat (first | with_reducible exact Keeps.refl _ _ | with_reducible refine Keeps.alloc ?_ _ | with_reducible refine Keeps.drewN ?_ _ | with_reducible refine Keeps.drew ?_ | with_reducible refine Keeps.setCell ?_ (.inr (by simp)) _ | with_reducible refine Keeps.setRow ?_ (by simp) _))
  have hv : W2.heap[w1.heap.size]? = some (.cells #[.int .i64 0, .int .i64 0, .int .i64 0, .int .i64 0] 80 (0, 0)) := by rw [← hW2]; exact (Below.heap_alloc _ _ _ (by simp)).trans (heap_alloc_new w1 _)
  have hr : W2.heap[w.heap.size + 1]? = some (.cells #[.int .i64 0, .int .i64 0, .int .i64 0, .int .i64 0] 80 (0, 0)) := (hk2.block _ q1 (fun e => e)).trans HR.out
  have hr2 : (W2.setRow w1.heap.size #[.int .i64 0, .int .i64 xn, .int .i64 xb, .int .i64 xo]).heap[w.heap.size + 1]? = some (.cells #[.int .i64 0, .int .i64 0, .int .i64 0, .int .i64 0] 80 (0, 0)) := (setRow_other _ _ _ _ (by omega)).trans hr
  obtain ⟨e0, e1, e2, e3, e4⟩ := four_cells (setRow_heap W2 w1.heap.size _ #[.int .i64 0, .int .i64 xn, .int .i64 xb, .int .i64 xo] _ _ hv)
  have HV := Lib.hid hv
  have HR2 := Lib.hid hr2
  obtain ⟨d0, d1, d2, d3, d4, d5, d6, d7, d8, d9, d10⟩ := ((HD.out w1 HK1.out).no hk2).c
  rw [hx] at d5 d6 d7 d8
  have HK2 := Lib.hid (HK1.out.tr hk2)
  rw [hW2]
  clear hW2 hv hr hr2 hk2 HD q0 q1 q2 q3 q4 q5 q6 q7 k1 k2 k3 k4 y0 y1 y2 y3 y4 a1 a2 a3 a4
  repeat (first | (refine wpList_store_row rfl _ _ _ rfl w1.heap.size _ rfl rfl _ _ HV.out infoV rfl (one4 _ _ _ _) ?_) | (refine wpList_store_row rfl _ _ _ rfl (w.heap.size + 1) _ rfl rfl _ _ HR2.out infoV rfl (one4 _ _ _ _) ?_) | go_values | go_skip | go_guarded | go_step | go_upon | go_back)
  have hrc := row_cell (W2.setRow w1.heap.size #[.int .i64 0, .int .i64 xn, .int .i64 xb, .int .i64 xo]) _ #[.int .i64 0, .int .i64 0, .int .i64 0, .int .i64 0] HR2.out
  refine bodyPost_ret (v := .tuple #[.agg #[.int .i64 0, .int .i64 0, .int .i64 0, .int .i64 0], .bool false]) ?_ ?_ ⟨rfl, ?_⟩
  · simp [results, Try.results35, go_sem, hrc]
  · rfl
  · exact (HK2.out.setRow (HK1.out.size) _).setRow (by simp) _
end Go.Proofs.Ytjchfldlmabblaa
