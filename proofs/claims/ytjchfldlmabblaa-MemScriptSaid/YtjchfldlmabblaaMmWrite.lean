/- Write. -/
import Derived.Test.YtjchfldlmabblaaMmReadZ
namespace Go.Proofs.Ytjchfldlmabblaa
open Go.RowKit Go.Maps
set_option linter.unusedVariables false

theorem Keeps.at {kb : Nat} {a b : World} (h : Keeps (fun k => k = kb) a b) (o : Nat) (u : Value) : Keeps (fun k => k = kb) a (b.setCell ⟨kb, o, none⟩ u) := h.setCell (.inl rfl) u
theorem nil_eq (w : World) : (binOp BinOp.eql 97 (Value.map none) (Value.map none)).run Try.prog w = .ok (.bool true) w := by kernel_rfl
theorem nil_ne (m : Nat) (w : World) : (binOp BinOp.eql 97 (Value.map (some m)) (Value.map none)).run Try.prog w = .ok (.bool false) w := by kernel_rfl
set_option maxRecDepth 100000 in
set_option maxHeartbeats 1600000 in
theorem write_not (S : Sd) (p : Vl) (t : ByteArray) (x : Vl) (w : World) (h : StoreAs w S) (hp : vlOk p) (ht : t.size ≤ maxLen) (hX : (cellV S.view p t).isSome = false) :
    Calls Try.prog 33 #[.pointer (some ⟨S.s, 0, none⟩), va p, .string t, va x] w fun e w' => e = .returned (.bool false) ∧ Keeps No w w' := by
  obtain ⟨K, hK⟩ : ∃ K, S.cellK p = K := ⟨_, rfl⟩
  have HC := Lib.hid (fun W hk => cell_as S p t w W h hk hp ht K false hK hX)
  clear h hp ht hX hK
  obtain ⟨pk, pn, pb, po⟩ := p
  obtain ⟨xk, xn, xb, xo⟩ := x
  go_enter Try.func33, Try.ntmps33
  go_wp2_with fail
  refine (HC.out _ (by repeat (first | with_reducible exact Keeps.refl _ _ | with_reducible refine Keeps.alloc ?_ _ | with_reducible refine Keeps.drewN ?_ _ | with_reducible refine Keeps.drew ?_ | with_reducible refine Keeps.setCell ?_ (.inr (by simp)) _ | with_reducible refine Keeps.setRow ?_ (by simp) _))).mono ?_
  rintro e w1 ⟨rfl, hg1⟩
  obtain ⟨⟨a1, a2, a3, a4⟩, ⟨b1, b2, b3, b4⟩, HK1, _⟩ := two_params w ⟨pk, pn, pb, po⟩ ⟨xk, xn, xb, xo⟩ hg1
  clear hg1
  go_wp2_with fail
  go_returns
  exact ⟨rfl, (by repeat (first | with_reducible exact HK1.out | with_reducible refine Keeps.alloc ?_ _ | with_reducible refine Keeps.drewN ?_ _ | with_reducible refine Keeps.drew ?_ | with_reducible refine Keeps.setCell ?_ (.inr (by simp)) _ | with_reducible refine Keeps.setRow ?_ (by simp) _))⟩
set_option maxRecDepth 100000 in
set_option maxHeartbeats 1600000 in
theorem write_w (S : Sd) (p : Vl) (t : ByteArray) (x : Vl) (w : World) (h : StoreAs w S) (hp : vlOk p) (ht : t.size ≤ maxLen) (d : Bk) (hX : (cellV S.view p t).isSome = true) (hd : kget S.bs p.b = some d) (hK : S.cellK p = some d.kb) (hw : d.wr = false) :
    Calls Try.prog 33 #[.pointer (some ⟨S.s, 0, none⟩), va p, .string t, va x] w fun e w' => e = .returned (.bool true) ∧ w'.heap[d.kb]? = some (.cells (Bk.cells { d with wr := true, f := (p.o, t), one := x }) 99 (0, 0)) ∧ Keeps (fun a => a = d.kb) w w' := by
  have HC := Lib.hid (fun W hk => cell_as S p t w W h hk hp ht _ true hK hX)
  have HD := Lib.hid (fun W hk => ((h.b p.b d hd).1.no (w' := W) hk))
  have hpo := hp.2.2.2
  clear h hp hX hK hd
  obtain ⟨pk, pn, pb, po⟩ := p
  obtain ⟨xk, xn, xb, xo⟩ := x
  go_enter Try.func33, Try.ntmps33
  go_wp2_with fail
  refine (HC.out _ (by repeat (first | with_reducible exact Keeps.refl _ _ | with_reducible refine Keeps.alloc ?_ _ | with_reducible refine Keeps.drewN ?_ _ | with_reducible refine Keeps.drew ?_ | with_reducible refine Keeps.setCell ?_ (.inr (by simp)) _ | with_reducible refine Keeps.setRow ?_ (by simp) _))).mono ?_
  rintro e w1 ⟨rfl, hg1⟩
  obtain ⟨⟨a1, a2, a3, a4⟩, ⟨b1, b2, b3, b4⟩, HK1, _⟩ := two_params w ⟨pk, pn, pb, po⟩ ⟨xk, xn, xb, xo⟩ hg1
  obtain ⟨d0, d1, d2, d3, d4, d5, d6, d7, d8, d9, d10⟩ := (HD.out w1 HK1.out).c
  have hkb := (HD.out w1 HK1.out).lt (.inl rfl)
  have q0 : w.heap.size < w1.heap.size := by have := hg1.size; simp at this; omega
  have q2 : w.heap.size ≠ w1.heap.size := by omega
  have q4 : w.heap.size < w1.heap.size + 1 := by omega
  have q1 : w.heap.size + 1 < w1.heap.size := by have := hg1.size; simp at this; omega
  have q3 : w.heap.size + 1 ≠ w1.heap.size := by omega
  have q5 : w.heap.size + 1 < w1.heap.size + 1 := by omega
  have k1 : d.kb ≠ w1.heap.size := by omega
  have k2 : d.kb < w1.heap.size + 1 := by omega
  rw [hw] at d2
  have HG1 := Lib.hid hg1
  clear hg1
  simp only [ptrV]
  go_wp2_with fail
  obtain ⟨W2, hW2⟩ : ∃ W2, ((w1.alloc (.cells #[.int .i64 0, .int .i64 0, .int .i64 0, .int .i64 0] 80)).alloc (.cells #[.int .i64 po, .string t] 96)) = W2 := ⟨_, rfl⟩
  have hk2 : Keeps No w1 W2 := by rw [← hW2]; exact (by repeat (first | with_reducible exact Keeps.refl _ _ | with_reducible refine Keeps.alloc ?_ _ | with_reducible refine Keeps.drewN ?_ _ | with_reducible refine Keeps.drew ?_ | with_reducible refine Keeps.setCell ?_ (.inr (by simp)) _ | with_reducible refine Keeps.setRow ?_ (by simp) _))
  have hcc : W2.heap[w1.heap.size + 1]? = some (.cells #[.int .i64 po, .string t] 96 (0, 0)) := by
    have e := heap_alloc_new (w1.alloc (.cells #[.int .i64 0, .int .i64 0, .int .i64 0, .int .i64 0] 80)) (.cells #[.int .i64 po, .string t] 96)
    rw [heap_two] at e; rw [← hW2]; exact e
  have hv := (hk2.block _ q1 (fun e => e)).trans (row_of2 HG1.out)
  have x0 : W2.cell? ⟨w1.heap.size + 1, 0, none⟩ = some (.int .i64 po) := by simp [World.cell?, hcc]
  have x1 : W2.cell? ⟨w1.heap.size + 1, 1, none⟩ = some (.string t) := by simp [World.cell?, hcc]
  obtain ⟨v1, v2, v3, v4, _⟩ := four_cells hv
  have hdd := (HD.out w1 HK1.out).no hk2
  obtain ⟨d0, d1, d2, d3, d4, d5, d6, d7, d8, d9, d10⟩ := hdd.c
  have hkb2 := hdd.lt (.inl rfl)
  have m1 : w1.heap.size + 1 ≠ d.kb := by omega
  have m2 : w.heap.size + 1 ≠ d.kb := fun e => by have := (HD.out w (Keeps.refl _ _)).lt (.inl rfl); omega
  have m3 : d.kb ≠ w1.heap.size + 1 := by omega
  have m4 : d.kb ≠ w.heap.size + 1 := fun e => m2 e.symm
  have HA := Lib.hid hdd.a
  have HK2 := Lib.hid (HK1.out.tr hk2)
  rw [hW2]
  clear hW2 hv hcc hk2 HD q0 q1 q2 q3 q4 q5 k1 k2 a1 a2 a3 a4 b1 b2 b3 b4 hdd
  go_upto_region 9 with fail
  go_region_with (fail)
  all_goals go_wp2_with fail
  all_goals go_returns
  all_goals refine ⟨rfl, ?_, ?_⟩
  all_goals first
    | (show (World.heap _)[d.kb]? = _; simp [World.setCell, World.drew, Array.getElem?_modify, HA.out, Bk.cells]; done)
    | exact (by repeat (first | with_reducible exact HK2.out.mono (fun _ _ e => e.elim) | with_reducible refine Keeps.alloc ?_ _ | with_reducible refine Keeps.drewN ?_ _ | with_reducible refine Keeps.drew ?_ | with_reducible refine Keeps.at ?_ _ _ | with_reducible refine Keeps.setRow ?_ (by simp) _))
end Go.Proofs.Ytjchfldlmabblaa
