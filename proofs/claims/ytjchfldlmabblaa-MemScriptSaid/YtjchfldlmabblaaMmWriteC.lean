/- Write, over the map. -/
import Derived.Test.YtjchfldlmabblaaMmWriteB
namespace Go.Proofs.Ytjchfldlmabblaa
open Go.RowKit Go.Maps
set_option linter.unusedVariables false

set_option maxRecDepth 100000 in
set_option maxHeartbeats 1600000 in
theorem write_ng (S : Sd) (p : Vl) (t : ByteArray) (x : Vl) (w : World) (h : StoreAs w S) (hp : vlOk p) (ht : t.size ≤ maxLen) (d : Bk) (hX : (cellV S.view p t).isSome = true) (hd : kget S.bs p.b = some d) (hK : S.cellK p = some d.kb) (hw : d.wr = true) (hf : d.f.1 = p.o) (hft : d.f.2 ≠ t) (hm : d.hm = none) :
    Calls Try.prog 33 #[.pointer (some ⟨S.s, 0, none⟩), va p, .string t, va x] w fun e w' => e = .returned (.bool true) ∧ ∃ m, w.heap.size ≤ m ∧ w'.heap[d.kb]? = some (.cells (Bk.cells { d with hm := some m }) 99 (0, 0)) ∧ MapK mapCV w' m (kput [] (p.o, t) x) ∧ Keeps (fun a => a = d.kb) w w' := by
  have HC := Lib.hid (fun W hk => cell_as S p t w W h hk hp ht _ true hK hX)
  have HD := Lib.hid (fun W hk => ((h.b p.b d hd).1.no (w' := W) hk))
  have hpo := hp.2.2.2
  clear h hp hX hK hd
  obtain ⟨pk, pn, pb, po⟩ := p
  obtain ⟨xk, xn, xb, xo⟩ := x
  go_enter Try.func33, Try.ntmps33
  go_wp2_with fail
  refine (HC.out _ (by repeat (first | with_reducible exact Keeps.refl _ _ | with_reducible refine Keeps.alloc ?_ _ | with_reducible refine Keeps.drewN ?_ _ | with_reducible refine Keeps.drew ?_ | with_reducible refine Keeps.setCell ?_ (.inr (by simp)) _ | with_reducible refine Keeps.setRow ?_ (by simp) _))).mono ?_
  rintro e w1 ⟨rfl, hg1⟩
  obtain ⟨⟨a1, a2, a3, a4⟩, ⟨b1, b2, b3, b4⟩, HK1, _⟩ := two_params w ⟨pk, pn, pb, po⟩ ⟨xk, xn, xb, xo⟩ hg1
  obtain ⟨d0, d1, d2, d3, d4, d5, d6, d7, d8, d9, d10⟩ := (HD.out w1 HK1.out).c
  have hkb := (HD.out w1 HK1.out).lt (.inl rfl)
  have q0 : w.heap.size < w1.heap.size := by have := hg1.size; simp at this; omega
  have q2 : w.heap.size ≠ w1.heap.size := by omega
  have q4 : w.heap.size < w1.heap.size + 1 := by omega
  have q1 : w.heap.size + 1 < w1.heap.size := by have := hg1.size; simp at this; omega
  have q3 : w.heap.size + 1 ≠ w1.heap.size := by omega
  have q5 : w.heap.size + 1 < w1.heap.size + 1 := by omega
  have k1 : d.kb ≠ w1.heap.size := by omega
  have k2 : d.kb < w1.heap.size + 1 := by omega
  rw [hw] at d2
  rw [hm] at d9
  have hf1 := str_ne _ _ hft
  rw [hf] at d3
  have HG1 := Lib.hid hg1
  clear hg1
  simp only [ptrV]
  go_wp2_with fail
  obtain ⟨W2, hW2⟩ : ∃ W2, ((w1.alloc (.cells #[.int .i64 0, .int .i64 0, .int .i64 0, .int .i64 0] 80)).alloc (.cells #[.int .i64 po, .string t] 96)) = W2 := ⟨_, rfl⟩
  have hk2 : Keeps No w1 W2 := by rw [← hW2]; exact (by repeat (first | with_reducible exact Keeps.refl _ _ | with_reducible refine Keeps.alloc ?_ _ | with_reducible refine Keeps.drewN ?_ _ | with_reducible refine Keeps.drew ?_ | with_reducible refine Keeps.setCell ?_ (.inr (by simp)) _ | with_reducible refine Keeps.setRow ?_ (by simp) _))
  have hcc : W2.heap[w1.heap.size + 1]? = some (.cells #[.int .i64 po, .string t] 96 (0, 0)) := by
    have e := heap_alloc_new (w1.alloc (.cells #[.int .i64 0, .int .i64 0, .int .i64 0, .int .i64 0] 80)) (.cells #[.int .i64 po, .string t] 96)
    rw [heap_two] at e; rw [← hW2]; exact e
  have hv := (hk2.block _ q1 (fun e => e)).trans (row_of2 HG1.out)
  have x0 : W2.cell? ⟨w1.heap.size + 1, 0, none⟩ = some (.int .i64 po) := by simp [World.cell?, hcc]
  have x1 : W2.cell? ⟨w1.heap.size + 1, 1, none⟩ = some (.string t) := by simp [World.cell?, hcc]
  obtain ⟨v1, v2, v3, v4, _⟩ := four_cells hv
  have hdd := (HD.out w1 HK1.out).no hk2
  obtain ⟨d0, d1, d2, d3, d4, d5, d6, d7, d8, d9, d10⟩ := hdd.c
  have hkb2 := hdd.lt (.inl rfl)
  rw [hf] at d3
  have m1 : w1.heap.size + 1 ≠ d.kb := by omega
  have m2 : w.heap.size + 1 ≠ d.kb := fun e => by have := (HD.out w (Keeps.refl _ _)).lt (.inl rfl); omega
  have m3 : d.kb ≠ w1.heap.size + 1 := by omega
  have m4 : d.kb ≠ w.heap.size + 1 := fun e => m2 e.symm
  have HA := Lib.hid hdd.a
  have HK2 := Lib.hid (HK1.out.tr hk2)
  rw [hW2]
  clear hW2 hv hcc hk2 HD q0 q1 q2 q3 q4 q5 k1 k2 a1 a2 a3 a4 b1 b2 b3 b4 hdd
  go_quiet (fail)
  have hnil := nil_eq
  have hmm := @run_makeMap Try.prog
  have n1 : d.kb ≠ W2.heap.size := by omega
  have n2 := block_lt_of_cell x0
  have n3 := block_lt_of_cell v1
  have n4 : w1.heap.size + 1 ≠ W2.heap.size := fun e => by have n2' : w1.heap.size + 1 < W2.heap.size := n2; omega
  have n5 : w.heap.size + 1 ≠ W2.heap.size := fun e => by have n3' : w.heap.size + 1 < W2.heap.size := n3; omega
  have c9 : ((W2.drewN nq).alloc (.map #[] 0)).cell? ⟨d.kb, 9, none⟩ = some (.map d.hm) := (KW.mk (w0 := W2) ((W2.drewN nq).alloc (.map #[] 0)) (by repeat (first | with_reducible exact Keeps.refl _ _ | with_reducible refine Keeps.alloc ?_ _ | with_reducible refine Keeps.drewN ?_ _ | with_reducible refine Keeps.drew ?_ | with_reducible refine Keeps.setCell ?_ (.inr (by simp)) _ | with_reducible refine Keeps.setRow ?_ (by simp) _))).cell d9
  rw [hm] at c9
  have f9 : ((W2.drewN nq).alloc (.map #[] 0)).frozen? ⟨d.kb, 9, none⟩ = false := (KW.mk (w0 := W2) ((W2.drewN nq).alloc (.map #[] 0)) (by repeat (first | with_reducible exact Keeps.refl _ _ | with_reducible refine Keeps.alloc ?_ _ | with_reducible refine Keeps.drewN ?_ _ | with_reducible refine Keeps.drew ?_ | with_reducible refine Keeps.setCell ?_ (.inr (by simp)) _ | with_reducible refine Keeps.setRow ?_ (by simp) _))).frozen hkb2 (d10 9)
  go_wp2_with fail
  obtain ⟨W3, hW3⟩ : ∃ W3, ((W2.drewN nq).alloc (.map #[] 0)).setCell ⟨d.kb, 9, none⟩ (.map (some W2.heap.size)) = W3 := ⟨_, rfl⟩
  rw [hW3]
  have hk3 : Keeps (fun a => a = d.kb) W2 W3 := by rw [← hW3]; exact (by repeat (first | with_reducible exact Keeps.refl _ _ | with_reducible refine Keeps.alloc ?_ _ | with_reducible refine Keeps.drewN ?_ _ | with_reducible refine Keeps.drew ?_ | with_reducible refine Keeps.at ?_ _ _ | with_reducible refine Keeps.setRow ?_ (by simp) _))
  have ha3 : W3.heap[d.kb]? = some (.cells (Bk.cells { d with hm := some W2.heap.size }) 99 (0, 0)) := by
    rw [← hW3]
    have e : ((W2.drewN nq).alloc (.map #[] 0)).heap[d.kb]? = _ := (Below.heap_alloc (W2.drewN nq) _ _ hkb2).trans HA.out
    simp [World.setCell, Array.getElem?_modify, e, Bk.cells]
  have hm3 : MapK mapCV W3 W2.heap.size [] := by rw [← hW3]; exact (MapK.made (W2.drewN nq)).setCell (fun e => n1 e.symm) _
  have z9 : W3.cell? ⟨d.kb, 9, none⟩ = some (.map (some W2.heap.size)) := by simp [World.cell?, ha3, Bk.cells]
  have z0 : W3.cell? ⟨w1.heap.size + 1, 0, none⟩ = some (.int .i64 po) := keeps_cell hk3 m1 x0
  have z1 : W3.cell? ⟨w1.heap.size + 1, 1, none⟩ = some (.string t) := keeps_cell hk3 m1 x1
  have z2 := keeps_cell hk3 m2 v1
  have z3 := keeps_cell hk3 m2 v2
  have z4 := keeps_cell hk3 m2 v3
  have z5 := keeps_cell hk3 m2 v4
  have HA3 := Lib.hid ha3
  have HM3 := Lib.hid hm3
  have HK3 := Lib.hid ((HK2.out.mono (fun _ _ e => e.elim)).trans hk3 (fun _ _ e => e))
  have HN := Lib.hid n1
  have HG := Lib.hid (HK2.out.size)
  clear hW3 hk3 ha3 hm3 x0 x1 v1 v2 v3 v4 d0 d1 d2 d3 d4 d5 d6 d7 d8 d9 d10 f9 c9 n1 n2 n3 n4 n5 m1 m2 m3 m4
  go_still_tail 6, (by kernel_rfl)
  repeat still_step
  change wpList _ _ _ _ _ W3.drew
  refine wpList_putK mapCV _ rfl _ _ _ rfl W2.heap.size [] (po, t) ⟨xk, xn, xb, xo⟩ rfl (HM3.out.block rfl) (by unfold maxLen; decide) rfl rfl ⟨hpo, ht⟩ trivial ?_
  intro w4 hm4 ht4
  have ha4 : w4.heap[d.kb]? = _ := (ht4.grown.block _ (by exact (Array.getElem?_eq_some_iff.1 HA3.out).1) (fun e => HN.out (by injection e))).trans HA3.out
  have HA4 := Lib.hid ha4
  have HM4 := Lib.hid hm4
  have HK4 := Lib.hid (Keeps.tr_new HK3.out.drew ht4.grown HG.out)
  clear ha4 hm4 ht4
  go_wp2_with fail
  go_returns
  exact ⟨rfl, _, HG.out, HA4.out, HM4.out, HK4.out⟩
set_option maxRecDepth 100000 in
set_option maxHeartbeats 1600000 in
theorem write_sf (S : Sd) (p : Vl) (t : ByteArray) (x : Vl) (w : World) (h : StoreAs w S) (hp : vlOk p) (ht : t.size ≤ maxLen) (d : Bk) (hX : (cellV S.view p t).isSome = true) (hd : kget S.bs p.b = some d) (hK : S.cellK p = some d.kb) (hw : d.wr = true) (hf : d.f.1 ≠ p.o) (m : Nat) (hm : d.hm = some m) :
    Calls Try.prog 33 #[.pointer (some ⟨S.s, 0, none⟩), va p, .string t, va x] w fun e w' => e = .returned (.bool true) ∧ MapK mapCV w' m (kput d.held (p.o, t) x) ∧ Keeps (fun a => a = m) w w' := by
  have HC := Lib.hid (fun W hk => cell_as S p t w W h hk hp ht _ true hK hX)
  have HD := Lib.hid (fun W hk => ((h.b p.b d hd).1.no (w' := W) hk))
  have hpo := hp.2.2.2
  clear h hp hX hK hd
  obtain ⟨pk, pn, pb, po⟩ := p
  obtain ⟨xk, xn, xb, xo⟩ := x
  go_enter Try.func33, Try.ntmps33
  go_wp2_with fail
  refine (HC.out _ (by repeat (first | with_reducible exact Keeps.refl _ _ | with_reducible refine Keeps.alloc ?_ _ | with_reducible refine Keeps.drewN ?_ _ | with_reducible refine Keeps.drew ?_ | with_reducible refine Keeps.setCell ?_ (.inr (by simp)) _ | with_reducible refine Keeps.setRow ?_ (by simp) _))).mono ?_
  rintro e w1 ⟨rfl, hg1⟩
  obtain ⟨⟨a1, a2, a3, a4⟩, ⟨b1, b2, b3, b4⟩, HK1, _⟩ := two_params w ⟨pk, pn, pb, po⟩ ⟨xk, xn, xb, xo⟩ hg1
  obtain ⟨d0, d1, d2, d3, d4, d5, d6, d7, d8, d9, d10⟩ := (HD.out w1 HK1.out).c
  have hkb := (HD.out w1 HK1.out).lt (.inl rfl)
  have q0 : w.heap.size < w1.heap.size := by have := hg1.size; simp at this; omega
  have q2 : w.heap.size ≠ w1.heap.size := by omega
  have q4 : w.heap.size < w1.heap.size + 1 := by omega
  have q1 : w.heap.size + 1 < w1.heap.size := by have := hg1.size; simp at this; omega
  have q3 : w.heap.size + 1 ≠ w1.heap.size := by omega
  have q5 : w.heap.size + 1 < w1.heap.size + 1 := by omega
  have k1 : d.kb ≠ w1.heap.size := by omega
  have k2 : d.kb < w1.heap.size + 1 := by omega
  rw [hw] at d2
  have hf1 : (d.f.1 == po) = false := beq_eq_false_iff_ne.2 hf
  have hf2 : ¬ d.f.1 = po := hf
  have HG1 := Lib.hid hg1
  clear hg1
  simp only [ptrV]
  go_wp2_with fail
  obtain ⟨W2, hW2⟩ : ∃ W2, ((w1.alloc (.cells #[.int .i64 0, .int .i64 0, .int .i64 0, .int .i64 0] 80)).alloc (.cells #[.int .i64 po, .string t] 96)) = W2 := ⟨_, rfl⟩
  have hk2 : Keeps No w1 W2 := by rw [← hW2]; exact (by repeat (first | with_reducible exact Keeps.refl _ _ | with_reducible refine Keeps.alloc ?_ _ | with_reducible refine Keeps.drewN ?_ _ | with_reducible refine Keeps.drew ?_ | with_reducible refine Keeps.setCell ?_ (.inr (by simp)) _ | with_reducible refine Keeps.setRow ?_ (by simp) _))
  have hcc : W2.heap[w1.heap.size + 1]? = some (.cells #[.int .i64 po, .string t] 96 (0, 0)) := by
    have e := heap_alloc_new (w1.alloc (.cells #[.int .i64 0, .int .i64 0, .int .i64 0, .int .i64 0] 80)) (.cells #[.int .i64 po, .string t] 96)
    rw [heap_two] at e; rw [← hW2]; exact e
  have hv := (hk2.block _ q1 (fun e => e)).trans (row_of2 HG1.out)
  have x0 : W2.cell? ⟨w1.heap.size + 1, 0, none⟩ = some (.int .i64 po) := by simp [World.cell?, hcc]
  have x1 : W2.cell? ⟨w1.heap.size + 1, 1, none⟩ = some (.string t) := by simp [World.cell?, hcc]
  obtain ⟨v1, v2, v3, v4, _⟩ := four_cells hv
  have hdd := (HD.out w1 HK1.out).no hk2
  obtain ⟨d0, d1, d2, d3, d4, d5, d6, d7, d8, d9, d10⟩ := hdd.c
  have hkb2 := hdd.lt (.inl rfl)
  have m1 : w1.heap.size + 1 ≠ d.kb := by omega
  have m2 : w.heap.size + 1 ≠ d.kb := fun e => by have := (HD.out w (Keeps.refl _ _)).lt (.inl rfl); omega
  have m3 : d.kb ≠ w1.heap.size + 1 := by omega
  have m4 : d.kb ≠ w.heap.size + 1 := fun e => m2 e.symm
  have HA := Lib.hid hdd.a
  have HK2 := Lib.hid (HK1.out.tr hk2)
  rw [hW2]
  clear hW2 hv hcc hk2 HD q0 q1 q2 q3 q4 q5 k1 k2 a1 a2 a3 a4 b1 b2 b3 b4
  go_quiet (fail)
  have hnil := nil_ne m
  rw [hm] at d9
  go_wp2_with fail
  have hm3 := hdd.hs m hm
  have hl3 := hdd.hl
  have HM3 := Lib.hid (hm3.drewN nq)
  obtain ⟨W3, hW3⟩ : ∃ W3, W2.drewN nq = W3 := ⟨_, rfl⟩
  have z9 : W3.cell? ⟨d.kb, 9, none⟩ = some (.map (some m)) := by rw [← hW3]; exact d9
  have z0 : W3.cell? ⟨w1.heap.size + 1, 0, none⟩ = some (.int .i64 po) := by rw [← hW3]; exact x0
  have z1 : W3.cell? ⟨w1.heap.size + 1, 1, none⟩ = some (.string t) := by rw [← hW3]; exact x1
  have z2 : W3.cell? ⟨w.heap.size + 1, 0, none⟩ = some (.int .i64 xk) := by rw [← hW3]; exact v1
  have z3 : W3.cell? ⟨w.heap.size + 1, 1, none⟩ = some (.int .i64 xn) := by rw [← hW3]; exact v2
  have z4 : W3.cell? ⟨w.heap.size + 1, 2, none⟩ = some (.int .i64 xb) := by rw [← hW3]; exact v3
  have z5 : W3.cell? ⟨w.heap.size + 1, 3, none⟩ = some (.int .i64 xo) := by rw [← hW3]; exact v4
  have HK3 : Hid (Keeps No w W3) := Lib.hid (by rw [← hW3]; exact HK2.out.drewN nq)
  rw [hW3] at HM3 ⊢
  clear hm3 hdd x0 x1 v1 v2 v3 v4 d0 d1 d2 d3 d4 d5 d6 d7 d8 d9 d10 hW3
  go_still_tail 6, (by kernel_rfl)
  repeat still_step
  change wpList _ _ _ _ _ W3.drew
  refine wpList_putK mapCV _ rfl _ _ _ rfl m d.held (po, t) ⟨xk, xn, xb, xo⟩ rfl (HM3.out.block rfl) (by unfold maxLen; omega) rfl rfl ⟨hpo, ht⟩ trivial ?_
  intro w4 hm4 ht4
  have HM4 := Lib.hid hm4
  have HK4 := Lib.hid (((HK3.out.mono (T := fun a => a = m) (fun _ _ e => e.elim)).drew).turned ht4 (.inl rfl))
  clear hm4 ht4
  go_wp2_with fail
  go_returns
  exact ⟨rfl, HM4.out, HK4.out⟩
set_option maxRecDepth 100000 in
set_option maxHeartbeats 1600000 in
theorem write_sg (S : Sd) (p : Vl) (t : ByteArray) (x : Vl) (w : World) (h : StoreAs w S) (hp : vlOk p) (ht : t.size ≤ maxLen) (d : Bk) (hX : (cellV S.view p t).isSome = true) (hd : kget S.bs p.b = some d) (hK : S.cellK p = some d.kb) (hw : d.wr = true) (hf : d.f.1 = p.o) (hft : d.f.2 ≠ t) (m : Nat) (hm : d.hm = some m) :
    Calls Try.prog 33 #[.pointer (some ⟨S.s, 0, none⟩), va p, .string t, va x] w fun e w' => e = .returned (.bool true) ∧ MapK mapCV w' m (kput d.held (p.o, t) x) ∧ Keeps (fun a => a = m) w w' := by
  have HC := Lib.hid (fun W hk => cell_as S p t w W h hk hp ht _ true hK hX)
  have HD := Lib.hid (fun W hk => ((h.b p.b d hd).1.no (w' := W) hk))
  have hpo := hp.2.2.2
  clear h hp hX hK hd
  obtain ⟨pk, pn, pb, po⟩ := p
  obtain ⟨xk, xn, xb, xo⟩ := x
  go_enter Try.func33, Try.ntmps33
  go_wp2_with fail
  refine (HC.out _ (by repeat (first | with_reducible exact Keeps.refl _ _ | with_reducible refine Keeps.alloc ?_ _ | with_reducible refine Keeps.drewN ?_ _ | with_reducible refine Keeps.drew ?_ | with_reducible refine Keeps.setCell ?_ (.inr (by simp)) _ | with_reducible refine Keeps.setRow ?_ (by simp) _))).mono ?_
  rintro e w1 ⟨rfl, hg1⟩
  obtain ⟨⟨a1, a2, a3, a4⟩, ⟨b1, b2, b3, b4⟩, HK1, _⟩ := two_params w ⟨pk, pn, pb, po⟩ ⟨xk, xn, xb, xo⟩ hg1
  obtain ⟨d0, d1, d2, d3, d4, d5, d6, d7, d8, d9, d10⟩ := (HD.out w1 HK1.out).c
  have hkb := (HD.out w1 HK1.out).lt (.inl rfl)
  have q0 : w.heap.size < w1.heap.size := by have := hg1.size; simp at this; omega
  have q2 : w.heap.size ≠ w1.heap.size := by omega
  have q4 : w.heap.size < w1.heap.size + 1 := by omega
  have q1 : w.heap.size + 1 < w1.heap.size := by have := hg1.size; simp at this; omega
  have q3 : w.heap.size + 1 ≠ w1.heap.size := by omega
  have q5 : w.heap.size + 1 < w1.heap.size + 1 := by omega
  have k1 : d.kb ≠ w1.heap.size := by omega
  have k2 : d.kb < w1.heap.size + 1 := by omega
  rw [hw] at d2
  have hf1 := str_ne _ _ hft
  rw [hf] at d3
  have HG1 := Lib.hid hg1
  clear hg1
  simp only [ptrV]
  go_wp2_with fail
  obtain ⟨W2, hW2⟩ : ∃ W2, ((w1.alloc (.cells #[.int .i64 0, .int .i64 0, .int .i64 0, .int .i64 0] 80)).alloc (.cells #[.int .i64 po, .string t] 96)) = W2 := ⟨_, rfl⟩
  have hk2 : Keeps No w1 W2 := by rw [← hW2]; exact (by repeat (first | with_reducible exact Keeps.refl _ _ | with_reducible refine Keeps.alloc ?_ _ | with_reducible refine Keeps.drewN ?_ _ | with_reducible refine Keeps.drew ?_ | with_reducible refine Keeps.setCell ?_ (.inr (by simp)) _ | with_reducible refine Keeps.setRow ?_ (by simp) _))
  have hcc : W2.heap[w1.heap.size + 1]? = some (.cells #[.int .i64 po, .string t] 96 (0, 0)) := by
    have e := heap_alloc_new (w1.alloc (.cells #[.int .i64 0, .int .i64 0, .int .i64 0, .int .i64 0] 80)) (.cells #[.int .i64 po, .string t] 96)
    rw [heap_two] at e; rw [← hW2]; exact e
  have hv := (hk2.block _ q1 (fun e => e)).trans (row_of2 HG1.out)
  have x0 : W2.cell? ⟨w1.heap.size + 1, 0, none⟩ = some (.int .i64 po) := by simp [World.cell?, hcc]
  have x1 : W2.cell? ⟨w1.heap.size + 1, 1, none⟩ = some (.string t) := by simp [World.cell?, hcc]
  obtain ⟨v1, v2, v3, v4, _⟩ := four_cells hv
  have hdd := (HD.out w1 HK1.out).no hk2
  obtain ⟨d0, d1, d2, d3, d4, d5, d6, d7, d8, d9, d10⟩ := hdd.c
  have hkb2 := hdd.lt (.inl rfl)
  rw [hf] at d3
  have m1 : w1.heap.size + 1 ≠ d.kb := by omega
  have m2 : w.heap.size + 1 ≠ d.kb := fun e => by have := (HD.out w (Keeps.refl _ _)).lt (.inl rfl); omega
  have m3 : d.kb ≠ w1.heap.size + 1 := by omega
  have m4 : d.kb ≠ w.heap.size + 1 := fun e => m2 e.symm
  have HA := Lib.hid hdd.a
  have HK2 := Lib.hid (HK1.out.tr hk2)
  rw [hW2]
  clear hW2 hv hcc hk2 HD q0 q1 q2 q3 q4 q5 k1 k2 a1 a2 a3 a4 b1 b2 b3 b4
  go_quiet (fail)
  have hnil := nil_ne m
  rw [hm] at d9
  go_wp2_with fail
  have hm3 := hdd.hs m hm
  have hl3 := hdd.hl
  have HM3 := Lib.hid (hm3.drewN nq)
  obtain ⟨W3, hW3⟩ : ∃ W3, W2.drewN nq = W3 := ⟨_, rfl⟩
  have z9 : W3.cell? ⟨d.kb, 9, none⟩ = some (.map (some m)) := by rw [← hW3]; exact d9
  have z0 : W3.cell? ⟨w1.heap.size + 1, 0, none⟩ = some (.int .i64 po) := by rw [← hW3]; exact x0
  have z1 : W3.cell? ⟨w1.heap.size + 1, 1, none⟩ = some (.string t) := by rw [← hW3]; exact x1
  have z2 : W3.cell? ⟨w.heap.size + 1, 0, none⟩ = some (.int .i64 xk) := by rw [← hW3]; exact v1
  have z3 : W3.cell? ⟨w.heap.size + 1, 1, none⟩ = some (.int .i64 xn) := by rw [← hW3]; exact v2
  have z4 : W3.cell? ⟨w.heap.size + 1, 2, none⟩ = some (.int .i64 xb) := by rw [← hW3]; exact v3
  have z5 : W3.cell? ⟨w.heap.size + 1, 3, none⟩ = some (.int .i64 xo) := by rw [← hW3]; exact v4
  have HK3 : Hid (Keeps No w W3) := Lib.hid (by rw [← hW3]; exact HK2.out.drewN nq)
  rw [hW3] at HM3 ⊢
  clear hm3 hdd x0 x1 v1 v2 v3 v4 d0 d1 d2 d3 d4 d5 d6 d7 d8 d9 d10 hW3
  go_still_tail 6, (by kernel_rfl)
  repeat still_step
  change wpList _ _ _ _ _ W3.drew
  refine wpList_putK mapCV _ rfl _ _ _ rfl m d.held (po, t) ⟨xk, xn, xb, xo⟩ rfl (HM3.out.block rfl) (by unfold maxLen; omega) rfl rfl ⟨hpo, ht⟩ trivial ?_
  intro w4 hm4 ht4
  have HM4 := Lib.hid hm4
  have HK4 := Lib.hid (((HK3.out.mono (T := fun a => a = m) (fun _ _ e => e.elim)).drew).turned ht4 (.inl rfl))
  clear hm4 ht4
  go_wp2_with fail
  go_returns
  exact ⟨rfl, HM4.out, HK4.out⟩
end Go.Proofs.Ytjchfldlmabblaa
