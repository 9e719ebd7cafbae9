/- Read: what stands in the map. -/
import Derived.Test.YtjchfldlmabblaaMmReadZ
namespace Go.Proofs.Ytjchfldlmabblaa
open Go.RowKit Go.Maps
set_option linter.unusedVariables false

set_option maxRecDepth 100000 in
set_option maxHeartbeats 1600000 in
theorem read_w0 (S : Sd) (p : Vl) (t : ByteArray) (w : World) (h : StoreAs w S) (hp : vlOk p) (ht : t.size ≤ maxLen) (d : Bk) (hX : (cellV S.view p t).isSome = true) (hd : kget S.bs p.b = some d) (hK : S.cellK p = some d.kb) (y : Vl) (B : Bool) (hw : d.wr = false) (HL : Hid (∀ W', Keeps No w W' → (Instr.lookup 97 (.map d.hm) (.agg #[.int .i64 p.o, .string t]) true).run Try.prog W' = .ok (.tuple #[va y, .bool B]) W')) (hB : B = false) :
    Calls Try.prog 35 #[.pointer (some ⟨S.s, 0, none⟩), va p, .string t] w fun e w' => e = .returned (.tuple #[va v0, .bool false]) ∧ Keeps No w w' := by
  have HC := Lib.hid (fun W hk => cell_as S p t w W h hk hp ht _ true hK hX)
  have HD := Lib.hid (fun W hk => ((h.b p.b d hd).1.no (w' := W) hk))
  have hpo := hp.2.2.2
  clear h hp hX hK hd
  obtain ⟨pk, pn, pb, po⟩ := p
  obtain ⟨yk, yn, yb, yo⟩ := y
  subst hB
  go_enter Try.func35, Try.ntmps35
  go_wp2_with fail
  refine (HC.out _ (by repeat (first | with_reducible exact Keeps.refl _ _ | with_reducible refine Keeps.alloc ?_ _ | with_reducible refine Keeps.drewN ?_ _ | with_reducible refine Keeps.drew ?_ | with_reducible refine Keeps.setCell ?_ (.inr (by simp)) _ | with_reducible refine Keeps.setRow ?_ (by simp) _))).mono ?_
  rintro e w1 ⟨rfl, hg1⟩
  obtain ⟨⟨a1, a2, a3, a4⟩, _, HK1, _⟩ := two_params w ⟨pk, pn, pb, po⟩ v0 hg1
  have HR := Lib.hid (row_of2 hg1)
  obtain ⟨y0, y1, y2, y3, y4⟩ := four_cells (row_of2 hg1)
  obtain ⟨d0, d1, d2, d3, d4, d5, d6, d7, d8, d9, d10⟩ := (HD.out w1 HK1.out).c
  have hkb := (HD.out w1 HK1.out).lt (.inl rfl)
  have q0 : w.heap.size < w1.heap.size := by have := hg1.size; simp at this; omega
  have q1 : w.heap.size + 1 < w1.heap.size := by have := hg1.size; simp at this; omega
  have q2 : w.heap.size ≠ w1.heap.size := by omega
  have q3 : w.heap.size + 1 ≠ w1.heap.size := by omega
  have q4 : w.heap.size < w1.heap.size + 1 := by omega
  have q5 : w.heap.size + 1 < w1.heap.size + 1 := by omega
  have q6 : w.heap.size ≠ w1.heap.size + 1 := by omega
  have q7 : w.heap.size + 1 ≠ w1.heap.size + 1 := by omega
  have k1 : d.kb ≠ w1.heap.size := by omega
  have k2 : d.kb < w1.heap.size + 1 := by omega
  have k3 : d.kb ≠ w1.heap.size + 1 := by omega
  have k4 : d.kb ≠ w.heap.size + 1 := fun e => by have := (HD.out w (Keeps.refl _ _)).lt (.inl rfl); omega
  clear hg1
  rw [hw] at d2
  simp only [ptrV]
  go_wp2_with fail
  go_quiet (fail)
  obtain ⟨W2, hW2⟩ : ∃ W2, ((w1.alloc (.cells #[.int .i64 0, .int .i64 0, .int .i64 0, .int .i64 0] 80)).alloc (.cells #[.int .i64 po, .string t] 96)).drewN nq = W2 := ⟨_, rfl⟩
  have hk2 : Keeps No w1 W2 := by rw [← hW2]; exact (by repeat (first | with_reducible exact Keeps.refl _ _ | with_reducible refine Keeps.alloc ?_ _ | with_reducible refine Keeps.drewN ?_ _ | with_reducible refine Keeps.drew ?_ | with_reducible refine Keeps.setCell ?_ (.inr (by simp)) _ | with_reducible refine Keeps.setRow ?_ (by simp) _))
  have hv : W2.heap[w1.heap.size]? = some (.cells #[.int .i64 0, .int .i64 0, .int .i64 0, .int .i64 0] 80 (0, 0)) := by rw [← hW2]; exact (Below.heap_alloc _ _ _ (by simp)).trans (heap_alloc_new w1 _)
  have hcc : W2.heap[w1.heap.size + 1]? = some (.cells #[.int .i64 po, .string t] 96 (0, 0)) := by
    have e := heap_alloc_new (w1.alloc (.cells #[.int .i64 0, .int .i64 0, .int .i64 0, .int .i64 0] 80)) (.cells #[.int .i64 po, .string t] 96)
    rw [heap_two] at e; rw [← hW2]; exact e
  have hr : W2.heap[w.heap.size + 1]? = some (.cells #[.int .i64 0, .int .i64 0, .int .i64 0, .int .i64 0] 80 (0, 0)) := (hk2.block _ q1 (fun e => e)).trans HR.out
  have HV := Lib.hid hv
  have HR2 := Lib.hid hr
  have HQ := Lib.hid q1
  have s2' : w.heap.size + 1 < W2.heap.size := (Array.getElem?_eq_some_iff.1 hr).1
  have s1 := (Array.getElem?_eq_some_iff.1 hv).1
  have s1' : w1.heap.size < W2.heap.size := s1
  have s2 := (Array.getElem?_eq_some_iff.1 hcc).1
  have x0 : W2.cell? ⟨w1.heap.size + 1, 0, none⟩ = some (.int .i64 po) := by simp [World.cell?, hcc]
  have x1 : W2.cell? ⟨w1.heap.size + 1, 1, none⟩ = some (.string t) := by simp [World.cell?, hcc]
  obtain ⟨d0, d1, d2, d3, d4, d5, d6, d7, d8, d9, d10⟩ := ((HD.out w1 HK1.out).no hk2).c
  have hkb := ((HD.out w1 HK1.out).no hk2).lt (.inl rfl)
  have n1 : d.kb ≠ W2.heap.size := by omega
  have n2 : w1.heap.size + 1 ≠ W2.heap.size := by omega
  have hl1 := HL.out W2.drew (HK1.out.tr hk2).drew
  have hl2 := fun o => HL.out (W2.alloc o).drew ((HK1.out.tr hk2).alloc o).drew
  have HK2 := Lib.hid (HK1.out.tr hk2)
  rw [hW2]
  clear hW2 hv hcc hr hk2 HD q0 q1 q2 q3 q4 q5 q6 q7 k1 k2 k3 k4 y0 y1 y2 y3 y4 a1 a2 a3 a4
  go_upto_region 7 with fail
  go_cut [12, 13] (fun v12 v13 wx => ∃ g : Nat, v12 = .pointer (some ⟨g, 0, none⟩) ∧ v13 = .bool false ∧ wx.heap[g]? = some (.cells #[.int .i64 yk, .int .i64 yn, .int .i64 yb, .int .i64 yo] 80 (0, 0)) ∧ W2.heap.size ≤ g ∧ Keeps No W2 wx)
  case first =>
    go_region_with (fail)
    all_goals (go_wp2_with fail; go_meet)
    all_goals refine ⟨_, rfl, rfl, ?_⟩
    all_goals with_reducible exact new_c _ _
  case rest =>
    obtain ⟨g, rfl, rfl, hg, hgl, hk3⟩ := hcut
    have s3 := HK1.out.size
    have hv := (hk3.block _ s1' (fun e => e)).trans HV.out
    have hr := (hk3.block _ s2' (fun e => e)).trans HR2.out
    obtain ⟨e0, e1, e2, e3, e4⟩ := four_cells hv
    obtain ⟨g0, g1, g2, g3, g4⟩ := four_cells hg
    obtain ⟨r0, r1, r2, r3, r4⟩ := four_cells hr
    have HR3 := Lib.hid hr
    have HK3 := Lib.hid (HK2.out.tr hk3)
    clear hv hr hg hgl hk3 d0 d1 d2 d3 d4 d5 d6 d7 d8 d9 d10 hl1 hl2 x0 x1
    go_wp2_with fail
    rw [set4 HR3.out]
    have hrc := row_cell wc _ #[.int .i64 0, .int .i64 0, .int .i64 0, .int .i64 0] HR3.out
    refine bodyPost_ret (v := .tuple #[.agg #[.int .i64 0, .int .i64 0, .int .i64 0, .int .i64 0], .bool false]) ?_ ?_ ⟨rfl, ?_⟩
    · simp [results, Try.results35, go_sem, hrc]
    · rfl
    · exact HK3.out.setRow (by simp) _
set_option maxRecDepth 100000 in
set_option maxHeartbeats 1600000 in
theorem read_w1 (S : Sd) (p : Vl) (t : ByteArray) (w : World) (h : StoreAs w S) (hp : vlOk p) (ht : t.size ≤ maxLen) (d : Bk) (hX : (cellV S.view p t).isSome = true) (hd : kget S.bs p.b = some d) (hK : S.cellK p = some d.kb) (y : Vl) (B : Bool) (hw : d.wr = false) (HL : Hid (∀ W', Keeps No w W' → (Instr.lookup 97 (.map d.hm) (.agg #[.int .i64 p.o, .string t]) true).run Try.prog W' = .ok (.tuple #[va y, .bool B]) W')) (hB : B = true) (h0 : y.k = 0) :
    Calls Try.prog 35 #[.pointer (some ⟨S.s, 0, none⟩), va p, .string t] w fun e w' => e = .returned (.tuple #[va v0, .bool false]) ∧ Keeps No w w' := by
  have HC := Lib.hid (fun W hk => cell_as S p t w W h hk hp ht _ true hK hX)
  have HD := Lib.hid (fun W hk => ((h.b p.b d hd).1.no (w' := W) hk))
  have hpo := hp.2.2.2
  clear h hp hX hK hd
  obtain ⟨pk, pn, pb, po⟩ := p
  obtain ⟨yk, yn, yb, yo⟩ := y
  subst hB
  simp only at h0
  subst h0
  go_enter Try.func35, Try.ntmps35
  go_wp2_with fail
  refine (HC.out _ (by repeat (first | with_reducible exact Keeps.refl _ _ | with_reducible refine Keeps.alloc ?_ _ | with_reducible refine Keeps.drewN ?_ _ | with_reducible refine Keeps.drew ?_ | with_reducible refine Keeps.setCell ?_ (.inr (by simp)) _ | with_reducible refine Keeps.setRow ?_ (by simp) _))).mono ?_
  rintro e w1 ⟨rfl, hg1⟩
  obtain ⟨⟨a1, a2, a3, a4⟩, _, HK1, _⟩ := two_params w ⟨pk, pn, pb, po⟩ v0 hg1
  have HR := Lib.hid (row_of2 hg1)
  obtain ⟨y0, y1, y2, y3, y4⟩ := four_cells (row_of2 hg1)
  obtain ⟨d0, d1, d2, d3, d4, d5, d6, d7, d8, d9, d10⟩ := (HD.out w1 HK1.out).c
  have hkb := (HD.out w1 HK1.out).lt (.inl rfl)
  have q0 : w.heap.size < w1.heap.size := by have := hg1.size; simp at this; omega
  have q1 : w.heap.size + 1 < w1.heap.size := by have := hg1.size; simp at this; omega
  have q2 : w.heap.size ≠ w1.heap.size := by omega
  have q3 : w.heap.size + 1 ≠ w1.heap.size := by omega
  have q4 : w.heap.size < w1.heap.size + 1 := by omega
  have q5 : w.heap.size + 1 < w1.heap.size + 1 := by omega
  have q6 : w.heap.size ≠ w1.heap.size + 1 := by omega
  have q7 : w.heap.size + 1 ≠ w1.heap.size + 1 := by omega
  have k1 : d.kb ≠ w1.heap.size := by omega
  have k2 : d.kb < w1.heap.size + 1 := by omega
  have k3 : d.kb ≠ w1.heap.size + 1 := by omega
  have k4 : d.kb ≠ w.heap.size + 1 := fun e => by have := (HD.out w (Keeps.refl _ _)).lt (.inl rfl); omega
  clear hg1
  rw [hw] at d2
  simp only [ptrV]
  go_wp2_with fail
  go_quiet (fail)
  obtain ⟨W2, hW2⟩ : ∃ W2, ((w1.alloc (.cells #[.int .i64 0, .int .i64 0, .int .i64 0, .int .i64 0] 80)).alloc (.cells #[.int .i64 po, .string t] 96)).drewN nq = W2 := ⟨_, rfl⟩
  have hk2 : Keeps No w1 W2 := by rw [← hW2]; exact (by repeat (first | with_reducible exact Keeps.refl _ _ | with_reducible refine Keeps.alloc ?_ _ | with_reducible refine Keeps.drewN ?_ _ | with_reducible refine Keeps.drew ?_ | with_reducible refine Keeps.setCell ?_ (.inr (by simp)) _ | with_reducible refine Keeps.setRow ?_ (by simp) _))
  have hv : W2.heap[w1.heap.size]? = some (.cells #[.int .i64 0, .int .i64 0, .int .i64 0, .int .i64 0] 80 (0, 0)) := by rw [← hW2]; exact (Below.heap_alloc _ _ _ (by simp)).trans (heap_alloc_new w1 _)
  have hcc : W2.heap[w1.heap.size + 1]? = some (.cells #[.int .i64 po, .string t] 96 (0, 0)) := by
    have e := heap_alloc_new (w1.alloc (.cells #[.int .i64 0, .int .i64 0, .int .i64 0, .int .i64 0] 80)) (.cells #[.int .i64 po, .string t] 96)
    rw [heap_two] at e; rw [← hW2]; exact e
  have hr : W2.heap[w.heap.size + 1]? = some (.cells #[.int .i64 0, .int .i64 0, .int .i64 0, .int .i64 0] 80 (0, 0)) := (hk2.block _ q1 (fun e => e)).trans HR.out
  have HV := Lib.hid hv
  have HR2 := Lib.hid hr
  have HQ := Lib.hid q1
  have s2' : w.heap.size + 1 < W2.heap.size := (Array.getElem?_eq_some_iff.1 hr).1
  have s1 := (Array.getElem?_eq_some_iff.1 hv).1
  have s1' : w1.heap.size < W2.heap.size := s1
  have s2 := (Array.getElem?_eq_some_iff.1 hcc).1
  have x0 : W2.cell? ⟨w1.heap.size + 1, 0, none⟩ = some (.int .i64 po) := by simp [World.cell?, hcc]
  have x1 : W2.cell? ⟨w1.heap.size + 1, 1, none⟩ = some (.string t) := by simp [World.cell?, hcc]
  obtain ⟨d0, d1, d2, d3, d4, d5, d6, d7, d8, d9, d10⟩ := ((HD.out w1 HK1.out).no hk2).c
  have hkb := ((HD.out w1 HK1.out).no hk2).lt (.inl rfl)
  have n1 : d.kb ≠ W2.heap.size := by omega
  have n2 : w1.heap.size + 1 ≠ W2.heap.size := by omega
  have hl1 := HL.out W2.drew (HK1.out.tr hk2).drew
  have hl2 := fun o => HL.out (W2.alloc o).drew ((HK1.out.tr hk2).alloc o).drew
  have HK2 := Lib.hid (HK1.out.tr hk2)
  rw [hW2]
  clear hW2 hv hcc hr hk2 HD q0 q1 q2 q3 q4 q5 q6 q7 k1 k2 k3 k4 y0 y1 y2 y3 y4 a1 a2 a3 a4
  go_upto_region 7 with fail
  go_cut [12, 13] (fun v12 v13 wx => ∃ g : Nat, v12 = .pointer (some ⟨g, 0, none⟩) ∧ v13 = .bool true ∧ wx.heap[g]? = some (.cells #[.int .i64 0, .int .i64 yn, .int .i64 yb, .int .i64 yo] 80 (0, 0)) ∧ W2.heap.size ≤ g ∧ Keeps No W2 wx)
  case first =>
    go_region_with (fail)
    all_goals (go_wp2_with fail; go_meet)
    all_goals refine ⟨_, rfl, rfl, ?_⟩
    all_goals with_reducible exact new_c _ _
  case rest =>
    obtain ⟨g, rfl, rfl, hg, hgl, hk3⟩ := hcut
    have s3 := HK1.out.size
    have hv := (hk3.block _ s1' (fun e => e)).trans HV.out
    have hr := (hk3.block _ s2' (fun e => e)).trans HR2.out
    obtain ⟨e0, e1, e2, e3, e4⟩ := four_cells (setRow_heap wc w1.heap.size _ #[.int .i64 0, .int .i64 yn, .int .i64 yb, .int .i64 yo] _ _ hv)
    obtain ⟨g0, g1, g2, g3, g4⟩ := four_cells hg
    have hr2 : (wc.setRow w1.heap.size #[.int .i64 0, .int .i64 yn, .int .i64 yb, .int .i64 yo]).heap[w.heap.size + 1]? = some (.cells #[.int .i64 0, .int .i64 0, .int .i64 0, .int .i64 0] 80 (0, 0)) := (setRow_other _ _ _ _ (by have := HQ.out; omega)).trans hr
    have HV3 := Lib.hid hv
    have HR3 := Lib.hid hr2
    have HK3 := Lib.hid (HK2.out.tr hk3)
    clear hv hr hr2 hg hgl hk3 d0 d1 d2 d3 d4 d5 d6 d7 d8 d9 d10 hl1 hl2 x0 x1
    repeat (first | (refine wpList_store_row rfl _ _ _ rfl w1.heap.size _ rfl rfl _ _ HV3.out infoV rfl (one4 _ _ _ _) ?_) | (refine wpList_store_row rfl _ _ _ rfl (w.heap.size + 1) _ rfl rfl _ _ HR3.out infoV rfl (one4 _ _ _ _) ?_) | go_values | go_skip | go_guarded | go_step | go_upon | go_back)
    have hrc := row_cell (wc.setRow w1.heap.size #[.int .i64 0, .int .i64 yn, .int .i64 yb, .int .i64 yo]) _ #[.int .i64 0, .int .i64 0, .int .i64 0, .int .i64 0] HR3.out
    refine bodyPost_ret (v := .tuple #[.agg #[.int .i64 0, .int .i64 0, .int .i64 0, .int .i64 0], .bool false]) ?_ ?_ ⟨rfl, ?_⟩
    · simp [results, Try.results35, go_sem, hrc]
    · rfl
    · exact (HK3.out.setRow HK1.out.size _).setRow (by simp) _
set_option maxRecDepth 100000 in
set_option maxHeartbeats 1600000 in
theorem read_w2 (S : Sd) (p : Vl) (t : ByteArray) (w : World) (h : StoreAs w S) (hp : vlOk p) (ht : t.size ≤ maxLen) (d : Bk) (hX : (cellV S.view p t).isSome = true) (hd : kget S.bs p.b = some d) (hK : S.cellK p = some d.kb) (y : Vl) (B : Bool) (hw : d.wr = false) (HL : Hid (∀ W', Keeps No w W' → (Instr.lookup 97 (.map d.hm) (.agg #[.int .i64 p.o, .string t]) true).run Try.prog W' = .ok (.tuple #[va y, .bool B]) W')) (hB : B = true) (h0 : y.k ≠ 0) :
    Calls Try.prog 35 #[.pointer (some ⟨S.s, 0, none⟩), va p, .string t] w fun e w' => e = .returned (.tuple #[va y, .bool true]) ∧ Keeps No w w' := by
  have HC := Lib.hid (fun W hk => cell_as S p t w W h hk hp ht _ true hK hX)
  have HD := Lib.hid (fun W hk => ((h.b p.b d hd).1.no (w' := W) hk))
  have hpo := hp.2.2.2
  clear h hp hX hK hd
  obtain ⟨pk, pn, pb, po⟩ := p
  obtain ⟨yk, yn, yb, yo⟩ := y
  subst hB
  simp only at h0
  have h0' : (yk == 0) = false := beq_eq_false_iff_ne.2 h0
  go_enter Try.func35, Try.ntmps35
  go_wp2_with fail
  refine (HC.out _ (by repeat (first | with_reducible exact Keeps.refl _ _ | with_reducible refine Keeps.alloc ?_ _ | with_reducible refine Keeps.drewN ?_ _ | with_reducible refine Keeps.drew ?_ | with_reducible refine Keeps.setCell ?_ (.inr (by simp)) _ | with_reducible refine Keeps.setRow ?_ (by simp) _))).mono ?_
  rintro e w1 ⟨rfl, hg1⟩
  obtain ⟨⟨a1, a2, a3, a4⟩, _, HK1, _⟩ := two_params w ⟨pk, pn, pb, po⟩ v0 hg1
  have HR := Lib.hid (row_of2 hg1)
  obtain ⟨y0, y1, y2, y3, y4⟩ := four_cells (row_of2 hg1)
  obtain ⟨d0, d1, d2, d3, d4, d5, d6, d7, d8, d9, d10⟩ := (HD.out w1 HK1.out).c
  have hkb := (HD.out w1 HK1.out).lt (.inl rfl)
  have q0 : w.heap.size < w1.heap.size := by have := hg1.size; simp at this; omega
  have q1 : w.heap.size + 1 < w1.heap.size := by have := hg1.size; simp at this; omega
  have q2 : w.heap.size ≠ w1.heap.size := by omega
  have q3 : w.heap.size + 1 ≠ w1.heap.size := by omega
  have q4 : w.heap.size < w1.heap.size + 1 := by omega
  have q5 : w.heap.size + 1 < w1.heap.size + 1 := by omega
  have q6 : w.heap.size ≠ w1.heap.size + 1 := by omega
  have q7 : w.heap.size + 1 ≠ w1.heap.size + 1 := by omega
  have k1 : d.kb ≠ w1.heap.size := by omega
  have k2 : d.kb < w1.heap.size + 1 := by omega
  have k3 : d.kb ≠ w1.heap.size + 1 := by omega
  have k4 : d.kb ≠ w.heap.size + 1 := fun e => by have := (HD.out w (Keeps.refl _ _)).lt (.inl rfl); omega
  clear hg1
  rw [hw] at d2
  simp only [ptrV]
  go_wp2_with fail
  go_quiet (fail)
  obtain ⟨W2, hW2⟩ : ∃ W2, ((w1.alloc (.cells #[.int .i64 0, .int .i64 0, .int .i64 0, .int .i64 0] 80)).alloc (.cells #[.int .i64 po, .string t] 96)).drewN nq = W2 := ⟨_, rfl⟩
  have hk2 : Keeps No w1 W2 := by rw [← hW2]; exact (by repeat (first | with_reducible exact Keeps.refl _ _ | with_reducible refine Keeps.alloc ?_ _ | with_reducible refine Keeps.drewN ?_ _ | with_reducible refine Keeps.drew ?_ | with_reducible refine Keeps.setCell ?_ (.inr (by simp)) _ | with_reducible refine Keeps.setRow ?_ (by simp) _))
  have hv : W2.heap[w1.heap.size]? = some (.cells #[.int .i64 0, .int .i64 0, .int .i64 0, .int .i64 0] 80 (0, 0)) := by rw [← hW2]; exact (Below.heap_alloc _ _ _ (by simp)).trans (heap_alloc_new w1 _)
  have hcc : W2.heap[w1.heap.size + 1]? = some (.cells #[.int .i64 po, .string t] 96 (0, 0)) := by
    have e := heap_alloc_new (w1.alloc (.cells #[.int .i64 0, .int .i64 0, .int .i64 0, .int .i64 0] 80)) (.cells #[.int .i64 po, .string t] 96)
    rw [heap_two] at e; rw [← hW2]; exact e
  have hr : W2.heap[w.heap.size + 1]? = some (.cells #[.int .i64 0, .int .i64 0, .int .i64 0, .int .i64 0] 80 (0, 0)) := (hk2.block _ q1 (fun e => e)).trans HR.out
  have HV := Lib.hid hv
  have HR2 := Lib.hid hr
  have HQ := Lib.hid q1
  have s2' : w.heap.size + 1 < W2.heap.size := (Array.getElem?_eq_some_iff.1 hr).1
  have s1 := (Array.getElem?_eq_some_iff.1 hv).1
  have s1' : w1.heap.size < W2.heap.size := s1
  have s2 := (Array.getElem?_eq_some_iff.1 hcc).1
  have x0 : W2.cell? ⟨w1.heap.size + 1, 0, none⟩ = some (.int .i64 po) := by simp [World.cell?, hcc]
  have x1 : W2.cell? ⟨w1.heap.size + 1, 1, none⟩ = some (.string t) := by simp [World.cell?, hcc]
  obtain ⟨d0, d1, d2, d3, d4, d5, d6, d7, d8, d9, d10⟩ := ((HD.out w1 HK1.out).no hk2).c
  have hkb := ((HD.out w1 HK1.out).no hk2).lt (.inl rfl)
  have n1 : d.kb ≠ W2.heap.size := by omega
  have n2 : w1.heap.size + 1 ≠ W2.heap.size := by omega
  have hl1 := HL.out W2.drew (HK1.out.tr hk2).drew
  have hl2 := fun o => HL.out (W2.alloc o).drew ((HK1.out.tr hk2).alloc o).drew
  have HK2 := Lib.hid (HK1.out.tr hk2)
  rw [hW2]
  clear hW2 hv hcc hr hk2 HD q0 q1 q2 q3 q4 q5 q6 q7 k1 k2 k3 k4 y0 y1 y2 y3 y4 a1 a2 a3 a4
  go_upto_region 7 with fail
  go_cut [12, 13] (fun v12 v13 wx => ∃ g : Nat, v12 = .pointer (some ⟨g, 0, none⟩) ∧ v13 = .bool true ∧ wx.heap[g]? = some (.cells #[.int .i64 yk, .int .i64 yn, .int .i64 yb, .int .i64 yo] 80 (0, 0)) ∧ W2.heap.size ≤ g ∧ Keeps No W2 wx)
  case first =>
    go_region_with (fail)
    all_goals (go_wp2_with fail; go_meet)
    all_goals refine ⟨_, rfl, rfl, ?_⟩
    all_goals with_reducible exact new_c _ _
  case rest =>
    obtain ⟨g, rfl, rfl, hg, hgl, hk3⟩ := hcut
    have s3 := HK1.out.size
    have hv := (hk3.block _ s1' (fun e => e)).trans HV.out
    have hr := (hk3.block _ s2' (fun e => e)).trans HR2.out
    obtain ⟨e0, e1, e2, e3, e4⟩ := four_cells (setRow_heap wc w1.heap.size _ #[.int .i64 yk, .int .i64 yn, .int .i64 yb, .int .i64 yo] _ _ hv)
    obtain ⟨g0, g1, g2, g3, g4⟩ := four_cells hg
    have hr2 : (wc.setRow w1.heap.size #[.int .i64 yk, .int .i64 yn, .int .i64 yb, .int .i64 yo]).heap[w.heap.size + 1]? = some (.cells #[.int .i64 0, .int .i64 0, .int .i64 0, .int .i64 0] 80 (0, 0)) := (setRow_other _ _ _ _ (by have := HQ.out; omega)).trans hr
    have HV3 := Lib.hid hv
    have HR3 := Lib.hid hr2
    have HK3 := Lib.hid (HK2.out.tr hk3)
    clear hv hr hr2 hg hgl hk3 d0 d1 d2 d3 d4 d5 d6 d7 d8 d9 d10 hl1 hl2 x0 x1
    repeat (first | (refine wpList_store_row rfl _ _ _ rfl w1.heap.size _ rfl rfl _ _ HV3.out infoV rfl (one4 _ _ _ _) ?_) | (refine wpList_store_row rfl _ _ _ rfl (w.heap.size + 1) _ rfl rfl _ _ HR3.out infoV rfl (one4 _ _ _ _) ?_) | go_values | go_skip | go_guarded | go_step | go_upon | go_back)
    have hrc := row_cell (wc.setRow w1.heap.size #[.int .i64 yk, .int .i64 yn, .int .i64 yb, .int .i64 yo]) _ #[.int .i64 yk, .int .i64 yn, .int .i64 yb, .int .i64 yo] HR3.out
    refine bodyPost_ret (v := .tuple #[.agg #[.int .i64 yk, .int .i64 yn, .int .i64 yb, .int .i64 yo], .bool true]) ?_ ?_ ⟨rfl, ?_⟩
    · simp [results, Try.results35, go_sem, hrc]
    · rfl
    · exact (HK3.out.setRow HK1.out.size _).setRow (by simp) _
end Go.Proofs.Ytjchfldlmabblaa
