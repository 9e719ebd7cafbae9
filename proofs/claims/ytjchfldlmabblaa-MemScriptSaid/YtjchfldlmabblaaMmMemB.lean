/- The memory: Move, Read. -/
import Derived.Test.YtjchfldlmabblaaMmMem
namespace Go.Proofs.Ytjchfldlmabblaa
open Go.RowKit Go.Maps
set_option linter.unusedVariables false

theorem heap_three (w : World) (a b c : Obj) : (((w.alloc a).alloc b).alloc c).heap[w.heap.size + 1 + 1]? = some c := by
  have e := heap_alloc_new ((w.alloc a).alloc b) c
  rw [heap_two, heap_two] at e; exact e
set_option maxRecDepth 100000 in
set_option maxHeartbeats 1600000 in
theorem mmove_any (m : Nat) (S : Sd) (p : Vl) (n : Int) (w : World) (h : MemAs w m S) (hp : vlOk p) :
    Calls Try.prog 18 #[.pointer (some ⟨m, 0, none⟩), va p, .int .i64 n] w fun e w' => e = .returned (.tuple #[va (moveV S.view p n).1, .bool (moveV S.view p n).2]) ∧ Keeps No w w' := by
  have H0 := Lib.hid (fun W hk => mnone_as m S w W h hk)
  have H1 := Lib.hid (fun W hk => move_any S p n W (h.st.no hk) hp)
  have hc := h.c
  have hkb := h.lt
  have hkb1 : m ≠ w.heap.size := by omega
  have hkb2 : m ≠ w.heap.size + 1 := by omega
  have hkb3 : m < w.heap.size + 1 := by omega
  have hkb4 : m < w.heap.size + 1 + 1 := by omega
  have hkb5 : m ≠ w.heap.size + 1 + 1 := by omega
  clear h hp
  obtain ⟨⟨r1, r2⟩, hr⟩ : ∃ r, moveV S.view p n = r := ⟨_, rfl⟩
  rw [hr] at H1 ⊢
  clear hr
  obtain ⟨pk, pn, pb, po⟩ := p
  obtain ⟨xk, xn, xb, xo⟩ := r1
  go_enter Try.func18, Try.ntmps18
  go_wp2_with fail
  refine (H0.out _ (by repeat (first | with_reducible exact Keeps.refl _ _ | with_reducible refine Keeps.alloc ?_ _ | with_reducible refine Keeps.drewN ?_ _ | with_reducible refine Keeps.drew ?_ | with_reducible refine Keeps.setCell ?_ (.inr (by simp)) _ | with_reducible refine Keeps.setRow ?_ (by simp) _))).mono ?_
  rintro e w1 ⟨rfl, rfl⟩
  go_upto_region 3 with fail
  go_cut [8, 9] (fun v10 v11 wx => ∃ g : Nat, v10 = .pointer (some ⟨g, 0, none⟩) ∧ v11 = .bool r2 ∧ wx.heap[g]? = some (.cells #[.int .i64 xk, .int .i64 xn, .int .i64 xb, .int .i64 xo] 80 (0, 0)) ∧ (q2 w ⟨pk, pn, pb, po⟩ ⟨0, 0, 0, 0⟩).heap.size ≤ g ∧ Keeps No (q2 w ⟨pk, pn, pb, po⟩ ⟨0, 0, 0, 0⟩) wx)
  case first =>
    go_region_with (first | (refine (H1.out _ (by repeat (first | with_reducible exact Keeps.refl _ _ | with_reducible refine Keeps.alloc ?_ _ | with_reducible refine Keeps.drewN ?_ _ | with_reducible refine Keeps.drew ?_ | with_reducible refine Keeps.setCell ?_ (.inr (by simp)) _ | with_reducible refine Keeps.setRow ?_ (by simp) _))).mono ?_; rintro e w9 ⟨rfl, hk9⟩; try (have hr9 : w9.heap[w.heap.size + 1 + 1]? = some (.cells #[.int .i64 0, .int .i64 0, .int .i64 0, .int .i64 0] 80 (0, 0)) := (hk9.block _ (by simp) (fun e => e)).trans (heap_three _ _ _ _)); try (obtain ⟨z0, z1, z2, z3, z4⟩ := four_cells hr9)) | fail)
    all_goals (go_wp2_with fail; go_meet)
    all_goals refine ⟨_, rfl, rfl, ?_⟩
    all_goals first
      | with_reducible exact new_a (by repeat (first | with_reducible exact Keeps.refl _ _ | with_reducible refine Keeps.alloc ?_ _ | with_reducible refine Keeps.drewN ?_ _ | with_reducible refine Keeps.drew ?_ | with_reducible refine Keeps.setCell ?_ (.inr (by simp)) _ | with_reducible refine Keeps.setRow ?_ (by simp) _)) hk9
      | with_reducible exact new_b hr9 (by simp) (by repeat (first | with_reducible exact Keeps.refl _ _ | with_reducible refine Keeps.alloc ?_ _ | with_reducible refine Keeps.drewN ?_ _ | with_reducible refine Keeps.drew ?_ | with_reducible refine Keeps.setCell ?_ (.inr (by simp)) _ | with_reducible refine Keeps.setRow ?_ (by simp) _)) hk9
  case rest =>
    obtain ⟨g, rfl, rfl, hr, hg, hk2⟩ := hcut
    obtain ⟨z0, z1, z2, z3, z4⟩ := four_cells hr
    have hg2 : g ≠ w.heap.size + 1 := by simp at hg; omega
    have HK2 := Lib.hid hk2
    have HR := Lib.hid (row_of2 hk2)
    obtain ⟨y0, y1, y2, y3, y4⟩ := four_cells (row_of2 hk2)
    clear hr hg hk2
    go_wp2_with fail
    rw [set4 HR.out]
    have hrc := row_cell wc _ #[.int .i64 xk, .int .i64 xn, .int .i64 xb, .int .i64 xo] HR.out
    refine bodyPost_ret (v := .tuple #[.agg #[.int .i64 xk, .int .i64 xn, .int .i64 xb, .int .i64 xo], .bool r2]) ?_ ?_ ⟨rfl, (by repeat (first | with_reducible exact q2_k _ _ _ HK2.out | with_reducible refine Keeps.alloc ?_ _ | with_reducible refine Keeps.drewN ?_ _ | with_reducible refine Keeps.drew ?_ | with_reducible refine Keeps.setCell ?_ (.inr (by simp)) _ | with_reducible refine Keeps.setRow ?_ (by simp) _))⟩
    · simp [results, Try.results18, go_sem, hrc]
    · rfl
set_option maxRecDepth 100000 in
set_option maxHeartbeats 1600000 in
theorem mread_any (m : Nat) (S : Sd) (p : Vl) (t : ByteArray) (w : World) (h : MemAs w m S) (hp : vlOk p) (ht : t.size ≤ maxLen) :
    Calls Try.prog 16 #[.pointer (some ⟨m, 0, none⟩), va p, .string t] w fun e w' => e = .returned (.tuple #[va (readV S.view p t).1, .bool (readV S.view p t).2]) ∧ Keeps No w w' := by
  have H0 := Lib.hid (fun W hk => mnone_as m S w W h hk)
  have H1 := Lib.hid (fun W hk => read_any S p t W (h.st.no hk) hp ht)
  have hc := h.c
  have hkb := h.lt
  have hkb1 : m ≠ w.heap.size := by omega
  have hkb2 : m ≠ w.heap.size + 1 := by omega
  have hkb3 : m < w.heap.size + 1 := by omega
  have hkb4 : m < w.heap.size + 1 + 1 := by omega
  have hkb5 : m ≠ w.heap.size + 1 + 1 := by omega
  clear h hp
  obtain ⟨⟨r1, r2⟩, hr⟩ : ∃ r, readV S.view p t = r := ⟨_, rfl⟩
  rw [hr] at H1 ⊢
  clear hr
  obtain ⟨pk, pn, pb, po⟩ := p
  obtain ⟨xk, xn, xb, xo⟩ := r1
  go_enter Try.func16, Try.ntmps16
  go_wp2_with fail
  refine (H0.out _ (by repeat (first | with_reducible exact Keeps.refl _ _ | with_reducible refine Keeps.alloc ?_ _ | with_reducible refine Keeps.drewN ?_ _ | with_reducible refine Keeps.drew ?_ | with_reducible refine Keeps.setCell ?_ (.inr (by simp)) _ | with_reducible refine Keeps.setRow ?_ (by simp) _))).mono ?_
  rintro e w1 ⟨rfl, rfl⟩
  go_upto_region 3 with fail
  go_cut [8, 9] (fun v10 v11 wx => ∃ g : Nat, v10 = .pointer (some ⟨g, 0, none⟩) ∧ v11 = .bool r2 ∧ wx.heap[g]? = some (.cells #[.int .i64 xk, .int .i64 xn, .int .i64 xb, .int .i64 xo] 80 (0, 0)) ∧ (q2 w ⟨pk, pn, pb, po⟩ ⟨0, 0, 0, 0⟩).heap.size ≤ g ∧ Keeps No (q2 w ⟨pk, pn, pb, po⟩ ⟨0, 0, 0, 0⟩) wx)
  case first =>
    go_region_with (first | (refine (H1.out _ (by repeat (first | with_reducible exact Keeps.refl _ _ | with_reducible refine Keeps.alloc ?_ _ | with_reducible refine Keeps.drewN ?_ _ | with_reducible refine Keeps.drew ?_ | with_reducible refine Keeps.setCell ?_ (.inr (by simp)) _ | with_reducible refine Keeps.setRow ?_ (by simp) _))).mono ?_; rintro e w9 ⟨rfl, hk9⟩; try (have hr9 : w9.heap[w.heap.size + 1 + 1]? = some (.cells #[.int .i64 0, .int .i64 0, .int .i64 0, .int .i64 0] 80 (0, 0)) := (hk9.block _ (by simp) (fun e => e)).trans (heap_three _ _ _ _)); try (obtain ⟨z0, z1, z2, z3, z4⟩ := four_cells hr9)) | fail)
    all_goals (go_wp2_with fail; go_meet)
    all_goals refine ⟨_, rfl, rfl, ?_⟩
    all_goals first
      | with_reducible exact new_a (by repeat (first | with_reducible exact Keeps.refl _ _ | with_reducible refine Keeps.alloc ?_ _ | with_reducible refine Keeps.drewN ?_ _ | with_reducible refine Keeps.drew ?_ | with_reducible refine Keeps.setCell ?_ (.inr (by simp)) _ | with_reducible refine Keeps.setRow ?_ (by simp) _)) hk9
      | with_reducible exact new_b hr9 (by simp) (by repeat (first | with_reducible exact Keeps.refl _ _ | with_reducible refine Keeps.alloc ?_ _ | with_reducible refine Keeps.drewN ?_ _ | with_reducible refine Keeps.drew ?_ | with_reducible refine Keeps.setCell ?_ (.inr (by simp)) _ | with_reducible refine Keeps.setRow ?_ (by simp) _)) hk9
  case rest =>
    obtain ⟨g, rfl, rfl, hr, hg, hk2⟩ := hcut
    obtain ⟨z0, z1, z2, z3, z4⟩ := four_cells hr
    have hg2 : g ≠ w.heap.size + 1 := by simp at hg; omega
    have HK2 := Lib.hid hk2
    have HR := Lib.hid (row_of2 hk2)
    obtain ⟨y0, y1, y2, y3, y4⟩ := four_cells (row_of2 hk2)
    clear hr hg hk2
    go_wp2_with fail
    rw [set4 HR.out]
    have hrc := row_cell wc _ #[.int .i64 xk, .int .i64 xn, .int .i64 xb, .int .i64 xo] HR.out
    refine bodyPost_ret (v := .tuple #[.agg #[.int .i64 xk, .int .i64 xn, .int .i64 xb, .int .i64 xo], .bool r2]) ?_ ?_ ⟨rfl, (by repeat (first | with_reducible exact q2_k _ _ _ HK2.out | with_reducible refine Keeps.alloc ?_ _ | with_reducible refine Keeps.drewN ?_ _ | with_reducible refine Keeps.drew ?_ | with_reducible refine Keeps.setCell ?_ (.inr (by simp)) _ | with_reducible refine Keeps.setRow ?_ (by simp) _))⟩
    · simp [results, Try.results16, go_sem, hrc]
    · rfl
end Go.Proofs.Ytjchfldlmabblaa
