/- The document's memory: Move. -/
import Derived.Test.YtjchfldlmabblaaMmRefC
namespace Go.Proofs.Ytjchfldlmabblaa
open Go.RowKit Go.Maps
set_option linter.unusedVariables false
set_option linter.unusedSimpArgs false

theorem rthere_as (B : Nat) (R : Rd) (b : Int) (X : Bool) (hX : (R.at b).isSome = X) (w W : World) (h : RefAs B w R) (hk : Keeps No w W) :
    Calls Try.prog 26 #[.pointer (some ⟨R.r, 0, none⟩), .int .i64 b] W fun e w' => e = .returned (.bool X) ∧ ∃ k, w' = W.drewN k := by
  rw [← hX]; exact there_any B R b W (h.no hk)
theorem w64_in {x : Int} (h : -9223372036854775808 ≤ x ∧ x ≤ 9223372036854775807) : w64 x = x := by
  unfold w64 wrap64; omega
theorem moveV_none {V : View} {p : Vl} {n : Int} (h : atV V p = none) : moveV V p n = (v0, false) := by unfold moveV; rw [h]
theorem moveV_some {V : View} {p : Vl} {n : Int} {d : Bv} (h : atV V p = some d) : moveV V p n = if spanV d (w64 (p.o + n)) = true then (⟨2, 0, p.b, w64 (p.o + n)⟩, true) else (v0, false) := by unfold moveV; rw [h]
set_option maxRecDepth 100000 in
set_option maxHeartbeats 1600000 in
theorem rmove_any (B : Nat) (R : Rd) (x : Vl) (j : Int) (w : World) (h : RefAs B w R) (hx : vlOk x) (hj : I64 j) :
    Calls Try.prog 19 #[.pointer (some ⟨R.r, 0, none⟩), va x, .int .i64 j] w fun e w' => e = .returned (.tuple #[va (moveV R.view x j).1, .bool (moveV R.view x j).2]) ∧ Keeps No w w' := by
  obtain ⟨k, n, b, o⟩ := x
  obtain ⟨_, _, _, ho⟩ := hx
  simp only at ho
  have c0 := h.c0
  by_cases hk : k = 2
  · subst hk
    cases hA : R.at b with
    | none =>
      rw [moveV_none (show atV R.view ⟨2, n, b, o⟩ = none by unfold atV Rd.view; rw [if_pos rfl]; simp [hA])]
      have HT := Lib.hid (fun W hk => rthere_as B R b false (by rw [hA]; rfl) w W h hk)
      have HP := Lib.hid (fun W => @two_prm 42 w ⟨2, n, b, o⟩ v0 W)
      clear h hA
      go_enter Try.func19, Try.ntmps19
      go_wp2_with fail
      refine (HT.out _ (by repeat (first | with_reducible exact Keeps.refl _ _ | with_reducible refine Keeps.alloc ?_ _ | with_reducible refine Keeps.drewN ?_ _ | with_reducible refine Keeps.drew ?_ | with_reducible refine Keeps.setCell ?_ (.inr (by simp)) _ | with_reducible refine Keeps.setRow ?_ (by simp) _))).mono ?_
      rintro e w1 ⟨rfl, k1, rfl⟩
      have hg1 := (Keeps.refl No ((w.alloc (.cells #[.int .i64 2, .int .i64 n, .int .i64 b, .int .i64 o] 42)).alloc (.cells #[.int .i64 0, .int .i64 0, .int .i64 0, .int .i64 0] 42))).drewN k1
      obtain ⟨⟨a1, a2, a3, a4⟩, _, HK1, fz⟩ := HP.out _ hg1
      have HR := Lib.hid (row_of2 hg1)
      clear hg1
      generalize (((w.alloc (.cells #[.int .i64 2, .int .i64 n, .int .i64 b, .int .i64 o] 42)).alloc (.cells #[.int .i64 0, .int .i64 0, .int .i64 0, .int .i64 0] 42))).drewN k1 = w1 at *
      go_wp2_with fail
      rw [set4 (w := w1) HR.out]
      have hrc := row_cell (w1) _ #[.int .i64 0, .int .i64 0, .int .i64 0, .int .i64 0] HR.out
      refine bodyPost_ret (v := .tuple #[.agg #[.int .i64 0, .int .i64 0, .int .i64 0, .int .i64 0], .bool false]) ?_ ?_ ⟨rfl, (by repeat (first | with_reducible exact HK1.out | with_reducible refine Keeps.alloc ?_ _ | with_reducible refine Keeps.drewN ?_ _ | with_reducible refine Keeps.drew ?_ | with_reducible refine Keeps.setCell ?_ (.inr (by simp)) _ | with_reducible refine Keeps.setRow ?_ (by simp) _))⟩
      · simp [results, Try.results19, go_sem, hrc]
      · rfl
    | some d =>
      obtain ⟨i, rfl, hi1, hi2, hd, hon⟩ := at_pos hA
      have hi' : (i : Int) < (R.bs.length : Int) := by omega
      have i0 : (0 : Int) ≤ (i : Int) := by omega
      have HC := Lib.hid (fun W (hk : Keeps No w W) => (h.no hk).c hd)
      have HC0 := Lib.hid (fun W (hk : Keeps No w W) => (h.no hk).c0)
      obtain ⟨zl0, zl1⟩ := (h.b i d hd).zl
      have HT := Lib.hid (fun W hk => rthere_as B R i true (by rw [hA]; rfl) w W h hk)
      have HP := Lib.hid (fun W => @two_prm 42 w ⟨2, n, i, o⟩ v0 W)
      have hv : R.view (i : Int) = some d.view := by unfold Rd.view; rw [hA]; rfl
      have hat : atV R.view ⟨2, n, i, o⟩ = if spanV d.view o = true then some d.view else none := by unfold atV; rw [if_pos rfl]; simp only [hv, Option.filter_some]
      have hsp : spanV d.view o = (decide (0 ≤ o) && decide (o ≤ d.z)) := rfl
      unfold I64 at ho hj
      clear h hA hd hv
      by_cases h0 : 0 ≤ o
      · by_cases hz : o ≤ d.z
        · rw [hsp, decide_eq_true h0, decide_eq_true hz] at hat
          rw [moveV_some (hat.trans (if_pos rfl))]
          clear hat hsp
          by_cases hj1 : j < -o
          · have hsp2 : spanV d.view (w64 (o + j)) = false := by rw [w64_in (by omega)]; unfold spanV; rw [decide_eq_false (by omega : ¬ 0 ≤ o + j)]; rfl
            rw [if_neg (by simp only [hsp2]; simp)]
            clear hsp2
            go_enter Try.func19, Try.ntmps19
            go_wp2_with fail
            refine (HT.out _ (by repeat (first | with_reducible exact Keeps.refl _ _ | with_reducible refine Keeps.alloc ?_ _ | with_reducible refine Keeps.drewN ?_ _ | with_reducible refine Keeps.drew ?_ | with_reducible refine Keeps.setCell ?_ (.inr (by simp)) _ | with_reducible refine Keeps.setRow ?_ (by simp) _))).mono ?_
            rintro e w1 ⟨rfl, k1, rfl⟩
            have hg1 := (Keeps.refl No ((w.alloc (.cells #[.int .i64 2, .int .i64 n, .int .i64 (i : Int), .int .i64 o] 42)).alloc (.cells #[.int .i64 0, .int .i64 0, .int .i64 0, .int .i64 0] 42))).drewN k1
            obtain ⟨⟨a1, a2, a3, a4⟩, _, HK1, fz⟩ := HP.out _ hg1
            have HR := Lib.hid (row_of2 hg1)
            obtain ⟨e0, _, _, _⟩ := HC.out _ HK1.out
            have e1 := HC0.out _ HK1.out
            clear hg1
            generalize (((w.alloc (.cells #[.int .i64 2, .int .i64 n, .int .i64 (i : Int), .int .i64 o] 42)).alloc (.cells #[.int .i64 0, .int .i64 0, .int .i64 0, .int .i64 0] 42))).drewN k1 = w1 at *
            go_wp2_with fail
            try go_quiet (fail)
            try go_wp2_with fail
            try go_quiet (fail)
            try go_wp2_with fail
            have HR2 := fun q => (show (w1.drewN q).heap[w.heap.size + 1]? = some (.cells #[.int .i64 0, .int .i64 0, .int .i64 0, .int .i64 0] 42 (0, 0)) from HR.out)
            rw [set4 (HR2 _)]
            have hrc := fun q => row_cell (w1.drewN q) _ #[.int .i64 0, .int .i64 0, .int .i64 0, .int .i64 0] (HR2 q)
            refine bodyPost_ret (v := .tuple #[.agg #[.int .i64 0, .int .i64 0, .int .i64 0, .int .i64 0], .bool false]) ?_ ?_ ⟨rfl, (by repeat (first | with_reducible exact HK1.out | with_reducible refine Keeps.alloc ?_ _ | with_reducible refine Keeps.drewN ?_ _ | with_reducible refine Keeps.drew ?_ | with_reducible refine Keeps.setCell ?_ (.inr (by simp)) _ | with_reducible refine Keeps.setRow ?_ (by simp) _))⟩
            · simp [results, Try.results19, go_sem, hrc]
            · rfl
          · by_cases hj2 : d.z - o < j
            · have hsp2 : spanV d.view (w64 (o + j)) = false := by
                unfold spanV
                by_cases hov : o + j ≤ 9223372036854775807
                · have hnz : ¬ o + j ≤ d.view.size := fun (e : o + j ≤ d.z) => absurd e (by omega)
                  rw [w64_in (by omega), decide_eq_false hnz, Bool.and_false]
                · rw [decide_eq_false (by unfold w64 wrap64; omega)]; rfl
              rw [if_neg (by simp only [hsp2]; simp)]
              clear hsp2
              go_enter Try.func19, Try.ntmps19
              go_wp2_with fail
              refine (HT.out _ (by repeat (first | with_reducible exact Keeps.refl _ _ | with_reducible refine Keeps.alloc ?_ _ | with_reducible refine Keeps.drewN ?_ _ | with_reducible refine Keeps.drew ?_ | with_reducible refine Keeps.setCell ?_ (.inr (by simp)) _ | with_reducible refine Keeps.setRow ?_ (by simp) _))).mono ?_
              rintro e w1 ⟨rfl, k1, rfl⟩
              have hg1 := (Keeps.refl No ((w.alloc (.cells #[.int .i64 2, .int .i64 n, .int .i64 (i : Int), .int .i64 o] 42)).alloc (.cells #[.int .i64 0, .int .i64 0, .int .i64 0, .int .i64 0] 42))).drewN k1
              obtain ⟨⟨a1, a2, a3, a4⟩, _, HK1, fz⟩ := HP.out _ hg1
              have HR := Lib.hid (row_of2 hg1)
              obtain ⟨e0, _, _, _⟩ := HC.out _ HK1.out
              have e1 := HC0.out _ HK1.out
              clear hg1
              generalize (((w.alloc (.cells #[.int .i64 2, .int .i64 n, .int .i64 (i : Int), .int .i64 o] 42)).alloc (.cells #[.int .i64 0, .int .i64 0, .int .i64 0, .int .i64 0] 42))).drewN k1 = w1 at *
              go_wp2_with fail
              try go_quiet (fail)
              try go_wp2_with fail
              try go_quiet (fail)
              try go_wp2_with fail
              have HR2 := fun q => (show (w1.drewN q).heap[w.heap.size + 1]? = some (.cells #[.int .i64 0, .int .i64 0, .int .i64 0, .int .i64 0] 42 (0, 0)) from HR.out)
              rw [set4 (HR2 _)]
              have hrc := fun q => row_cell (w1.drewN q) _ #[.int .i64 0, .int .i64 0, .int .i64 0, .int .i64 0] (HR2 q)
              refine bodyPost_ret (v := .tuple #[.agg #[.int .i64 0, .int .i64 0, .int .i64 0, .int .i64 0], .bool false]) ?_ ?_ ⟨rfl, (by repeat (first | with_reducible exact HK1.out | with_reducible refine Keeps.alloc ?_ _ | with_reducible refine Keeps.drewN ?_ _ | with_reducible refine Keeps.drew ?_ | with_reducible refine Keeps.setCell ?_ (.inr (by simp)) _ | with_reducible refine Keeps.setRow ?_ (by simp) _))⟩
              · simp [results, Try.results19, go_sem, hrc]
              · rfl
            · have hsp2 : spanV d.view (w64 (o + j)) = true := by rw [w64_in (by omega)]; unfold spanV; rw [decide_eq_true (by omega : 0 ≤ o + j), decide_eq_true (by show o + j ≤ d.z; omega)]; rfl
              rw [if_pos hsp2]
              simp only
              rw [w64_in (by omega)]
              clear hsp2
              go_enter Try.func19, Try.ntmps19
              go_wp2_with fail
              refine (HT.out _ (by repeat (first | with_reducible exact Keeps.refl _ _ | with_reducible refine Keeps.alloc ?_ _ | with_reducible refine Keeps.drewN ?_ _ | with_reducible refine Keeps.drew ?_ | with_reducible refine Keeps.setCell ?_ (.inr (by simp)) _ | with_reducible refine Keeps.setRow ?_ (by simp) _))).mono ?_
              rintro e w1 ⟨rfl, k1, rfl⟩
              have hg1 := (Keeps.refl No ((w.alloc (.cells #[.int .i64 2, .int .i64 n, .int .i64 (i : Int), .int .i64 o] 42)).alloc (.cells #[.int .i64 0, .int .i64 0, .int .i64 0, .int .i64 0] 42))).drewN k1
              obtain ⟨⟨a1, a2, a3, a4⟩, _, HK1, fz⟩ := HP.out _ hg1
              have HR := Lib.hid (row_of2 hg1)
              obtain ⟨e0, _, _, _⟩ := HC.out _ HK1.out
              have e1 := HC0.out _ HK1.out
              clear hg1
              generalize (((w.alloc (.cells #[.int .i64 2, .int .i64 n, .int .i64 (i : Int), .int .i64 o] 42)).alloc (.cells #[.int .i64 0, .int .i64 0, .int .i64 0, .int .i64 0] 42))).drewN k1 = w1 at *
              go_wp2_with fail
              try go_quiet (fail)
              try go_wp2_with fail
              try go_quiet (fail)
              try go_wp2_with fail
              have HR2 := fun q => (show (w1.drewN q).heap[w.heap.size + 1]? = some (.cells #[.int .i64 0, .int .i64 0, .int .i64 0, .int .i64 0] 42 (0, 0)) from HR.out)
              rw [set4 (HR2 _)]
              have hrc := fun q => row_cell (w1.drewN q) _ #[.int .i64 2, .int .i64 0, .int .i64 i, .int .i64 (o + j)] (HR2 q)
              refine bodyPost_ret (v := .tuple #[.agg #[.int .i64 2, .int .i64 0, .int .i64 i, .int .i64 (o + j)], .bool true]) ?_ ?_ ⟨rfl, (by repeat (first | with_reducible exact HK1.out | with_reducible refine Keeps.alloc ?_ _ | with_reducible refine Keeps.drewN ?_ _ | with_reducible refine Keeps.drew ?_ | with_reducible refine Keeps.setCell ?_ (.inr (by simp)) _ | with_reducible refine Keeps.setRow ?_ (by simp) _))⟩
              · simp [results, Try.results19, go_sem, hrc]
              · rfl
        · rw [hsp, decide_eq_true h0, decide_eq_false hz] at hat
          rw [moveV_none (hat.trans (if_neg (by simp)))]
          clear hat hsp
          go_enter Try.func19, Try.ntmps19
          go_wp2_with fail
          refine (HT.out _ (by repeat (first | with_reducible exact Keeps.refl _ _ | with_reducible refine Keeps.alloc ?_ _ | with_reducible refine Keeps.drewN ?_ _ | with_reducible refine Keeps.drew ?_ | with_reducible refine Keeps.setCell ?_ (.inr (by simp)) _ | with_reducible refine Keeps.setRow ?_ (by simp) _))).mono ?_
          rintro e w1 ⟨rfl, k1, rfl⟩
          have hg1 := (Keeps.refl No ((w.alloc (.cells #[.int .i64 2, .int .i64 n, .int .i64 (i : Int), .int .i64 o] 42)).alloc (.cells #[.int .i64 0, .int .i64 0, .int .i64 0, .int .i64 0] 42))).drewN k1
          obtain ⟨⟨a1, a2, a3, a4⟩, _, HK1, fz⟩ := HP.out _ hg1
          have HR := Lib.hid (row_of2 hg1)
          obtain ⟨e0, _, _, _⟩ := HC.out _ HK1.out
          have e1 := HC0.out _ HK1.out
          clear hg1
          generalize (((w.alloc (.cells #[.int .i64 2, .int .i64 n, .int .i64 (i : Int), .int .i64 o] 42)).alloc (.cells #[.int .i64 0, .int .i64 0, .int .i64 0, .int .i64 0] 42))).drewN k1 = w1 at *
          go_wp2_with fail
          try go_quiet (fail)
          try go_wp2_with fail
          try go_quiet (fail)
          try go_wp2_with fail
          have HR2 := fun q => (show (w1.drewN q).heap[w.heap.size + 1]? = some (.cells #[.int .i64 0, .int .i64 0, .int .i64 0, .int .i64 0] 42 (0, 0)) from HR.out)
          rw [set4 (HR2 _)]
          have hrc := fun q => row_cell (w1.drewN q) _ #[.int .i64 0, .int .i64 0, .int .i64 0, .int .i64 0] (HR2 q)
          refine bodyPost_ret (v := .tuple #[.agg #[.int .i64 0, .int .i64 0, .int .i64 0, .int .i64 0], .bool false]) ?_ ?_ ⟨rfl, (by repeat (first | with_reducible exact HK1.out | with_reducible refine Keeps.alloc ?_ _ | with_reducible refine Keeps.drewN ?_ _ | with_reducible refine Keeps.drew ?_ | with_reducible refine Keeps.setCell ?_ (.inr (by simp)) _ | with_reducible refine Keeps.setRow ?_ (by simp) _))⟩
          · simp [results, Try.results19, go_sem, hrc]
          · rfl
      · rw [hsp, decide_eq_false h0] at hat
        rw [moveV_none (hat.trans (if_neg (by simp)))]
        clear hat hsp
        go_enter Try.func19, Try.ntmps19
        go_wp2_with fail
        refine (HT.out _ (by repeat (first | with_reducible exact Keeps.refl _ _ | with_reducible refine Keeps.alloc ?_ _ | with_reducible refine Keeps.drewN ?_ _ | with_reducible refine Keeps.drew ?_ | with_reducible refine Keeps.setCell ?_ (.inr (by simp)) _ | with_reducible refine Keeps.setRow ?_ (by simp) _))).mono ?_
        rintro e w1 ⟨rfl, k1, rfl⟩
        have hg1 := (Keeps.refl No ((w.alloc (.cells #[.int .i64 2, .int .i64 n, .int .i64 (i : Int), .int .i64 o] 42)).alloc (.cells #[.int .i64 0, .int .i64 0, .int .i64 0, .int .i64 0] 42))).drewN k1
        obtain ⟨⟨a1, a2, a3, a4⟩, _, HK1, fz⟩ := HP.out _ hg1
        have HR := Lib.hid (row_of2 hg1)
        obtain ⟨e0, _, _, _⟩ := HC.out _ HK1.out
        have e1 := HC0.out _ HK1.out
        clear hg1
        generalize (((w.alloc (.cells #[.int .i64 2, .int .i64 n, .int .i64 (i : Int), .int .i64 o] 42)).alloc (.cells #[.int .i64 0, .int .i64 0, .int .i64 0, .int .i64 0] 42))).drewN k1 = w1 at *
        go_wp2_with fail
        try go_quiet (fail)
        try go_wp2_with fail
        try go_quiet (fail)
        try go_wp2_with fail
        have HR2 := fun q => (show (w1.drewN q).heap[w.heap.size + 1]? = some (.cells #[.int .i64 0, .int .i64 0, .int .i64 0, .int .i64 0] 42 (0, 0)) from HR.out)
        rw [set4 (HR2 _)]
        have hrc := fun q => row_cell (w1.drewN q) _ #[.int .i64 0, .int .i64 0, .int .i64 0, .int .i64 0] (HR2 q)
        refine bodyPost_ret (v := .tuple #[.agg #[.int .i64 0, .int .i64 0, .int .i64 0, .int .i64 0], .bool false]) ?_ ?_ ⟨rfl, (by repeat (first | with_reducible exact HK1.out | with_reducible refine Keeps.alloc ?_ _ | with_reducible refine Keeps.drewN ?_ _ | with_reducible refine Keeps.drew ?_ | with_reducible refine Keeps.setCell ?_ (.inr (by simp)) _ | with_reducible refine Keeps.setRow ?_ (by simp) _))⟩
        · simp [results, Try.results19, go_sem, hrc]
        · rfl
  · rw [moveV_none (show atV R.view ⟨k, n, b, o⟩ = none by unfold atV; rw [if_neg hk])]
    have hk1 : (k == 2) = false := beq_eq_false_iff_ne.2 hk
    have hk2 : (k != 2) = true := bne_iff_ne.2 hk
    clear h
    go_enter Try.func19, Try.ntmps19
    go_wp2_with fail
    try go_quiet (fail)
    try go_wp2_with fail
    go_returns
    exact ⟨rfl, (by repeat (first | with_reducible exact Keeps.refl _ _ | with_reducible refine Keeps.alloc ?_ _ | with_reducible refine Keeps.drewN ?_ _ | with_reducible refine Keeps.drew ?_ | with_reducible refine Keeps.setCell ?_ (.inr (by simp)) _ | with_reducible refine Keeps.setRow ?_ (by simp) _))⟩
end Go.Proofs.Ytjchfldlmabblaa
