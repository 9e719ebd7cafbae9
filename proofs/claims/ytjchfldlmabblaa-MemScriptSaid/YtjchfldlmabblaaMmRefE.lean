/- The document's memory: end. -/
import Derived.Test.YtjchfldlmabblaaMmRefD
namespace Go.Proofs.Ytjchfldlmabblaa
open Go.RowKit Go.Maps
set_option linter.unusedVariables false
set_option linter.unusedSimpArgs false

theorem rnone_as (p : Vl) (X : Bool) (hX : noneV p = X) (w W : World) (hk : Keeps No w W) :
    Calls Try.prog 40 #[va p] W fun e w' => e = .returned (.bool X) ∧ Keeps No W w' := by
  rw [← hX]; exact rnone_any p W
theorem rthere_k (B : Nat) (R : Rd) (b : Int) (X : Bool) (hX : (R.at b).isSome = X) (w W : World) (h : RefAs B w R) (hk : Keeps No w W) :
    Calls Try.prog 26 #[.pointer (some ⟨R.r, 0, none⟩), .int .i64 b] W fun e w' => e = .returned (.bool X) ∧ Keeps No W w' :=
  (rthere_as B R b X hX w W h hk).mono fun e w' ⟨h1, k, h2⟩ => ⟨h1, by rw [h2]; exact (Keeps.refl _ _).drewN k⟩
abbrev r1 (w : World) (p : Vl) : World := w.alloc (.cells #[.int .i64 p.k, .int .i64 p.n, .int .i64 p.b, .int .i64 p.o] 42)
theorem r1_k (w : World) (p : Vl) {W : World} (h : Keeps No (r1 w p) W) : Keeps No w W := ((Keeps.refl _ _).alloc _).trans h (fun _ _ e => e)
set_option maxRecDepth 100000 in
set_option maxHeartbeats 3200000 in
theorem rend_any (B : Nat) (R : Rd) (x : Vl) (w : World) (h : RefAs B w R) :
    Calls Try.prog 41 #[.pointer (some ⟨R.r, 0, none⟩), va x] w fun e w' => e = .returned (.bool (!sureV R.view x)) ∧ Keeps No w w' := by
  obtain ⟨N, hN⟩ : ∃ N, noneV x = N := ⟨_, rfl⟩
  have HN := Lib.hid (fun W hk => rnone_as x N hN w W hk)
  have HP := Lib.hid (fun W => @one_prm 42 w x W)
  have HC0 := Lib.hid (fun W (hk : Keeps No w W) => (h.no hk).c0)
  cases hA : R.at x.b with
  | none =>
    rw [show sureV R.view x = N by unfold sureV Rd.view; rw [hN, hA]; simp]
    have HT := Lib.hid (fun W hk => rthere_k B R x.b false (by rw [hA]; rfl) w W h hk)
    clear h hN hA
    obtain ⟨pk, pn, pb, po⟩ := x
    simp only at HT
    cases N <;> (
    go_enter Try.func41, Try.ntmps41
    go_wp2_with fail
    have a0 : ∀ u : KW (r1 w ⟨pk, pn, pb, po⟩), u.W.cell? ⟨w.heap.size, 0, none⟩ = some (.int .i64 pk) := fun u => (HP.out u.W u.h).1
    have a1 : ∀ u : KW (r1 w ⟨pk, pn, pb, po⟩), u.W.cell? ⟨w.heap.size, 1, none⟩ = some (.int .i64 pn) := fun u => (HP.out u.W u.h).2.1
    have a2 : ∀ u : KW (r1 w ⟨pk, pn, pb, po⟩), u.W.cell? ⟨w.heap.size, 2, none⟩ = some (.int .i64 pb) := fun u => (HP.out u.W u.h).2.2.1
    have a4 : ∀ u : KW (r1 w ⟨pk, pn, pb, po⟩), u.W.cell? ⟨w.heap.size, 3, none⟩ = some (.int .i64 po) := fun u => (HP.out u.W u.h).2.2.2.1
    have c0 : ∀ u : KW (r1 w ⟨pk, pn, pb, po⟩), u.W.cell? ⟨R.r, 0, none⟩ = some R.sl := fun u => HC0.out u.W (r1_k _ _ u.h)
    have hne : Nonempty (KW (r1 w ⟨pk, pn, pb, po⟩)) := ⟨KW.of _⟩
    refine wp_region_class (C := fun W => ∃ u : KW (r1 w ⟨pk, pn, pb, po⟩), W = u.W) (by kernel_rfl) (by kernel_rfl) ⟨⟨World.drew _, (by repeat (first | with_reducible exact Keeps.refl _ _ | with_reducible refine Keeps.alloc ?_ _ | with_reducible refine Keeps.drewN ?_ _ | with_reducible refine Keeps.drew ?_ | with_reducible refine Keeps.setCell ?_ (.inr (by simp)) _ | with_reducible refine Keeps.setRow ?_ (by simp) _))⟩, rfl⟩ ?_
    repeat (go_big_quiet_step (first | (go_at_call 40; with_reducible refine kw_call _ (HN.out _ (r1_k _ _ (KW.h _)))) | (go_at_call 26; with_reducible refine kw_call _ (HT.out _ (r1_k _ _ (KW.h _))))))
    refine wpQuiet_nil ?_
    rintro _ ⟨T, rfl⟩
    have HK1 := Lib.hid (r1_k _ _ T.h)
    go_wp2_with fail
    go_returns
    exact ⟨rfl, HK1.out⟩)
  | some d =>
    obtain ⟨i, hi, hi1, hi2, hd, hon⟩ := at_pos hA
    rw [show sureV R.view x = (N || decide (x.o ≠ d.z)) by unfold sureV Rd.view; rw [hN, hA]; rfl]
    have HC := Lib.hid (fun W (hk : Keeps No w W) => (h.no hk).c hd)
    have HT := Lib.hid (fun W hk => rthere_k B R x.b true (by rw [hA]; rfl) w W h hk)
    clear h hN hA hd hon
    obtain ⟨pk, pn, pb, po⟩ := x
    simp only at HT hi
    subst hi
    have hi' : (i : Int) < (R.bs.length : Int) := by omega
    have i0 : (0 : Int) ≤ (i : Int) := by omega
    cases N with
    | true =>
      go_enter Try.func41, Try.ntmps41
      go_wp2_with fail
      have a0 : ∀ u : KW (r1 w ⟨pk, pn, (i : Int), po⟩), u.W.cell? ⟨w.heap.size, 0, none⟩ = some (.int .i64 pk) := fun u => (HP.out u.W u.h).1
      have a1 : ∀ u : KW (r1 w ⟨pk, pn, (i : Int), po⟩), u.W.cell? ⟨w.heap.size, 1, none⟩ = some (.int .i64 pn) := fun u => (HP.out u.W u.h).2.1
      have a2 : ∀ u : KW (r1 w ⟨pk, pn, (i : Int), po⟩), u.W.cell? ⟨w.heap.size, 2, none⟩ = some (.int .i64 (i : Int)) := fun u => (HP.out u.W u.h).2.2.1
      have a4 : ∀ u : KW (r1 w ⟨pk, pn, (i : Int), po⟩), u.W.cell? ⟨w.heap.size, 3, none⟩ = some (.int .i64 po) := fun u => (HP.out u.W u.h).2.2.2.1
      have c0 : ∀ u : KW (r1 w ⟨pk, pn, (i : Int), po⟩), u.W.cell? ⟨R.r, 0, none⟩ = some R.sl := fun u => HC0.out u.W (r1_k _ _ u.h)
      have e0 : ∀ u : KW (r1 w ⟨pk, pn, (i : Int), po⟩), u.W.cell? ⟨R.g, i * 4, none⟩ = some (.int .i64 d.z) := fun u => (HC.out u.W (r1_k _ _ u.h)).1
      have hne : Nonempty (KW (r1 w ⟨pk, pn, (i : Int), po⟩)) := ⟨KW.of _⟩
      refine wp_region_class (C := fun W => ∃ u : KW (r1 w ⟨pk, pn, (i : Int), po⟩), W = u.W) (by kernel_rfl) (by kernel_rfl) ⟨⟨World.drew _, (by repeat (first | with_reducible exact Keeps.refl _ _ | with_reducible refine Keeps.alloc ?_ _ | with_reducible refine Keeps.drewN ?_ _ | with_reducible refine Keeps.drew ?_ | with_reducible refine Keeps.setCell ?_ (.inr (by simp)) _ | with_reducible refine Keeps.setRow ?_ (by simp) _))⟩, rfl⟩ ?_
      repeat (go_big_quiet_step (first | (go_at_call 40; with_reducible refine kw_call _ (HN.out _ (r1_k _ _ (KW.h _)))) | (go_at_call 26; with_reducible refine kw_call _ (HT.out _ (r1_k _ _ (KW.h _))))))
      refine wpQuiet_nil ?_
      rintro _ ⟨T, rfl⟩
      have HK1 := Lib.hid (r1_k _ _ T.h)
      go_wp2_with fail
      go_returns
      exact ⟨rfl, HK1.out⟩
    | false =>
      by_cases hz : po = d.z
      · rw [show decide (po ≠ d.z) = false from decide_eq_false (fun e => e hz)]
        subst hz
        go_enter Try.func41, Try.ntmps41
        go_wp2_with fail
        have a0 : ∀ u : KW (r1 w ⟨pk, pn, (i : Int), d.z⟩), u.W.cell? ⟨w.heap.size, 0, none⟩ = some (.int .i64 pk) := fun u => (HP.out u.W u.h).1
        have a1 : ∀ u : KW (r1 w ⟨pk, pn, (i : Int), d.z⟩), u.W.cell? ⟨w.heap.size, 1, none⟩ = some (.int .i64 pn) := fun u => (HP.out u.W u.h).2.1
        have a2 : ∀ u : KW (r1 w ⟨pk, pn, (i : Int), d.z⟩), u.W.cell? ⟨w.heap.size, 2, none⟩ = some (.int .i64 (i : Int)) := fun u => (HP.out u.W u.h).2.2.1
        have a4 : ∀ u : KW (r1 w ⟨pk, pn, (i : Int), d.z⟩), u.W.cell? ⟨w.heap.size, 3, none⟩ = some (.int .i64 d.z) := fun u => (HP.out u.W u.h).2.2.2.1
        have c0 : ∀ u : KW (r1 w ⟨pk, pn, (i : Int), d.z⟩), u.W.cell? ⟨R.r, 0, none⟩ = some R.sl := fun u => HC0.out u.W (r1_k _ _ u.h)
        have e0 : ∀ u : KW (r1 w ⟨pk, pn, (i : Int), d.z⟩), u.W.cell? ⟨R.g, i * 4, none⟩ = some (.int .i64 d.z) := fun u => (HC.out u.W (r1_k _ _ u.h)).1
        have hne : Nonempty (KW (r1 w ⟨pk, pn, (i : Int), d.z⟩)) := ⟨KW.of _⟩
        refine wp_region_class (C := fun W => ∃ u : KW (r1 w ⟨pk, pn, (i : Int), d.z⟩), W = u.W) (by kernel_rfl) (by kernel_rfl) ⟨⟨World.drew _, (by repeat (first | with_reducible exact Keeps.refl _ _ | with_reducible refine Keeps.alloc ?_ _ | with_reducible refine Keeps.drewN ?_ _ | with_reducible refine Keeps.drew ?_ | with_reducible refine Keeps.setCell ?_ (.inr (by simp)) _ | with_reducible refine Keeps.setRow ?_ (by simp) _))⟩, rfl⟩ ?_
        repeat (go_big_quiet_step (first | (go_at_call 40; with_reducible refine kw_call _ (HN.out _ (r1_k _ _ (KW.h _)))) | (go_at_call 26; with_reducible refine kw_call _ (HT.out _ (r1_k _ _ (KW.h _))))))
        refine wpQuiet_nil ?_
        rintro _ ⟨T, rfl⟩
        have HK1 := Lib.hid (r1_k _ _ T.h)
        go_wp2_with fail
        go_returns
        exact ⟨rfl, HK1.out⟩
      · have hz1 : (po == d.z) = false := beq_eq_false_iff_ne.2 hz
        rw [show decide (po ≠ d.z) = true from decide_eq_true hz]
        go_enter Try.func41, Try.ntmps41
        go_wp2_with fail
        have a0 : ∀ u : KW (r1 w ⟨pk, pn, (i : Int), po⟩), u.W.cell? ⟨w.heap.size, 0, none⟩ = some (.int .i64 pk) := fun u => (HP.out u.W u.h).1
        have a1 : ∀ u : KW (r1 w ⟨pk, pn, (i : Int), po⟩), u.W.cell? ⟨w.heap.size, 1, none⟩ = some (.int .i64 pn) := fun u => (HP.out u.W u.h).2.1
        have a2 : ∀ u : KW (r1 w ⟨pk, pn, (i : Int), po⟩), u.W.cell? ⟨w.heap.size, 2, none⟩ = some (.int .i64 (i : Int)) := fun u => (HP.out u.W u.h).2.2.1
        have a4 : ∀ u : KW (r1 w ⟨pk, pn, (i : Int), po⟩), u.W.cell? ⟨w.heap.size, 3, none⟩ = some (.int .i64 po) := fun u => (HP.out u.W u.h).2.2.2.1
        have c0 : ∀ u : KW (r1 w ⟨pk, pn, (i : Int), po⟩), u.W.cell? ⟨R.r, 0, none⟩ = some R.sl := fun u => HC0.out u.W (r1_k _ _ u.h)
        have e0 : ∀ u : KW (r1 w ⟨pk, pn, (i : Int), po⟩), u.W.cell? ⟨R.g, i * 4, none⟩ = some (.int .i64 d.z) := fun u => (HC.out u.W (r1_k _ _ u.h)).1
        have hne : Nonempty (KW (r1 w ⟨pk, pn, (i : Int), po⟩)) := ⟨KW.of _⟩
        refine wp_region_class (C := fun W => ∃ u : KW (r1 w ⟨pk, pn, (i : Int), po⟩), W = u.W) (by kernel_rfl) (by kernel_rfl) ⟨⟨World.drew _, (by repeat (first | with_reducible exact Keeps.refl _ _ | with_reducible refine Keeps.alloc ?_ _ | with_reducible refine Keeps.drewN ?_ _ | with_reducible refine Keeps.drew ?_ | with_reducible refine Keeps.setCell ?_ (.inr (by simp)) _ | with_reducible refine Keeps.setRow ?_ (by simp) _))⟩, rfl⟩ ?_
        repeat (go_big_quiet_step (first | (go_at_call 40; with_reducible refine kw_call _ (HN.out _ (r1_k _ _ (KW.h _)))) | (go_at_call 26; with_reducible refine kw_call _ (HT.out _ (r1_k _ _ (KW.h _))))))
        refine wpQuiet_nil ?_
        rintro _ ⟨T, rfl⟩
        have HK1 := Lib.hid (r1_k _ _ T.h)
        go_wp2_with fail
        go_returns
        exact ⟨rfl, HK1.out⟩
end Go.Proofs.Ytjchfldlmabblaa
