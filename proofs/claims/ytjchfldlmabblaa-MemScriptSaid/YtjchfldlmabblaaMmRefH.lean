/- The document's memory: Read. -/
import Derived.Test.YtjchfldlmabblaaMmRefG
import Derived.StillTailTactics
namespace Go.Proofs.Ytjchfldlmabblaa
open Go.RowKit Go.Maps
set_option linter.unusedVariables false
set_option linter.unusedSimpArgs false

theorem hasc_hit {c : List Ck} {x : Ck} {k : Nat} (h : c[k]? = some x) : hasc c x = true := by
  unfold hasc; rw [List.any_eq_true]; exact ⟨x, List.mem_of_getElem? h, by simp⟩
theorem hasc_miss {c : List Ck} {x : Ck} (h : ∀ k : Nat, c[k]? ≠ some x) : hasc c x = false := by
  unfold hasc; rw [List.any_eq_false]; intro y hy
  obtain ⟨k, hk⟩ := List.getElem?_of_mem hy
  simp; rintro rfl; exact h k hk
theorem getv_hit {c : List Ck} {v : List Vl} {x : Ck} {y : Vl} {k : Nat} (h : c.Pairwise (fun a b => a.1 < b.1)) (hk : c[k]? = some x) (hv : v[k]? = some y) : getv c v x = y := by
  induction c generalizing v k with
  | nil => cases hk
  | cons z c ih =>
    rw [List.pairwise_cons] at h
    cases v with
    | nil => cases hv
    | cons u v =>
      cases k with
      | zero => injection hk with hk; injection hv with hv; unfold getv; rw [if_pos hk, hv]
      | succ k =>
        have hk' : c[k]? = some x := hk
        have hz : z ≠ x := fun e => by have := h.1 x (List.mem_of_getElem? hk'); rw [e] at this; omega
        unfold getv
        rw [if_neg hz]; exact ih h.2 hk' hv
theorem getv_set {c : List Ck} {v : List Vl} {x : Ck} {y : Vl} {k : Nat} (h : c.Pairwise (fun a b => a.1 < b.1)) (hk : c[k]? = some x) (hl : v.length = c.length) (z : Ck) : getv c (v.set k y) z = if z = x then y else getv c v z := by
  induction c generalizing v k with
  | nil => cases hk
  | cons a c ih =>
    rw [List.pairwise_cons] at h
    cases v with
    | nil => simp at hl
    | cons u v =>
      cases k with
      | zero =>
        injection hk with hk
        subst hk
        show getv (a :: c) (y :: v) z = _
        unfold getv
        by_cases e : a = z
        · rw [if_pos e, if_pos e.symm]
        · rw [if_neg e, if_neg (fun q => e q.symm), if_neg e]
      | succ k =>
        have hk' : c[k]? = some x := hk
        have hz : a ≠ x := fun e => by have := h.1 x (List.mem_of_getElem? hk'); rw [e] at this; omega
        show getv (a :: c) (u :: v.set k y) z = _
        unfold getv
        by_cases e : a = z
        · rw [if_pos e, if_neg (fun q => hz (e.trans q)), if_pos e]
        · rw [if_neg e, if_neg e]; exact ih h.2 hk' (by simpa using hl)
/-- What Find says. -/
inductive Found (R : Rd) (p : Vl) (t : ByteArray) : Prop
  | no (h1 : R.pos p t = -1) (h2 : cellV R.view p t = none)
  | yes (i k : Nat) (d : Rb) (v : Vl) (h1 : p.k = 2) (h2 : p.b = (i : Int)) (h3 : R.bs[i]? = some d) (h4 : d.on = true) (h5 : 1 ≤ i) (h6 : d.c[k]? = some (p.o, t)) (h7 : d.v[k]? = some v) (h8 : R.pos p t = (k : Int)) (h9 : cellV R.view p t = some d.view) (h10 : d.view.val (p.o, t) = v)
theorem found {B : Nat} {w : World} {R : Rd} (h : RefAs B w R) (p : Vl) (t : ByteArray) : Found R p t := by
  by_cases hk : p.k = 2
  · cases hA : R.at p.b with
    | none =>
      refine .no ?_ ?_
      · unfold Rd.pos; rw [if_pos hk, hA]; rfl
      · unfold cellV Rd.view; rw [if_pos hk, hA]; rfl
    | some d =>
      obtain ⟨i, hi, hi1, hi2, hd, ho⟩ := at_pos hA
      have hb := h.b i d hd
      have hv : R.view p.b = some d.view := by unfold Rd.view; rw [hA]; rfl
      by_cases hx : ∃ k : Nat, d.c[k]? = some (p.o, t)
      · obtain ⟨k, hx⟩ := hx
        have hkl : k < d.v.length := by rw [hb.len]; exact (List.getElem?_eq_some_iff.1 hx).1
        refine .yes i k d _ hk hi hd ho hi1 hx (List.getElem?_eq_getElem hkl) ?_ ?_ ?_
        · unfold Rd.pos; rw [if_pos hk, hA]; exact posOf_hit hb.up hx
        · unfold cellV; rw [if_pos hk, hv, Option.filter_some, show d.view.cell (p.o, t) = true from hasc_hit hx]; rfl
        · exact getv_hit hb.up hx (List.getElem?_eq_getElem hkl)
      · have hx' : ∀ k : Nat, d.c[k]? ≠ some (p.o, t) := fun k e => hx ⟨k, e⟩
        refine .no ?_ ?_
        · unfold Rd.pos; rw [if_pos hk, hA]; exact posOf_miss hx'
        · unfold cellV; rw [if_pos hk, hv, Option.filter_some, if_neg (by rw [show d.view.cell (p.o, t) = false from hasc_miss hx']; simp)]
  · refine .no ?_ ?_
    · unfold Rd.pos; rw [if_neg hk]
    · unfold cellV; rw [if_neg hk]
theorem rfind_as (B : Nat) (R : Rd) (p : Vl) (t : ByteArray) (X : Int) (hX : R.pos p t = X) (w W : World) (h : RefAs B w R) (hk : Keeps No w W) :
    Calls Try.prog 34 #[.pointer (some ⟨R.r, 0, none⟩), va p, .string t] W fun e w' => e = .returned (.int .i64 X) ∧ Keeps No W w' := by
  rw [← hX]; exact rfind_any B R p t W (h.no hk)
theorem vrow_at {w : World} {B : Nat} {d : Rb} (h : RbAs B w d) {k : Nat} {x : Vl} (hk : d.v[k]? = some x) : ∃ a, d.vp = some ⟨a, 0, none⟩ ∧ (w.cell? ⟨a, k * 4, none⟩ = some (.int .i64 x.k) ∧ w.cell? ⟨a, k * 4 + 1, none⟩ = some (.int .i64 x.n) ∧ w.cell? ⟨a, k * 4 + 2, none⟩ = some (.int .i64 x.b) ∧ w.cell? ⟨a, k * 4 + 3, none⟩ = some (.int .i64 x.o)) ∧ (∀ o, w.frozen? ⟨a, o, none⟩ = false) := by
  have hl : k < d.v.length := (List.getElem?_eq_some_iff.1 hk).1
  obtain ⟨aa, ca, he, hg⟩ := own_form h.vo
  injection he with e1 e2 e3
  obtain ⟨g, hgg⟩ := hg (by omega)
  obtain ⟨r1, r2, r3, r4⟩ := vrow_get d.v k x hk
  have hco := h.vo
  rw [show d.vs = .slice (some ⟨g, 0, none⟩) d.v.length d.vc by show Value.slice d.vp _ _ = _; rw [e1, hgg]] at hco
  exact ⟨g, e1.trans hgg, ⟨(hco.cellAt (k * 4) (by omega)).trans r1, (hco.cellAt (k * 4 + 1) (by omega)).trans r2, (hco.cellAt (k * 4 + 2) (by omega)).trans r3, (hco.cellAt (k * 4 + 3) (by omega)).trans r4⟩, fun o => hco.frozenAt o⟩
set_option maxRecDepth 100000 in
set_option maxHeartbeats 3200000 in
theorem rread_any (B : Nat) (R : Rd) (x : Vl) (t : ByteArray) (w : World) (h : RefAs B w R) :
    Calls Try.prog 17 #[.pointer (some ⟨R.r, 0, none⟩), va x, .string t] w fun e w' => e = .returned (.tuple #[va (readV R.view x t).1, .bool (readV R.view x t).2]) ∧ Keeps No w w' := by
  have HP := Lib.hid (fun W => @two_prm 42 w x v0 W)
  cases found h x t with
  | no h1 h2 =>
    rw [show readV R.view x t = (v0, false) by unfold readV; rw [h2]]
    have HF := Lib.hid (fun W hk => rfind_as B R x t (-1) h1 w W h hk)
    clear h h1 h2
    obtain ⟨k, n, b, o⟩ := x
    go_enter Try.func17, Try.ntmps17
    go_wp2_with fail
    refine (HF.out _ (by repeat (first | with_reducible exact Keeps.refl _ _ | with_reducible refine Keeps.alloc ?_ _ | with_reducible refine Keeps.drewN ?_ _ | with_reducible refine Keeps.drew ?_ | with_reducible refine Keeps.setCell ?_ (.inr (by simp)) _ | with_reducible refine Keeps.setRow ?_ (by simp) _))).mono ?_
    rintro e w1 ⟨rfl, hg1⟩
    obtain ⟨⟨a1, a2, a3, a4⟩, _, HK1, fz⟩ := HP.out _ hg1
    have HR := Lib.hid (row_of2 hg1)
    clear hg1
    go_wp2_with fail
    go_quiet (fail)
    go_wp2_with fail
    have HR2 := fun q => (show (w1.drewN q).heap[w.heap.size + 1]? = some (.cells #[.int .i64 0, .int .i64 0, .int .i64 0, .int .i64 0] 42 (0, 0)) from HR.out)
    rw [set4 (HR2 _)]
    have hrc := fun q => row_cell (w1.drewN q) _ #[.int .i64 0, .int .i64 0, .int .i64 0, .int .i64 0] (HR2 q)
    refine bodyPost_ret (v := .tuple #[.agg #[.int .i64 0, .int .i64 0, .int .i64 0, .int .i64 0], .bool false]) ?_ ?_ ⟨rfl, (by repeat (first | with_reducible exact HK1.out | with_reducible refine Keeps.alloc ?_ _ | with_reducible refine Keeps.drewN ?_ _ | with_reducible refine Keeps.drew ?_ | with_reducible refine Keeps.setCell ?_ (.inr (by simp)) _ | with_reducible refine Keeps.setRow ?_ (by simp) _))⟩
    · simp [results, Try.results17, go_sem, hrc]
    · rfl
  | yes i k d v h1 h2 h3 h4 h5 h6 h7 h8 h9 h10 =>
    have hr : readV R.view x t = if v.k = 0 then (v0, false) else (v, true) := by unfold readV; rw [h9]; simp only [h10]
    rw [hr]
    have HF := Lib.hid (fun W hk => rfind_as B R x t (k : Int) h8 w W h hk)
    have HC0 := Lib.hid (fun W (hk : Keeps No w W) => (h.no hk).c0)
    have HC : Hid (∀ W, Keeps No w W → W.cell? ⟨R.g, i * 4 + 2, none⟩ = some (.slice d.vp d.v.length d.vc)) := Lib.hid (fun W hk => ((h.no hk).c h3).2.2.1)
    have HV := Lib.hid (fun W (hk : Keeps No w W) => vrow_at ((h.no hk).b i d h3) h7)
    have hkl : (k : Int) < (d.v.length : Int) := by have := (List.getElem?_eq_some_iff.1 h7).1; omega
    have k0 : (0 : Int) ≤ (k : Int) := by omega
    have hil : (i : Int) < (R.bs.length : Int) := by have := (List.getElem?_eq_some_iff.1 h3).1; omega
    have i0 : (0 : Int) ≤ (i : Int) := by omega
    clear h h4 h5 h6 h7 h8 h9 h10 hr h3
    obtain ⟨kk, n, b, o⟩ := x
    simp only at h1 h2
    subst h1 h2
    obtain ⟨vk, vn, vb, vo⟩ := v
    simp only at HV ⊢
    by_cases hz : vk = 0
    · have hz1 : (vk == 0) = true := beq_iff_eq.2 hz
      rw [if_pos hz]
      go_enter Try.func17, Try.ntmps17
      go_wp2_with fail
      refine (HF.out _ (by repeat (first | with_reducible exact Keeps.refl _ _ | with_reducible refine Keeps.alloc ?_ _ | with_reducible refine Keeps.drewN ?_ _ | with_reducible refine Keeps.drew ?_ | with_reducible refine Keeps.setCell ?_ (.inr (by simp)) _ | with_reducible refine Keeps.setRow ?_ (by simp) _))).mono ?_
      rintro e w1 ⟨rfl, hg1⟩
      obtain ⟨⟨a1, a2, a3, a4⟩, _, HK1, fz⟩ := HP.out _ hg1
      have c0 := HC0.out _ HK1.out
      have c1 := HC.out _ HK1.out
      obtain ⟨a, ha, ⟨e1, e2, e3, e4⟩, _⟩ := HV.out _ HK1.out
      rw [ha] at c1
      have HR := Lib.hid (row_of2 hg1)
      clear hg1
      go_wp2_with fail
      go_quiet (fail)
      go_wp2_with fail
      have HR2 := fun q => (show (w1.drewN q).heap[w.heap.size + 1]? = some (.cells #[.int .i64 0, .int .i64 0, .int .i64 0, .int .i64 0] 42 (0, 0)) from HR.out)
      rw [set4 (HR2 _)]
      have hrc := fun q => row_cell (w1.drewN q) _ #[.int .i64 0, .int .i64 0, .int .i64 0, .int .i64 0] (HR2 q)
      refine bodyPost_ret (v := .tuple #[.agg #[.int .i64 0, .int .i64 0, .int .i64 0, .int .i64 0], .bool false]) ?_ ?_ ⟨rfl, (by repeat (first | with_reducible exact HK1.out | with_reducible refine Keeps.alloc ?_ _ | with_reducible refine Keeps.drewN ?_ _ | with_reducible refine Keeps.drew ?_ | with_reducible refine Keeps.setCell ?_ (.inr (by simp)) _ | with_reducible refine Keeps.setRow ?_ (by simp) _))⟩
      · simp [results, Try.results17, go_sem, hrc]
      · rfl
    · have hz1 : (vk == 0) = false := beq_eq_false_iff_ne.2 hz
      rw [if_neg hz]
      go_enter Try.func17, Try.ntmps17
      go_wp2_with fail
      refine (HF.out _ (by repeat (first | with_reducible exact Keeps.refl _ _ | with_reducible refine Keeps.alloc ?_ _ | with_reducible refine Keeps.drewN ?_ _ | with_reducible refine Keeps.drew ?_ | with_reducible refine Keeps.setCell ?_ (.inr (by simp)) _ | with_reducible refine Keeps.setRow ?_ (by simp) _))).mono ?_
      rintro e w1 ⟨rfl, hg1⟩
      obtain ⟨⟨a1, a2, a3, a4⟩, _, HK1, fz⟩ := HP.out _ hg1
      have c0 := HC0.out _ HK1.out
      have c1 := HC.out _ HK1.out
      obtain ⟨a, ha, ⟨e1, e2, e3, e4⟩, _⟩ := HV.out _ HK1.out
      rw [ha] at c1
      have HG1 := Lib.hid hg1
      clear hg1
      go_wp2_with fail
      go_quiet (fail)
      go_wp2_with fail
      have hg3 := HG1.out.drewN nq
      clear a1 a2 a3 a4 fz c0 c1 e1 e2 e3 e4 HK1
      generalize w1.drewN nq = W3 at hg3 ⊢
      obtain ⟨⟨a1, a2, a3, a4⟩, _, HK3, fz⟩ := HP.out _ hg3
      have c0 := HC0.out _ HK3.out
      have c1 := HC.out _ HK3.out
      obtain ⟨a', ha', ⟨e1, e2, e3, e4⟩, _⟩ := HV.out _ HK3.out
      obtain rfl : a = a' := by rw [ha] at ha'; injection ha' with ha'; injection ha'
      rw [ha] at c1
      have HR := Lib.hid (row_of2 hg3)
      clear hg3
      go_still_tail 12, (by kernel_rfl)
      change wpList _ _ _ _ _ W3.drew
      go_wp2_with fail
      rw [set4 (w := W3) HR.out]
      have hrc := row_cell W3 _ #[.int .i64 vk, .int .i64 vn, .int .i64 vb, .int .i64 vo] HR.out
      refine bodyPost_ret (v := .tuple #[.agg #[.int .i64 vk, .int .i64 vn, .int .i64 vb, .int .i64 vo], .bool true]) ?_ ?_ ⟨rfl, (by repeat (first | with_reducible exact HK3.out | with_reducible refine Keeps.alloc ?_ _ | with_reducible refine Keeps.drewN ?_ _ | with_reducible refine Keeps.drew ?_ | with_reducible refine Keeps.setCell ?_ (.inr (by simp)) _ | with_reducible refine Keeps.setRow ?_ (by simp) _))⟩
      · simp [results, Try.results17, go_sem, hrc]
      · rfl
end Go.Proofs.Ytjchfldlmabblaa
