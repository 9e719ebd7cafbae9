/- cell, Read. -/
import Derived.Test.YtjchfldlmabblaaMmStoreB
import Derived.Deep.RegionHeld3
import Derived.Deep.DeepCutAuto
import Derived.Deep.RegionWith
namespace Go.Proofs.Ytjchfldlmabblaa
open Go.RowKit Go.Maps
set_option linter.unusedVariables false

theorem new_a {B W w9 : World} {o : Obj} (hb : Keeps No B W) (hk : Keeps No W w9) : (w9.alloc o).heap[w9.heap.size]? = some o ∧ B.heap.size ≤ w9.heap.size ∧ Keeps No B (w9.alloc o) :=
  ⟨heap_alloc_new _ _, (hb.tr hk).size, (hb.tr hk).alloc _⟩
theorem new_b {B W w9 : World} {g : Nat} {a b c d x y z u : Value} {t : TypeId} (hr : w9.heap[g]? = some (.cells #[x, y, z, u] t (0, 0))) (hg : B.heap.size ≤ g) (hb : Keeps No B W) (hk : Keeps No W w9) :
    ((((w9.setCell ⟨g, 0, none⟩ a).setCell ⟨g, 1, none⟩ b).setCell ⟨g, 2, none⟩ c).setCell ⟨g, 3, none⟩ d).heap[g]? = some (.cells #[a, b, c, d] t (0, 0)) ∧ B.heap.size ≤ g ∧ Keeps No B ((((w9.setCell ⟨g, 0, none⟩ a).setCell ⟨g, 1, none⟩ b).setCell ⟨g, 2, none⟩ c).setCell ⟨g, 3, none⟩ d) := by
  rw [set4 hr]
  exact ⟨setRow_heap _ _ _ _ _ _ hr, hg, (hb.tr hk).setRow hg _⟩
def Sd.cellK (S : Sd) (p : Vl) : Option Nat := if p.k = 2 then (kget S.bs p.b).map (fun d => d.kb) else none
theorem four_cells {w : World} {g : Nat} {a b c d : Value} {t : TypeId} (h : w.heap[g]? = some (.cells #[a, b, c, d] t (0, 0))) : w.cell? ⟨g, 0, none⟩ = some a ∧ w.cell? ⟨g, 1, none⟩ = some b ∧ w.cell? ⟨g, 2, none⟩ = some c ∧ w.cell? ⟨g, 3, none⟩ = some d ∧ (∀ o, w.frozen? ⟨g, o, none⟩ = false) := by
  refine ⟨?_, ?_, ?_, ?_, fun o => ?_⟩ <;> simp [World.cell?, World.frozen?, h]
set_option maxRecDepth 100000 in
set_option maxHeartbeats 1600000 in
theorem cell_any (S : Sd) (p : Vl) (t : ByteArray) (w : World) (h : StoreAs w S) (hp : vlOk p) (ht : t.size ≤ maxLen) :
    Calls Try.prog 44 #[.pointer (some ⟨S.s, 0, none⟩), va p, .string t] w fun e w' => e = .returned (.tuple #[ptrV (S.cellK p), va v0, .bool (cellV S.view p t).isSome]) ∧ Keeps No w w' := by
  have HP := Lib.hid (fun W => @two_params w p v0 W)
  have c0 := h.c0
  have f := h.f
  have hs := h.lt (.inl rfl)
  have hs' : S.s ≠ w.heap.size := by omega
  have hl := fun (W : World) (hk : Keeps No w W) => (h.no hk).look hp.2.2.1
  have hl1 : ∀ o1 o2 n, _ := fun (o1 : Obj) (o2 : Obj) (n : Nat) => hl (((w.alloc o1).alloc o2).drewN n) ((((Keeps.refl No w).alloc o1).alloc o2).drewN n)
  cases hg : kget S.bs p.b with
  | none =>
    have hK : S.cellK p = none := by unfold Sd.cellK; rw [hg]; split <;> rfl
    have hV : cellV S.view p t = none := by unfold cellV; rw [view_none hg]; split <;> rfl
    rw [hK, hV]
    simp only [hg, Option.map_none, ptrV] at hl1
    clear h hK hV hg hp hl
    obtain ⟨pk, pn, pb, po⟩ := p
    simp only at hl1
    by_cases hk : pk = 2
    · subst hk
      go_enter Try.func44, Try.ntmps44
      go_wp2_with fail
      go_quiet (fail)
      go_wp2_with fail
      go_returns
      exact ⟨rfl, (by repeat (first | with_reducible exact Keeps.refl _ _ | with_reducible refine Keeps.alloc ?_ _ | with_reducible refine Keeps.drewN ?_ _ | with_reducible refine Keeps.drew ?_ | with_reducible refine Keeps.setCell ?_ (.inr (by simp)) _ | with_reducible refine Keeps.setRow ?_ (by simp) _))⟩
    · go_enter Try.func44, Try.ntmps44
      go_wp2_with fail
      go_quiet (fail)
      go_wp2_with fail
      go_returns
      exact ⟨rfl, (by repeat (first | with_reducible exact Keeps.refl _ _ | with_reducible refine Keeps.alloc ?_ _ | with_reducible refine Keeps.drewN ?_ _ | with_reducible refine Keeps.drew ?_ | with_reducible refine Keeps.setCell ?_ (.inr (by simp)) _ | with_reducible refine Keeps.setRow ?_ (by simp) _))⟩
  | some d =>
    simp only [hg, Option.map_some, ptrV] at hl1
    by_cases hk : p.k = 2
    · have hK : S.cellK p = some d.kb := by unfold Sd.cellK; rw [if_pos hk, hg]; rfl
      obtain ⟨X, hX⟩ : ∃ X, (kget d.cl (p.o, t)).isSome = X := ⟨_, rfl⟩
      have hV : (cellV S.view p t).isSome = X := by unfold cellV; rw [if_pos hk, view_some hg]; have hX' : d.view.cell (p.o, t) = X := hX; cases X <;> simp [Option.filter, hX']
      rw [hK, hV]
      have HD := Lib.hid (fun W hk => (h.b p.b d hg).1.no (w' := W) hk)
      have hok : ckOk (p.o, t) := ⟨hp.2.2.2, ht⟩
      have HC := Lib.hid (fun (W : World) (hk : Keeps No w W) => by have e := lcell_any d.lm d.cl p.o t W ((h.b p.b d hg).1.no hk).l hok; rw [hX] at e; exact e)
      clear h hK hV hg hp hl hok
      obtain ⟨pk, pn, pb, po⟩ := p
      simp only at hl1 hk HC
      subst hk
      go_enter Try.func44, Try.ntmps44
      go_wp2_with fail
      go_quiet (fail)
      obtain ⟨d0, d1, _⟩ := (HD.out w (Keeps.refl _ _)).c
      have hkb := (HD.out w (Keeps.refl _ _)).lt (.inl rfl)
      have hkb1 : d.kb ≠ w.heap.size := by omega
      have hkb2 : d.kb ≠ w.heap.size + 1 := by omega
      have hkb3 : d.kb < w.heap.size + 1 := by omega
      have hkb4 : d.kb < w.heap.size + 1 + 1 := by omega
      have hkb5 : d.kb ≠ w.heap.size + 1 + 1 := by omega
      go_upto_region 4 with fail
      go_cut [10, 11] (fun v10 v11 wx => ∃ g : Nat, v10 = .pointer (some ⟨g, 0, none⟩) ∧ v11 = .bool X ∧ wx.heap[g]? = some (.cells #[.int .i64 0, .int .i64 0, .int .i64 0, .int .i64 0] 80 (0, 0)) ∧ (p2 w ⟨2, pn, pb, po⟩ ⟨0, 0, 0, 0⟩).heap.size ≤ g ∧ Keeps No (p2 w ⟨2, pn, pb, po⟩ ⟨0, 0, 0, 0⟩) wx)
      case first =>
        go_region_with (first | (refine (HC.out _ (by repeat (first | with_reducible exact Keeps.refl _ _ | with_reducible refine Keeps.alloc ?_ _ | with_reducible refine Keeps.drewN ?_ _ | with_reducible refine Keeps.drew ?_ | with_reducible refine Keeps.setCell ?_ (.inr (by simp)) _ | with_reducible refine Keeps.setRow ?_ (by simp) _))).mono ?_; rintro e w9 ⟨rfl, hk9⟩; try (have hr9 : w9.heap[w.heap.size + 1 + 1]? = some (.cells #[.int .i64 0, .int .i64 0, .int .i64 0, .int .i64 0] 80 (0, 0)) := by simpa using row_of hk9); try (obtain ⟨z0, z1, z2, z3, z4⟩ := four_cells hr9)) | fail)
        all_goals (go_wp2_with fail; go_meet)
        all_goals refine ⟨_, rfl, rfl, ?_⟩
        all_goals first
          | with_reducible exact new_a (by repeat (first | with_reducible exact Keeps.refl _ _ | with_reducible refine Keeps.alloc ?_ _ | with_reducible refine Keeps.drewN ?_ _ | with_reducible refine Keeps.drew ?_ | with_reducible refine Keeps.setCell ?_ (.inr (by simp)) _ | with_reducible refine Keeps.setRow ?_ (by simp) _)) hk9
          | with_reducible exact new_b hr9 (by simp) (by repeat (first | with_reducible exact Keeps.refl _ _ | with_reducible refine Keeps.alloc ?_ _ | with_reducible refine Keeps.drewN ?_ _ | with_reducible refine Keeps.drew ?_ | with_reducible refine Keeps.setCell ?_ (.inr (by simp)) _ | with_reducible refine Keeps.setRow ?_ (by simp) _)) hk9
      case rest =>
        obtain ⟨g, rfl, rfl, hr, hg, hk2⟩ := hcut
        obtain ⟨z0, z1, z2, z3, z4⟩ := four_cells hr
        have hg2 : g ≠ w.heap.size + 1 := by simp at hg; omega
        have HK2 := Lib.hid hk2
        have HR := Lib.hid (row_of2 hk2)
        obtain ⟨y0, y1, y2, y3, y4⟩ := four_cells (row_of2 hk2)
        clear hr hg hk2
        go_upto_region 5 with fail
        go_region_with (fail)
        all_goals go_wp2_with fail
        rw [set4 HR.out]
        have hrc := row_cell wc _ #[.int .i64 0, .int .i64 0, .int .i64 0, .int .i64 0] HR.out
        refine bodyPost_ret (v := .tuple #[.pointer (some ⟨d.kb, 0, none⟩), .agg #[.int .i64 0, .int .i64 0, .int .i64 0, .int .i64 0], .bool X]) ?_ ?_ ⟨rfl, (by repeat (first | with_reducible exact p2_k _ _ _ HK2.out | with_reducible refine Keeps.alloc ?_ _ | with_reducible refine Keeps.drewN ?_ _ | with_reducible refine Keeps.drew ?_ | with_reducible refine Keeps.setCell ?_ (.inr (by simp)) _ | with_reducible refine Keeps.setRow ?_ (by simp) _))⟩
        · simp [results, Try.results44, go_sem, hrc]
        · rfl
    · have hK : S.cellK p = none := by unfold Sd.cellK; rw [if_neg hk]
      have hV : cellV S.view p t = none := by unfold cellV; rw [if_neg hk]
      rw [hK, hV]
      clear h hK hV hg hp hl
      obtain ⟨pk, pn, pb, po⟩ := p
      simp only at hl1 hk
      go_enter Try.func44, Try.ntmps44
      go_wp2_with fail
      go_quiet (fail)
      go_wp2_with fail
      go_returns
      exact ⟨rfl, (by repeat (first | with_reducible exact Keeps.refl _ _ | with_reducible refine Keeps.alloc ?_ _ | with_reducible refine Keeps.drewN ?_ _ | with_reducible refine Keeps.drew ?_ | with_reducible refine Keeps.setCell ?_ (.inr (by simp)) _ | with_reducible refine Keeps.setRow ?_ (by simp) _))⟩
theorem cell_as (S : Sd) (p : Vl) (t : ByteArray) (w W : World) (h : StoreAs w S) (hk : Keeps No w W) (hp : vlOk p) (ht : t.size ≤ maxLen) (K : Option Nat) (X : Bool) (hK : S.cellK p = K) (hX : (cellV S.view p t).isSome = X) :
    Calls Try.prog 44 #[.pointer (some ⟨S.s, 0, none⟩), va p, .string t] W fun e w' => e = .returned (.tuple #[ptrV K, va v0, .bool X]) ∧ Keeps No W w' := by
  rw [← hK, ← hX]; exact cell_any S p t W (h.no hk) hp ht
theorem cell_not {V : View} {p : Vl} {t : ByteArray} (h : (cellV V p t).isSome = false) : cellV V p t = none := by
  cases e : cellV V p t with
  | none => rfl
  | some d => rw [e] at h; cases h
/-- The cell is there. -/
theorem cell_yes {S : Sd} {p : Vl} {t : ByteArray} (h : (cellV S.view p t).isSome = true) : ∃ d, p.k = 2 ∧ kget S.bs p.b = some d ∧ S.cellK p = some d.kb ∧ cellV S.view p t = some d.view ∧ (kget d.cl (p.o, t)).isSome = true := by
  unfold cellV at h ⊢
  unfold Sd.cellK
  split at h
  · next hk =>
    rw [if_pos hk, if_pos hk]
    cases hg : kget S.bs p.b with
    | none => rw [view_none hg] at h; cases h
    | some d =>
      rw [view_some hg] at h ⊢
      cases hc : (kget d.cl (p.o, t)).isSome with
      | false =>
        have hc' : d.view.cell (p.o, t) = false := hc
        simp [Option.filter, hc'] at h
      | true =>
        have hc' : d.view.cell (p.o, t) = true := hc
        exact ⟨d, hk, rfl, rfl, by simp [Option.filter, hc'], hc⟩
  · cases h
end Go.Proofs.Ytjchfldlmabblaa
