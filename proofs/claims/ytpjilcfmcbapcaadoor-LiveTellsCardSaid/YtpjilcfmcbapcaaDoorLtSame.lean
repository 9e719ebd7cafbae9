/- l13.same. -/
import Derived.Test.YtpjilcfmcbapcaaDoorLtDead
import Derived.Test.YtpjilcfmcbapcaaDoorLtMu
import Derived.Test.YtpjilcfmcbapcaaDoorLtAfter
namespace Go.Proofs.YtpjilcfmcbapcaaDoor
open Go.RowKit
set_option linter.unusedVariables false
set_option linter.unusedSimpArgs false

theorem mu_congr {f g : Nat → Nat} : ∀ n, (∀ i, i < n → f i = g i) → mu f n = mu g n
  | 0, _ => rfl
  | n + 1, h => by unfold mu; rw [mu_congr n (fun i hi => h i (by omega)), h n (by omega)]
theorem dr_eq {w : World} {f : Fx} {O O' : Nat → Nat} (hok : FxOk w f) (h : Least (bls f) O) (g : Least (bls f) O') : mu (dr f O) f.bn = mu (dr f O') f.bn := mu_congr _ (fun i hi => by
  unfold dr
  rw [h.uniq g (b := i) (by rw [bls_len, hok.len]; exact hi)])
theorem listB_ok {n R : Nat} {X : Nat → Nat} (hR : R ≤ 1000000) : ∀ l ∈ (List.range n).map (fun b => listB (X b) R), l.length ≤ 1000000 ∧ ∀ z ∈ l, I64 z := fun l hl => by
  rw [List.mem_map] at hl
  obtain ⟨b, _, rfl⟩ := hl
  exact ⟨Nat.le_trans (listB_len _ _) hR, listB_bd hR⟩
/-- Rows of lists, as a slice whose parts are named. -/
theorem LL.form {B : Nat} {w : World} {v : Value} {n R : Nat} {X : Nat → Nat} (hR : R ≤ 1000000) (h : LL B w v ((List.range n).map (fun b => listB (X b) R))) :
    ∃ a c S, v = .slice a n c ∧ n ≤ c ∧ c ≤ maxLen ∧ LsAt w a n c S ∧ S.map Sl.l = (List.range n).map (fun b => listB (X b) R) := by
  obtain ⟨a, m, c, S, e, h1, h2⟩ := h.at_ (listB_ok hR)
  have hm : m = n := by
    have h3 := congrArg List.length h2
    rw [List.length_map, List.length_map, List.length_range, h1.len] at h3
    exact h3
  subst hm
  exact ⟨a, c, S, e, h1.cap.1, h1.cap.2, h1, h2⟩
theorem own_slat {w : World} {B n : Nat} {a : Option Addr} {c : Nat} {l : List Int} (h : w.ownsRow B 3 1 (.slice a n c) n (irow l)) (hn : l.length = n) (hb : ∀ z ∈ l, I64 z) : SlAt w ⟨a, n, c, l⟩ := by
  subst hn
  obtain ⟨⟨sa, sn, sc, sl⟩, h1, h2, h3, h4⟩ := own_sl h hb
  simp only at h2 h3
  unfold Sl.v at h1
  injection h1 with e1 e2 e3
  simp only at e1 e2 e3
  subst e1; subst e2; subst e3; subst h2
  exact h4
set_option maxRecDepth 100000 in
set_option maxHeartbeats 6400000 in
theorem same_no (f : Fx) (w : World) (hok : FxOk w f) (hm : f.may = false) (hg : GrFx f) :
    Calls Tryd.prog 7 #[fv f] w fun e w' => e = .returned (.bool true) ∧ Keeps No w w' := by
  have HMA := Lib.hid (fun (W : World) (hk : Keeps No w W) => rmay_any f W (hok.no hk) hg.small)
  rw [hm] at HMA
  have HIN := Lib.hid (fun (W : World) (hk : Keeps No w W) => in_no f W (hok.no hk) hm)
  have HOUT := Lib.hid (fun (W : World) (hk : Keeps No w W) => out_no f W (hok.no hk) hm)
  have HBE := Lib.hid (fun (W : World) (hk : Keeps No w W) => behind_form f W (hok.no hk) hm 0 0)
  have HDE := Lib.hid (fun (W : World) (hk : Keeps No w W) => dead_no f W (hok.no hk) hm)
  have HBOX := Lib.hid (fun t => fx_boxed f w t)
  unfold fv at HMA HIN HOUT HBE HDE ⊢
  clear hok hm hg
  go_enter Tryd.func7, Tryd.ntmps7
  go_upto_region 1 with fail
  obtain ⟨w1, hw1⟩ : ∃ W, w.alloc (.cells #[.string f.name, .int .i64 f.params, .int .i64 f.regs, f.slots.v, .slice f.ba f.bn f.bc, .bool f.value] 25) = W := ⟨_, rfl⟩
  obtain ⟨BX, hBX⟩ : ∃ q, w.heap.size = q := ⟨_, rfl⟩
  have HX : Hid (f.at_ w1 BX 0) := Lib.hid (by rw [← hw1, ← hBX]; exact HBOX.out _)
  have HK1 : Hid (Keeps No w w1) := Lib.hid (by rw [← hw1]; exact (Keeps.refl _ _).alloc _)
  rw [hw1, hBX]
  clear hw1 hBX HBOX
  have HC : Hid (∀ W, Keeps No w1 W → W.cell? ⟨BX, 0, none⟩ = some (.string f.name) ∧ W.cell? ⟨BX, 1, none⟩ = some (.int .i64 f.params) ∧ W.cell? ⟨BX, 2, none⟩ = some (.int .i64 f.regs) ∧ W.cell? ⟨BX, 3, none⟩ = some f.slots.v ∧ W.cell? ⟨BX, 4, none⟩ = some (.slice f.ba f.bn f.bc) ∧ W.cell? ⟨BX, 5, none⟩ = some (.bool f.value)) := Lib.hid (fun W hk =>
    ⟨hk.cell0 (HX.out 0 _ rfl), hk.cell0 (HX.out 1 _ rfl), hk.cell0 (HX.out 2 _ rfl), hk.cell0 (HX.out 3 _ rfl), hk.cell0 (HX.out 4 _ rfl), hk.cell0 (HX.out 5 _ rfl)⟩)
  clear HX
  have HKW : ∀ W, Keeps No w1 W → Keeps No w W := fun W hk => HK1.out.trans hk (fun _ _ e => e)
  have HKW := Lib.hid HKW
  have HKA : Hid (Keeps No w1 w1) := Lib.hid (Keeps.refl _ _)
  obtain ⟨c0, c1, c2, c3, c4, c5⟩ := HC.out _ HKA.out
  go_wp2_with fail
  refine (HMA.out _ (HKW.out _ HKA.out)).mono ?_
  rintro e w2 ⟨rfl, hk2⟩
  have HKB : Hid (Keeps No w1 w2) := Lib.hid (HKA.out.trans hk2 (fun _ _ e => e))
  clear c0 c1 c2 c3 c4 c5 hk2 HKA
  obtain ⟨c0, c1, c2, c3, c4, c5⟩ := HC.out _ HKB.out
  go_wp2_with fail
  refine (HIN.out _ (HKW.out _ HKB.out)).mono ?_
  rintro e w3 ⟨rfl, hk2⟩
  have HKA : Hid (Keeps No w1 w3) := Lib.hid (HKB.out.trans hk2 (fun _ _ e => e))
  clear c0 c1 c2 c3 c4 c5 hk2 HKB
  obtain ⟨c0, c1, c2, c3, c4, c5⟩ := HC.out _ HKA.out
  go_wp2_with fail
  refine (HOUT.out _ (HKW.out _ HKA.out)).mono ?_
  rintro e w4 ⟨rfl, hk2⟩
  have HKB : Hid (Keeps No w1 w4) := Lib.hid (HKA.out.trans hk2 (fun _ _ e => e))
  clear c0 c1 c2 c3 c4 c5 hk2 HKA
  obtain ⟨c0, c1, c2, c3, c4, c5⟩ := HC.out _ HKB.out
  go_wp2_with fail
  refine (HBE.out _ (HKW.out _ HKB.out)).mono ?_
  rintro e w5 ⟨rfl, hk2⟩
  have HKA : Hid (Keeps No w1 w5) := Lib.hid (HKB.out.trans hk2 (fun _ _ e => e))
  clear c0 c1 c2 c3 c4 c5 hk2 HKB
  obtain ⟨c0, c1, c2, c3, c4, c5⟩ := HC.out _ HKA.out
  go_wp2_with fail
  refine (HDE.out _ (HKW.out _ HKA.out)).mono ?_
  rintro e w6 ⟨rfl, hk2⟩
  have HKB : Hid (Keeps No w1 w6) := Lib.hid (HKA.out.trans hk2 (fun _ _ e => e))
  clear c0 c1 c2 c3 c4 c5 hk2 HKA
  go_wp2_with fail
  go_returns
  exact ⟨rfl, HKW.out _ HKB.out⟩
end Go.Proofs.YtpjilcfmcbapcaaDoor
