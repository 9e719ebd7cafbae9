/- The law LiveTells: its walk. -/
import Derived.Test.YtpjilcfmcbapcaaDoorLtSameW
import Derived.Test.YtpjilcfmcbapcaaDoorLvAwake
namespace Go.Proofs.YtpjilcfmcbapcaaDoor
open Go.RowKit
set_option linter.unusedVariables false
set_option linter.unusedSimpArgs false

theorem same_all (f : Fx) (w : World) (hok : FxOk w f) (hg : GrFx f) (ht : LaidT w) :
    Calls Tryd.prog 7 #[fv f] w fun e w' => e = .returned (.bool true) ∧ Keeps No w w' := by
  cases hm : f.may with
  | true => exact same_yes f w hok hm hg ht
  | false => exact same_no f w hok hm hg
set_option maxRecDepth 100000 in
set_option maxHeartbeats 3200000 in
theorem tells_law (f : Fx) (w : World) (hok : FxOk w f) (ht : LaidT w) : Calls Tryd.prog 3 #[fv f] w fun e w' => e = .returned (.bool true) ∧ Keeps No w w' := by
  have HGR := Lib.hid (fun (W : World) (hk : Keeps No w W) => great_fn f W (hok.no hk))
  have HSA := Lib.hid (fun (W : World) (hk : Keeps No w W) (hg : GrFx f) => same_all f W (hok.no hk) hg (ht.keep hk (fun e => e)))
  have HAW := Lib.hid (fun (W : World) (hk : Keeps No w W) => awake_any W (ht.keep hk (fun e => e)))
  have HBOX := Lib.hid (fun t => fx_boxed f w t)
  unfold fv at HGR HSA ⊢
  clear hok ht
  go_enter Tryd.func3, Tryd.ntmps3
  go_upto_region 1 with fail
  obtain ⟨w1, hw1⟩ : ∃ W, w.alloc (.cells #[.string f.name, .int .i64 f.params, .int .i64 f.regs, f.slots.v, .slice f.ba f.bn f.bc, .bool f.value] 25) = W := ⟨_, rfl⟩
  obtain ⟨BX, hBX⟩ : ∃ q, w.heap.size = q := ⟨_, rfl⟩
  have HX : Hid (f.at_ w1 BX 0) := Lib.hid (by rw [← hw1, ← hBX]; exact HBOX.out _)
  have HK1 : Hid (Keeps No w w1) := Lib.hid (by rw [← hw1]; exact (Keeps.refl _ _).alloc _)
  rw [hw1, hBX]
  clear hw1 hBX HBOX
  have HC : Hid (∀ W, Keeps No w1 W → W.cell? ⟨BX, 0, none⟩ = some (.string f.name) ∧ W.cell? ⟨BX, 1, none⟩ = some (.int .i64 f.params) ∧ W.cell? ⟨BX, 2, none⟩ = some (.int .i64 f.regs) ∧ W.cell? ⟨BX, 3, none⟩ = some f.slots.v ∧ W.cell? ⟨BX, 4, none⟩ = some (.slice f.ba f.bn f.bc) ∧ W.cell? ⟨BX, 5, none⟩ = some (.bool f.value)) := Lib.hid (fun W hk =>
    ⟨hk.cell0 (HX.out 0 _ rfl), hk.cell0 (HX.out 1 _ rfl), hk.cell0 (HX.out 2 _ rfl), hk.cell0 (HX.out 3 _ rfl), hk.cell0 (HX.out 4 _ rfl), hk.cell0 (HX.out 5 _ rfl)⟩)
  clear HX
  obtain ⟨c0, c1, c2, c3, c4, c5⟩ := HC.out w1 (Keeps.refl _ _)
  go_wp2_with fail
  refine (HGR.out _ HK1.out).mono ?_
  rintro e w2 ⟨g, rfl, hgf, hk2⟩
  have HGF := Lib.hid hgf
  have HK2 : Hid (Keeps No w1 w2) := Lib.hid hk2
  clear c0 c1 c2 c3 c4 c5 hk2 hgf
  cases g with
  | true =>
    go_wp2_with fail
    refine (HAW.out w2 (HK1.out.trans HK2.out (fun _ _ e => e))).mono ?_
    rintro e w3 ⟨rfl, hk3⟩
    have HK3 : Hid (Keeps No w1 w3) := Lib.hid (HK2.out.trans hk3 (fun _ _ e => e))
    clear hk3
    go_wp2_with fail
    go_returns
    exact ⟨rfl, HK1.out.trans HK3.out (fun _ _ e => e)⟩
  | false =>
    obtain ⟨c0, c1, c2, c3, c4, c5⟩ := HC.out w2 HK2.out
    go_wp2_with fail
    refine (HSA.out w2 (HK1.out.trans HK2.out (fun _ _ e => e)) (HGF.out (by first | trivial | rfl))).mono ?_
    rintro e w3 ⟨rfl, hk3⟩
    have HK3 : Hid (Keeps No w1 w3) := Lib.hid (HK2.out.trans hk3 (fun _ _ e => e))
    clear hk3 c0 c1 c2 c3 c4 c5
    go_wp2_with fail
    refine (HAW.out w3 (HK1.out.trans HK3.out (fun _ _ e => e))).mono ?_
    rintro e w4 ⟨rfl, hk4⟩
    have HK4 : Hid (Keeps No w1 w4) := Lib.hid (HK3.out.trans hk4 (fun _ _ e => e))
    clear hk4
    go_wp2_with fail
    go_returns
    exact ⟨rfl, HK1.out.trans HK4.out (fun _ _ e => e)⟩
end Go.Proofs.YtpjilcfmcbapcaaDoor
