/- Functions that are more than is gone through. -/
import Derived.Test.YtpjilcfmcbapcaaDoorLvSame
namespace Go.Proofs.YtpjilcfmcbapcaaDoor
open Go.RowKit
set_option linter.unusedVariables false
set_option linter.unusedSimpArgs false

def GrIx (x : Ix) : Prop := x.args.n ≤ 9 ∧ x.to.n ≤ 12 ∧ x.cases_.n ≤ 12
def GrBx (b : Bx) : Prop := b.n ≤ 30 ∧ ∀ x ∈ b.l, GrIx x
structure GrFx (f : Fx) : Prop where
  regs : 0 ≤ f.regs ∧ f.regs ≤ 60
  bn : f.bn ≤ 12
  bl : ∀ b ∈ f.bl, GrBx b
def GreatF (f : Fx) (w : World) (e : Ending) (w' : World) : Prop := ∃ g : Bool, e = .returned (.bool g) ∧ (g = false → GrFx f) ∧ Keeps No w w'
set_option maxRecDepth 100000 in
set_option maxHeartbeats 6400000 in
theorem great_fn (f : Fx) (w : World) (hf : FxOk w f) : Calls Tryd.prog 5 #[fv f] w (GreatF f w) := by
  have HF := Lib.hid hf
  obtain ⟨fn, fp, fr, ⟨sa, sn, sc, sl⟩, ba, bn, bc, bl, fl⟩ := f
  have hsc := hf.slots.cap
  have hbc := hf.cap
  have hsl := hf.slots.len
  simp only at hsc hbc hsl
  unfold maxLen at hsc hbc
  unfold fv Sl.v
  simp only
  clear hf
  have HT : Hid (∀ W, Keeps No w W → GreatF ⟨fn, fp, fr, ⟨sa, sn, sc, sl⟩, ba, bn, bc, bl, fl⟩ w (.returned (.bool true)) W) := Lib.hid (fun W hk => ⟨true, rfl, (fun h => nomatch h), hk⟩)
  obtain ⟨B0, hB0⟩ : ∃ q, w.heap.size = q := ⟨_, rfl⟩
  have HB0 := Lib.hid hB0
  have hk1 : Keeps No w (w.alloc (.cells #[.string fn, .int .i64 fp, .int .i64 fr, .slice sa sn sc, .slice ba bn bc, .bool fl] 25)) := (Keeps.refl _ _).alloc _
  have HK1 := Lib.hid hk1
  clear hk1 hB0
  by_cases h1 : (fr : Int) > 60
  · go_enter Tryd.func5, Tryd.ntmps5
    go_wp2_with fail
    go_returns
    exact HT.out _ HK1.out
  by_cases h2 : fr < 0
  · go_enter Tryd.func5, Tryd.ntmps5
    go_wp2_with fail
    go_returns
    exact HT.out _ HK1.out
  by_cases h3 : (sn : Int) > 6
  · go_enter Tryd.func5, Tryd.ntmps5
    go_wp2_with fail
    go_returns
    exact HT.out _ HK1.out
  by_cases h4 : (bn : Int) > 12
  · go_enter Tryd.func5, Tryd.ntmps5
    go_wp2_with fail
    go_returns
    exact HT.out _ HK1.out
  go_enter Tryd.func5, Tryd.ntmps5
  go_wp2_with fail
  obtain ⟨w1, hw1⟩ : ∃ W, w.alloc (.cells #[.string fn, .int .i64 fp, .int .i64 fr, .slice sa sn sc, .slice ba bn bc, .bool fl] 25) = W := ⟨_, rfl⟩
  have hr : w1.heap[B0]? = some (.cells #[.string fn, .int .i64 fp, .int .i64 fr, .slice sa sn sc, .slice ba bn bc, .bool fl] 25 (0, 0)) := by rw [← hw1, ← HB0.out]; exact heap_alloc_new _ _
  have HKW : Hid (Keeps No w w1) := Lib.hid (by rw [← hw1]; exact HK1.out)
  rw [hw1]
  simp only [HB0.out]
  have c3 : w1.cell? ⟨B0, 3, none⟩ = some (.slice sa sn sc) := by rw [cell_of_row w1 B0 3 _ _ _ hr]; rfl
  have c4 : w1.cell? ⟨B0, 4, none⟩ = some (.slice ba bn bc) := by rw [cell_of_row w1 B0 4 _ _ _ hr]; rfl
  have HCC := Lib.hid (And.intro c3 c4)
  have HRG : Hid (0 ≤ fr ∧ fr ≤ 60) := Lib.hid (by omega)
  clear hw1 hr HK1 h1 h2 c4
  go_loopg [3] sn (fun gg v wr => ∃ i : Nat, v = .int .i64 (i : Int) ∧ i ≤ sn ∧ gg = sn - i ∧ w1 = wr)
  case atStart => exact ⟨0, rfl, Nat.zero_le _, rfl, rfl⟩
  case round =>
    obtain ⟨i, rfl, hi, hg, rfl⟩ := hrel
    by_cases hlt : i < sn
    · have hlt' : (i : Int) < (sn : Int) := by omega
      have ip0 : (0 : Int) ≤ (i : Int) := by omega
      obtain ⟨b, off, rfl, hc⟩ := HF.out.slots.at_ (show 0 < sn by omega)
      obtain ⟨z, hz⟩ : ∃ z, sl[i]? = some z := ⟨_, List.getElem?_eq_getElem (by omega)⟩
      have x0 := HKW.out.cell0 (hc i z hz)
      clear hc hz
      by_cases hz3 : z > 300
      · go_wp2_with fail
        go_returns
        exact HT.out _ HKW.out
      · go_wp2_with fail
        go_roundg (sn - (i + 1))
        case rel => exact ⟨i + 1, by go_num, by omega, rfl, rfl⟩
        case measure => omega
    · obtain rfl : i = sn := by omega
      have hlt' : ¬ (i : Int) < (i : Int) := by omega
      have c4 := HCC.out.2
      go_wp2_with fail
      clear hlt' hg c3
      go_loopg [4] bn (fun gg v wr => ∃ k : Nat, v = .int .i64 (k : Int) ∧ k ≤ bn ∧ gg = bn - k ∧ w1 = wr ∧ Hid (∀ j x, j < k → bl[j]? = some x → GrBx x))
      case atStart => exact ⟨0, rfl, Nat.zero_le _, rfl, rfl, Lib.hid (fun j x h => by omega)⟩
      case round =>
        obtain ⟨k, rfl, hk, hg, rfl, HSB⟩ := hrel
        by_cases hkl : k < bn
        · have hkl' : (k : Int) < (bn : Int) := by omega
          have kp0 : (0 : Int) ≤ (k : Int) := by omega
          obtain ⟨yb, yo, x, hx, hxa, hxt, hxo⟩ := Fx.get HF.out (i := k) hkl
          simp only at hxa hx
          subst hxa
          obtain ⟨xa, xn, xc, xl⟩ := x
          have HX := Lib.hid hx
          have HXO := Lib.hid hxo
          have hxc := hxo.cap
          have hxl := hxo.len
          simp only at hxc hxl
          unfold maxLen at hxc
          unfold Bx.v at hxt
          have x0 := HKW.out.cell0 hxt
          clear hxt hx hxo
          by_cases h30 : (xn : Int) > 30
          · go_wp2_with fail
            go_returns
            exact HT.out _ HKW.out
          · go_wp2_with fail
            go_loopg [6] xn (fun gz v wr => ∃ m : Nat, v = .int .i64 (m : Int) ∧ m ≤ xn ∧ gz = xn - m ∧ w1 = wr ∧ Hid (∀ j y, j < m → xl[j]? = some y → GrIx y))
            case atStart => exact ⟨0, rfl, Nat.zero_le _, rfl, rfl, Lib.hid (fun j x h => by omega)⟩
            case round =>
              obtain ⟨m, rfl, hm, hgz, rfl, HSI⟩ := hrel
              by_cases hml : m < xn
              · have hml' : (m : Int) < (xn : Int) := by omega
                have mp0 : (0 : Int) ≤ (m : Int) := by omega
                obtain ⟨zb, zo, y, hy, hya, hyt, hyo⟩ := Bx.get HXO.out (i := m) hml
                simp only at hya hy
                subst hya
                obtain ⟨op, sub, d, a, bb, n, wb, ws, ⟨a1, n1, k1, l1⟩, ⟨a2, n2, k2, l2⟩, ⟨a3, n3, k3, l3⟩⟩ := y
                have y7 := HKW.out.cell0 (hyt 8 _ rfl)
                have y8 := HKW.out.cell0 (hyt 9 _ rfl)
                have y9 := HKW.out.cell0 (hyt 10 _ rfl)
                simp only [Sl.v] at y7 y8 y9
                have HY := Lib.hid hy
                have q1 := hyo.args.cap
                have q2 := hyo.to.cap
                have q3 := hyo.cases_.cap
                simp only at q1 q2 q3
                unfold maxLen at q1 q2 q3
                clear hyt hyo hy
                by_cases g1 : (n1 : Int) > 9
                · go_wp2_with fail
                  go_returns
                  exact HT.out _ HKW.out
                by_cases g2 : (n2 : Int) > 12
                · go_wp2_with fail
                  go_returns
                  exact HT.out _ HKW.out
                by_cases g3 : (n3 : Int) > 12
                · go_wp2_with fail
                  go_returns
                  exact HT.out _ HKW.out
                go_wp2_with fail
                go_roundg (xn - (m + 1))
                case rel => exact ⟨m + 1, by go_num, by omega, rfl, rfl, Lib.hid (fun j y h hj => by
                  by_cases e : j = m
                  · subst e
                    obtain rfl := Option.some.inj (HY.out.symm.trans hj)
                    exact ⟨by simp only; omega, by simp only; omega, by simp only; omega⟩
                  · exact HSI.out j y (by omega) hj)⟩
                case measure => omega
              · obtain rfl : m = xn := by omega
                have hml' : ¬ (m : Int) < (m : Int) := by omega
                go_wp2_with fail
                go_roundg (bn - (k + 1))
                case rel => exact ⟨k + 1, by go_num, by omega, rfl, rfl, Lib.hid (fun j x h hj => by
                  by_cases e : j = k
                  · subst e
                    obtain rfl := Option.some.inj (HX.out.symm.trans hj)
                    refine ⟨by simp only; omega, fun y hy => ?_⟩
                    obtain ⟨q, hq⟩ := List.getElem?_of_mem hy
                    exact HSI.out q y (by have h9 := (List.getElem?_eq_some_iff.1 hq).1; simp only at h9; omega) hq
                  · exact HSB.out j x (by omega) hj)⟩
                case measure => omega
        · obtain rfl : k = bn := by omega
          have hkl' : ¬ (k : Int) < (k : Int) := by omega
          go_wp2_with fail
          go_returns
          exact ⟨false, rfl, fun _ => ⟨HRG.out, by simp only; omega, fun x hx => by
            obtain ⟨q, hq⟩ := List.getElem?_of_mem hx
            have h8 := HF.out.len
            exact HSB.out q x (by have h9 := (List.getElem?_eq_some_iff.1 hq).1; simp only at h8 h9; omega) hq⟩, HKW.out⟩
end Go.Proofs.YtpjilcfmcbapcaaDoor
