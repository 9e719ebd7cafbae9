/- Programs that are more than is gone through. -/
import Derived.Test.YtbfjmhfhhlncjaaDoorIrCopyG
import Derived.ArgAppend
import Derived.Test.YtbfjmhfhhlncjaaDoorIrSameR
namespace Go.Proofs.YtbfjmhfhhlncjaaDoor
open Go.RowKit
set_option linter.unusedVariables false
set_option linter.unusedSimpArgs false

def GreatF (f : Fx) (w : World) (e : Ending) (w' : World) : Prop := ∃ g : Bool, e = .returned (.bool g) ∧ (g = false → SmallFx f) ∧ Keeps No w w'
set_option maxRecDepth 100000 in
set_option maxHeartbeats 6400000 in
theorem great_fn (f : Fx) (w : World) (hf : FxOk w f) : Calls Tryd.prog 31 #[fv f] w (GreatF f w) := by
  have HF := Lib.hid hf
  obtain ⟨fn, fp, fr, ⟨sa, sn, sc, sl⟩, ba, bn, bc, bl, fl⟩ := f
  have hsc := hf.slots.cap
  have hbc := hf.cap
  have hsl := hf.slots.len
  simp only at hsc hbc hsl
  unfold maxLen at hsc hbc
  unfold fv Sl.v
  simp only
  clear hf
  have HT : Hid (∀ W, Keeps No w W → GreatF ⟨fn, fp, fr, ⟨sa, sn, sc, sl⟩, ba, bn, bc, bl, fl⟩ w (.returned (.bool true)) W) := Lib.hid (fun W hk => ⟨true, rfl, (fun h => nomatch h), hk⟩)
  obtain ⟨B0, hB0⟩ : ∃ q, w.heap.size = q := ⟨_, rfl⟩
  have HB0 := Lib.hid hB0
  have hk1 : Keeps No w (w.alloc (.cells #[.string fn, .int .i64 fp, .int .i64 fr, .slice sa sn sc, .slice ba bn bc, .bool fl] 42)) := (Keeps.refl _ _).alloc _
  have HK1 := Lib.hid hk1
  clear hk1 hB0
  by_cases h1 : (fr : Int) > 60
  · go_enter Tryd.func31, Tryd.ntmps31
    go_wp2_with fail
    go_returns
    exact HT.out _ HK1.out
  by_cases h2 : fr < 0
  · go_enter Tryd.func31, Tryd.ntmps31
    go_wp2_with fail
    go_returns
    exact HT.out _ HK1.out
  by_cases h3 : (sn : Int) > 6
  · go_enter Tryd.func31, Tryd.ntmps31
    go_wp2_with fail
    go_returns
    exact HT.out _ HK1.out
  by_cases h4 : (bn : Int) > 12
  · go_enter Tryd.func31, Tryd.ntmps31
    go_wp2_with fail
    go_returns
    exact HT.out _ HK1.out
  go_enter Tryd.func31, Tryd.ntmps31
  go_wp2_with fail
  obtain ⟨w1, hw1⟩ : ∃ W, w.alloc (.cells #[.string fn, .int .i64 fp, .int .i64 fr, .slice sa sn sc, .slice ba bn bc, .bool fl] 42) = W := ⟨_, rfl⟩
  have hr : w1.heap[B0]? = some (.cells #[.string fn, .int .i64 fp, .int .i64 fr, .slice sa sn sc, .slice ba bn bc, .bool fl] 42 (0, 0)) := by rw [← hw1, ← HB0.out]; exact heap_alloc_new _ _
  have HKW : Hid (Keeps No w w1) := Lib.hid (by rw [← hw1]; exact HK1.out)
  rw [hw1]
  simp only [HB0.out]
  have c3 : w1.cell? ⟨B0, 3, none⟩ = some (.slice sa sn sc) := by rw [cell_of_row w1 B0 3 _ _ _ hr]; rfl
  have c4 : w1.cell? ⟨B0, 4, none⟩ = some (.slice ba bn bc) := by rw [cell_of_row w1 B0 4 _ _ _ hr]; rfl
  have HCC := Lib.hid (And.intro c3 c4)
  clear hw1 hr HK1 h1 h2 c4
  go_loopg [3] sn (fun gg v wr => ∃ i : Nat, v = .int .i64 (i : Int) ∧ i ≤ sn ∧ gg = sn - i ∧ w1 = wr)
  case atStart => exact ⟨0, rfl, Nat.zero_le _, rfl, rfl⟩
  case round =>
    obtain ⟨i, rfl, hi, hg, rfl⟩ := hrel
    by_cases hlt : i < sn
    · have hlt' : (i : Int) < (sn : Int) := by omega
      have ip0 : (0 : Int) ≤ (i : Int) := by omega
      obtain ⟨b, off, rfl, hc⟩ := HF.out.slots.at_ (show 0 < sn by omega)
      obtain ⟨z, hz⟩ : ∃ z, sl[i]? = some z := ⟨_, List.getElem?_eq_getElem (by omega)⟩
      have x0 := HKW.out.cell0 (hc i z hz)
      clear hc hz
      by_cases hz3 : z > 300
      · go_wp2_with fail
        go_returns
        exact HT.out _ HKW.out
      · go_wp2_with fail
        go_roundg (sn - (i + 1))
        case rel => exact ⟨i + 1, by go_num, by omega, rfl, rfl⟩
        case measure => omega
    · obtain rfl : i = sn := by omega
      have hlt' : ¬ (i : Int) < (i : Int) := by omega
      have c4 := HCC.out.2
      go_wp2_with fail
      clear hlt' hg c3
      go_loopg [4] bn (fun gg v wr => ∃ k : Nat, v = .int .i64 (k : Int) ∧ k ≤ bn ∧ gg = bn - k ∧ w1 = wr ∧ Hid (∀ j x, j < k → bl[j]? = some x → SmallBx x))
      case atStart => exact ⟨0, rfl, Nat.zero_le _, rfl, rfl, Lib.hid (fun j x h => by omega)⟩
      case round =>
        obtain ⟨k, rfl, hk, hg, rfl, HSB⟩ := hrel
        by_cases hkl : k < bn
        · have hkl' : (k : Int) < (bn : Int) := by omega
          have kp0 : (0 : Int) ≤ (k : Int) := by omega
          obtain ⟨yb, yo, x, hx, hxa, hxt, hxo⟩ := Fx.get HF.out (i := k) hkl
          simp only at hxa hx
          subst hxa
          obtain ⟨xa, xn, xc, xl⟩ := x
          have HX := Lib.hid hx
          have HXO := Lib.hid hxo
          have hxc := hxo.cap
          have hxl := hxo.len
          simp only at hxc hxl
          unfold maxLen at hxc
          unfold Bx.v at hxt
          have x0 := HKW.out.cell0 hxt
          clear hxt hx hxo
          by_cases h30 : (xn : Int) > 30
          · go_wp2_with fail
            go_returns
            exact HT.out _ HKW.out
          · go_wp2_with fail
            go_loopg [6] xn (fun gz v wr => ∃ m : Nat, v = .int .i64 (m : Int) ∧ m ≤ xn ∧ gz = xn - m ∧ w1 = wr ∧ Hid (∀ j y, j < m → xl[j]? = some y → SmallIx y))
            case atStart => exact ⟨0, rfl, Nat.zero_le _, rfl, rfl, Lib.hid (fun j x h => by omega)⟩
            case round =>
              obtain ⟨m, rfl, hm, hgz, rfl, HSI⟩ := hrel
              by_cases hml : m < xn
              · have hml' : (m : Int) < (xn : Int) := by omega
                have mp0 : (0 : Int) ≤ (m : Int) := by omega
                obtain ⟨zb, zo, y, hy, hya, hyt, hyo⟩ := Bx.get HXO.out (i := m) hml
                simp only at hya hy
                subst hya
                obtain ⟨op, sub, d, a, bb, n, wb, ws, ⟨a1, n1, k1, l1⟩, ⟨a2, n2, k2, l2⟩, ⟨a3, n3, k3, l3⟩⟩ := y
                have y7 := HKW.out.cell0 (hyt 8 _ rfl)
                have y8 := HKW.out.cell0 (hyt 9 _ rfl)
                have y9 := HKW.out.cell0 (hyt 10 _ rfl)
                simp only [Sl.v] at y7 y8 y9
                have HY := Lib.hid hy
                have q1 := hyo.args.cap
                have q2 := hyo.to.cap
                have q3 := hyo.cases_.cap
                simp only at q1 q2 q3
                unfold maxLen at q1 q2 q3
                clear hyt hyo hy
                by_cases g1 : (n1 : Int) > 9
                · go_wp2_with fail
                  go_returns
                  exact HT.out _ HKW.out
                by_cases g2 : (n2 : Int) > 12
                · go_wp2_with fail
                  go_returns
                  exact HT.out _ HKW.out
                by_cases g3 : (n3 : Int) > 12
                · go_wp2_with fail
                  go_returns
                  exact HT.out _ HKW.out
                go_wp2_with fail
                go_roundg (xn - (m + 1))
                case rel => exact ⟨m + 1, by go_num, by omega, rfl, rfl, Lib.hid (fun j y h hj => by
                  by_cases e : j = m
                  · subst e
                    obtain rfl := Option.some.inj (HY.out.symm.trans hj)
                    exact ⟨by simp only; omega, by simp only; omega, by simp only; omega⟩
                  · exact HSI.out j y (by omega) hj)⟩
                case measure => omega
              · obtain rfl : m = xn := by omega
                have hml' : ¬ (m : Int) < (m : Int) := by omega
                go_wp2_with fail
                go_roundg (bn - (k + 1))
                case rel => exact ⟨k + 1, by go_num, by omega, rfl, rfl, Lib.hid (fun j x h hj => by
                  by_cases e : j = k
                  · subst e
                    obtain rfl := Option.some.inj (HX.out.symm.trans hj)
                    refine ⟨by simp only; omega, fun y hy => ?_⟩
                    obtain ⟨q, hq⟩ := List.getElem?_of_mem hy
                    exact HSI.out q y (by have h9 := (List.getElem?_eq_some_iff.1 hq).1; simp only at h9; omega) hq
                  · exact HSB.out j x (by omega) hj)⟩
                case measure => omega
        · obtain rfl : k = bn := by omega
          have hkl' : ¬ (k : Int) < (k : Int) := by omega
          go_wp2_with fail
          go_returns
          exact ⟨false, rfl, fun _ => ⟨by simp only; omega, by simp only; omega, fun x hx => by
            obtain ⟨q, hq⟩ := List.getElem?_of_mem hx
            have h8 := HF.out.len
            exact HSB.out q x (by have h9 := (List.getElem?_eq_some_iff.1 hq).1; simp only at h8 h9; omega) hq⟩, HKW.out⟩
def SmallPg (p : Pg) : Prop := p.gn ≤ 100000 ∧ (∀ g ∈ p.gl, g.pn ≤ 1000000) ∧ p.fn ≤ 100000 ∧ (∀ f ∈ p.fl, SmallFx f)
def GreatP (p : Pg) (w : World) (e : Ending) (w' : World) : Prop := ∃ g : Bool, e = .returned (.bool g) ∧ (g = false → SmallPg p) ∧ Keeps No w w'
set_option maxRecDepth 100000 in
set_option maxHeartbeats 6400000 in
theorem great_prog (p : Pg) (w : World) (hp : PgOk w p) : Calls Tryd.prog 15 #[pv p] w (GreatP p w) := by
  have HP := Lib.hid hp
  obtain ⟨ga, gn, gc, gl, fa, fn, fc, fl, mn⟩ := p
  have hgc := hp.gcap
  have hfc := hp.fcap
  simp only at hgc hfc
  unfold maxLen at hgc hfc
  unfold pv
  simp only
  clear hp
  have HT : Hid (∀ W, Keeps No w W → GreatP ⟨ga, gn, gc, gl, fa, fn, fc, fl, mn⟩ w (.returned (.bool true)) W) := Lib.hid (fun W hk => ⟨true, rfl, (fun h => nomatch h), hk⟩)
  obtain ⟨B0, hB0⟩ : ∃ q, w.heap.size = q := ⟨_, rfl⟩
  have HB0 := Lib.hid hB0
  have hk1 : Keeps No w (w.alloc (.cells #[.slice ga gn gc, .slice fa fn fc, .int .i64 mn] 36)) := (Keeps.refl _ _).alloc _
  have HK1 := Lib.hid hk1
  clear hk1 hB0
  by_cases h3 : (fn : Int) > 8
  · go_enter Tryd.func15, Tryd.ntmps15
    go_wp2_with fail
    go_returns
    exact HT.out _ HK1.out
  by_cases h4 : (gn : Int) > 8
  · go_enter Tryd.func15, Tryd.ntmps15
    go_wp2_with fail
    go_returns
    exact HT.out _ HK1.out
  go_enter Tryd.func15, Tryd.ntmps15
  go_wp2_with fail
  obtain ⟨w1, hw1⟩ : ∃ W, w.alloc (.cells #[.slice ga gn gc, .slice fa fn fc, .int .i64 mn] 36) = W := ⟨_, rfl⟩
  have hr : w1.heap[B0]? = some (.cells #[.slice ga gn gc, .slice fa fn fc, .int .i64 mn] 36 (0, 0)) := by rw [← hw1, ← HB0.out]; exact heap_alloc_new _ _
  have HKW : Hid (Keeps No w w1) := Lib.hid (by rw [← hw1]; exact HK1.out)
  have HR := Lib.hid hr
  rw [hw1]
  simp only [HB0.out]
  have c0 : w1.cell? ⟨B0, 0, none⟩ = some (.slice ga gn gc) := by rw [cell_of_row w1 B0 0 _ _ _ hr]; rfl
  have c1 : w1.cell? ⟨B0, 1, none⟩ = some (.slice fa fn fc) := by rw [cell_of_row w1 B0 1 _ _ _ hr]; rfl
  have HCC := Lib.hid c1
  clear hw1 hr HK1 c1
  go_loopg [3] gn (fun gg v wr => ∃ i : Nat, v = .int .i64 (i : Int) ∧ i ≤ gn ∧ gg = gn - i ∧ w1 = wr ∧ Hid (∀ j g, j < i → gl[j]? = some g → g.pn ≤ 1000000))
  case atStart => exact ⟨0, rfl, Nat.zero_le _, rfl, rfl, Lib.hid (fun j x h => by omega)⟩
  case round =>
    obtain ⟨i, rfl, hi, hg, rfl, HSG⟩ := hrel
    by_cases hlt : i < gn
    · have hlt' : (i : Int) < (gn : Int) := by omega
      have ip0 : (0 : Int) ≤ (i : Int) := by omega
      obtain ⟨b, off, e, hc⟩ := HP.out.gat (show 0 < gn by omega)
      simp only at e hc
      subst e
      obtain ⟨z, hz⟩ : ∃ z, gl[i]? = some z := ⟨_, List.getElem?_eq_getElem (by have := HP.out.glen; simp only at this; omega)⟩
      have x1 := HKW.out.cell0 (hc i z hz 1 _ rfl)
      have x2 := HKW.out.cell0 (hc i z hz 2 _ rfl)
      have hzc := (HP.out.gok z (List.mem_of_getElem? hz)).cap
      unfold maxLen at hzc
      have HZ := Lib.hid hz
      clear hc hz
      by_cases hz3 : z.size > 300
      · go_wp2_with fail
        go_returns
        exact HT.out _ HKW.out
      by_cases hz4 : (z.pn : Int) > 10
      · go_wp2_with fail
        go_returns
        exact HT.out _ HKW.out
      go_wp2_with fail
      go_roundg (gn - (i + 1))
      case rel => exact ⟨i + 1, by go_num, by omega, rfl, rfl, Lib.hid (fun j y h hj => by
        by_cases e : j = i
        · subst e
          obtain rfl := Option.some.inj (HZ.out.symm.trans hj)
          omega
        · exact HSG.out j y (by omega) hj)⟩
      case measure => omega
    · obtain rfl : i = gn := by omega
      have hlt' : ¬ (i : Int) < (i : Int) := by omega
      have c1 := HCC.out
      go_wp2_with fail
      clear hlt' hg c0
      go_loopg [4] fn (fun gg v wr => ∃ k : Nat, v = .int .i64 (k : Int) ∧ k ≤ fn ∧ gg = fn - k ∧ wr.cell? ⟨B0, 1, none⟩ = some (.slice fa fn fc) ∧ Hid (Keeps No w1 wr) ∧ Hid (∀ j x, j < k → fl[j]? = some x → SmallFx x))
      case atStart => exact ⟨0, rfl, Nat.zero_le _, rfl, c1, Lib.hid (Keeps.refl _ _), Lib.hid (fun j x h => by omega)⟩
      case round =>
        clear c1
        obtain ⟨k, rfl, hk, hg, c1, HK, HSF⟩ := hrel
        by_cases hkl : k < fn
        · have hkl' : (k : Int) < (fn : Int) := by omega
          have kp0 : (0 : Int) ≤ (k : Int) := by omega
          obtain ⟨xb, xo, z, hz, hza, hzt, hzo⟩ := Pg.fget HP.out (i := k) hkl
          simp only at hza hz
          subst hza
          have hkw := HKW.out.trans HK.out (fun _ _ e => e)
          have HKA := Lib.hid hkw
          have x0 := hkw.cell0 (hzt 0 _ rfl)
          have x1 := hkw.cell0 (hzt 1 _ rfl)
          have x2 := hkw.cell0 (hzt 2 _ rfl)
          have x3 := hkw.cell0 (hzt 3 _ rfl)
          have x4 := hkw.cell0 (hzt 4 _ rfl)
          have x5 := hkw.cell0 (hzt 5 _ rfl)
          rw [Nat.add_zero] at x0
          have HC := Lib.hid (fun (W : World) (hk : Keeps No w W) => great_fn z W (hzo.no hk))
          have HZ := Lib.hid hz
          clear hz hzt hzo hkw
          go_wp2_with fail
          refine (HC.out _ HKA.out).mono ?_
          rintro e w4 ⟨g, rfl, hgs, hk4⟩
          have HG := Lib.hid hgs
          have HK4 := Lib.hid (HK.out.trans hk4 (fun _ _ e => e))
          have HKA4 := Lib.hid (HKA.out.trans hk4 (fun _ _ e => e))
          have c1' := hk4.cell0 c1
          clear hgs hk4 x0 x1 x2 x3 x4 x5 HC c1
          cases g with
          | true =>
            go_wp2_with fail
            go_returns
            exact HT.out _ HKA4.out
          | false =>
            go_wp2_with fail
            go_roundg (fn - (k + 1))
            case rel => exact ⟨k + 1, by go_num, by omega, rfl, c1', HK4, Lib.hid (fun j y h hj => by
              by_cases e : j = k
              · subst e
                obtain rfl := Option.some.inj (HZ.out.symm.trans hj)
                exact HG.out trivial
              · exact HSF.out j y (by omega) hj)⟩
            case measure => omega
        · obtain rfl : k = fn := by omega
          have hkl' : ¬ (k : Int) < (k : Int) := by omega
          go_wp2_with fail
          go_returns
          exact ⟨false, rfl, fun _ => ⟨by simp only; omega, fun x hx => by
            obtain ⟨q, hq⟩ := List.getElem?_of_mem hx
            have h8 := HP.out.glen
            exact HSG.out q x (by have h9 := (List.getElem?_eq_some_iff.1 hq).1; simp only at h8 h9; omega) hq, by simp only; omega, fun x hx => by
            obtain ⟨q, hq⟩ := List.getElem?_of_mem hx
            have h8 := HP.out.flen
            exact HSF.out q x (by have h9 := (List.getElem?_eq_some_iff.1 hq).1; simp only at h8 h9; omega) hq⟩, HKW.out.trans HK.out (fun _ _ e => e)⟩
end Go.Proofs.YtbfjmhfhhlncjaaDoor
/- Worlds in which numbers have been written over. -/
namespace Go.Proofs.YtbfjmhfhhlncjaaDoor
open Go.RowKit
set_option linter.unusedVariables false
set_option linter.unusedSimpArgs false

/-- Where numbers lie that may be written. -/
def NumAt (e : TypeId) (k : Nat) : Prop := e = 3 ∨ e = 2 ∨ e = 51 ∨ (e = 27 ∧ k % 11 = 5)
structure Mu (S : Nat → Prop) (w w' : World) : Prop where
  k : Keeps S w w'
  m : ∀ q cs e fr, S q → w.heap[q]? = some (.cells cs e fr) → ∃ cs', w'.heap[q]? = some (.cells cs' e fr) ∧ cs'.size = cs.size ∧ ∀ (j : Nat) v, cs[j]? = some v → ∃ v', cs'[j]? = some v' ∧ (v' = v ∨ ((∃ z, v' = .int .i64 z) ∧ NumAt e j))
theorem Mu.of_no {S : Nat → Prop} {w w' : World} (h : Keeps No w w') : Mu S w w' :=
  ⟨h.mono (fun _ _ e => e.elim), fun q cs e fr hq hc => ⟨cs, (h.block q (Array.getElem?_eq_some_iff.1 hc).1 (fun e => e)).trans hc, rfl, fun j v hj => ⟨v, hj, .inl rfl⟩⟩⟩
theorem Mu.refl (S : Nat → Prop) (w : World) : Mu S w w := Mu.of_no (Keeps.refl _ _)
theorem Mu.trans {S : Nat → Prop} {a b c : World} (h : Mu S a b) (g : Mu S b c) : Mu S a c :=
  ⟨h.k.trans g.k (fun _ _ e => e), fun q cs e fr hq hc => by
    obtain ⟨c1, h1, hs1, hv1⟩ := h.m q cs e fr hq hc
    obtain ⟨c2, h2, hs2, hv2⟩ := g.m q c1 e fr hq h1
    refine ⟨c2, h2, hs2.trans hs1, fun j v hj => ?_⟩
    obtain ⟨v1, e1, d1⟩ := hv1 j v hj
    obtain ⟨v2, e2, d2⟩ := hv2 j v1 e1
    refine ⟨v2, e2, ?_⟩
    rcases d2 with rfl | d2
    · exact d1
    · exact .inr d2⟩
theorem Mu.setCell {S : Nat → Prop} {a w : World} (h : Mu S a w) {q j : Nat} {cs : Array Value} {e : TypeId} (hq : S q) (hc : w.heap[q]? = some (.cells cs e (0, 0))) (hn : NumAt e j) (z : Int) : Mu S a (w.setCell ⟨q, j, none⟩ (.int .i64 z)) := by
  refine h.trans ⟨(Keeps.refl S w).setCell (.inl hq) _, fun p ps t fr hp hpc => ?_⟩
  by_cases hpq : p = q
  · subst hpq
    rw [hc] at hpc
    injection hpc with hpc
    injection hpc with e1 e2 e3
    subst e1; subst e2; subst e3
    refine ⟨_, heap_setCell_same w p j _ _ _ hc, by simp, fun k v hk => ?_⟩
    have hkl : k < cs.size := (Array.getElem?_eq_some_iff.1 hk).1
    by_cases hkj : j = k
    · subst hkj
      exact ⟨.int .i64 z, by simp [hkl], .inr ⟨⟨z, rfl⟩, hn⟩⟩
    · exact ⟨v, by simpa [hkj] using hk, .inl rfl⟩
  · exact ⟨ps, by rw [Below.heap_setCell _ _ _ _ (by simpa using hpq)]; exact hpc, rfl, fun k v hk => ⟨v, hk, .inl rfl⟩⟩
/-- A row of numbers, whatever they are. -/
def TRow (w : World) (S : Nat → Prop) (e : TypeId) (v : Value) (n : Nat) : Prop :=
  (v = .slice none 0 0 ∧ n = 0) ∨ ∃ g cap cur, v = .slice (some ⟨g, 0, none⟩) n cap ∧ S g ∧ w.heap[g]? = some (.cells cur e (0, 0)) ∧ n ≤ cap ∧ cap ≤ maxLen ∧ cur.size = cap ∧ ∀ j, j < n → ∃ z, cur[j]? = some (.int .i64 z)
theorem TRow.of_own {w : World} {B n : Nat} {e : TypeId} {v : Value} {l : List Int} {S : Nat → Prop} (hS : ∀ q, B ≤ q → q < w.heap.size → S q) (h : w.ownsRow B e 1 v n (irow l)) : TRow w S e v n := by
  have hl : l.length = n := by have := h.1; rw [irow_len] at this; omega
  rcases h.2 with h | ⟨g, cap, cur, h1, h2, h3, h4, h5, h6, h7⟩
  · exact .inl h
  · refine .inr ⟨g, cap, cur, h1, hS g h2 (Array.getElem?_eq_some_iff.1 h3).1, h3, h4, h5, by omega, fun j hj => ?_⟩
    obtain ⟨z, hz⟩ : ∃ z, l[j]? = some z := ⟨_, List.getElem?_eq_getElem (by omega)⟩
    have h8 := irow_get hz
    rw [← h7, List.getElem?_take, if_pos (by omega)] at h8
    exact ⟨z, by rw [← Array.getElem?_toList]; exact h8⟩
theorem TRow.mu {w w' : World} {S : Nat → Prop} {n : Nat} {e : TypeId} {v : Value} (h : TRow w S e v n) (hm : Mu S w w') : TRow w' S e v n := by
  rcases h with h | ⟨g, cap, cur, h1, h2, h3, h4, h5, h6, h7⟩
  · exact .inl h
  · obtain ⟨c1, e1, s1, d1⟩ := hm.m g cur e _ h2 h3
    refine .inr ⟨g, cap, c1, h1, h2, e1, h4, h5, by omega, fun j hj => ?_⟩
    obtain ⟨z, hz⟩ := h7 j hj
    obtain ⟨v', hv, hd⟩ := d1 j _ hz
    rcases hd with rfl | ⟨⟨z', rfl⟩, _⟩
    · exact ⟨z, hv⟩
    · exact ⟨z', hv⟩
end Go.Proofs.YtbfjmhfhhlncjaaDoor
/- What is written over, in terms of Mu. -/
namespace Go.Proofs.YtbfjmhfhhlncjaaDoor
open Go.RowKit
set_option linter.unusedVariables false
set_option linter.unusedSimpArgs false

theorem Mu.setCell1 {S : Nat → Prop} {a w : World} (h : Mu S a w) {q j : Nat} {cs : Array Value} {e : TypeId} (hq : S q) (hc : w.heap[q]? = some (.cells cs e (0, 0))) (hn : NumAt e j) (z : Int) : Mu S a (w.setCells q j [.int .i64 z]) := h.setCell hq hc hn z
set_option maxRecDepth 100000 in
set_option maxHeartbeats 3200000 in
theorem over_ints_mu (S : Nat → Prop) (v : Value) (n : Nat) (w : World) (h : TRow w S 3 v n) (hn : n ≤ 1000000) :
    Calls Tryd.prog 14 #[v] w fun e w' => e = .returned (.tuple #[]) ∧ Mu S w w' := by
  obtain ⟨i0, hi, hz0, hz1, hz2⟩ := info_parts infoI
  have HI := Lib.hid (And.intro hi (And.intro hz0 (And.intro hz1 hz2)))
  clear hi hz0 hz1 hz2
  have HW := Lib.hid h
  rcases h with ⟨rfl, rfl⟩ | ⟨g1, cap, cur, rfl, hg1, hh, hnc, hcm, hcs, hnum⟩
  · have hn1 : ∀ (W : World) (j : Nat) u, [Value.int .i64 (-999)][j]? = some u → (W.alloc (.cells #[.int .i64 (-999)] 3)).cell? ((⟨W.heap.size, 0, none⟩ : Addr).add j) = some u := fun W => news_one W [.int .i64 (-999)] 3
    have HN := Lib.hid hn1
    clear hn1
    go_enter Tryd.func14, Tryd.ntmps14
    go_wp2_with fail
    go_loopg [2] 0 (fun g u wr => u = .int .i64 0 ∧ g = 0 ∧ w = wr)
    case atStart => exact ⟨rfl, rfl, rfl⟩
    case round =>
      obtain ⟨rfl, hg, rfl⟩ := hrel
      go_wp2_with (at_builtin; refine wpList_append_lies _ rfl (.tmp 12) (.tmp 13) 24 rfl 0 3 i0 (.int .i64 0) 1 8 Tryd.underlying24 HI.out.1 HI.out.2.1 HI.out.2.2.1 HI.out.2.2.2 rfl (by decide) (.slice none 0 0) 0 [] rfl (World.ownsRow_nil _ _ _ _) ⟨w.heap.size, 0, none⟩ 1 1 [.int .i64 (-999)] rfl rfl (HN.out w) (by intro u hu; simp at hu; subst hu; rfl) (by decide) (by decide) (by decide) (Nat.zero_le _) _ rfl ?_)
      intro g2 c2 w2 ho2 hg2 _ _
      have HM : Hid (Mu S w w2) := Lib.hid (Mu.of_no (((Keeps.refl No w).alloc _).grown hg2 (fun q e => by cases e)))
      clear ho2 hg2
      go_wp2_with fail
      go_returns
      exact ⟨rfl, HM.out⟩
  · have hcap : cap ≤ 9223372036854775807 := by unfold maxLen at hcm; omega
    clear hh hcs hnum
    have HG1 := Lib.hid hg1
    have HCM := Lib.hid hcm
    go_enter Tryd.func14, Tryd.ntmps14
    go_wp2_with fail
    go_loopg [2] n (fun g u wr => ∃ i : Nat, u = .int .i64 (i : Int) ∧ i ≤ n ∧ g = n - i ∧ Hid (Mu S w wr))
    case atStart => exact ⟨0, rfl, Nat.zero_le _, rfl, Lib.hid (Mu.refl _ _)⟩
    case round =>
      obtain ⟨i, rfl, hi, hg, HM⟩ := hrel
      have hrow : ∃ cur : Array Value, wr.heap[g1]? = some (.cells cur 3 (0, 0)) ∧ cur.size = cap ∧ ∀ j, j < n → ∃ z, cur[j]? = some (.int .i64 z) := by
        rcases HW.out.mu HM.out with ⟨e, _⟩ | ⟨g', cap', cur', e, _, h3, _, _, h6, h7⟩
        · cases e
        · injection e with e1 e2 e3
          injection e1 with e1
          injection e1 with e1
          subst e1; subst e3
          exact ⟨cur', h3, h6, h7⟩
      obtain ⟨cur, hc, hcs, hnum⟩ := hrow
      have HC := Lib.hid (And.intro hc (And.intro hcs hnum))
      by_cases hlt : i < n
      · have hlt' : (i : Int) < (n : Int) := by omega
        have ip0 : (0 : Int) ≤ (i : Int) := by omega
        obtain ⟨z, hz⟩ := hnum i hlt
        have c1 : wr.cell? ⟨g1, i, none⟩ = some (.int .i64 z) := by rw [cell_of_row wr g1 i _ _ _ hc]; exact hz
        have f1 : wr.frozen? ⟨g1, i, none⟩ = false := frozen_of_row wr g1 i _ _ hc
        clear hc hcs hnum hz
        go_wp2_with fail
        go_roundg (n - (i + 1))
        case rel => exact ⟨i + 1, by go_num, by omega, rfl, Lib.hid (HM.out.setCell HG1.out HC.out.1 (.inl rfl) (-999))⟩
        case measure => omega
      · obtain rfl : i = n := by omega
        have hlt' : ¬ (i : Int) < (i : Int) := by omega
        have hca : (wr.alloc (.cells #[.int .i64 (-999)] 3)).heap[g1]? = some (.cells cur 3 (0, 0)) := by rw [Below.heap_alloc _ _ _ (Array.getElem?_eq_some_iff.1 hc).1]; exact hc
        have HCA := Lib.hid hca
        have HMA : Hid (Mu S w (wr.alloc (.cells #[.int .i64 (-999)] 3))) := Lib.hid (HM.out.trans (Mu.of_no ((Keeps.refl _ _).alloc _)))
        have HN : Hid (∀ (j : Nat) u, [Value.int .i64 (-999)][j]? = some u → (wr.alloc (.cells #[.int .i64 (-999)] 3)).cell? ((⟨wr.heap.size, 0, none⟩ : Addr).add j) = some u) := Lib.hid (news_one wr [.int .i64 (-999)] 3)
        have HLO : Hid ((cur.toList.take i).length = i * 1) := Lib.hid (by rw [List.length_take, Array.length_toList]; omega)
        have HOL : Hid (∀ (j : Nat) u, (cur.toList.take i)[j]? = some u → (wr.alloc (.cells #[.int .i64 (-999)] 3)).cell? ⟨g1, 0 + j, none⟩ = some u) := Lib.hid (fun j u hj => by
          rw [Nat.zero_add, cell_of_row _ g1 j _ _ _ hca]
          rw [List.getElem?_take] at hj
          split at hj
          · rw [← Array.getElem?_toList]; exact hj
          · cases hj)
        have HSP : Hid (i + 1 ≤ cap → ∀ j, j < [Value.int .i64 (-999)].length → ((wr.alloc (.cells #[.int .i64 (-999)] 3)).cell? ⟨g1, 0 + i * 1 + j, none⟩).isSome = true ∧ (wr.alloc (.cells #[.int .i64 (-999)] 3)).frozen? ⟨g1, 0 + i * 1 + j, none⟩ = false) := Lib.hid (fun hle j hj => by
          refine ⟨?_, frozen_of_row _ g1 _ _ _ hca⟩
          have hj0 : j = 0 := by simp at hj; exact hj
          subst hj0
          rw [cell_of_row _ g1 _ _ _ _ hca, Array.getElem?_eq_getElem (by omega)]; rfl)
        clear hc hcs hnum hca
        go_wp2_with (at_builtin; refine wpList_append_arg _ rfl (.tmp 12) (.tmp 13) 24 rfl 3 i0 (.int .i64 0) 1 8 Tryd.underlying24 HI.out.1 HI.out.2.1 HI.out.2.2.1 HI.out.2.2.2 rfl (by decide) g1 0 i cap (cur.toList.take i) rfl HLO.out HOL.out ⟨wr.heap.size, 0, none⟩ 1 1 [.int .i64 (-999)] rfl rfl HN.out (by intro u hu; simp at hu; subst hu; rfl) HSP.out (by unfold maxLen; omega) (by omega) ?_ ?_)
        · intro hle
          have HF : Hid (Mu S w ((wr.alloc (.cells #[.int .i64 (-999)] 3)).setCells g1 i [.int .i64 (-999)])) := Lib.hid (HMA.out.setCell1 HG1.out HCA.out (.inl rfl) (-999))
          obtain ⟨wz, hwz⟩ : ∃ W, (wr.alloc (.cells #[.int .i64 (-999)] 3)).setCells g1 i [.int .i64 (-999)] = W := ⟨_, rfl⟩
          rw [hwz] at HF ⊢
          clear hwz
          go_wp2_with fail
          go_returns
          exact ⟨rfl, HF.out⟩
        · intro hle v2 w2 ho2 hg2
          have HF : Hid (Mu S w w2) := Lib.hid (HMA.out.trans (Mu.of_no ((Keeps.refl No _).grown hg2 (fun q e => by cases e))))
          clear ho2 hg2
          go_wp2_with fail
          go_returns
          exact ⟨rfl, HF.out⟩
set_option maxRecDepth 100000 in
set_option maxHeartbeats 3200000 in
theorem over_nums_mu (S : Nat → Prop) (v : Value) (n : Nat) (w : World) (h : TRow w S 2 v n) (hn : n ≤ 1000000) :
    Calls Tryd.prog 20 #[v] w fun e w' => e = .returned (.tuple #[]) ∧ Mu S w w' := by
  obtain ⟨i0, hi, hz0, hz1, hz2⟩ := info_parts infoI64
  have HI := Lib.hid (And.intro hi (And.intro hz0 (And.intro hz1 hz2)))
  clear hi hz0 hz1 hz2
  have HW := Lib.hid h
  rcases h with ⟨rfl, rfl⟩ | ⟨g1, cap, cur, rfl, hg1, hh, hnc, hcm, hcs, hnum⟩
  · have hn1 : ∀ (W : World) (j : Nat) u, [Value.int .i64 (-999)][j]? = some u → (W.alloc (.cells #[.int .i64 (-999)] 2)).cell? ((⟨W.heap.size, 0, none⟩ : Addr).add j) = some u := fun W => news_one W [.int .i64 (-999)] 2
    have HN := Lib.hid hn1
    clear hn1
    go_enter Tryd.func20, Tryd.ntmps20
    go_wp2_with fail
    go_loopg [2] 0 (fun g u wr => u = .int .i64 0 ∧ g = 0 ∧ w = wr)
    case atStart => exact ⟨rfl, rfl, rfl⟩
    case round =>
      obtain ⟨rfl, hg, rfl⟩ := hrel
      go_wp2_with (at_builtin; refine wpList_append_lies _ rfl (.tmp 12) (.tmp 13) 25 rfl 0 2 i0 (.int .i64 0) 1 8 Tryd.underlying25 HI.out.1 HI.out.2.1 HI.out.2.2.1 HI.out.2.2.2 rfl (by decide) (.slice none 0 0) 0 [] rfl (World.ownsRow_nil _ _ _ _) ⟨w.heap.size, 0, none⟩ 1 1 [.int .i64 (-999)] rfl rfl (HN.out w) (by intro u hu; simp at hu; subst hu; rfl) (by decide) (by decide) (by decide) (Nat.zero_le _) _ rfl ?_)
      intro g2 c2 w2 ho2 hg2 _ _
      have HM : Hid (Mu S w w2) := Lib.hid (Mu.of_no (((Keeps.refl No w).alloc _).grown hg2 (fun q e => by cases e)))
      clear ho2 hg2
      go_wp2_with fail
      go_returns
      exact ⟨rfl, HM.out⟩
  · have hcap : cap ≤ 9223372036854775807 := by unfold maxLen at hcm; omega
    clear hh hcs hnum
    have HG1 := Lib.hid hg1
    have HCM := Lib.hid hcm
    go_enter Tryd.func20, Tryd.ntmps20
    go_wp2_with fail
    go_loopg [2] n (fun g u wr => ∃ i : Nat, u = .int .i64 (i : Int) ∧ i ≤ n ∧ g = n - i ∧ Hid (Mu S w wr))
    case atStart => exact ⟨0, rfl, Nat.zero_le _, rfl, Lib.hid (Mu.refl _ _)⟩
    case round =>
      obtain ⟨i, rfl, hi, hg, HM⟩ := hrel
      have hrow : ∃ cur : Array Value, wr.heap[g1]? = some (.cells cur 2 (0, 0)) ∧ cur.size = cap ∧ ∀ j, j < n → ∃ z, cur[j]? = some (.int .i64 z) := by
        rcases HW.out.mu HM.out with ⟨e, _⟩ | ⟨g', cap', cur', e, _, h3, _, _, h6, h7⟩
        · cases e
        · injection e with e1 e2 e3
          injection e1 with e1
          injection e1 with e1
          subst e1; subst e3
          exact ⟨cur', h3, h6, h7⟩
      obtain ⟨cur, hc, hcs, hnum⟩ := hrow
      have HC := Lib.hid (And.intro hc (And.intro hcs hnum))
      by_cases hlt : i < n
      · have hlt' : (i : Int) < (n : Int) := by omega
        have ip0 : (0 : Int) ≤ (i : Int) := by omega
        obtain ⟨z, hz⟩ := hnum i hlt
        have c1 : wr.cell? ⟨g1, i, none⟩ = some (.int .i64 z) := by rw [cell_of_row wr g1 i _ _ _ hc]; exact hz
        have f1 : wr.frozen? ⟨g1, i, none⟩ = false := frozen_of_row wr g1 i _ _ hc
        clear hc hcs hnum hz
        go_wp2_with fail
        go_roundg (n - (i + 1))
        case rel => exact ⟨i + 1, by go_num, by omega, rfl, Lib.hid (HM.out.setCell HG1.out HC.out.1 (.inr (.inl rfl)) (-999))⟩
        case measure => omega
      · obtain rfl : i = n := by omega
        have hlt' : ¬ (i : Int) < (i : Int) := by omega
        have hca : (wr.alloc (.cells #[.int .i64 (-999)] 2)).heap[g1]? = some (.cells cur 2 (0, 0)) := by rw [Below.heap_alloc _ _ _ (Array.getElem?_eq_some_iff.1 hc).1]; exact hc
        have HCA := Lib.hid hca
        have HMA : Hid (Mu S w (wr.alloc (.cells #[.int .i64 (-999)] 2))) := Lib.hid (HM.out.trans (Mu.of_no ((Keeps.refl _ _).alloc _)))
        have HN : Hid (∀ (j : Nat) u, [Value.int .i64 (-999)][j]? = some u → (wr.alloc (.cells #[.int .i64 (-999)] 2)).cell? ((⟨wr.heap.size, 0, none⟩ : Addr).add j) = some u) := Lib.hid (news_one wr [.int .i64 (-999)] 2)
        have HLO : Hid ((cur.toList.take i).length = i * 1) := Lib.hid (by rw [List.length_take, Array.length_toList]; omega)
        have HOL : Hid (∀ (j : Nat) u, (cur.toList.take i)[j]? = some u → (wr.alloc (.cells #[.int .i64 (-999)] 2)).cell? ⟨g1, 0 + j, none⟩ = some u) := Lib.hid (fun j u hj => by
          rw [Nat.zero_add, cell_of_row _ g1 j _ _ _ hca]
          rw [List.getElem?_take] at hj
          split at hj
          · rw [← Array.getElem?_toList]; exact hj
          · cases hj)
        have HSP : Hid (i + 1 ≤ cap → ∀ j, j < [Value.int .i64 (-999)].length → ((wr.alloc (.cells #[.int .i64 (-999)] 2)).cell? ⟨g1, 0 + i * 1 + j, none⟩).isSome = true ∧ (wr.alloc (.cells #[.int .i64 (-999)] 2)).frozen? ⟨g1, 0 + i * 1 + j, none⟩ = false) := Lib.hid (fun hle j hj => by
          refine ⟨?_, frozen_of_row _ g1 _ _ _ hca⟩
          have hj0 : j = 0 := by simp at hj; exact hj
          subst hj0
          rw [cell_of_row _ g1 _ _ _ _ hca, Array.getElem?_eq_getElem (by omega)]; rfl)
        clear hc hcs hnum hca
        go_wp2_with (at_builtin; refine wpList_append_arg _ rfl (.tmp 12) (.tmp 13) 25 rfl 2 i0 (.int .i64 0) 1 8 Tryd.underlying25 HI.out.1 HI.out.2.1 HI.out.2.2.1 HI.out.2.2.2 rfl (by decide) g1 0 i cap (cur.toList.take i) rfl HLO.out HOL.out ⟨wr.heap.size, 0, none⟩ 1 1 [.int .i64 (-999)] rfl rfl HN.out (by intro u hu; simp at hu; subst hu; rfl) HSP.out (by unfold maxLen; omega) (by omega) ?_ ?_)
        · intro hle
          have HF : Hid (Mu S w ((wr.alloc (.cells #[.int .i64 (-999)] 2)).setCells g1 i [.int .i64 (-999)])) := Lib.hid (HMA.out.setCell1 HG1.out HCA.out (.inr (.inl rfl)) (-999))
          obtain ⟨wz, hwz⟩ : ∃ W, (wr.alloc (.cells #[.int .i64 (-999)] 2)).setCells g1 i [.int .i64 (-999)] = W := ⟨_, rfl⟩
          rw [hwz] at HF ⊢
          clear hwz
          go_wp2_with fail
          go_returns
          exact ⟨rfl, HF.out⟩
        · intro hle v2 w2 ho2 hg2
          have HF : Hid (Mu S w w2) := Lib.hid (HMA.out.trans (Mu.of_no ((Keeps.refl No _).grown hg2 (fun q e => by cases e))))
          clear ho2 hg2
          go_wp2_with fail
          go_returns
          exact ⟨rfl, HF.out⟩
end Go.Proofs.YtbfjmhfhhlncjaaDoor
/- A program of one's own, as far as it is known when its numbers are written over. -/
namespace Go.Proofs.YtbfjmhfhhlncjaaDoor
open Go.RowKit
set_option linter.unusedVariables false
set_option linter.unusedSimpArgs false

/-- A row of another kind is as it was. -/
theorem Mu.own {S : Nat → Prop} {w w' : World} {B n z : Nat} {e : TypeId} {v : Value} {xs : List Value} (hm : Mu S w w') (h : w.ownsRow B e z v n xs) (he : ∀ k, ¬ NumAt e k) : w'.ownsRow B e z v n xs := by
  refine own_kept h (fun q hq => ?_)
  by_cases hs : S q
  · rcases h.2 with ⟨e1, _⟩ | ⟨g, cap, cur, e1, _, h3, _⟩
    · rw [e1] at hq; simp [Value.ownBlock] at hq
    · rw [e1] at hq; simp [Value.ownBlock] at hq
      subst hq
      obtain ⟨cs, e2, s2, d2⟩ := hm.m g cur e _ hs h3
      rw [e2, h3]
      have : cs = cur := by
        apply Array.ext s2
        intro j h1 h2
        obtain ⟨v', hv, hd⟩ := d2 j cur[j] (Array.getElem?_eq_getElem h2)
        rw [Array.getElem?_eq_getElem h1] at hv
        have hv := Option.some.inj hv
        rcases hd with rfl | ⟨_, hd⟩
        · exact hv
        · exact absurd hd (he j)
      rw [this]
  · exact hm.k.block q (h.lt q hq).2 hs
theorem Mu.row {S : Nat → Prop} {w w' : World} {q : Nat} {cs : Array Value} {e : TypeId} (hm : Mu S w w') (h : w.heap[q]? = some (.cells cs e (0, 0))) (he : ∀ k, ¬ NumAt e k) : w'.heap[q]? = some (.cells cs e (0, 0)) := by
  by_cases hs : S q
  · obtain ⟨c2, e2, s2, d2⟩ := hm.m q cs e _ hs h
    rw [e2]
    have : c2 = cs := by
      apply Array.ext s2
      intro j h1 h2
      obtain ⟨v', hv, hd⟩ := d2 j cs[j] (Array.getElem?_eq_getElem h2)
      rw [Array.getElem?_eq_getElem h1] at hv
      have hv := Option.some.inj hv
      rcases hd with rfl | ⟨_, hd⟩
      · exact hv
      · exact absurd hd (he j)
    rw [this]
  · exact (hm.k.block q (Array.getElem?_eq_some_iff.1 h).1 hs).trans h
theorem num_fn (k : Nat) : ¬ NumAt 42 k := by unfold NumAt; rintro (h | h | h | ⟨h, _⟩) <;> revert h <;> decide
theorem num_blk (k : Nat) : ¬ NumAt 45 k := by unfold NumAt; rintro (h | h | h | ⟨h, _⟩) <;> revert h <;> decide
theorem num_gl (k : Nat) : ¬ NumAt 49 k := by unfold NumAt; rintro (h | h | h | ⟨h, _⟩) <;> revert h <;> decide
theorem num_pg (k : Nat) : ¬ NumAt 36 k := by unfold NumAt; rintro (h | h | h | ⟨h, _⟩) <;> revert h <;> decide
/-- One instruction's rows. -/
structure IAt (w : World) (S : Nat → Prop) (cur : Array Value) (k : Nat) : Prop where
  n : ∃ z, cur[k * 11 + 5]? = some (.int .i64 z)
  r : ∃ v1 n1 v2 n2 v3 n3, cur[k * 11 + 8]? = some v1 ∧ cur[k * 11 + 9]? = some v2 ∧ cur[k * 11 + 10]? = some v3 ∧ TRow w S 3 v1 n1 ∧ TRow w S 3 v2 n2 ∧ TRow w S 2 v3 n3 ∧ n1 ≤ 1000000 ∧ n2 ≤ 1000000 ∧ n3 ≤ 1000000
def IShape (w : World) (S : Nat → Prop) (v : Value) (n : Nat) : Prop :=
  (v = .slice none 0 0 ∧ n = 0) ∨ ∃ g cap cur, v = .slice (some ⟨g, 0, none⟩) n cap ∧ S g ∧ w.heap[g]? = some (.cells cur 27 (0, 0)) ∧ n ≤ cap ∧ cap ≤ maxLen ∧ ∀ k, k < n → IAt w S cur k
theorem num_ins {k : Nat} (h : NumAt 27 k) : k % 11 = 5 := by
  rcases h with h | h | h | ⟨_, h⟩
  · exact absurd h (by decide)
  · exact absurd h (by decide)
  · exact absurd h (by decide)
  · exact h
theorem IShape.mu {w w' : World} {S : Nat → Prop} {n : Nat} {v : Value} (h : IShape w S v n) (hm : Mu S w w') : IShape w' S v n := by
  rcases h with h | ⟨g, cap, cur, h1, h2, h3, h4, h5, h6⟩
  · exact .inl h
  · obtain ⟨cs, e2, s2, d2⟩ := hm.m g cur _ _ h2 h3
    refine .inr ⟨g, cap, cs, h1, h2, e2, h4, h5, fun k hk => ?_⟩
    obtain ⟨⟨z, hz⟩, v1, n1, v2, n2, v3, n3, a1, a2, a3, t1, t2, t3, b1, b2, b3⟩ := h6 k hk
    have same : ∀ (j : Nat) (u : Value), cur[j]? = some u → j % 11 ≠ 5 → cs[j]? = some u := fun j u hu hj => by
      obtain ⟨v', hv, hd⟩ := d2 j u hu
      rcases hd with rfl | ⟨_, hd⟩
      · exact hv
      · exact absurd (num_ins hd) hj
    refine ⟨?_, v1, n1, v2, n2, v3, n3, same _ _ a1 (by omega), same _ _ a2 (by omega), same _ _ a3 (by omega), t1.mu hm, t2.mu hm, t3.mu hm, b1, b2, b3⟩
    obtain ⟨v', hv, hd⟩ := d2 _ _ hz
    rcases hd with rfl | ⟨⟨z', rfl⟩, _⟩
    · exact ⟨z, hv⟩
    · exact ⟨z', hv⟩
theorem IShape.of {w : World} {B : Nat} {S : Nat → Prop} (hS : ∀ q, B ≤ q → q < w.heap.size → S q) {x : Bx} (h : OBx w B x) (hs : SmallBx x) : IShape w S x.v x.n := by
  rcases h.o.2 with h0 | ⟨g, cap, cur, e1, e2, e3, e4, e5, e6, e7⟩
  · exact .inl h0
  · refine .inr ⟨g, cap, cur, e1, hS g e2 (Array.getElem?_eq_some_iff.1 e3).1, e3, e4, e5, fun k hk => ?_⟩
    obtain ⟨i, hi⟩ : ∃ i, x.l[k]? = some i := ⟨_, List.getElem?_eq_getElem (by rw [h.len]; exact hk)⟩
    have hc : ∀ (j : Nat) (u : Value), i.cells[j]? = some u → cur[k * 11 + j]? = some u := fun j u hj => by
      have hj11 : j < 11 := (List.getElem?_eq_some_iff.1 hj).1
      have h8 := flat_get Ix.cells 11 ix_len x.l k i hi j u hj
      rw [← e7, List.getElem?_take, if_pos (by omega)] at h8
      rw [← Array.getElem?_toList]; exact h8
    have ho := h.ok i (List.mem_of_getElem? hi)
    have hb := hs.2 i (List.mem_of_getElem? hi)
    exact ⟨⟨i.n, hc 5 _ rfl⟩, i.args.v, i.args.n, i.to.v, i.to.n, i.cases_.v, i.cases_.n, hc 8 _ rfl, hc 9 _ rfl, hc 10 _ rfl, TRow.of_own hS ho.args.o, TRow.of_own hS ho.tos.o, TRow.of_own hS ho.cases_.o, hb.1, hb.2.1, hb.2.2⟩
/-- Pieces. -/
def PShape (w : World) (S : Nat → Prop) (v : Value) (n : Nat) : Prop :=
  (v = .slice none 0 0 ∧ n = 0) ∨ ∃ g cap cur, v = .slice (some ⟨g, 0, none⟩) n cap ∧ S g ∧ w.heap[g]? = some (.cells cur 51 (0, 0)) ∧ n ≤ cap ∧ cap ≤ maxLen ∧ ∀ k, k < n → ∃ z, cur[k * 4]? = some (.int .i64 z)
theorem PShape.mu {w w' : World} {S : Nat → Prop} {n : Nat} {v : Value} (h : PShape w S v n) (hm : Mu S w w') : PShape w' S v n := by
  rcases h with h | ⟨g, cap, cur, h1, h2, h3, h4, h5, h6⟩
  · exact .inl h
  · obtain ⟨cs, e2, s2, d2⟩ := hm.m g cur _ _ h2 h3
    refine .inr ⟨g, cap, cs, h1, h2, e2, h4, h5, fun k hk => ?_⟩
    obtain ⟨z, hz⟩ := h6 k hk
    obtain ⟨v', hv, hd⟩ := d2 _ _ hz
    rcases hd with rfl | ⟨⟨z', rfl⟩, _⟩
    · exact ⟨z, hv⟩
    · exact ⟨z', hv⟩
theorem PShape.of {w : World} {B : Nat} {S : Nat → Prop} (hS : ∀ q, B ≤ q → q < w.heap.size → S q) {x : Gx} (h : OGx w B x) : PShape w S (.slice x.pa x.pn x.pc) x.pn := by
  rcases h.o.2 with h0 | ⟨g, cap, cur, e1, e2, e3, e4, e5, e6, e7⟩
  · exact .inl h0
  · refine .inr ⟨g, cap, cur, e1, hS g e2 (Array.getElem?_eq_some_iff.1 e3).1, e3, e4, e5, fun k hk => ?_⟩
    obtain ⟨i, hi⟩ : ∃ i, x.pl[k]? = some i := ⟨_, List.getElem?_eq_getElem (by rw [h.len]; exact hk)⟩
    have h8 := flat_get Px.cells 4 px_len x.pl k i hi 0 _ rfl
    rw [← e7, List.getElem?_take, if_pos (by omega)] at h8
    exact ⟨i.at_, by rw [← Array.getElem?_toList]; exact h8⟩
/-- The program, its rows of instructions and numbers aside. -/
structure CShape (w : World) (B : Nat) (S : Nat → Prop) (y : Pg) : Prop where
  g : w.ownsRow B 49 3 (.slice y.ga y.gn y.gc) y.gn (y.gl.flatMap Gx.cells)
  glen : y.gl.length = y.gn
  gok : ∀ x ∈ y.gl, PShape w S (.slice x.pa x.pn x.pc) x.pn
  f : w.ownsRow B 42 6 (.slice y.fa y.fn y.fc) y.fn (y.fl.flatMap Fx.cells)
  flen : y.fl.length = y.fn
  fok : ∀ x ∈ y.fl, TRow w S 3 x.slots.v x.slots.n ∧ x.slots.n ≤ 1000000 ∧ w.ownsRow B 45 1 (.slice x.ba x.bn x.bc) x.bn (x.bl.map Bx.v) ∧ x.bl.length = x.bn ∧ ∀ b ∈ x.bl, IShape w S b.v b.n
theorem CShape.mu {w w' : World} {B : Nat} {S : Nat → Prop} {y : Pg} (h : CShape w B S y) (hm : Mu S w w') : CShape w' B S y :=
  ⟨hm.own h.g num_gl, h.glen, fun x hx => (h.gok x hx).mu hm, hm.own h.f num_fn, h.flen, fun x hx => by
    obtain ⟨a, b, c, d, e⟩ := h.fok x hx
    exact ⟨a.mu hm, b, hm.own c num_blk, d, fun t ht => (e t ht).mu hm⟩⟩
theorem CShape.of {w : World} {B : Nat} {S : Nat → Prop} (hS : ∀ q, B ≤ q → q < w.heap.size → S q) {y : Pg} (h : OPg w B y) : CShape w B S y :=
  ⟨h.g, h.glen, fun x hx => PShape.of hS (h.gok x hx).2, h.f, h.flen, fun x hx => by
    obtain ⟨a, b, c⟩ := h.fok x hx
    exact ⟨TRow.of_own hS c.slots.o, a.1, c.o, c.len, fun t ht => IShape.of hS (c.ok t ht) (a.2.2 t ht)⟩⟩
end Go.Proofs.YtbfjmhfhhlncjaaDoor
/- Sameness, the other way round. -/
namespace Go.Proofs.YtbfjmhfhhlncjaaDoor
open Go.RowKit
set_option linter.unusedVariables false
set_option linter.unusedSimpArgs false

theorem all_zip_sym {α : Type} {f : α → α → Bool} (h : ∀ x y, f x y = f y x) : ∀ l k : List α, (l.zip k).all (fun p => f p.1 p.2) = (k.zip l).all (fun p => f p.1 p.2)
  | [], [] => rfl
  | [], _ :: _ => rfl
  | _ :: _, [] => rfl
  | a :: l, b :: k => by simp only [List.zip_cons_cons, List.all_cons, h a b, all_zip_sym h l k]
theorem sameRow_sym {α : Type} {f : α → α → Bool} (h : ∀ x y, f x y = f y x) (l k : List α) : sameRow f l k = sameRow f k l := by
  unfold sameRow
  rw [all_zip_sym h l k]
  by_cases e : l.length = k.length
  · rw [decide_eq_true e, decide_eq_true e.symm]
  · rw [decide_eq_false e, decide_eq_false (fun h => e h.symm)]
theorem px_sym (x y : Px) : x.same y = y.same x := by
  unfold Px.same
  congr 1
  apply propext
  exact ⟨fun ⟨a, b, c, d⟩ => ⟨a.symm, b.symm, c.symm, d.symm⟩, fun ⟨a, b, c, d⟩ => ⟨a.symm, b.symm, c.symm, d.symm⟩⟩
theorem dec_sym {α : Type} [DecidableEq α] (a b : α) : decide (a = b) = decide (b = a) := by
  by_cases e : a = b
  · rw [decide_eq_true e, decide_eq_true e.symm]
  · rw [decide_eq_false e, decide_eq_false (fun h => e h.symm)]
theorem gx_sym (x y : Gx) : x.same y = y.same x := by
  unfold Gx.same
  rw [dec_sym x.name.toList, dec_sym x.size, sameRow_sym px_sym]
theorem ix_sym (x y : Ix) : x.same y = y.same x := by
  unfold Ix.same
  congr 1
  apply propext
  constructor <;> (rintro ⟨a, b, c, d, e, f, g, h, i, j, k⟩; exact ⟨a.symm, b.symm, c.symm, d.symm, e.symm, f.symm, g.symm, h.symm, i.symm, j.symm, k.symm⟩)
theorem bx_sym (x y : Bx) : x.same y = y.same x := sameRow_sym ix_sym _ _
theorem fx_sym (x y : Fx) : x.same y = y.same x := by
  unfold Fx.same
  congr 1
  apply propext
  rw [sameRow_sym bx_sym x.bl y.bl]
  constructor <;> (rintro ⟨a, b, c, d, e, f⟩; exact ⟨a.symm, b.symm, c.symm, d.symm, e.symm, f⟩)
theorem pg_sym (x y : Pg) : x.same y = y.same x := by
  unfold Pg.same
  rw [dec_sym x.main, sameRow_sym gx_sym, sameRow_sym fx_sym]
/-- A copy is the same program, whichever way it is asked. -/
theorem CopyPg.same {p : Pg} {w w' : World} {e : Ending} (h : CopyPg p w e w') : ∃ y : Pg, e = .returned (pv y) ∧ p.same y = true ∧ y.same p = true ∧ OPg w' w.heap.size y ∧ Keeps No w w' := by
  obtain ⟨y, rfl, hm, hg, hf, ho, hk⟩ := h
  have h1 : p.same y = true := by
    unfold Pg.same
    rw [hg, hf, decide_eq_true hm.symm]; rfl
  exact ⟨y, rfl, h1, by rw [pg_sym]; exact h1, ho, hk⟩
/-- Neither copy is touched by what is done to the blocks between. -/
theorem OPg.off {w w' : World} {B : Nat} {S : Nat → Prop} {y : Pg} (h : OPg w B y) (hk : Keeps S w w') (hS : ∀ q, S q → q < B) : OPg w' B y := h.low (hk.mono (fun q _ e => hS q e))
end Go.Proofs.YtbfjmhfhhlncjaaDoor
