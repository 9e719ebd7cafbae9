/- Blocks held against one another. -/
import Derived.Test.YtbfjmhfhhlncjaaDoorIrSameC
import Derived.Test.YtbfjmhfhhlncjaaDoorIrCopies
import Derived.Deep.LoopGhost
import Derived.Test.YtbfjmhfhhlncjaaDoorIrMay
namespace Go.Proofs.YtbfjmhfhhlncjaaDoor
open Go.RowKit
set_option linter.unusedVariables false
set_option linter.unusedSimpArgs false

set_option maxRecDepth 100000 in
set_option maxHeartbeats 3200000 in
theorem sameBlock_any (x y : Bx) (w : World) (hx : BxAt w x) (hy : BxAt w y) : Calls Tryd.prog 56 #[.agg #[x.v], .agg #[y.v]] w fun e w' => e = .returned (.bool (x.same y)) ∧ Keeps No w w' := by
  have HC := Lib.hid (fun (W : World) (hk : Keeps No w W) => eqf_ins (.func (.func 74) #[] #[]) x.a y.a x.n y.n x.cap y.cap x.l y.l W hx.len hy.len hx.cap hy.cap rfl
    (fun h => by obtain ⟨b, off, e, hc⟩ := hx.at_ h; exact ⟨b, off, e, fun i z hz j v hj => hk.cell0 (hc i z hz j v hj)⟩)
    (fun h => by obtain ⟨b, off, e, hc⟩ := hy.at_ h; exact ⟨b, off, e, fun i z hz j v hj => hk.cell0 (hc i z hz j v hj)⟩)
    (fun i hi j hj W' hW => sameIns_any i j W' (((hx.ok i hi).no hk).no hW) (((hy.ok j hj).no hk).no hW)))
  obtain ⟨X, hX⟩ : ∃ X, x.same y = X := ⟨_, rfl⟩
  rw [hX]
  rw [show sameRow Ix.same x.l y.l = X from hX] at HC
  unfold Bx.v
  clear hx hy hX
  go_enter Tryd.func56, Tryd.ntmps56
  go_wp2_with fail
  refine (HC.out _ (((Keeps.refl No w).alloc _).alloc _)).mono ?_
  rintro e w1 ⟨rfl, hk⟩
  have HK := Lib.hid ((((Keeps.refl No w).alloc _).alloc _).trans hk (fun _ _ e => e))
  clear hk
  go_wp2_with fail
  go_returns
  exact ⟨rfl, HK.out⟩

set_option maxRecDepth 100000 in
set_option maxHeartbeats 6400000 in
theorem eqf_blocks (fw : Value) (sa sb : Option Addr) (rn kn rc kc : Nat) (l k : List Bx) (w : World) (hl : l.length = rn) (hk : k.length = kn) (hrc : rn ≤ rc ∧ rc ≤ maxLen) (hkc : kn ≤ kc ∧ kc ≤ maxLen)
    (hf : fw = .func (.func 56) #[] #[])
    (hra : 0 < rn → ∃ b off, sa = some ⟨b, off, none⟩ ∧ ∀ (i : Nat) (x : Bx), l[i]? = some x → ∀ (j : Nat) (v : Value), [x.v][j]? = some v → w.cell? ⟨b, off + i * 1 + j, none⟩ = some v)
    (hrb : 0 < kn → ∃ b off, sb = some ⟨b, off, none⟩ ∧ ∀ (i : Nat) (x : Bx), k[i]? = some x → ∀ (j : Nat) (v : Value), [x.v][j]? = some v → w.cell? ⟨b, off + i * 1 + j, none⟩ = some v)
    (hc : ∀ x ∈ l, ∀ y ∈ k, ∀ W, Keeps No w W → Calls Tryd.prog 56 #[.agg #[x.v], .agg #[y.v]] W fun e w' => e = .returned (.bool (x.same y)) ∧ Keeps No W w') :
    Calls Tryd.prog 55 #[.slice sa rn rc, .slice sb kn kc, fw] w fun e w' => e = .returned (.bool (sameRow Bx.same l k)) ∧ Keeps No w w' := by
  subst hf
  obtain ⟨X, hX⟩ : ∃ Q, sameRow Bx.same l k = Q := ⟨_, rfl⟩
  rw [hX]
  have HX := Lib.hid hX
  have HL := Lib.hid hl
  have HK := Lib.hid hk
  have HRA := Lib.hid hra
  have HRB := Lib.hid hrb
  have HC := Lib.hid hc
  unfold maxLen at hrc hkc
  clear hX hl hk hra hrb hc
  by_cases hn : rn = kn
  · subst hn
    have e1 : ((rn : Int) != (rn : Int)) = false := by simp
    go_enter Tryd.func55, Tryd.ntmps55
    go_wp2_with fail
    go_loopg [17] rn (fun g v wr => ∃ i : Nat, v = .int .i64 (i : Int) ∧ i ≤ rn ∧ g = rn - i ∧ Hid (((l.zip k).take i).all (fun p => p.1.same p.2) = true) ∧ Hid (Keeps No w wr))
    case atStart => exact ⟨0, rfl, Nat.zero_le _, rfl, Lib.hid rfl, Lib.hid (Keeps.refl _ _)⟩
    case round =>
      obtain ⟨i, rfl, hi, hg, HE, HW⟩ := hrel
      by_cases hlt : i < rn
      · have hlt' : (i : Int) < (rn : Int) := by omega
        have i0 : (0 : Int) ≤ (i : Int) := by omega
        obtain ⟨x, hx⟩ : ∃ x, l[i]? = some x := ⟨_, List.getElem?_eq_getElem (by rw [HL.out]; exact hlt)⟩
        obtain ⟨y, hy⟩ : ∃ y, k[i]? = some y := ⟨_, List.getElem?_eq_getElem (by rw [HK.out]; exact hlt)⟩
        obtain ⟨b1, o1, rfl, hc1⟩ := HRA.out (by omega)
        obtain ⟨b2, o2, rfl, hc2⟩ := HRB.out (by omega)
        have x0 := HW.out.cell0 (hc1 i x hx 0 _ rfl)
        have y0 := HW.out.cell0 (hc2 i y hy 0 _ rfl)
        rw [Nat.mul_one] at x0 y0
        rw [Nat.add_zero] at x0 y0
        have nb1 : b1 < wr.heap.size := World.block_lt_of_cell? wr _ x0
        have nb2 : b2 < wr.heap.size := World.block_lt_of_cell? wr _ y0
        obtain ⟨R, hR⟩ : ∃ R, x.same y = R := ⟨_, rfl⟩
        have HCC := Lib.hid (fun (W : World) (h : Keeps No w W) => HC.out x (List.mem_of_getElem? hx) y (List.mem_of_getElem? hy) W h)
        rw [hR] at HCC
        have HXI := Lib.hid hx
        have HYI := Lib.hid hy
        have HR := Lib.hid hR
        clear hx hy hc1 hc2 hR
        go_wp2_with fail
        refine (HCC.out _ ((HW.out.alloc _).alloc _)).mono ?_
        rintro e w2 ⟨rfl, hk2⟩
        have HW2 := Lib.hid (((HW.out.alloc _).alloc _).trans hk2 (fun _ _ h => h))
        clear hk2
        cases R with
        | false =>
          have HF : Hid (X = false) := Lib.hid (HX.out.symm.trans (sameRow_no _ HXI.out HYI.out HR.out))
          go_wp2_with fail
          go_returns
          exact ⟨rb rfl HF.out.symm, HW2.out⟩
        | true =>
          go_wp2_with fail
          go_roundg (rn - (i + 1))
          case rel => exact ⟨i + 1, by go_num, by omega, rfl, Lib.hid (sameRow_more _ HXI.out HYI.out HR.out HE.out), HW2⟩
          case measure => omega
      · obtain rfl : i = rn := by omega
        have hlt' : ¬ (i : Int) < (i : Int) := by omega
        have HF : Hid (X = true) := Lib.hid (HX.out.symm.trans (sameRow_yes _ HL.out HK.out HE.out))
        go_wp2_with fail
        go_returns
        exact ⟨rb rfl HF.out.symm, HW.out⟩
  · have e1 : ((rn : Int) != (kn : Int)) = true := by rw [bne_iff_ne]; omega
    have HF : Hid (X = false) := Lib.hid (HX.out.symm.trans (sameRow_len _ (by rw [HL.out, HK.out]; exact hn)))
    clear hn
    go_enter Tryd.func55, Tryd.ntmps55
    go_wp2_with fail
    go_returns
    exact ⟨rb rfl HF.out.symm, Keeps.refl _ _⟩
end Go.Proofs.YtbfjmhfhhlncjaaDoor
/- Functions held against one another. -/
namespace Go.Proofs.YtbfjmhfhhlncjaaDoor
open Go.RowKit
set_option linter.unusedVariables false
set_option linter.unusedSimpArgs false

set_option maxRecDepth 100000 in
set_option maxHeartbeats 12800000 in
theorem sameFn_any (x y : Fx) (w : World) (hx : FxOk w x) (hy : FxOk w y) : Calls Tryd.prog 38 #[fv x, fv y] w fun e w' => e = .returned (.bool (x.same y)) ∧ Keeps No w w' := by
  have HC1 := Lib.hid (fun (W : World) (hk : Keeps No w W) => eq_ints x.slots y.slots W (hx.slots.no hk) (hy.slots.no hk))
  have HC2 := Lib.hid (fun (W : World) (hk : Keeps No w W) => eqf_blocks (.func (.func 56) #[] #[]) x.ba y.ba x.bn y.bn x.bc y.bc x.bl y.bl W hx.len hy.len hx.cap hy.cap rfl
    (fun h => by obtain ⟨b, off, e, hc⟩ := hx.at_ h; exact ⟨b, off, e, fun i z hz j v hj => by
      cases j with
      | zero => obtain rfl : z.v = v := by simpa using hj
                have := hk.cell0 (hc i z hz); simpa using this
      | succ j => cases hj⟩)
    (fun h => by obtain ⟨b, off, e, hc⟩ := hy.at_ h; exact ⟨b, off, e, fun i z hz j v hj => by
      cases j with
      | zero => obtain rfl : z.v = v := by simpa using hj
                have := hk.cell0 (hc i z hz); simpa using this
      | succ j => cases hj⟩)
    (fun i hi j hj W' hW => sameBlock_any i j W' (((hx.ok i hi).no hk).no hW) (((hy.ok j hj).no hk).no hW)))
  obtain ⟨X1, hX1⟩ : ∃ X, decide (x.slots.l = y.slots.l) = X := ⟨_, rfl⟩
  obtain ⟨X2, hX2⟩ : ∃ X, sameRow Bx.same x.bl y.bl = X := ⟨_, rfl⟩
  rw [hX1] at HC1
  rw [hX2] at HC2
  obtain ⟨X, hX⟩ : ∃ X, x.same y = X := ⟨_, rfl⟩
  rw [hX]
  unfold Fx.same at hX
  have HX := Lib.hid hX
  have HX1 := Lib.hid hX1
  have HX2 := Lib.hid hX2
  clear hx hy hX hX1 hX2
  obtain ⟨xn, xp, xr, ⟨xsa, xsn, xsc, xsl⟩, xa, xbn, xc, xl, xv⟩ := x
  obtain ⟨yn, yp, yr, ⟨ysa, ysn, ysc, ysl⟩, ya, ybn, yc, yl, yv⟩ := y
  dsimp only [fv, Sl.v] at HC1 HC2 HX HX1 HX2 ⊢
  have hka : Keeps No w ((w.alloc (.cells #[.string xn, .int .i64 xp, .int .i64 xr, .slice xsa xsn xsc, .slice xa xbn xc, .bool xv] 42)).alloc (.cells #[.string yn, .int .i64 yp, .int .i64 yr, .slice ysa ysn ysc, .slice ya ybn yc, .bool yv] 42)) := ((Keeps.refl No w).alloc _).alloc _
  have HKA := Lib.hid hka
  clear hka
  by_cases t0 : xn.toList = yn.toList
  · by_cases t1 : xp = yp
    · by_cases t2 : xr = yr
      · by_cases t3 : xv = yv
        · have HXX : Hid (X = (X1 && X2)) := Lib.hid (by
            rw [← HX.out, ← HX1.out]
            cases hc : X2 with
            | true => rw [Bool.and_true]; exact decide_eq_decide.2 ⟨fun e => e.2.2.2.2.1, fun e => ⟨t0, t1, t2, t3, e, HX2.out.trans hc⟩⟩
            | false => rw [Bool.and_false]; exact decide_eq_false (fun e => by have := HX2.out.symm.trans e.2.2.2.2.2; rw [hc] at this; cases this))
          have u0 : (xn.toList == yn.toList) = true := beq_iff_eq.2 t0
          have u1 : (xp == yp) = true := beq_iff_eq.2 t1
          have u2 : (xr == yr) = true := beq_iff_eq.2 t2
          have u3 : (xv == yv) = true := beq_iff_eq.2 t3
          clear t0 t1 t2 t3
          go_enter Tryd.func38, Tryd.ntmps38
          go_wp2_with fail
          refine (HC1.out _ HKA.out).mono ?_
          rintro e w1 ⟨rfl, m1, rfl⟩
          have HK1 := Lib.hid (HKA.out.drewN m1)
          cases X1 with
          | false =>
            have HF : Hid (X = false) := Lib.hid (by rw [HXX.out]; rfl)
            go_wp2_with fail
            go_returns
            exact ⟨rb rfl HF.out.symm, HK1.out⟩
          | true =>
            go_wp2_with fail
            refine (HC2.out _ HK1.out).mono ?_
            rintro e w2 ⟨rfl, hk⟩
            have HK2 := Lib.hid (HK1.out.trans hk (fun _ _ e => e))
            have HF : Hid (X = X2) := Lib.hid (by rw [HXX.out]; rfl)
            clear hk
            go_wp2_with fail
            go_returns
            exact ⟨rb rfl HF.out.symm, HK2.out⟩
        · have HF : Hid (X = false) := Lib.hid (HX.out.symm.trans (decide_eq_false (fun e => t3 e.2.2.2.1)))
          have u0 : (xn.toList == yn.toList) = true := beq_iff_eq.2 t0
          have u1 : (xp == yp) = true := beq_iff_eq.2 t1
          have u2 : (xr == yr) = true := beq_iff_eq.2 t2
          have u3 : (xv == yv) = false := beq_eq_false_iff_ne.2 t3
          clear t0 t1 t2 t3
          go_enter Tryd.func38, Tryd.ntmps38
          go_wp2_with fail
          go_returns
          exact ⟨rb rfl HF.out.symm, ((Keeps.refl _ _).alloc _).alloc _⟩
      · have HF : Hid (X = false) := Lib.hid (HX.out.symm.trans (decide_eq_false (fun e => t2 e.2.2.1)))
        have u0 : (xn.toList == yn.toList) = true := beq_iff_eq.2 t0
        have u1 : (xp == yp) = true := beq_iff_eq.2 t1
        have u2 : (xr == yr) = false := beq_eq_false_iff_ne.2 t2
        clear t0 t1 t2
        go_enter Tryd.func38, Tryd.ntmps38
        go_wp2_with fail
        go_returns
        exact ⟨rb rfl HF.out.symm, ((Keeps.refl _ _).alloc _).alloc _⟩
    · have HF : Hid (X = false) := Lib.hid (HX.out.symm.trans (decide_eq_false (fun e => t1 e.2.1)))
      have u0 : (xn.toList == yn.toList) = true := beq_iff_eq.2 t0
      have u1 : (xp == yp) = false := beq_eq_false_iff_ne.2 t1
      clear t0 t1
      go_enter Tryd.func38, Tryd.ntmps38
      go_wp2_with fail
      go_returns
      exact ⟨rb rfl HF.out.symm, ((Keeps.refl _ _).alloc _).alloc _⟩
  · have HF : Hid (X = false) := Lib.hid (HX.out.symm.trans (decide_eq_false (fun e => t0 e.1)))
    have u0 : (xn.toList == yn.toList) = false := beq_eq_false_iff_ne.2 t0
    clear t0
    go_enter Tryd.func38, Tryd.ntmps38
    go_wp2_with fail
    go_returns
    exact ⟨rb rfl HF.out.symm, ((Keeps.refl _ _).alloc _).alloc _⟩
end Go.Proofs.YtbfjmhfhhlncjaaDoor
/- Rows of functions held against one another. -/
namespace Go.Proofs.YtbfjmhfhhlncjaaDoor
open Go.RowKit
set_option linter.unusedVariables false
set_option linter.unusedSimpArgs false

set_option maxRecDepth 100000 in
set_option maxHeartbeats 6400000 in
theorem eqf_fns (fw : Value) (sa sb : Option Addr) (rn kn rc kc : Nat) (l k : List Fx) (w : World) (hl : l.length = rn) (hk : k.length = kn) (hrc : rn ≤ rc ∧ rc ≤ maxLen) (hkc : kn ≤ kc ∧ kc ≤ maxLen)
    (hf : fw = .func (.func 38) #[] #[])
    (hra : 0 < rn → ∃ b off, sa = some ⟨b, off, none⟩ ∧ ∀ (i : Nat) (x : Fx), l[i]? = some x → ∀ (j : Nat) (v : Value), x.cells[j]? = some v → w.cell? ⟨b, off + i * 6 + j, none⟩ = some v)
    (hrb : 0 < kn → ∃ b off, sb = some ⟨b, off, none⟩ ∧ ∀ (i : Nat) (x : Fx), k[i]? = some x → ∀ (j : Nat) (v : Value), x.cells[j]? = some v → w.cell? ⟨b, off + i * 6 + j, none⟩ = some v)
    (hc : ∀ x ∈ l, ∀ y ∈ k, ∀ W, Keeps No w W → Calls Tryd.prog 38 #[fv x, fv y] W fun e w' => e = .returned (.bool (x.same y)) ∧ Keeps No W w') :
    Calls Tryd.prog 37 #[.slice sa rn rc, .slice sb kn kc, fw] w fun e w' => e = .returned (.bool (sameRow Fx.same l k)) ∧ Keeps No w w' := by
  subst hf
  obtain ⟨X, hX⟩ : ∃ Q, sameRow Fx.same l k = Q := ⟨_, rfl⟩
  rw [hX]
  have HX := Lib.hid hX
  have HL := Lib.hid hl
  have HK := Lib.hid hk
  have HRA := Lib.hid hra
  have HRB := Lib.hid hrb
  have HC := Lib.hid hc
  unfold maxLen at hrc hkc
  clear hX hl hk hra hrb hc
  by_cases hn : rn = kn
  · subst hn
    have e1 : ((rn : Int) != (rn : Int)) = false := by simp
    go_enter Tryd.func37, Tryd.ntmps37
    go_wp2_with fail
    go_loopg [17] rn (fun g v wr => ∃ i : Nat, v = .int .i64 (i : Int) ∧ i ≤ rn ∧ g = rn - i ∧ Hid (((l.zip k).take i).all (fun p => p.1.same p.2) = true) ∧ Hid (Keeps No w wr))
    case atStart => exact ⟨0, rfl, Nat.zero_le _, rfl, Lib.hid rfl, Lib.hid (Keeps.refl _ _)⟩
    case round =>
      obtain ⟨i, rfl, hi, hg, HE, HW⟩ := hrel
      by_cases hlt : i < rn
      · have hlt' : (i : Int) < (rn : Int) := by omega
        have i0 : (0 : Int) ≤ (i : Int) := by omega
        obtain ⟨x, hx⟩ : ∃ x, l[i]? = some x := ⟨_, List.getElem?_eq_getElem (by rw [HL.out]; exact hlt)⟩
        obtain ⟨y, hy⟩ : ∃ y, k[i]? = some y := ⟨_, List.getElem?_eq_getElem (by rw [HK.out]; exact hlt)⟩
        obtain ⟨b1, o1, rfl, hc1⟩ := HRA.out (by omega)
        obtain ⟨b2, o2, rfl, hc2⟩ := HRB.out (by omega)
        have x0 := HW.out.cell0 (hc1 i x hx 0 _ rfl)
        have y0 := HW.out.cell0 (hc2 i y hy 0 _ rfl)
        have x1 := HW.out.cell0 (hc1 i x hx 1 _ rfl)
        have y1 := HW.out.cell0 (hc2 i y hy 1 _ rfl)
        have x2 := HW.out.cell0 (hc1 i x hx 2 _ rfl)
        have y2 := HW.out.cell0 (hc2 i y hy 2 _ rfl)
        have x3 := HW.out.cell0 (hc1 i x hx 3 _ rfl)
        have y3 := HW.out.cell0 (hc2 i y hy 3 _ rfl)
        have x4 := HW.out.cell0 (hc1 i x hx 4 _ rfl)
        have y4 := HW.out.cell0 (hc2 i y hy 4 _ rfl)
        have x5 := HW.out.cell0 (hc1 i x hx 5 _ rfl)
        have y5 := HW.out.cell0 (hc2 i y hy 5 _ rfl)
        rw [Nat.add_zero] at x0 y0
        have nb1 : b1 < wr.heap.size := World.block_lt_of_cell? wr _ x0
        have nb2 : b2 < wr.heap.size := World.block_lt_of_cell? wr _ y0
        obtain ⟨R, hR⟩ : ∃ R, x.same y = R := ⟨_, rfl⟩
        have HCC := Lib.hid (fun (W : World) (h : Keeps No w W) => HC.out x (List.mem_of_getElem? hx) y (List.mem_of_getElem? hy) W h)
        rw [hR] at HCC
        have HXI := Lib.hid hx
        have HYI := Lib.hid hy
        have HR := Lib.hid hR
        clear hx hy hc1 hc2 hR
        go_wp2_with fail
        refine (HCC.out _ ((HW.out.alloc _).alloc _)).mono ?_
        rintro e w2 ⟨rfl, hk2⟩
        have HW2 := Lib.hid (((HW.out.alloc _).alloc _).trans hk2 (fun _ _ h => h))
        clear hk2
        cases R with
        | false =>
          have HF : Hid (X = false) := Lib.hid (HX.out.symm.trans (sameRow_no _ HXI.out HYI.out HR.out))
          go_wp2_with fail
          go_returns
          exact ⟨rb rfl HF.out.symm, HW2.out⟩
        | true =>
          go_wp2_with fail
          go_roundg (rn - (i + 1))
          case rel => exact ⟨i + 1, by go_num, by omega, rfl, Lib.hid (sameRow_more _ HXI.out HYI.out HR.out HE.out), HW2⟩
          case measure => omega
      · obtain rfl : i = rn := by omega
        have hlt' : ¬ (i : Int) < (i : Int) := by omega
        have HF : Hid (X = true) := Lib.hid (HX.out.symm.trans (sameRow_yes _ HL.out HK.out HE.out))
        go_wp2_with fail
        go_returns
        exact ⟨rb rfl HF.out.symm, HW.out⟩
  · have e1 : ((rn : Int) != (kn : Int)) = true := by rw [bne_iff_ne]; omega
    have HF : Hid (X = false) := Lib.hid (HX.out.symm.trans (sameRow_len _ (by rw [HL.out, HK.out]; exact hn)))
    clear hn
    go_enter Tryd.func37, Tryd.ntmps37
    go_wp2_with fail
    go_returns
    exact ⟨rb rfl HF.out.symm, Keeps.refl _ _⟩
end Go.Proofs.YtbfjmhfhhlncjaaDoor
/- ir.Same and ir.Copy, of programs without globals. -/
namespace Go.Proofs.YtbfjmhfhhlncjaaDoor
open Go.RowKit
set_option linter.unusedVariables false
set_option linter.unusedSimpArgs false

set_option maxRecDepth 100000 in
set_option maxHeartbeats 3200000 in
theorem eqg0 (fw : Value) (sa sb : Option Addr) (rc kc : Nat) (w : World) :
    Calls Tryd.prog 35 #[.slice sa 0 rc, .slice sb 0 kc, fw] w fun e w' => e = .returned (.bool true) ∧ w = w' := by
  go_enter Tryd.func35, Tryd.ntmps35
  go_wp2_with fail
  go_loopg [17] 0 (fun g v wr => v = .int .i64 0 ∧ g = 0 ∧ w = wr)
  case atStart => exact ⟨rfl, rfl, rfl⟩
  case round =>
    obtain ⟨rfl, hg, rfl⟩ := hrel
    go_wp2_with fail
    go_returns
    exact ⟨rb rfl rfl, rfl⟩
set_option maxRecDepth 100000 in
set_option maxHeartbeats 6400000 in
theorem same0 (p q : Pg) (w : World) (hp : PgOk w p) (hq : PgOk w q) (gp : p.gn = 0) (gq : q.gn = 0) :
    Calls Tryd.prog 18 #[pv p, pv q] w fun e w' => e = .returned (.bool (decide (p.main = q.main) && sameRow Fx.same p.fl q.fl)) ∧ Keeps No w w' := by
  have HC := Lib.hid (fun (W : World) (hk : Keeps No w W) => eqf_fns (.func (.func 38) #[] #[]) p.fa q.fa p.fn q.fn p.fc q.fc p.fl q.fl W hp.flen hq.flen hp.fcap hq.fcap rfl
    (fun h => by obtain ⟨b, off, e, hc⟩ := hp.fat h; exact ⟨b, off, e, fun i z hz j v hj => hk.cell0 (hc i z hz j v hj)⟩)
    (fun h => by obtain ⟨b, off, e, hc⟩ := hq.fat h; exact ⟨b, off, e, fun i z hz j v hj => hk.cell0 (hc i z hz j v hj)⟩)
    (fun i hi j hj W' hW => sameFn_any i j W' (((hp.fok i hi).no hk).no hW) (((hq.fok j hj).no hk).no hW)))
  obtain ⟨X2, hX2⟩ : ∃ X, sameRow Fx.same p.fl q.fl = X := ⟨_, rfl⟩
  rw [hX2] at HC ⊢
  unfold pv
  rw [gp, gq]
  obtain ⟨pm, hpm⟩ : ∃ m, p.main = m := ⟨_, rfl⟩
  obtain ⟨qm, hqm⟩ : ∃ m, q.main = m := ⟨_, rfl⟩
  rw [hpm, hqm]
  clear hp hq gp gq hX2 hpm hqm
  have hka : Keeps No w ((w.alloc (.cells #[.slice p.ga 0 p.gc, .slice p.fa p.fn p.fc, .int .i64 pm] 36)).alloc (.cells #[.slice q.ga 0 q.gc, .slice q.fa q.fn q.fc, .int .i64 qm] 36)) := ((Keeps.refl No w).alloc _).alloc _
  have HKA := Lib.hid hka
  clear hka
  by_cases hm : pm = qm
  · have u0 : (pm == qm) = true := beq_iff_eq.2 hm
    have HF : Hid ((decide (pm = qm) && X2) = X2) := Lib.hid (by rw [decide_eq_true hm]; rfl)
    clear hm
    go_enter Tryd.func18, Tryd.ntmps18
    go_wp2_with fail
    refine (eqg0 _ _ _ _ _ _).mono ?_
    rintro e w1 ⟨rfl, rfl⟩
    go_wp2_with fail
    refine (HC.out _ HKA.out).mono ?_
    rintro e w2 ⟨rfl, hk⟩
    have HK := Lib.hid (HKA.out.trans hk (fun _ _ e => e))
    clear hk
    go_wp2_with fail
    go_returns
    exact ⟨rb rfl HF.out.symm, HK.out⟩
  · have u0 : (pm == qm) = false := beq_eq_false_iff_ne.2 hm
    have HF : Hid ((decide (pm = qm) && X2) = false) := Lib.hid (by rw [decide_eq_false hm]; rfl)
    clear hm
    go_enter Tryd.func18, Tryd.ntmps18
    go_wp2_with fail
    go_returns
    exact ⟨rb rfl HF.out.symm, ((Keeps.refl _ _).alloc _).alloc _⟩
set_option maxRecDepth 100000 in
set_option maxHeartbeats 3200000 in
theorem copy0 (p : Pg) (w : World) (hp : PgOk w p) (hg0 : p.gn = 0) (hn : p.fn ≤ 100000) (hs : ∀ f ∈ p.fl, SmallFx f) : Calls Tryd.prog 16 #[pv p] w (CopyPg0 p w) := by
  have HC := Lib.hid (fun (W : World) (hk : Keeps No w W) => copyProg0 p W (hp.no hk) hg0 hn hs)
  clear hp hg0 hn hs
  go_enter Tryd.func16, Tryd.ntmps16
  go_wp2_with fail
  have hka : Keeps No w ((w.alloc (.cells #[.slice p.ga p.gn p.gc, .slice p.fa p.fn p.fc, .int .i64 p.main] 36)).alloc (.cells #[.slice none 0 0, .slice none 0 0, .int .i64 0] 36)) := ((Keeps.refl No w).alloc _).alloc _
  refine (HC.out _ hka).mono ?_
  rintro e w1 ⟨y, rfl, hm, hsm, hg, hok, hk⟩
  obtain ⟨B0, hB0⟩ : ∃ q, w.heap.size = q := ⟨_, rfl⟩
  have hr : w1.heap[B0 + 1]? = some (.cells #[.slice none 0 0, .slice none 0 0, .int .i64 0] 36 (0, 0)) := by
    rw [hk.block (B0 + 1) (by simp; omega) (fun e => e), ← hB0]
    exact (by simpa using heap_alloc_new (w.alloc (.cells #[.slice p.ga p.gn p.gc, .slice p.fa p.fn p.fc, .int .i64 p.main] 36)) (.cells #[.slice none 0 0, .slice none 0 0, .int .i64 0] 36))
  have HR := Lib.hid hr
  have HK := Lib.hid (hka.trans hk (fun _ _ e => e))
  have HB := Lib.hid hB0
  have HY := Lib.hid (And.intro hm (And.intro hsm (And.intro hg hok)))
  simp only [hB0]
  have s0 : w1.cell? ⟨B0 + 1, 0, none⟩ = some (.slice none 0 0) := by rw [cell_of_row w1 _ 0 _ _ _ hr]; rfl
  clear hr hk hka hB0 hm hsm hg hok HC
  go_wp2_with (first | (refine wpList_store_row rfl _ _ _ rfl (B0 + 1) #[.slice y.ga y.gn y.gc, .slice y.fa y.fn y.fc, .int .i64 y.main] rfl rfl _ _ HR.out infoPgS rfl (by simp [Value.oneCell']) ?_))
  obtain ⟨w9, hw9⟩ : ∃ W, w1.setRow (B0 + 1) #[.slice y.ga y.gn y.gc, .slice y.fa y.fn y.fc, .int .i64 y.main] = W := ⟨_, rfl⟩
  have hr9 : w9.heap[B0 + 1]? = some (.cells #[.slice y.ga y.gn y.gc, .slice y.fa y.fn y.fc, .int .i64 y.main] 36 (0, 0)) := by rw [← hw9]; exact setRow_heap w1 (B0 + 1) _ _ _ _ HR.out
  have hrc : ∀ j, w9.cell? ⟨B0 + 1, j, none⟩ = (#[.slice y.ga y.gn y.gc, .slice y.fa y.fn y.fc, .int .i64 y.main] : Array Value)[j]? := fun j => cell_of_row w9 _ j _ _ _ hr9
  have hk9 : Keeps (fun q => q = B0 + 1) w1 w9 := by rw [← hw9]; exact (Keeps.refl (fun q => q = B0 + 1) w1).setRow (.inl rfl) _
  rw [hw9]
  refine bodyPost_ret (v := .agg #[.slice y.ga y.gn y.gc, .slice y.fa y.fn y.fc, .int .i64 y.main]) ?_ ?_ ?_
  · simp [results, Tryd.results16, go_sem, hrc]
  · rfl
  · unfold CopyPg0
    refine ⟨y, rfl, HY.out.1, HY.out.2.1, HY.out.2.2.1, ?_, HK.out.trans hk9 (fun q hq e => by rw [HB.out] at hq; omega)⟩
    intro W hW
    refine HY.out.2.2.2 W ?_
    have h2 : (Keeps (fun q => q < ((w.alloc (.cells #[.slice p.ga p.gn p.gc, .slice p.fa p.fn p.fc, .int .i64 p.main] 36)).alloc (.cells #[.slice none 0 0, .slice none 0 0, .int .i64 0] 36)).heap.size) w1 w9) := hk9.mono (fun q _ e => by have := HB.out; simp; omega)
    exact h2.trans hW (fun q _ e => by simp; omega)
end Go.Proofs.YtbfjmhfhhlncjaaDoor
/- ir.Count, walk.Size. -/
namespace Go.Proofs.YtbfjmhfhhlncjaaDoor
open Go.RowKit
set_option linter.unusedVariables false
set_option linter.unusedSimpArgs false

def sizeL (l : List Bx) : Nat := (l.map (fun b => b.n)).sum
def countL (l : List Fx) : Nat := (l.map (fun f => sizeL f.bl)).sum
theorem sizeL_more {l : List Bx} {i : Nat} {b : Bx} (h : l[i]? = some b) : sizeL (l.take (i + 1)) = sizeL (l.take i) + b.n := by
  obtain ⟨h1, h2⟩ := List.getElem?_eq_some_iff.1 h
  unfold sizeL; rw [List.take_succ_eq_append_getElem h1, List.map_append, List.sum_append, h2]; simp
theorem countL_more {l : List Fx} {i : Nat} {b : Fx} (h : l[i]? = some b) : countL (l.take (i + 1)) = countL (l.take i) + sizeL b.bl := by
  obtain ⟨h1, h2⟩ := List.getElem?_eq_some_iff.1 h
  unfold countL; rw [List.take_succ_eq_append_getElem h1, List.map_append, List.sum_append, h2]; simp
theorem sizeL_le {l : List Bx} (i : Nat) : sizeL (l.take i) ≤ sizeL l := by
  have : sizeL l = sizeL (l.take i) + sizeL (l.drop i) := by unfold sizeL; rw [← List.sum_append, ← List.map_append, List.take_append_drop]
  omega
theorem countL_le {l : List Fx} (i : Nat) : countL (l.take i) ≤ countL l := by
  have : countL l = countL (l.take i) + countL (l.drop i) := by unfold countL; rw [← List.sum_append, ← List.map_append, List.take_append_drop]
  omega
theorem countL_at {l : List Fx} {i : Nat} {f : Fx} (h : l[i]? = some f) : sizeL f.bl ≤ countL l := by
  have := countL_more h; have := countL_le (l := l) (i + 1); omega
set_option maxRecDepth 100000 in
set_option maxHeartbeats 3200000 in
theorem size_any (f : Fx) (fb fo : Nat) (w : World) (hf : f.at_ w fb fo) (hok : FxOk w f) (hs : sizeL f.bl ≤ 1000000) :
    Calls Tryd.prog 46 #[.pointer (some ⟨fb, fo, none⟩)] w fun e w' => e = .returned (.int .i64 (sizeL f.bl)) ∧ w = w' := by
  have HFO := Lib.hid hok
  have c4 := hf 4 _ rfl
  have hcap := hok.cap
  unfold maxLen at hcap
  have HS := Lib.hid (fun i => Nat.le_trans (sizeL_le (l := f.bl) i) hs)
  obtain ⟨S, hS⟩ : ∃ S, sizeL f.bl = S := ⟨_, rfl⟩
  rw [hS]
  obtain ⟨ba, hba⟩ : ∃ A, f.ba = A := ⟨_, rfl⟩
  obtain ⟨bn, hbn⟩ : ∃ A, f.bn = A := ⟨_, rfl⟩
  obtain ⟨bc, hbc⟩ : ∃ A, f.bc = A := ⟨_, rfl⟩
  rw [hba, hbn, hbc] at c4
  rw [hbn, hbc] at hcap
  have HB := Lib.hid (And.intro hba hbn)
  have HSS := Lib.hid hS
  clear hf hok hs hS hba hbn hbc
  go_enter Tryd.func46, Tryd.ntmps46
  go_wp2_with fail
  go_loopg [3, 10] bn (fun g u v wr => ∃ i : Nat, u = .int .i64 (sizeL (f.bl.take i) : Nat) ∧ v = .int .i64 (i : Int) ∧ i ≤ bn ∧ g = bn - i ∧ w = wr)
  case atStart => exact ⟨0, rfl, rfl, Nat.zero_le _, rfl, rfl⟩
  case round =>
    obtain ⟨i, rfl, rfl, hi, hg, rfl⟩ := hrel
    by_cases hlt : i < bn
    · have hlt' : (i : Int) < (bn : Int) := by omega
      have i0 : (0 : Int) ≤ (i : Int) := by omega
      obtain ⟨bb, bo, z, hz, ha, cb, hbz⟩ := Fx.get HFO.out (i := i) (by rw [HB.out.2]; exact hlt)
      obtain rfl := HB.out.1.symm.trans ha
      have h1 := HS.out i
      have h2 := HS.out (i + 1)
      have h3 := sizeL_more hz
      rw [h3] at h2
      obtain ⟨S0, hS0⟩ : ∃ q, sizeL (f.bl.take i) = q := ⟨_, rfl⟩
      rw [hS0] at h1 h2 h3 ⊢
      have H3 := Lib.hid h3
      obtain ⟨za, zn, zc, zl⟩ := z
      simp only [Bx.v] at cb h2
      clear hz ha hbz h3 hS0
      go_wp2_with fail
      go_roundg (bn - (i + 1))
      case rel => exact ⟨i + 1, by rw [H3.out]; go_num, by go_num, by omega, rfl, rfl⟩
      case measure => omega
    · obtain rfl : i = bn := by omega
      have hlt' : ¬ (i : Int) < (i : Int) := by omega
      have hE : sizeL (f.bl.take i) = S := by rw [List.take_of_length_le (by have := HFO.out.len; have := HB.out.2; omega)]; exact HSS.out
      have HE := Lib.hid hE
      obtain ⟨S0, hS0⟩ : ∃ q, sizeL (f.bl.take i) = q := ⟨_, rfl⟩
      rw [hS0] at HE
      rw [hS0]
      clear hE hS0
      go_wp2_with fail
      go_returns
      exact ⟨ri rfl (by rw [HE.out]), rfl⟩
set_option maxRecDepth 100000 in
set_option maxHeartbeats 3200000 in
theorem count_any (p : Pg) (w : World) (hp : PgOk w p) (hs : countL p.fl ≤ 1000000) :
    Calls Tryd.prog 26 #[pv p] w fun e w' => e = .returned (.int .i64 (countL p.fl)) ∧ Keeps No w w' := by
  have HP := Lib.hid hp
  have HAT := Lib.hid (fun t => pg_boxed p w t)
  have hcap := hp.fcap
  unfold maxLen at hcap
  have HS := Lib.hid (fun i => Nat.le_trans (countL_le (l := p.fl) i) hs)
  have HSZ := Lib.hid (fun i f (h : p.fl[i]? = some f) => Nat.le_trans (countL_at h) hs)
  obtain ⟨S, hS⟩ : ∃ S, countL p.fl = S := ⟨_, rfl⟩
  rw [hS]
  obtain ⟨fa, hfa⟩ : ∃ A, p.fa = A := ⟨_, rfl⟩
  obtain ⟨fn, hfn⟩ : ∃ A, p.fn = A := ⟨_, rfl⟩
  obtain ⟨fc, hfc⟩ : ∃ A, p.fc = A := ⟨_, rfl⟩
  unfold pv
  rw [hfa, hfn, hfc]
  rw [hfn, hfc] at hcap
  have HB := Lib.hid (And.intro hfa hfn)
  have HSS := Lib.hid hS
  clear hp hs hS hfa hfn hfc
  go_enter Tryd.func26, Tryd.ntmps26
  go_wp2_with fail
  obtain ⟨w1, hw1⟩ : ∃ W, w.alloc (.cells #[.slice p.ga p.gn p.gc, .slice fa fn fc, .int .i64 p.main] 36) = W := ⟨_, rfl⟩
  have hk1 : Keeps No w w1 := by rw [← hw1]; exact (Keeps.refl _ _).alloc _
  have c1 : w1.cell? ⟨w.heap.size, 1, none⟩ = some (.slice fa fn fc) := by rw [← hw1, World.cell?_alloc_at _ _ _ _ rfl]; rfl
  have HK1 := Lib.hid hk1
  rw [hw1]
  clear hw1 hk1
  go_loopg [3, 8] fn (fun g u v wr => ∃ i : Nat, u = .int .i64 (countL (p.fl.take i) : Nat) ∧ v = .int .i64 (i : Int) ∧ i ≤ fn ∧ g = fn - i ∧ w1 = wr)
  case atStart => exact ⟨0, rfl, rfl, Nat.zero_le _, rfl, rfl⟩
  case round =>
    obtain ⟨i, rfl, rfl, hi, hg, rfl⟩ := hrel
    by_cases hlt : i < fn
    · have hlt' : (i : Int) < (fn : Int) := by omega
      have i0 : (0 : Int) ≤ (i : Int) := by omega
      obtain ⟨fb, fo, z, hz, ha, hft, hfo⟩ := Pg.fget HP.out (i := i) (by rw [HB.out.2]; exact hlt)
      obtain rfl := HB.out.1.symm.trans ha
      have h1 := HS.out i
      have h2 := HS.out (i + 1)
      have h3 := countL_more hz
      rw [h3] at h2
      have HC := Lib.hid (size_any z fb (fo + i * 6) w1 (hft.no HK1.out) (hfo.no HK1.out) (HSZ.out i z hz))
      obtain ⟨S0, hS0⟩ : ∃ q, countL (p.fl.take i) = q := ⟨_, rfl⟩
      obtain ⟨S1, hS1⟩ : ∃ q, sizeL z.bl = q := ⟨_, rfl⟩
      rw [hS0] at h1 h2 h3 ⊢
      rw [hS1] at h2 h3 HC
      have H3 := Lib.hid h3
      clear hz ha hft hfo h3 hS0 hS1
      go_wp2_with fail
      refine HC.out.mono ?_
      rintro e w2 ⟨rfl, rfl⟩
      go_wp2_with fail
      go_roundg (fn - (i + 1))
      case rel => exact ⟨i + 1, by rw [H3.out]; go_num, by go_num, by omega, rfl, rfl⟩
      case measure => omega
    · obtain rfl : i = fn := by omega
      have hlt' : ¬ (i : Int) < (i : Int) := by omega
      have hE : countL (p.fl.take i) = S := by rw [List.take_of_length_le (by have := HP.out.flen; have := HB.out.2; omega)]; exact HSS.out
      have HE := Lib.hid hE
      obtain ⟨S0, hS0⟩ : ∃ q, countL (p.fl.take i) = q := ⟨_, rfl⟩
      rw [hS0] at HE
      rw [hS0]
      clear hE hS0
      go_wp2_with fail
      go_returns
      exact ⟨ri rfl (by rw [HE.out]), HK1.out⟩
end Go.Proofs.YtbfjmhfhhlncjaaDoor
