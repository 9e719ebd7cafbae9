/- GraphRings, walked. -/
import Derived.Test.YtkiimljdoebclaaDoorGrLawP
namespace Go.Proofs.YtkiimljdoebclaaDoor
open Go.RowKit Gm Go.Maps
set_option linter.unusedVariables false
set_option linter.unusedSimpArgs false

set_option maxRecDepth 100000 in
set_option maxHeartbeats 25600000 in
theorem rings_law (x y : Int) (hx : I64 x) (hy : I64 y) (w : World) (hl : Laid w) : Calls Tryd.prog 3 #[.int .i64 x, .int .i64 y] w fun e w' => e = .returned (.bool true) ∧ Keeps No w w' := by
  have HL := Lib.hid hl
  obtain ⟨k, hk, ek⟩ := low_nat x 12 (by omega)
  have HLX : Hid (Calls Tryd.prog 5 #[.int .i64 x, .int .i64 12] w fun e w' => e = .returned (.int .i64 (k : Int)) ∧ Keeps No w w') := Lib.hid (by rw [← ek]; exact low_any x 12 hx (by omega) w)
  obtain ⟨m, hm⟩ : ∃ m, k + 1 = m := ⟨_, rfl⟩
  have hm0 : 0 < m := by omega
  have hm12 : m ≤ 12 := by omega
  obtain ⟨b, hb, eb⟩ := low_nat y (m : Int) (by omega)
  have hbm : b < m := by omega
  have HLY : Hid (∀ W, Calls Tryd.prog 5 #[.int .i64 y, .int .i64 (m : Int)] W fun e w' => e = .returned (.int .i64 (b : Int)) ∧ Keeps No W w') := Lib.hid (fun W => by rw [← eb]; exact low_any y m hy (by omega) W)
  have HRI := Lib.hid (fun W => ring_any m b W hm0 hm12 hbm)
  have e1 : IntKind.i64.wrap (1 + (k : Int)) = (m : Int) := by rw [IntKind.wrap_i64]; omega
  clear hl hx hy ek eb hm hk hb
  go_enter Tryd.func3, Tryd.ntmps3
  go_wp2_with fail
  refine HLX.out.mono ?_
  rintro e w1 ⟨rfl, hk1⟩
  have HK1 := Lib.hid hk1
  clear hk1 HLX
  go_wp2_with fail
  refine (HLY.out w1).mono ?_
  rintro e w2 ⟨rfl, hk2⟩
  have HK2 := Lib.hid (HK1.out.trans hk2 (fun _ _ e => e))
  clear hk2 HLY HK1 e1
  go_wp2_with fail
  refine (HRI.out w2).mono ?_
  rintro e w3 ⟨p, rfl, hr, hok, hk3⟩
  have HR := Lib.hid hr
  have HPL := Lib.hid (hr.plain hm0 hm12 hbm)
  have HPO := Lib.hid (hr.ok hm0 hbm)
  have HTK := Lib.hid hr.tk
  have HF := Lib.hid (hr.facts hm0 hm12 hbm)
  have HOK := Lib.hid hok
  have HK3 := Lib.hid (HK2.out.trans hk3 (fun _ _ e => e))
  clear hr hok hk3 HRI HK2
  go_upto_region 4 with fail
  have hp2 := pg_boxed p w3 26
  have hk4 : Keeps No w3 (w3.alloc (.cells #[.slice p.ga p.gn p.gc, .slice p.fa p.fn p.fc, .int .i64 p.main] 26)) := (Keeps.refl _ _).alloc _
  generalize w3.alloc (.cells #[.slice p.ga p.gn p.gc, .slice p.fa p.fn p.fc, .int .i64 p.main] 26) = w4 at hp2 hk4 ⊢
  obtain ⟨PB, hPB⟩ : ∃ q, w3.heap.size = q := ⟨_, rfl⟩
  rw [hPB] at hp2 ⊢
  have HPB4 := Lib.hid hp2
  have HK4 := Lib.hid (HK3.out.trans hk4 (fun _ _ e => e))
  have HOK4 := Lib.hid (HOK.out.no hk4)
  clear hp2 hk4 hPB HOK HK3
  go_wp2_with fail
  go_loopg [6, 7] (m - b) (fun k u v wr => ∃ i : Nat, ∃ a c, u = .slice a i c ∧ v = .int .i64 ((b + i : Nat) : Int) ∧ b + i ≤ m ∧ k = m - b - i ∧ Hid (Keeps No w4 wr) ∧ Hid (wr.ownsRow w4.heap.size 3 1 (.slice a i c) i (irow (partI b i))))
  case atStart => exact ⟨0, none, 0, rfl, rfl, by omega, rfl, Lib.hid (Keeps.refl _ _), Lib.hid (World.ownsRow_nil _ _ _ _)⟩
  case round =>
    obtain ⟨i, a, c, rfl, rfl, hi, hg, HK, HO⟩ := hrel
    by_cases hlt : b + i < m
    · have hlt' : ((b + i : Nat) : Int) < (m : Int) := by omega
      have hs : w4.heap.size ≤ wr.heap.size := HK.out.size
      go_wp2_with (at_builtin; refine wpList_appG _ rfl (.tmp 25) (.tmp 27) rfl w4.heap.size (.slice a i c) i (partI b i) ((b + i : Nat) : Int) wr.heap.size rfl (HO.out.alloc _) rfl (heap_alloc_new _ _) (by omega) (by simp; omega) ?_)
      intro g' cap w5 ho hg5 hgo
      have hk5 : Keeps (fun q => (Value.slice a i c).ownBlock = some q) wr w5 := ((Keeps.refl _ _).alloc _).grown hg5 (fun q e => .inl e)
      have HK5 : Hid (Keeps No w4 w5) := Lib.hid (HK.out.trans hk5 (fun q hq e => by have := ownG_lo HO.out q e; omega))
      have HO5 : Hid (w5.ownsRow w4.heap.size 3 1 (.slice (some ⟨g', 0, none⟩) (i + 1) cap) (i + 1) (irow (partI b (i + 1)))) := Lib.hid (by rw [partI_more]; exact ho)
      clear ho hg5 hgo hk5 hs
      go_wp2_with fail
      go_roundg (m - b - (i + 1))
      case rel => exact ⟨i + 1, _, _, rfl, by go_num, by omega, rfl, HK5, HO5⟩
      case measure => omega
    · have hlt' : ¬ ((b + i : Nat) : Int) < (m : Int) := by omega
      have him : i = m - b := by omega
      obtain ⟨pn, hpn⟩ : ∃ q, i = q := ⟨_, rfl⟩
      have HPI : Hid (partI b i = partL m b) := Lib.hid (by rw [him]; rfl)
      have HIM := Lib.hid him
      have hbd : ∀ z ∈ partI b i, I64 z := partI_bd (by omega) (by omega)
      have HSP : Hid (SlAt wr ⟨a, i, c, partI b i⟩) := Lib.hid (by
        obtain ⟨a2, c2, e, hs⟩ := own_parts HO.out hbd
        injection e with e1 _ e2
        subst e1 e2
        exact hs)
      have HST : Hid (∀ q o, a = some ⟨q, o, none⟩ → ∃ cs, wr.heap[q]? = some (.cells cs 3 (0, 0))) := Lib.hid (fun q o e => by subst e; exact own_typ HO.out rfl)
      clear him hpn hbd
      obtain ⟨wA, rfl⟩ : ∃ W, W = wr := ⟨_, rfl⟩
      go_upto_region 10 with fail
      have hk6 : Keeps No wA (wA.alloc (.cells #[.slice a i c] 28)) := (Keeps.refl _ _).alloc _
      have HLV : Hid (LV (wA.alloc (.cells #[.slice a i c] 28)) wA.heap.size (.slice (some ⟨wA.heap.size, 0, none⟩) 1 1) (wantL m b 0)) := Lib.hid (by
        refine ⟨[.slice a i c], ⟨rfl, .inr ⟨wA.heap.size, 1, #[.slice a i c], rfl, Nat.le_refl _, heap_alloc_new _ _, Nat.le_refl _, by unfold maxLen; omega, rfl, rfl⟩⟩, fun j l hl => ?_⟩
        cases j with
        | zero =>
          obtain rfl : partL m b = l := by simpa [wantL] using hl
          exact ⟨⟨a, i, c, partI b i⟩, rfl, HPI.out, HSP.out.no hk6, by show i ≤ 1000000; omega, fun q o e => by obtain ⟨cs, hc⟩ := HST.out q o e; exact ⟨cs, (hk6.block q (Array.getElem?_eq_some_iff.1 hc).1 (fun e => e)).trans hc⟩⟩
        | succ j => simp [wantL] at hl)
      have HK6 := Lib.hid hk6
      have HSZ : Hid (wA.heap.size ≤ (wA.alloc (.cells #[.slice a i c] 28)).heap.size) := Lib.hid hk6.size
      generalize wA.alloc (.cells #[.slice a i c] 28) = w6 at HLV HK6 HSZ ⊢
      obtain ⟨BW, hBW⟩ : ∃ q, wA.heap.size = q := ⟨_, rfl⟩
      rw [hBW] at HLV HSZ ⊢
      have HBW := Lib.hid hBW
      clear hk6 hBW
      have e2 : IntKind.i64.wrap ((b : Int) - 1) = (b : Int) - 1 := by rw [IntKind.wrap_i64]; omega
      go_wp2_with fail
      go_loopg [8, 9] b (fun k u v wr => ∃ j : Nat, ∃ wa wc, ∃ z : Int, u = .slice wa (j + 1) wc ∧ v = .int .i64 z ∧ z = (b : Int) - 1 - (j : Int) ∧ j ≤ b ∧ k = b - j ∧ Hid (Keeps No wA wr) ∧ Hid (LV wr BW (.slice wa (j + 1) wc) (wantL m b j)))
      case atStart => exact ⟨0, some ⟨BW, 0, none⟩, 1, (b : Int) - 1, rfl, rfl, by omega, Nat.zero_le _, rfl, HK6, HLV⟩
      case round =>
        obtain ⟨j, wa, wc, z, rfl, rfl, hz, hj, hg2, HKJ, HVJ⟩ := hrel
        by_cases hjl : j < b
        · have z0 : decide (z ≥ 0) = true := decide_eq_true (by omega)
          have hzn : z = ((b - 1 - j : Nat) : Int) := by omega
          have hkz : Keeps No wr ((wr.alloc (.cells #[.int .i64 z] 3)).alloc (.cells #[.slice (some ⟨wr.heap.size, 0, none⟩) 1 1] 28)) := ((Keeps.refl No wr).alloc _).alloc _
          have HV2 := Lib.hid (HVJ.out.no hkz)
          have hwl : (wantL m b j).length = j + 1 := by simp [wantL]
          have hq2 : ((wr.alloc (.cells #[.int .i64 z] 3)).alloc (.cells #[.slice (some ⟨wr.heap.size, 0, none⟩) 1 1] 28)).heap[wr.heap.size + 1]? = some (.cells #[.slice (some ⟨wr.heap.size, 0, none⟩) 1 1] 28 (0, 0)) := by
            have h := heap_alloc_new (wr.alloc (.cells #[.int .i64 z] 3)) (.cells #[.slice (some ⟨wr.heap.size, 0, none⟩) 1 1] 28)
            simpa using h
          have hq1 : ((wr.alloc (.cells #[.int .i64 z] 3)).alloc (.cells #[.slice (some ⟨wr.heap.size, 0, none⟩) 1 1] 28)).heap[wr.heap.size]? = some (.cells #[.int .i64 z] 3 (0, 0)) := by
            rw [Below.heap_alloc _ _ _ (by simp)]; exact heap_alloc_new _ _
          have HSZ2 : Hid (SlAt ((wr.alloc (.cells #[.int .i64 z] 3)).alloc (.cells #[.slice (some ⟨wr.heap.size, 0, none⟩) 1 1] 28)) ⟨some ⟨wr.heap.size, 0, none⟩, 1, 1, [z]⟩) := Lib.hid ((sl_new wr [z] (by simp) (by intro y hy; simp at hy; subst hy; unfold I64; omega)).no ((Keeps.refl No _).alloc _))
          obtain ⟨vs, o1, o2⟩ := HV2.out.ex
          rw [hwl] at o1
          have HO1 := Lib.hid o1
          have HO2 := Lib.hid o2
          have HQ1 := Lib.hid (And.intro hq1 hq2)
          have HKZ := Lib.hid hkz
          have HZ := Lib.hid hzn
          have HWL := Lib.hid hwl
          have hsb : BW ≤ ((wr.alloc (.cells #[.int .i64 z] 3)).alloc (.cells #[.slice (some ⟨wr.heap.size, 0, none⟩) 1 1] 28)).heap.size := Nat.le_trans (by rw [← HBW.out]; exact HKJ.out.size) hkz.size
          have HSB := Lib.hid hsb
          clear hkz hq1 hq2 o1 o2 hzn hwl hsb hz
          go_wp2_with (at_builtin; refine wpList_appW _ rfl (.tmp 37) (.tmp 40) rfl BW (.slice wa (j + 1) wc) (j + 1) vs (.slice (some ⟨wr.heap.size, 0, none⟩) 1 1) (wr.heap.size + 1) rfl HO1.out rfl HQ1.out.2 rfl (by omega) HSB.out ?_)
          intro g' cap w7 ho hg7 hgo
          have hk7 : Keeps (fun q => (Value.slice wa (j + 1) wc).ownBlock = some q) ((wr.alloc (.cells #[.int .i64 z] 3)).alloc (.cells #[.slice (some ⟨wr.heap.size, 0, none⟩) 1 1] 28)) w7 := (Keeps.refl _ _).grown hg7 (fun q e => .inl e)
          have HV7 : Hid (LV w7 BW (.slice (some ⟨g', 0, none⟩) (j + 1 + 1) cap) (wantL m b (j + 1))) := Lib.hid (by
            have h := LV.push (s := ⟨some ⟨wr.heap.size, 0, none⟩, 1, 1, [z]⟩) (g' := g') (cap := cap) vs (by rw [HWL.out]; exact HO1.out) HO2.out hk7 (by rw [HWL.out]; exact ho) HSZ2.out (by simp only; omega) (fun q o e => by injection e with e; injection e with e1 _ _; subst e1; exact ⟨_, HQ1.out.1⟩)
            rw [HWL.out] at h
            rw [wantL_more, ← HZ.out]
            exact h)
          have HK7 : Hid (Keeps No wA w7) := Lib.hid ((HKJ.out.trans HKZ.out (fun _ _ e => e)).trans hk7 (fun q hq e => by have := ownG_lo HO1.out q e; have := HBW.out; omega))
          have e3 : IntKind.i64.wrap (z - 1) = z - 1 := by have := HZ.out; rw [IntKind.wrap_i64]; omega
          clear ho hg7 hgo hk7 HV2 HSZ2 HO1 HO2 HQ1 HKZ
          go_wp2_with fail
          go_roundg (b - (j + 1))
          case rel => exact ⟨j + 1, _, _, z - 1, rfl, rfl, by have := HZ.out; omega, by omega, rfl, HK7, HV7⟩
          case measure => omega
        · obtain rfl : j = b := by omega
          have z0 : decide (z ≥ 0) = false := decide_eq_false (by omega)
          clear hz
          obtain ⟨wa2, wc2, S2, ev, hS2, hm2⟩ := HVJ.out.lists
          rw [show (wantL m j j).length = j + 1 by simp [wantL]] at ev hS2
          injection ev with ev1 _ ev2
          subst ev1 ev2
          have HS2 := Lib.hid hS2
          have HM2 : Hid (S2.map Sl.l = wantM m j) := Lib.hid (by rw [hm2]; rfl)
          have HKW : Hid (Keeps No w wr) := Lib.hid ((HK4.out.trans HK.out (fun _ _ e => e)).trans HKJ.out (fun _ _ e => e))
          have HPBw : Hid (p.at_ wr PB 0) := Lib.hid ((HPB4.out.no HK.out).no HKJ.out)
          have HOKw : Hid (PgOk wr p) := Lib.hid ((HOK4.out.no HK.out).no HKJ.out)
          have HSPw := Lib.hid (HSP.out.no HKJ.out)
          clear hS2 hm2 HVJ HKJ
          have p0 : wr.cell? ⟨PB, 0, none⟩ = some (.slice p.ga p.gn p.gc) := HPBw.out 0 _ rfl
          have p1 : wr.cell? ⟨PB, 1, none⟩ = some (.slice p.fa p.fn p.fc) := HPBw.out 1 _ rfl
          have p2 : wr.cell? ⟨PB, 2, none⟩ = some (.int .i64 p.main) := HPBw.out 2 _ rfl
          have HPA := Lib.hid (parts_any p wr 40 (wantM m j) HOKw.out (HL.out.no HKW.out) HPL.out HTK.out HPO.out HF.out.parts)
          go_wp2_with fail
          refine HPA.out.mono ?_
          rintro e w3 ⟨a3, k3, c3, rfl, ⟨S3, hs3, hm3⟩, hk3⟩
          have HL4 : Hid (Calls Tryd.prog 7 #[.slice a3 k3 c3, .slice wa (j + 1) wc] w3 fun e w' => e = .returned (.bool true) ∧ Keeps No w3 w') := Lib.hid (lists_true a3 wa k3 (j + 1) c3 wc S3 S2 w3 hs3 (HS2.out.no hk3) (by have := congrArg List.length hm3; have h2 := hs3.len; simp [wantM] at this; omega) (by rw [hm3, HM2.out]))
          have HK3 := Lib.hid (HKW.out.trans hk3 (fun _ _ e => e))
          have HOK3 := Lib.hid (HOKw.out.no hk3)
          have HPB3 := Lib.hid (HPBw.out.no hk3)
          have HSP3 := Lib.hid (HSPw.out.no hk3)
          clear hs3 hm3 hk3 HPA p0 p1 p2 HPBw HOKw HKW HS2 HM2 HSPw
          go_wp2_with fail
          refine HL4.out.mono ?_
          rintro e w5 ⟨rfl, hk5⟩
          have HK5 := Lib.hid (HK3.out.trans hk5 (fun _ _ e => e))
          have HOK5 := Lib.hid (HOK3.out.no hk5)
          have HPB5 := Lib.hid (HPB3.out.no hk5)
          have HSP5 := Lib.hid (HSP3.out.no hk5)
          clear hk5 HL4 HK3 HOK3 HPB3 HSP3
          have p0 : w5.cell? ⟨PB, 0, none⟩ = some (.slice p.ga p.gn p.gc) := HPB5.out 0 _ rfl
          have p1 : w5.cell? ⟨PB, 1, none⟩ = some (.slice p.fa p.fn p.fc) := HPB5.out 1 _ rfl
          have p2 : w5.cell? ⟨PB, 2, none⟩ = some (.int .i64 p.main) := HPB5.out 2 _ rfl
          have HCY := Lib.hid (cyclic_any p w5 40 (partL m j) HOK5.out (HL.out.no HK5.out) HPL.out HTK.out HPO.out HF.out.cyc)
          go_wp2_with fail
          refine HCY.out.mono ?_
          rintro e w6 ⟨v6, rfl, ho6, hk6⟩
          obtain ⟨a6, c6, rfl, hs6⟩ := own_parts ho6 (by intro z hz; simp [partL] at hz; obtain ⟨q, h1, h2⟩ := hz; unfold I64; omega)
          have hpl : (partL m j).length = i := by rw [HIM.out]; simp [partL]
          rw [hpl] at hs6 ⊢
          have HI7 : Hid (Calls Tryd.prog 9 #[.slice a6 i c6, .slice a i c] w6 fun e w' => e = .returned (.bool true) ∧ Keeps No w6 w') := Lib.hid (ints_true ⟨a6, i, c6, partL m j⟩ ⟨a, i, c, partI j i⟩ _ hs6 (HSP5.out.no hk6) (by have := HIM.out; simp only; omega) (by rw [HPI.out]))
          have HK6 := Lib.hid (HK5.out.trans hk6 (fun _ _ e => e))
          have HOK6 := Lib.hid (HOK5.out.no hk6)
          have HPB6 := Lib.hid (HPB5.out.no hk6)
          clear ho6 hs6 hk6 hpl HCY p0 p1 p2 HK5 HOK5 HPB5 HSP5
          go_wp2_with fail
          refine HI7.out.mono ?_
          rintro e w8 ⟨rfl, hk8⟩
          have HK8 := Lib.hid (HK6.out.trans hk8 (fun _ _ e => e))
          have HOK8 := Lib.hid (HOK6.out.no hk8)
          have HPB8 := Lib.hid (HPB6.out.no hk8)
          clear hk8 HI7 HK6 HOK6 HPB6
          have p0 : w8.cell? ⟨PB, 0, none⟩ = some (.slice p.ga p.gn p.gc) := HPB8.out 0 _ rfl
          have p1 : w8.cell? ⟨PB, 1, none⟩ = some (.slice p.fa p.fn p.fc) := HPB8.out 1 _ rfl
          have p2 : w8.cell? ⟨PB, 2, none⟩ = some (.int .i64 p.main) := HPB8.out 2 _ rfl
          obtain ⟨al, hal1, hal2, hal3⟩ := HF.out.reach
          have HRE := Lib.hid (reach_any p w8 40 al HOK8.out (HL.out.no HK8.out) HPL.out HTK.out (by rw [HR.out.fs, HR.out.fn]) HPO.out hal1 (by omega))
          have HAL := Lib.hid (And.intro hal2 hal3)
          clear hal1 hal2 hal3
          go_wp2_with fail
          refine HRE.out.mono ?_
          rintro e w9 ⟨v9, rfl, ho9, hk9⟩
          rw [HAL.out.1, HAL.out.2] at ho9
          obtain ⟨a9, c9, rfl, hs9⟩ := own_parts (l := (List.range m).map fun i => ((i : Nat) : Int)) (by simpa using ho9) (by intro z hz; simp at hz; obtain ⟨q, h1, h2⟩ := hz; unfold I64; omega)
          have HK9 := Lib.hid (HK8.out.trans hk9 (fun _ _ e => e))
          clear ho9 hs9 hk9 HRE p0 p1 p2 HK8 HOK8 HPB8
          have HAW := Lib.hid (fun W hW => awake_any W hW)
          go_wp2_with fail
          refine (HAW.out w9 (HL.out.no HK9.out)).mono ?_
          rintro e w10 ⟨rfl, hk10⟩
          have HK10 := Lib.hid (HK9.out.trans hk10 (fun _ _ e => e))
          clear hk10 HAW HK9
          go_wp2_with fail
          go_returns
          exact ⟨rb rfl rfl, HK10.out⟩
end Go.Proofs.YtkiimljdoebclaaDoor
