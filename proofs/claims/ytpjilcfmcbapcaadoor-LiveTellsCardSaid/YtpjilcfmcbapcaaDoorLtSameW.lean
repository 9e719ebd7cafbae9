/- l13.same, where the function may be. -/
import Derived.Test.YtpjilcfmcbapcaaDoorLtSame
namespace Go.Proofs.YtpjilcfmcbapcaaDoor
open Go.RowKit
set_option linter.unusedVariables false
set_option linter.unusedSimpArgs false

set_option maxRecDepth 100000 in
set_option maxHeartbeats 12800000 in
theorem same_yes (f : Fx) (w : World) (hok : FxOk w f) (hm : f.may = true) (hg : GrFx f) (ht : LaidT w) :
    Calls Tryd.prog 7 #[fv f] w fun e w' => e = .returned (.bool true) ∧ Keeps No w w' := by
  obtain ⟨R, hR⟩ : ∃ R : Nat, f.regs = (R : Int) := ⟨f.regs.toNat, by have := hg.regs; omega⟩
  obtain ⟨R2, e1, hR2, hform, hbl0⟩ := may_regs hm
  obtain rfl : R2 = R := by rw [hR] at e1; omega
  have hR60 : R2 ≤ 60 := by have := hg.regs; omega
  have hsm : SmF f := hg.sm hok
  have hbn := hg.bn
  have hcap := hok.cap
  unfold maxLen at hcap
  have hblen : ∀ B ∈ f.bl, B.n ≤ 100000 := fun B hB => by have := (hg.bl B hB).1; omega
  have HMA := Lib.hid (fun (W : World) (hk : Keeps No w W) => rmay_any f W (hok.no hk) hg.small)
  rw [hm] at HMA
  have HLI := Lib.hid (fun (W : World) (hk : Keeps No w W) => rlive_any W f R2 f.bn (hok.no hk) hform hR hR2 rfl (by omega) (hg.to hok) hg.args)
  have HIN0 := Lib.hid (fun (W : World) (hk : Keeps No w W) => in_yes f W (hok.no hk) hm R2 hR hsm (ht.keep hk (fun e => e)))
  have HOUT0 := Lib.hid (fun (W : World) (hk : Keeps No w W) => out_yes f W (hok.no hk) hm R2 hR hsm (ht.keep hk (fun e => e)))
  have HDE0 := Lib.hid (fun (W : World) (hk : Keeps No w W) => dead_yes f W (hok.no hk) hm R2 hR hsm hblen (ht.keep hk (fun e => e)))
  have HRD0 := Lib.hid (fun (W : World) (hk : Keeps No w W) => rdead_any f W R2 (hok.no hk) hm hR hg)
  have HBE := Lib.hid (fun (W : World) (hk : Keeps No w W) => fun (b : Nat) (B : Bx) (ad : Option Addr) (cd X : Nat) (hB : f.bl[b]? = some B) (hX : BlAt W ad R2 X) => rbehind_any W f R2 b B ad cd X (hok.no hk) hform hR hR2 hB (hblen B (List.mem_of_getElem? hB)) (hg.args B (List.mem_of_getElem? hB)) hX)
  have HBY0 := Lib.hid (fun (W : World) (hk : Keeps No w W) => fun (b i : Nat) (B : Bx) (hB : f.bl[b]? = some B) (hi : i < B.n) => behind_yes f W (hok.no hk) hm R2 hR hsm (ht.keep hk (fun e => e)) b i B hB hi)
  have HBA := Lib.hid (fun (W : World) (hk : Keeps No w W) => fun (b : Nat) (B : Bx) (hB : f.bl[b]? = some B) => behind_above f W (hok.no hk) hm b B hB)
  have HBB := Lib.hid (fun (W : World) (hk : Keeps No w W) => fun (b : Nat) (B : Bx) (hB : f.bl[b]? = some B) => behind_below f W (hok.no hk) hm b B hB (-1) (by decide))
  have HBK := Lib.hid (fun (W : World) (hk : Keeps No w W) => behind_block f W (hok.no hk) hm 0)
  have HOK := Lib.hid hok
  have HG := Lib.hid hg
  have HBOX := Lib.hid (fun t => fx_boxed f w t)
  unfold fv at HMA HLI HIN0 HOUT0 HDE0 HRD0 HBE HBY0 HBA HBB HBK ⊢
  clear hok hm hg ht hR e1 hform hbl0 hsm hblen hR2
  go_enter Tryd.func7, Tryd.ntmps7
  go_upto_region 1 with fail
  obtain ⟨w1, hw1⟩ : ∃ W, w.alloc (.cells #[.string f.name, .int .i64 f.params, .int .i64 f.regs, f.slots.v, .slice f.ba f.bn f.bc, .bool f.value] 25) = W := ⟨_, rfl⟩
  obtain ⟨BX, hBX⟩ : ∃ q, w.heap.size = q := ⟨_, rfl⟩
  have HX : Hid (f.at_ w1 BX 0) := Lib.hid (by rw [← hw1, ← hBX]; exact HBOX.out _)
  have HK1 : Hid (Keeps No w w1) := Lib.hid (by rw [← hw1]; exact (Keeps.refl _ _).alloc _)
  rw [hw1, hBX]
  clear hw1 hBX HBOX
  have HC : Hid (∀ W, Keeps No w1 W → W.cell? ⟨BX, 0, none⟩ = some (.string f.name) ∧ W.cell? ⟨BX, 1, none⟩ = some (.int .i64 f.params) ∧ W.cell? ⟨BX, 2, none⟩ = some (.int .i64 f.regs) ∧ W.cell? ⟨BX, 3, none⟩ = some f.slots.v ∧ W.cell? ⟨BX, 4, none⟩ = some (.slice f.ba f.bn f.bc) ∧ W.cell? ⟨BX, 5, none⟩ = some (.bool f.value)) := Lib.hid (fun W hk =>
    ⟨hk.cell0 (HX.out 0 _ rfl), hk.cell0 (HX.out 1 _ rfl), hk.cell0 (HX.out 2 _ rfl), hk.cell0 (HX.out 3 _ rfl), hk.cell0 (HX.out 4 _ rfl), hk.cell0 (HX.out 5 _ rfl)⟩)
  clear HX
  have HKW : Hid (∀ W, Keeps No w1 W → Keeps No w W) := Lib.hid (fun W hk => HK1.out.trans hk (fun _ _ e => e))
  have HKA : Hid (Keeps No w1 w1) := Lib.hid (Keeps.refl _ _)
  obtain ⟨c0, c1, c2, c3, c4, c5⟩ := HC.out _ HKA.out
  go_wp2_with fail
  refine (HMA.out _ (HKW.out _ HKA.out)).mono ?_
  rintro e w2 ⟨rfl, hk2⟩
  have HKB : Hid (Keeps No w1 w2) := Lib.hid (HKA.out.trans hk2 (fun _ _ e => e))
  clear c0 c1 c2 c3 c4 c5 hk2 HKA HMA
  obtain ⟨c0, c1, c2, c3, c4, c5⟩ := HC.out _ HKB.out
  go_wp2_with fail
  refine (HLI.out _ (HKW.out _ HKB.out)).mono ?_
  rintro e w3 ⟨vi, vo, vsI, vsO, I, O, rfl, hle, hbd, htw⟩
  obtain ⟨ai, ci, rfl, hai⟩ := own_form htw.i.own
  obtain ⟨ao, co, rfl, hao⟩ := own_form htw.o.own
  have HLE := Lib.hid hle
  have HBD := Lib.hid hbd
  have HTW := Lib.hid htw
  have HAO := Lib.hid hao
  have HK3 : Hid (Keeps No w1 w3) := Lib.hid (HKB.out.trans htw.k (fun _ _ e => e))
  have HKW3 : Hid (∀ W, Keeps No w3 W → Keeps No w W) := Lib.hid (fun W hk => HKW.out _ (HK3.out.trans hk (fun _ _ e => e)))
  have HC3 : Hid (∀ W, Keeps No w3 W → W.cell? ⟨BX, 0, none⟩ = some (.string f.name) ∧ W.cell? ⟨BX, 1, none⟩ = some (.int .i64 f.params) ∧ W.cell? ⟨BX, 2, none⟩ = some (.int .i64 f.regs) ∧ W.cell? ⟨BX, 3, none⟩ = some f.slots.v ∧ W.cell? ⟨BX, 4, none⟩ = some (.slice f.ba f.bn f.bc) ∧ W.cell? ⟨BX, 5, none⟩ = some (.bool f.value)) := Lib.hid (fun W hk => HC.out W (HK3.out.trans hk (fun _ _ e => e)))
  clear c0 c1 c2 c3 c4 c5 HLI HC HKB
  have HLI : Hid ((List.range f.bn).map (fun b => listB (I b) R2) = (List.range f.bn).map (fun b => listB (backs (blk (bls f) b) (O b)) R2)) := Lib.hid (List.map_congr_left (fun b hb => by rw [(hbd b (List.mem_range.1 hb)).1]))
  have hun : ∀ O', Least (bls f) O' → ∀ b, b < f.bn → O' b = O b := fun O' h b hb => h.uniq hle (by rw [bls_len, HOK.out.len]; exact hb)
  have HIN : Hid (∀ W, Keeps No w3 W → Calls Tryd.prog 9 #[.agg #[.string f.name, .int .i64 f.params, .int .i64 f.regs, f.slots.v, .slice f.ba f.bn f.bc, .bool f.value]] W fun e w' => ∃ v, e = .returned v ∧ LL W.heap.size w' v ((List.range f.bn).map (fun b => listB (I b) R2)) ∧ Keeps No W w') := Lib.hid (fun W hk => (HIN0.out W (HKW3.out W hk)).mono (by
    rintro e w' ⟨v, O', rfl, h1, _, h2, h3⟩
    refine ⟨v, rfl, ?_, h3⟩
    rw [HLI.out]
    have e : (List.range f.bn).map (fun b => listB (backs (blk (bls f) b) (O' b)) R2) = (List.range f.bn).map (fun b => listB (backs (blk (bls f) b) (O b)) R2) := List.map_congr_left (fun b hb => by rw [hun O' h1 b (List.mem_range.1 hb)])
    rw [← e]; exact h2))
  have HOUT : Hid (∀ W, Keeps No w3 W → Calls Tryd.prog 10 #[.agg #[.string f.name, .int .i64 f.params, .int .i64 f.regs, f.slots.v, .slice f.ba f.bn f.bc, .bool f.value]] W fun e w' => ∃ v, e = .returned v ∧ LL W.heap.size w' v ((List.range f.bn).map (fun b => listB (O b) R2)) ∧ Keeps No W w') := Lib.hid (fun W hk => (HOUT0.out W (HKW3.out W hk)).mono (by
    rintro e w' ⟨v, O', rfl, h1, _, h2, h3⟩
    refine ⟨v, rfl, ?_, h3⟩
    have e : (List.range f.bn).map (fun b => listB (O' b) R2) = (List.range f.bn).map (fun b => listB (O b) R2) := List.map_congr_left (fun b hb => by rw [hun O' h1 b (List.mem_range.1 hb)])
    rw [← e]; exact h2))
  obtain ⟨DN, hDN⟩ : ∃ d : Nat, mu (dr f O) f.bn = d := ⟨_, rfl⟩
  have HDE : Hid (∀ W, Keeps No w3 W → Calls Tryd.prog 12 #[.agg #[.string f.name, .int .i64 f.params, .int .i64 f.regs, f.slots.v, .slice f.ba f.bn f.bc, .bool f.value]] W fun e w' => e = .returned (.int .i64 (DN : Int)) ∧ Keeps No W w') := Lib.hid (fun W hk => (HDE0.out W (HKW3.out W hk)).mono (by
    rintro e w' ⟨O', h1, rfl, h3⟩
    refine ⟨?_, h3⟩
    have e := dr_eq HOK.out h1 hle
    rw [← hDN, ← e]; rfl))
  have HRD : Hid (∀ W, Keeps No w3 W → Calls Tryd.prog 18 #[.agg #[.string f.name, .int .i64 f.params, .int .i64 f.regs, f.slots.v, .slice f.ba f.bn f.bc, .bool f.value]] W fun e w' => e = .returned (.int .i64 (DN : Int)) ∧ Keeps No W w') := Lib.hid (fun W hk => (HRD0.out W (HKW3.out W hk)).mono (by
    rintro e w' ⟨O', h1, rfl, h3⟩
    refine ⟨?_, h3⟩
    have e := dr_eq HOK.out h1 hle
    rw [← hDN, ← e]))
  have HBY : Hid (∀ W, Keeps No w3 W → ∀ (b i : Nat) (B : Bx), f.bl[b]? = some B → i < B.n → Calls Tryd.prog 14 #[.agg #[.string f.name, .int .i64 f.params, .int .i64 f.regs, f.slots.v, .slice f.ba f.bn f.bc, .bool f.value], .int .i64 (b : Int), .int .i64 (i : Int)] W fun e w' => ∃ v, e = .returned v ∧ Own W w' v (listB (backs (B.l.drop (i + 1)) (O b)) R2)) := Lib.hid (fun W hk b i B hB hi => (HBY0.out W (HKW3.out W hk) b i B hB hi).mono (by
    rintro e w' ⟨v, O', rfl, h1, h2⟩
    refine ⟨v, rfl, ?_⟩
    have hb : b < f.bn := by rw [← HOK.out.len]; exact (List.getElem?_eq_some_iff.1 hB).1
    rw [← hun O' h1 b hb]; exact h2))
  clear hle hbd htw hai hao hun hDN HIN0 HOUT0 HDE0 HRD0 HBY0 HLI
  go_upto_region 4 with fail
  have pF : ∀ u : KS No w3, _ := fun u => HC3.out u.W u.h
  have p0 := fun u => (pF u).1
  have p1 := fun u => (pF u).2.1
  have p2 := fun u => (pF u).2.2.1
  have p3 := fun u => (pF u).2.2.2.1
  have p4 := fun u => (pF u).2.2.2.2.1
  have p5 := fun u => (pF u).2.2.2.2.2
  clear pF
  have hne : Nonempty (KS No w3) := ⟨⟨w3, Keeps.refl _ _⟩⟩
  refine Mix.wp_region_mix (fun W' => ∃ u : KS No w3, W' = u.W) [] (by kernel_rfl) ?_
  have HV0 : Hid (Keeps No w3 w3.drew) := Lib.hid ((Keeps.refl _ w3).drew)
  generalize w3.drew = v0 at HV0 ⊢
  refine Mix.mix_seg 0 1 5 (by kernel_rfl) (by kernel_rfl) rfl rfl ⟨⟨v0, HV0.out⟩, rfl⟩ ?_
  simp only [List.drop_succ_cons, List.drop_zero, List.take_succ_cons, List.take_zero]
  repeat (go_big_quiet_step (fail))
  refine wpQuiet_nil ?_
  refine Mix.mix_seg 2 1 4 (by kernel_rfl) (by kernel_rfl) rfl rfl ⟨⟨v0, HV0.out⟩, rfl⟩ ?_
  simp only [List.drop_succ_cons, List.drop_zero, List.take_succ_cons, List.take_zero]
  repeat (go_big_quiet_step (fail))
  refine wpQuiet_nil ?_
  refine Mix.mix_one 1 3 (by kernel_rfl) rfl rfl ?_
  simp only [List.drop_succ_cons, List.drop_zero, List.take_succ_cons, List.take_zero]
  go_wp2_with fail
  refine (HIN.out v0 HV0.out).mono ?_
  rintro e w4 ⟨va, rfl, hla, hk4⟩
  obtain ⟨aa, ca, SA, rfl, hca1, hca2, hsa, hsm⟩ := hla.form (by omega)
  have HK4 : Hid (Keeps No w3 w4) := Lib.hid (HV0.out.trans hk4 (fun _ _ e => e))
  have HLA : Hid (LL w3.heap.size w4 (.slice aa f.bn ca) ((List.range f.bn).map (fun b => listB (I b) R2))) := Lib.hid (hla.mono HV0.out.size)
  have HSA := Lib.hid hsa
  have HSM := Lib.hid hsm
  clear hla hk4 hsa hsm
  go_wp2_with fail
  refine ⟨.inr ⟨⟨w4, HK4.out⟩, rfl⟩, ?_⟩
  refine Mix.mix_one 3 2 (by kernel_rfl) rfl rfl ?_
  simp only [List.drop_succ_cons, List.drop_zero, List.take_succ_cons, List.take_zero]
  go_wp2_with fail
  refine (HOUT.out w4 HK4.out).mono ?_
  rintro e w5 ⟨va, rfl, hlb, hk5⟩
  obtain ⟨ab, cb, SB, rfl, hcb1, hcb2, hsb, hsn⟩ := hlb.form (by omega)
  have HK5 : Hid (Keeps No w3 w5) := Lib.hid (HK4.out.trans hk5 (fun _ _ e => e))
  have HK45 := Lib.hid hk5
  have HSB := Lib.hid hsb
  have HSN := Lib.hid hsn
  clear hlb hk5 hsb hsn
  go_wp2_with fail
  refine ⟨.inr ⟨⟨w5, HK5.out⟩, rfl⟩, ?_⟩
  refine Mix.mix_seg 4 2 0 (by kernel_rfl) (by kernel_rfl) rfl rfl ⟨⟨w5, HK5.out⟩, rfl⟩ ?_
  simp only [List.drop_succ_cons, List.drop_zero, List.take_succ_cons, List.take_zero]
  repeat (go_big_quiet_step (fail))
  refine wpQuiet_nil ?_
  refine Mix.mix_end (by kernel_rfl) ?_
  go_upto_region 5 with fail
  have HT5 : Hid (∀ W, Keeps No w5 W → Keeps No w3 W) := Lib.hid (fun W hk => HK5.out.trans hk (fun _ _ e => e))
  clear p0 p1 p2 p3 p4 p5 hne
  have pF : ∀ u : KS No w5, _ := fun u => HC3.out u.W (HT5.out _ u.h)
  have p0 := fun u => (pF u).1
  have p1 := fun u => (pF u).2.1
  have p2 := fun u => (pF u).2.2.1
  have p3 := fun u => (pF u).2.2.2.1
  have p4 := fun u => (pF u).2.2.2.2.1
  have p5 := fun u => (pF u).2.2.2.2.2
  clear pF
  have hne : Nonempty (KS No w5) := ⟨⟨w5, Keeps.refl _ _⟩⟩
  go_cut [62] (fun v wx => v = .bool false ∧ Hid (Keeps No w5 wx))
  case first =>
    -- DEV<
    refine Mix.wp_region_mix (fun W' => ∃ u : KS No w5, W' = u.W) [] (by kernel_rfl) ?_
    have HA0 : Hid (Keeps No w5 w5.drew) := Lib.hid ((Keeps.refl _ w5).drew)
    generalize w5.drew = y0 at HA0 ⊢
    refine Mix.mix_seg 0 2 17 (by kernel_rfl) (by kernel_rfl) rfl rfl ⟨⟨y0, HA0.out⟩, rfl⟩ ?_
    simp only [List.drop_succ_cons, List.drop_zero, List.take_succ_cons, List.take_zero]
    repeat (go_big_quiet_step (fail))
    refine wpQuiet_nil ?_
    refine Mix.mix_one 2 16 (by kernel_rfl) rfl rfl ?_
    simp only [List.drop_succ_cons, List.drop_zero, List.take_succ_cons, List.take_zero]
    go_wp2_with fail
    refine (rlists_any y0 w2.heap.size f.bn R2 (.slice ai f.bn ci) vsI I (HTW.out.i.no (HT5.out _ HA0.out)) (by omega) (by omega)).mono ?_
    rintro e y1 ⟨va, rfl, hl1, hk1⟩
    obtain ⟨a1, c1, S1, rfl, h11, h12, hs1, hm1⟩ := hl1.form (by omega)
    have HA1 : Hid (Keeps No w5 y1) := Lib.hid (HA0.out.trans hk1 (fun _ _ e => e))
    have HS1 := Lib.hid hs1
    have HM1 := Lib.hid hm1
    clear hl1 hk1 hs1 hm1
    go_wp2_with fail
    refine ⟨.inr ⟨⟨y1, HA1.out⟩, rfl⟩, ?_⟩
    refine Mix.mix_one 3 15 (by kernel_rfl) rfl rfl ?_
    simp only [List.drop_succ_cons, List.drop_zero, List.take_succ_cons, List.take_zero]
    go_wp2_with fail
    refine (same_lists aa a1 f.bn f.bn ca c1 SA S1 y1 (HSA.out.no (HK45.out.trans HA1.out (fun _ _ e => e))) HS1.out (by omega)).mono ?_
    rintro e y2 ⟨he, hk2⟩
    rw [decide_eq_true (by rw [HSM.out, HM1.out])] at he
    subst he
    have HA2 : Hid (Keeps No w5 y2) := Lib.hid (HA1.out.trans hk2 (fun _ _ e => e))
    clear hk2
    go_wp2_with fail
    refine ⟨.inr ⟨⟨y2, HA2.out⟩, rfl⟩, ?_⟩
    refine Mix.mix_seg 4 2 13 (by kernel_rfl) (by kernel_rfl) rfl rfl ⟨⟨y2, HA2.out⟩, rfl⟩ ?_
    simp only [List.drop_succ_cons, List.drop_zero, List.take_succ_cons, List.take_zero]
    repeat (go_big_quiet_step (fail))
    refine wpQuiet_nil ?_
    refine Mix.mix_seg 6 2 11 (by kernel_rfl) (by kernel_rfl) rfl rfl ⟨⟨y2, HA2.out⟩, rfl⟩ ?_
    simp only [List.drop_succ_cons, List.drop_zero, List.take_succ_cons, List.take_zero]
    repeat (go_big_quiet_step (fail))
    refine wpQuiet_nil ?_
    refine Mix.mix_one 8 10 (by kernel_rfl) rfl rfl ?_
    simp only [List.drop_succ_cons, List.drop_zero, List.take_succ_cons, List.take_zero]
    go_wp2_with fail
    refine (rlists_any y2 w2.heap.size f.bn R2 (.slice ao f.bn co) vsO O (HTW.out.o.no (HT5.out _ HA2.out)) (by omega) (by omega)).mono ?_
    rintro e y3 ⟨va, rfl, hl1, hk1⟩
    obtain ⟨a3, c3, S3, rfl, h31, h32, hs3, hm3⟩ := hl1.form (by omega)
    have HA3 : Hid (Keeps No w5 y3) := Lib.hid (HA2.out.trans hk1 (fun _ _ e => e))
    have HS3 := Lib.hid hs3
    have HM3 := Lib.hid hm3
    clear hl1 hk1 hs3 hm3
    go_wp2_with fail
    refine ⟨.inr ⟨⟨y3, HA3.out⟩, rfl⟩, ?_⟩
    refine Mix.mix_one 9 9 (by kernel_rfl) rfl rfl ?_
    simp only [List.drop_succ_cons, List.drop_zero, List.take_succ_cons, List.take_zero]
    go_wp2_with fail
    refine (same_lists ab a3 f.bn f.bn cb c3 SB S3 y3 (HSB.out.no HA3.out) HS3.out (by omega)).mono ?_
    rintro e y4 ⟨he, hk2⟩
    rw [decide_eq_true (by rw [HSN.out, HM3.out])] at he
    subst he
    have HA4 : Hid (Keeps No w5 y4) := Lib.hid (HA3.out.trans hk2 (fun _ _ e => e))
    clear hk2
    go_wp2_with fail
    refine ⟨.inr ⟨⟨y4, HA4.out⟩, rfl⟩, ?_⟩
    refine Mix.mix_seg 10 3 6 (by kernel_rfl) (by kernel_rfl) rfl rfl ⟨⟨y4, HA4.out⟩, rfl⟩ ?_
    simp only [List.drop_succ_cons, List.drop_zero, List.take_succ_cons, List.take_zero]
    repeat (go_big_quiet_step (fail))
    refine wpQuiet_nil ?_
    refine Mix.mix_seg 13 1 5 (by kernel_rfl) (by kernel_rfl) rfl rfl ⟨⟨y4, HA4.out⟩, rfl⟩ ?_
    simp only [List.drop_succ_cons, List.drop_zero, List.take_succ_cons, List.take_zero]
    repeat (go_big_quiet_step (fail))
    refine wpQuiet_nil ?_
    refine Mix.mix_seg 15 1 4 (by kernel_rfl) (by kernel_rfl) rfl rfl ⟨⟨y4, HA4.out⟩, rfl⟩ ?_
    simp only [List.drop_succ_cons, List.drop_zero, List.take_succ_cons, List.take_zero]
    repeat (go_big_quiet_step (fail))
    refine wpQuiet_nil ?_
    refine Mix.mix_one 14 3 (by kernel_rfl) rfl rfl ?_
    simp only [List.drop_succ_cons, List.drop_zero, List.take_succ_cons, List.take_zero]
    go_wp2_with fail
    refine (HDE.out y4 (HT5.out _ HA4.out)).mono ?_
    rintro e y5 ⟨rfl, hk2⟩
    have HA5 : Hid (Keeps No w5 y5) := Lib.hid (HA4.out.trans hk2 (fun _ _ e => e))
    clear hk2
    go_wp2_with fail
    refine ⟨.inr ⟨⟨y5, HA5.out⟩, rfl⟩, ?_⟩
    refine Mix.mix_one 16 2 (by kernel_rfl) rfl rfl ?_
    simp only [List.drop_succ_cons, List.drop_zero, List.take_succ_cons, List.take_zero]
    go_wp2_with fail
    refine (HRD.out y5 (HT5.out _ HA5.out)).mono ?_
    rintro e y6 ⟨rfl, hk2⟩
    have HA6 : Hid (Keeps No w5 y6) := Lib.hid (HA5.out.trans hk2 (fun _ _ e => e))
    clear hk2
    go_wp2_with fail
    refine ⟨.inr ⟨⟨y6, HA6.out⟩, rfl⟩, ?_⟩
    refine Mix.mix_seg 17 2 0 (by kernel_rfl) (by kernel_rfl) rfl rfl ⟨⟨y6, HA6.out⟩, rfl⟩ ?_
    simp only [List.drop_succ_cons, List.drop_zero, List.take_succ_cons, List.take_zero]
    repeat (go_big_quiet_step (fail))
    refine wpQuiet_nil ?_
    refine Mix.mix_end (by kernel_rfl) ?_
    go_wp2_with fail
    go_meet
    exact ⟨rfl, HA6⟩
    -- DEV>
  case rest =>
    obtain ⟨rfl, HK6⟩ := hcut
    have HLA6 : Hid (LL w3.heap.size wc (.slice aa f.bn ca) ((List.range f.bn).map (fun b => listB (I b) R2))) := Lib.hid (HLA.out.no (HK45.out.trans HK6.out (fun _ _ e => e)))
    have HLB : Hid (∀ l ∈ (List.range f.bn).map (fun b => listB (I b) R2), l.length ≤ 1000000) := Lib.hid (fun l hl => (listB_ok (by omega) l hl).1)
    have HK36 : Hid (Keeps No w3 wc) := Lib.hid (HT5.out _ HK6.out)
    clear p0 p1 p2 p3 p4 p5 hne HLA HSA HSM HSB HSN HIN HOUT HDE HRD
    go_wp2_with fail
    go_loopg [7] f.bn (fun g v wr => ∃ k : Nat, v = .int .i64 (k : Int) ∧ k ≤ f.bn ∧ g = f.bn - k ∧ Hid (Mu (fun q => w3.heap.size ≤ q) wc wr))
    case atStart => exact ⟨0, rfl, Nat.zero_le _, rfl, Lib.hid (Mu.refl _ _)⟩
    case round =>
      obtain ⟨k, rfl, hk, hgk, HM⟩ := hrel
      by_cases hlt : k < f.bn
      · have hlt' : (k : Int) < (f.bn : Int) := by omega
        have k0 : (0 : Int) ≤ (k : Int) := by omega
        obtain ⟨g, ua, m, uc, haa, hm, hall⟩ := HLA6.out.over hlt HLB.out
        subst haa
        obtain ⟨cu, htr⟩ := hall wr HM.out
        have HTR := Lib.hid htr
        clear htr hall
        go_wp2_with fail
        refine (over_ints_mu (fun q => w3.heap.size ≤ q) (.slice ua m uc) m wr HTR.out hm).mono ?_
        rintro e y1 ⟨rfl, hm1⟩
        have HM1 : Hid (Mu (fun q => w3.heap.size ≤ q) wc y1) := Lib.hid (HM.out.trans hm1)
        clear hm1 cu HTR
        go_wp2_with fail
        go_roundg (f.bn - (k + 1))
        case rel => exact ⟨k + 1, by go_num, by omega, rfl, HM1⟩
        case measure => omega
      · have hlt' : ¬ (k : Int) < (f.bn : Int) := by omega
        have HKB : Hid (Keeps No w3 wr) := Lib.hid (HK36.out.trans HM.out.k (fun q hq e => by omega))
        clear HM HLA6 HLB
        go_wp2_with fail
        go_loopg [8] f.bn (fun g v wr => ∃ b : Nat, v = .int .i64 (b : Int) ∧ b ≤ f.bn ∧ g = f.bn - b ∧ Hid (Keeps No w3 wr))
        case atStart => exact ⟨0, rfl, Nat.zero_le _, rfl, HKB⟩
        case round =>
          obtain ⟨b, rfl, hb, hgb, HKC⟩ := hrel
          obtain ⟨c0, c1, c2, c3, c4, c5⟩ := HC3.out _ HKC.out
          by_cases hlb : b < f.bn
          · have hlb' : (b : Int) < (f.bn : Int) := by omega
            have hlb2 : (b : Int) < 12 := by omega
            have b0 : (0 : Int) ≤ (b : Int) := by omega
            obtain ⟨bb, bo, B, hB, hba, hcB, hBA⟩ := Fx.get HOK.out hlb
            have hB30 := (HG.out.bl B (List.mem_of_getElem? hB)).1
            have HB := Lib.hid hB
            obtain ⟨g, haog⟩ := HAO.out (by omega)
            subst haog
            have hel := HTW.out.o.el b hlb
            obtain ⟨ay, ky, hvy, _, _, hbl⟩ := own_bl hel
            have HBY2 : Hid (BlAt wr ay R2 (O b)) := Lib.hid (hbl.no HKC.out)
            have pO : ∀ u : KS No wr, u.W.cell? ⟨g, b, none⟩ = some (.slice ay R2 ky) := fun u => u.cell (HKC.out.cell0 (by rw [World.ownsRow.cellAt HTW.out.o.own b (by omega), vrow_get _ hlb, hvy])) (fun e => e)
            clear hB hba hcB hBA hel hvy hbl
            go_upto_region 14 with fail
            clear c0 c1 c2 c3 c4 c5
            have pF : ∀ u : KS No wr, _ := fun u => HC3.out u.W (HKC.out.trans u.h (fun _ _ e => e))
            have p0 := fun u => (pF u).1
            have p1 := fun u => (pF u).2.1
            have p2 := fun u => (pF u).2.2.1
            have p3 := fun u => (pF u).2.2.2.1
            have p4 := fun u => (pF u).2.2.2.2.1
            have p5 := fun u => (pF u).2.2.2.2.2
            clear pF
            have hne : Nonempty (KS No wr) := ⟨⟨wr, Keeps.refl _ _⟩⟩
            refine Mix.wp_region_mix (fun W' => ∃ u : KS No wr, W' = u.W) [] (by kernel_rfl) ?_
            have HV0 : Hid (Keeps No wr wr.drew) := Lib.hid ((Keeps.refl _ wr).drew)
            generalize wr.drew = v0 at HV0 ⊢
            refine Mix.mix_seg 0 6 2 (by kernel_rfl) (by kernel_rfl) rfl rfl ⟨⟨v0, HV0.out⟩, rfl⟩ ?_
            simp only [List.drop_succ_cons, List.drop_zero, List.take_succ_cons, List.take_zero]
            repeat (go_big_quiet_step (fail))
            refine wpQuiet_nil ?_
            refine Mix.mix_one 6 1 (by kernel_rfl) rfl rfl ?_
            simp only [List.drop_succ_cons, List.drop_zero, List.take_succ_cons, List.take_zero]
            clear p0 p1 p2 p3 p4 p5 pO hne
            go_wp2_with fail
            refine (HBE.out v0 (HKW3.out _ (HKC.out.trans HV0.out (fun _ _ e => e))) b B ay ky (O b) HB.out (HBY2.out.no HV0.out)).mono ?_
            rintro e x5 ⟨v5, rfl, ⟨vs5, hbr⟩, hk5⟩
            have HX5 : Hid (Keeps No wr x5) := Lib.hid (HV0.out.trans hk5 (fun _ _ e => e))
            obtain ⟨abb, cbb, rfl, hab⟩ := own_form hbr.own
            have HBR := Lib.hid hbr
            have HAB := Lib.hid hab
            clear hbr hab hk5
            go_wp2_with fail
            refine ⟨.inr ⟨⟨x5, HX5.out⟩, rfl⟩, ?_⟩
            clear HBY2
            refine Mix.mix_seg 7 1 0 (by kernel_rfl) (by kernel_rfl) rfl rfl ⟨⟨x5, HX5.out⟩, rfl⟩ ?_
            simp only [List.drop_succ_cons, List.drop_zero, List.take_succ_cons, List.take_zero]
            repeat (go_big_quiet_step (fail))
            refine wpQuiet_nil ?_
            refine Mix.mix_end (by kernel_rfl) ?_
            have HKD : Hid (Keeps No w3 x5) := Lib.hid (HKC.out.trans HX5.out (fun _ _ e => e))
            go_wp2_with fail
            obtain ⟨wB, rfl⟩ : ∃ W', W' = wr := ⟨_, rfl⟩
            obtain ⟨X, hX⟩ : ∃ X, O b = X := ⟨_, rfl⟩
            have HOB := Lib.hid hX
            rw [hX] at HBR
            clear hX
            go_loopg [10] B.n (fun k v wr => ∃ i : Nat, v = .int .i64 (i : Int) ∧ i ≤ B.n ∧ k = B.n - i ∧ Hid (Keeps No x5 wr))
            case atStart => exact ⟨0, rfl, Nat.zero_le _, rfl, Lib.hid (Keeps.refl _ _)⟩
            case round =>
              obtain ⟨i, rfl, hi, hgi, HKI⟩ := hrel
              have HKE : Hid (Keeps No w3 wr) := Lib.hid (HKD.out.trans HKI.out (fun _ _ e => e))
              by_cases hgo : i < B.n ∧ i < 20
              · obtain ⟨hi1, hi2⟩ := hgo
                have hi1' : (i : Int) < (B.n : Int) := by omega
                have hi2' : (i : Int) < 20 := by omega
                have i0 : (0 : Int) ≤ (i : Int) := by omega
                obtain ⟨av, cv, hvs, hbl⟩ := HBR.out.el i hi1
                obtain ⟨gb, hgb2⟩ := HAB.out (by omega)
                subst hgb2
                obtain ⟨Y, hY⟩ : ∃ Y, backs (B.l.drop (i + 1)) X = Y := ⟨_, rfl⟩
                simp only [hY] at hbl
                have HBLY : Hid (BlAt wr av R2 Y) := Lib.hid (hbl.no HKI.out)
                have pV : ∀ u : KS No wr, u.W.cell? ⟨gb, i, none⟩ = some (.slice av R2 cv) := fun u => u.cell (HKI.out.cell0 (by rw [World.ownsRow.cellAt HBR.out.own i (by omega), vrow_get _ hi1, hvs])) (fun e => e)
                have HBYW : Hid (∀ W, Keeps No w3 W → Calls Tryd.prog 14 #[.agg #[.string f.name, .int .i64 f.params, .int .i64 f.regs, f.slots.v, .slice f.ba f.bn f.bc, .bool f.value], .int .i64 (b : Int), .int .i64 (i : Int)] W fun e w' => ∃ v, e = .returned v ∧ Own W w' v (listB Y R2)) := Lib.hid (fun W hk => (HBY.out W hk b i B HB.out hi1).mono (by
                  rintro e w' ⟨v, rfl, h2⟩
                  rw [HOB.out, hY] at h2
                  exact ⟨v, rfl, h2⟩))
                have hlb3 : (listB Y R2).length ≤ 60 := Nat.le_trans (listB_len _ _) hR60
                obtain ⟨LN, hLN⟩ : ∃ n, (listB Y R2).length = n := ⟨_, rfl⟩
                rw [hLN] at hlb3
                have HLN := Lib.hid hLN
                clear hbl hvs hY hLN
                go_upto_region 18 with fail
                have pF : ∀ u : KS No wr, _ := fun u => HC3.out u.W (HKE.out.trans u.h (fun _ _ e => e))
                have p0 := fun u => (pF u).1
                have p1 := fun u => (pF u).2.1
                have p2 := fun u => (pF u).2.2.1
                have p3 := fun u => (pF u).2.2.2.1
                have p4 := fun u => (pF u).2.2.2.2.1
                have p5 := fun u => (pF u).2.2.2.2.2
                clear pF
                have hne : Nonempty (KS No wr) := ⟨⟨wr, Keeps.refl _ _⟩⟩
                refine Mix.wp_region_mix (fun W' => ∃ u : KS No wr, W' = u.W) [] (by kernel_rfl) ?_
                have HV1 : Hid (Keeps No wr wr.drew) := Lib.hid ((Keeps.refl _ wr).drew)
                generalize wr.drew = y0 at HV1 ⊢
                refine Mix.mix_seg 0 3 8 (by kernel_rfl) (by kernel_rfl) rfl rfl ⟨⟨y0, HV1.out⟩, rfl⟩ ?_
                simp only [List.drop_succ_cons, List.drop_zero, List.take_succ_cons, List.take_zero]
                repeat (go_big_quiet_step (fail))
                refine wpQuiet_nil ?_
                refine Mix.mix_seg 4 4 4 (by kernel_rfl) (by kernel_rfl) rfl rfl ⟨⟨y0, HV1.out⟩, rfl⟩ ?_
                simp only [List.drop_succ_cons, List.drop_zero, List.take_succ_cons, List.take_zero]
                repeat (go_big_quiet_step (fail))
                refine wpQuiet_nil ?_
                refine Mix.mix_one 3 3 (by kernel_rfl) rfl rfl ?_
                simp only [List.drop_succ_cons, List.drop_zero, List.take_succ_cons, List.take_zero]
                clear p0 p1 p2 p3 p4 p5 pV
                go_wp2_with fail
                refine (HBYW.out y0 (HKE.out.trans HV1.out (fun _ _ e => e))).mono ?_
                rintro e y1 ⟨v1, rfl, ho1⟩
                obtain ⟨da, dc, rfl, _⟩ := own_form ho1.o
                have HY1 : Hid (Keeps No wr y1) := Lib.hid (HV1.out.trans ho1.k (fun _ _ e => e))
                have hq1 := ho1.o
                rw [HLN.out] at hq1 ⊢
                have HS1 : Hid (SlAt y1 ⟨da, LN, dc, listB Y R2⟩) := Lib.hid (own_slat hq1 HLN.out (listB_bd (by omega)))
                clear ho1 hq1
                go_wp2_with fail
                refine ⟨.inr ⟨⟨y1, HY1.out⟩, rfl⟩, ?_⟩
                refine Mix.mix_one 8 2 (by kernel_rfl) rfl rfl ?_
                simp only [List.drop_succ_cons, List.drop_zero, List.take_succ_cons, List.take_zero]
                go_wp2_with fail
                refine (flist_any y1 av R2 cv Y (HBLY.out.no HY1.out) (by omega)).mono ?_
                rintro e y2 ⟨v1, rfl, ho1⟩
                obtain ⟨ea, ec, rfl, _⟩ := own_form ho1.o
                have HY2 : Hid (Keeps No wr y2) := Lib.hid (HY1.out.trans ho1.k (fun _ _ e => e))
                have hq1 := ho1.o
                rw [HLN.out] at hq1 ⊢
                have HS2 : Hid (SlAt y2 ⟨ea, LN, ec, listB Y R2⟩) := Lib.hid (own_slat hq1 HLN.out (listB_bd (by omega)))
                have HS12 : Hid (SlAt y2 ⟨da, LN, dc, listB Y R2⟩) := Lib.hid (HS1.out.no ho1.k)
                clear ho1 hq1
                go_wp2_with fail
                refine ⟨.inr ⟨⟨y2, HY2.out⟩, rfl⟩, ?_⟩
                refine Mix.mix_one 9 1 (by kernel_rfl) rfl rfl ?_
                simp only [List.drop_succ_cons, List.drop_zero, List.take_succ_cons, List.take_zero]
                go_wp2_with fail
                refine (same_ints ⟨da, LN, dc, listB Y R2⟩ ⟨ea, LN, ec, listB Y R2⟩ y2 HS12.out HS2.out (by simp only; omega)).mono ?_
                rintro e y3 ⟨he, m3, hm3⟩
                rw [decide_eq_true rfl] at he
                subst he
                have HY3 : Hid (Keeps No wr y3) := Lib.hid (by rw [← hm3]; exact HY2.out.drewN _)
                clear hm3
                go_wp2_with fail
                refine ⟨.inr ⟨⟨y3, HY3.out⟩, rfl⟩, ?_⟩
                refine Mix.mix_seg 10 1 0 (by kernel_rfl) (by kernel_rfl) rfl rfl ⟨⟨y3, HY3.out⟩, rfl⟩ ?_
                simp only [List.drop_succ_cons, List.drop_zero, List.take_succ_cons, List.take_zero]
                repeat (go_big_quiet_step (fail))
                refine wpQuiet_nil ?_
                refine Mix.mix_end (by kernel_rfl) ?_
                go_wp2_with fail
                go_roundg (B.n - (i + 1))
                case rel => exact ⟨i + 1, by go_num, by omega, rfl, Lib.hid (HKI.out.trans HY3.out (fun _ _ e => e))⟩
                case measure => omega
              · have hways : (¬ (i : Int) < (B.n : Int)) ∨ ((i : Int) < (B.n : Int) ∧ ¬ (i : Int) < 20) := by omega
                obtain ⟨c0, c1, c2, c3, c4, c5⟩ := HC3.out _ HKE.out
                rcases hways with h1 | ⟨h1, h2⟩
                all_goals (
                  go_wp2_with fail
                  refine (HBA.out wr (HKW3.out _ HKE.out) b B HB.out).mono ?_
                  rintro e y1 ⟨rfl, hk1⟩
                  have HY1 : Hid (Keeps No w3 y1) := Lib.hid (HKE.out.trans hk1 (fun _ _ e => e))
                  clear c0 c1 c2 c3 c4 c5 hk1
                  obtain ⟨c0, c1, c2, c3, c4, c5⟩ := HC3.out _ HY1.out
                  go_wp2_with fail
                  refine (HBB.out y1 (HKW3.out _ HY1.out) b B HB.out).mono ?_
                  rintro e y2 ⟨rfl, hk1⟩
                  have HY2 : Hid (Keeps No w3 y2) := Lib.hid (HY1.out.trans hk1 (fun _ _ e => e))
                  clear c0 c1 c2 c3 c4 c5 hk1
                  go_wp2_with fail
                  go_roundg (f.bn - (b + 1))
                  case rel => exact ⟨b + 1, by go_num, by omega, rfl, HY2⟩
                  case measure => omega)
          · have hlb' : ¬ (b : Int) < (f.bn : Int) := by omega
            have hbe : b = f.bn := by omega
            have HBKW : Hid (∀ W, Keeps No w3 W → Calls Tryd.prog 14 #[.agg #[.string f.name, .int .i64 f.params, .int .i64 f.regs, f.slots.v, .slice f.ba f.bn f.bc, .bool f.value], .int .i64 (f.bn : Int), .int .i64 0] W fun e w' => e = .returned (.slice none 0 0) ∧ Keeps No W w') := Lib.hid (fun W hk => HBK.out W (HKW3.out W hk))
            clear hbe
            go_wp2_with fail
            refine (HBKW.out wr HKC.out).mono ?_
            rintro e y1 ⟨rfl, hk1⟩
            have HY1 : Hid (Keeps No w3 y1) := Lib.hid (HKC.out.trans hk1 (fun _ _ e => e))
            clear c0 c1 c2 c3 c4 c5 hk1
            go_wp2_with fail
            go_returns
            exact ⟨rfl, HKW3.out _ HY1.out⟩
end Go.Proofs.YtpjilcfmcbapcaaDoor
