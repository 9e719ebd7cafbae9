/- The document's Dead. -/
import Derived.Test.YtpjilcfmcbapcaaDoorLtMay
import Derived.Test.YtpjilcfmcbapcaaDoorLtLive
import Derived.Test.YtpjilcfmcbapcaaDoorLtAfter
import Derived.Test.YtpjilcfmcbapcaaDoorLtGreat
import Derived.Test.YtpjilcfmcbapcaaDoorLvDead
namespace Go.Proofs.YtpjilcfmcbapcaaDoor
open Go.RowKit
set_option linter.unusedVariables false
set_option linter.unusedSimpArgs false

theorem GrFx.to {f : Fx} {w : World} (h : GrFx f) (hok : FxOk w f) : ∀ b ∈ f.bl, (lastTo b.l).length ≤ 100 := fun b hb => by
  unfold lastTo
  cases e : b.l.getLast? with
  | none => simp
  | some x =>
    have hx : x ∈ b.l := List.mem_of_getLast? e
    have h1 := ((h.bl b hb).2 x hx).2.1
    have h2 := ((hok.ok b hb).ok x hx).to.len
    simp only
    unfold toI
    split
    · omega
    · simp
theorem GrFx.args {f : Fx} (h : GrFx f) : ∀ b ∈ f.bl, ∀ x ∈ b.l, x.args.n ≤ 100000 := fun b hb x hx => by
  have h1 := ((h.bl b hb).2 x hx).1
  omega
theorem GrFx.small {f : Fx} (h : GrFx f) : ∀ b ∈ f.bl, ∀ x ∈ b.l, x.args.n ≤ 100000 ∧ x.cases_.n ≤ 1000000 := fun b hb x hx => by
  have h1 := (h.bl b hb).2 x hx
  exact ⟨by have := h1.1; omega, by have := h1.2.2; omega⟩
theorem GrFx.sm {f : Fx} {w : World} (h : GrFx f) (hok : FxOk w f) : SmF f := ⟨by have := h.bn; omega, h.to hok, h.args⟩
/-- How many are dead in a block. -/
def dr (f : Fx) (O : Nat → Nat) (c : Nat) : Nat := deadRow (O c) (blk (bls f) c)
set_option maxRecDepth 100000 in
set_option maxHeartbeats 6400000 in
theorem rdead_any (f : Fx) (w : World) (R : Nat) (hok : FxOk w f) (hm : f.may = true) (hR : f.regs = (R : Int)) (hg : GrFx f) :
    Calls Tryd.prog 18 #[fv f] w fun e w' => ∃ O, Least (bls f) O ∧ e = .returned (.int .i64 (mu (dr f O) f.bn : Nat)) ∧ Keeps No w w' := by
  obtain ⟨R2, e1, hR2, hform, hbl0⟩ := may_regs hm
  obtain rfl : R2 = R := by rw [hR] at e1; omega
  have HMA := Lib.hid (fun (W : World) (hk : Keeps No w W) => rmay_any f W (hok.no hk) hg.small)
  rw [hm] at HMA
  have HLI := Lib.hid (fun (W : World) (hk : Keeps No w W) => rlive_any W f R2 f.bn (hok.no hk) hform hR hR2 rfl (by have := hg.bn; omega) (hg.to hok) hg.args)
  have HBE := Lib.hid (fun (W : World) (hk : Keeps No w W) => fun (b : Nat) (B : Bx) (ad : Option Addr) (cd X : Nat) (hB : f.bl[b]? = some B) (hX : BlAt W ad R2 X) => rbehind_any W f R2 b B ad cd X (hok.no hk) hform hR hR2 hB (by have := (hg.bl B (List.mem_of_getElem? hB)).1; omega) (hg.args B (List.mem_of_getElem? hB)) hX)
  have HDEF : Hid (∀ (b : Nat) (B : Bx), f.bl[b]? = some B → ∀ x ∈ B.l, pureI x.op x.sub = true → 0 ≤ x.d ∧ x.d.toNat < R2) := Lib.hid (fun b B hB x hx h => form_def hform hR (List.mem_of_getElem? hB) hx (pure_writes h))
  have HOK := Lib.hid hok
  have HG := Lib.hid hg
  have hbn := hg.bn
  have hcap := hok.cap
  unfold maxLen at hcap
  have HBOX := Lib.hid (fun t => fx_boxed f w t)
  have HRG := Lib.hid hR
  unfold fv at HMA HLI HBE ⊢
  clear hok hm hR hg e1 hform hbl0 hR2
  go_enter Tryd.func18, Tryd.ntmps18
  go_upto_region 1 with fail
  obtain ⟨w1, hw1⟩ : ∃ W, w.alloc (.cells #[.string f.name, .int .i64 f.params, .int .i64 f.regs, f.slots.v, .slice f.ba f.bn f.bc, .bool f.value] 25) = W := ⟨_, rfl⟩
  obtain ⟨BX, hBX⟩ : ∃ q, w.heap.size = q := ⟨_, rfl⟩
  have HX : Hid (f.at_ w1 BX 0) := Lib.hid (by rw [← hw1, ← hBX]; exact HBOX.out _)
  have HK1 : Hid (Keeps No w w1) := Lib.hid (by rw [← hw1]; exact (Keeps.refl _ _).alloc _)
  rw [hw1, hBX]
  clear hw1 hBX HBOX
  have c0 : w1.cell? ⟨BX, 0, none⟩ = some (.string f.name) := HX.out 0 _ rfl
  have c1 : w1.cell? ⟨BX, 1, none⟩ = some (.int .i64 f.params) := HX.out 1 _ rfl
  have c2 : w1.cell? ⟨BX, 2, none⟩ = some (.int .i64 f.regs) := HX.out 2 _ rfl
  have c3 : w1.cell? ⟨BX, 3, none⟩ = some f.slots.v := HX.out 3 _ rfl
  have c4 : w1.cell? ⟨BX, 4, none⟩ = some (.slice f.ba f.bn f.bc) := HX.out 4 _ rfl
  have c5 : w1.cell? ⟨BX, 5, none⟩ = some (.bool f.value) := HX.out 5 _ rfl
  have HC := Lib.hid (And.intro c0 (And.intro c1 (And.intro c2 (And.intro c3 (And.intro c4 c5)))))
  go_wp2_with fail
  refine (HMA.out _ HK1.out).mono ?_
  rintro e w2 ⟨rfl, hk2⟩
  have HK2 : Hid (Keeps No w1 w2) := Lib.hid hk2
  clear c0 c1 c2 c3 c4 c5 hk2 HMA
  have c0 := HK2.out.cell0 HC.out.1
  have c1 := HK2.out.cell0 HC.out.2.1
  have c2 := HK2.out.cell0 HC.out.2.2.1
  have c3 := HK2.out.cell0 HC.out.2.2.2.1
  have c4 := HK2.out.cell0 HC.out.2.2.2.2.1
  have c5 := HK2.out.cell0 HC.out.2.2.2.2.2
  go_wp2_with fail
  refine (HLI.out _ (HK1.out.trans HK2.out (fun _ _ e => e))).mono ?_
  rintro e w3 ⟨vi, vo, vsI, vsO, I, O, rfl, hle, hbd, htw⟩
  obtain ⟨ai, ci, rfl, hai⟩ := own_form htw.i.own
  obtain ⟨ao, co, rfl, hao⟩ := own_form htw.o.own
  have HLE := Lib.hid hle
  have HBD := Lib.hid hbd
  have HTW := Lib.hid htw
  have HAO := Lib.hid hao
  have HK3 : Hid (Keeps No w1 w3) := Lib.hid (HK2.out.trans htw.k (fun _ _ e => e))
  clear c0 c1 c2 c3 c4 c5 hle hbd htw hai hao HLI
  have c4 := HK3.out.cell0 HC.out.2.2.2.2.1
  go_wp2_with fail
  clear c4
  go_loopg [5, 6] f.bn (fun k v5 v6 wr => ∃ b : Nat, v6 = .int .i64 (b : Int) ∧ b ≤ f.bn ∧ k = f.bn - b ∧ v5 = .int .i64 ((mu (dr f O) b : Nat) : Int) ∧ Hid (Keeps No w3 wr))
  case atStart => exact ⟨0, rfl, Nat.zero_le _, rfl, rfl, Lib.hid (Keeps.refl _ _)⟩
  case round =>
    obtain ⟨b, rfl, hb, hgk, rfl, HKR⟩ := hrel
    have HK4 : Hid (Keeps No w1 wr) := Lib.hid (HK3.out.trans HKR.out (fun _ _ e => e))
    have c4 := HK4.out.cell0 HC.out.2.2.2.2.1
    by_cases hlt : b < f.bn
    · have hlt' : (b : Int) < (f.bn : Int) := by omega
      have b0 : (0 : Int) ≤ (b : Int) := by omega
      obtain ⟨bb, bo, B, hB, hba, hcB, hBA⟩ := Fx.get HOK.out hlt
      have hgB := HG.out.bl B (List.mem_of_getElem? hB)
      have HB := Lib.hid hB
      have HBA := Lib.hid hBA
      have HBB := Lib.hid hba
      have HBN : Hid (B.n ≤ 30) := Lib.hid hgB.1
      have hcB' := (HK1.out.trans HK4.out (fun _ _ e => e)).cell0 hcB
      have HMU : Hid (mu (dr f O) (b + 1) = mu (dr f O) b + deadRow (O b) B.l) := Lib.hid (by show _ + dr f O b = _; unfold dr; rw [blk_get hB])
      have hdr : ∀ c, c < b → dr f O c ≤ 30 := fun c hc => by
        obtain ⟨C, hC⟩ : ∃ C, f.bl[c]? = some C := ⟨_, List.getElem?_eq_getElem (by rw [HOK.out.len]; omega)⟩
        have h1 := (HG.out.bl C (List.mem_of_getElem? hC)).1
        have h2 := (HOK.out.ok C (List.mem_of_getElem? hC)).len
        unfold dr
        rw [blk_get hC]
        have h3 := deadRow_le (O c) C.l
        omega
      have hmu : mu (dr f O) b ≤ 12 * 30 := Nat.le_trans (mu_le _ 30 b hdr) (Nat.mul_le_mul_right _ (by omega))
      obtain ⟨g, rfl⟩ := HAO.out (by omega)
      have hel := HTW.out.o.el b hlt
      obtain ⟨ay, ky, hvy, _, _, hbl⟩ := own_bl hel
      have pO : ∀ u : KS No wr, u.W.cell? ⟨g, b, none⟩ = some (.slice ay R2 ky) := fun u => u.cell (HKR.out.cell0 (by rw [World.ownsRow.cellAt HTW.out.o.own b (by omega), vrow_get _ hlt, hvy])) (fun e => e)
      have HBY : Hid (BlAt wr ay R2 (O b)) := Lib.hid (hbl.no HKR.out)
      have hq := HC.out
      have p0 : ∀ u : KS No wr, u.W.cell? ⟨BX, 0, none⟩ = some (.string f.name) := fun u => u.cell (HK4.out.cell0 hq.1) (fun e => e)
      have p1 : ∀ u : KS No wr, u.W.cell? ⟨BX, 1, none⟩ = some (.int .i64 f.params) := fun u => u.cell (HK4.out.cell0 hq.2.1) (fun e => e)
      have p2 : ∀ u : KS No wr, u.W.cell? ⟨BX, 2, none⟩ = some (.int .i64 f.regs) := fun u => u.cell (HK4.out.cell0 hq.2.2.1) (fun e => e)
      have p3 : ∀ u : KS No wr, u.W.cell? ⟨BX, 3, none⟩ = some f.slots.v := fun u => u.cell (HK4.out.cell0 hq.2.2.2.1) (fun e => e)
      have p4 : ∀ u : KS No wr, u.W.cell? ⟨BX, 4, none⟩ = some (.slice f.ba f.bn f.bc) := fun u => u.cell (HK4.out.cell0 hq.2.2.2.2.1) (fun e => e)
      have p5 : ∀ u : KS No wr, u.W.cell? ⟨BX, 5, none⟩ = some (.bool f.value) := fun u => u.cell (HK4.out.cell0 hq.2.2.2.2.2) (fun e => e)
      have hne : Nonempty (KS No wr) := ⟨⟨wr, Keeps.refl _ _⟩⟩
      clear hB hcB hBA hba hgB hdr hel hvy hbl hq
      go_upto_region 8 with fail
      refine Mix.wp_region_mix (fun W' => ∃ u : KS No wr, W' = u.W) [] (by kernel_rfl) ?_
      have HV0 : Hid (Keeps No wr wr.drew) := Lib.hid ((Keeps.refl _ wr).drew)
      generalize wr.drew = v0 at HV0 ⊢
      refine Mix.mix_seg 0 6 2 (by kernel_rfl) (by kernel_rfl) rfl rfl ⟨⟨v0, HV0.out⟩, rfl⟩ ?_
      simp only [List.drop_succ_cons, List.drop_zero, List.take_succ_cons, List.take_zero]
      repeat (go_big_quiet_step (fail))
      refine wpQuiet_nil ?_
      refine Mix.mix_one 6 1 (by kernel_rfl) rfl rfl ?_
      simp only [List.drop_succ_cons, List.drop_zero, List.take_succ_cons, List.take_zero]
      clear p0 p1 p2 p3 p4 p5 pO hne
      go_wp2_with fail
      refine (HBE.out v0 (HK1.out.trans (HK4.out.trans HV0.out (fun _ _ e => e)) (fun _ _ e => e)) b B ay ky (O b) HB.out (HBY.out.no HV0.out)).mono ?_
      rintro e w5 ⟨v5, rfl, ⟨vs5, hbr⟩, hk5⟩
      have HK5 : Hid (Keeps No wr w5) := Lib.hid (HV0.out.trans hk5 (fun _ _ e => e))
      obtain ⟨ab, cb, rfl, hab⟩ := own_form hbr.own
      have HBR := Lib.hid hbr
      have HAB := Lib.hid hab
      clear hbr hab hk5
      go_wp2_with fail
      refine ⟨.inr ⟨⟨w5, HK5.out⟩, rfl⟩, ?_⟩
      clear HBE HBY HV0
      refine Mix.mix_seg 7 1 0 (by kernel_rfl) (by kernel_rfl) rfl rfl ⟨⟨w5, HK5.out⟩, rfl⟩ ?_
      simp only [List.drop_succ_cons, List.drop_zero, List.take_succ_cons, List.take_zero]
      repeat (go_big_quiet_step (fail))
      refine wpQuiet_nil ?_
      refine Mix.mix_end (by kernel_rfl) ?_
      go_wp2_with fail
      obtain ⟨wB, rfl⟩ : ∃ W', W' = wr := ⟨_, rfl⟩
      obtain ⟨X, hX⟩ : ∃ X, O b = X := ⟨_, rfl⟩
      rw [hX] at HBR HMU
      clear hX
      obtain ⟨M0, hM0⟩ : ∃ M, mu (dr f O) b = M := ⟨_, rfl⟩
      rw [hM0] at HMU hmu ⊢
      clear hM0
      obtain ⟨Ba, Bn, Bc, Bl⟩ := B
      have hBc := HBA.out.cap
      have hBl := HBA.out.len
      unfold maxLen at hBc
      simp only at HBR HMU HBN hBc hBl HAB ⊢
      have hBn := HBN.out
      have HK6 : Hid (Keeps No w1 w5) := Lib.hid (HK4.out.trans HK5.out (fun _ _ e => e))
      clear HK4
      go_loopg [5, 8] Bn (fun k v5 v8 wr => ∃ i N : Nat, v8 = .int .i64 (i : Int) ∧ i ≤ Bn ∧ k = Bn - i ∧ v5 = .int .i64 (N : Int) ∧ Hid (N + deadRow X (Bl.drop i) = M0 + deadRow X Bl) ∧ Hid (Keeps No w5 wr))
      case atStart => exact ⟨0, M0, rfl, Nat.zero_le _, rfl, rfl, Lib.hid rfl, Lib.hid (Keeps.refl _ _)⟩
      case round =>
        obtain ⟨i, N, rfl, hi, hg2, rfl, HN, HKI⟩ := hrel
        by_cases hli : i < Bn
        · have hli' : (i : Int) < (Bn : Int) := by omega
          have i0 : (0 : Int) ≤ (i : Int) := by omega
          obtain ⟨ib, io, x, hx, hBa, hxa, hxo⟩ := Bx.get HBA.out hli
          simp only at hx hBa hxa
          subst hBa
          have HKW : Hid (Keeps No w1 wr) := Lib.hid (HK6.out.trans HKI.out (fun _ _ e => e))
          have hkw0 : Keeps No w wr := HK1.out.trans HKW.out (fun _ _ e => e)
          have c4 := HKW.out.cell0 HC.out.2.2.2.2.1
          rw [HBB.out] at c4
          have cB : wr.cell? ⟨bb, bo + b, none⟩ = some (.slice (some ⟨ib, io, none⟩) Bn Bc) := (HK5.out.trans HKI.out (fun _ _ e => e)).cell0 hcB'
          have hya : x.at_ wr ib (io + i * 11) := fun j v hj => hkw0.cell0 (hxa j v hj)
          have x0 := hya 0 _ rfl
          have x1 := hya 1 _ rfl
          have x2 := hya 2 _ rfl
          have x3 := hya 3 _ rfl
          have x4 := hya 4 _ rfl
          have x5 := hya 5 _ rfl
          have x6 := hya 6 _ rfl
          have x7 := hya 7 _ rfl
          have x8 := hya 8 _ rfl
          have x9 := hya 9 _ rfl
          have x10 := hya 10 _ rfl
          rw [Nat.add_zero] at x0
          have HXI := Lib.hid hx
          have HDX : Hid (pureI x.op x.sub = true → 0 ≤ x.d ∧ x.d.toNat < R2) := Lib.hid (HDEF.out b _ HB.out x (List.mem_of_getElem? hx))
          have HDR : Hid (deadRow X (Bl.drop i) = (if pureI x.op x.sub && !(backs (Bl.drop (i + 1)) X).testBit x.d.toNat then 1 else 0) + deadRow X (Bl.drop (i + 1))) := Lib.hid (deadRow_drop hx X)
          clear hx hxa hxo hya
          go_upto_region 13 with fail
          have hk8 : Keeps No wr (wr.alloc (.cells #[.int .i64 x.op, .int .i64 x.sub, .int .i64 x.d, .int .i64 x.a, .int .i64 x.b, .int .i64 x.n, .int .i64 x.wb, .bool x.ws, .slice x.args.a x.args.n x.args.cap, .slice x.to.a x.to.n x.to.cap, .slice x.cases_.a x.cases_.n x.cases_.cap] 38)) := (Keeps.refl _ _).alloc _
          have hxat : XAt (wr.alloc (.cells #[.int .i64 x.op, .int .i64 x.sub, .int .i64 x.d, .int .i64 x.a, .int .i64 x.b, .int .i64 x.n, .int .i64 x.wb, .bool x.ws, .slice x.args.a x.args.n x.args.cap, .slice x.to.a x.to.n x.to.cap, .slice x.cases_.a x.cases_.n x.cases_.cap] 38)) wr.heap.size x := heap_alloc_new _ _
          obtain ⟨w8, hw8⟩ : ∃ W, wr.alloc (.cells #[.int .i64 x.op, .int .i64 x.sub, .int .i64 x.d, .int .i64 x.a, .int .i64 x.b, .int .i64 x.n, .int .i64 x.wb, .bool x.ws, .slice x.args.a x.args.n x.args.cap, .slice x.to.a x.to.n x.to.cap, .slice x.cases_.a x.cases_.n x.cases_.cap] 38) = W := ⟨_, rfl⟩
          obtain ⟨XB, hXB⟩ : ∃ q, wr.heap.size = q := ⟨_, rfl⟩
          rw [hw8] at hk8 hxat ⊢
          rw [hXB] at hxat ⊢
          have HK8 : Hid (Keeps No w5 w8) := Lib.hid (HKI.out.trans hk8 (fun _ _ e => e))
          have HPU := Lib.hid (fun (u : KW w8) => rpure_any x u.W)
          obtain ⟨PU, hPU⟩ : ∃ p, pureI x.op x.sub = p := ⟨_, rfl⟩
          rw [hPU] at HPU HDR HDX
          clear hPU hk8 hw8 hXB x0 x1 x2 x3 x4 x5 x6 x7 x8 x9 x10 c4 cB
          obtain ⟨q0, q1, q2, q3, q4, q5, q6, q7, q8, q9, q10⟩ := hxat.cells
          have p0 := fun u : KW w8 => u.cell q0
          have p1 := fun u : KW w8 => u.cell q1
          have p2 := fun u : KW w8 => u.cell q2
          have p3 := fun u : KW w8 => u.cell q3
          have p4 := fun u : KW w8 => u.cell q4
          have p5 := fun u : KW w8 => u.cell q5
          have p6 := fun u : KW w8 => u.cell q6
          have p7 := fun u : KW w8 => u.cell q7
          have p8 := fun u : KW w8 => u.cell q8
          have p9 := fun u : KW w8 => u.cell q9
          have p10 := fun u : KW w8 => u.cell q10
          clear q0 q1 q2 q3 q4 q5 q6 q7 q8 q9 q10 hxat
          have hne : Nonempty (KW w8) := ⟨KW.of _⟩
          cases PU with
          | false =>
            have HN2 : Hid (N + deadRow X (Bl.drop (i + 1)) = M0 + deadRow X Bl) := Lib.hid (by
              have h1 := HN.out
              have h2 := HDR.out
              rw [Bool.false_and, if_neg (by decide)] at h2
              omega)
            refine wp_region_class (C := fun W => ∃ u : KW w8, W = u.W) (by kernel_rfl) (by kernel_rfl) ⟨⟨World.drew _, (Keeps.refl _ _).drew⟩, rfl⟩ ?_
            repeat (go_big_quiet_step ((go_at_call 38; with_reducible refine kw_call _ (HPU.out _))))
            refine wpQuiet_nil ?_
            rintro _ ⟨T, rfl⟩
            go_wp2_with fail
            go_roundg (Bn - (i + 1))
            case rel => exact ⟨i + 1, N, by go_num, by omega, rfl, rfl, HN2, Lib.hid (HK8.out.trans T.h (fun _ _ e => e))⟩
            case measure => omega
          | true =>
            obtain ⟨hd0, hdR⟩ := HDX.out rfl
            obtain ⟨d, hd⟩ : ∃ d : Nat, x.d = (d : Int) := ⟨x.d.toNat, by omega⟩
            unfold ia at HPU
            rw [hd] at HDR hdR p2 HPU
            rw [Int.toNat_natCast] at HDR hdR
            obtain ⟨av, cv, hvs, hbl⟩ := HBR.out.el i hli
            obtain ⟨gb, hgb⟩ := HAB.out (by omega)
            subst hgb
            have pV : ∀ u : KW w8, u.W.cell? ⟨gb, i, none⟩ = some (.slice av R2 cv) := fun u => u.cell (HK8.out.cell0 (by rw [World.ownsRow.cellAt HBR.out.own i (by omega), vrow_get _ hli, hvs]))
            obtain ⟨fb, fo, rfl, hcf⟩ := hbl.at_ d hdR
            have pF : ∀ u : KW w8, u.W.cell? ⟨fb, fo + d, none⟩ = some (.bool ((backs (Bl.drop (i + 1)) X).testBit d)) := fun u => u.cell (HK8.out.cell0 hcf)
            obtain ⟨TB, hTB⟩ : ∃ t, (backs (Bl.drop (i + 1)) X).testBit d = t := ⟨_, rfl⟩
            rw [hTB] at HDR
            simp only [hTB] at pF
            have d0 : (0 : Int) ≤ (d : Int) := by omega
            have d1 : (d : Int) < (R2 : Int) := by omega
            have HHD := Lib.hid hd
            clear hTB hcf hbl hvs hd hd0
            cases TB with
            | true =>
              have HN2 : Hid (N + deadRow X (Bl.drop (i + 1)) = M0 + deadRow X Bl) := Lib.hid (by
                have h1 := HN.out
                have h2 := HDR.out
                rw [Bool.true_and, if_neg (by decide)] at h2
                omega)
              refine wp_region_class (C := fun W => ∃ u : KW w8, W = u.W) (by kernel_rfl) (by kernel_rfl) ⟨⟨World.drew _, (Keeps.refl _ _).drew⟩, rfl⟩ ?_
              repeat (go_big_quiet_step ((go_at_call 38; with_reducible refine kw_call _ (HPU.out _))))
              refine wpQuiet_nil ?_
              rintro _ ⟨T, rfl⟩
              go_wp2_with fail
              go_roundg (Bn - (i + 1))
              case rel => exact ⟨i + 1, N, by go_num, by omega, rfl, rfl, HN2, Lib.hid (HK8.out.trans T.h (fun _ _ e => e))⟩
              case measure => omega
            | false =>
              have HN2 : Hid ((N + 1) + deadRow X (Bl.drop (i + 1)) = M0 + deadRow X Bl) := Lib.hid (by
                have h1 := HN.out
                have h2 := HDR.out
                rw [Bool.true_and, if_pos (by decide)] at h2
                omega)
              have hNb : N ≤ 390 := by
                have h1 := HN.out
                have h3 := deadRow_le X Bl
                omega
              refine wp_region_class (C := fun W => ∃ u : KW w8, W = u.W) (by kernel_rfl) (by kernel_rfl) ⟨⟨World.drew _, (Keeps.refl _ _).drew⟩, rfl⟩ ?_
              repeat (go_big_quiet_step ((go_at_call 38; with_reducible refine kw_call _ (HPU.out _))))
              refine wpQuiet_nil ?_
              rintro _ ⟨T, rfl⟩
              go_wp2_with fail
              go_roundg (Bn - (i + 1))
              case rel => exact ⟨i + 1, N + 1, by go_num, by omega, rfl, by go_num, HN2, Lib.hid (HK8.out.trans T.h (fun _ _ e => e))⟩
              case measure => omega
        · obtain rfl : i = Bn := by omega
          have hli' : ¬ (i : Int) < (i : Int) := by omega
          have hN : N = mu (dr f O) (b + 1) := by
            have h := HN.out
            rw [List.drop_eq_nil_of_le (by omega)] at h
            have h2 := HMU.out
            have h3 : deadRow X [] = 0 := rfl
            omega
          subst hN
          go_wp2_with fail
          go_roundg (f.bn - (b + 1))
          case rel => exact ⟨b + 1, by go_num, by omega, rfl, rfl, Lib.hid (HKR.out.trans (HK5.out.trans HKI.out (fun _ _ e => e)) (fun _ _ e => e))⟩
          case measure => omega
    · have hb2 : b = f.bn := by omega
      have hlt' : ¬ (b : Int) < (f.bn : Int) := by omega
      go_wp2_with fail
      go_returns
      exact ⟨O, HLE.out, ri rfl rfl, HK1.out.trans HK4.out (fun _ _ e => e)⟩
end Go.Proofs.YtpjilcfmcbapcaaDoor
