/- The document's Live: the rounds. -/
import Derived.Test.YtpjilcfmcbapcaaDoorLtRows
namespace Go.Proofs.YtpjilcfmcbapcaaDoor
open Go.RowKit
set_option linter.unusedVariables false
set_option linter.unusedSimpArgs false

/-- What a round begins with. -/
def RHead (BL : List (List Ix)) (R n : Nat) (O I : Nat → Nat) (mv : Bool) (k : Nat) : Prop :=
  (mv = true ∧ RdInv BL R O I n false (cost2 R n I) ∧ k = cost2 R n I + 1) ∨ (mv = false ∧ (∃ M, RdInv BL R O I 0 false M) ∧ k = 0)
set_option maxRecDepth 100000 in
set_option maxHeartbeats 12800000 in
theorem rlive_any (w : World) (f : Fx) (R n : Nat) (hok : FxOk w f) (hform : f.formOk = true) (hR : f.regs = (R : Int)) (hR2 : R ≤ 100000) (hn : f.bn = n) (hn2 : n ≤ 1000)
    (hto : ∀ b ∈ f.bl, (lastTo b.l).length ≤ 100) (hargs : ∀ b ∈ f.bl, ∀ x ∈ b.l, x.args.n ≤ 100000) :
    Calls Tryd.prog 16 #[fv f] w fun e w' => ∃ vi vo vsI vsO I O, e = .returned (.tuple #[vi, vo]) ∧ Least (bls f) O ∧ (∀ b, b < n → I b = backs (blk (bls f) b) (O b) ∧ O b < 2 ^ R ∧ I b < 2 ^ R) ∧ TwoR w w' n R vi vo vsI vsO I O := by
  obtain ⟨i4, hi1, z1, z2, z3⟩ := info_parts infoBo
  have HI4 := Lib.hid (And.intro hi1 (And.intro z1 (And.intro z2 z3)))
  clear hi1 z1 z2 z3
  have HOK := Lib.hid hok
  have HFORM := Lib.hid hform
  have HTO := Lib.hid hto
  have HARGS := Lib.hid hargs
  have HLEN : Hid (f.bl.length = n) := Lib.hid (hok.len.trans hn)
  have HBL : Hid ((bls f).length = n) := Lib.hid (by rw [bls_len]; exact HLEN.out)
  have HBOX := Lib.hid (fun t => fx_boxed f w t)
  have HBAT := Lib.hid hok.at_
  have hcap := hok.cap
  unfold maxLen at hcap
  rw [hn] at hcap HBAT
  have HRI := Lib.hid hR
  have HN := Lib.hid hn
  clear hok hform hto hargs
  unfold fv
  rw [hR, hn]
  clear hR hn
  go_enter Tryd.func16, Tryd.ntmps16
  go_upto_region 1 with fail
  obtain ⟨w1, hw1⟩ : ∃ W, w.alloc (.cells #[.string f.name, .int .i64 f.params, .int .i64 (R : Int), f.slots.v, .slice f.ba n f.bc, .bool f.value] 25) = W := ⟨_, rfl⟩
  obtain ⟨BX, hBX⟩ : ∃ q, w.heap.size = q := ⟨_, rfl⟩
  have c2 : w1.cell? ⟨BX, 2, none⟩ = some (.int .i64 (R : Int)) := by
    rw [← hw1, ← hBX]; have h := HBOX.out 25 2 _ rfl; rw [HRI.out, HN.out, Nat.zero_add] at h; exact h
  have c4 : w1.cell? ⟨BX, 4, none⟩ = some (.slice f.ba n f.bc) := by
    rw [← hw1, ← hBX]; have h := HBOX.out 25 4 _ rfl; rw [HRI.out, HN.out, Nat.zero_add] at h; exact h
  have HK1 : Hid (Keeps No w w1 ∧ w.heap.size = BX ∧ w1.heap.size = BX + 1) := Lib.hid ⟨by rw [← hw1]; exact (Keeps.refl _ _).alloc _, hBX, by rw [← hw1, ← hBX]; simp⟩
  rw [hw1, hBX]
  have HC24 := Lib.hid (And.intro c2 c4)
  clear hw1 hBX HBOX c2 c4
  go_wp2_with fail
  go_loopg [4, 5, 6] n (fun k v4 v5 v6 wr => ∃ i : Nat, v6 = .int .i64 (i : Int) ∧ i ≤ n ∧ k = n - i ∧ ∃ vsI vsO, Hid (TwoR w1 wr i R v4 v5 vsI vsO (fun _ => 0) (fun _ => 0)))
  case atStart => exact ⟨0, rfl, Nat.zero_le _, rfl, fun _ => .slice none 0 0, fun _ => .slice none 0 0, Lib.hid ⟨Keeps.refl _ _, FR.nil _ _ _ _ _, FR.nil _ _ _ _ _, fun q e => by cases e⟩⟩
  case round =>
    obtain ⟨i, rfl, hi, hg, vsI0, vsO0, HW0⟩ := hrel
    have c4r := HW0.out.k.cell0 HC24.out.2
    by_cases hlt : i < n
    · have hlt' : (i : Int) < (n : Int) := by omega
      -- DEV<
      have HE0 : Hid ((∀ k, u4.ownBlock = some k → k < wr.heap.size ∧ k ≠ BX) ∧ (∀ k, u5.ownBlock = some k → k < wr.heap.size ∧ k ≠ BX) ∧ w1.heap.size ≤ wr.heap.size) := Lib.hid ⟨fun k e => ⟨own_ltb HW0.out.i.own e, by have := own_lo HW0.out.i.own k e; have := HK1.out.2.2; omega⟩, fun k e => ⟨own_ltb HW0.out.o.own e, by have := own_lo HW0.out.o.own k e; have := HK1.out.2.2; omega⟩, HW0.out.k.size⟩
      have p2 : ∀ u : KS (Two u4 u5) wr, u.W.cell? ⟨BX, 2, none⟩ = some (.int .i64 (R : Int)) := fun u => u.cell (HW0.out.k.cell0 HC24.out.1) (fun e => by rcases e with e | e; exact (HE0.out.1 _ e).2 rfl; exact (HE0.out.2.1 _ e).2 rfl)
      have hne : Nonempty (KS (Two u4 u5) wr) := ⟨⟨wr, Keeps.refl _ _⟩⟩
      go_wp2_with fail
      refine Mix.wp_region_mix (fun W' => ∃ u : KS (Two u4 u5) wr, W' = u.W) [] (by kernel_rfl) ?_
      have HV0 : Hid (Keeps No wr wr.drew) := Lib.hid ((Keeps.refl _ wr).drew)
      generalize wr.drew = v0 at HV0 ⊢
      have HV : Hid (Keeps (Two u4 u5) wr v0) := Lib.hid (HV0.out.mono (fun _ _ e => e.elim))
      have HA : Hid (MSt w1 wr v0 R i u4 vsI0 0 0 0 0 0) := Lib.hid (MSt.start (own_keep HW0.out.i.own HV0.out (fun _ e => e.elim)))
      have HB : Hid (MSt w1 wr v0 R i u5 vsO0 0 0 0 0 0) := Lib.hid (MSt.start (own_keep HW0.out.o.own HV0.out (fun _ e => e.elim)))
      clear c4r
      refine Mix.mix_seg 0 3 11 (by kernel_rfl) (by kernel_rfl) rfl rfl ⟨⟨v0, HV.out⟩, rfl⟩ ?_
      simp only [List.drop_succ_cons, List.drop_zero, List.take_succ_cons, List.take_zero]
      repeat (go_big_quiet_step (fail))
      refine wpQuiet_nil ?_
      refine Mix.mix_seg 6 3 8 (by kernel_rfl) (by kernel_rfl) rfl rfl ⟨⟨v0, HV.out⟩, rfl⟩ ?_
      simp only [List.drop_succ_cons, List.drop_zero, List.take_succ_cons, List.take_zero]
      repeat (go_big_quiet_step (fail))
      refine wpQuiet_nil ?_
      clear hne p2
      refine Mix.mix_two 3 9 7 (by kernel_rfl) rfl rfl rfl ?_ ?_
      · skip
        simp only [List.drop_succ_cons, List.drop_zero, List.take_succ_cons, List.take_zero]
        go_wp2_with (at_make; refine wpList_make_full _ rfl (.tmp 25) (.tmp 25) 53 rfl v0.heap.size 4 i4 _ 1 Tryd.underlying53 HI4.out.1 HI4.out.2.1 HI4.out.2.2.1 .i64 .i64 (R : Int) (R : Int) R rfl rfl rfl rfl (by rw [HI4.out.2.2.2]; omega) (by unfold maxLen; omega) (Nat.le_refl _) ?_)
        intro v1 ho hg
        rw [toList_madeCells_one, ← bl_zero] at ho
        have hk : Keeps No v0 v1 := (Keeps.refl _ _).grown hg (fun q e => by cases e)
        obtain ⟨pA, hp⟩ : ∃ q, v0.heap.size = q := ⟨_, rfl⟩
        rw [hp] at ho ⊢
        have HA' : Hid (MSt _ _ _ _ _ _ _ _ _ _ _ _) := Lib.hid (HA.out.make hk HV.out.size hp ho)
        have HB' : Hid (MSt _ _ _ _ _ _ _ _ _ _ _ _) := Lib.hid (HB.out.no hk)
        have HV' : Hid (Keeps (Two u4 u5) wr v1) := Lib.hid (HV.out.trans hk (fun _ _ e => e.elim))
        clear ho hg hk hp HV HA HB
        have HV := HV'; have HA := HA'; have HB := HB'; clear HV' HA' HB'
        go_wp2_with fail
        refine ⟨.inr ⟨⟨v1, HV.out⟩, rfl⟩, ?_⟩
        refine Mix.mix_two 4 9 6 (by kernel_rfl) rfl rfl rfl ?_ ?_
        · skip
          simp only [List.drop_succ_cons, List.drop_zero, List.take_succ_cons, List.take_zero]
          go_wp2_with fail
          obtain ⟨v2, hv⟩ : ∃ X, v1.alloc (.cells #[.slice (some ⟨pA, 0, none⟩) R R] 53) = X := ⟨_, rfl⟩
          obtain ⟨qA, hq⟩ : ∃ q, v1.heap.size = q := ⟨_, rfl⟩
          rw [hv, hq]
          have hk : Keeps No v1 v2 := by rw [← hv]; exact (Keeps.refl _ _).alloc _
          have HA' : Hid (MSt _ _ _ _ _ _ _ _ _ _ _ _) := Lib.hid (HA.out.build HV.out.size hq hv)
          have HB' : Hid (MSt _ _ _ _ _ _ _ _ _ _ _ _) := Lib.hid (HB.out.no hk)
          have HV' : Hid (Keeps (Two u4 u5) wr v2) := Lib.hid (HV.out.trans hk (fun _ _ e => e.elim))
          clear hk hq hv HV HA HB
          have HV := HV'; have HA := HA'; have HB := HB'; clear HV' HA' HB'
          refine ⟨.inr ⟨⟨v2, HV.out⟩, rfl⟩, ?_⟩
          refine Mix.mix_two 5 9 5 (by kernel_rfl) rfl rfl rfl ?_ ?_
          · skip
            simp only [List.drop_succ_cons, List.drop_zero, List.take_succ_cons, List.take_zero]
            go_wp2_with (at_builtin; refine wpList_appS _ rfl (.tmp 23) (.tmp 27) 47 rfl Tryd.underlying47 w1.heap.size u4 i (vrow i vsI0) (.slice (some ⟨pA, 0, none⟩) R R) qA rfl (HA.out.o (Nat.le_refl _)) rfl (HA.out.l rfl).1 rfl (by omega) (Nat.le_trans HE0.out.2.2 HV.out.size) ?_)
            intro gA cA v3 ho hg hw
            have hk : Keeps (fun k => u4.ownBlock = some k) v2 v3 := (Keeps.refl _ _).grown hg (fun q e => .inl e)
            have HA' : Hid (MSt _ _ _ _ _ _ _ _ _ _ _ _) := Lib.hid (HA.out.app (fun k e => (HE0.out.1 k e).1) hk HV.out.size ho hw)
            have HB' : Hid (MSt _ _ _ _ _ _ _ _ _ _ _ _) := Lib.hid (HB.out.keep hk (fun k e => ⟨(HE0.out.1 k e).1, HW0.out.ne k e⟩))
            have HV' : Hid (Keeps (Two u4 u5) wr v3) := Lib.hid (HV.out.trans hk (fun _ _ e => .inl e))
            clear ho hg hw hk HV HA HB
            have HV := HV'; have HA := HA'; have HB := HB'; clear HV' HA' HB'
            go_wp2_with fail
            refine ⟨.inr ⟨⟨v3, HV.out⟩, rfl⟩, ?_⟩
            refine Mix.mix_one 9 4 (by kernel_rfl) rfl rfl ?_
            simp only [List.drop_succ_cons, List.drop_zero, List.take_succ_cons, List.take_zero]
            go_wp2_with (at_make; refine wpList_make_full _ rfl (.tmp 31) (.tmp 31) 53 rfl v3.heap.size 4 i4 _ 1 Tryd.underlying53 HI4.out.1 HI4.out.2.1 HI4.out.2.2.1 .i64 .i64 (R : Int) (R : Int) R rfl rfl rfl rfl (by rw [HI4.out.2.2.2]; omega) (by unfold maxLen; omega) (Nat.le_refl _) ?_)
            intro v4 ho hg
            rw [toList_madeCells_one, ← bl_zero] at ho
            have hk : Keeps No v3 v4 := (Keeps.refl _ _).grown hg (fun q e => by cases e)
            obtain ⟨pB, hp⟩ : ∃ q, v3.heap.size = q := ⟨_, rfl⟩
            rw [hp] at ho ⊢
            have HB' : Hid (MSt _ _ _ _ _ _ _ _ _ _ _ _) := Lib.hid (HB.out.make hk HV.out.size hp ho)
            have HA' : Hid (MSt _ _ _ _ _ _ _ _ _ _ _ _) := Lib.hid (HA.out.no hk)
            have HV' : Hid (Keeps (Two u4 u5) wr v4) := Lib.hid (HV.out.trans hk (fun _ _ e => e.elim))
            clear ho hg hk hp HV HA HB
            have HV := HV'; have HA := HA'; have HB := HB'; clear HV' HA' HB'
            go_wp2_with fail
            refine ⟨.inr ⟨⟨v4, HV.out⟩, rfl⟩, ?_⟩
            refine Mix.mix_one 10 3 (by kernel_rfl) rfl rfl ?_
            simp only [List.drop_succ_cons, List.drop_zero, List.take_succ_cons, List.take_zero]
            go_wp2_with fail
            obtain ⟨v5, hv⟩ : ∃ X, v4.alloc (.cells #[.slice (some ⟨pB, 0, none⟩) R R] 53) = X := ⟨_, rfl⟩
            obtain ⟨qB, hq⟩ : ∃ q, v4.heap.size = q := ⟨_, rfl⟩
            rw [hv, hq]
            have hk : Keeps No v4 v5 := by rw [← hv]; exact (Keeps.refl _ _).alloc _
            have HB' : Hid (MSt _ _ _ _ _ _ _ _ _ _ _ _) := Lib.hid (HB.out.build HV.out.size hq hv)
            have HA' : Hid (MSt _ _ _ _ _ _ _ _ _ _ _ _) := Lib.hid (HA.out.no hk)
            have HV' : Hid (Keeps (Two u4 u5) wr v5) := Lib.hid (HV.out.trans hk (fun _ _ e => e.elim))
            clear hk hq hv HV HA HB
            have HV := HV'; have HA := HA'; have HB := HB'; clear HV' HA' HB'
            refine ⟨.inr ⟨⟨v5, HV.out⟩, rfl⟩, ?_⟩
            refine Mix.mix_one 11 2 (by kernel_rfl) rfl rfl ?_
            simp only [List.drop_succ_cons, List.drop_zero, List.take_succ_cons, List.take_zero]
            go_wp2_with (at_builtin; refine wpList_appS _ rfl (.tmp 29) (.tmp 33) 47 rfl Tryd.underlying47 w1.heap.size u5 i (vrow i vsO0) (.slice (some ⟨pB, 0, none⟩) R R) qB rfl (HB.out.o (Nat.le_refl _)) rfl (HB.out.l rfl).1 rfl (by omega) (Nat.le_trans HE0.out.2.2 HV.out.size) ?_)
            intro gB cB v6 ho hg hw
            have hk : Keeps (fun k => u5.ownBlock = some k) v5 v6 := (Keeps.refl _ _).grown hg (fun q e => .inl e)
            have HF := Lib.hid (made_fin HW0.out HV.out HA.out HB.out hg ho hw)
            have HV' : Hid (Keeps (Two u4 u5) wr v6) := Lib.hid (HV.out.trans hk (fun _ _ e => .inr e))
            clear ho hg hw hk HV HA HB
            have HV := HV'; clear HV'
            go_wp2_with fail
            refine ⟨.inr ⟨⟨v6, HV.out⟩, rfl⟩, ?_⟩
            have hne : Nonempty (KS (Two u4 u5) wr) := ⟨⟨wr, Keeps.refl _ _⟩⟩
            refine Mix.mix_seg 12 2 0 (by kernel_rfl) (by kernel_rfl) rfl rfl ⟨⟨v6, HV.out⟩, rfl⟩ ?_
            simp only [List.drop_succ_cons, List.drop_zero, List.take_succ_cons, List.take_zero]
            repeat (go_big_quiet_step (fail))
            refine wpQuiet_nil ?_
            clear hne HV HE0
            refine Mix.mix_end (by kernel_rfl) ?_
            go_wp2_with fail
            go_roundg (n - (i + 1))
            case rel => exact ⟨i + 1, by go_num, by omega, rfl, _, _, HF⟩
            case measure => omega
          · skip
            simp only [List.drop_succ_cons, List.drop_zero, List.take_succ_cons, List.take_zero]
            go_wp2_with (at_make; refine wpList_make_full _ rfl (.tmp 31) (.tmp 31) 53 rfl v2.heap.size 4 i4 _ 1 Tryd.underlying53 HI4.out.1 HI4.out.2.1 HI4.out.2.2.1 .i64 .i64 (R : Int) (R : Int) R rfl rfl rfl rfl (by rw [HI4.out.2.2.2]; omega) (by unfold maxLen; omega) (Nat.le_refl _) ?_)
            intro v3 ho hg
            rw [toList_madeCells_one, ← bl_zero] at ho
            have hk : Keeps No v2 v3 := (Keeps.refl _ _).grown hg (fun q e => by cases e)
            obtain ⟨pB, hp⟩ : ∃ q, v2.heap.size = q := ⟨_, rfl⟩
            rw [hp] at ho ⊢
            have HB' : Hid (MSt _ _ _ _ _ _ _ _ _ _ _ _) := Lib.hid (HB.out.make hk HV.out.size hp ho)
            have HA' : Hid (MSt _ _ _ _ _ _ _ _ _ _ _ _) := Lib.hid (HA.out.no hk)
            have HV' : Hid (Keeps (Two u4 u5) wr v3) := Lib.hid (HV.out.trans hk (fun _ _ e => e.elim))
            clear ho hg hk hp HV HA HB
            have HV := HV'; have HA := HA'; have HB := HB'; clear HV' HA' HB'
            go_wp2_with fail
            refine ⟨.inr ⟨⟨v3, HV.out⟩, rfl⟩, ?_⟩
            refine Mix.mix_two 5 10 4 (by kernel_rfl) rfl rfl rfl ?_ ?_
            · skip
              simp only [List.drop_succ_cons, List.drop_zero, List.take_succ_cons, List.take_zero]
              go_wp2_with (at_builtin; refine wpList_appS _ rfl (.tmp 23) (.tmp 27) 47 rfl Tryd.underlying47 w1.heap.size u4 i (vrow i vsI0) (.slice (some ⟨pA, 0, none⟩) R R) qA rfl (HA.out.o (Nat.le_refl _)) rfl (HA.out.l rfl).1 rfl (by omega) (Nat.le_trans HE0.out.2.2 HV.out.size) ?_)
              intro gA cA v4 ho hg hw
              have hk : Keeps (fun k => u4.ownBlock = some k) v3 v4 := (Keeps.refl _ _).grown hg (fun q e => .inl e)
              have HA' : Hid (MSt _ _ _ _ _ _ _ _ _ _ _ _) := Lib.hid (HA.out.app (fun k e => (HE0.out.1 k e).1) hk HV.out.size ho hw)
              have HB' : Hid (MSt _ _ _ _ _ _ _ _ _ _ _ _) := Lib.hid (HB.out.keep hk (fun k e => ⟨(HE0.out.1 k e).1, HW0.out.ne k e⟩))
              have HV' : Hid (Keeps (Two u4 u5) wr v4) := Lib.hid (HV.out.trans hk (fun _ _ e => .inl e))
              clear ho hg hw hk HV HA HB
              have HV := HV'; have HA := HA'; have HB := HB'; clear HV' HA' HB'
              go_wp2_with fail
              refine ⟨.inr ⟨⟨v4, HV.out⟩, rfl⟩, ?_⟩
              refine Mix.mix_one 10 3 (by kernel_rfl) rfl rfl ?_
              simp only [List.drop_succ_cons, List.drop_zero, List.take_succ_cons, List.take_zero]
              go_wp2_with fail
              obtain ⟨v5, hv⟩ : ∃ X, v4.alloc (.cells #[.slice (some ⟨pB, 0, none⟩) R R] 53) = X := ⟨_, rfl⟩
              obtain ⟨qB, hq⟩ : ∃ q, v4.heap.size = q := ⟨_, rfl⟩
              rw [hv, hq]
              have hk : Keeps No v4 v5 := by rw [← hv]; exact (Keeps.refl _ _).alloc _
              have HB' : Hid (MSt _ _ _ _ _ _ _ _ _ _ _ _) := Lib.hid (HB.out.build HV.out.size hq hv)
              have HA' : Hid (MSt _ _ _ _ _ _ _ _ _ _ _ _) := Lib.hid (HA.out.no hk)
              have HV' : Hid (Keeps (Two u4 u5) wr v5) := Lib.hid (HV.out.trans hk (fun _ _ e => e.elim))
              clear hk hq hv HV HA HB
              have HV := HV'; have HA := HA'; have HB := HB'; clear HV' HA' HB'
              refine ⟨.inr ⟨⟨v5, HV.out⟩, rfl⟩, ?_⟩
              refine Mix.mix_one 11 2 (by kernel_rfl) rfl rfl ?_
              simp only [List.drop_succ_cons, List.drop_zero, List.take_succ_cons, List.take_zero]
              go_wp2_with (at_builtin; refine wpList_appS _ rfl (.tmp 29) (.tmp 33) 47 rfl Tryd.underlying47 w1.heap.size u5 i (vrow i vsO0) (.slice (some ⟨pB, 0, none⟩) R R) qB rfl (HB.out.o (Nat.le_refl _)) rfl (HB.out.l rfl).1 rfl (by omega) (Nat.le_trans HE0.out.2.2 HV.out.size) ?_)
              intro gB cB v6 ho hg hw
              have hk : Keeps (fun k => u5.ownBlock = some k) v5 v6 := (Keeps.refl _ _).grown hg (fun q e => .inl e)
              have HF := Lib.hid (made_fin HW0.out HV.out HA.out HB.out hg ho hw)
              have HV' : Hid (Keeps (Two u4 u5) wr v6) := Lib.hid (HV.out.trans hk (fun _ _ e => .inr e))
              clear ho hg hw hk HV HA HB
              have HV := HV'; clear HV'
              go_wp2_with fail
              refine ⟨.inr ⟨⟨v6, HV.out⟩, rfl⟩, ?_⟩
              have hne : Nonempty (KS (Two u4 u5) wr) := ⟨⟨wr, Keeps.refl _ _⟩⟩
              refine Mix.mix_seg 12 2 0 (by kernel_rfl) (by kernel_rfl) rfl rfl ⟨⟨v6, HV.out⟩, rfl⟩ ?_
              simp only [List.drop_succ_cons, List.drop_zero, List.take_succ_cons, List.take_zero]
              repeat (go_big_quiet_step (fail))
              refine wpQuiet_nil ?_
              clear hne HV HE0
              refine Mix.mix_end (by kernel_rfl) ?_
              go_wp2_with fail
              go_roundg (n - (i + 1))
              case rel => exact ⟨i + 1, by go_num, by omega, rfl, _, _, HF⟩
              case measure => omega
            · skip
              simp only [List.drop_succ_cons, List.drop_zero, List.take_succ_cons, List.take_zero]
              go_wp2_with fail
              obtain ⟨v4, hv⟩ : ∃ X, v3.alloc (.cells #[.slice (some ⟨pB, 0, none⟩) R R] 53) = X := ⟨_, rfl⟩
              obtain ⟨qB, hq⟩ : ∃ q, v3.heap.size = q := ⟨_, rfl⟩
              rw [hv, hq]
              have hk : Keeps No v3 v4 := by rw [← hv]; exact (Keeps.refl _ _).alloc _
              have HB' : Hid (MSt _ _ _ _ _ _ _ _ _ _ _ _) := Lib.hid (HB.out.build HV.out.size hq hv)
              have HA' : Hid (MSt _ _ _ _ _ _ _ _ _ _ _ _) := Lib.hid (HA.out.no hk)
              have HV' : Hid (Keeps (Two u4 u5) wr v4) := Lib.hid (HV.out.trans hk (fun _ _ e => e.elim))
              clear hk hq hv HV HA HB
              have HV := HV'; have HA := HA'; have HB := HB'; clear HV' HA' HB'
              refine ⟨.inr ⟨⟨v4, HV.out⟩, rfl⟩, ?_⟩
              refine Mix.mix_one 5 3 (by kernel_rfl) rfl rfl ?_
              simp only [List.drop_succ_cons, List.drop_zero, List.take_succ_cons, List.take_zero]
              go_wp2_with (at_builtin; refine wpList_appS _ rfl (.tmp 23) (.tmp 27) 47 rfl Tryd.underlying47 w1.heap.size u4 i (vrow i vsI0) (.slice (some ⟨pA, 0, none⟩) R R) qA rfl (HA.out.o (Nat.le_refl _)) rfl (HA.out.l rfl).1 rfl (by omega) (Nat.le_trans HE0.out.2.2 HV.out.size) ?_)
              intro gA cA v5 ho hg hw
              have hk : Keeps (fun k => u4.ownBlock = some k) v4 v5 := (Keeps.refl _ _).grown hg (fun q e => .inl e)
              have HA' : Hid (MSt _ _ _ _ _ _ _ _ _ _ _ _) := Lib.hid (HA.out.app (fun k e => (HE0.out.1 k e).1) hk HV.out.size ho hw)
              have HB' : Hid (MSt _ _ _ _ _ _ _ _ _ _ _ _) := Lib.hid (HB.out.keep hk (fun k e => ⟨(HE0.out.1 k e).1, HW0.out.ne k e⟩))
              have HV' : Hid (Keeps (Two u4 u5) wr v5) := Lib.hid (HV.out.trans hk (fun _ _ e => .inl e))
              clear ho hg hw hk HV HA HB
              have HV := HV'; have HA := HA'; have HB := HB'; clear HV' HA' HB'
              go_wp2_with fail
              refine ⟨.inr ⟨⟨v5, HV.out⟩, rfl⟩, ?_⟩
              refine Mix.mix_one 11 2 (by kernel_rfl) rfl rfl ?_
              simp only [List.drop_succ_cons, List.drop_zero, List.take_succ_cons, List.take_zero]
              go_wp2_with (at_builtin; refine wpList_appS _ rfl (.tmp 29) (.tmp 33) 47 rfl Tryd.underlying47 w1.heap.size u5 i (vrow i vsO0) (.slice (some ⟨pB, 0, none⟩) R R) qB rfl (HB.out.o (Nat.le_refl _)) rfl (HB.out.l rfl).1 rfl (by omega) (Nat.le_trans HE0.out.2.2 HV.out.size) ?_)
              intro gB cB v6 ho hg hw
              have hk : Keeps (fun k => u5.ownBlock = some k) v5 v6 := (Keeps.refl _ _).grown hg (fun q e => .inl e)
              have HF := Lib.hid (made_fin HW0.out HV.out HA.out HB.out hg ho hw)
              have HV' : Hid (Keeps (Two u4 u5) wr v6) := Lib.hid (HV.out.trans hk (fun _ _ e => .inr e))
              clear ho hg hw hk HV HA HB
              have HV := HV'; clear HV'
              go_wp2_with fail
              refine ⟨.inr ⟨⟨v6, HV.out⟩, rfl⟩, ?_⟩
              have hne : Nonempty (KS (Two u4 u5) wr) := ⟨⟨wr, Keeps.refl _ _⟩⟩
              refine Mix.mix_seg 12 2 0 (by kernel_rfl) (by kernel_rfl) rfl rfl ⟨⟨v6, HV.out⟩, rfl⟩ ?_
              simp only [List.drop_succ_cons, List.drop_zero, List.take_succ_cons, List.take_zero]
              repeat (go_big_quiet_step (fail))
              refine wpQuiet_nil ?_
              clear hne HV HE0
              refine Mix.mix_end (by kernel_rfl) ?_
              go_wp2_with fail
              go_roundg (n - (i + 1))
              case rel => exact ⟨i + 1, by go_num, by omega, rfl, _, _, HF⟩
              case measure => omega
        · skip
          simp only [List.drop_succ_cons, List.drop_zero, List.take_succ_cons, List.take_zero]
          go_wp2_with (at_make; refine wpList_make_full _ rfl (.tmp 31) (.tmp 31) 53 rfl v1.heap.size 4 i4 _ 1 Tryd.underlying53 HI4.out.1 HI4.out.2.1 HI4.out.2.2.1 .i64 .i64 (R : Int) (R : Int) R rfl rfl rfl rfl (by rw [HI4.out.2.2.2]; omega) (by unfold maxLen; omega) (Nat.le_refl _) ?_)
          intro v2 ho hg
          rw [toList_madeCells_one, ← bl_zero] at ho
          have hk : Keeps No v1 v2 := (Keeps.refl _ _).grown hg (fun q e => by cases e)
          obtain ⟨pB, hp⟩ : ∃ q, v1.heap.size = q := ⟨_, rfl⟩
          rw [hp] at ho ⊢
          have HB' : Hid (MSt _ _ _ _ _ _ _ _ _ _ _ _) := Lib.hid (HB.out.make hk HV.out.size hp ho)
          have HA' : Hid (MSt _ _ _ _ _ _ _ _ _ _ _ _) := Lib.hid (HA.out.no hk)
          have HV' : Hid (Keeps (Two u4 u5) wr v2) := Lib.hid (HV.out.trans hk (fun _ _ e => e.elim))
          clear ho hg hk hp HV HA HB
          have HV := HV'; have HA := HA'; have HB := HB'; clear HV' HA' HB'
          go_wp2_with fail
          refine ⟨.inr ⟨⟨v2, HV.out⟩, rfl⟩, ?_⟩
          refine Mix.mix_two 4 10 5 (by kernel_rfl) rfl rfl rfl ?_ ?_
          · skip
            simp only [List.drop_succ_cons, List.drop_zero, List.take_succ_cons, List.take_zero]
            go_wp2_with fail
            obtain ⟨v3, hv⟩ : ∃ X, v2.alloc (.cells #[.slice (some ⟨pA, 0, none⟩) R R] 53) = X := ⟨_, rfl⟩
            obtain ⟨qA, hq⟩ : ∃ q, v2.heap.size = q := ⟨_, rfl⟩
            rw [hv, hq]
            have hk : Keeps No v2 v3 := by rw [← hv]; exact (Keeps.refl _ _).alloc _
            have HA' : Hid (MSt _ _ _ _ _ _ _ _ _ _ _ _) := Lib.hid (HA.out.build HV.out.size hq hv)
            have HB' : Hid (MSt _ _ _ _ _ _ _ _ _ _ _ _) := Lib.hid (HB.out.no hk)
            have HV' : Hid (Keeps (Two u4 u5) wr v3) := Lib.hid (HV.out.trans hk (fun _ _ e => e.elim))
            clear hk hq hv HV HA HB
            have HV := HV'; have HA := HA'; have HB := HB'; clear HV' HA' HB'
            refine ⟨.inr ⟨⟨v3, HV.out⟩, rfl⟩, ?_⟩
            refine Mix.mix_two 5 10 4 (by kernel_rfl) rfl rfl rfl ?_ ?_
            · skip
              simp only [List.drop_succ_cons, List.drop_zero, List.take_succ_cons, List.take_zero]
              go_wp2_with (at_builtin; refine wpList_appS _ rfl (.tmp 23) (.tmp 27) 47 rfl Tryd.underlying47 w1.heap.size u4 i (vrow i vsI0) (.slice (some ⟨pA, 0, none⟩) R R) qA rfl (HA.out.o (Nat.le_refl _)) rfl (HA.out.l rfl).1 rfl (by omega) (Nat.le_trans HE0.out.2.2 HV.out.size) ?_)
              intro gA cA v4 ho hg hw
              have hk : Keeps (fun k => u4.ownBlock = some k) v3 v4 := (Keeps.refl _ _).grown hg (fun q e => .inl e)
              have HA' : Hid (MSt _ _ _ _ _ _ _ _ _ _ _ _) := Lib.hid (HA.out.app (fun k e => (HE0.out.1 k e).1) hk HV.out.size ho hw)
              have HB' : Hid (MSt _ _ _ _ _ _ _ _ _ _ _ _) := Lib.hid (HB.out.keep hk (fun k e => ⟨(HE0.out.1 k e).1, HW0.out.ne k e⟩))
              have HV' : Hid (Keeps (Two u4 u5) wr v4) := Lib.hid (HV.out.trans hk (fun _ _ e => .inl e))
              clear ho hg hw hk HV HA HB
              have HV := HV'; have HA := HA'; have HB := HB'; clear HV' HA' HB'
              go_wp2_with fail
              refine ⟨.inr ⟨⟨v4, HV.out⟩, rfl⟩, ?_⟩
              refine Mix.mix_one 10 3 (by kernel_rfl) rfl rfl ?_
              simp only [List.drop_succ_cons, List.drop_zero, List.take_succ_cons, List.take_zero]
              go_wp2_with fail
              obtain ⟨v5, hv⟩ : ∃ X, v4.alloc (.cells #[.slice (some ⟨pB, 0, none⟩) R R] 53) = X := ⟨_, rfl⟩
              obtain ⟨qB, hq⟩ : ∃ q, v4.heap.size = q := ⟨_, rfl⟩
              rw [hv, hq]
              have hk : Keeps No v4 v5 := by rw [← hv]; exact (Keeps.refl _ _).alloc _
              have HB' : Hid (MSt _ _ _ _ _ _ _ _ _ _ _ _) := Lib.hid (HB.out.build HV.out.size hq hv)
              have HA' : Hid (MSt _ _ _ _ _ _ _ _ _ _ _ _) := Lib.hid (HA.out.no hk)
              have HV' : Hid (Keeps (Two u4 u5) wr v5) := Lib.hid (HV.out.trans hk (fun _ _ e => e.elim))
              clear hk hq hv HV HA HB
              have HV := HV'; have HA := HA'; have HB := HB'; clear HV' HA' HB'
              refine ⟨.inr ⟨⟨v5, HV.out⟩, rfl⟩, ?_⟩
              refine Mix.mix_one 11 2 (by kernel_rfl) rfl rfl ?_
              simp only [List.drop_succ_cons, List.drop_zero, List.take_succ_cons, List.take_zero]
              go_wp2_with (at_builtin; refine wpList_appS _ rfl (.tmp 29) (.tmp 33) 47 rfl Tryd.underlying47 w1.heap.size u5 i (vrow i vsO0) (.slice (some ⟨pB, 0, none⟩) R R) qB rfl (HB.out.o (Nat.le_refl _)) rfl (HB.out.l rfl).1 rfl (by omega) (Nat.le_trans HE0.out.2.2 HV.out.size) ?_)
              intro gB cB v6 ho hg hw
              have hk : Keeps (fun k => u5.ownBlock = some k) v5 v6 := (Keeps.refl _ _).grown hg (fun q e => .inl e)
              have HF := Lib.hid (made_fin HW0.out HV.out HA.out HB.out hg ho hw)
              have HV' : Hid (Keeps (Two u4 u5) wr v6) := Lib.hid (HV.out.trans hk (fun _ _ e => .inr e))
              clear ho hg hw hk HV HA HB
              have HV := HV'; clear HV'
              go_wp2_with fail
              refine ⟨.inr ⟨⟨v6, HV.out⟩, rfl⟩, ?_⟩
              have hne : Nonempty (KS (Two u4 u5) wr) := ⟨⟨wr, Keeps.refl _ _⟩⟩
              refine Mix.mix_seg 12 2 0 (by kernel_rfl) (by kernel_rfl) rfl rfl ⟨⟨v6, HV.out⟩, rfl⟩ ?_
              simp only [List.drop_succ_cons, List.drop_zero, List.take_succ_cons, List.take_zero]
              repeat (go_big_quiet_step (fail))
              refine wpQuiet_nil ?_
              clear hne HV HE0
              refine Mix.mix_end (by kernel_rfl) ?_
              go_wp2_with fail
              go_roundg (n - (i + 1))
              case rel => exact ⟨i + 1, by go_num, by omega, rfl, _, _, HF⟩
              case measure => omega
            · skip
              simp only [List.drop_succ_cons, List.drop_zero, List.take_succ_cons, List.take_zero]
              go_wp2_with fail
              obtain ⟨v4, hv⟩ : ∃ X, v3.alloc (.cells #[.slice (some ⟨pB, 0, none⟩) R R] 53) = X := ⟨_, rfl⟩
              obtain ⟨qB, hq⟩ : ∃ q, v3.heap.size = q := ⟨_, rfl⟩
              rw [hv, hq]
              have hk : Keeps No v3 v4 := by rw [← hv]; exact (Keeps.refl _ _).alloc _
              have HB' : Hid (MSt _ _ _ _ _ _ _ _ _ _ _ _) := Lib.hid (HB.out.build HV.out.size hq hv)
              have HA' : Hid (MSt _ _ _ _ _ _ _ _ _ _ _ _) := Lib.hid (HA.out.no hk)
              have HV' : Hid (Keeps (Two u4 u5) wr v4) := Lib.hid (HV.out.trans hk (fun _ _ e => e.elim))
              clear hk hq hv HV HA HB
              have HV := HV'; have HA := HA'; have HB := HB'; clear HV' HA' HB'
              refine ⟨.inr ⟨⟨v4, HV.out⟩, rfl⟩, ?_⟩
              refine Mix.mix_one 5 3 (by kernel_rfl) rfl rfl ?_
              simp only [List.drop_succ_cons, List.drop_zero, List.take_succ_cons, List.take_zero]
              go_wp2_with (at_builtin; refine wpList_appS _ rfl (.tmp 23) (.tmp 27) 47 rfl Tryd.underlying47 w1.heap.size u4 i (vrow i vsI0) (.slice (some ⟨pA, 0, none⟩) R R) qA rfl (HA.out.o (Nat.le_refl _)) rfl (HA.out.l rfl).1 rfl (by omega) (Nat.le_trans HE0.out.2.2 HV.out.size) ?_)
              intro gA cA v5 ho hg hw
              have hk : Keeps (fun k => u4.ownBlock = some k) v4 v5 := (Keeps.refl _ _).grown hg (fun q e => .inl e)
              have HA' : Hid (MSt _ _ _ _ _ _ _ _ _ _ _ _) := Lib.hid (HA.out.app (fun k e => (HE0.out.1 k e).1) hk HV.out.size ho hw)
              have HB' : Hid (MSt _ _ _ _ _ _ _ _ _ _ _ _) := Lib.hid (HB.out.keep hk (fun k e => ⟨(HE0.out.1 k e).1, HW0.out.ne k e⟩))
              have HV' : Hid (Keeps (Two u4 u5) wr v5) := Lib.hid (HV.out.trans hk (fun _ _ e => .inl e))
              clear ho hg hw hk HV HA HB
              have HV := HV'; have HA := HA'; have HB := HB'; clear HV' HA' HB'
              go_wp2_with fail
              refine ⟨.inr ⟨⟨v5, HV.out⟩, rfl⟩, ?_⟩
              refine Mix.mix_one 11 2 (by kernel_rfl) rfl rfl ?_
              simp only [List.drop_succ_cons, List.drop_zero, List.take_succ_cons, List.take_zero]
              go_wp2_with (at_builtin; refine wpList_appS _ rfl (.tmp 29) (.tmp 33) 47 rfl Tryd.underlying47 w1.heap.size u5 i (vrow i vsO0) (.slice (some ⟨pB, 0, none⟩) R R) qB rfl (HB.out.o (Nat.le_refl _)) rfl (HB.out.l rfl).1 rfl (by omega) (Nat.le_trans HE0.out.2.2 HV.out.size) ?_)
              intro gB cB v6 ho hg hw
              have hk : Keeps (fun k => u5.ownBlock = some k) v5 v6 := (Keeps.refl _ _).grown hg (fun q e => .inl e)
              have HF := Lib.hid (made_fin HW0.out HV.out HA.out HB.out hg ho hw)
              have HV' : Hid (Keeps (Two u4 u5) wr v6) := Lib.hid (HV.out.trans hk (fun _ _ e => .inr e))
              clear ho hg hw hk HV HA HB
              have HV := HV'; clear HV'
              go_wp2_with fail
              refine ⟨.inr ⟨⟨v6, HV.out⟩, rfl⟩, ?_⟩
              have hne : Nonempty (KS (Two u4 u5) wr) := ⟨⟨wr, Keeps.refl _ _⟩⟩
              refine Mix.mix_seg 12 2 0 (by kernel_rfl) (by kernel_rfl) rfl rfl ⟨⟨v6, HV.out⟩, rfl⟩ ?_
              simp only [List.drop_succ_cons, List.drop_zero, List.take_succ_cons, List.take_zero]
              repeat (go_big_quiet_step (fail))
              refine wpQuiet_nil ?_
              clear hne HV HE0
              refine Mix.mix_end (by kernel_rfl) ?_
              go_wp2_with fail
              go_roundg (n - (i + 1))
              case rel => exact ⟨i + 1, by go_num, by omega, rfl, _, _, HF⟩
              case measure => omega
          · skip
            simp only [List.drop_succ_cons, List.drop_zero, List.take_succ_cons, List.take_zero]
            go_wp2_with fail
            obtain ⟨v3, hv⟩ : ∃ X, v2.alloc (.cells #[.slice (some ⟨pB, 0, none⟩) R R] 53) = X := ⟨_, rfl⟩
            obtain ⟨qB, hq⟩ : ∃ q, v2.heap.size = q := ⟨_, rfl⟩
            rw [hv, hq]
            have hk : Keeps No v2 v3 := by rw [← hv]; exact (Keeps.refl _ _).alloc _
            have HB' : Hid (MSt _ _ _ _ _ _ _ _ _ _ _ _) := Lib.hid (HB.out.build HV.out.size hq hv)
            have HA' : Hid (MSt _ _ _ _ _ _ _ _ _ _ _ _) := Lib.hid (HA.out.no hk)
            have HV' : Hid (Keeps (Two u4 u5) wr v3) := Lib.hid (HV.out.trans hk (fun _ _ e => e.elim))
            clear hk hq hv HV HA HB
            have HV := HV'; have HA := HA'; have HB := HB'; clear HV' HA' HB'
            refine ⟨.inr ⟨⟨v3, HV.out⟩, rfl⟩, ?_⟩
            refine Mix.mix_one 4 4 (by kernel_rfl) rfl rfl ?_
            simp only [List.drop_succ_cons, List.drop_zero, List.take_succ_cons, List.take_zero]
            go_wp2_with fail
            obtain ⟨v4, hv⟩ : ∃ X, v3.alloc (.cells #[.slice (some ⟨pA, 0, none⟩) R R] 53) = X := ⟨_, rfl⟩
            obtain ⟨qA, hq⟩ : ∃ q, v3.heap.size = q := ⟨_, rfl⟩
            rw [hv, hq]
            have hk : Keeps No v3 v4 := by rw [← hv]; exact (Keeps.refl _ _).alloc _
            have HA' : Hid (MSt _ _ _ _ _ _ _ _ _ _ _ _) := Lib.hid (HA.out.build HV.out.size hq hv)
            have HB' : Hid (MSt _ _ _ _ _ _ _ _ _ _ _ _) := Lib.hid (HB.out.no hk)
            have HV' : Hid (Keeps (Two u4 u5) wr v4) := Lib.hid (HV.out.trans hk (fun _ _ e => e.elim))
            clear hk hq hv HV HA HB
            have HV := HV'; have HA := HA'; have HB := HB'; clear HV' HA' HB'
            refine ⟨.inr ⟨⟨v4, HV.out⟩, rfl⟩, ?_⟩
            refine Mix.mix_one 5 3 (by kernel_rfl) rfl rfl ?_
            simp only [List.drop_succ_cons, List.drop_zero, List.take_succ_cons, List.take_zero]
            go_wp2_with (at_builtin; refine wpList_appS _ rfl (.tmp 23) (.tmp 27) 47 rfl Tryd.underlying47 w1.heap.size u4 i (vrow i vsI0) (.slice (some ⟨pA, 0, none⟩) R R) qA rfl (HA.out.o (Nat.le_refl _)) rfl (HA.out.l rfl).1 rfl (by omega) (Nat.le_trans HE0.out.2.2 HV.out.size) ?_)
            intro gA cA v5 ho hg hw
            have hk : Keeps (fun k => u4.ownBlock = some k) v4 v5 := (Keeps.refl _ _).grown hg (fun q e => .inl e)
            have HA' : Hid (MSt _ _ _ _ _ _ _ _ _ _ _ _) := Lib.hid (HA.out.app (fun k e => (HE0.out.1 k e).1) hk HV.out.size ho hw)
            have HB' : Hid (MSt _ _ _ _ _ _ _ _ _ _ _ _) := Lib.hid (HB.out.keep hk (fun k e => ⟨(HE0.out.1 k e).1, HW0.out.ne k e⟩))
            have HV' : Hid (Keeps (Two u4 u5) wr v5) := Lib.hid (HV.out.trans hk (fun _ _ e => .inl e))
            clear ho hg hw hk HV HA HB
            have HV := HV'; have HA := HA'; have HB := HB'; clear HV' HA' HB'
            go_wp2_with fail
            refine ⟨.inr ⟨⟨v5, HV.out⟩, rfl⟩, ?_⟩
            refine Mix.mix_one 11 2 (by kernel_rfl) rfl rfl ?_
            simp only [List.drop_succ_cons, List.drop_zero, List.take_succ_cons, List.take_zero]
            go_wp2_with (at_builtin; refine wpList_appS _ rfl (.tmp 29) (.tmp 33) 47 rfl Tryd.underlying47 w1.heap.size u5 i (vrow i vsO0) (.slice (some ⟨pB, 0, none⟩) R R) qB rfl (HB.out.o (Nat.le_refl _)) rfl (HB.out.l rfl).1 rfl (by omega) (Nat.le_trans HE0.out.2.2 HV.out.size) ?_)
            intro gB cB v6 ho hg hw
            have hk : Keeps (fun k => u5.ownBlock = some k) v5 v6 := (Keeps.refl _ _).grown hg (fun q e => .inl e)
            have HF := Lib.hid (made_fin HW0.out HV.out HA.out HB.out hg ho hw)
            have HV' : Hid (Keeps (Two u4 u5) wr v6) := Lib.hid (HV.out.trans hk (fun _ _ e => .inr e))
            clear ho hg hw hk HV HA HB
            have HV := HV'; clear HV'
            go_wp2_with fail
            refine ⟨.inr ⟨⟨v6, HV.out⟩, rfl⟩, ?_⟩
            have hne : Nonempty (KS (Two u4 u5) wr) := ⟨⟨wr, Keeps.refl _ _⟩⟩
            refine Mix.mix_seg 12 2 0 (by kernel_rfl) (by kernel_rfl) rfl rfl ⟨⟨v6, HV.out⟩, rfl⟩ ?_
            simp only [List.drop_succ_cons, List.drop_zero, List.take_succ_cons, List.take_zero]
            repeat (go_big_quiet_step (fail))
            refine wpQuiet_nil ?_
            clear hne HV HE0
            refine Mix.mix_end (by kernel_rfl) ?_
            go_wp2_with fail
            go_roundg (n - (i + 1))
            case rel => exact ⟨i + 1, by go_num, by omega, rfl, _, _, HF⟩
            case measure => omega
      · skip
        simp only [List.drop_succ_cons, List.drop_zero, List.take_succ_cons, List.take_zero]
        go_wp2_with (at_make; refine wpList_make_full _ rfl (.tmp 31) (.tmp 31) 53 rfl v0.heap.size 4 i4 _ 1 Tryd.underlying53 HI4.out.1 HI4.out.2.1 HI4.out.2.2.1 .i64 .i64 (R : Int) (R : Int) R rfl rfl rfl rfl (by rw [HI4.out.2.2.2]; omega) (by unfold maxLen; omega) (Nat.le_refl _) ?_)
        intro v1 ho hg
        rw [toList_madeCells_one, ← bl_zero] at ho
        have hk : Keeps No v0 v1 := (Keeps.refl _ _).grown hg (fun q e => by cases e)
        obtain ⟨pB, hp⟩ : ∃ q, v0.heap.size = q := ⟨_, rfl⟩
        rw [hp] at ho ⊢
        have HB' : Hid (MSt _ _ _ _ _ _ _ _ _ _ _ _) := Lib.hid (HB.out.make hk HV.out.size hp ho)
        have HA' : Hid (MSt _ _ _ _ _ _ _ _ _ _ _ _) := Lib.hid (HA.out.no hk)
        have HV' : Hid (Keeps (Two u4 u5) wr v1) := Lib.hid (HV.out.trans hk (fun _ _ e => e.elim))
        clear ho hg hk hp HV HA HB
        have HV := HV'; have HA := HA'; have HB := HB'; clear HV' HA' HB'
        go_wp2_with fail
        refine ⟨.inr ⟨⟨v1, HV.out⟩, rfl⟩, ?_⟩
        refine Mix.mix_two 3 10 6 (by kernel_rfl) rfl rfl rfl ?_ ?_
        · skip
          simp only [List.drop_succ_cons, List.drop_zero, List.take_succ_cons, List.take_zero]
          go_wp2_with (at_make; refine wpList_make_full _ rfl (.tmp 25) (.tmp 25) 53 rfl v1.heap.size 4 i4 _ 1 Tryd.underlying53 HI4.out.1 HI4.out.2.1 HI4.out.2.2.1 .i64 .i64 (R : Int) (R : Int) R rfl rfl rfl rfl (by rw [HI4.out.2.2.2]; omega) (by unfold maxLen; omega) (Nat.le_refl _) ?_)
          intro v2 ho hg
          rw [toList_madeCells_one, ← bl_zero] at ho
          have hk : Keeps No v1 v2 := (Keeps.refl _ _).grown hg (fun q e => by cases e)
          obtain ⟨pA, hp⟩ : ∃ q, v1.heap.size = q := ⟨_, rfl⟩
          rw [hp] at ho ⊢
          have HA' : Hid (MSt _ _ _ _ _ _ _ _ _ _ _ _) := Lib.hid (HA.out.make hk HV.out.size hp ho)
          have HB' : Hid (MSt _ _ _ _ _ _ _ _ _ _ _ _) := Lib.hid (HB.out.no hk)
          have HV' : Hid (Keeps (Two u4 u5) wr v2) := Lib.hid (HV.out.trans hk (fun _ _ e => e.elim))
          clear ho hg hk hp HV HA HB
          have HV := HV'; have HA := HA'; have HB := HB'; clear HV' HA' HB'
          go_wp2_with fail
          refine ⟨.inr ⟨⟨v2, HV.out⟩, rfl⟩, ?_⟩
          refine Mix.mix_two 4 10 5 (by kernel_rfl) rfl rfl rfl ?_ ?_
          · skip
            simp only [List.drop_succ_cons, List.drop_zero, List.take_succ_cons, List.take_zero]
            go_wp2_with fail
            obtain ⟨v3, hv⟩ : ∃ X, v2.alloc (.cells #[.slice (some ⟨pA, 0, none⟩) R R] 53) = X := ⟨_, rfl⟩
            obtain ⟨qA, hq⟩ : ∃ q, v2.heap.size = q := ⟨_, rfl⟩
            rw [hv, hq]
            have hk : Keeps No v2 v3 := by rw [← hv]; exact (Keeps.refl _ _).alloc _
            have HA' : Hid (MSt _ _ _ _ _ _ _ _ _ _ _ _) := Lib.hid (HA.out.build HV.out.size hq hv)
            have HB' : Hid (MSt _ _ _ _ _ _ _ _ _ _ _ _) := Lib.hid (HB.out.no hk)
            have HV' : Hid (Keeps (Two u4 u5) wr v3) := Lib.hid (HV.out.trans hk (fun _ _ e => e.elim))
            clear hk hq hv HV HA HB
            have HV := HV'; have HA := HA'; have HB := HB'; clear HV' HA' HB'
            refine ⟨.inr ⟨⟨v3, HV.out⟩, rfl⟩, ?_⟩
            refine Mix.mix_two 5 10 4 (by kernel_rfl) rfl rfl rfl ?_ ?_
            · skip
              simp only [List.drop_succ_cons, List.drop_zero, List.take_succ_cons, List.take_zero]
              go_wp2_with (at_builtin; refine wpList_appS _ rfl (.tmp 23) (.tmp 27) 47 rfl Tryd.underlying47 w1.heap.size u4 i (vrow i vsI0) (.slice (some ⟨pA, 0, none⟩) R R) qA rfl (HA.out.o (Nat.le_refl _)) rfl (HA.out.l rfl).1 rfl (by omega) (Nat.le_trans HE0.out.2.2 HV.out.size) ?_)
              intro gA cA v4 ho hg hw
              have hk : Keeps (fun k => u4.ownBlock = some k) v3 v4 := (Keeps.refl _ _).grown hg (fun q e => .inl e)
              have HA' : Hid (MSt _ _ _ _ _ _ _ _ _ _ _ _) := Lib.hid (HA.out.app (fun k e => (HE0.out.1 k e).1) hk HV.out.size ho hw)
              have HB' : Hid (MSt _ _ _ _ _ _ _ _ _ _ _ _) := Lib.hid (HB.out.keep hk (fun k e => ⟨(HE0.out.1 k e).1, HW0.out.ne k e⟩))
              have HV' : Hid (Keeps (Two u4 u5) wr v4) := Lib.hid (HV.out.trans hk (fun _ _ e => .inl e))
              clear ho hg hw hk HV HA HB
              have HV := HV'; have HA := HA'; have HB := HB'; clear HV' HA' HB'
              go_wp2_with fail
              refine ⟨.inr ⟨⟨v4, HV.out⟩, rfl⟩, ?_⟩
              refine Mix.mix_one 10 3 (by kernel_rfl) rfl rfl ?_
              simp only [List.drop_succ_cons, List.drop_zero, List.take_succ_cons, List.take_zero]
              go_wp2_with fail
              obtain ⟨v5, hv⟩ : ∃ X, v4.alloc (.cells #[.slice (some ⟨pB, 0, none⟩) R R] 53) = X := ⟨_, rfl⟩
              obtain ⟨qB, hq⟩ : ∃ q, v4.heap.size = q := ⟨_, rfl⟩
              rw [hv, hq]
              have hk : Keeps No v4 v5 := by rw [← hv]; exact (Keeps.refl _ _).alloc _
              have HB' : Hid (MSt _ _ _ _ _ _ _ _ _ _ _ _) := Lib.hid (HB.out.build HV.out.size hq hv)
              have HA' : Hid (MSt _ _ _ _ _ _ _ _ _ _ _ _) := Lib.hid (HA.out.no hk)
              have HV' : Hid (Keeps (Two u4 u5) wr v5) := Lib.hid (HV.out.trans hk (fun _ _ e => e.elim))
              clear hk hq hv HV HA HB
              have HV := HV'; have HA := HA'; have HB := HB'; clear HV' HA' HB'
              refine ⟨.inr ⟨⟨v5, HV.out⟩, rfl⟩, ?_⟩
              refine Mix.mix_one 11 2 (by kernel_rfl) rfl rfl ?_
              simp only [List.drop_succ_cons, List.drop_zero, List.take_succ_cons, List.take_zero]
              go_wp2_with (at_builtin; refine wpList_appS _ rfl (.tmp 29) (.tmp 33) 47 rfl Tryd.underlying47 w1.heap.size u5 i (vrow i vsO0) (.slice (some ⟨pB, 0, none⟩) R R) qB rfl (HB.out.o (Nat.le_refl _)) rfl (HB.out.l rfl).1 rfl (by omega) (Nat.le_trans HE0.out.2.2 HV.out.size) ?_)
              intro gB cB v6 ho hg hw
              have hk : Keeps (fun k => u5.ownBlock = some k) v5 v6 := (Keeps.refl _ _).grown hg (fun q e => .inl e)
              have HF := Lib.hid (made_fin HW0.out HV.out HA.out HB.out hg ho hw)
              have HV' : Hid (Keeps (Two u4 u5) wr v6) := Lib.hid (HV.out.trans hk (fun _ _ e => .inr e))
              clear ho hg hw hk HV HA HB
              have HV := HV'; clear HV'
              go_wp2_with fail
              refine ⟨.inr ⟨⟨v6, HV.out⟩, rfl⟩, ?_⟩
              have hne : Nonempty (KS (Two u4 u5) wr) := ⟨⟨wr, Keeps.refl _ _⟩⟩
              refine Mix.mix_seg 12 2 0 (by kernel_rfl) (by kernel_rfl) rfl rfl ⟨⟨v6, HV.out⟩, rfl⟩ ?_
              simp only [List.drop_succ_cons, List.drop_zero, List.take_succ_cons, List.take_zero]
              repeat (go_big_quiet_step (fail))
              refine wpQuiet_nil ?_
              clear hne HV HE0
              refine Mix.mix_end (by kernel_rfl) ?_
              go_wp2_with fail
              go_roundg (n - (i + 1))
              case rel => exact ⟨i + 1, by go_num, by omega, rfl, _, _, HF⟩
              case measure => omega
            · skip
              simp only [List.drop_succ_cons, List.drop_zero, List.take_succ_cons, List.take_zero]
              go_wp2_with fail
              obtain ⟨v4, hv⟩ : ∃ X, v3.alloc (.cells #[.slice (some ⟨pB, 0, none⟩) R R] 53) = X := ⟨_, rfl⟩
              obtain ⟨qB, hq⟩ : ∃ q, v3.heap.size = q := ⟨_, rfl⟩
              rw [hv, hq]
              have hk : Keeps No v3 v4 := by rw [← hv]; exact (Keeps.refl _ _).alloc _
              have HB' : Hid (MSt _ _ _ _ _ _ _ _ _ _ _ _) := Lib.hid (HB.out.build HV.out.size hq hv)
              have HA' : Hid (MSt _ _ _ _ _ _ _ _ _ _ _ _) := Lib.hid (HA.out.no hk)
              have HV' : Hid (Keeps (Two u4 u5) wr v4) := Lib.hid (HV.out.trans hk (fun _ _ e => e.elim))
              clear hk hq hv HV HA HB
              have HV := HV'; have HA := HA'; have HB := HB'; clear HV' HA' HB'
              refine ⟨.inr ⟨⟨v4, HV.out⟩, rfl⟩, ?_⟩
              refine Mix.mix_one 5 3 (by kernel_rfl) rfl rfl ?_
              simp only [List.drop_succ_cons, List.drop_zero, List.take_succ_cons, List.take_zero]
              go_wp2_with (at_builtin; refine wpList_appS _ rfl (.tmp 23) (.tmp 27) 47 rfl Tryd.underlying47 w1.heap.size u4 i (vrow i vsI0) (.slice (some ⟨pA, 0, none⟩) R R) qA rfl (HA.out.o (Nat.le_refl _)) rfl (HA.out.l rfl).1 rfl (by omega) (Nat.le_trans HE0.out.2.2 HV.out.size) ?_)
              intro gA cA v5 ho hg hw
              have hk : Keeps (fun k => u4.ownBlock = some k) v4 v5 := (Keeps.refl _ _).grown hg (fun q e => .inl e)
              have HA' : Hid (MSt _ _ _ _ _ _ _ _ _ _ _ _) := Lib.hid (HA.out.app (fun k e => (HE0.out.1 k e).1) hk HV.out.size ho hw)
              have HB' : Hid (MSt _ _ _ _ _ _ _ _ _ _ _ _) := Lib.hid (HB.out.keep hk (fun k e => ⟨(HE0.out.1 k e).1, HW0.out.ne k e⟩))
              have HV' : Hid (Keeps (Two u4 u5) wr v5) := Lib.hid (HV.out.trans hk (fun _ _ e => .inl e))
              clear ho hg hw hk HV HA HB
              have HV := HV'; have HA := HA'; have HB := HB'; clear HV' HA' HB'
              go_wp2_with fail
              refine ⟨.inr ⟨⟨v5, HV.out⟩, rfl⟩, ?_⟩
              refine Mix.mix_one 11 2 (by kernel_rfl) rfl rfl ?_
              simp only [List.drop_succ_cons, List.drop_zero, List.take_succ_cons, List.take_zero]
              go_wp2_with (at_builtin; refine wpList_appS _ rfl (.tmp 29) (.tmp 33) 47 rfl Tryd.underlying47 w1.heap.size u5 i (vrow i vsO0) (.slice (some ⟨pB, 0, none⟩) R R) qB rfl (HB.out.o (Nat.le_refl _)) rfl (HB.out.l rfl).1 rfl (by omega) (Nat.le_trans HE0.out.2.2 HV.out.size) ?_)
              intro gB cB v6 ho hg hw
              have hk : Keeps (fun k => u5.ownBlock = some k) v5 v6 := (Keeps.refl _ _).grown hg (fun q e => .inl e)
              have HF := Lib.hid (made_fin HW0.out HV.out HA.out HB.out hg ho hw)
              have HV' : Hid (Keeps (Two u4 u5) wr v6) := Lib.hid (HV.out.trans hk (fun _ _ e => .inr e))
              clear ho hg hw hk HV HA HB
              have HV := HV'; clear HV'
              go_wp2_with fail
              refine ⟨.inr ⟨⟨v6, HV.out⟩, rfl⟩, ?_⟩
              have hne : Nonempty (KS (Two u4 u5) wr) := ⟨⟨wr, Keeps.refl _ _⟩⟩
              refine Mix.mix_seg 12 2 0 (by kernel_rfl) (by kernel_rfl) rfl rfl ⟨⟨v6, HV.out⟩, rfl⟩ ?_
              simp only [List.drop_succ_cons, List.drop_zero, List.take_succ_cons, List.take_zero]
              repeat (go_big_quiet_step (fail))
              refine wpQuiet_nil ?_
              clear hne HV HE0
              refine Mix.mix_end (by kernel_rfl) ?_
              go_wp2_with fail
              go_roundg (n - (i + 1))
              case rel => exact ⟨i + 1, by go_num, by omega, rfl, _, _, HF⟩
              case measure => omega
          · skip
            simp only [List.drop_succ_cons, List.drop_zero, List.take_succ_cons, List.take_zero]
            go_wp2_with fail
            obtain ⟨v3, hv⟩ : ∃ X, v2.alloc (.cells #[.slice (some ⟨pB, 0, none⟩) R R] 53) = X := ⟨_, rfl⟩
            obtain ⟨qB, hq⟩ : ∃ q, v2.heap.size = q := ⟨_, rfl⟩
            rw [hv, hq]
            have hk : Keeps No v2 v3 := by rw [← hv]; exact (Keeps.refl _ _).alloc _
            have HB' : Hid (MSt _ _ _ _ _ _ _ _ _ _ _ _) := Lib.hid (HB.out.build HV.out.size hq hv)
            have HA' : Hid (MSt _ _ _ _ _ _ _ _ _ _ _ _) := Lib.hid (HA.out.no hk)
            have HV' : Hid (Keeps (Two u4 u5) wr v3) := Lib.hid (HV.out.trans hk (fun _ _ e => e.elim))
            clear hk hq hv HV HA HB
            have HV := HV'; have HA := HA'; have HB := HB'; clear HV' HA' HB'
            refine ⟨.inr ⟨⟨v3, HV.out⟩, rfl⟩, ?_⟩
            refine Mix.mix_one 4 4 (by kernel_rfl) rfl rfl ?_
            simp only [List.drop_succ_cons, List.drop_zero, List.take_succ_cons, List.take_zero]
            go_wp2_with fail
            obtain ⟨v4, hv⟩ : ∃ X, v3.alloc (.cells #[.slice (some ⟨pA, 0, none⟩) R R] 53) = X := ⟨_, rfl⟩
            obtain ⟨qA, hq⟩ : ∃ q, v3.heap.size = q := ⟨_, rfl⟩
            rw [hv, hq]
            have hk : Keeps No v3 v4 := by rw [← hv]; exact (Keeps.refl _ _).alloc _
            have HA' : Hid (MSt _ _ _ _ _ _ _ _ _ _ _ _) := Lib.hid (HA.out.build HV.out.size hq hv)
            have HB' : Hid (MSt _ _ _ _ _ _ _ _ _ _ _ _) := Lib.hid (HB.out.no hk)
            have HV' : Hid (Keeps (Two u4 u5) wr v4) := Lib.hid (HV.out.trans hk (fun _ _ e => e.elim))
            clear hk hq hv HV HA HB
            have HV := HV'; have HA := HA'; have HB := HB'; clear HV' HA' HB'
            refine ⟨.inr ⟨⟨v4, HV.out⟩, rfl⟩, ?_⟩
            refine Mix.mix_one 5 3 (by kernel_rfl) rfl rfl ?_
            simp only [List.drop_succ_cons, List.drop_zero, List.take_succ_cons, List.take_zero]
            go_wp2_with (at_builtin; refine wpList_appS _ rfl (.tmp 23) (.tmp 27) 47 rfl Tryd.underlying47 w1.heap.size u4 i (vrow i vsI0) (.slice (some ⟨pA, 0, none⟩) R R) qA rfl (HA.out.o (Nat.le_refl _)) rfl (HA.out.l rfl).1 rfl (by omega) (Nat.le_trans HE0.out.2.2 HV.out.size) ?_)
            intro gA cA v5 ho hg hw
            have hk : Keeps (fun k => u4.ownBlock = some k) v4 v5 := (Keeps.refl _ _).grown hg (fun q e => .inl e)
            have HA' : Hid (MSt _ _ _ _ _ _ _ _ _ _ _ _) := Lib.hid (HA.out.app (fun k e => (HE0.out.1 k e).1) hk HV.out.size ho hw)
            have HB' : Hid (MSt _ _ _ _ _ _ _ _ _ _ _ _) := Lib.hid (HB.out.keep hk (fun k e => ⟨(HE0.out.1 k e).1, HW0.out.ne k e⟩))
            have HV' : Hid (Keeps (Two u4 u5) wr v5) := Lib.hid (HV.out.trans hk (fun _ _ e => .inl e))
            clear ho hg hw hk HV HA HB
            have HV := HV'; have HA := HA'; have HB := HB'; clear HV' HA' HB'
            go_wp2_with fail
            refine ⟨.inr ⟨⟨v5, HV.out⟩, rfl⟩, ?_⟩
            refine Mix.mix_one 11 2 (by kernel_rfl) rfl rfl ?_
            simp only [List.drop_succ_cons, List.drop_zero, List.take_succ_cons, List.take_zero]
            go_wp2_with (at_builtin; refine wpList_appS _ rfl (.tmp 29) (.tmp 33) 47 rfl Tryd.underlying47 w1.heap.size u5 i (vrow i vsO0) (.slice (some ⟨pB, 0, none⟩) R R) qB rfl (HB.out.o (Nat.le_refl _)) rfl (HB.out.l rfl).1 rfl (by omega) (Nat.le_trans HE0.out.2.2 HV.out.size) ?_)
            intro gB cB v6 ho hg hw
            have hk : Keeps (fun k => u5.ownBlock = some k) v5 v6 := (Keeps.refl _ _).grown hg (fun q e => .inl e)
            have HF := Lib.hid (made_fin HW0.out HV.out HA.out HB.out hg ho hw)
            have HV' : Hid (Keeps (Two u4 u5) wr v6) := Lib.hid (HV.out.trans hk (fun _ _ e => .inr e))
            clear ho hg hw hk HV HA HB
            have HV := HV'; clear HV'
            go_wp2_with fail
            refine ⟨.inr ⟨⟨v6, HV.out⟩, rfl⟩, ?_⟩
            have hne : Nonempty (KS (Two u4 u5) wr) := ⟨⟨wr, Keeps.refl _ _⟩⟩
            refine Mix.mix_seg 12 2 0 (by kernel_rfl) (by kernel_rfl) rfl rfl ⟨⟨v6, HV.out⟩, rfl⟩ ?_
            simp only [List.drop_succ_cons, List.drop_zero, List.take_succ_cons, List.take_zero]
            repeat (go_big_quiet_step (fail))
            refine wpQuiet_nil ?_
            clear hne HV HE0
            refine Mix.mix_end (by kernel_rfl) ?_
            go_wp2_with fail
            go_roundg (n - (i + 1))
            case rel => exact ⟨i + 1, by go_num, by omega, rfl, _, _, HF⟩
            case measure => omega
        · skip
          simp only [List.drop_succ_cons, List.drop_zero, List.take_succ_cons, List.take_zero]
          go_wp2_with fail
          obtain ⟨v2, hv⟩ : ∃ X, v1.alloc (.cells #[.slice (some ⟨pB, 0, none⟩) R R] 53) = X := ⟨_, rfl⟩
          obtain ⟨qB, hq⟩ : ∃ q, v1.heap.size = q := ⟨_, rfl⟩
          rw [hv, hq]
          have hk : Keeps No v1 v2 := by rw [← hv]; exact (Keeps.refl _ _).alloc _
          have HB' : Hid (MSt _ _ _ _ _ _ _ _ _ _ _ _) := Lib.hid (HB.out.build HV.out.size hq hv)
          have HA' : Hid (MSt _ _ _ _ _ _ _ _ _ _ _ _) := Lib.hid (HA.out.no hk)
          have HV' : Hid (Keeps (Two u4 u5) wr v2) := Lib.hid (HV.out.trans hk (fun _ _ e => e.elim))
          clear hk hq hv HV HA HB
          have HV := HV'; have HA := HA'; have HB := HB'; clear HV' HA' HB'
          refine ⟨.inr ⟨⟨v2, HV.out⟩, rfl⟩, ?_⟩
          refine Mix.mix_one 3 5 (by kernel_rfl) rfl rfl ?_
          simp only [List.drop_succ_cons, List.drop_zero, List.take_succ_cons, List.take_zero]
          go_wp2_with (at_make; refine wpList_make_full _ rfl (.tmp 25) (.tmp 25) 53 rfl v2.heap.size 4 i4 _ 1 Tryd.underlying53 HI4.out.1 HI4.out.2.1 HI4.out.2.2.1 .i64 .i64 (R : Int) (R : Int) R rfl rfl rfl rfl (by rw [HI4.out.2.2.2]; omega) (by unfold maxLen; omega) (Nat.le_refl _) ?_)
          intro v3 ho hg
          rw [toList_madeCells_one, ← bl_zero] at ho
          have hk : Keeps No v2 v3 := (Keeps.refl _ _).grown hg (fun q e => by cases e)
          obtain ⟨pA, hp⟩ : ∃ q, v2.heap.size = q := ⟨_, rfl⟩
          rw [hp] at ho ⊢
          have HA' : Hid (MSt _ _ _ _ _ _ _ _ _ _ _ _) := Lib.hid (HA.out.make hk HV.out.size hp ho)
          have HB' : Hid (MSt _ _ _ _ _ _ _ _ _ _ _ _) := Lib.hid (HB.out.no hk)
          have HV' : Hid (Keeps (Two u4 u5) wr v3) := Lib.hid (HV.out.trans hk (fun _ _ e => e.elim))
          clear ho hg hk hp HV HA HB
          have HV := HV'; have HA := HA'; have HB := HB'; clear HV' HA' HB'
          go_wp2_with fail
          refine ⟨.inr ⟨⟨v3, HV.out⟩, rfl⟩, ?_⟩
          refine Mix.mix_one 4 4 (by kernel_rfl) rfl rfl ?_
          simp only [List.drop_succ_cons, List.drop_zero, List.take_succ_cons, List.take_zero]
          go_wp2_with fail
          obtain ⟨v4, hv⟩ : ∃ X, v3.alloc (.cells #[.slice (some ⟨pA, 0, none⟩) R R] 53) = X := ⟨_, rfl⟩
          obtain ⟨qA, hq⟩ : ∃ q, v3.heap.size = q := ⟨_, rfl⟩
          rw [hv, hq]
          have hk : Keeps No v3 v4 := by rw [← hv]; exact (Keeps.refl _ _).alloc _
          have HA' : Hid (MSt _ _ _ _ _ _ _ _ _ _ _ _) := Lib.hid (HA.out.build HV.out.size hq hv)
          have HB' : Hid (MSt _ _ _ _ _ _ _ _ _ _ _ _) := Lib.hid (HB.out.no hk)
          have HV' : Hid (Keeps (Two u4 u5) wr v4) := Lib.hid (HV.out.trans hk (fun _ _ e => e.elim))
          clear hk hq hv HV HA HB
          have HV := HV'; have HA := HA'; have HB := HB'; clear HV' HA' HB'
          refine ⟨.inr ⟨⟨v4, HV.out⟩, rfl⟩, ?_⟩
          refine Mix.mix_one 5 3 (by kernel_rfl) rfl rfl ?_
          simp only [List.drop_succ_cons, List.drop_zero, List.take_succ_cons, List.take_zero]
          go_wp2_with (at_builtin; refine wpList_appS _ rfl (.tmp 23) (.tmp 27) 47 rfl Tryd.underlying47 w1.heap.size u4 i (vrow i vsI0) (.slice (some ⟨pA, 0, none⟩) R R) qA rfl (HA.out.o (Nat.le_refl _)) rfl (HA.out.l rfl).1 rfl (by omega) (Nat.le_trans HE0.out.2.2 HV.out.size) ?_)
          intro gA cA v5 ho hg hw
          have hk : Keeps (fun k => u4.ownBlock = some k) v4 v5 := (Keeps.refl _ _).grown hg (fun q e => .inl e)
          have HA' : Hid (MSt _ _ _ _ _ _ _ _ _ _ _ _) := Lib.hid (HA.out.app (fun k e => (HE0.out.1 k e).1) hk HV.out.size ho hw)
          have HB' : Hid (MSt _ _ _ _ _ _ _ _ _ _ _ _) := Lib.hid (HB.out.keep hk (fun k e => ⟨(HE0.out.1 k e).1, HW0.out.ne k e⟩))
          have HV' : Hid (Keeps (Two u4 u5) wr v5) := Lib.hid (HV.out.trans hk (fun _ _ e => .inl e))
          clear ho hg hw hk HV HA HB
          have HV := HV'; have HA := HA'; have HB := HB'; clear HV' HA' HB'
          go_wp2_with fail
          refine ⟨.inr ⟨⟨v5, HV.out⟩, rfl⟩, ?_⟩
          refine Mix.mix_one 11 2 (by kernel_rfl) rfl rfl ?_
          simp only [List.drop_succ_cons, List.drop_zero, List.take_succ_cons, List.take_zero]
          go_wp2_with (at_builtin; refine wpList_appS _ rfl (.tmp 29) (.tmp 33) 47 rfl Tryd.underlying47 w1.heap.size u5 i (vrow i vsO0) (.slice (some ⟨pB, 0, none⟩) R R) qB rfl (HB.out.o (Nat.le_refl _)) rfl (HB.out.l rfl).1 rfl (by omega) (Nat.le_trans HE0.out.2.2 HV.out.size) ?_)
          intro gB cB v6 ho hg hw
          have hk : Keeps (fun k => u5.ownBlock = some k) v5 v6 := (Keeps.refl _ _).grown hg (fun q e => .inl e)
          have HF := Lib.hid (made_fin HW0.out HV.out HA.out HB.out hg ho hw)
          have HV' : Hid (Keeps (Two u4 u5) wr v6) := Lib.hid (HV.out.trans hk (fun _ _ e => .inr e))
          clear ho hg hw hk HV HA HB
          have HV := HV'; clear HV'
          go_wp2_with fail
          refine ⟨.inr ⟨⟨v6, HV.out⟩, rfl⟩, ?_⟩
          have hne : Nonempty (KS (Two u4 u5) wr) := ⟨⟨wr, Keeps.refl _ _⟩⟩
          refine Mix.mix_seg 12 2 0 (by kernel_rfl) (by kernel_rfl) rfl rfl ⟨⟨v6, HV.out⟩, rfl⟩ ?_
          simp only [List.drop_succ_cons, List.drop_zero, List.take_succ_cons, List.take_zero]
          repeat (go_big_quiet_step (fail))
          refine wpQuiet_nil ?_
          clear hne HV HE0
          refine Mix.mix_end (by kernel_rfl) ?_
          go_wp2_with fail
          go_roundg (n - (i + 1))
          case rel => exact ⟨i + 1, by go_num, by omega, rfl, _, _, HF⟩
          case measure => omega
      -- DEV>
    · obtain rfl : i = n := by omega
      have hlt' : ¬ (i : Int) < (i : Int) := by omega
      have hpos : 0 < i := by
        have h := HFORM.out
        unfold Fx.formOk at h
        rw [Bool.and_eq_true, Bool.and_eq_true] at h
        have h6 := h.1.2
        rw [← HLEN.out]
        cases hl : f.bl with
        | nil => rw [hl] at h6; simp at h6
        | cons x t => simp
      obtain ⟨a4, k4, rfl, h4⟩ := own_form HW0.out.i.own
      obtain ⟨g4, rfl⟩ := h4 hpos
      obtain ⟨a5, k5, rfl, h5⟩ := own_form HW0.out.o.own
      obtain ⟨g5, rfl⟩ := h5 hpos
      obtain ⟨fb, fo, hfa, hfc⟩ := HBAT.out hpos
      have HFC := Lib.hid hfc
      clear hfc HBAT h4 h5 hlt
      rw [hfa] at HC24 ⊢
      rw [hfa] at c4r
      go_wp2_with fail
      obtain ⟨wA, rfl⟩ : ∃ W', W' = wr := ⟨_, rfl⟩
      clear c4r hlt'
      go_loopg [7] (cost2 R i (fun _ => 0) + 1) (fun k v wr => ∃ (mv : Bool) (I O : Nat → Nat) (vsI vsO : Nat → Value), v = .bool mv ∧ Hid (TwoR w1 wr i R (.slice (some ⟨g4, 0, none⟩) i k4) (.slice (some ⟨g5, 0, none⟩) i k5) vsI vsO I O) ∧ Hid (RHead (bls f) R i O I mv k))
      case atStart => exact ⟨true, _, _, _, _, rfl, HW0, Lib.hid (.inl ⟨rfl, by have h := RdInv.init (bls f) R; rw [HBL.out] at h; exact h, rfl⟩)⟩
      case round =>
        obtain ⟨mv, I0, O0, vsI1, vsO1, rfl, HW1, HRD⟩ := hrel
        cases mv with
        | false =>
          have HFIN : Hid (Least (bls f) O0 ∧ ∀ b, b < i → I0 b = backs (blk (bls f) b) (O0 b) ∧ O0 b < 2 ^ R ∧ I0 b < 2 ^ R) := Lib.hid (by
            rcases HRD.out with ⟨h, _⟩ | ⟨_, ⟨M, h⟩, _⟩
            · cases h
            · have h2 := h.fin (fun b hb t ht => by
                rw [HBL.out] at hb ⊢
                obtain ⟨B, hB⟩ : ∃ B, f.bl[b]? = some B := ⟨_, List.getElem?_eq_getElem (by rw [HLEN.out]; exact hb)⟩
                rw [blk_get hB] at ht
                have h3 := form_to HFORM.out (List.mem_of_getElem? hB) t ht
                rw [HN.out] at h3
                omega)
              exact ⟨h2.1, fun b hb => ⟨h2.2 b (by rw [HBL.out]; exact hb), (h.bd b).2, (h.bd b).1⟩⟩)
          go_wp2_with fail
          go_returns
          have hk := HK1.out
          exact ⟨_, _, vsI1, vsO1, I0, O0, rfl, HFIN.out.1, HFIN.out.2, hk.1.trans HW1.out.k (fun _ _ e => e), HW1.out.i.mono (by omega), HW1.out.o.mono (by omega), HW1.out.ne⟩
        | true =>
          have HST : Hid (RdInv (bls f) R O0 I0 i false (cost2 R i I0) ∧ gk = cost2 R i I0 + 1) := Lib.hid (by
            rcases HRD.out with ⟨_, h⟩ | ⟨h, _⟩
            · exact h
            · cases h)
          clear HRD
          have c4r := HW1.out.k.cell0 HC24.out.2
          go_wp2_with fail
          obtain ⟨wB, rfl⟩ : ∃ W', W' = wr := ⟨_, rfl⟩
          clear c4r
          go_loopg [7, 8] i (fun k v7 v8 wr => ∃ (m : Nat) (z : Int) (mv : Bool) (I O : Nat → Nat) (vsI vsO : Nat → Value), v7 = .bool mv ∧ v8 = .int .i64 z ∧ z = (m : Int) - 1 ∧ m ≤ i ∧ k = m ∧ Hid (TwoR w1 wr i R (.slice (some ⟨g4, 0, none⟩) i k4) (.slice (some ⟨g5, 0, none⟩) i k5) vsI vsO I O) ∧ Hid (RdInv (bls f) R O I m mv (cost2 R i I0)))
          case atStart => exact ⟨i, _, false, _, _, _, _, rfl, rfl, rfl, Nat.le_refl _, rfl, HW1, Lib.hid HST.out.1⟩
          case round =>
            obtain ⟨m, z, mv, I, O, vsI, vsO, rfl, rfl, hz, hm, hg3, HW2, HRI2⟩ := hrel
            cases m with
            | zero =>
              have hz1 : ¬ z ≥ 0 := by omega
              clear hz
              go_wp2_with fail
              go_roundg (if mv then cost2 R i I + 1 else 0)
              case rel =>
                refine ⟨mv, I, O, vsI, vsO, rfl, HW2, Lib.hid ?_⟩
                cases mv with
                | true => exact .inl ⟨rfl, by have h := HRI2.out.start; rw [HBL.out] at h; exact h, rfl⟩
                | false => exact .inr ⟨rfl, ⟨_, HRI2.out⟩, rfl⟩
              case measure =>
                have h := HRI2.out.ms
                rw [HBL.out] at h
                have h2 := HST.out.2
                cases mv with
                | true => have := h.2 rfl; simp; omega
                | false => simp; omega
            | succ b =>
              obtain rfl : z = (b : Int) := by omega
              have hbi : b < i := by omega
              obtain ⟨⟨pa, pn, pc, l⟩, hB⟩ : ∃ B, f.bl[b]? = some B := ⟨_, List.getElem?_eq_getElem (by rw [HLEN.out]; exact hbi)⟩
              have HBG := Lib.hid hB
              have hmem := List.mem_of_getElem? hB
              have hBX := HOK.out.ok _ hmem
              have hbk := blk_get hB
              have hln := hBX.len
              have hpc := hBX.cap
              unfold maxLen at hpc
              simp only at hbk hln hpc
              have hne := (form_block HFORM.out hmem).1
              simp only at hne
              obtain ⟨m, rfl⟩ : ∃ m, pn = m + 1 := ⟨pn - 1, by
                cases l with
                | nil => exact absurd rfl hne
                | cons y t => simp at hln; omega⟩
              obtain ⟨pb, po, hpa, hpx⟩ := hBX.at_ (Nat.succ_pos m)
              simp only at hpa hpx
              subst hpa
              have hkw : Keeps No w wr := HK1.out.1.trans HW2.out.k (fun _ _ e => e)
              have HKW := Lib.hid hkw
              have cB : wr.cell? ⟨fb, fo + b, none⟩ = some (.slice (some ⟨pb, po, none⟩) (m + 1) pc) := hkw.cell0 (HFC.out b _ hB)
              obtain ⟨x, hx⟩ : ∃ x, l[m]? = some x := ⟨_, List.getElem?_eq_getElem (by rw [hln]; omega)⟩
              have HLT : Hid (lastTo (blk (bls f) b) = toI x) := Lib.hid (by rw [hbk]; exact lastTo_get (by rw [hln]; exact hx))
              have HBK := Lib.hid hbk
              have HLN := Lib.hid hln
              have HFIT : Hid (∀ y ∈ l, Fit R y ∧ IxOk w y ∧ y.args.n ≤ 100000) := Lib.hid (fun y hy => ⟨form_fit HFORM.out HRI.out hmem hy, hBX.ok y hy, HARGS.out _ hmem y hy⟩)
              have HTB : Hid ((toI x).length ≤ 100 ∧ ∀ z ∈ toI x, 0 ≤ z ∧ z < (i : Int)) := Lib.hid (by
                have e : lastTo l = toI x := lastTo_get (by rw [hln]; exact hx)
                have h1 := HTO.out _ hmem
                have h2 := form_to HFORM.out hmem
                rw [HN.out] at h2
                simp only at h1 h2
                rw [e] at h1 h2
                exact ⟨h1, h2⟩)
              have HPX := Lib.hid hpx
              have HXO : Hid (IxOk w x) := Lib.hid (hBX.ok x (List.mem_of_getElem? hx))
              have hxa : x.at_ wr pb (po + m * 11) := fun j v hj => hkw.cell0 (hpx m x hx j v hj)
              have c4r := HW2.out.k.cell0 HC24.out.2
              have c2r := HW2.out.k.cell0 HC24.out.1
              have b0 : (0 : Int) ≤ (b : Int) := by omega
              have b1 : (b : Int) < (i : Int) := by omega
              have HXA := Lib.hid hxa
              clear hB hmem hBX hbk hln hne hpx hkw hxa hx hz hcap
              obtain ⟨wL, rfl⟩ : ∃ W', W' = wr := ⟨_, rfl⟩
              go_wp2_with (at_make; refine wpList_make_full _ rfl (.tmp 51) (.tmp 51) 53 rfl wL.heap.size 4 i4 _ 1 Tryd.underlying53 HI4.out.1 HI4.out.2.1 HI4.out.2.2.1 .i64 .i64 (R : Int) (R : Int) R rfl rfl rfl rfl (by rw [HI4.out.2.2.2]; omega) (by unfold maxLen; omega) (Nat.le_refl _) ?_)
              intro w2 ho2 hg2
              rw [toList_madeCells_one, ← bl_zero] at ho2
              have hk2 : Keeps No wL w2 := (Keeps.refl _ _).grown hg2 (fun q e => by cases e)
              obtain ⟨Q, hQ⟩ : ∃ q, wL.heap.size = q := ⟨_, rfl⟩
              rw [hQ] at ho2 ⊢
              have HO2 := Lib.hid ho2
              have HK2 := Lib.hid hk2
              have HQ := Lib.hid hQ
              have HTOC := Lib.hid (rto_sl x)
              have hxa : x.at_ w2 pb (po + m * 11) := fun j v hj => hk2.cell0 (HXA.out j v hj)
              have x0 := hxa 0 _ rfl
              have x1 := hxa 1 _ rfl
              have x2 := hxa 2 _ rfl
              have x3 := hxa 3 _ rfl
              have x4 := hxa 4 _ rfl
              have x5 := hxa 5 _ rfl
              have x6 := hxa 6 _ rfl
              have x7 := hxa 7 _ rfl
              have x8 := hxa 8 _ rfl
              have x9 := hxa 9 _ rfl
              have x10 := hxa 10 _ rfl
              rw [Nat.add_zero] at x0
              clear ho2 hg2 hk2 hQ hxa c2r c4r cB
              go_wp2_with fail
              refine (HTOC.out w2).mono ?_
              rintro e w3 ⟨hk3, sa, sn, sc, rfl, hsa⟩
              have HK3 : Hid (Keeps No wL w3) := Lib.hid (HK2.out.trans hk3 (fun _ _ e => e))
              have HO3 : Hid (w3.ownsRow Q 4 1 (.slice (some ⟨Q, 0, none⟩) R R) R (bl R 0)) := Lib.hid (own_keep HO2.out hk3 (fun _ e => e.elim))
              have HSW : Hid (SlAt w ⟨sa, sn, sc, toI x⟩) := Lib.hid (hsa w HXO.out)
              have hsn : (toI x).length = sn := HSW.out.len
              have hsb : sn ≤ 100 := by have := HTB.out.1; omega
              have HSN := Lib.hid hsn
              clear hk3 hsa x0 x1 x2 x3 x4 x5 x6 x7 x8 x9 x10 HK2 HO2 HTOC HXA hsn
              go_wp2_with fail
              go_loopg [12] sn (fun k v wr => ∃ t : Nat, v = .int .i64 (t : Int) ∧ t ≤ sn ∧ k = sn - t ∧ Hid (wr.ownsRow Q 4 1 (.slice (some ⟨Q, 0, none⟩) R R) R (bl R (orAll I 0 ((toI x).take t)))) ∧ Hid (Keeps No wL wr))
              case atStart => exact ⟨0, rfl, Nat.zero_le _, rfl, HO3, HK3⟩
              case round =>
                obtain ⟨t, rfl, ht, hg4, HO4, HK4⟩ := hrel
                by_cases hlt2 : t < sn
                · have hlt2' : (t : Int) < (sn : Int) := by omega
                  have t0 : (0 : Int) ≤ (t : Int) := by omega
                  obtain ⟨tb, to_, zc, hz, hsa, hcz⟩ := HSW.out.get hlt2
                  simp only at hz hsa
                  subst hsa
                  have hzb := HTB.out.2 zc (List.mem_of_getElem? hz)
                  obtain ⟨c, rfl⟩ : ∃ c : Nat, zc = (c : Int) := ⟨zc.toNat, by omega⟩
                  have hcn : c < i := by omega
                  have HCT : Hid (w.cell? ⟨tb, to_ + t, none⟩ = some (.int .i64 (c : Int)) ∧ orAll I 0 ((toI x).take (t + 1)) = orAll I 0 ((toI x).take t) ||| I c) := Lib.hid ⟨hcz, by
                    obtain ⟨h1, h2⟩ := List.getElem?_eq_some_iff.1 hz
                    rw [List.take_succ_eq_append_getElem h1, h2, orAll_snoc]; rfl⟩
                  obtain ⟨X, hX⟩ : ∃ X, orAll I 0 ((toI x).take t) = X := ⟨_, rfl⟩
                  rw [hX] at HO4 HCT
                  have HY : Hid (I c < 2 ^ R) := Lib.hid (HRI2.out.bd c).1
                  obtain ⟨Y, hY⟩ : ∃ Y, I c = Y := ⟨_, rfl⟩
                  rw [hY] at HCT HY
                  have HYE := Lib.hid hY
                  have c0 : (0 : Int) ≤ (c : Int) := by omega
                  have c1 : (c : Int) < (i : Int) := by omega
                  clear hz hzb hcz hX hY
                  obtain ⟨wM, rfl⟩ : ∃ W', W' = wr := ⟨_, rfl⟩
                  go_wp2_with fail
                  go_loopg [13] R (fun k v wr => ∃ r : Nat, v = .int .i64 (r : Int) ∧ r ≤ R ∧ k = R - r ∧ Hid (wr.ownsRow Q 4 1 (.slice (some ⟨Q, 0, none⟩) R R) R (bl R (X ||| Y % 2 ^ r))) ∧ Hid (Keeps No wL wr))
                  case atStart => exact ⟨0, rfl, Nat.zero_le _, rfl, Lib.hid (by rw [Nat.pow_zero, Nat.mod_one, Nat.or_zero]; exact HO4.out), HK4⟩
                  case round =>
                    obtain ⟨r, rfl, hr, hg5, HO5, HK5⟩ := hrel
                    have HT5 : Hid (TwoR w1 wr i R (.slice (some ⟨g4, 0, none⟩) i k4) (.slice (some ⟨g5, 0, none⟩) i k5) vsI vsO I O) := Lib.hid (HW2.out.no HK5.out)
                    have c2r := HT5.out.k.cell0 HC24.out.1
                    by_cases hlt3 : r < R
                    · have hlt3' : (r : Int) < (R : Int) := by omega
                      have r0 : (0 : Int) ≤ (r : Int) := by omega
                      have hel := HT5.out.i.el c hcn
                      rw [HYE.out] at hel
                      obtain ⟨ay, ky, hvy, hay⟩ := own_form hel
                      obtain ⟨gy, rfl⟩ := hay (by omega)
                      rw [hvy] at hel
                      have cI : wr.cell? ⟨g4, c, none⟩ = some (.slice (some ⟨gy, 0, none⟩) R ky) := by
                        rw [World.ownsRow.cellAt HT5.out.i.own c (by omega), vrow_get _ hcn, hvy]
                      have cY := World.ownsRow.cellAt hel r (by omega)
                      rw [bl_get hlt3] at cY
                      have cX := World.ownsRow.cellAt HO5.out r (by omega)
                      rw [bl_get hlt3, partly_at] at cX
                      have fz := World.ownsRow.frozenAt HO5.out r
                      have cT := ((HK1.out.1.trans HT5.out.k (fun _ _ e => e)).cell0 HCT.out.1)
                      have hst := (World.ownsRow.stored HO5.out r (.bool (X.testBit r || Y.testBit r))).1
                      rw [bl_partly hlt3] at hst
                      have HST2 : Hid ((wr.setCell ⟨Q, r, none⟩ (.bool (X.testBit r || Y.testBit r))).ownsRow Q 4 1 (.slice (some ⟨Q, 0, none⟩) R R) R (bl R (X ||| Y % 2 ^ (r + 1)))) := Lib.hid hst
                      have HKS : Hid (∀ v, Keeps No wL (wr.setCell ⟨Q, r, none⟩ v)) := Lib.hid (fun v => HK5.out.setCell (.inr (by have := HQ.out; simp only; omega)) _)
                      obtain ⟨TX, hTX⟩ : ∃ t, X.testBit r = t := ⟨_, rfl⟩
                      obtain ⟨TY, hTY⟩ : ∃ t, Y.testBit r = t := ⟨_, rfl⟩
                      rw [hTX] at cX HST2
                      rw [hTY] at cY HST2
                      have HK6 := Lib.hid (HKS.out (.bool (TX || TY)))
                      clear hel hay hvy hst hTX hTY HKS
                      cases TX with
                      | true =>
                        rw [Bool.true_or] at HST2 HK6
                        go_wp2_with fail
                        go_roundg (R - (r + 1))
                        case rel => exact ⟨r + 1, by go_num, by omega, rfl, HST2, HK6⟩
                        case measure => omega
                      | false =>
                        rw [Bool.false_or] at HST2 HK6
                        go_wp2_with fail
                        go_roundg (R - (r + 1))
                        case rel => exact ⟨r + 1, by go_num, by omega, rfl, HST2, HK6⟩
                        case measure => omega
                    · obtain rfl : r = R := by omega
                      have hlt3' : ¬ (r : Int) < (r : Int) := by omega
                      have HO6 : Hid (wr.ownsRow Q 4 1 (.slice (some ⟨Q, 0, none⟩) r r) r (bl r (orAll I 0 ((toI x).take (t + 1))))) := Lib.hid (by
                        rw [HCT.out.2]
                        have h := HO5.out
                        rw [Nat.mod_eq_of_lt HY.out] at h
                        exact h)
                      go_wp2_with fail
                      go_roundg (sn - (t + 1))
                      case rel => exact ⟨t + 1, by go_num, by omega, rfl, HO6, HK5⟩
                      case measure => omega
                · obtain rfl : t = sn := by omega
                  have hlt2' : ¬ (t : Int) < (t : Int) := by omega
                  obtain ⟨U, hU⟩ : ∃ U, orAll I 0 (toI x) = U := ⟨_, rfl⟩
                  have HO5 : Hid (wr.ownsRow Q 4 1 (.slice (some ⟨Q, 0, none⟩) R R) R (bl R U)) := Lib.hid (by
                    have h := HO4.out
                    rw [List.take_of_length_le (by rw [HSN.out]; exact Nat.le_refl _), hU] at h
                    exact h)
                  have HUD : Hid (U = orAll I 0 (lastTo (blk (bls f) b)) ∧ U < 2 ^ R) := Lib.hid (by
                    rw [HLT.out, hU]
                    exact ⟨rfl, by rw [← hU]; exact orAll_lt _ _ (Nat.pow_pos (by decide)) (fun t _ => (HRI2.out.bd _).1)⟩)
                  have HQ1 : Hid (w1.heap.size ≤ Q) := Lib.hid (by rw [← HQ.out]; exact HW2.out.k.size)
                  have HT5 : Hid (TwoR w1 wr i R (.slice (some ⟨g4, 0, none⟩) i k4) (.slice (some ⟨g5, 0, none⟩) i k5) vsI vsO I O) := Lib.hid (HW2.out.no HK4.out)
                  have HT6 : Hid (TwoR w1 (wr.setCell ⟨g5, b, none⟩ (.slice (some ⟨Q, 0, none⟩) R R)) i R (.slice (some ⟨g4, 0, none⟩) i k4) (.slice (some ⟨g5, 0, none⟩) i k5) vsI (upd vsO b (.slice (some ⟨Q, 0, none⟩) R R)) I (upd O b U)) := Lib.hid (HT5.out.setO hbi (own_mono HO5.out HQ1.out))
                  have HO6 : Hid ((wr.setCell ⟨g5, b, none⟩ (.slice (some ⟨Q, 0, none⟩) R R)).ownsRow w1.heap.size 4 1 (.slice (some ⟨Q, 0, none⟩) R R) R (bl R U)) := Lib.hid (by
                    have h := HT6.out.o.el b hbi
                    rw [upd_same, upd_same] at h
                    exact h)
                  have c5 : wr.cell? ⟨g5, b, none⟩ = some (vsO b) := by
                    rw [World.ownsRow.cellAt HT5.out.o.own b (by omega), vrow_get _ hbi]
                  have fz5 := World.ownsRow.frozenAt HT5.out.o.own b
                  clear hU HO4 HO3 HK3 HSW HSN hsb ht hg4
                  go_wp2_with fail
                  obtain ⟨w5, hw5⟩ : ∃ W, wr.setCell ⟨g5, b, none⟩ (.slice (some ⟨Q, 0, none⟩) R R) = W := ⟨_, rfl⟩
                  rw [hw5] at HT6 HO6 ⊢
                  clear hw5 c5 fz5 HO5 HT5 hlt2' hlt2
                  go_loopg [10, 14] (m + 1) (fun k v10 v14 wr => ∃ (j : Nat) (z : Int) (a10 : Option Addr) (c10 : Nat), v14 = .int .i64 z ∧ z = (j : Int) - 1 ∧ j ≤ m + 1 ∧ k = j ∧ v10 = .slice a10 R c10 ∧ Hid (wr.ownsRow w1.heap.size 4 1 (.slice a10 R c10) R (bl R (backs (l.drop j) U))) ∧ Hid (Keeps No w5 wr))
                  case atStart => exact ⟨m + 1, _, _, _, rfl, by go_num, Nat.le_refl _, rfl, rfl, Lib.hid (by rw [List.drop_eq_nil_of_le (by rw [HLN.out]; exact Nat.le_refl _)]; exact HO6.out), Lib.hid (Keeps.refl _ _)⟩
                  case round =>
                    obtain ⟨j, z, a10, c10, rfl, hz, hj, hg6, rfl, HO7, HK7⟩ := hrel
                    cases j with
                    | zero =>
                      have hz1 : ¬ z ≥ 0 := by omega
                      clear hz hg6 hj
                      go_wp2_with fail
                      obtain ⟨wN, rfl⟩ : ∃ W', W' = wr := ⟨_, rfl⟩
                      obtain ⟨T, hT⟩ : ∃ T, backs l U = T := ⟨_, rfl⟩
                      have HTD : Hid (T = backs (blk (bls f) b) U ∧ T < 2 ^ R ∧ I b < 2 ^ R) := Lib.hid ⟨by rw [HBK.out, hT], by rw [← hT]; exact backs_lt HUD.out.2 (fun y hy => (HFIT.out y hy).1), (HRI2.out.bd b).1⟩
                      rw [List.drop_zero, hT] at HO7
                      obtain ⟨IB, hIB⟩ : ∃ X, I b = X := ⟨_, rfl⟩
                      rw [hIB] at HTD
                      have HIB := Lib.hid hIB
                      clear hT hIB
                      go_loopg [7, 15] R (fun k v7 v15 wr => ∃ (r : Nat) (mb : Bool), v15 = .int .i64 (r : Int) ∧ r ≤ R ∧ k = R - r ∧ v7 = .bool mb ∧ Hid (mb = (mv || decide (T % 2 ^ r ≠ IB % 2 ^ r))) ∧ Hid (Keeps No wN wr))
                      case atStart => exact ⟨0, mv, rfl, Nat.zero_le _, rfl, rfl, Lib.hid (by rw [Nat.pow_zero, Nat.mod_one, Nat.mod_one]; simp), Lib.hid (Keeps.refl _ _)⟩
                      case round =>
                        obtain ⟨r, mb, rfl, hr, hg7, rfl, HMB, HK8⟩ := hrel
                        have HK9 : Hid (Keeps No w5 wr) := Lib.hid (HK7.out.trans HK8.out (fun _ _ e => e))
                        have HT8 := Lib.hid (HT6.out.no HK9.out)
                        have c2r := HT8.out.k.cell0 HC24.out.1
                        by_cases hlt3 : r < R
                        · have hlt3' : (r : Int) < (R : Int) := by omega
                          have r0 : (0 : Int) ≤ (r : Int) := by omega
                          have HMS : Hid ((mv || decide (T % 2 ^ (r + 1) ≠ IB % 2 ^ (r + 1))) = (mb || (T.testBit r != IB.testBit r))) := Lib.hid (by rw [mod_ne, ← Bool.or_assoc, ← HMB.out])
                          have hel := HT8.out.i.el b hbi
                          rw [HIB.out] at hel
                          obtain ⟨ay, ky, hvy, hay⟩ := own_form hel
                          obtain ⟨gy, rfl⟩ := hay (by omega)
                          rw [hvy] at hel
                          have cI : wr.cell? ⟨g4, b, none⟩ = some (.slice (some ⟨gy, 0, none⟩) R ky) := by
                            rw [World.ownsRow.cellAt HT8.out.i.own b (by omega), vrow_get _ hbi, hvy]
                          have cY := World.ownsRow.cellAt hel r (by omega)
                          rw [bl_get hlt3] at cY
                          have ho := own_keep HO7.out HK8.out (fun _ e => e.elim)
                          obtain ⟨ax, kx, he, hax⟩ := own_form ho
                          injection he with e1 _ e2
                          subst e1 e2
                          obtain ⟨gx, rfl⟩ := hax (by omega)
                          have cX := World.ownsRow.cellAt ho r (by omega)
                          rw [bl_get hlt3] at cX
                          obtain ⟨TX, hTX⟩ : ∃ t, T.testBit r = t := ⟨_, rfl⟩
                          obtain ⟨TY, hTY⟩ : ∃ t, IB.testBit r = t := ⟨_, rfl⟩
                          rw [hTX] at cX HMS
                          rw [hTY] at cY HMS
                          clear hel hay hvy hTX hTY ho hax
                          have pI : ∀ u : KS No wr, u.W.cell? ⟨g4, b, none⟩ = some (.slice (some ⟨gy, 0, none⟩) R ky) := fun u => u.cell cI (fun e => e)
                          have pY : ∀ u : KS No wr, u.W.cell? ⟨gy, r, none⟩ = some (.bool TY) := fun u => u.cell cY (fun e => e)
                          have pX : ∀ u : KS No wr, u.W.cell? ⟨gx, r, none⟩ = some (.bool TX) := fun u => u.cell cX (fun e => e)
                          have hne : Nonempty (KS No wr) := ⟨⟨wr, Keeps.refl _ _⟩⟩
                          clear cI cY cX
                          cases mb with
                          | true =>
                            go_upto_region 30 with fail
                            refine Mix.wp_region_mix (fun W' => ∃ u : KS No wr, W' = u.W) [] (by kernel_rfl) ?_
                            have HV0 : Hid (Keeps No wr wr.drew) := Lib.hid ((Keeps.refl _ wr).drew)
                            generalize wr.drew = v0 at HV0 ⊢
                            have HK10 : Hid (Keeps No wN v0) := Lib.hid (HK8.out.trans HV0.out (fun _ _ e => e))
                            refine Mix.mix_seg 0 16 0 (by kernel_rfl) (by kernel_rfl) rfl rfl ⟨⟨v0, HV0.out⟩, rfl⟩ ?_
                            simp only [List.drop_succ_cons, List.drop_zero, List.take_succ_cons, List.take_zero]
                            repeat (go_big_quiet_step (fail))
                            refine wpQuiet_nil ?_
                            refine Mix.mix_end (by kernel_rfl) ?_
                            go_wp2_with fail
                            go_roundg (R - (r + 1))
                            case rel => exact ⟨r + 1, true, by go_num, by omega, rfl, rfl, Lib.hid (by rw [HMS.out]; rfl), HK10⟩
                            case measure => omega
                          | false =>
                            cases TX <;> cases TY
                            all_goals (
                              go_upto_region 30 with fail
                              refine Mix.wp_region_mix (fun W' => ∃ u : KS No wr, W' = u.W) [] (by kernel_rfl) ?_
                              have HV0 : Hid (Keeps No wr wr.drew) := Lib.hid ((Keeps.refl _ wr).drew)
                              generalize wr.drew = v0 at HV0 ⊢
                              have HK10 : Hid (Keeps No wN v0) := Lib.hid (HK8.out.trans HV0.out (fun _ _ e => e))
                              refine Mix.mix_seg 0 16 0 (by kernel_rfl) (by kernel_rfl) rfl rfl ⟨⟨v0, HV0.out⟩, rfl⟩ ?_
                              simp only [List.drop_succ_cons, List.drop_zero, List.take_succ_cons, List.take_zero]
                              repeat (go_big_quiet_step (fail))
                              refine wpQuiet_nil ?_
                              refine Mix.mix_end (by kernel_rfl) ?_
                              go_wp2_with fail
                              go_roundg (R - (r + 1))
                              case rel => exact ⟨r + 1, _, by go_num, by omega, rfl, rfl, Lib.hid (by rw [HMS.out]; rfl), HK10⟩
                              case measure => omega)
                        · obtain rfl : r = R := by omega
                          have hlt3' : ¬ (r : Int) < (r : Int) := by omega
                          have HO9 : Hid (wr.ownsRow w1.heap.size 4 1 (.slice a10 r c10) r (bl r T)) := Lib.hid (own_keep HO7.out HK8.out (fun _ e => e.elim))
                          have HMF : Hid (mb = (mv || decide (T ≠ I b))) := Lib.hid (by
                            have h := HMB.out
                            rw [Nat.mod_eq_of_lt HTD.out.2.1, Nat.mod_eq_of_lt HTD.out.2.2] at h
                            rw [HIB.out]; exact h)
                          have HRD9 : Hid (RdInv (bls f) r (upd O b U) (upd I b T) b mb (cost2 r i I0)) := Lib.hid (by
                            rw [HMF.out]
                            refine HRI2.out.step (by rw [HBL.out]; exact hbi) (fun t ht => ?_) U T HUD.out.1 HTD.out.1 HUD.out.2 HTD.out.2.1
                            rw [HLT.out] at ht
                            have h3 := HTB.out.2 t ht
                            rw [HBL.out]
                            omega)
                          have HT9 : Hid (TwoR w1 (wr.setCell ⟨g4, b, none⟩ (.slice a10 r c10)) i r (.slice (some ⟨g4, 0, none⟩) i k4) (.slice (some ⟨g5, 0, none⟩) i k5) (upd vsI b (.slice a10 r c10)) (upd vsO b (.slice (some ⟨Q, 0, none⟩) r r)) (upd I b T) (upd O b U)) := Lib.hid (HT8.out.setI hbi HO9.out)
                          have cI : wr.cell? ⟨g4, b, none⟩ = some (vsI b) := by
                            rw [World.ownsRow.cellAt HT8.out.i.own b (by omega), vrow_get _ hbi]
                          have fz4 := World.ownsRow.frozenAt HT8.out.i.own b
                          clear hlt3 hr
                          go_wp2_with fail
                          go_roundg b
                          case rel => exact ⟨b, _, mb, _, _, _, _, rfl, rfl, rfl, by omega, rfl, HT9, HRD9⟩
                          case measure => omega
                    | succ jj =>
                      obtain rfl : z = (jj : Int) := by omega
                      have hjm : jj < m + 1 := by omega
                      obtain ⟨y, hy⟩ : ∃ y, l[jj]? = some y := ⟨_, List.getElem?_eq_getElem (by rw [HLN.out]; exact hjm)⟩
                      have hym := HFIT.out y (List.mem_of_getElem? hy)
                      have hkw : Keeps No w wr := (HK1.out.1.trans HT6.out.k (fun _ _ e => e)).trans HK7.out (fun _ _ e => e)
                      have hya : y.at_ wr pb (po + jj * 11) := fun j v hj => hkw.cell0 (HPX.out jj y hy j v hj)
                      have HBD : Hid (backs (l.drop jj) U = backI (backs (l.drop (jj + 1)) U) y) := Lib.hid (backs_drop hy U)
                      obtain ⟨Z, hZ⟩ : ∃ Z, backs (l.drop (jj + 1)) U = Z := ⟨_, rfl⟩
                      rw [hZ] at HO7 HBD
                      obtain ⟨a11, c11, he, _, _, hbl⟩ := own_bl HO7.out
                      injection he with e1 _ e2
                      subst e1 e2
                      have HRB := Lib.hid (fun W (hk : Keeps No wr W) => rback_any y W a10 R c10 Z (hym.2.1.no (hkw.trans hk (fun _ _ e => e))) hym.2.2 hym.1 (hbl.no hk) hR2)
                      have x0 := hya 0 _ rfl
                      have x1 := hya 1 _ rfl
                      have x2 := hya 2 _ rfl
                      have x3 := hya 3 _ rfl
                      have x4 := hya 4 _ rfl
                      have x5 := hya 5 _ rfl
                      have x6 := hya 6 _ rfl
                      have x7 := hya 7 _ rfl
                      have x8 := hya 8 _ rfl
                      have x9 := hya 9 _ rfl
                      have x10 := hya 10 _ rfl
                      rw [Nat.add_zero] at x0
                      have hj0 : (jj : Int) ≥ 0 := by omega
                      have hj1 : (jj : Int) < ((m + 1 : Nat) : Int) := by omega
                      clear hz hy hym hkw hya hbl hZ hj
                      go_wp2_with fail
                      refine (HRB.out _ (Keeps.refl _ _)).mono ?_
                      rintro e w6 ⟨v, rfl, ho6, hk6⟩
                      obtain ⟨a12, c12, rfl, _⟩ := own_form ho6
                      have HO8 : Hid (w6.ownsRow w1.heap.size 4 1 (.slice a12 R c12) R (bl R (backs (l.drop jj) U))) := Lib.hid (by
                        rw [HBD.out]
                        exact own_mono ho6 (Nat.le_trans HT6.out.k.size HK7.out.size))
                      have HK8 : Hid (Keeps No w5 w6) := Lib.hid (HK7.out.trans hk6 (fun _ _ e => e))
                      clear ho6 hk6 x0 x1 x2 x3 x4 x5 x6 x7 x8 x9 x10 HO7 HK7 HRB
                      go_wp2_with fail
                      go_roundg jj
                      case rel => exact ⟨jj, _, _, _, rfl, by go_num, by omega, rfl, rfl, HO8, HK8⟩
                      case measure => omega
end Go.Proofs.YtpjilcfmcbapcaaDoor
