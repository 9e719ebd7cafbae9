/- span.reckon. -/
import Derived.Test.YtpjilcfmcbapcaaDoorLvRoom
namespace Go.Proofs.YtpjilcfmcbapcaaDoor
open Go.RowKit
set_option linter.unusedVariables false
set_option linter.unusedSimpArgs false

set_option maxRecDepth 100000 in
set_option maxHeartbeats 12800000 in
theorem reckon_any (w : World) (f : Fx) (fb fo R n : Nat) (hf : f.at_ w fb fo) (hok : FxOk w f) (hform : f.formOk = true) (hR : f.regs = (R : Int)) (hR2 : R ≤ 100000) (hn : f.bn = n) (hn2 : n ≤ 1000)
    (hto : ∀ b ∈ f.bl, (lastTo b.l).length ≤ 100) (hargs : ∀ b ∈ f.bl, ∀ x ∈ b.l, x.args.n ≤ 100000) (ht : LaidT w) :
    Calls Tryd.prog 40 #[.pointer (some ⟨fb, fo, none⟩), .bool false] w fun e w' => ∃ M I O, e = .returned (.pointer (some ⟨M, 0, none⟩)) ∧ Least (bls f) O ∧ (∀ b, b < n → I b = backs (blk (bls f) b) (O b) ∧ O b < 2 ^ R ∧ I b < 2 ^ R) ∧ Lv w w' M fb fo n (wordsOf R) I O ∧ Keeps No w w' := by
  obtain ⟨i1, hi1, z1, z2, z3⟩ := info_parts infoSet
  have HI1 := Lib.hid (And.intro hi1 (And.intro z1 (And.intro z2 z3)))
  clear hi1 z1 z2 z3
  obtain ⟨i2, hi1, z1, z2, z3⟩ := info_parts infoSI
  have HI2 := Lib.hid (And.intro hi1 (And.intro z1 (And.intro z2 z3)))
  clear hi1 z1 z2 z3
  obtain ⟨i3, hi1, z1, z2, z3⟩ := info_parts infoI
  have HI3 := Lib.hid (And.intro hi1 (And.intro z1 (And.intro z2 z3)))
  clear hi1 z1 z2 z3
  obtain ⟨i4, hi1, z1, z2, z3⟩ := info_parts infoBo
  have HI4 := Lib.hid (And.intro hi1 (And.intro z1 (And.intro z2 z3)))
  clear hi1 z1 z2 z3
  have HF := Lib.hid hf
  have HOK := Lib.hid hok
  have HFORM := Lib.hid hform
  have HTO := Lib.hid hto
  have HARGS := Lib.hid hargs
  have HT := Lib.hid ht
  have HLEN : Hid (f.bl.length = n) := Lib.hid (hok.len.trans hn)
  have c2 := hf 2 _ rfl
  have c4 := hf 4 _ rfl
  obtain ⟨W, hW⟩ : ∃ W, wordsOf R = W := ⟨_, rfl⟩
  have HW : Hid (wordsOf R = W ∧ W ≤ 10000 ∧ R ≤ 64 * W) := Lib.hid (by subst hW; unfold wordsOf; omega)
  rw [hW]
  rw [hR] at c2
  rw [hn] at c4
  have HR := Lib.hid hR
  have HN := Lib.hid hn
  clear hf hok hform hto hargs ht hW hR hn
  have HNEW := Lib.hid (fun v => snew_any v R hR2)
  rw [HW.out.1] at HNEW
  go_enter Tryd.func40, Tryd.ntmps40
  go_wp2_with fail
  go_cut [6] (fun v wx => ∃ M GI GO : Nat, v = .pointer (some ⟨M, 0, none⟩) ∧ Hid (wx.heap[M]? = some (.cells #[.slice (some ⟨GI, 0, none⟩) n n, .slice (some ⟨GO, 0, none⟩) n n, .pointer (some ⟨fb, fo, none⟩), .bool false] 61 (0, 0)) ∧
    wx.heap[GI]? = some (.cells (List.replicate n (.slice none 0 0)).toArray 66 (0, 0)) ∧ wx.heap[GO]? = some (.cells (List.replicate n (.slice none 0 0)).toArray 66 (0, 0)) ∧ GI ≠ GO ∧ w.heap.size ≤ M ∧ w.heap.size ≤ GI ∧ w.heap.size ≤ GO ∧ Keeps No w wx))
  case first =>
    -- DEV<
    refine Mix.wp_region_mix (fun W => ∃ u : KW w, W = u.W) [] (by kernel_rfl) ?_
    have hne : Nonempty (KW w) := ⟨KW.of _⟩
    have HV0 : Hid (Keeps No w w.drew) := Lib.hid ((Keeps.refl _ w).drew)
    have HS0 : Hid (w.drew.heap.size = w.heap.size) := Lib.hid rfl
    generalize w.drew = v0 at HV0 HS0 ⊢
    refine Mix.mix_seg 0 1 8 (by kernel_rfl) (by kernel_rfl) rfl rfl ⟨⟨v0, HV0.out⟩, rfl⟩ ?_
    simp only [List.drop_succ_cons, List.drop_zero, List.take_succ_cons, List.take_zero]
    repeat (go_big_quiet_step (fail))
    refine wpQuiet_nil ?_
    refine Mix.mix_seg 2 1 7 (by kernel_rfl) (by kernel_rfl) rfl rfl ⟨⟨v0, HV0.out⟩, rfl⟩ ?_
    simp only [List.drop_succ_cons, List.drop_zero, List.take_succ_cons, List.take_zero]
    repeat (go_big_quiet_step (fail))
    refine wpQuiet_nil ?_
    refine Mix.mix_seg 4 2 5 (by kernel_rfl) (by kernel_rfl) rfl rfl ⟨⟨v0, HV0.out⟩, rfl⟩ ?_
    simp only [List.drop_succ_cons, List.drop_zero, List.take_succ_cons, List.take_zero]
    repeat (go_big_quiet_step (fail))
    refine wpQuiet_nil ?_
    refine Mix.mix_two 1 3 4 (by kernel_rfl) rfl rfl rfl ?_ ?_
    case' refine_1 =>
      simp only [List.drop_succ_cons, List.drop_zero, List.take_succ_cons, List.take_zero]
      go_wp2_with (at_make; refine wpList_make_full _ rfl (.tmp 24) (.tmp 24) 59 rfl v0.heap.size 66 i1 _ 1 Tryd.underlying59 HI1.out.1 HI1.out.2.1 HI1.out.2.2.1 .i64 .i64 (n : Int) (n : Int) n rfl rfl rfl rfl (by rw [HI1.out.2.2.2]; omega) (by unfold maxLen; omega) (Nat.le_refl _) ?_)
    case' refine_2 =>
      simp only [List.drop_succ_cons, List.drop_zero, List.take_succ_cons, List.take_zero]
      go_wp2_with (at_make; refine wpList_make_full _ rfl (.tmp 26) (.tmp 26) 59 rfl v0.heap.size 66 i1 _ 1 Tryd.underlying59 HI1.out.1 HI1.out.2.1 HI1.out.2.2.1 .i64 .i64 (n : Int) (n : Int) n rfl rfl rfl rfl (by rw [HI1.out.2.2.2]; omega) (by unfold maxLen; omega) (Nat.le_refl _) ?_)
    all_goals (
      intro v1 ho1 hg1
      obtain ⟨hr1, hk1, hs1⟩ := made_at ho1 hg1
      have HR1 := Lib.hid hr1
      have HK1 : Hid (Keeps No w v1) := Lib.hid (HV0.out.trans hk1 (fun _ _ e => e))
      have HS1 : Hid (w.heap.size ≤ v0.heap.size ∧ v0.heap.size < v1.heap.size) := Lib.hid ⟨by rw [HS0.out]; exact Nat.le_refl _, hs1⟩
      clear ho1 hg1 hr1 hk1 hs1
      obtain ⟨B1, hB1⟩ : ∃ B, v0.heap.size = B := ⟨_, rfl⟩
      rw [hB1] at HR1 HS1 ⊢
      clear hB1 HS0
      go_wp2_with fail
      refine ⟨.inr ⟨⟨v1, HK1.out⟩, rfl⟩, ?_⟩)
    case' refine_1 =>
      refine Mix.mix_one 3 3 (by kernel_rfl) rfl rfl ?_
      simp only [List.drop_succ_cons, List.drop_zero, List.take_succ_cons, List.take_zero]
      go_wp2_with (at_make; refine wpList_make_full _ rfl (.tmp 26) (.tmp 26) 59 rfl v1.heap.size 66 i1 _ 1 Tryd.underlying59 HI1.out.1 HI1.out.2.1 HI1.out.2.2.1 .i64 .i64 (n : Int) (n : Int) n rfl rfl rfl rfl (by rw [HI1.out.2.2.2]; omega) (by unfold maxLen; omega) (Nat.le_refl _) ?_)
    case' refine_2 =>
      refine Mix.mix_one 1 3 (by kernel_rfl) rfl rfl ?_
      simp only [List.drop_succ_cons, List.drop_zero, List.take_succ_cons, List.take_zero]
      go_wp2_with (at_make; refine wpList_make_full _ rfl (.tmp 24) (.tmp 24) 59 rfl v1.heap.size 66 i1 _ 1 Tryd.underlying59 HI1.out.1 HI1.out.2.1 HI1.out.2.2.1 .i64 .i64 (n : Int) (n : Int) n rfl rfl rfl rfl (by rw [HI1.out.2.2.2]; omega) (by unfold maxLen; omega) (Nat.le_refl _) ?_)
    all_goals (
      intro v2 ho2 hg2
      obtain ⟨hr2, hk2, hs2⟩ := made_at ho2 hg2
      have HR2 : Hid (v2.heap[v1.heap.size]? = some (.cells (List.replicate n (.slice none 0 0)).toArray 66 (0, 0)) ∧ v2.heap[B1]? = some (.cells (List.replicate n (.slice none 0 0)).toArray 66 (0, 0))) := Lib.hid ⟨hr2, (hk2.block B1 HS1.out.2 (fun e => e)).trans HR1.out⟩
      have HK2 : Hid (Keeps No w v2) := Lib.hid (HK1.out.trans hk2 (fun _ _ e => e))
      have HS2 : Hid (v1.heap.size < v2.heap.size) := Lib.hid hs2
      clear ho2 hg2 hr2 hk2 hs2
      obtain ⟨B2, hB2⟩ : ∃ B, v1.heap.size = B := ⟨_, rfl⟩
      rw [hB2] at HR2 HS2 HS1 ⊢
      clear hB2 HR1
      go_wp2_with fail
      refine ⟨.inr ⟨⟨v2, HK2.out⟩, rfl⟩, ?_⟩
      refine Mix.mix_seg 6 1 2 (by kernel_rfl) (by kernel_rfl) rfl rfl ⟨⟨v2, HK2.out⟩, rfl⟩ ?_
      simp only [List.drop_succ_cons, List.drop_zero, List.take_succ_cons, List.take_zero]
      repeat (go_big_quiet_step (fail))
      refine wpQuiet_nil ?_
      refine Mix.mix_one 7 1 (by kernel_rfl) rfl rfl ?_
      simp only [List.drop_succ_cons, List.drop_zero, List.take_succ_cons, List.take_zero]
      go_wp2_with fail
      refine ⟨.inr ⟨⟨_, HK2.out.alloc _⟩, rfl⟩, ?_⟩
      refine Mix.mix_seg 8 1 0 (by kernel_rfl) (by kernel_rfl) rfl rfl ⟨⟨_, HK2.out.alloc _⟩, rfl⟩ ?_
      simp only [List.drop_succ_cons, List.drop_zero, List.take_succ_cons, List.take_zero]
      repeat (go_big_quiet_step (fail))
      refine wpQuiet_nil ?_
      refine Mix.mix_end (by kernel_rfl) ?_
      go_wp2_with fail
      go_meet
      have h1 := HS1.out
      have h2 := HS2.out)
    all_goals first
      | exact ⟨v2.heap.size, B1, B2, rfl, Lib.hid ⟨heap_alloc_new _ _, (Below.heap_alloc _ _ _ (by omega)).trans HR2.out.2, (Below.heap_alloc _ _ _ (by omega)).trans HR2.out.1, by omega, by omega, by omega, by omega, HK2.out.alloc _⟩⟩
      | exact ⟨v2.heap.size, B2, B1, rfl, Lib.hid ⟨heap_alloc_new _ _, (Below.heap_alloc _ _ _ (by omega)).trans HR2.out.1, (Below.heap_alloc _ _ _ (by omega)).trans HR2.out.2, by omega, by omega, by omega, by omega, HK2.out.alloc _⟩⟩
    -- DEV>
  case rest =>
    obtain ⟨M, GI, GO, rfl, HR0⟩ := hcut
    go_wp2_with (at_make; refine wpList_make_full _ rfl (.tmp 32) (.tmp 32) 40 rfl wc.heap.size 22 i2 _ 1 Tryd.underlying40 HI2.out.1 HI2.out.2.1 HI2.out.2.2.1 .i64 .i64 (n : Int) (n : Int) n rfl rfl rfl rfl (by rw [HI2.out.2.2.2]; omega) (by unfold maxLen; omega) (Nat.le_refl _) ?_)
    intro w1 ho1 hg1
    obtain ⟨hr1, hk1, hs1⟩ := made_at ho1 hg1
    have HIN : Hid (InitS w w1 f fb fo R n M GI GO wc.heap.size W 0 0 0 (fun _ => 0) (fun _ => 0) (fun _ => .slice none 0 0) (fun _ => [])) := Lib.hid (by
      obtain ⟨r1, r2, r3, r4, r5, r6, r7, r8⟩ := HR0.out
      have l : ∀ {k o}, wc.heap[k]? = some o → w1.heap[k]? = some o := fun {k o} h => (hk1.block k (Array.getElem?_eq_some_iff.1 h).1 (fun e => e)).trans h
      refine ⟨r8.trans hk1 (fun _ _ e => e), l r1, by rw [slotRow_zero]; exact l r2, by rw [slotRow_zero]; exact l r3, by rw [vrow_const]; exact hr1, ⟨fun b hb => absurd hb (by omega), fun b hb => absurd hb (by omega), fun b c hb => absurd hb (by omega), fun b c hb => absurd hb (by omega), fun b c hb => absurd hb (by omega)⟩, ⟨fun c hc => World.ownsRow_nil _ _ _ _, fun c d q _ _ _ e => by cases e⟩, r5, r6, r7, r8.size, r4, fun b hb => absurd hb (by omega), fun c hc z => ⟨fun h => (by cases h), fun ⟨p, _, h⟩ => h.elim (fun h => absurd h.1 (by omega)) (fun h => by rw [List.take_zero] at h; cases h.2)⟩, fun c hc => Nat.zero_le _⟩)
    obtain ⟨GB, hGB⟩ : ∃ B, wc.heap.size = B := ⟨_, rfl⟩
    have HKC : Hid (Keeps No w w1) := Lib.hid HIN.out.k
    rw [hGB] at HIN ⊢
    have c4' := HKC.out.cell0 c4
    clear ho1 hg1 hr1 hk1 hs1 HR0 hGB
    go_wp2_with fail
    obtain ⟨wA, rfl⟩ : ∃ W', W' = wc := ⟨_, rfl⟩
    go_loopg [39] n (fun k v wr => ∃ i : Nat, v = .int .i64 (i : Int) ∧ i ≤ n ∧ k = n - i ∧ ∃ gi go vs L, Hid (InitS w wr f fb fo R n M GI GO GB W i i 0 gi go vs L))
    case atStart => exact ⟨0, rfl, Nat.zero_le _, rfl, _, _, _, _, HIN⟩
    case round =>
      obtain ⟨i, rfl, hi, hg, gi, go, vs, L, HS⟩ := hrel
      by_cases hlt : i < n
      · have hlt' : (i : Int) < (n : Int) := by omega
        -- DEV<
        have i0 : (0 : Int) ≤ (i : Int) := by omega
        go_wp2_with fail
        go_cut [62] (fun v wx => ∃ gi2 go2, Hid (InitS w wx f fb fo R n M GI GO GB W (i + 1) i 0 gi2 go2 vs L))
        case first =>
          have lGI := (Array.getElem?_eq_some_iff.1 HS.out.hi).1
          have lGO := (Array.getElem?_eq_some_iff.1 HS.out.ho).1
          have hMI : M ≠ GI := type_ne HS.out.m HS.out.hi (by decide)
          have hMO : M ≠ GO := type_ne HS.out.m HS.out.ho (by decide)
          have hfl : fb < w.heap.size := World.block_lt_of_cell? _ _ c2
          have HP : Hid ((∀ u : KS (fun q => q = GI ∨ q = GO) wr, u.W.cell? ⟨M, 0, none⟩ = some (.slice (some ⟨GI, 0, none⟩) n n)) ∧ (∀ u : KS (fun q => q = GI ∨ q = GO) wr, u.W.cell? ⟨M, 1, none⟩ = some (.slice (some ⟨GO, 0, none⟩) n n)) ∧ (∀ u : KS (fun q => q = GI ∨ q = GO) wr, u.W.cell? ⟨fb, fo + 2, none⟩ = some (.int .i64 R))) := Lib.hid
            ⟨fun u => u.cell (by rw [cell_of_row wr M 0 _ _ _ HS.out.m]; rfl) (by simp only; omega), fun u => u.cell (by rw [cell_of_row wr M 1 _ _ _ HS.out.m]; rfl) (by simp only; omega), fun u => u.cell (HS.out.k.cell0 c2) (by have := HS.out.li; have := HS.out.lo; simp only; omega)⟩
          clear hMI hMO hfl lGI lGO c2 c4 c4'
          refine Mix.wp_region_mix (fun W' => ∃ u : KS (fun q => q = GI ∨ q = GO) wr, W' = u.W) [] (by kernel_rfl) ?_
          have HV0 : Hid (Keeps No wr wr.drew) := Lib.hid ((Keeps.refl _ wr).drew)
          have HC0 : Hid (∀ W', Keeps No wr W' → ∃ u : KS (fun q => q = GI ∨ q = GO) wr, W' = u.W) := Lib.hid (fun W' hk => ⟨⟨W', hk.mono (fun _ _ e => e.elim)⟩, rfl⟩)
          have HS0 : Hid (wr.drew.heap.size = wr.heap.size) := Lib.hid rfl
          generalize wr.drew = v0 at HV0 HS0 ⊢
          have hne : Nonempty (KS (fun q => q = GI ∨ q = GO) wr) := ⟨⟨wr, Keeps.refl _ _⟩⟩
          have p0 := HP.out.1
          have p1 := HP.out.2.1
          have p2 := HP.out.2.2
          refine Mix.mix_seg 0 14 10 (by kernel_rfl) (by kernel_rfl) rfl rfl (HC0.out v0 HV0.out) ?_
          simp only [List.drop_succ_cons, List.drop_zero, List.take_succ_cons, List.take_zero]
          repeat (go_big_quiet_step (fail))
          refine wpQuiet_nil ?_
          refine Mix.mix_seg 15 4 6 (by kernel_rfl) (by kernel_rfl) rfl rfl (HC0.out v0 HV0.out) ?_
          simp only [List.drop_succ_cons, List.drop_zero, List.take_succ_cons, List.take_zero]
          repeat (go_big_quiet_step (fail))
          refine wpQuiet_nil ?_
          clear hne p0 p1 p2
          refine Mix.mix_one 14 5 (by kernel_rfl) rfl rfl ?_
          simp only [List.drop_succ_cons, List.drop_zero, List.take_succ_cons, List.take_zero]
          go_wp2_with fail
          refine (HNEW.out v0).mono ?_
          rintro e v1 ⟨rfl, hs1, hk1⟩
          have HV1 : Hid (Keeps No wr v1) := Lib.hid (HV0.out.trans hk1 (fun _ _ e => e))
          have HD1 : Hid (WdAt v1 v0.heap.size 0 W ∧ wr.heap.size ≤ v0.heap.size) := Lib.hid ⟨hs1, by rw [HS0.out]; exact Nat.le_refl _⟩
          obtain ⟨p, hp⟩ : ∃ p, v0.heap.size = p := ⟨_, rfl⟩
          rw [hp] at HD1 ⊢
          clear hs1 hk1 hp HS0
          go_wp2_with fail
          refine ⟨.inr (HC0.out v1 HV1.out), ?_⟩
          refine Mix.mix_one 19 4 (by kernel_rfl) rfl rfl ?_
          simp only [List.drop_succ_cons, List.drop_zero, List.take_succ_cons, List.take_zero]
          go_wp2_with fail
          refine (HNEW.out v1).mono ?_
          rintro e v2 ⟨rfl, hs2, hk2⟩
          have HV2 : Hid (Keeps No wr v2) := Lib.hid (HV1.out.trans hk2 (fun _ _ e => e))
          have HD2 : Hid (WdAt v2 p 0 W ∧ WdAt v2 v1.heap.size 0 W ∧ wr.heap.size ≤ p ∧ p < v1.heap.size) := Lib.hid ⟨HD1.out.1.keep hk2 (fun e => e), hs2, HD1.out.2, HD1.out.1.lt⟩
          obtain ⟨q, hq⟩ : ∃ q, v1.heap.size = q := ⟨_, rfl⟩
          rw [hq] at HD2 ⊢
          clear hs2 hk2 hq HD1
          go_wp2_with fail
          refine ⟨.inr (HC0.out v2 HV2.out), ?_⟩
          have lGI := (Array.getElem?_eq_some_iff.1 HS.out.hi).1
          have lGO := (Array.getElem?_eq_some_iff.1 HS.out.ho).1
          have rI : v2.heap[GI]? = some (.cells (slotRow n i gi W).toArray 66 (0, 0)) := (HV2.out.block GI lGI (fun e => e)).trans HS.out.hi
          have rO : (v2.setCell ⟨GI, i, none⟩ (wv p W)).heap[GO]? = some (.cells (slotRow n i go W).toArray 66 (0, 0)) := (Below.heap_setCell _ _ _ _ HS.out.ne.symm).trans ((HV2.out.block GO lGO (fun e => e)).trans HS.out.ho)
          have fI : v2.frozen? ⟨GI, i, none⟩ = false := frozen_of_row v2 GI i _ _ rI
          have fO : (v2.setCell ⟨GI, i, none⟩ (wv p W)).frozen? ⟨GO, i, none⟩ = false := frozen_of_row _ GO i _ _ rO
          have cI : ∃ u, v2.cell? ⟨GI, i, none⟩ = some u := ⟨_, by rw [cell_of_row v2 GI i _ _ _ rI, List.getElem?_toArray]; exact List.getElem?_eq_getElem (by rw [slotRow_len]; exact hlt)⟩
          have cO : ∃ u, (v2.setCell ⟨GI, i, none⟩ (wv p W)).cell? ⟨GO, i, none⟩ = some u := ⟨_, by rw [cell_of_row _ GO i _ _ _ rO, List.getElem?_toArray]; exact List.getElem?_eq_getElem (by rw [slotRow_len]; exact hlt)⟩
          obtain ⟨uI, cI⟩ := cI
          obtain ⟨uO, cO⟩ := cO
          have HKI : Hid (∃ u : KS (fun q => q = GI ∨ q = GO) wr, v2.setCell ⟨GI, i, none⟩ (wv p W) = u.W) := Lib.hid ⟨⟨_, (HV2.out.mono (T := fun k => k = GI ∨ k = GO) (fun _ _ e => e.elim)).setCell (.inl (.inl rfl)) _⟩, rfl⟩
          have HKO : Hid (∃ u : KS (fun q => q = GI ∨ q = GO) wr, (v2.setCell ⟨GI, i, none⟩ (wv p W)).setCell ⟨GO, i, none⟩ (wv q W) = u.W) := Lib.hid ⟨⟨_, ((HV2.out.mono (T := fun k => k = GI ∨ k = GO) (fun _ _ e => e.elim)).setCell (.inl (.inl rfl)) _).setCell (.inl (.inr rfl)) _⟩, rfl⟩
          clear lGI lGO rI rO
          have hne : Nonempty (KS (fun q => q = GI ∨ q = GO) wr) := ⟨⟨wr, Keeps.refl _ _⟩⟩
          refine Mix.mix_seg 20 1 3 (by kernel_rfl) (by kernel_rfl) rfl rfl (HC0.out v2 HV2.out) ?_
          simp only [List.drop_succ_cons, List.drop_zero, List.take_succ_cons, List.take_zero]
          repeat (go_big_quiet_step (fail))
          refine wpQuiet_nil ?_
          refine Mix.mix_one 21 2 (by kernel_rfl) rfl rfl ?_
          simp only [List.drop_succ_cons, List.drop_zero, List.take_succ_cons, List.take_zero]
          go_wp2_with fail
          refine ⟨.inr HKI.out, ?_⟩
          refine Mix.mix_seg 22 1 1 (by kernel_rfl) (by kernel_rfl) rfl rfl HKI.out ?_
          simp only [List.drop_succ_cons, List.drop_zero, List.take_succ_cons, List.take_zero]
          repeat (go_big_quiet_step (fail))
          refine wpQuiet_nil ?_
          refine Mix.mix_one 23 0 (by kernel_rfl) rfl rfl ?_
          simp only [List.drop_succ_cons, List.drop_zero, List.take_succ_cons, List.take_zero]
          go_wp2_with fail
          refine ⟨.inr HKO.out, ?_⟩
          refine Mix.mix_end (by kernel_rfl) ?_
          go_wp2_with fail
          go_meet
          exact ⟨_, _, Lib.hid (HS.out.slot hlt HV2.out HD2.out.2.2.1 (by have := HD2.out.2.2; omega) (by have := HD2.out.2.2.2; omega) HD2.out.1 HD2.out.2.1)⟩
        case rest =>
          obtain ⟨gi2, go2, HS2⟩ := hcut
          clear HS
          have c4w := HS2.out.k.cell0 c4
          obtain ⟨bb, bo, B, hB, hba, hcB, hBA⟩ := Fx.get HOK.out (i := i) (by rw [HN.out]; exact hlt)
          have cB := HS2.out.k.cell0 hcB
          rw [hba] at c4w
          have hne := (form_block HFORM.out (List.mem_of_getElem? hB)).1
          have HTL := Lib.hid (HTO.out B (List.mem_of_getElem? hB))
          have HFT := Lib.hid (form_to HFORM.out (List.mem_of_getElem? hB))
          rw [HN.out] at HFT
          have HBK := Lib.hid (blk_get hB)
          obtain ⟨Ba, Bn, Bc, Bl⟩ := B
          have hBl := hBA.len
          have hBcap := hBA.cap
          unfold maxLen at hBcap
          simp only at hne hBl hBcap HTL HFT HBK
          obtain ⟨m, rfl⟩ : ∃ m, Bn = m + 1 := ⟨Bn - 1, by
            have : Bl.length ≠ 0 := fun e => hne (List.eq_nil_of_length_eq_zero e)
            omega⟩
          obtain ⟨ib, io, x, hx, hBa, hxa, hxo⟩ := Bx.get hBA (i := m) (by simp only; omega)
          simp only at hx hBa
          subst hBa
          have HX := Lib.hid (And.intro (hxa.no HS2.out.k) hxo)
          have HLT : Hid (lastTo (blk (bls f) i) = toI x) := Lib.hid (by rw [HBK.out]; exact lastTo_get (by rw [hBl]; exact hx))
          have HTB : Hid ((toI x).length ≤ 100 ∧ ∀ z ∈ toI x, 0 ≤ z ∧ z < (n : Int)) := Lib.hid (by rw [← HLT.out, HBK.out]; exact ⟨HTL.out, HFT.out⟩)
          clear hB hba hcB hBA hne HTL HFT HBK hBl hx hxa hxo
          change wc.cell? ⟨bb, bo + i, none⟩ = some (.slice (some ⟨ib, io, none⟩) (m + 1) Bc) at cB
          have m0 : (0 : Int) ≤ (m : Int) := by omega
          have m1 : (m : Int) < ((m + 1 : Nat) : Int) := by omega
          have m2 : ((m + 1 : Nat) : Int) - 1 = (m : Int) := by omega
          go_wp2_with fail
          refine (wto_sl x ib (io + m * 11) wc HX.out.1).mono ?_
          rintro e w3 ⟨rfl, ⟨sa, sn, sc, sl⟩, rfl, hsl, hsw⟩
          have HSW := Lib.hid (hsw w HX.out.2)
          have hsn := HSW.out.len
          have hscp := HSW.out.cap
          unfold maxLen at hscp
          simp only at hsl hsn hscp
          rw [← hsl] at HLT HTB
          have hsn2 : sn ≤ 100 := by rw [← hsn]; exact HTB.out.1
          have HSN := Lib.hid hsn
          clear hsl hsw hsn
          dsimp only [Sl.v]
          go_wp2_with fail
          obtain ⟨wB, rfl⟩ : ∃ W', W' = wr := ⟨_, rfl⟩
          go_loopg [79] sn (fun k v wr => ∃ t : Nat, v = .int .i64 (t : Int) ∧ t ≤ sn ∧ k = sn - t ∧ ∃ vs L, Hid (InitS w wr f fb fo R n M GI GO GB W (i + 1) i t gi2 go2 vs L))
          case atStart => exact ⟨0, rfl, Nat.zero_le _, rfl, _, _, HS2⟩
          case round =>
            obtain ⟨t, rfl, ht, hg2, vs2, L2, HS3⟩ := hrel
            by_cases hlt2 : t < sn
            · have hlt2' : (t : Int) < (sn : Int) := by omega
              have t0 : (0 : Int) ≤ (t : Int) := by omega
              obtain ⟨pb, po, z, hz, hsa, hcz⟩ := HSW.out.get hlt2
              simp only at hz hsa
              subst hsa
              have hzb := HTB.out.2 z (List.mem_of_getElem? hz)
              obtain ⟨c, rfl⟩ : ∃ c : Nat, z = (c : Int) := ⟨z.toNat, by omega⟩
              have hcn : c < n := by omega
              have c0 : (0 : Int) ≤ (c : Int) := by omega
              have c1 : (c : Int) < (n : Int) := by omega
              have hcw := HS3.out.k.cell0 hcz
              have hbc : wr.cell? ⟨GB, c, none⟩ = some (vs2 c) := by
                rw [cell_of_row wr GB c _ _ _ HS3.out.hb, List.getElem?_toArray]; exact vrow_get _ hcn
              have HTT : Hid ((lastTo (blk (bls f) i))[t]? = some (c : Int)) := Lib.hid (by rw [HLT.out]; exact hz)
              have hll := HS3.out.len c hcn
              have HOW := Lib.hid (HS3.out.r.own c hcn)
              obtain ⟨ll, hl⟩ : ∃ l, (L2 c).length = l := ⟨_, rfl⟩
              rw [hl] at hll HOW
              have HLL := Lib.hid hl
              clear hl hz hzb hcz
              go_wp2_with (at_builtin; refine wpList_appIl _ rfl (.tmp 88) (.tmp 90) 22 rfl Tryd.underlying22 w.heap.size _ ll (L2 c) (i : Int) wr.heap.size rfl (HOW.out.alloc _) rfl (heap_alloc_new _ _) (by omega) (by have := HS3.out.k.size; simp; omega) ?_)
              intro g4 cap4 w4 ho4 hg4 hw4
              have hk4 : Keeps (fun q => (vs2 c).ownBlock = some q) wr w4 := ((Keeps.refl _ _).alloc _).grown hg4 (fun q e => .inl e)
              have HS4 := Lib.hid (HS3.out.edge (g' := g4) (cap := cap4) hcn HTT.out (by rw [HLL.out]; exact ho4) hk4 (hw4.imp id (fun e => by omega)))
              rw [HLL.out] at HS4
              have hb4 : w4.heap[GB]? = some (.cells (vrow n vs2).toArray 22 (0, 0)) := (hk4.block GB (Array.getElem?_eq_some_iff.1 HS3.out.hb).1 (fun e => by
                obtain ⟨cs, hcs⟩ := own_typ (HS3.out.r.own c hcn) e
                exact type_ne HS3.out.hb hcs (by decide) rfl)).trans HS3.out.hb
              have f4 : w4.frozen? ⟨GB, c, none⟩ = false := frozen_of_row w4 GB c _ _ hb4
              have c5 : w4.cell? ⟨GB, c, none⟩ = some (vs2 c) := by
                rw [cell_of_row w4 GB c _ _ _ hb4, List.getElem?_toArray]; exact vrow_get _ hcn
              clear ho4 hg4 hw4 hk4 hb4
              go_wp2_with fail
              go_roundg (sn - (t + 1))
              case rel => exact ⟨t + 1, by go_num, by omega, rfl, _, _, HS4⟩
              case measure => omega
            · obtain rfl : t = sn := by omega
              have hlt2' : ¬ (t : Int) < (t : Int) := by omega
              have HS4 := Lib.hid (HS3.out.next (by rw [HLT.out]; exact HSN.out.symm) (by omega))
              go_wp2_with fail
              go_roundg (n - (i + 1))
              case rel => exact ⟨i + 1, by go_num, by omega, rfl, _, _, _, _, HS4⟩
              case measure => omega
        -- DEV>
      · obtain rfl : i = n := by omega
        have hlt' : ¬ (i : Int) < (i : Int) := by omega
        have HB1 : Hid (wr.heap.size ≤ wr.heap.size) := Lib.hid (Nat.le_refl _)
        go_wp2_with (at_make; refine wpList_make_full _ rfl (.tmp 95) (.tmp 95) 22 rfl wr.heap.size 3 i3 _ 1 Tryd.underlying22 HI3.out.1 HI3.out.2.1 HI3.out.2.2.1 .i64 .i64 (i : Int) (i : Int) i rfl rfl rfl rfl (by rw [HI3.out.2.2.2]; omega) (by unfold maxLen; omega) HB1.out ?_)
        intro w5 ho5 hg5
        obtain ⟨hr5, hk5, hs5⟩ := made_at ho5 hg5
        obtain ⟨GW, hGW⟩ : ∃ B, wr.heap.size = B := ⟨_, rfl⟩
        rw [hGW] at hr5 hs5 ⊢
        have HR5 := Lib.hid hr5
        have HK5 := Lib.hid hk5
        have HS5 := Lib.hid (And.intro hGW hs5)
        clear ho5 hg5 hr5 hk5 hs5 hGW HB1
        go_wp2_with (at_make; refine wpList_make_full _ rfl (.tmp 97) (.tmp 97) 53 rfl w5.heap.size 4 i4 _ 1 Tryd.underlying53 HI4.out.1 HI4.out.2.1 HI4.out.2.2.1 .i64 .i64 (i : Int) (i : Int) i rfl rfl rfl rfl (by rw [HI4.out.2.2.2]; omega) (by unfold maxLen; omega) (Nat.le_refl _) ?_)
        intro w6 ho6 hg6
        obtain ⟨hr6, hk6, hs6⟩ := made_at ho6 hg6
        obtain ⟨GT, hGT⟩ : ∃ B, w5.heap.size = B := ⟨_, rfl⟩
        rw [hGT] at hr6 hs6 ⊢
        have HR6 : Hid (w6.heap[GT]? = some (.cells (vrow i (fun b => .bool (decide (b < 0)))).toArray 4 (0, 0)) ∧ w6.heap[GW]? = some (.cells (vrow i (fun b => .int .i64 ((if b < 0 then b else 0 : Nat) : Int))).toArray 3 (0, 0)) ∧ Keeps No wr w6) := Lib.hid
          ⟨(by rw [show (fun b : Nat => Value.bool (decide (b < 0))) = fun _ => .bool false by funext b; simp, vrow_const]; exact hr6), (by
            rw [show (fun b : Nat => Value.int .i64 ((if b < 0 then b else 0 : Nat) : Int)) = fun _ => .int .i64 0 by funext b; simp, vrow_const]
            exact (hk6.block GW HS5.out.2 (fun e => e)).trans HR5.out), HK5.out.trans hk6 (fun _ _ e => e)⟩
        have HS6 := Lib.hid (And.intro hGT hs6)
        clear ho6 hg6 hr6 hk6 hs6 hGT HR5
        go_wp2_with fail
        have HNE : Hid (GW ≠ GT ∧ wr.heap.size ≤ GW ∧ wr.heap.size ≤ GT) := Lib.hid (by have h1 := HS5.out; have h2 := HS6.out; omega)
        obtain ⟨wC, rfl⟩ : ∃ W', W' = wr := ⟨_, rfl⟩
        go_loopg [101] i (fun k v wr => ∃ j : Nat, v = .int .i64 (j : Int) ∧ j ≤ i ∧ k = i - j ∧ Hid (wr.heap[GT]? = some (.cells (vrow i (fun b => .bool (decide (b < j)))).toArray 4 (0, 0)) ∧ wr.heap[GW]? = some (.cells (vrow i (fun b => .int .i64 ((if b < j then b else 0 : Nat) : Int))).toArray 3 (0, 0)) ∧ Keeps No wC wr))
        case atStart => exact ⟨0, rfl, Nat.zero_le _, rfl, HR6⟩
        case round =>
          obtain ⟨j, rfl, hj, hg2, HJ⟩ := hrel
          by_cases hlt2 : j < i
          · have hlt2' : (j : Int) < (i : Int) := by omega
            -- DEV<
            have j0 : (0 : Int) ≤ (j : Int) := by omega
            have rT := HJ.out.1
            have rW := HJ.out.2.1
            have cW : wr.cell? ⟨GW, j, none⟩ = some (.int .i64 0) := by
              rw [cell_of_row wr GW j _ _ _ rW, List.getElem?_toArray, vrow_get _ hlt2]; simp
            have fW : wr.frozen? ⟨GW, j, none⟩ = false := frozen_of_row wr GW j _ _ rW
            have rT2 : (wr.setCell ⟨GW, j, none⟩ (.int .i64 (j : Int))).heap[GT]? = some (.cells (vrow i (fun b => .bool (decide (b < j)))).toArray 4 (0, 0)) := (Below.heap_setCell _ _ _ _ HNE.out.1.symm).trans rT
            have cT : (wr.setCell ⟨GW, j, none⟩ (.int .i64 (j : Int))).cell? ⟨GT, j, none⟩ = some (.bool false) := by
              rw [cell_of_row _ GT j _ _ _ rT2, List.getElem?_toArray, vrow_get _ hlt2]; simp
            have fT : (wr.setCell ⟨GW, j, none⟩ (.int .i64 (j : Int))).frozen? ⟨GT, j, none⟩ = false := frozen_of_row _ GT j _ _ rT2
            have HJ2 : Hid (((wr.setCell ⟨GW, j, none⟩ (.int .i64 (j : Int))).setCell ⟨GT, j, none⟩ (.bool true)).heap[GT]? = some (.cells (vrow i (fun b => .bool (decide (b < j + 1)))).toArray 4 (0, 0)) ∧ ((wr.setCell ⟨GW, j, none⟩ (.int .i64 (j : Int))).setCell ⟨GT, j, none⟩ (.bool true)).heap[GW]? = some (.cells (vrow i (fun b => .int .i64 ((if b < j + 1 then b else 0 : Nat) : Int))).toArray 3 (0, 0)) ∧ Keeps No wC ((wr.setCell ⟨GW, j, none⟩ (.int .i64 (j : Int))).setCell ⟨GT, j, none⟩ (.bool true))) := Lib.hid (by
              refine ⟨?_, ?_, (HJ.out.2.2.setCell (.inr HNE.out.2.1) _).setCell (.inr HNE.out.2.2) _⟩
              · rw [heap_setCell_same _ GT j _ _ _ rT2]
                have e : (vrow i (fun b => Value.bool (decide (b < j)))).set j (.bool true) = vrow i (fun b => Value.bool (decide (b < j + 1))) := by
                  rw [vrow_set _ _ hlt2]; congr 1; funext b; unfold upd
                  by_cases e : b = j
                  · rw [if_pos e]; simp [e]
                  · rw [if_neg e]; show Value.bool (decide (b < j)) = _; congr 1; exact decide_eq_decide.2 (by omega)
                rw [← e]; simp
              · refine (Below.heap_setCell _ _ _ _ HNE.out.1).trans ?_
                rw [heap_setCell_same _ GW j _ _ _ rW]
                have e : (vrow i (fun b => Value.int .i64 ((if b < j then b else 0 : Nat) : Int))).set j (.int .i64 (j : Int)) = vrow i (fun b => Value.int .i64 ((if b < j + 1 then b else 0 : Nat) : Int)) := by
                  rw [vrow_set _ _ hlt2]; congr 1; funext b; unfold upd
                  by_cases e : b = j
                  · rw [if_pos e, if_pos (by omega), e]
                  · rw [if_neg e]
                    show Value.int .i64 ((if b < j then b else 0 : Nat) : Int) = _
                    by_cases e2 : b < j
                    · rw [if_pos e2, if_pos (by omega)]
                    · rw [if_neg e2, if_neg (by omega)]
                rw [← e]; simp)
            clear rT rW rT2
            go_wp2_with fail
            go_roundg (i - (j + 1))
            case rel => exact ⟨j + 1, by go_num, by omega, rfl, HJ2⟩
            case measure => omega
            -- DEV>
          · obtain rfl : j = i := by omega
            have hlt2' : ¬ (j : Int) < (j : Int) := by omega
            have c2w := HJ.out.2.2.cell0 (HS.out.k.cell0 c2)
            go_wp2_with fail
            refine (HNEW.out wr).mono ?_
            rintro e w7 ⟨rfl, hs7, hk7⟩
            have HFX : Hid (FX w w7 j W M GI GO GB GW fb fo gi go vs L) := Lib.hid (FX.of HS.out HT.out (HJ.out.2.2.trans hk7 (fun _ _ e => e)) HS5.out.1)
            have HWI : Hid (WInv (bls f) R (fun _ => 0) (fun _ => 0) (List.range j)) := Lib.hid (WInv.start _ _ _ (fun c hc => by rw [bls_len, HLEN.out] at hc; exact List.mem_range.2 hc) List.nodup_range (fun b hb => by rw [bls_len, HLEN.out]; exact List.mem_range.1 hb))
            have HMS : Hid (MS w w7 j W M GI GO GB GT wr.heap.size GW fb fo gi go vs L (fun _ => 0) (fun _ => 0) 0 (List.range j) (List.range j) (.slice (some ⟨GW, 0, none⟩) j j)) := Lib.hid (by
              have hk : Keeps No wC w7 := HJ.out.2.2.trans hk7 (fun _ _ e => e)
              have hk2 : Keeps No wC wr := HJ.out.2.2
              have hq := HS.out.q.keep hk (fun _ _ => ⟨fun e => e, fun e => e⟩)
              have ls : ∀ b, b < j → gi b < wC.heap.size ∧ go b < wC.heap.size := fun b hb => ⟨(HS.out.q.di b hb).lt, (HS.out.q.dq b hb).lt⟩
              refine ⟨HFX.out, hq, HS.out.ls, fun b hb => by have := ls b hb; have := hk2.size; omega, hs7, Nat.le_trans HS.out.k.size hk2.size, ?_, Nat.le_trans HS.out.k.size HNE.out.2.2, ?_⟩
              · rw [hk7.block GT (Array.getElem?_eq_some_iff.1 HJ.out.1).1 (fun e => e), HJ.out.1]
                have e : (fun b => Value.bool (decide (b < j))) = fun b => Value.bool (decide (b ∈ List.range j)) := by funext b; congr 1; exact decide_eq_decide.2 List.mem_range.symm
                rw [e]
              · have e1 : w7.heap[GW]? = some (.cells (vrow j (fun b => .int .i64 ((if b < j then b else 0 : Nat) : Int))).toArray 3 (0, 0)) := (hk7.block GW (Array.getElem?_eq_some_iff.1 HJ.out.2.1).1 (fun e => e)).trans HJ.out.2.1
                have e2 : vrow j (fun b => .int .i64 ((if b < j then b else 0 : Nat) : Int)) = irow (ints (List.range j)) := by
                  unfold vrow irow ints
                  rw [List.map_map]
                  refine List.map_congr_left fun b hb => ?_
                  rw [List.mem_range] at hb
                  simp [hb]
                rw [List.length_range]
                rw [e2] at e1
                exact ⟨by rw [irow_len, ints_len, List.length_range, Nat.mul_one], .inr ⟨GW, j, _, rfl, Nat.le_refl _, e1, Nat.le_refl _, by unfold maxLen; omega, by simp [irow_len, ints_len], by simp only [Nat.mul_one]; exact List.take_of_length_le (by rw [irow_len, ints_len, List.length_range]; exact Nat.le_refl _)⟩⟩)
            obtain ⟨GN, hGN⟩ : ∃ g, wr.heap.size = g := ⟨_, rfl⟩
            rw [hGN] at HMS ⊢
            clear hs7 hk7 hGN
            go_wp2_with fail
            obtain ⟨wD, rfl⟩ : ∃ W', W' = wr := ⟨_, rfl⟩
            go_loopg [12] (cost R j (fun _ => 0) (List.range j)) (fun k v wr => ∃ (I O : Nat → Nat) (X : Nat) (wl : List Nat) (aw : Option Addr) (wn cw : Nat), v = .slice aw wn cw ∧ Hid (wl.length = wn) ∧ Hid (k = cost R j O wl) ∧ Hid (WInv (bls f) R O I wl) ∧ Hid (MS w wr j W M GI GO GB GT GN GW fb fo gi go vs L I O X wl wl (.slice aw wn cw)))
            case atStart => exact ⟨_, _, _, List.range j, _, _, _, rfl, Lib.hid List.length_range, Lib.hid rfl, HWI, HMS⟩
            case round =>
              obtain ⟨I, O, X, wl, aw, wn, cw, rfl, HLW, HCO, HWI2, HM0⟩ := hrel
              have hwn : wn ≤ 1000 := by
                have := nodup_le j wl HWI2.out.nd (fun x hx => by have := HWI2.out.lt x hx; rw [bls_len, HLEN.out] at this; exact this)
                have := HLW.out
                omega
              by_cases hz : wn = 0
              · subst hz
                have HE : Hid (Least (bls f) O ∧ ∀ c, c < (bls f).length → I c = backs (blk (bls f) c) (O c)) := Lib.hid (by
                  have h := HWI2.out
                  rw [List.eq_nil_of_length_eq_zero HLW.out] at h
                  exact h.least)
                go_wp2_with fail
                go_returns
                refine ⟨M, I, O, rfl, HE.out.1, fun b hb => ?_, ⟨⟨GI, GO, gi, go, HM0.out.fx.m, HM0.out.fx.hi, HM0.out.fx.ho, HM0.out.q, HM0.out.ls⟩, HM0.out.fx.lm⟩, HM0.out.fx.k⟩
                have hb2 : b < (bls f).length := by rw [bls_len, HLEN.out]; exact hb
                exact ⟨HE.out.2 b hb2, (HWI2.out.bd b hb2).1, (HWI2.out.bd b hb2).2⟩
              · obtain ⟨m, rfl⟩ : ∃ m, wn = m + 1 := ⟨wn - 1, by omega⟩
                obtain ⟨wl0, b, rfl⟩ : ∃ l b, wl = l ++ [b] := ⟨wl.dropLast, wl.getLast (fun e => by have := HLW.out; rw [e] at this; cases this), (List.dropLast_concat_getLast _).symm⟩
                have hm0 : wl0.length = m := by have := HLW.out; rw [List.length_append, List.length_singleton] at this; omega
                have hb : b < j := by have := HWI2.out.lt b (by simp); rw [bls_len, HLEN.out] at this; exact this
                have hnb : b ∉ wl0 := fun h => by have := (List.nodup_append.1 HWI2.out.nd).2.2 b h b (by simp); exact this rfl
                obtain ⟨aa, ca, hform, hfa⟩ := own_form HM0.out.wt
                injection hform with e1 e2 e3
                subst e1 e3
                obtain ⟨gw, rfl⟩ := hfa (by rw [HLW.out]; omega)
                have hcw : wr.cell? ⟨gw, m, none⟩ = some (.int .i64 (b : Int)) := by
                  rw [World.ownsRow.cellAt (by have h := HM0.out.wt; rw [HLW.out] at h; exact h) m (by omega)]
                  exact irow_get (by unfold ints; rw [List.map_append, List.getElem?_append_right (by rw [List.length_map]; omega), List.length_map, hm0, Nat.sub_self]; rfl)
                have HM1 : Hid (MS w (wr.setCell ⟨GT, b, none⟩ (.bool false)) j W M GI GO GB GT GN GW fb fo gi go vs L I O X wl0 wl0 (.slice (some ⟨gw, 0, none⟩) m cw)) := Lib.hid (by
                  have h1 := HM0.out.flag (fl' := wl0) (v := false) hb (fun c => by
                    by_cases e : c = b
                    · subst e; rw [if_pos rfl]; exact decide_eq_false hnb
                    · rw [if_neg e]; exact decide_eq_decide.2 (by simp [e]))
                  refine h1.list ?_
                  have h2 := own_take (by have h := h1.wt; rw [HLW.out] at h; exact h) m (by omega)
                  rw [hm0]
                  rw [Nat.mul_one, ints_app, irow_app, List.take_append_of_le_length (by rw [irow_len, ints_len, hm0]; exact Nat.le_refl _), List.take_of_length_le (by rw [irow_len, ints_len, hm0]; exact Nat.le_refl _)] at h2
                  exact h2)
                have cT : wr.cell? ⟨GT, b, none⟩ = some (.bool (decide (b ∈ wl0 ++ [b]))) := by
                  rw [cell_of_row wr GT b _ _ _ HM0.out.gt, List.getElem?_toArray]; exact vrow_get _ hb
                have fT : wr.frozen? ⟨GT, b, none⟩ = false := frozen_of_row wr GT b _ _ HM0.out.gt
                have hcap := own_form HM0.out.wt
                have hcc : m + 1 ≤ cw ∧ cw ≤ 9223372036854775807 := by
                  rcases HM0.out.wt.2 with ⟨h, _⟩ | ⟨g', cap, cur, h, _, _, h1, h2, _⟩
                  · cases h
                  · injection h with _ e4 e5
                    subst e5
                    unfold maxLen at h2
                    rw [HLW.out] at h1
                    omega
                have m0 : (0 : Int) ≤ (m : Int) := by omega
                have m1 : (m : Int) < ((m + 1 : Nat) : Int) := by omega
                have m2 : ((m + 1 : Nat) : Int) - 1 = (m : Int) := by omega
                have b0 : (0 : Int) ≤ (b : Int) := by omega
                have b1 : (b : Int) < (j : Int) := by omega
                have cM1 : (wr.setCell ⟨GT, b, none⟩ (.bool false)).cell? ⟨M, 1, none⟩ = some (.slice (some ⟨GO, 0, none⟩) j j) := by rw [cell_of_row _ M 1 _ _ _ HM1.out.fx.m]; rfl
                have cM0 : (wr.setCell ⟨GT, b, none⟩ (.bool false)).cell? ⟨M, 0, none⟩ = some (.slice (some ⟨GI, 0, none⟩) j j) := by rw [cell_of_row _ M 0 _ _ _ HM1.out.fx.m]; rfl
                have cGO : (wr.setCell ⟨GT, b, none⟩ (.bool false)).cell? ⟨GO, b, none⟩ = some (wv (go b) W) := by
                  rw [cell_of_row _ GO b _ _ _ HM1.out.fx.ho, List.getElem?_toArray]; exact slotRow_get _ _ hb hb
                have HML := Lib.hid hm0
                clear hcap hfa e2 hm0
                go_wp2_with (refine wpList_copyS (o := ⟨some 142, _, _, _, _, _⟩) _ rfl (.tmp 134) (.tmp 141) rfl GN (go b) X (O b) W rfl rfl HM1.out.now (HM1.out.q.dq b hb) ?_)
                intro w8 hs8 hk8
                have HM2 : Hid (MS w w8 j W M GI GO GB GT GN GW fb fo gi go vs L I O (O b) wl0 wl0 (.slice (some ⟨gw, 0, none⟩) m cw)) := Lib.hid (HM1.out.setN hk8 hs8)
                clear hs8 hk8 HM1
                obtain ⟨B, hB⟩ : ∃ B, f.bl[b]? = some B := ⟨_, List.getElem?_eq_getElem (by rw [HLEN.out]; exact hb)⟩
                have HBM := Lib.hid (List.mem_of_getElem? hB)
                have HBF : Hid (∀ x ∈ B.l, Fit R x) := Lib.hid (fun x hx => form_fit HFORM.out HR.out HBM.out hx)
                have HBY : Hid (blk (bls f) b = B.l) := Lib.hid (blk_get hB)
                have HBA := Lib.hid (back_any w w8 M GN (O b) W _ f fb fo b B .nilFunc false (fun _ => False) (fun _ w1 => Keeps (fun q => q = GN) w8 w1) HF.out HOK.out hB
                  (fun x hx => ⟨⟨fun r hr => by have h := (HBF.out x hx).1 r hr; have := HW.out; omega, fun hd => by have h := (HBF.out x hx).2 hd; have := HW.out; omega⟩, HARGS.out B HBM.out x hx⟩) HW.out.2.1
                  ⟨HM2.out.fx.k, HM2.out.fx.m, HM2.out.now, HM2.out.fx.t⟩ (fun w1 h => ⟨by rw [cell_of_row w1 M 2 _ _ _ h]; rfl, by rw [cell_of_row w1 M 3 _ _ _ h]; rfl⟩)
                  (type_ne HM2.out.fx.m HM2.out.now (by decide)) HM2.out.ln (by have := HM2.out.fx.tb; have := HM2.out.ln; omega) (Keeps.refl _ _)
                  (fun k w1 w2 h hk => ⟨hk.os.trans h.os, hk.tape.trans h.tape, hk.output.trans h.output, Nat.le_trans h.size hk.size, fun q hq hn => (hk.block q (Nat.lt_of_lt_of_le hq h.size) (fun e => e.elim hn (fun e => by omega))).trans (h.block q hq hn)⟩)
                  (fun _ => ⟨rfl, fun _ _ h => h⟩) (fun h => by cases h))
                go_wp2_with fail
                refine HBA.out.mono ?_
                rintro e w9 ⟨rfl, hk9, hb9⟩
                have HM3 : Hid (MS w w9 j W M GI GO GB GT GN GW fb fo gi go vs L I O (backs B.l (O b)) wl0 wl0 (.slice (some ⟨gw, 0, none⟩) m cw)) := Lib.hid (HM2.out.setN hk9 hb9.s)
                have HYL : Hid (backs (blk (bls f) b) (O b) < 2 ^ R) := Lib.hid (by
                  rw [HBY.out]; exact backs_lt (HWI2.out.bd b (by rw [bls_len, HLEN.out]; exact hb)).1 HBF.out)
                have HRI := Lib.hid (HWI2.out.pop HYL.out)
                rw [← HBY.out] at HM3
                obtain ⟨Y, hY⟩ : ∃ Y, backs (blk (bls f) b) (O b) = Y := ⟨_, rfl⟩
                rw [hY] at HM3 HRI HYL
                have HCO2 : Hid (cost R j O wl0 + 1 = gk) := Lib.hid (by rw [HCO.out]; unfold cost; rw [List.length_append, List.length_singleton]; omega)
                have cM0 : w9.cell? ⟨M, 0, none⟩ = some (.slice (some ⟨GI, 0, none⟩) j j) := by rw [cell_of_row _ M 0 _ _ _ HM3.out.fx.m]; rfl
                have cGI : w9.cell? ⟨GI, b, none⟩ = some (wv (gi b) W) := by
                  rw [cell_of_row _ GI b _ _ _ HM3.out.fx.hi, List.getElem?_toArray]; exact slotRow_get _ _ hb hb
                clear hk9 hb9 HBA HM2 hB hY HM0 HCO
                go_wp2_with (refine wpList_copyS (o := ⟨some 155, _, _, _, _, _⟩) _ rfl (.tmp 153) (.tmp 154) rfl (gi b) GN (I b) Y W rfl rfl (HM3.out.q.di b hb) HM3.out.now ?_)
                intro w10 hs10 hk10
                have HM4 : Hid (MS w w10 j W M GI GO GB GT GN GW fb fo gi go vs L (upd I b Y) O Y wl0 wl0 (.slice (some ⟨gw, 0, none⟩) m cw)) := Lib.hid (HM3.out.setI hb hk10 hs10)
                clear hs10 hk10 HM3
                obtain ⟨ab, cb, hvb, hab⟩ := own_form (HM4.out.fx.r.own b hb)
                have cGB : w10.cell? ⟨GB, b, none⟩ = some (.slice ab (L b).length cb) := by
                  rw [cell_of_row _ GB b _ _ _ HM4.out.fx.hb, List.getElem?_toArray, vrow_get _ hb, hvb]
                have HED : Hid (∀ z ∈ L b, ∃ p : Nat, z = (p : Int) ∧ p < j ∧ (b : Int) ∈ lastTo (blk (bls f) p)) := Lib.hid (fun z hz => by
                  obtain ⟨p, e, h⟩ := (HS.out.e b hb z).1 hz
                  rcases h with h | h
                  · exact ⟨p, e, h.1, h.2⟩
                  · rw [List.take_zero] at h; cases h.2)
                have HED2 : Hid (∀ p, p < j → (b : Int) ∈ lastTo (blk (bls f) p) → (p : Int) ∈ L b) := Lib.hid (fun p hp h => (HS.out.e b hb p).2 ⟨p, rfl, .inl ⟨hp, h⟩⟩)
                have hLn := HS.out.len b hb
                have HVB := Lib.hid (And.intro hvb hab)
                obtain ⟨ln, hln⟩ : ∃ n, (L b).length = n := ⟨_, rfl⟩
                rw [hln] at cGB hLn HVB
                have HLN := Lib.hid hln
                clear hvb hab hln
                go_wp2_with fail
                obtain ⟨wE, rfl⟩ : ∃ W', W' = wr := ⟨_, rfl⟩
                go_loopg [12, 161] ln (fun k v u wr => ∃ (O2 : Nat → Nat) (wl : List Nat) (aw : Option Addr) (wn cw t : Nat), v = .slice aw wn cw ∧ u = .int .i64 (t : Int) ∧ t ≤ ln ∧ k = ln - t ∧ Hid (wl.length = wn) ∧ Hid (cost R j O2 wl < gk) ∧ Hid (RInv (bls f) R O2 (upd I b Y) wl b Y (O b) ((L b).take t)) ∧ Hid (MS w wr j W M GI GO GB GT GN GW fb fo gi go vs L (upd I b Y) O2 Y wl wl (.slice aw wn cw)))
                case atStart => exact ⟨O, wl0, _, _, _, 0, rfl, rfl, Nat.zero_le _, rfl, HML, Lib.hid (by have := HCO2.out; omega), HRI, HM4⟩
                case round =>
                  obtain ⟨O2, wl, aw, wn, cw2, t, rfl, rfl, ht, hg2, HLW2, HC2, HR2, HM5⟩ := hrel
                  by_cases hlt2 : t < ln
                  · have hlt2' : (t : Int) < (ln : Int) := by omega
                    have t0 : (0 : Int) ≤ (t : Int) := by omega
                    obtain ⟨z, hz⟩ : ∃ z, (L b)[t]? = some z := ⟨_, List.getElem?_eq_getElem (by have := HLN.out; omega)⟩
                    obtain ⟨p, rfl, hp, hpe⟩ := HED.out z (List.mem_of_getElem? hz)
                    obtain ⟨gb, hgb⟩ := HVB.out.2 (by omega)
                    subst hgb
                    have hcb : wr.cell? ⟨gb, t, none⟩ = some (.int .i64 (p : Int)) := by
                      have h := HM5.out.fx.r.own b hb
                      rw [HVB.out.1, HLN.out] at h
                      rw [World.ownsRow.cellAt h t (by omega)]
                      exact irow_get hz
                    have hwn2 : wn ≤ 1000 := by
                      have := nodup_le j wl HR2.out.nd (fun x hx => by have := HR2.out.lt x hx; rw [bls_len, HLEN.out] at this; exact this)
                      have := HLW2.out
                      omega
                    have p0 : (0 : Int) ≤ (p : Int) := by omega
                    have p1 : (p : Int) < (j : Int) := by omega
                    have cM1 : wr.cell? ⟨M, 1, none⟩ = some (.slice (some ⟨GO, 0, none⟩) j j) := by rw [cell_of_row _ M 1 _ _ _ HM5.out.fx.m]; rfl
                    have cGO : wr.cell? ⟨GO, p, none⟩ = some (wv (go p) W) := by
                      rw [cell_of_row _ GO p _ _ _ HM5.out.fx.ho, List.getElem?_toArray]; exact slotRow_get _ _ hp hp
                    have hpl : p < (bls f).length := by rw [bls_len, HLEN.out]; exact hp
                    have hle : 2 ^ R ≤ 2 ^ (64 * W) := Nat.pow_le_pow_right (by decide) HW.out.2.2
                    have HJN := Lib.hid (sjoin_any wr (go p) GN (O2 p) Y W (HM5.out.q.dq p hp) HM5.out.now (HM5.out.nn p hp).2.symm (by have := HW.out; omega) (Nat.lt_of_lt_of_le (HR2.out.bd p hpl).1 hle) (Nat.lt_of_lt_of_le HYL.out hle))
                    have HC3 := Lib.hid (fun wl' hw => Nat.lt_of_le_of_lt (cost_join R j O2 wl wl' p Y hp (Nat.or_lt_two_pow (HR2.out.bd p hpl).1 HYL.out) hw) HC2.out)
                    have HR3 := Lib.hid (fun wl' hw => HR2.out.join hpl hpe wl' hw)
                    have HTK : Hid ((L b).take (t + 1) = (L b).take t ++ [(p : Int)]) := Lib.hid (by
                      obtain ⟨h1, h2⟩ := List.getElem?_eq_some_iff.1 hz
                      rw [List.take_succ_eq_append_getElem h1, h2])
                    clear hz hpe hle
                    by_cases hch : O2 p ||| Y = O2 p
                    · have hd : decide (O2 p ||| Y ≠ O2 p) = false := decide_eq_false (fun h => h hch)
                      rw [hd] at HJN
                      have HCH := Lib.hid hch
                      clear hch hd
                      go_wp2_with fail
                      refine HJN.out.mono ?_
                      rintro e w11 ⟨rfl, hs11, hk11⟩
                      have HM6 := Lib.hid (HM5.out.setO hp hk11 hs11)
                      clear hs11 hk11
                      go_wp2_with fail
                      go_roundg (ln - (t + 1))
                      case rel => exact ⟨_, wl, aw, wn, cw2, t + 1, rfl, by go_num, by omega, rfl, HLW2, Lib.hid (HC3.out wl (by rw [if_neg (fun h => h.1 HCH.out)])), Lib.hid (by rw [HTK.out]; exact HR3.out wl (by rw [if_neg (fun h => h.1 HCH.out)])), HM6⟩
                      case measure => omega
                    · have hd : decide (O2 p ||| Y ≠ O2 p) = true := decide_eq_true hch
                      rw [hd] at HJN
                      have HCH := Lib.hid hch
                      clear hch hd
                      by_cases hpw : p ∈ wl
                      · have HPW := Lib.hid hpw
                        have hdp : decide (p ∈ wl) = true := decide_eq_true hpw
                        clear hpw
                        go_wp2_with fail
                        refine HJN.out.mono ?_
                        rintro e w11 ⟨rfl, hs11, hk11⟩
                        have HM6 := Lib.hid (HM5.out.setO hp hk11 hs11)
                        have cT : w11.cell? ⟨GT, p, none⟩ = some (.bool true) := by
                          rw [cell_of_row w11 GT p _ _ _ HM6.out.gt, List.getElem?_toArray, vrow_get _ hp, hdp]
                        clear hs11 hk11 hdp
                        go_wp2_with fail
                        go_roundg (ln - (t + 1))
                        case rel => exact ⟨_, wl, aw, wn, cw2, t + 1, rfl, by go_num, by omega, rfl, HLW2, Lib.hid (HC3.out wl (by rw [if_neg (fun h => h.2 HPW.out)])), Lib.hid (by rw [HTK.out]; exact HR3.out wl (by rw [if_neg (fun h => h.2 HPW.out)])), HM6⟩
                        case measure => omega
                      · have HPW := Lib.hid hpw
                        have hdp : decide (p ∈ wl) = false := decide_eq_false hpw
                        clear hpw
                        go_wp2_with fail
                        refine HJN.out.mono ?_
                        rintro e w11 ⟨rfl, hs11, hk11⟩
                        have HM6 := Lib.hid (HM5.out.setO hp hk11 hs11)
                        have cT : w11.cell? ⟨GT, p, none⟩ = some (.bool false) := by
                          rw [cell_of_row w11 GT p _ _ _ HM6.out.gt, List.getElem?_toArray, vrow_get _ hp, hdp]
                        have fT : w11.frozen? ⟨GT, p, none⟩ = false := frozen_of_row w11 GT p _ _ HM6.out.gt
                        have HM7 := Lib.hid (HM6.out.flag (fl' := wl ++ [p]) (v := true) hp (fun c => by
                          by_cases e : c = p
                          · subst e; rw [if_pos rfl]; exact decide_eq_true (by simp)
                          · rw [if_neg e]; exact decide_eq_decide.2 (by simp [e])))
                        clear hs11 hk11 hdp
                        go_upto_region 35 with fail
                        obtain ⟨w12, hw12⟩ : ∃ W', w11.setCell ⟨GT, p, none⟩ (.bool true) = W' := ⟨_, rfl⟩
                        rw [hw12] at HM7 ⊢
                        clear hw12 cT fT HM6
                        have HOW := HM7.out.wt
                        rw [HLW2.out] at HOW
                        have HOW2 := Lib.hid HOW
                        have HGS : Hid (GW ≤ w12.heap.size) := Lib.hid (by
                          have h1 := HS5.out.2
                          have h2 := HS6.out.1
                          have h3 := (Array.getElem?_eq_some_iff.1 HM7.out.gt).1
                          omega)
                        clear HOW
                        go_wp2_with (at_builtin; refine wpList_appIl _ rfl (.tmp 184) (.tmp 186) 22 rfl Tryd.underlying22 GW _ wn (ints wl) (p : Int) w12.heap.size rfl (HOW2.out.alloc _) rfl (heap_alloc_new _ _) (by omega) (by have := HGS.out; simp; omega) ?_)
                        intro g13 cap13 w13 ho13 hg13 hw13
                        have hk13 : Keeps (fun q => (Value.slice aw wn cw2).ownBlock = some q) w12 w13 := ((Keeps.refl _ _).alloc _).grown hg13 (fun q e => .inl e)
                        have HM8 : Hid (MS w w13 j W M GI GO GB GT GN GW fb fo gi go vs L (upd I b Y) (upd O2 p (O2 p ||| Y)) Y (wl ++ [p]) (wl ++ [p]) (.slice (some ⟨g13, 0, none⟩) (wn + 1) cap13)) := Lib.hid (HM7.out.push hk13 (by
                          rw [List.length_append, List.length_singleton, HLW2.out, ints_app]; exact ho13))
                        clear ho13 hg13 hw13 hk13
                        go_wp2_with fail
                        go_roundg (ln - (t + 1))
                        case rel => exact ⟨_, wl ++ [p], _, wn + 1, cap13, t + 1, rfl, by go_num, by omega, rfl, Lib.hid (by rw [List.length_append, List.length_singleton, HLW2.out]), Lib.hid (HC3.out (wl ++ [p]) (by rw [if_pos ⟨HCH.out, HPW.out⟩])), Lib.hid (by rw [HTK.out]; exact HR3.out (wl ++ [p]) (by rw [if_pos ⟨HCH.out, HPW.out⟩])), HM8⟩
                        case measure => omega
                  · obtain rfl : t = ln := by omega
                    have hlt2' : ¬ (t : Int) < (t : Int) := by omega
                    have HWI3 : Hid (WInv (bls f) R O2 (upd I b Y) wl) := Lib.hid (HR2.out.fin (fun p hp he => by
                      rw [List.take_of_length_le (by have := HLN.out; omega)]
                      exact HED2.out p (by rw [bls_len, HLEN.out] at hp; exact hp) he))
                    go_wp2_with fail
                    go_roundg (cost R j O2 wl)
                    case rel => exact ⟨upd I b Y, O2, Y, wl, aw, wn, cw2, rfl, HLW2, Lib.hid rfl, HWI3, HM5⟩
                    case measure => exact HC2.out
end Go.Proofs.YtpjilcfmcbapcaaDoor
