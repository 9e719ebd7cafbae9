/- live.Dead. -/
import Derived.Test.YtpjilcfmcbapcaaDoorLvWalk
namespace Go.Proofs.YtpjilcfmcbapcaaDoor
open Go.RowKit
set_option linter.unusedVariables false
set_option linter.unusedSimpArgs false

theorem mu_le (f : Nat → Nat) (C : Nat) : ∀ n, (∀ i, i < n → f i ≤ C) → mu f n ≤ n * C
  | 0, _ => Nat.zero_le _
  | n + 1, h => by unfold mu; have h1 := mu_le f C n (fun i hi => h i (by omega)); have h2 := h n (by omega); rw [Nat.add_mul, Nat.one_mul]; omega
theorem pure_writes {op sub d : Int} (h : pureI op sub = true) : writesI op d = true := by
  unfold pureI at h
  simp only [Bool.or_eq_true, Bool.and_eq_true, beq_iff_eq] at h
  have ho : op = 1 ∨ op = 2 ∨ op = 4 ∨ op = 7 ∨ op = 8 ∨ op = 9 ∨ op = 3 := by
    rcases h with (((((h | h) | h) | h) | h) | h) | h
    · exact .inl h
    · exact .inr (.inl h)
    · exact .inr (.inr (.inl h))
    · exact .inr (.inr (.inr (.inl h)))
    · exact .inr (.inr (.inr (.inr (.inl h))))
    · exact .inr (.inr (.inr (.inr (.inr (.inl h)))))
    · exact .inr (.inr (.inr (.inr (.inr (.inr h.1.1.1.1)))))
  rcases ho with rfl | rfl | rfl | rfl | rfl | rfl | rfl <;> rfl
theorem form_def {f : Fx} {R : Nat} (h : f.formOk = true) (hR : f.regs = (R : Int)) {b : Bx} (hb : b ∈ f.bl) {x : Ix} (hx : x ∈ b.l) (hw : writesI x.op x.d = true) : 0 ≤ x.d ∧ x.d.toNat < R := by
  obtain ⟨k, hk⟩ := List.getElem?_of_mem hx
  have h1 := formRow_get (form_block h hb).2 hk
  rw [hR] at h1
  unfold Ix.formOk at h1
  rw [Bool.and_eq_true, Bool.and_eq_true] at h1
  have h2 := h1.1.2
  unfold Ix.regsOk at h2
  rw [Bool.and_eq_true, Bool.and_eq_true] at h2
  have h3 := h2.1.2
  rw [hw] at h3
  simp [hasReg] at h3
  omega
/-- How many are dead, when blocks below b and the instructions of b from k on have been shown. -/
def cnt (f : Fx) (O : Nat → Nat) (b k : Nat) : Nat := mu (fun c => deadRow (O c) (blk (bls f) c)) b + deadRow (O b) ((blk (bls f) b).drop k)
set_option maxHeartbeats 3200000 in
theorem dead1_any (w : World) (f : Fx) (FB C3 : Nat) (O : Nat → Nat) (b k g R : Nat) (B : Bx) (hf : f.at_ w FB 0) (hok : FxOk w f) (hform : f.formOk = true) (hR : f.regs = (R : Int)) (hR2 : R ≤ 100000) (hB : f.bl[b]? = some B) (hk : k < B.n)
    (hC : w.heap[C3]? = some (.cells #[.int .i64 (cnt f O b (k + 1) : Nat)] 3 (0, 0))) (hX : WdAt w g (backs (B.l.drop (k + 1)) (O b)) (wordsOf R)) (hc : cnt f O b (k + 1) ≤ 1000000000) :
    Calls Tryd.prog 26 (#[.int .i64 (b : Int), .int .i64 (k : Int), wv g (wordsOf R)] ++ #[.pointer (some ⟨FB, 0, none⟩), .pointer (some ⟨C3, 0, none⟩)]) w fun e w2 => e = .returned (.tuple #[]) ∧ w2.heap[C3]? = some (.cells #[.int .i64 (cnt f O b k : Nat)] 3 (0, 0)) ∧ Keeps (fun q => q = C3) w w2 := by
  change Calls Tryd.prog 26 #[.int .i64 (b : Int), .int .i64 (k : Int), wv g (wordsOf R), .pointer (some ⟨FB, 0, none⟩), .pointer (some ⟨C3, 0, none⟩)] w _
  have hblt : b < f.bn := by have := (List.getElem?_eq_some_iff.1 hB).1; have := hok.len; omega
  obtain ⟨bb, bo, B', hB', hba, hcB, hBA⟩ := Fx.get hok hblt
  obtain rfl : B = B' := Option.some.inj (hB.symm.trans hB')
  have c4 := hf 4 _ rfl
  rw [hba] at c4
  obtain ⟨ib, io, x, hx, hBa, hxa, hxo⟩ := Bx.get hBA hk
  have hbk := blk_get hB
  have hstep : cnt f O b k = (if pureI x.op x.sub && !(backs (B.l.drop (k + 1)) (O b)).testBit x.d.toNat then 1 else 0) + cnt f O b (k + 1) := by
    unfold cnt
    rw [hbk, deadRow_drop hx]
    omega
  have hdef : pureI x.op x.sub = true → 0 ≤ x.d ∧ x.d.toNat < R := fun h => form_def hform hR (List.mem_of_getElem? hB) (List.mem_of_getElem? hx) (pure_writes h)
  have HP := Lib.hid (pure_any x ib (io + k * 11) w hxa)
  have cx2 := hxa 2 _ rfl
  have cc := (by rw [cell_of_row w C3 0 _ _ _ hC]; rfl : w.cell? ⟨C3, 0, none⟩ = some (.int .i64 (cnt f O b (k + 1) : Nat)))
  have fc : w.frozen? ⟨C3, 0, none⟩ = false := frozen_of_row w C3 0 _ _ hC
  have hbcap := hok.cap
  have hBcap := hBA.cap
  unfold maxLen at hbcap hBcap
  have hww : R ≤ 64 * wordsOf R ∧ wordsOf R ≤ 100000 := by unfold wordsOf; omega
  obtain ⟨W, hW⟩ : ∃ W, wordsOf R = W := ⟨_, rfl⟩
  rw [hW] at hX hww ⊢
  obtain ⟨X, hXX⟩ : ∃ X, backs (B.l.drop (k + 1)) (O b) = X := ⟨_, rfl⟩
  rw [hXX] at hX hstep
  obtain ⟨N, hN⟩ : ∃ N, cnt f O b (k + 1) = N := ⟨_, rfl⟩
  rw [hN] at hC hstep cc hc
  obtain ⟨Ba, Bn, Bc, Bl⟩ := B
  simp only at hBa hk hBcap
  subst hBa
  have b0 : (0 : Int) ≤ (b : Int) := by omega
  have b1 : (b : Int) < (f.bn : Int) := by omega
  have k0 : (0 : Int) ≤ (k : Int) := by omega
  have k1 : (k : Int) < (Bn : Int) := by omega
  have HC := Lib.hid hC
  have HST := Lib.hid hstep
  have HX := Lib.hid hX
  change w.cell? ⟨bb, bo + b, none⟩ = some (.slice (some ⟨ib, io, none⟩) Bn Bc) at hcB
  have HN : Hid ((pureI x.op x.sub && !X.testBit x.d.toNat) = false → w.heap[C3]? = some (.cells #[.int .i64 (cnt f O b k : Nat)] 3 (0, 0))) := Lib.hid (fun h => by rw [hstep, h]; simpa using hC)
  have HY : Hid ((pureI x.op x.sub && !X.testBit x.d.toNat) = true → (w.setCell ⟨C3, 0, none⟩ (.int .i64 ((N : Int) + 1))).heap[C3]? = some (.cells #[.int .i64 (cnt f O b k : Nat)] 3 (0, 0))) := Lib.hid (fun h => by
    have e : ((1 + N : Nat) : Int) = (N : Int) + 1 := by omega
    rw [heap_setCell_same w C3 0 _ _ _ hC, hstep, if_pos h, e]; rfl)
  have HK : Hid (Keeps (fun q => q = C3) w (w.setCell ⟨C3, 0, none⟩ (.int .i64 ((N : Int) + 1)))) := Lib.hid ((Keeps.refl (fun q => q = C3) w).setCell (.inl rfl) _)
  clear hf hok hform hR hB hB' hba hBA hx hxa hxo hbk hstep hX hXX hC hW hN hbcap hBcap
  obtain ⟨PU, hPU⟩ : ∃ p, pureI x.op x.sub = p := ⟨_, rfl⟩
  rw [hPU] at HP HN HY hdef
  clear hPU
  cases PU with
  | false =>
    clear hdef
    go_enter Tryd.func26, Tryd.ntmps26
    go_wp2_with fail
    refine HP.out.mono ?_
    rintro e w1 ⟨rfl, rfl⟩
    go_wp2_with fail
    go_returns
    exact ⟨rfl, HN.out rfl, Keeps.refl _ _⟩
  | true =>
    obtain ⟨hd0, hdR⟩ := hdef rfl
    obtain ⟨d, hd⟩ : ∃ d : Nat, x.d = (d : Int) := ⟨x.d.toNat, by omega⟩
    rw [hd] at cx2 HN HY hdR
    rw [Int.toNat_natCast] at HN HY hdR
    have HH := Lib.hid (shas_any w g X W d HX.out (by omega) hww.2)
    clear hww hdR hdef
    obtain ⟨TB, hTB⟩ : ∃ t, X.testBit d = t := ⟨_, rfl⟩
    rw [hTB] at HH HN HY
    clear hTB hd hd0
    cases TB with
    | true =>
      go_enter Tryd.func26, Tryd.ntmps26
      go_wp2_with fail
      refine HP.out.mono ?_
      rintro e w1 ⟨rfl, rfl⟩
      go_wp2_with fail
      refine HH.out.mono ?_
      rintro e w2 ⟨rfl, rfl⟩
      go_wp2_with fail
      go_returns
      exact ⟨rfl, HN.out rfl, Keeps.refl _ _⟩
    | false =>
      have en : wrap64 ((N : Int) + 1) = (N : Int) + 1 := by unfold wrap64; omega
      go_enter Tryd.func26, Tryd.ntmps26
      go_wp2_with fail
      refine HP.out.mono ?_
      rintro e w1 ⟨rfl, rfl⟩
      go_wp2_with fail
      refine HH.out.mono ?_
      rintro e w2 ⟨rfl, rfl⟩
      go_wp2_with fail
      go_returns
      exact ⟨rfl, HY.out rfl, HK.out⟩
theorem LvR.base {w0 w1 w : World} {f : Fx} {fb fo M R : Nat} {I O : Nat → Nat} (h : LvR w1 w f fb fo M R I O) (hk : Keeps No w0 w1) : LvR w0 w f fb fo M R I O := by
  obtain ⟨GI, GO, gi, go, h1, h2, h3, h4, h5⟩ := h.lv.ex
  exact ⟨h.least, h.bd, ⟨⟨GI, GO, gi, go, h1, h2, h3, h4, fun b hb => ⟨Nat.le_trans hk.size (h5 b hb).1, Nat.le_trans hk.size (h5 b hb).2⟩⟩, Nat.le_trans hk.size h.lv.lo⟩, hk.trans h.k (fun _ _ e => e)⟩
theorem cnt_le {f : Fx} {O : Nat → Nat} {b k : Nat} (hb : ∀ c, c ≤ b → (blk (bls f) c).length ≤ 100000) (hb2 : b ≤ 1000) : cnt f O b k ≤ 1000000000 := by
  unfold cnt
  have h1 := mu_le (fun c => deadRow (O c) (blk (bls f) c)) 100000 b (fun i hi => Nat.le_trans (deadRow_le _ _) (hb i (by omega)))
  have h2 := deadRow_le (O b) ((blk (bls f) b).drop k)
  rw [List.length_drop] at h2
  have h3 := hb b (Nat.le_refl _)
  have h4 : b * 100000 ≤ 1000 * 100000 := Nat.mul_le_mul_right _ hb2
  omega
set_option maxRecDepth 100000 in
set_option maxHeartbeats 6400000 in
theorem dead_yes (f : Fx) (w : World) (hok : FxOk w f) (hm : f.may = true) (R : Nat) (hR : f.regs = (R : Int)) (hs : SmF f) (hbl : ∀ B ∈ f.bl, B.n ≤ 100000) (ht : LaidT w) :
    Calls Tryd.prog 12 #[fv f] w fun e w' => ∃ O, Least (bls f) O ∧ e = .returned (.int .i64 (mu (fun c => deadRow (O c) (blk (bls f) c)) f.bn : Nat)) ∧ Keeps No w w' := by
  obtain ⟨R2, e1, hR2, hform, hbl0⟩ := may_regs hm
  obtain rfl : R2 = R := by rw [hR] at e1; omega
  have hbn0 : 0 < f.bn := by rw [← hok.len]; exact hbl0
  have hk0 : ∀ o, Keeps No w (w.alloc o) := fun o => (Keeps.refl _ _).alloc o
  have HMA := Lib.hid (fun t => may_any f w.heap.size 0 _ (fx_boxed f w t) (hok.no (hk0 _)))
  rw [hm] at HMA
  have HLB : Hid (∀ c, c < f.bn → (blk (bls f) c).length ≤ 100000) := Lib.hid (fun c hc => by
    obtain ⟨B, hB⟩ : ∃ B, f.bl[c]? = some B := ⟨_, List.getElem?_eq_getElem (by rw [hok.len]; exact hc)⟩
    rw [blk_get hB, (hok.ok B (List.mem_of_getElem? hB)).len]
    exact hbl B (List.mem_of_getElem? hB))
  have HOK := Lib.hid hok
  have HS := Lib.hid hs
  have HT := Lib.hid ht
  have HFO := Lib.hid hform
  have HRG := Lib.hid hR
  have HB0 := Lib.hid hbn0
  unfold fv
  clear hok hm hR hs ht e1 hform hbl hbn0 hbl0 hk0
  go_enter Tryd.func12, Tryd.ntmps12
  go_wp2_with fail
  refine (HMA.out _).mono ?_
  rintro e w1 ⟨rfl, hk1⟩
  have hx1 : f.at_ w1 w.heap.size 0 := Fx.at_.no (fx_boxed f w 25) hk1
  have hkw1 : Keeps No w w1 := Keeps.trans ((Keeps.refl No w).alloc (.cells #[.string f.name, .int .i64 f.params, .int .i64 f.regs, f.slots.v, .slice f.ba f.bn f.bc, .bool f.value] 25)) hk1 (fun _ _ e => e)
  have HK1 : Hid (Keeps No w w1 ∧ f.at_ w1 w.heap.size 0) := Lib.hid ⟨hkw1, hx1⟩
  have hs1 : w.heap.size < w1.heap.size := Nat.lt_of_lt_of_le (by simp) hk1.size
  obtain ⟨FB, hFB⟩ : ∃ q, w.heap.size = q := ⟨_, rfl⟩
  rw [hFB] at hs1 ⊢
  have HS1 := Lib.hid hs1
  rw [hFB] at HK1
  have HFB := Lib.hid hFB
  clear hk1 hs1 hx1 hkw1 hFB
  go_upto_region 4 with fail
  obtain ⟨C3, hC3⟩ : ∃ q, w1.heap.size = q := ⟨_, rfl⟩
  obtain ⟨w2, hw2⟩ : ∃ W, w1.alloc (.cells #[.int .i64 0] 3) = W := ⟨_, rfl⟩
  have hk2 : Keeps No w1 w2 := by rw [← hw2]; exact (Keeps.refl _ _).alloc _
  have rC : w2.heap[C3]? = some (.cells #[.int .i64 0] 3 (0, 0)) := by rw [← hw2, ← hC3]; exact heap_alloc_new _ _
  rw [hw2, hC3]
  have HK2 := Lib.hid hk2
  have HRC := Lib.hid rC
  have HC3 := Lib.hid hC3
  have HK12 : Hid (Keeps No w w2) := Lib.hid (HK1.out.1.trans hk2 (fun _ _ e => e))
  have HOF := Lib.hid (of_any w2 f FB 0 R2 (HK1.out.2.no hk2) (HOK.out.no HK12.out) HFO.out HRG.out hR2 HS.out (HT.out.keep HK12.out (fun e => e)))
  clear hw2 hk2 rC hC3
  go_wp2_with fail
  refine HOF.out.mono ?_
  rintro e w3 ⟨M, I, O, rfl, hl⟩
  have hC3' := HC3.out
  have r3 : w3.heap[C3]? = some (.cells #[.int .i64 0] 3 (0, 0)) := (hl.k.block C3 (Array.getElem?_eq_some_iff.1 HRC.out).1 (fun e => e)).trans HRC.out
  have l3 : C3 < w3.heap.size := (Array.getElem?_eq_some_iff.1 r3).1
  have HWK := Lib.hid (walk_any w1 w3 f FB 0 M R2 I O HK1.out.2 (HOK.out.no HK1.out.1) HFO.out HRG.out hR2 HS.out (HT.out.keep HK1.out.1 (fun e => e)) (hl.base HK2.out)
    26 #[.pointer (some ⟨FB, 0, none⟩), .pointer (some ⟨C3, 0, none⟩)] (fun q => q = C3) (fun b k wx => wx.heap[C3]? = some (.cells #[.int .i64 (cnt f O b k : Nat)] 3 (0, 0)))
    (by rw [show cnt f O 0 (blk (bls f) 0).length = 0 by unfold cnt; rw [List.drop_length]; rfl]; exact r3)
    (fun b wx hb h => by rw [show cnt f O (b + 1) (blk (bls f) (b + 1)).length = cnt f O b 0 by unfold cnt; rw [List.drop_length, List.drop_zero]; rfl]; exact h)
    (fun b k wx wy h hk => (hk.block C3 (Array.getElem?_eq_some_iff.1 h).1 (fun e => by omega)).trans h)
    (fun q e => by subst e; exact ⟨by omega, l3, _, _, r3, by decide, by decide, by decide⟩)
    (fun _ _ => rfl)
    (fun b k g B wx hB hk hj hx ht hkx => (dead1_any wx f FB C3 O b k g R2 B (HK1.out.2.no hkx) ((HOK.out.no HK1.out.1).no hkx) HFO.out HRG.out hR2 hB hk hj hx (cnt_le (fun c hc => HLB.out c (by
      have h1 := (List.getElem?_eq_some_iff.1 hB).1
      have h2 := HOK.out.len
      omega)) (by
      have h1 := (List.getElem?_eq_some_iff.1 hB).1
      have h2 := HOK.out.len
      have h3 := HS.out.bn
      omega))).mono (fun e wy h => h)))
  have HLE := Lib.hid hl.least
  clear hl r3 l3 hC3' HOF
  go_wp2_with fail
  refine HWK.out.mono ?_
  rintro e w4 ⟨rfl, ⟨p, hp⟩, hk4⟩
  have hp2 : p + 1 = f.bn ∧ w4.heap[C3]? = some (.cells #[.int .i64 (cnt f O p 0 : Nat)] 3 (0, 0)) := hp.elim id (fun h => absurd h (by have := HB0.out; omega))
  have cc : w4.cell? ⟨C3, 0, none⟩ = some (.int .i64 (cnt f O p 0 : Nat)) := by rw [cell_of_row w4 C3 0 _ _ _ hp2.2]; rfl
  have HCT : Hid (cnt f O p 0 = mu (fun c => deadRow (O c) (blk (bls f) c)) f.bn) := Lib.hid (by rw [← hp2.1]; unfold cnt; rw [List.drop_zero]; rfl)
  have HK4 := Lib.hid hk4
  clear hp hp2 hk4 HWK
  go_wp2_with fail
  go_returns
  exact ⟨O, HLE.out, ri rfl (by rw [HCT.out]), HK1.out.1.trans HK4.out (fun _ _ e => e)⟩
theorem dead_no (f : Fx) (w : World) (hok : FxOk w f) (hm : f.may = false) :
    Calls Tryd.prog 12 #[fv f] w fun e w' => e = .returned (.int .i64 0) ∧ Keeps No w w' := by
  have HMA := Lib.hid (fun t => may_any f w.heap.size 0 _ (fx_boxed f w t) (hok.no ((Keeps.refl _ _).alloc _)))
  rw [hm] at HMA
  clear hok hm
  unfold fv
  go_enter Tryd.func12, Tryd.ntmps12
  go_wp2_with fail
  refine (HMA.out _).mono ?_
  rintro e w1 ⟨rfl, hk1⟩
  have HK1 := Lib.hid hk1
  clear hk1
  go_wp2_with fail
  go_returns
  exact ⟨rfl, ((Keeps.refl _ _).alloc _).trans HK1.out (fun _ _ e => e)⟩
end Go.Proofs.YtpjilcfmcbapcaaDoor
