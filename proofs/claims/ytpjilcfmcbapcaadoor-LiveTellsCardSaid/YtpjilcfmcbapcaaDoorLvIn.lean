/- live.In, live.Out. -/
import Derived.Test.YtpjilcfmcbapcaaDoorLvLive
namespace Go.Proofs.YtpjilcfmcbapcaaDoor
open Go.RowKit
set_option linter.unusedVariables false
set_option linter.unusedSimpArgs false

theorem fx_boxed (f : Fx) (w : World) (t : TypeId) : f.at_ (w.alloc (.cells #[.string f.name, .int .i64 f.params, .int .i64 f.regs, f.slots.v, .slice f.ba f.bn f.bc, .bool f.value] t)) w.heap.size 0 := fun j v hj => by
  rw [World.cell?_alloc_at _ _ _ _ rfl, Nat.zero_add]
  rw [List.getElem?_toArray]; exact hj
set_option maxRecDepth 100000 in
set_option maxHeartbeats 3200000 in
theorem in_yes (f : Fx) (w : World) (hok : FxOk w f) (hm : f.may = true) (R : Nat) (hR : f.regs = (R : Int)) (hs : SmF f) (ht : LaidT w) :
    Calls Tryd.prog 9 #[fv f] w fun e w' => ∃ v O, e = .returned v ∧ Least (bls f) O ∧ (∀ b, b < f.bn → O b < 2 ^ R) ∧ LL w.heap.size w' v ((List.range f.bn).map (fun b => listB (backs (blk (bls f) b) (O b)) R)) ∧ Keeps No w w' := by
  obtain ⟨R2, e1, hR2, hform, hbl⟩ := may_regs hm
  obtain rfl : R2 = R := by rw [hR] at e1; omega
  have hk0 : ∀ o, Keeps No w (w.alloc o) := fun o => (Keeps.refl _ _).alloc o
  have HMA := Lib.hid (fun t => may_any f w.heap.size 0 _ (fx_boxed f w t) (hok.no (hk0 _)))
  have HOF := Lib.hid (fun t w1 (hk : Keeps No (w.alloc (.cells #[.string f.name, .int .i64 f.params, .int .i64 f.regs, f.slots.v, .slice f.ba f.bn f.bc, .bool f.value] t)) w1) => of_any w1 f w.heap.size 0 R2 ((fx_boxed f w t).no hk) ((hok.no (hk0 _)).no hk) hform hR hR2 hs (ht.keep ((hk0 _).trans hk (fun _ _ e => e)) (fun e => e)))
  rw [hm] at HMA
  have HS := Lib.hid hs
  have HT := Lib.hid ht
  have HW : Hid (R2 ≤ 64 * wordsOf R2 ∧ wordsOf R2 ≤ 10000) := Lib.hid (by unfold wordsOf; omega)
  clear hok hm hR hs ht e1 hform hbl hk0
  unfold fv
  go_enter Tryd.func9, Tryd.ntmps9
  go_wp2_with fail
  refine (HMA.out _).mono ?_
  rintro e w1 ⟨rfl, hk1⟩
  have HK1 := Lib.hid hk1
  clear hk1
  go_wp2_with fail
  refine (HOF.out _ w1 HK1.out).mono ?_
  rintro e w2 ⟨M, I, O, rfl, hl⟩
  have HL := Lib.hid hl
  obtain ⟨GI, GO, gi, go, hM, hGI, hGO, hq, hls⟩ := hl.lv.ex
  have c0 : w2.cell? ⟨M, 0, none⟩ = some (.slice (some ⟨GI, 0, none⟩) f.bn f.bn) := by rw [cell_of_row w2 M 0 _ _ _ hM]; rfl
  have HK2 : Hid (Keeps No w w2) := Lib.hid ((((Keeps.refl _ _).alloc _).trans HK1.out (fun _ _ e => e)).trans hl.k (fun _ _ e => e))
  have HLI := Lib.hid (lists_any w2 GI f.bn (wordsOf R2) R2 gi I HW.out.1 HW.out.2 HS.out.bn hGI (fun b hb => ⟨hq.di b hb, (hl.bd b hb).2.2⟩) (HT.out.keep HK2.out (fun e => e)))
  clear hl hM hGI hGO hq hls
  go_wp2_with fail
  refine HLI.out.mono ?_
  rintro e w3 ⟨v, rfl, hv, hk3⟩
  have HV := Lib.hid hv
  have HK3 := Lib.hid hk3
  clear hv hk3
  go_wp2_with fail
  go_returns
  refine ⟨v, O, rfl, HL.out.least, fun b hb => (HL.out.bd b hb).2.1, ?_, HK2.out.trans HK3.out (fun _ _ e => e)⟩
  have e : (List.range f.bn).map (fun b => listB (I b) R2) = (List.range f.bn).map (fun b => listB (backs (blk (bls f) b) (O b)) R2) := List.map_congr_left (fun b hb => by
    rw [List.mem_range] at hb; rw [(HL.out.bd b hb).1])
  rw [← e]
  obtain ⟨vs, h1, h2⟩ := HV.out.ex
  exact ⟨⟨vs, own_mono h1 HK2.out.size, fun i l hi => by obtain ⟨u, h3, h4⟩ := h2 i l hi; exact ⟨u, h3, own_mono h4 HK2.out.size⟩⟩⟩
set_option maxHeartbeats 3200000 in
theorem in_no (f : Fx) (w : World) (hok : FxOk w f) (hm : f.may = false) :
    Calls Tryd.prog 9 #[fv f] w fun e w' => e = .returned (.slice none 0 0) ∧ Keeps No w w' := by
  have HMA := Lib.hid (fun t => may_any f w.heap.size 0 _ (fx_boxed f w t) (hok.no ((Keeps.refl _ _).alloc _)))
  rw [hm] at HMA
  clear hok hm
  unfold fv
  go_enter Tryd.func9, Tryd.ntmps9
  go_wp2_with fail
  refine (HMA.out _).mono ?_
  rintro e w1 ⟨rfl, hk1⟩
  have HK1 := Lib.hid hk1
  clear hk1
  go_wp2_with fail
  go_returns
  exact ⟨rfl, ((Keeps.refl _ _).alloc _).trans HK1.out (fun _ _ e => e)⟩
set_option maxRecDepth 100000 in
set_option maxHeartbeats 3200000 in
theorem out_yes (f : Fx) (w : World) (hok : FxOk w f) (hm : f.may = true) (R : Nat) (hR : f.regs = (R : Int)) (hs : SmF f) (ht : LaidT w) :
    Calls Tryd.prog 10 #[fv f] w fun e w' => ∃ v O, e = .returned v ∧ Least (bls f) O ∧ (∀ b, b < f.bn → O b < 2 ^ R) ∧ LL w.heap.size w' v ((List.range f.bn).map (fun b => listB (O b) R)) ∧ Keeps No w w' := by
  obtain ⟨R2, e1, hR2, hform, hbl⟩ := may_regs hm
  obtain rfl : R2 = R := by rw [hR] at e1; omega
  have hk0 : ∀ o, Keeps No w (w.alloc o) := fun o => (Keeps.refl _ _).alloc o
  have HMA := Lib.hid (fun t => may_any f w.heap.size 0 _ (fx_boxed f w t) (hok.no (hk0 _)))
  have HOF := Lib.hid (fun t w1 (hk : Keeps No (w.alloc (.cells #[.string f.name, .int .i64 f.params, .int .i64 f.regs, f.slots.v, .slice f.ba f.bn f.bc, .bool f.value] t)) w1) => of_any w1 f w.heap.size 0 R2 ((fx_boxed f w t).no hk) ((hok.no (hk0 _)).no hk) hform hR hR2 hs (ht.keep ((hk0 _).trans hk (fun _ _ e => e)) (fun e => e)))
  rw [hm] at HMA
  have HS := Lib.hid hs
  have HT := Lib.hid ht
  have HW : Hid (R2 ≤ 64 * wordsOf R2 ∧ wordsOf R2 ≤ 10000) := Lib.hid (by unfold wordsOf; omega)
  clear hok hm hR hs ht e1 hform hbl hk0
  unfold fv
  go_enter Tryd.func10, Tryd.ntmps10
  go_wp2_with fail
  refine (HMA.out _).mono ?_
  rintro e w1 ⟨rfl, hk1⟩
  have HK1 := Lib.hid hk1
  clear hk1
  go_wp2_with fail
  refine (HOF.out _ w1 HK1.out).mono ?_
  rintro e w2 ⟨M, I, O, rfl, hl⟩
  have HL := Lib.hid hl
  obtain ⟨GI, GO, gi, go, hM, hGI, hGO, hq, hls⟩ := hl.lv.ex
  have c0 : w2.cell? ⟨M, 1, none⟩ = some (.slice (some ⟨GO, 0, none⟩) f.bn f.bn) := by rw [cell_of_row w2 M 1 _ _ _ hM]; rfl
  have HK2 : Hid (Keeps No w w2) := Lib.hid ((((Keeps.refl _ _).alloc _).trans HK1.out (fun _ _ e => e)).trans hl.k (fun _ _ e => e))
  have HLI := Lib.hid (lists_any w2 GO f.bn (wordsOf R2) R2 go O HW.out.1 HW.out.2 HS.out.bn hGO (fun b hb => ⟨hq.dq b hb, (hl.bd b hb).2.1⟩) (HT.out.keep HK2.out (fun e => e)))
  clear hl hM hGI hGO hq hls
  go_wp2_with fail
  refine HLI.out.mono ?_
  rintro e w3 ⟨v, rfl, hv, hk3⟩
  have HV := Lib.hid hv
  have HK3 := Lib.hid hk3
  clear hv hk3
  go_wp2_with fail
  go_returns
  refine ⟨v, O, rfl, HL.out.least, fun b hb => (HL.out.bd b hb).2.1, ?_, HK2.out.trans HK3.out (fun _ _ e => e)⟩
  have e : (List.range f.bn).map (fun b => listB (O b) R2) = (List.range f.bn).map (fun b => listB (O b) R2) := List.map_congr_left (fun b hb => by
    rfl)
  rw [← e]
  obtain ⟨vs, h1, h2⟩ := HV.out.ex
  exact ⟨⟨vs, own_mono h1 HK2.out.size, fun i l hi => by obtain ⟨u, h3, h4⟩ := h2 i l hi; exact ⟨u, h3, own_mono h4 HK2.out.size⟩⟩⟩
set_option maxHeartbeats 3200000 in
theorem out_no (f : Fx) (w : World) (hok : FxOk w f) (hm : f.may = false) :
    Calls Tryd.prog 10 #[fv f] w fun e w' => e = .returned (.slice none 0 0) ∧ Keeps No w w' := by
  have HMA := Lib.hid (fun t => may_any f w.heap.size 0 _ (fx_boxed f w t) (hok.no ((Keeps.refl _ _).alloc _)))
  rw [hm] at HMA
  clear hok hm
  unfold fv
  go_enter Tryd.func10, Tryd.ntmps10
  go_wp2_with fail
  refine (HMA.out _).mono ?_
  rintro e w1 ⟨rfl, hk1⟩
  have HK1 := Lib.hid hk1
  clear hk1
  go_wp2_with fail
  go_returns
  exact ⟨rfl, ((Keeps.refl _ _).alloc _).trans HK1.out (fun _ _ e => e)⟩
end Go.Proofs.YtpjilcfmcbapcaaDoor
