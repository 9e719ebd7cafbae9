/- The law LiveRow: its walk. -/
import Derived.Test.YtpjilcfmcbapcaaDoorLvRowA
import Derived.Deep.DeepCutAuto
namespace Go.Proofs.YtpjilcfmcbapcaaDoor
open Go.RowKit
set_option linter.unusedVariables false
set_option linter.unusedSimpArgs false

set_option maxRecDepth 100000 in
set_option maxHeartbeats 12800000 in
theorem row_law (s : Sl) (w : World) (hs : SlAt w s) (ht : LaidT w) : Calls Tryd.prog 4 #[s.v] w fun e w' => e = .returned (.bool true) ∧ Keeps No w w' := by
  have HS := Lib.hid hs
  have HT := Lib.hid ht
  have HAW := Lib.hid (fun (W : World) (hk : Keeps No w W) => awake_any W (ht.keep hk (fun e => e)))
  have hcap := hs.cap
  unfold maxLen at hcap
  obtain ⟨sa, N, sc, sl⟩ := s
  simp only at hcap
  clear hs ht
  dsimp only [Sl.v]
  go_enter Tryd.func4, Tryd.ntmps4
  by_cases hN : (N : Int) > 20
  · go_wp2_with fail
    refine (HAW.out w (Keeps.refl _ _)).mono ?_
    rintro e w1 ⟨rfl, hk⟩
    have HK := Lib.hid hk
    clear hk
    go_wp2_with fail
    go_returns
    exact ⟨rfl, HK.out⟩
  have hN20 : N ≤ 20 := by omega
  go_wp2_with fail
  obtain ⟨wA, hwA⟩ : ∃ W, (w.alloc (.cells #[.slice none 0 0] 30)).alloc (.cells #[.string { data := #[] }, .int .i64 2, .int .i64 24, .slice none 0 0, .slice (some ⟨w.heap.size, 0, none⟩) 1 1, .bool true] 25) = W := ⟨_, rfl⟩
  have hLR : LR w wA w.heap.size (w.heap.size + 1) [] (bins 0 []) (.slice none 0 0) (.slice none 0 0) := by
    have h := two_alloc w (.cells #[.slice none 0 0] 30) (.cells #[.string { data := #[] }, .int .i64 2, .int .i64 24, .slice none 0 0, .slice (some ⟨w.heap.size, 0, none⟩) 1 1, .bool true] 25)
    rw [hwA] at h
    exact ⟨by rw [← hwA]; exact ((Keeps.refl _ _).alloc _).alloc _, h.2, h.1, World.ownsRow_nil _ _ _ _, World.ownsRow_nil _ _ _ _, Nat.le_refl _, Nat.lt_succ_self _⟩
  rw [hwA]
  obtain ⟨FB, hFB⟩ : ∃ q, w.heap.size = q := ⟨_, rfl⟩
  rw [hFB] at hLR ⊢
  have HFB := Lib.hid hFB
  have HLR := Lib.hid hLR
  clear hwA hLR hFB
  go_loopg [4, 5] N (fun k v u wr => ∃ (i : Nat) (ps : List (Nat × Nat)) (ins : Value), u = .int .i64 (i : Int) ∧ i ≤ N ∧ k = N - i ∧ Hid (ps.length = i ∧ ∀ (k : Nat) (p : Nat × Nat), ps[k]? = some p → p.1 < k + 2 ∧ p.2 < k + 2) ∧ Hid (LR w wr FB (FB + 1) ps (bins 0 ps) v ins))
  case atStart => exact ⟨0, [], .slice none 0 0, rfl, Nat.zero_le _, rfl, Lib.hid ⟨rfl, fun k p h => by cases h⟩, HLR⟩
  case round =>
    obtain ⟨i, ps, ins, rfl, hi, hg, HPS, HL⟩ := hrel
    by_cases hlt : i < N
    · have hlt' : (i : Int) < (N : Int) := by omega
      -- DEV<
      have i0 : (0 : Int) ≤ (i : Int) := by omega
      obtain ⟨pb, po, z, hz, hsa, hcz⟩ := HS.out.get hlt
      simp only at hz hsa
      subst hsa
      have hzb := HS.out.bd z (List.mem_of_getElem? hz)
      have hzd : I64 (z.tdiv 100) := by
        unfold I64 at *
        rcases Int.le_total 0 z with h | h
        · rw [Int.tdiv_eq_ediv_of_nonneg h]; omega
        · obtain ⟨m, rfl⟩ : ∃ m : Int, z = -m := ⟨-z, by omega⟩
          rw [Int.neg_tdiv, Int.tdiv_eq_ediv_of_nonneg (by omega)]; omega
      obtain ⟨a, ha, HA⟩ := low_nat z (i + 2) hzb ⟨by omega, by omega⟩
      obtain ⟨D, hD⟩ : ∃ D, wrap64 (z.tdiv 100) = D := ⟨_, rfl⟩
      have hDb : I64 D := by
        have e : wrap64 (z.tdiv 100) = z.tdiv 100 := by unfold I64 at hzd; unfold wrap64; omega
        rw [← hD, e]; exact hzd
      obtain ⟨b, hb, HB⟩ := low_nat D (i + 2) hDb ⟨by omega, by omega⟩
      have e2 : ((i + 2 : Nat) : Int) = (i : Int) + 2 := by omega
      rw [e2] at HA HB
      have HA2 := Lib.hid HA
      have HB2 := Lib.hid HB
      have pz : ∀ u : KW wr, u.W.cell? ⟨pb, po + i, none⟩ = some (.int .i64 z) := fun u => u.cell (HL.out.k.cell0 hcz)
      have hne : Nonempty (KW wr) := ⟨KW.of _⟩
      clear hz hzb hzd HA HB e2 hcz hDb
      go_wp2_with fail
      refine wp_region_class (C := fun W => ∃ u : KW wr, W = u.W) (by kernel_rfl) (by kernel_rfl) ⟨⟨World.drew _, (Keeps.refl _ _).drew⟩, rfl⟩ ?_
      repeat (go_big_quiet_step (first | (go_at_call 8; with_reducible refine kw_call _ (HA2.out _)) | (go_at_call 8; with_reducible refine kw_call _ (HB2.out _))))
      refine wpQuiet_nil ?_
      rintro _ ⟨T, rfl⟩
      have hk3 := T.h
      obtain ⟨w3, hw3⟩ : ∃ W, T.W = W := ⟨_, rfl⟩
      rw [hw3] at hk3 ⊢
      have HL3 := Lib.hid (HL.out.no hk3)
      clear hw3 pz hne hk3 T HA2 HB2
      have hll := HPS.out.1
      have HFRW : Hid (w3.ownsRow (FB + 1 + 1) 33 2 u4 i (prow ps)) := Lib.hid (by have h := HL3.out.fr; rw [hll] at h; exact h)
      have HSZ : Hid (FB + 1 + 1 ≤ w3.heap.size) := Lib.hid (Array.getElem?_eq_some_iff.1 HL3.out.hv).1
      clear hll
      go_wp2_with (at_builtin; refine wpList_appP _ rfl (.tmp 43) (.tmp 47) 31 rfl Tryd.underlying31 (FB + 1 + 1) u4 i ps (a, b) w3.heap.size rfl (HFRW.out.alloc _) rfl (heap_alloc_new _ _) (by omega) (by have := HSZ.out; simp; omega) ?_)
      intro g4 cap4 w4 ho4 hg4
      have hk4 : Keeps (fun q => u4.ownBlock = some q) w3 w4 := ((Keeps.refl _ _).alloc _).grown hg4 (fun q e => .inl e)
      have HPS4 : Hid ((ps ++ [(a, b)]).length = i + 1 ∧ ∀ (k : Nat) (p : Nat × Nat), (ps ++ [(a, b)])[k]? = some p → p.1 < k + 2 ∧ p.2 < k + 2) := Lib.hid ⟨by rw [List.length_append, HPS.out.1]; rfl, fun k p hp => by
        by_cases hk : k < ps.length
        · rw [List.getElem?_append_left hk] at hp
          exact HPS.out.2 k p hp
        · have hk2 := (List.getElem?_eq_some_iff.1 hp).1
          rw [List.length_append, List.length_singleton] at hk2
          obtain rfl : k = ps.length := by omega
          rw [List.getElem?_append_right (Nat.le_refl _), Nat.sub_self] at hp
          obtain rfl : (a, b) = p := by simpa using hp
          have := HPS.out.1
          simp only
          omega⟩
      have HL4 : Hid (LR w w4 FB (FB + 1) (ps ++ [(a, b)]) (bins 0 ps) (.slice (some ⟨g4, 0, none⟩) (i + 1) cap4) ins) := Lib.hid (HL3.out.app_fr hk4 (by rw [HPS4.out.1]; exact ho4))
      clear ho4 hg4 hk4 HL3 HFRW HSZ
      go_wp2_with fail
      have hio := fun q (e : ins.ownBlock = some q) => own_lo HL4.out.ins q e
      have p4 : ∀ u : KS (fun q => ins.ownBlock = some q) w4, u.W.cell? ⟨FB + 1, 4, none⟩ = some (.slice (some ⟨FB, 0, none⟩) 1 1) := fun u => u.cell (by rw [cell_of_row w4 _ 4 _ _ _ HL4.out.hv]; rfl) (fun e => by have := hio _ e; simp only at this; omega)
      have pB : ∀ u : KS (fun q => ins.ownBlock = some q) w4, u.W.cell? ⟨FB, 0, none⟩ = some ins := fun u => u.cell (by rw [cell_of_row w4 _ 0 _ _ _ HL4.out.hb]; rfl) (fun e => by have := hio _ e; simp only at this; omega)
      have hne : Nonempty (KS (fun q => ins.ownBlock = some q) w4) := ⟨⟨w4, Keeps.refl _ _⟩⟩
      clear hio
      refine Mix.wp_region_mix (fun W' => ∃ u : KS (fun q => ins.ownBlock = some q) w4, W' = u.W) [16] (by kernel_rfl) ?_
      have HV0 : Hid (Keeps No w4 w4.drew) := Lib.hid ((Keeps.refl _ w4).drew)
      generalize w4.drew = v0 at HV0 ⊢
      have HC0 : Hid (∃ u : KS (fun q => ins.ownBlock = some q) w4, v0 = u.W) := Lib.hid ⟨⟨v0, HV0.out.mono (fun _ _ e => e.elim)⟩, rfl⟩
      refine Mix.mix_seg 0 12 5 (by kernel_rfl) (by kernel_rfl) rfl rfl HC0.out ?_
      simp only [List.drop_succ_cons, List.drop_zero, List.take_succ_cons, List.take_zero]
      repeat (go_big_quiet_step (fail))
      refine wpQuiet_nil ?_
      clear hne p4 pB
      refine Mix.mix_one 12 4 (by kernel_rfl) rfl rfl ?_
      simp only [List.drop_succ_cons, List.drop_zero, List.take_succ_cons, List.take_zero]
      go_wp2_with fail
      have hbl : (bins 0 ps).length = i := by rw [bins_len]; exact HPS.out.1
      have HXB : Hid ((v0.alloc (.cells #[.int .i64 3, .int .i64 1, .int .i64 ((i : Int) + 2), .int .i64 (a : Int), .int .i64 (b : Int), .int .i64 0, .int .i64 0, .bool false, .slice none 0 0, .slice none 0 0, .slice none 0 0] 38)).heap[v0.heap.size]? = some (.cells (xrow [bx i a b]).toArray 38 (0, 0))) := Lib.hid (heap_alloc_new _ _)
      have HIO : Hid (v0.ownsRow (FB + 1 + 1) 38 11 ins i (xrow (bins 0 ps))) := Lib.hid (by
        have h := HL4.out.ins
        rw [hbl] at h
        exact own_kept h (fun q hq => HV0.out.block q (own_ltb h hq) (fun e => e)))
      have HSZ : Hid (FB + 1 + 1 ≤ v0.heap.size) := Lib.hid (Nat.le_trans (Array.getElem?_eq_some_iff.1 HL4.out.hv).1 HV0.out.size)
      obtain ⟨v1, hv1⟩ : ∃ W, v0.alloc (.cells #[.int .i64 3, .int .i64 1, .int .i64 ((i : Int) + 2), .int .i64 (a : Int), .int .i64 (b : Int), .int .i64 0, .int .i64 0, .bool false, .slice none 0 0, .slice none 0 0, .slice none 0 0] 38) = W := ⟨_, rfl⟩
      have hkv1 : Keeps No v0 v1 := by rw [← hv1]; exact (Keeps.refl _ _).alloc _
      rw [hv1] at HXB ⊢
      have HKV1 := Lib.hid hkv1
      have HIO1 : Hid (v1.ownsRow (FB + 1 + 1) 38 11 ins i (xrow (bins 0 ps))) := Lib.hid (own_kept HIO.out (fun q hq => hkv1.block q (own_ltb HIO.out hq) (fun e => e)))
      clear hv1 hkv1 hbl
      refine ⟨.inr ⟨⟨v1, (HV0.out.trans HKV1.out (fun _ _ e => e)).mono (fun _ _ e => e.elim)⟩, rfl⟩, ?_⟩
      refine Mix.mix_one 13 3 (by kernel_rfl) rfl rfl ?_
      simp only [List.drop_succ_cons, List.drop_zero, List.take_succ_cons, List.take_zero]
      go_wp2_with (at_builtin; refine wpList_appX1 _ rfl (.tmp 55) (.tmp 61) 28 rfl Tryd.underlying28 (FB + 1 + 1) ins i (bins 0 ps) (bx i a b) v0.heap.size rfl HIO1.out rfl HXB.out (by omega) (Nat.le_trans HSZ.out HKV1.out.size) ?_)
      intro g6 cap6 w6 ho6 hg6
      have hk6 : Keeps (fun q => ins.ownBlock = some q) w4 w6 := ((HV0.out.trans HKV1.out (fun _ _ e => e)).mono (fun _ _ e => e.elim)).trans ((Keeps.refl (fun q => ins.ownBlock = some q) v1).grown hg6 (fun q e => .inl e)) (fun _ _ e => e)
      have HL6 : Hid (LR w (w6.setCell ⟨FB, 0, none⟩ (.slice (some ⟨g6, 0, none⟩) (i + 1) cap6)) FB (FB + 1) (ps ++ [(a, b)]) (bins 0 (ps ++ [(a, b)])) (.slice (some ⟨g4, 0, none⟩) (i + 1) cap4) (.slice (some ⟨g6, 0, none⟩) (i + 1) cap6)) := Lib.hid (HL4.out.app_ins hk6 (by
        rw [bins_len, HPS4.out.1, bins_snoc, Nat.zero_add, HPS.out.1]; exact ho6))
      have rB : w6.heap[FB]? = some (.cells #[ins] 30 (0, 0)) := (hk6.block FB (Array.getElem?_eq_some_iff.1 HL4.out.hb).1 (fun e => by have := own_lo HL4.out.ins _ e; omega)).trans HL4.out.hb
      have cB : w6.cell? ⟨FB, 0, none⟩ = some ins := by rw [cell_of_row w6 FB 0 _ _ _ rB]; rfl
      have fB : w6.frozen? ⟨FB, 0, none⟩ = false := frozen_of_row w6 FB 0 _ _ rB
      have HK6 := Lib.hid hk6
      clear ho6 hg6 hk6 rB HIO HIO1 HXB HSZ HKV1
      go_wp2_with fail
      refine ⟨.inr ⟨⟨w6, HK6.out⟩, rfl⟩, ?_⟩
      refine Mix.mix_one 14 2 (by kernel_rfl) rfl rfl ?_
      simp only [List.drop_succ_cons, List.drop_zero, List.take_succ_cons, List.take_zero]
      go_wp2_with fail
      refine ⟨.inr ⟨⟨w6, HK6.out⟩, rfl⟩, ?_⟩
      refine Mix.mix_one 15 1 (by kernel_rfl) rfl rfl ?_
      simp only [List.drop_succ_cons, List.drop_zero, List.take_succ_cons, List.take_zero]
      go_wp2_with fail
      refine ⟨.inr ⟨⟨w6, HK6.out⟩, rfl⟩, ?_⟩
      refine Mix.mix_one 16 0 (by kernel_rfl) rfl rfl ?_
      simp only [List.drop_succ_cons, List.drop_zero, List.take_succ_cons, List.take_zero]
      go_wp2_with fail
      refine ⟨.inl ⟨rfl, rfl⟩, ?_⟩
      refine Mix.mix_end (by kernel_rfl) ?_
      go_wp2_with fail
      go_roundg (N - (i + 1))
      case rel => exact ⟨i + 1, ps ++ [(a, b)], _, by go_num, by omega, rfl, HPS4, HL6⟩
      case measure => omega
      -- DEV>
    · obtain rfl : i = N := by omega
      have hlt' : ¬ (i : Int) < (i : Int) := by omega
      go_wp2_with fail
      obtain ⟨w4, hw4⟩ : ∃ W', W' = wr := ⟨_, rfl⟩
      subst hw4
      have hio := fun q (e : ins.ownBlock = some q) => own_lo HL.out.ins q e
      have p4 : ∀ u : KS (fun q => ins.ownBlock = some q) w4, u.W.cell? ⟨FB + 1, 4, none⟩ = some (.slice (some ⟨FB, 0, none⟩) 1 1) := fun u => u.cell (by rw [cell_of_row w4 _ 4 _ _ _ HL.out.hv]; rfl) (fun e => by have := hio _ e; simp only at this; omega)
      have pB : ∀ u : KS (fun q => ins.ownBlock = some q) w4, u.W.cell? ⟨FB, 0, none⟩ = some ins := fun u => u.cell (by rw [cell_of_row w4 _ 0 _ _ _ HL.out.hb]; rfl) (fun e => by have := hio _ e; simp only at this; omega)
      have hne : Nonempty (KS (fun q => ins.ownBlock = some q) w4) := ⟨⟨w4, Keeps.refl _ _⟩⟩
      clear hio
      refine Mix.wp_region_mix (fun W' => ∃ u : KS (fun q => ins.ownBlock = some q) w4, W' = u.W) [13] (by kernel_rfl) ?_
      have HV0 : Hid (Keeps No w4 w4.drew) := Lib.hid ((Keeps.refl _ w4).drew)
      generalize w4.drew = v0 at HV0 ⊢
      have HC0 : Hid (∃ u : KS (fun q => ins.ownBlock = some q) w4, v0 = u.W) := Lib.hid ⟨⟨v0, HV0.out.mono (fun _ _ e => e.elim)⟩, rfl⟩
      refine Mix.mix_seg 0 9 5 (by kernel_rfl) (by kernel_rfl) rfl rfl HC0.out ?_
      simp only [List.drop_succ_cons, List.drop_zero, List.take_succ_cons, List.take_zero]
      repeat (go_big_quiet_step (fail))
      refine wpQuiet_nil ?_
      clear hne p4 pB
      refine Mix.mix_one 9 4 (by kernel_rfl) rfl rfl ?_
      simp only [List.drop_succ_cons, List.drop_zero, List.take_succ_cons, List.take_zero]
      go_wp2_with fail
      have hbl : (bins 0 ps).length = i := by rw [bins_len]; exact HPS.out.1
      have HXB : Hid ((v0.alloc (.cells #[.int .i64 17, .int .i64 0, .int .i64 0, .int .i64 ((i : Int) + 1), .int .i64 0, .int .i64 0, .int .i64 0, .bool false, .slice none 0 0, .slice none 0 0, .slice none 0 0] 38)).heap[v0.heap.size]? = some (.cells (xrow [rx i]).toArray 38 (0, 0))) := Lib.hid (heap_alloc_new _ _)
      have HIO : Hid (v0.ownsRow (FB + 1 + 1) 38 11 ins i (xrow (bins 0 ps))) := Lib.hid (by
        have h := HL.out.ins
        rw [hbl] at h
        exact own_kept h (fun q hq => HV0.out.block q (own_ltb h hq) (fun e => e)))
      have HSZ : Hid (FB + 1 + 1 ≤ v0.heap.size) := Lib.hid (Nat.le_trans (Array.getElem?_eq_some_iff.1 HL.out.hv).1 HV0.out.size)
      obtain ⟨v1, hv1⟩ : ∃ W, v0.alloc (.cells #[.int .i64 17, .int .i64 0, .int .i64 0, .int .i64 ((i : Int) + 1), .int .i64 0, .int .i64 0, .int .i64 0, .bool false, .slice none 0 0, .slice none 0 0, .slice none 0 0] 38) = W := ⟨_, rfl⟩
      have hkv1 : Keeps No v0 v1 := by rw [← hv1]; exact (Keeps.refl _ _).alloc _
      rw [hv1] at HXB ⊢
      have HKV1 := Lib.hid hkv1
      have HIO1 : Hid (v1.ownsRow (FB + 1 + 1) 38 11 ins i (xrow (bins 0 ps))) := Lib.hid (own_kept HIO.out (fun q hq => hkv1.block q (own_ltb HIO.out hq) (fun e => e)))
      clear hv1 hkv1 hbl
      refine ⟨.inr ⟨⟨v1, (HV0.out.trans HKV1.out (fun _ _ e => e)).mono (fun _ _ e => e.elim)⟩, rfl⟩, ?_⟩
      refine Mix.mix_one 10 3 (by kernel_rfl) rfl rfl ?_
      simp only [List.drop_succ_cons, List.drop_zero, List.take_succ_cons, List.take_zero]
      go_wp2_with (at_builtin; refine wpList_appX1 _ rfl (.tmp 74) (.tmp 77) 28 rfl Tryd.underlying28 (FB + 1 + 1) ins i (bins 0 ps) (rx i) v0.heap.size rfl HIO1.out rfl HXB.out (by omega) (Nat.le_trans HSZ.out HKV1.out.size) ?_)
      intro g6 cap6 w6 ho6 hg6
      have hk6 : Keeps (fun q => ins.ownBlock = some q) w4 w6 := ((HV0.out.trans HKV1.out (fun _ _ e => e)).mono (fun _ _ e => e.elim)).trans ((Keeps.refl (fun q => ins.ownBlock = some q) v1).grown hg6 (fun q e => .inl e)) (fun _ _ e => e)
      have HL6 : Hid (LR w (w6.setCell ⟨FB, 0, none⟩ (.slice (some ⟨g6, 0, none⟩) (i + 1) cap6)) FB (FB + 1) ps (code ps) u4 (.slice (some ⟨g6, 0, none⟩) (i + 1) cap6)) := Lib.hid (HL.out.app_ins hk6 (by
        rw [code_len, HPS.out.1]; unfold code; rw [HPS.out.1]; exact ho6))
      have rB : w6.heap[FB]? = some (.cells #[ins] 30 (0, 0)) := (hk6.block FB (Array.getElem?_eq_some_iff.1 HL.out.hb).1 (fun e => by have := own_lo HL.out.ins _ e; omega)).trans HL.out.hb
      have cB : w6.cell? ⟨FB, 0, none⟩ = some ins := by rw [cell_of_row w6 FB 0 _ _ _ rB]; rfl
      have fB : w6.frozen? ⟨FB, 0, none⟩ = false := frozen_of_row w6 FB 0 _ _ rB
      have HK6 := Lib.hid hk6
      clear ho6 hg6 hk6 rB HIO HIO1 HXB HSZ HKV1
      go_wp2_with fail
      refine ⟨.inr ⟨⟨w6, HK6.out⟩, rfl⟩, ?_⟩
      refine Mix.mix_one 11 2 (by kernel_rfl) rfl rfl ?_
      simp only [List.drop_succ_cons, List.drop_zero, List.take_succ_cons, List.take_zero]
      go_wp2_with fail
      refine ⟨.inr ⟨⟨w6, HK6.out⟩, rfl⟩, ?_⟩
      refine Mix.mix_one 12 1 (by kernel_rfl) rfl rfl ?_
      simp only [List.drop_succ_cons, List.drop_zero, List.take_succ_cons, List.take_zero]
      go_wp2_with fail
      refine ⟨.inr ⟨⟨w6, HK6.out⟩, rfl⟩, ?_⟩
      refine Mix.mix_one 13 0 (by kernel_rfl) rfl rfl ?_
      simp only [List.drop_succ_cons, List.drop_zero, List.take_succ_cons, List.take_zero]
      go_wp2_with fail
      refine ⟨.inl ⟨rfl, rfl⟩, ?_⟩
      refine Mix.mix_end (by kernel_rfl) ?_
      obtain ⟨w7, hw7⟩ : ∃ W', w6.setCell ⟨FB, 0, none⟩ (.slice (some ⟨g6, 0, none⟩) (i + 1) cap6) = W' := ⟨_, rfl⟩
      rw [hw7] at HL6 ⊢
      clear hw7 cB fB HK6 HL HC0 HV0
      go_upto_region 14 with fail
      obtain ⟨w8, hw8⟩ : ∃ W', w7.alloc (.cells (frow 0).toArray 39) = W' := ⟨_, rfl⟩
      obtain ⟨ND, hND⟩ : ∃ q, w7.heap.size = q := ⟨_, rfl⟩
      have r8 : w8.heap[ND]? = some (.cells (frow 0).toArray 39 (0, 0)) := by rw [← hw8, ← hND]; exact heap_alloc_new _ _
      have hk78 : Keeps No w7 w8 := by rw [← hw8]; exact (Keeps.refl _ _).alloc _
      have HL8 := Lib.hid (HL6.out.no hk78)
      have HNS : Hid (FB + 1 < ND) := Lib.hid (by rw [← hND]; exact (Array.getElem?_eq_some_iff.1 HL6.out.hv).1)
      have HFRN : Hid (u4.ownBlock ≠ some ND) := Lib.hid (fun e => by have := own_ltb HL6.out.fr e; omega)
      have HINN : Hid (g6 ≠ ND) := Lib.hid (fun e => by have := own_ltb HL6.out.ins (q := g6) rfl; omega)
      have e8 : (frow 0).toArray = #[.bool false, .bool false, .bool false, .bool false, .bool false, .bool false, .bool false, .bool false, .bool false, .bool false, .bool false, .bool false, .bool false, .bool false, .bool false, .bool false, .bool false, .bool false, .bool false, .bool false, .bool false, .bool false, .bool false, .bool false] := by rfl
      rw [e8] at hw8
      rw [hw8, hND]
      have hl1 : i + 1 < 24 := by omega
      have t1 : ((i : Int) + 1).toNat = i + 1 := by omega
      have t2 : (0 : Int) ≤ (i : Int) + 1 := by omega
      have t3 : (i : Int) + 1 < 24 := by omega
      have x8 : w8.cell? ⟨ND, i + 1, none⟩ = some (.bool (Nat.testBit 0 (i + 1))) := by rw [cell_of_row w8 ND _ _ _ _ r8, List.getElem?_toArray]; exact frow_get hl1
      have f8 : w8.frozen? ⟨ND, i + 1, none⟩ = false := frozen_of_row w8 ND _ _ _ r8
      have HR9 : Hid ((w8.setCell ⟨ND, i + 1, none⟩ (.bool true)).heap[ND]? = some (.cells (frow (Nd ps 0)).toArray 39 (0, 0))) := Lib.hid (by
        rw [heap_setCell_same w8 ND _ _ _ _ r8]
        show _ = some (Obj.cells (frow (addB 0 (ps.length + 1))).toArray 39 (0, 0))
        rw [HPS.out.1, ← frow_set hl1]; simp)
      have HK9 : Hid (Keeps (fun q => q = ND) w8 (w8.setCell ⟨ND, i + 1, none⟩ (.bool true))) := Lib.hid ((Keeps.refl (fun q => q = ND) w8).setCell (.inl rfl) _)
      clear hw8 r8 hk78 e8 hND hl1 HL6
      go_upto_region 15 with fail
      obtain ⟨w9, hw9⟩ : ∃ W', w8.setCell ⟨ND, i + 1, none⟩ (.bool true) = W' := ⟨_, rfl⟩
      rw [hw9] at HR9 HK9 ⊢
      clear hw9 x8 f8 t1 t2 t3
      have hfr0 := HL8.out.fr
      rw [HPS.out.1] at hfr0
      obtain ⟨fa, fc, rfl, hfa⟩ := own_form hfr0
      have HFR := Lib.hid hfr0
      have HFA := Lib.hid hfa
      clear hfr0 hfa
      go_wp2_with fail
      go_loopg [10, 11] i (fun k v u wr => ∃ (d D : Nat) (z : Int), v = .int .i64 (D : Int) ∧ u = .int .i64 z ∧ Hid (z = (i : Int) - 1 - d) ∧ d ≤ i ∧ k = i - d ∧ Hid (D = Dn ps (i - d)) ∧ Hid (wr.heap[ND]? = some (.cells (frow (Nd ps d)).toArray 39 (0, 0))) ∧ Hid (Keeps (fun q => q = ND) w9 wr))
      case atStart => exact ⟨0, 0, _, rfl, rfl, Lib.hid (by omega), Nat.zero_le _, rfl, Lib.hid (by rw [Nat.sub_zero, ← HPS.out.1]; exact (Dn_last ps).symm), HR9, Lib.hid (Keeps.refl _ _)⟩
      case round =>
        obtain ⟨d, D, z, rfl, rfl, HZ, hd, hgk, HD, HR, HK⟩ := hrel
        by_cases hlt : d < i
        · skip
          -- DEV<
          obtain ⟨j, hj⟩ : ∃ j, j + (d + 1) = i := ⟨i - (d + 1), by omega⟩
          obtain rfl : z = (j : Int) := by have := HZ.out; omega
          obtain ⟨⟨a, b⟩, hp⟩ : ∃ p, ps[j]? = some p := ⟨_, List.getElem?_eq_getElem (by rw [HPS.out.1]; omega)⟩
          have hab := HPS.out.2 j _ hp
          simp only at hab
          obtain ⟨gf, rfl⟩ := HFA.out (by omega)
          have HND : Hid (Nd ps (d + 1) = addB (addB (Nd ps d) a) b) := Lib.hid (Nd_step hp (by rw [HPS.out.1]; exact hj))
          have HDS : Hid (Dn ps j = (if (Nd ps d).testBit (j + 2) then 0 else 1) + Dn ps (j + 1)) := Lib.hid (Dn_step HPS.out.2 hp (by rw [HPS.out.1]; exact hj))
          have hgn : gf ≠ ND := fun e => HFRN.out (by rw [← e]; rfl)
          have kf : Keeps (fun q => q = ND) w8 wr := HK9.out.trans HK.out (fun _ _ e => e)
          have ca : w8.cell? ⟨gf, j * 2, none⟩ = some (.int .i64 (a : Int)) := by rw [World.ownsRow.cellAt HFR.out _ (by omega)]; exact (prow_get ps j _ hp).1
          have cb : w8.cell? ⟨gf, j * 2 + 1, none⟩ = some (.int .i64 (b : Int)) := by rw [World.ownsRow.cellAt HFR.out _ (by omega)]; exact (prow_get ps j _ hp).2
          have pa : ∀ u : KS (fun q => q = ND) wr, u.W.cell? ⟨gf, j * 2, none⟩ = some (.int .i64 (a : Int)) := fun u => u.cell (kf.cell ca hgn) hgn
          have pb : ∀ u : KS (fun q => q = ND) wr, u.W.cell? ⟨gf, j * 2 + 1, none⟩ = some (.int .i64 (b : Int)) := fun u => u.cell (kf.cell cb hgn) hgn
          have HD1 : Hid (D = Dn ps (j + 1)) := Lib.hid (by rw [HD.out]; congr 1; omega)
          have hDb : D ≤ 21 := by have := Dn_le ps (j + 1); rw [HPS.out.1, ← HD1.out] at this; omega
          have hij : i - (d + 1) = j := by omega
          have HIJ := Lib.hid hij
          obtain ⟨TB, hTB⟩ : ∃ t, (Nd ps d).testBit (j + 2) = t := ⟨_, rfl⟩
          have xN : wr.cell? ⟨ND, j + 2, none⟩ = some (.bool TB) := by rw [cell_of_row wr ND _ _ _ _ HR.out, List.getElem?_toArray, ← hTB]; exact frow_get (by omega)
          rw [hTB] at HDS
          have j0 : (0 : Int) ≤ (j : Int) := by omega
          have j1 : (j : Int) < (i : Int) := by omega
          have j2 : (0 : Int) ≤ (j : Int) + 2 := by omega
          have j3 : (j : Int) + 2 < 24 := by omega
          have j4 : ((j : Int) + 2).toNat = j + 2 := by omega
          have a0 : (0 : Int) ≤ (a : Int) := by omega
          have a1 : (a : Int) < 24 := by omega
          have b0 : (0 : Int) ≤ (b : Int) := by omega
          have b1 : (b : Int) < 24 := by omega
          clear hTB ca cb kf hp hgn hij HD HFA
          cases TB with
          | true =>
            have HDT : Hid (D = Dn ps (i - (d + 1))) := Lib.hid (by rw [HIJ.out, HDS.out, ← HD1.out]; simp)
            go_wp2_with fail
            have hne : Nonempty (KS (fun q => q = ND) wr) := ⟨⟨wr, Keeps.refl _ _⟩⟩
            refine Mix.wp_region_mix (fun W' => ∃ u : KS (fun q => q = ND) wr, W' = u.W) [] (by kernel_rfl) ?_
            have HV0 : Hid (Keeps No wr wr.drew) := Lib.hid ((Keeps.refl _ wr).drew)
            generalize wr.drew = v0 at HV0 ⊢
            refine Mix.mix_seg 0 10 4 (by kernel_rfl) (by kernel_rfl) rfl rfl ⟨⟨v0, HV0.out.mono (fun _ _ e => e.elim)⟩, rfl⟩ ?_
            simp only [List.drop_succ_cons, List.drop_zero, List.take_succ_cons, List.take_zero]
            repeat (go_big_quiet_step (fail))
            refine wpQuiet_nil ?_
            clear pa pb
            have r0 : v0.heap[ND]? = some (.cells (frow (Nd ps d)).toArray 39 (0, 0)) := (HV0.out.block ND (Array.getElem?_eq_some_iff.1 HR.out).1 (fun e => e)).trans HR.out
            have r1 : (v0.setCell ⟨ND, a, none⟩ (.bool true)).heap[ND]? = some (.cells (frow (addB (Nd ps d) a)).toArray 39 (0, 0)) := by rw [heap_setCell_same v0 ND a _ _ _ r0, ← frow_set (by omega)]; simp
            have HR2 : Hid (((v0.setCell ⟨ND, a, none⟩ (.bool true)).setCell ⟨ND, b, none⟩ (.bool true)).heap[ND]? = some (.cells (frow (Nd ps (d + 1))).toArray 39 (0, 0))) := Lib.hid (by
              have e := frow_set (X := addB (Nd ps d) a) (r := b) (by omega)
              rw [heap_setCell_same _ ND b _ _ _ r1, HND.out, ← e]; simp)
            have HK2 : Hid (Keeps (fun q => q = ND) w9 ((v0.setCell ⟨ND, a, none⟩ (.bool true)).setCell ⟨ND, b, none⟩ (.bool true))) := Lib.hid (((HK.out.trans (HV0.out.mono (fun _ _ e => e.elim)) (fun _ _ e => e)).setCell (.inl rfl) _).setCell (.inl rfl) _)
            have f0 : v0.frozen? ⟨ND, a, none⟩ = false := frozen_of_row v0 ND a _ _ r0
            have x0 : v0.cell? ⟨ND, a, none⟩ = some (.bool ((Nd ps d).testBit a)) := by rw [cell_of_row v0 ND a _ _ _ r0, List.getElem?_toArray]; exact frow_get (by omega)
            have f1 : (v0.setCell ⟨ND, a, none⟩ (.bool true)).frozen? ⟨ND, b, none⟩ = false := frozen_of_row _ ND b _ _ r1
            have x1 : (v0.setCell ⟨ND, a, none⟩ (.bool true)).cell? ⟨ND, b, none⟩ = some (.bool ((addB (Nd ps d) a).testBit b)) := by rw [cell_of_row _ ND b _ _ _ r1, List.getElem?_toArray]; exact frow_get (by omega)
            have HC1 : Hid (∃ u : KS (fun q => q = ND) wr, v0.setCell ⟨ND, a, none⟩ (.bool true) = u.W) := Lib.hid ⟨⟨_, (HV0.out.mono (T := fun q => q = ND) (fun _ _ e => e.elim)).setCell (.inl rfl) _⟩, rfl⟩
            have HC2 : Hid (∃ u : KS (fun q => q = ND) wr, (v0.setCell ⟨ND, a, none⟩ (.bool true)).setCell ⟨ND, b, none⟩ (.bool true) = u.W) := Lib.hid ⟨⟨_, ((HV0.out.mono (T := fun q => q = ND) (fun _ _ e => e.elim)).setCell (.inl rfl) _).setCell (.inl rfl) _⟩, rfl⟩
            clear r0 r1
            refine Mix.mix_seg 10 1 3 (by kernel_rfl) (by kernel_rfl) rfl rfl ⟨⟨v0, HV0.out.mono (fun _ _ e => e.elim)⟩, rfl⟩ ?_
            simp only [List.drop_succ_cons, List.drop_zero, List.take_succ_cons, List.take_zero]
            repeat (go_big_quiet_step (fail))
            refine wpQuiet_nil ?_
            refine Mix.mix_one 11 2 (by kernel_rfl) rfl rfl ?_
            simp only [List.drop_succ_cons, List.drop_zero, List.take_succ_cons, List.take_zero]
            go_wp2_with fail
            refine ⟨.inr HC1.out, ?_⟩
            refine Mix.mix_seg 12 1 1 (by kernel_rfl) (by kernel_rfl) rfl rfl HC1.out ?_
            simp only [List.drop_succ_cons, List.drop_zero, List.take_succ_cons, List.take_zero]
            repeat (go_big_quiet_step (fail))
            refine wpQuiet_nil ?_
            refine Mix.mix_one 13 0 (by kernel_rfl) rfl rfl ?_
            simp only [List.drop_succ_cons, List.drop_zero, List.take_succ_cons, List.take_zero]
            go_wp2_with fail
            refine ⟨.inr HC2.out, ?_⟩
            refine Mix.mix_end (by kernel_rfl) ?_
            clear hne f0 x0 f1 x1
            go_wp2_with fail
            go_roundg (i - (d + 1))
            case rel => exact ⟨d + 1, D, _, rfl, rfl, Lib.hid (by omega), by omega, rfl, HDT, HR2, HK2⟩
            case measure => omega
          | false =>
            have HDT : Hid (D + 1 = Dn ps (i - (d + 1))) := Lib.hid (by rw [HIJ.out, HDS.out, ← HD1.out]; simp; omega)
            go_wp2_with fail
            have hne : Nonempty (KS (fun q => q = ND) wr) := ⟨⟨wr, Keeps.refl _ _⟩⟩
            refine Mix.wp_region_mix (fun W' => ∃ u : KS (fun q => q = ND) wr, W' = u.W) [] (by kernel_rfl) ?_
            have HV0 : Hid (Keeps No wr wr.drew) := Lib.hid ((Keeps.refl _ wr).drew)
            generalize wr.drew = v0 at HV0 ⊢
            refine Mix.mix_seg 0 10 4 (by kernel_rfl) (by kernel_rfl) rfl rfl ⟨⟨v0, HV0.out.mono (fun _ _ e => e.elim)⟩, rfl⟩ ?_
            simp only [List.drop_succ_cons, List.drop_zero, List.take_succ_cons, List.take_zero]
            repeat (go_big_quiet_step (fail))
            refine wpQuiet_nil ?_
            clear pa pb
            have r0 : v0.heap[ND]? = some (.cells (frow (Nd ps d)).toArray 39 (0, 0)) := (HV0.out.block ND (Array.getElem?_eq_some_iff.1 HR.out).1 (fun e => e)).trans HR.out
            have r1 : (v0.setCell ⟨ND, a, none⟩ (.bool true)).heap[ND]? = some (.cells (frow (addB (Nd ps d) a)).toArray 39 (0, 0)) := by rw [heap_setCell_same v0 ND a _ _ _ r0, ← frow_set (by omega)]; simp
            have HR2 : Hid (((v0.setCell ⟨ND, a, none⟩ (.bool true)).setCell ⟨ND, b, none⟩ (.bool true)).heap[ND]? = some (.cells (frow (Nd ps (d + 1))).toArray 39 (0, 0))) := Lib.hid (by
              have e := frow_set (X := addB (Nd ps d) a) (r := b) (by omega)
              rw [heap_setCell_same _ ND b _ _ _ r1, HND.out, ← e]; simp)
            have HK2 : Hid (Keeps (fun q => q = ND) w9 ((v0.setCell ⟨ND, a, none⟩ (.bool true)).setCell ⟨ND, b, none⟩ (.bool true))) := Lib.hid (((HK.out.trans (HV0.out.mono (fun _ _ e => e.elim)) (fun _ _ e => e)).setCell (.inl rfl) _).setCell (.inl rfl) _)
            have f0 : v0.frozen? ⟨ND, a, none⟩ = false := frozen_of_row v0 ND a _ _ r0
            have x0 : v0.cell? ⟨ND, a, none⟩ = some (.bool ((Nd ps d).testBit a)) := by rw [cell_of_row v0 ND a _ _ _ r0, List.getElem?_toArray]; exact frow_get (by omega)
            have f1 : (v0.setCell ⟨ND, a, none⟩ (.bool true)).frozen? ⟨ND, b, none⟩ = false := frozen_of_row _ ND b _ _ r1
            have x1 : (v0.setCell ⟨ND, a, none⟩ (.bool true)).cell? ⟨ND, b, none⟩ = some (.bool ((addB (Nd ps d) a).testBit b)) := by rw [cell_of_row _ ND b _ _ _ r1, List.getElem?_toArray]; exact frow_get (by omega)
            have HC1 : Hid (∃ u : KS (fun q => q = ND) wr, v0.setCell ⟨ND, a, none⟩ (.bool true) = u.W) := Lib.hid ⟨⟨_, (HV0.out.mono (T := fun q => q = ND) (fun _ _ e => e.elim)).setCell (.inl rfl) _⟩, rfl⟩
            have HC2 : Hid (∃ u : KS (fun q => q = ND) wr, (v0.setCell ⟨ND, a, none⟩ (.bool true)).setCell ⟨ND, b, none⟩ (.bool true) = u.W) := Lib.hid ⟨⟨_, ((HV0.out.mono (T := fun q => q = ND) (fun _ _ e => e.elim)).setCell (.inl rfl) _).setCell (.inl rfl) _⟩, rfl⟩
            clear r0 r1
            refine Mix.mix_seg 10 1 3 (by kernel_rfl) (by kernel_rfl) rfl rfl ⟨⟨v0, HV0.out.mono (fun _ _ e => e.elim)⟩, rfl⟩ ?_
            simp only [List.drop_succ_cons, List.drop_zero, List.take_succ_cons, List.take_zero]
            repeat (go_big_quiet_step (fail))
            refine wpQuiet_nil ?_
            refine Mix.mix_one 11 2 (by kernel_rfl) rfl rfl ?_
            simp only [List.drop_succ_cons, List.drop_zero, List.take_succ_cons, List.take_zero]
            go_wp2_with fail
            refine ⟨.inr HC1.out, ?_⟩
            refine Mix.mix_seg 12 1 1 (by kernel_rfl) (by kernel_rfl) rfl rfl HC1.out ?_
            simp only [List.drop_succ_cons, List.drop_zero, List.take_succ_cons, List.take_zero]
            repeat (go_big_quiet_step (fail))
            refine wpQuiet_nil ?_
            refine Mix.mix_one 13 0 (by kernel_rfl) rfl rfl ?_
            simp only [List.drop_succ_cons, List.drop_zero, List.take_succ_cons, List.take_zero]
            go_wp2_with fail
            refine ⟨.inr HC2.out, ?_⟩
            refine Mix.mix_end (by kernel_rfl) ?_
            clear hne f0 x0 f1 x1
            go_wp2_with fail
            go_roundg (i - (d + 1))
            case rel => exact ⟨d + 1, D + 1, _, by go_num, rfl, Lib.hid (by omega), by omega, rfl, HDT, HR2, HK2⟩
            case measure => omega
          -- DEV>
        · obtain rfl : d = i := by omega
          obtain rfl : z = -1 := by have := HZ.out; omega
          have kND : Keeps (fun q => q = ND) w8 wr := HK9.out.trans HK.out (fun _ _ e => e)
          have hlo := HL8.out.lo
          have HL10 : Hid (LR w wr FB (FB + 1) ps (code ps) (.slice fa d fc) (.slice (some ⟨g6, 0, none⟩) (d + 1) cap6)) := Lib.hid (HL8.out.keepS kND (fun q e => by have := HNS.out; omega) (by have := HNS.out; omega) (by have := HNS.out; omega) (fun q e e2 => HFRN.out (by rw [e, e2])) (fun q e e2 => HINN.out (by have e3 : some g6 = some q := e; injection e3 with e3; omega)))
          have hcl : (code ps).length = d + 1 := by rw [code_len, HPS.out.1]
          have hps20 : ps.length ≤ 20 := by rw [HPS.out.1]; exact hN20
          have hins := HL10.out.ins
          have hF : FxOk wr (rfn FB g6 cap6 ps) := ofn_ok (by unfold I64; decide) (by unfold I64; decide) (code_bare HPS.out.2 hps20) (by
              rcases hins.2 with ⟨e, _⟩ | ⟨g', cap', cur, e, _, _, h1, h2, _⟩
              · cases e
              · injection e with _ _ e; subst e; exact ⟨h1, h2⟩)
            (by rw [cell_of_row wr _ 0 _ _ _ HL10.out.hb, hcl]; rfl) (fun j v hv => by
              rw [hcl] at hins
              rw [World.ownsRow.cellAt hins j (by have h := (List.getElem?_eq_some_iff.1 hv).1; rw [xrow_len, hcl] at h; exact h)]; exact hv)
          have HF := Lib.hid hF
          have HMY : Hid ((rfn FB g6 cap6 ps).may = true) := Lib.hid (rfn_may HPS.out.2 hps20)
          have HSM : Hid (SmF (rfn FB g6 cap6 ps) ∧ ∀ B ∈ (rfn FB g6 cap6 ps).bl, B.n ≤ 100000) := Lib.hid ⟨⟨by show 1 ≤ 1000; decide, fun B hB => by
              obtain rfl : B = ⟨some ⟨g6, 0, none⟩, (code ps).length, cap6, code ps⟩ := by simpa [rfn, ofn] using hB
              show (lastTo (code ps)).length ≤ 100
              rw [rfn_to]; exact Nat.zero_le _, fun B hB x hx => by
              obtain rfl : B = ⟨some ⟨g6, 0, none⟩, (code ps).length, cap6, code ps⟩ := by simpa [rfn, ofn] using hB
              rw [(code_bare HPS.out.2 hps20 x hx).args]; exact Nat.zero_le _⟩, fun B hB => by
              obtain rfl : B = ⟨some ⟨g6, 0, none⟩, (code ps).length, cap6, code ps⟩ := by simpa [rfn, ofn] using hB
              show (code ps).length ≤ 100000
              rw [hcl]; omega⟩
          have HK10 : Hid (Keeps No w wr) := Lib.hid HL10.out.k
          have HC : Hid (∀ W, Keeps No wr W → W.cell? ⟨FB + 1, 0, none⟩ = some (.string ByteArray.empty) ∧ W.cell? ⟨FB + 1, 1, none⟩ = some (.int .i64 2) ∧ W.cell? ⟨FB + 1, 2, none⟩ = some (.int .i64 24) ∧ W.cell? ⟨FB + 1, 3, none⟩ = some (.slice none 0 0) ∧ W.cell? ⟨FB + 1, 4, none⟩ = some (.slice (some ⟨FB, 0, none⟩) 1 1) ∧ W.cell? ⟨FB + 1, 5, none⟩ = some (.bool true)) := Lib.hid (fun W hk => by
            have h := (hk.block _ (Array.getElem?_eq_some_iff.1 HL10.out.hv).1 (fun e => e)).trans HL10.out.hv
            exact ⟨by rw [cell_of_row W _ 0 _ _ _ h]; rfl, by rw [cell_of_row W _ 1 _ _ _ h]; rfl, by rw [cell_of_row W _ 2 _ _ _ h]; rfl, by rw [cell_of_row W _ 3 _ _ _ h]; rfl, by rw [cell_of_row W _ 4 _ _ _ h]; rfl, by rw [cell_of_row W _ 5 _ _ _ h]; rfl⟩)
          have HIN := Lib.hid (fun (W : World) (hk : Keeps No wr W) => in_yes (rfn FB g6 cap6 ps) W (HF.out.no hk) HMY.out 24 rfl HSM.out.1 (HT.out.keep (HK10.out.trans hk (fun _ _ e => e)) (fun e => e)))
          have HOU := Lib.hid (fun (W : World) (hk : Keeps No wr W) => out_yes (rfn FB g6 cap6 ps) W (HF.out.no hk) HMY.out 24 rfl HSM.out.1 (HT.out.keep (HK10.out.trans hk (fun _ _ e => e)) (fun e => e)))
          have HDE := Lib.hid (fun (W : World) (hk : Keeps No wr W) => dead_yes (rfn FB g6 cap6 ps) W (HF.out.no hk) HMY.out 24 rfl HSM.out.1 HSM.out.2 (HT.out.keep (HK10.out.trans hk (fun _ _ e => e)) (fun e => e)))
          have HRN : Hid (∀ W, Keeps No wr W → W.heap[ND]? = some (.cells (frow (Nd ps d)).toArray 39 (0, 0))) := Lib.hid (fun W hk => (hk.block ND (Array.getElem?_eq_some_iff.1 HR.out).1 (fun e => e)).trans HR.out)
          have HWN : Hid (listB (backs (code ps) 0) 24 = ((List.range 2).filter (Nd ps d).testBit).map Int.ofNat) := Lib.hid (by have h := want_eq HPS.out.2; rw [HPS.out.1] at h; exact h)
          have HDD : Hid (D = deadRow 0 (code ps)) := Lib.hid (by rw [HD.out, Nat.sub_self]; unfold Dn; rw [List.drop_zero])
          obtain ⟨w10, hw10⟩ : ∃ W', W' = wr := ⟨_, rfl⟩
          subst hw10
          obtain ⟨c0, c1, c2, c3, c4, c5⟩ := HC.out w10 (Keeps.refl _ _)
          clear kND hlo hcl hps20 hins hF HFR HFA HL8 HL10 HNS HFRN HINN HK9 HR9 HK HR HD
          go_wp2_with fail
          refine (HIN.out w10 (Keeps.refl _ _)).mono ?_
          rintro e w11 ⟨v, O, rfl, hle, _, hll, hk11⟩
          have hO : O 0 = 0 := least_zero hle (rfn_to ps)
          have hls : (List.range (rfn FB g6 cap6 ps).bn).map (fun b => listB (backs (blk (bls (rfn FB g6 cap6 ps)) b) (O b)) 24) = [listB (backs (code ps) 0) 24] := by
            show [listB (backs (code ps) (O 0)) 24] = _
            rw [hO]
          rw [hls] at hll
          obtain ⟨a1, n1, k1, S1, rfl, hS1, hSl1⟩ := hll.at_ (fun l hl => by
            have e : l = listB (backs (code ps) 0) 24 := by simpa using hl
            rw [e]
            exact ⟨Nat.le_trans (listB_len _ _) (by decide), listB_bd (by decide)⟩)
          obtain ⟨s1, rfl⟩ : ∃ s1, S1 = [s1] := by
            match S1, hSl1 with
            | [s1], _ => exact ⟨s1, rfl⟩
            | [], h => cases h
            | a :: b :: c, h => simp at h
          have hn1 : 1 = n1 := hS1.len
          subst hn1
          obtain ⟨ib, io, rfl, hc1, hs1, hn1⟩ := hS1.at_ 0 s1 rfl
          have hl1 : s1.l = listB (backs (code ps) 0) 24 := by simpa using hSl1
          have HK11 : Hid (Keeps No w10 w11) := Lib.hid hk11
          have HS1 := Lib.hid (And.intro hc1 (And.intro hs1 (And.intro hn1 hl1)))
          clear hle hO hls hll hS1 hSl1 hc1 hs1 hn1 hl1 hk11 c0 c1 c2 c3 c4 c5
          obtain ⟨c0, c1, c2, c3, c4, c5⟩ := HC.out w11 HK11.out
          go_wp2_with fail
          refine (HOU.out w11 HK11.out).mono ?_
          rintro e w12 ⟨v, O, rfl, _, _, hll, hk12⟩
          obtain ⟨vs, hvs, _⟩ := hll.ex
          obtain ⟨a4, ca4, rfl, _⟩ := own_form hvs
          have HK12 : Hid (Keeps No w10 w12) := Lib.hid (HK11.out.trans hk12 (fun _ _ e => e))
          have HA12 := Lib.hid hk12
          have el : ((List.range (rfn FB g6 cap6 ps).bn).map (fun b => listB (O b) 24)).length = 1 := by simp; rfl
          rw [el]
          clear hll hk12 hvs c0 c1 c2 c3 c4 c5 el
          obtain ⟨c0, c1, c2, c3, c4, c5⟩ := HC.out w12 HK12.out
          go_wp2_with fail
          refine (HOU.out w12 HK12.out).mono ?_
          rintro e w13 ⟨v, O, rfl, hle, _, hll, hk13⟩
          have hls : (List.range (rfn FB g6 cap6 ps).bn).map (fun b => listB (O b) 24) = [[]] := by
            show [listB (O 0) 24] = _
            rw [least_zero hle (rfn_to ps)]; rfl
          rw [hls] at hll
          obtain ⟨a3, n3, k3, S3, rfl, hS3, hSl3⟩ := hll.at_ (fun l hl => by
            have e : l = [] := by simpa using hl
            rw [e]
            exact ⟨Nat.zero_le _, fun z hz => by cases hz⟩)
          obtain ⟨s3, rfl⟩ : ∃ s3, S3 = [s3] := by
            match S3, hSl3 with
            | [s3], _ => exact ⟨s3, rfl⟩
            | [], h => cases h
            | a :: b :: c, h => simp at h
          have hn3 : 1 = n3 := hS3.len
          subst hn3
          obtain ⟨jb, jo, rfl, hc3, hs3, _⟩ := hS3.at_ 0 s3 rfl
          have hl3 : s3.l = [] := by simpa using hSl3
          have hs30 : s3.n = 0 := by rw [← hs3.len, hl3]; rfl
          have cj : w13.cell? ⟨jb, jo, none⟩ = some (.slice s3.a 0 s3.cap) := by
            rw [Nat.add_zero] at hc3; rw [hc3, Sl.v, hs30]
          have HK13 : Hid (Keeps No w10 w13) := Lib.hid (HK12.out.trans hk13 (fun _ _ e => e))
          have HA13 := Lib.hid hk13
          clear hle hls hll hS3 hSl3 hc3 hs3 hl3 hs30 hk13 c0 c1 c2 c3 c4 c5
          go_wp2_with fail
          go_loopg [13, 14] 2 (fun k v u wr => ∃ r : Nat, u = .int .i64 (r : Int) ∧ r ≤ 2 ∧ k = 2 - r ∧ Hid (wr.ownsRow w13.heap.size 3 1 v (WL (Nd ps d) r).length (irow (WL (Nd ps d) r))) ∧ Hid (Keeps No w13 wr))
          case atStart => exact ⟨0, rfl, by omega, rfl, Lib.hid (World.ownsRow_nil _ _ _ _), Lib.hid (Keeps.refl _ _)⟩
          case round =>
            obtain ⟨r, rfl, hr, hgk3, HWO, HKW⟩ := hrel
            by_cases hlt3 : r < 2
            · have r0 : (0 : Int) ≤ (r : Int) := by omega
              have r1 : (r : Int) < 2 := by omega
              have r2 : (r : Int) < 24 := by omega
              obtain ⟨TB, hTB⟩ : ∃ t, (Nd ps d).testBit r = t := ⟨_, rfl⟩
              have xN : wr.cell? ⟨ND, r, none⟩ = some (.bool TB) := by rw [cell_of_row wr ND _ _ _ _ (HRN.out wr (HK13.out.trans HKW.out (fun _ _ e => e))), List.getElem?_toArray, ← hTB]; exact frow_get (by omega)
              have hsn := WL_snoc (Nd ps d) r
              rw [hTB] at hsn
              have HSN := Lib.hid hsn
              have hwl : (WL (Nd ps d) r).length ≤ 2 := Nat.le_trans (WL_len _ _) (by omega)
              obtain ⟨wn, hwn⟩ : ∃ n, (WL (Nd ps d) r).length = n := ⟨_, rfl⟩
              rw [hwn] at HWO hwl
              have HWN := Lib.hid hwn
              clear hTB hsn hwn
              cases TB with
              | true =>
                have HS2 : Hid (WL (Nd ps d) (r + 1) = WL (Nd ps d) r ++ [(r : Int)]) := Lib.hid (by have h := HSN.out; rw [if_pos rfl] at h; exact h)
                clear HSN
                go_wp2_with (at_builtin; refine wpList_appI _ rfl (.tmp 146) (.tmp 148) 22 rfl Tryd.underlying22 w13.heap.size _ wn (WL (Nd ps d) r) (r : Int) wr.heap.size rfl (HWO.out.alloc _) rfl (heap_alloc_new _ _) (by omega) (by have := HKW.out.size; simp; omega) ?_)
                intro g14 cap14 w14 ho14 hg14
                have HK14 : Hid (Keeps No w13 w14) := Lib.hid (((HKW.out.alloc _)).grown hg14 (fun q e => .inr (own_lo HWO.out q e)))
                have HO14 : Hid (w14.ownsRow w13.heap.size 3 1 (.slice (some ⟨g14, 0, none⟩) (wn + 1) cap14) (WL (Nd ps d) (r + 1)).length (irow (WL (Nd ps d) (r + 1)))) := Lib.hid (by
                  rw [HS2.out, List.length_append, HWN.out]; exact ho14)
                clear ho14 hg14
                go_wp2_with fail
                go_roundg (2 - (r + 1))
                case rel => exact ⟨r + 1, by go_num, by omega, rfl, HO14, HK14⟩
                case measure => omega
              | false =>
                have HO14 : Hid (wr.ownsRow w13.heap.size 3 1 u13 (WL (Nd ps d) (r + 1)).length (irow (WL (Nd ps d) (r + 1)))) := Lib.hid (by
                  rw [HSN.out, if_neg (by decide), HWN.out]; exact HWO.out)
                go_wp2_with fail
                go_roundg (2 - (r + 1))
                case rel => exact ⟨r + 1, by go_num, by omega, rfl, HO14, HKW⟩
                case measure => omega
            · obtain rfl : r = 2 := by omega
              have HK14 : Hid (Keeps No w10 wr) := Lib.hid (HK13.out.trans HKW.out (fun _ _ e => e))
              obtain ⟨t1, ht1, ht2, ht3, ht4⟩ := own_sl HWO.out (WL_bd _ _ (by decide))
              subst ht1
              have k11 : Keeps No w11 wr := (HA12.out.trans HA13.out (fun _ _ e => e)).trans HKW.out (fun _ _ e => e)
              have cI : wr.cell? ⟨ib, io, none⟩ = some s1.v := by have h := k11.cell0 HS1.out.1; rw [Nat.add_zero] at h; exact h
              have HSI : Hid (Calls Tryd.prog 11 #[s1.v, t1.v] wr fun e w' => e = .returned (.bool true) ∧ Keeps No wr w') := Lib.hid ((same_ints s1 t1 wr (HS1.out.2.1.no k11) ht4 HS1.out.2.2.1).mono (fun e w' h => by
                obtain ⟨h1, m, h2⟩ := h
                have e3 : s1.l = t1.l := by rw [HS1.out.2.2.2, ht2]; exact HWN.out
                rw [decide_eq_true e3] at h1
                exact ⟨h1, by rw [← h2]; exact (Keeps.refl _ _).drewN m⟩))
              obtain ⟨s1a, s1n, s1c, s1l⟩ := s1
              obtain ⟨t1a, t1n, t1c, t1l⟩ := t1
              dsimp only [Sl.v] at cI HSI ⊢
              clear k11 ht2 ht3 ht4 HWO HS1
              go_wp2_with fail
              refine HSI.out.mono ?_
              rintro e w15 ⟨rfl, hk15⟩
              have HK15 : Hid (Keeps No w10 w15) := Lib.hid (HK14.out.trans hk15 (fun _ _ e => e))
              clear hk15 HSI cI
              obtain ⟨c0, c1, c2, c3, c4, c5⟩ := HC.out w15 HK15.out
              go_wp2_with fail
              refine (HDE.out w15 HK15.out).mono ?_
              rintro e w16 ⟨O, hle, rfl, hk16⟩
              have hd2 : mu (fun c => deadRow (O c) (blk (bls (rfn FB g6 cap6 ps)) c)) (rfn FB g6 cap6 ps).bn = D := by
                show 0 + deadRow (O 0) (code ps) = D
                rw [least_zero hle (rfn_to ps), Nat.zero_add]; exact HDD.out.symm
              rw [hd2]
              have HK16 : Hid (Keeps No w w16) := Lib.hid (HK10.out.trans (HK15.out.trans hk16 (fun _ _ e => e)) (fun _ _ e => e))
              clear hle hd2 hk16 c0 c1 c2 c3 c4 c5
              go_wp2_with fail
              refine (HAW.out w16 HK16.out).mono ?_
              rintro e w17 ⟨rfl, hk17⟩
              have HK17 : Hid (Keeps No w w17) := Lib.hid (HK16.out.trans hk17 (fun _ _ e => e))
              clear hk17
              go_wp2_with fail
              go_returns
              exact ⟨rfl, HK17.out⟩
end Go.Proofs.YtpjilcfmcbapcaaDoor
