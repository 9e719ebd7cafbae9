/- The whole example: awake. -/
import Derived.Test.YtbfjmhfhhlncjaaDoorIrAwakeA
import Derived.Test.YtbfjmhfhhlncjaaDoorMix
namespace Go.Proofs.YtbfjmhfhhlncjaaDoor
open Go.RowKit
set_option linter.unusedVariables false
set_option linter.unusedSimpArgs false

theorem run_little (n : Int) (hn : I64 n) (ib bb fb : Nat) (w : World) (hp : PgOk w (lpg n ib bb fb)) (L : Laid w) :
    Calls Tryd.prog 22 #[pv (lpg n ib bb fb), .slice none 0 0, .int .i64 10] w fun e w' => ∃ s : Sl, e = .returned (ov 1 (n % 256) s) ∧ s.l = [n % 256] ∧ BAt w' s ∧ Keeps No w w' := by
  refine (run_any (lpg n ib bb fb) w hp L (lpg_check n ib bb fb) (lpg_few n ib bb fb) (lpg_plain n ib bb fb) (by show 1 ≤ 100000; omega) none 0 0 (by decide) 10 (by decide) 0 rfl (lfn n ib bb) rfl 1 rfl (by decide) 3 (ls3 n) (lruns n hn ib bb)).mono ?_
  rintro e w' ⟨vo, rfl, ho, hk⟩
  obtain ⟨s, rfl, hl, hb⟩ := own_bytes ho
  exact ⟨s, rfl, hl, hb, hk⟩
theorem run_little2 (n : Int) (hn : I64 n) (ib bb fb : Nat) (w : World) (hp : PgOk w (lpg n ib bb fb)) (L : Laid w) :
    Calls Tryd.prog 22 #[pv (lpg n ib bb fb), .slice none 0 0, .int .i64 2] w fun e w' => ∃ (s : Sl) (c : Int), e = .returned (ov 3 c s) ∧ Keeps No w w' := by
  refine (run_any (lpg n ib bb fb) w hp L (lpg_check n ib bb fb) (lpg_few n ib bb fb) (lpg_plain n ib bb fb) (by show 1 ≤ 100000; omega) none 0 0 (by decide) 2 (by decide) 0 rfl (lfn n ib bb) rfl 1 rfl (by decide) 3 ((ls2 n).stop 3 0) (lruns2 n hn ib bb)).mono ?_
  rintro e w' ⟨vo, rfl, ho, hk⟩
  obtain ⟨s, rfl, hl, hb⟩ := own_bytes ho
  exact ⟨s, _, rfl, hk⟩
set_option maxRecDepth 100000 in
theorem fld (k c : Int) (v : Value) (W : World) : (Instr.field 57 (.agg #[.int .i64 k, .int .i64 c, v]) 0).run Tryd.prog W = .ok (.int .i64 k) W := by
  unfold Instr.field
  simp [go_sem, run_underlying Tryd.underlying57, asAgg]
theorem i300 : I64 300 := i64s 300 (by decide)
theorem i1 : I64 1 := i64s 1 (by decide)
theorem Bb {w : World} {o : Nat} (h : w.heap[o]? = some (.cells #[.int .u8 44] 5 (0, 0))) : BAt w ⟨some ⟨o, 0, none⟩, 1, 1, [44]⟩ := ⟨rfl, ⟨Nat.le_refl _, by show 1 ≤ maxLen; unfold maxLen; omega⟩, fun _ => ⟨o, 0, rfl, fun i z hz => by
  cases i with
  | zero => obtain rfl : (44 : Int) = z := by simpa using hz
            rw [cell_of_row w o _ _ _ _ h]; rfl
  | succ i => cases hz⟩⟩
theorem empty_ins : (ia ⟨1, 0, 0, 0, 0, 0, 0, false, sl0, sl0, sl0⟩ : Value) = .agg #[.int .i64 1, .int .i64 0, .int .i64 0, .int .i64 0, .int .i64 0, .int .i64 0, .int .i64 0, .bool false, .slice none 0 0, .slice none 0 0, .slice none 0 0] := rfl
theorem check_little (n : Int) (ib bb fb : Nat) (w : World) (hp : PgOk w (lpg n ib bb fb)) (L : Laid w) : Calls Tryd.prog 25 #[pv (lpg n ib bb fb)] w fun e w' => e = .returned (.bool true) ∧ Keeps No w w' := by
  have h := check_any (lpg n ib bb fb) w hp L
  rw [lpg_check] at h
  exact h
theorem check_none (w : World) (L : Laid w) : Calls Tryd.prog 25 #[pv pg0] w fun e w' => e = .returned (.bool false) ∧ Keeps No w w' := by
  have h := check_any pg0 w (pg0_ok w) L
  rw [pg0_no] at h
  exact h
theorem count_little (n : Int) (ib bb fb : Nat) (w : World) (hp : PgOk w (lpg n ib bb fb)) : Calls Tryd.prog 26 #[pv (lpg n ib bb fb)] w fun e w' => e = .returned (.int .i64 3) ∧ Keeps No w w' := by
  have h := count_any (lpg n ib bb fb) w hp (by rw [lpg_count]; decide)
  rw [lpg_count] at h
  exact h
theorem same_outcome_yes (s : Sl) (q : Nat) (w : World) (hs : BAt w s) (hl : s.l = [44]) (hq : w.heap[q]? = some (.cells #[.int .u8 44] 5 (0, 0))) :
    Calls Tryd.prog 23 #[ov 1 44 s, .agg #[.int .i64 1, .int .i64 44, .slice (some ⟨q, 0, none⟩) 1 1]] w fun e w' => e = .returned (.bool true) ∧ Keeps No w w' := by
  have h := same_outcome 1 44 1 44 s ⟨some ⟨q, 0, none⟩, 1, 1, [44]⟩ w hs (Bb hq) (by rw [← hs.len, hl]; decide) rfl rfl
  rw [show decide (s.l = [44]) = true from decide_eq_true hl] at h
  exact h
theorem same_copy (n : Int) (ib bb fb : Nat) (y : Pg) (w : World) (hp : PgOk w (lpg n ib bb fb)) (hy : PgOk w y) (hm : y.main = (lpg n ib bb fb).main) (hs : sameRow Fx.same (lpg n ib bb fb).fl y.fl = true) (hg : y.gn = 0) :
    Calls Tryd.prog 18 #[pv (lpg n ib bb fb), pv y] w fun e w' => e = .returned (.bool true) ∧ Keeps No w w' := by
  have h := same0 (lpg n ib bb fb) y w hp hy rfl hg
  rw [hs, show decide ((lpg n ib bb fb).main = y.main) = true from decide_eq_true hm.symm] at h
  exact h
theorem same_other (n m : Int) (hnm : n ≠ m) (ib bb fb ib' bb' fb' : Nat) (w : World) (hp : PgOk w (lpg n ib bb fb)) (hy : PgOk w (lpg m ib' bb' fb')) :
    Calls Tryd.prog 18 #[pv (lpg n ib bb fb), pv (lpg m ib' bb' fb')] w fun e w' => e = .returned (.bool false) ∧ Keeps No w w' := by
  have h := same0 (lpg n ib bb fb) (lpg m ib' bb' fb') w hp hy rfl rfl
  rw [show sameRow Fx.same (lpg n ib bb fb).fl (lpg m ib' bb' fb').fl = false from lsame n m ib bb ib' bb' hnm, Bool.and_false] at h
  exact h
theorem pure_const (w : World) : Calls Tryd.prog 12 #[ia ⟨1, 0, 0, 0, 0, 0, 0, false, sl0, sl0, sl0⟩] w fun e w' => e = .returned (.bool true) ∧ Keeps No w w' := ipure_any ⟨1, 0, 0, 0, 0, 0, 0, false, sl0, sl0, sl0⟩ w
set_option maxRecDepth 100000 in
set_option maxHeartbeats 25600000 in
theorem awake_any (w : World) (L : Laid w) : Calls Tryd.prog 8 #[] w fun e w' => e = .returned (.bool true) ∧ Keeps No w w' := by
  have HL := Lib.hid L
  clear L
  go_enter Tryd.func8, Tryd.ntmps8
  go_wp2_with fail
  refine (little_any 300 i300 _).mono ?_
  rintro e w1 ⟨ib, bb, fb, rfl, hok, hk⟩
  have HOK := Lib.hid hok
  have HK1 := Lib.hid hk
  clear hok hk
  go_wp2_with fail
  have hka : Keeps No w1 (w1.alloc (.cells #[.slice none 0 0, .slice (some ⟨fb, 0, none⟩) 1 1, .int .i64 0] 36)) := (Keeps.refl _ _).alloc _
  refine (run_little 300 i300 ib bb fb _ (HOK.out.no hka) ((HL.out.no HK1.out).no hka)).mono ?_
  rintro e w2 ⟨s, rfl, hsl, hsb, hk2⟩
  obtain ⟨P1, hP1⟩ : ∃ q, w1.heap.size = q := ⟨_, rfl⟩
  have hp2 : w2.heap[P1]? = some (.cells #[.slice none 0 0, .slice (some ⟨fb, 0, none⟩) 1 1, .int .i64 0] 36 (0, 0)) := by
    rw [hk2.block P1 (by simp; omega) (fun e => e)]; exact alloc_at _ _ _ hP1
  have HK2 := Lib.hid (HK1.out.trans (hka.trans hk2 (fun _ _ e => e)) (fun _ _ e => e))
  have HOK2 := Lib.hid (HOK.out.no (hka.trans hk2 (fun _ _ e => e)))
  have HP2 := Lib.hid hp2
  have HSL := Lib.hid (And.intro hsl hsb)
  simp only [hP1]
  clear hka hk2 hsl hsb hp2 hP1
  obtain ⟨sa, sn, sc, sll⟩ := s
  dsimp only [ov, Sl.v]
  go_wp2_with fail
  obtain ⟨O1, hO1⟩ : ∃ q, w2.heap.size = q := ⟨_, rfl⟩
  obtain ⟨w3, hw3⟩ : ∃ W, w2.alloc (.cells #[.int .i64 1, .int .i64 44, .slice sa sn sc] 57) = W := ⟨_, rfl⟩
  have hk3 : Keeps No w2 w3 := by rw [← hw3]; exact (Keeps.refl _ _).alloc _
  have hp3 := (hk3.block P1 (Array.getElem?_eq_some_iff.1 HP2.out).1 (fun e => e)).trans HP2.out
  have ho3 : w3.heap[O1]? = some (.cells #[.int .i64 1, .int .i64 44, .slice sa sn sc] 57 (0, 0)) := by rw [← hw3]; exact alloc_at _ _ _ hO1
  have HFP : Hid ((∀ u : KW w3, u.W.cell? ⟨P1, 0, none⟩ = some (.slice none 0 0)) ∧ (∀ u : KW w3, u.W.cell? ⟨P1, 1, none⟩ = some (.slice (some ⟨fb, 0, none⟩) 1 1)) ∧ (∀ u : KW w3, u.W.cell? ⟨P1, 2, none⟩ = some (.int .i64 0)) ∧ (∀ u : KW w3, u.W.cell? ⟨O1, 0, none⟩ = some (.int .i64 1)) ∧ (∀ u : KW w3, u.W.cell? ⟨O1, 1, none⟩ = some (.int .i64 44)) ∧ (∀ u : KW w3, u.W.cell? ⟨O1, 2, none⟩ = some (.slice sa sn sc))) := Lib.hid
    ⟨fun u => u.cell (by rw [cell_of_row w3 P1 0 _ _ _ hp3]; rfl), fun u => u.cell (by rw [cell_of_row w3 P1 1 _ _ _ hp3]; rfl), fun u => u.cell (by rw [cell_of_row w3 P1 2 _ _ _ hp3]; rfl), fun u => u.cell (by rw [cell_of_row w3 O1 0 _ _ _ ho3]; rfl), fun u => u.cell (by rw [cell_of_row w3 O1 1 _ _ _ ho3]; rfl), fun u => u.cell (by rw [cell_of_row w3 O1 2 _ _ _ ho3]; rfl)⟩
  have HOK3 := Lib.hid (HOK2.out.no hk3)
  have HK3 := Lib.hid (HK2.out.trans hk3 (fun _ _ e => e))
  have HL3 := Lib.hid (HL.out.no HK3.out)
  have HSL3 : Hid (sll = [44] ∧ BAt w3 ⟨sa, sn, sc, sll⟩) := Lib.hid ⟨HSL.out.1.trans rfl, HSL.out.2.no hk3⟩
  rw [hw3]
  simp only [hO1]
  clear hk3 hp3 ho3 hw3 hO1
  refine Mix.wp_region_mix (fun W => ∃ u : KW w3, W = u.W) [] (by kernel_rfl) ?_
  have HV0 : Hid (Keeps No w3 w3.drew) := Lib.hid ((Keeps.refl _ w3).drew)
  generalize w3.drew = v0 at HV0 ⊢
  have hne : Nonempty (KW w3) := ⟨KW.of _⟩
  have p0 := HFP.out.1
  have p1 := HFP.out.2.1
  have p2 := HFP.out.2.2.1
  have o0 := HFP.out.2.2.2.1
  have o1 := HFP.out.2.2.2.2.1
  have o2 := HFP.out.2.2.2.2.2
  refine Mix.mix_seg 0 1 40 (by kernel_rfl) (by kernel_rfl) rfl rfl ⟨⟨_, HV0.out⟩, rfl⟩ ?_
  simp only [List.drop_succ_cons, List.drop_zero, List.take_succ_cons, List.take_zero]
  repeat (go_big_quiet_step (fail))
  refine wpQuiet_nil ?_
  clear hne p0 p1 p2 o0 o1 o2
  refine Mix.mix_one 1 39 (by kernel_rfl) rfl rfl ?_
  simp only [List.drop_succ_cons, List.drop_zero, List.take_succ_cons, List.take_zero]
  go_wp2_with fail
  refine (check_little 300 ib bb fb v0 (HOK3.out.no HV0.out) (HL3.out.no HV0.out)).mono ?_
  rintro e v1 ⟨rfl, hk⟩
  have HV1 := Lib.hid (HV0.out.trans hk (fun _ _ e => e))
  clear hk
  go_wp2_with fail
  refine ⟨.inr ⟨⟨v1, HV1.out⟩, rfl⟩, ?_⟩
  have hne : Nonempty (KW w3) := ⟨KW.of _⟩
  have p0 := HFP.out.1
  have p1 := HFP.out.2.1
  have p2 := HFP.out.2.2.1
  have o0 := HFP.out.2.2.2.1
  have o1 := HFP.out.2.2.2.2.1
  have o2 := HFP.out.2.2.2.2.2
  refine Mix.mix_seg 2 2 37 (by kernel_rfl) (by kernel_rfl) rfl rfl ⟨⟨_, HV1.out⟩, rfl⟩ ?_
  simp only [List.drop_succ_cons, List.drop_zero, List.take_succ_cons, List.take_zero]
  repeat (go_big_quiet_step (fail))
  refine wpQuiet_nil ?_
  clear hne p0 p1 p2 o0 o1 o2
  refine Mix.mix_one 4 36 (by kernel_rfl) rfl rfl ?_
  simp only [List.drop_succ_cons, List.drop_zero, List.take_succ_cons, List.take_zero]
  go_wp2_with fail
  refine (check_none v1 (HL3.out.no HV1.out)).mono ?_
  rintro e v2 ⟨rfl, hk⟩
  have HV2 := Lib.hid (HV1.out.trans hk (fun _ _ e => e))
  clear hk
  go_wp2_with fail
  refine ⟨.inr ⟨⟨v2, HV2.out⟩, rfl⟩, ?_⟩
  have hne : Nonempty (KW w3) := ⟨KW.of _⟩
  have p0 := HFP.out.1
  have p1 := HFP.out.2.1
  have p2 := HFP.out.2.2.1
  have o0 := HFP.out.2.2.2.1
  have o1 := HFP.out.2.2.2.2.1
  have o2 := HFP.out.2.2.2.2.2
  refine Mix.mix_seg 5 4 32 (by kernel_rfl) (by kernel_rfl) rfl rfl ⟨⟨_, HV2.out⟩, rfl⟩ ?_
  simp only [List.drop_succ_cons, List.drop_zero, List.take_succ_cons, List.take_zero]
  repeat (go_big_quiet_step (fail))
  refine wpQuiet_nil ?_
  clear hne p0 p1 p2 o0 o1 o2
  refine Mix.mix_one 9 31 (by kernel_rfl) rfl rfl ?_
  simp only [List.drop_succ_cons, List.drop_zero, List.take_succ_cons, List.take_zero]
  go_wp2_with fail
  obtain ⟨q44, hq44⟩ : ∃ q, v2.heap.size = q := ⟨_, rfl⟩
  obtain ⟨v3, hv3⟩ : ∃ W, v2.alloc (.cells #[.int .u8 44] 5) = W := ⟨_, rfl⟩
  have HV3 : Hid (Keeps No w3 v3) := Lib.hid (by rw [← hv3]; exact HV2.out.alloc _)
  have HB44 : Hid (v3.heap[q44]? = some (.cells #[.int .u8 44] 5 (0, 0))) := Lib.hid (by rw [← hv3]; exact alloc_at _ _ _ hq44)
  rw [hv3]
  simp only [hq44]
  clear hv3 hq44
  refine ⟨.inr ⟨⟨v3, HV3.out⟩, rfl⟩, ?_⟩
  have hne : Nonempty (KW w3) := ⟨KW.of _⟩
  have p0 := HFP.out.1
  have p1 := HFP.out.2.1
  have p2 := HFP.out.2.2.1
  have o0 := HFP.out.2.2.2.1
  have o1 := HFP.out.2.2.2.2.1
  have o2 := HFP.out.2.2.2.2.2
  refine Mix.mix_seg 10 1 30 (by kernel_rfl) (by kernel_rfl) rfl rfl ⟨⟨_, HV3.out⟩, rfl⟩ ?_
  simp only [List.drop_succ_cons, List.drop_zero, List.take_succ_cons, List.take_zero]
  repeat (go_big_quiet_step (fail))
  refine wpQuiet_nil ?_
  clear hne p0 p1 p2 o0 o1 o2
  refine Mix.mix_one 11 29 (by kernel_rfl) rfl rfl ?_
  simp only [List.drop_succ_cons, List.drop_zero, List.take_succ_cons, List.take_zero]
  go_wp2_with fail
  refine (same_outcome_yes ⟨sa, sn, sc, sll⟩ q44 v3 (HSL3.out.2.no HV3.out) HSL3.out.1 HB44.out).mono ?_
  rintro e v4 ⟨rfl, hk⟩
  have HV4 := Lib.hid (HV3.out.trans hk (fun _ _ e => e))
  clear hk
  go_wp2_with fail
  refine ⟨.inr ⟨⟨v4, HV4.out⟩, rfl⟩, ?_⟩
  have hne : Nonempty (KW w3) := ⟨KW.of _⟩
  have p0 := HFP.out.1
  have p1 := HFP.out.2.1
  have p2 := HFP.out.2.2.1
  have o0 := HFP.out.2.2.2.1
  have o1 := HFP.out.2.2.2.2.1
  have o2 := HFP.out.2.2.2.2.2
  refine Mix.mix_seg 12 3 26 (by kernel_rfl) (by kernel_rfl) rfl rfl ⟨⟨_, HV4.out⟩, rfl⟩ ?_
  simp only [List.drop_succ_cons, List.drop_zero, List.take_succ_cons, List.take_zero]
  repeat (go_big_quiet_step (fail))
  refine wpQuiet_nil ?_
  clear hne p0 p1 p2 o0 o1 o2
  refine Mix.mix_one 15 25 (by kernel_rfl) rfl rfl ?_
  simp only [List.drop_succ_cons, List.drop_zero, List.take_succ_cons, List.take_zero]
  go_wp2_with fail
  refine (run_little2 300 i300 ib bb fb v4 (HOK3.out.no HV4.out) (HL3.out.no HV4.out)).mono ?_
  rintro e v5 ⟨⟨ta, tn, tc, tl⟩, tcc, rfl, hk⟩
  have HV5 := Lib.hid (HV4.out.trans hk (fun _ _ e => e))
  dsimp only [ov, Sl.v]
  clear hk
  go_wp2_with fail
  refine ⟨.inr ⟨⟨v5, HV5.out⟩, rfl⟩, ?_⟩
  refine Mix.mix_one 16 24 (by kernel_rfl) rfl rfl ?_
  simp only [List.drop_succ_cons, List.drop_zero, List.take_succ_cons, List.take_zero]
  have hfld := fld 3 tcc (.slice ta tn tc) v5
  go_wp2_with fail
  clear hfld
  refine ⟨.inr ⟨⟨_, HV5.out⟩, rfl⟩, ?_⟩
  have hne : Nonempty (KW w3) := ⟨KW.of _⟩
  have p0 := HFP.out.1
  have p1 := HFP.out.2.1
  have p2 := HFP.out.2.2.1
  have o0 := HFP.out.2.2.2.1
  have o1 := HFP.out.2.2.2.2.1
  have o2 := HFP.out.2.2.2.2.2
  refine Mix.mix_seg 17 4 20 (by kernel_rfl) (by kernel_rfl) rfl rfl ⟨⟨_, HV5.out⟩, rfl⟩ ?_
  simp only [List.drop_succ_cons, List.drop_zero, List.take_succ_cons, List.take_zero]
  repeat (go_big_quiet_step (fail))
  refine wpQuiet_nil ?_
  clear hne p0 p1 p2 o0 o1 o2
  refine Mix.mix_one 21 19 (by kernel_rfl) rfl rfl ?_
  simp only [List.drop_succ_cons, List.drop_zero, List.take_succ_cons, List.take_zero]
  go_wp2_with fail
  refine (count_little 300 ib bb fb v5 (HOK3.out.no HV5.out)).mono ?_
  rintro e v6 ⟨rfl, hk⟩
  have HV6 := Lib.hid (HV5.out.trans hk (fun _ _ e => e))
  clear hk
  go_wp2_with fail
  refine ⟨.inr ⟨⟨v6, HV6.out⟩, rfl⟩, ?_⟩
  have hne : Nonempty (KW w3) := ⟨KW.of _⟩
  have p0 := HFP.out.1
  have p1 := HFP.out.2.1
  have p2 := HFP.out.2.2.1
  have o0 := HFP.out.2.2.2.1
  have o1 := HFP.out.2.2.2.2.1
  have o2 := HFP.out.2.2.2.2.2
  refine Mix.mix_seg 22 5 14 (by kernel_rfl) (by kernel_rfl) rfl rfl ⟨⟨_, HV6.out⟩, rfl⟩ ?_
  simp only [List.drop_succ_cons, List.drop_zero, List.take_succ_cons, List.take_zero]
  repeat (go_big_quiet_step (fail))
  refine wpQuiet_nil ?_
  clear hne p0 p1 p2 o0 o1 o2
  refine Mix.mix_one 27 13 (by kernel_rfl) rfl rfl ?_
  simp only [List.drop_succ_cons, List.drop_zero, List.take_succ_cons, List.take_zero]
  go_wp2_with fail
  refine (copy0 (lpg 300 ib bb fb) v6 (HOK3.out.no HV6.out) rfl (by show 1 ≤ 100000; omega) (lpg_small 300 ib bb fb)).mono ?_
  rintro e v7 ⟨y, rfl, hym, hys, hyg, hyo, hk⟩
  have HV7 := Lib.hid (HV6.out.trans hk (fun _ _ e => e))
  have HY := Lib.hid (And.intro hym (And.intro hys (And.intro hyg (hyo v7 (Keeps.refl _ _)))))
  clear hym hys hyg hyo
  clear hk
  go_wp2_with fail
  refine ⟨.inr ⟨⟨v7, HV7.out⟩, rfl⟩, ?_⟩
  refine Mix.mix_one 28 12 (by kernel_rfl) rfl rfl ?_
  simp only [List.drop_succ_cons, List.drop_zero, List.take_succ_cons, List.take_zero]
  go_wp2_with fail
  refine (same_copy 300 ib bb fb y v7 (HOK3.out.no HV7.out) HY.out.2.2.2 HY.out.1 HY.out.2.1 HY.out.2.2.1).mono ?_
  rintro e v8 ⟨rfl, hk⟩
  have HV8 := Lib.hid (HV7.out.trans hk (fun _ _ e => e))
  clear hk
  go_wp2_with fail
  refine ⟨.inr ⟨⟨v8, HV8.out⟩, rfl⟩, ?_⟩
  have hne : Nonempty (KW w3) := ⟨KW.of _⟩
  have p0 := HFP.out.1
  have p1 := HFP.out.2.1
  have p2 := HFP.out.2.2.1
  have o0 := HFP.out.2.2.2.1
  have o1 := HFP.out.2.2.2.2.1
  have o2 := HFP.out.2.2.2.2.2
  refine Mix.mix_seg 29 3 9 (by kernel_rfl) (by kernel_rfl) rfl rfl ⟨⟨_, HV8.out⟩, rfl⟩ ?_
  simp only [List.drop_succ_cons, List.drop_zero, List.take_succ_cons, List.take_zero]
  repeat (go_big_quiet_step (fail))
  refine wpQuiet_nil ?_
  clear hne p0 p1 p2 o0 o1 o2
  refine Mix.mix_one 32 8 (by kernel_rfl) rfl rfl ?_
  simp only [List.drop_succ_cons, List.drop_zero, List.take_succ_cons, List.take_zero]
  go_wp2_with fail
  refine (little_any 1 i1 v8).mono ?_
  rintro e v9 ⟨ib', bb', fb', rfl, hyo, hk⟩
  have HV9 := Lib.hid (HV8.out.trans hk (fun _ _ e => e))
  have HY1 := Lib.hid hyo
  clear hyo
  clear hk
  go_wp2_with fail
  refine ⟨.inr ⟨⟨v9, HV9.out⟩, rfl⟩, ?_⟩
  refine Mix.mix_one 33 7 (by kernel_rfl) rfl rfl ?_
  simp only [List.drop_succ_cons, List.drop_zero, List.take_succ_cons, List.take_zero]
  go_wp2_with fail
  refine (same_other 300 1 (by decide) ib bb fb ib' bb' fb' v9 (HOK3.out.no HV9.out) HY1.out).mono ?_
  rintro e v10 ⟨rfl, hk⟩
  have HV10 := Lib.hid (HV9.out.trans hk (fun _ _ e => e))
  clear hk
  go_wp2_with fail
  refine ⟨.inr ⟨⟨v10, HV10.out⟩, rfl⟩, ?_⟩
  have hne : Nonempty (KW w3) := ⟨KW.of _⟩
  have p0 := HFP.out.1
  have p1 := HFP.out.2.1
  have p2 := HFP.out.2.2.1
  have o0 := HFP.out.2.2.2.1
  have o1 := HFP.out.2.2.2.2.1
  have o2 := HFP.out.2.2.2.2.2
  refine Mix.mix_seg 34 4 3 (by kernel_rfl) (by kernel_rfl) rfl rfl ⟨⟨_, HV10.out⟩, rfl⟩ ?_
  simp only [List.drop_succ_cons, List.drop_zero, List.take_succ_cons, List.take_zero]
  repeat (go_big_quiet_step (fail))
  refine wpQuiet_nil ?_
  clear hne p0 p1 p2 o0 o1 o2
  refine Mix.mix_one 38 2 (by kernel_rfl) rfl rfl ?_
  simp only [List.drop_succ_cons, List.drop_zero, List.take_succ_cons, List.take_zero]
  go_wp2_with fail
  refine (pure_const v10).mono ?_
  rintro e v11 ⟨rfl, hk⟩
  have HV11 := Lib.hid (HV10.out.trans hk (fun _ _ e => e))
  clear hk
  go_wp2_with fail
  refine ⟨.inr ⟨⟨v11, HV11.out⟩, rfl⟩, ?_⟩
  have hne : Nonempty (KW w3) := ⟨KW.of _⟩
  have p0 := HFP.out.1
  have p1 := HFP.out.2.1
  have p2 := HFP.out.2.2.1
  have o0 := HFP.out.2.2.2.1
  have o1 := HFP.out.2.2.2.2.1
  have o2 := HFP.out.2.2.2.2.2
  refine Mix.mix_seg 39 2 0 (by kernel_rfl) (by kernel_rfl) rfl rfl ⟨⟨_, HV11.out⟩, rfl⟩ ?_
  simp only [List.drop_succ_cons, List.drop_zero, List.take_succ_cons, List.take_zero]
  repeat (go_big_quiet_step (fail))
  refine wpQuiet_nil ?_
  clear hne p0 p1 p2 o0 o1 o2
  refine Mix.mix_end (by kernel_rfl) ?_
  go_wp2_with fail
  go_returns
  exact ⟨rb rfl rfl, HK3.out.trans HV11.out (fun _ _ e => e)⟩
end Go.Proofs.YtbfjmhfhhlncjaaDoor
