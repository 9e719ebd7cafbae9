/- span.Set: New, Has, Add, Drop, join. -/
import Derived.Test.YtpjilcfmcbapcaaDoorLvWord
import Derived.Test.YtpjilcfmcbapcaaDoorIrRow
namespace Go.Proofs.YtpjilcfmcbapcaaDoor
open Go.RowKit
set_option linter.unusedVariables false
set_option linter.unusedSimpArgs false

theorem p64 (j : Nat) (hj : j < 64) : 2 ^ j < 18446744073709551616 := (Nat.pow_lt_pow_right (by decide) hj : 2 ^ j < 2 ^ 64)
/-- A block holds a set, in W words. -/
def WdAt (w : World) (g X W : Nat) : Prop := w.heap[g]? = some (.cells (ws X W).toArray 81 (0, 0))
abbrev wv (g W : Nat) : Value := .slice (some ⟨g, 0, none⟩) W W
theorem WdAt.cell {w : World} {g X W k : Nat} (h : WdAt w g X W) (hk : k < W) : w.cell? ⟨g, k, none⟩ = some (.int .u64 (wordAt X k : Nat)) := by
  rw [cell_of_row w g _ _ _ _ h, List.getElem?_toArray]; exact ws_get hk
theorem WdAt.frozen {w : World} {g X W : Nat} (h : WdAt w g X W) (k : Nat) : w.frozen? ⟨g, k, none⟩ = false := frozen_of_row w g k _ _ h
theorem WdAt.put {w : World} {g X Y W k : Nat} (h : WdAt w g X W) (e : (ws X W).set k (.int .u64 (wordAt Y k : Nat)) = ws Y W) : WdAt (w.setCell ⟨g, k, none⟩ (.int .u64 (wordAt Y k : Nat))) g Y W := by
  unfold WdAt
  rw [heap_setCell_same w g k _ _ _ h, ← e]; simp
theorem WdAt.lt {w : World} {g X W : Nat} (h : WdAt w g X W) : g < w.heap.size := (Array.getElem?_eq_some_iff.1 h).1
theorem WdAt.keep {S : Nat → Prop} {w w' : World} {g X W : Nat} (h : WdAt w g X W) (hk : Keeps S w w') (hS : ¬ S g) : WdAt w' g X W := (hk.block g h.lt hS).trans h
set_option maxHeartbeats 1600000 in
theorem shas_any (w : World) (g X W r : Nat) (h : WdAt w g X W) (hr : r < 64 * W) (hW : W ≤ 100000) :
    Calls Tryd.prog 28 #[wv g W, .int .i64 r] w fun e w' => e = .returned (.bool (X.testBit r)) ∧ w' = w := by
  have hc := h.cell (k := r / 64) (by omega)
  have e1 := and63 r (by omega)
  have hz := word_lt X (r / 64)
  have e2 := shr_u64 (wordAt X (r / 64)) (r % 64) (by omega)
  have e3 := and1 (wordAt X (r / 64) / 2 ^ (r % 64)) (Nat.lt_of_le_of_lt (Nat.div_le_self _ _) hz)
  have hb := word_has X r
  generalize wordAt X (r / 64) = z at *
  generalize z / 2 ^ (r % 64) = y at *
  have i0 : (0 : Int) ≤ (r : Int) / 64 := by omega
  have i1 : (r : Int) / 64 < (W : Int) := by omega
  have i2 : ((r : Int) / 64).toNat = r / 64 := by omega
  have e4 : (((y % 2 : Nat) : Int) == 1) = X.testBit r := by rw [← hb]; exact decide_eq_decide.2 (by omega)
  generalize hm : r % 64 = m at *
  generalize hp : y % 2 = p at *
  clear hz hb hm hp
  go_enter Tryd.func28, Tryd.ntmps28
  go_wp2_with fail
  go_returns
  exact ⟨rfl, rfl⟩
set_option maxHeartbeats 1600000 in
theorem sadd_any (w : World) (g X W r : Nat) (h : WdAt w g X W) (hr : r < 64 * W) (hW : W ≤ 100000) :
    Calls Tryd.prog 46 #[wv g W, .int .i64 r] w fun e w' => e = .returned (.tuple #[]) ∧ WdAt w' g (addB X r) W ∧ Keeps (fun q => q = g) w w' := by
  have hc := h.cell (k := r / 64) (by omega)
  have hf := h.frozen (r / 64)
  have e1 := and63 r (by omega)
  have hz := word_lt X (r / 64)
  have e2 := shl_u64 (r % 64) (by omega)
  have e3 := u64_or_nat (wordAt X (r / 64)) (2 ^ (r % 64)) hz (p64 _ (by omega))
  have HP := Lib.hid (h.put (ws_add X r W))
  rw [word_add] at e3
  generalize wordAt X (r / 64) = z at *
  generalize wordAt (addB X r) (r / 64) = y at *
  generalize 2 ^ (r % 64) = q at *
  have i0 : (0 : Int) ≤ (r : Int) / 64 := by omega
  have i1 : (r : Int) / 64 < (W : Int) := by omega
  have i2 : ((r : Int) / 64).toNat = r / 64 := by omega
  generalize hm : r % 64 = m at *
  clear hz hm h
  go_enter Tryd.func46, Tryd.ntmps46
  go_wp2_with fail
  go_returns
  exact ⟨rfl, HP.out, (Keeps.refl (fun q => q = g) w).setCell (.inl rfl) _⟩
set_option maxHeartbeats 1600000 in
theorem sdrop_any (w : World) (g X W r : Nat) (h : WdAt w g X W) (hr : r < 64 * W) (hW : W ≤ 100000) :
    Calls Tryd.prog 44 #[wv g W, .int .i64 r] w fun e w' => e = .returned (.tuple #[]) ∧ WdAt w' g (dropB X r) W ∧ Keeps (fun q => q = g) w w' := by
  have hc := h.cell (k := r / 64) (by omega)
  have hf := h.frozen (r / 64)
  have e1 := and63 r (by omega)
  have hz := word_lt X (r / 64)
  have e2 := shl_u64 (r % 64) (by omega)
  have e3 := u64_andNot_nat (wordAt X (r / 64)) (2 ^ (r % 64)) hz (p64 _ (by omega))
  have HP := Lib.hid (h.put (ws_drop X r W))
  rw [word_drop] at e3
  generalize wordAt X (r / 64) = z at *
  generalize wordAt (dropB X r) (r / 64) = y at *
  generalize 2 ^ (r % 64) = q at *
  have i0 : (0 : Int) ≤ (r : Int) / 64 := by omega
  have i1 : (r : Int) / 64 < (W : Int) := by omega
  have i2 : ((r : Int) / 64).toNat = r / 64 := by omega
  generalize hm : r % 64 = m at *
  clear hz hm h
  go_enter Tryd.func44, Tryd.ntmps44
  go_wp2_with fail
  go_returns
  exact ⟨rfl, HP.out, (Keeps.refl (fun q => q = g) w).setCell (.inl rfl) _⟩
theorem infoU : (Tryd.prog.info? 81).map (fun i => (i.zero, i.size, i.bytes)) = some (some (.int .u64 0), 1, 8) := by kernel_rfl
/-- How many words a set of registers below R takes. -/
def wordsOf (R : Nat) : Nat := (R + 63) / 64
theorem own_full {w : World} {B g n : Nat} {e : TypeId} {xs : List Value} (h : w.ownsRow B e 1 (.slice (some ⟨g, 0, none⟩) n n) n xs) : w.heap[g]? = some (.cells xs.toArray e (0, 0)) := by
  rcases h.2 with ⟨h1, _⟩ | ⟨g', cap, cur, h1, _, h3, _, _, h4, h5⟩
  · cases h1
  · injection h1 with e1 e2 e3
    injection e1 with e1
    injection e1 with e1 _ _
    subst e1; subst e3
    have : cur = xs.toArray := by rw [← h5, List.take_of_length_le (by simp [h4])]
    rw [h3, this]
set_option maxHeartbeats 1600000 in
theorem snew_any (w : World) (R : Nat) (hR : R ≤ 100000) :
    Calls Tryd.prog 41 #[.int .i64 R] w fun e w' => e = .returned (wv w.heap.size (wordsOf R)) ∧ WdAt w' w.heap.size 0 (wordsOf R) ∧ Keeps No w w' := by
  obtain ⟨i1, hi1, z1, z2, z3⟩ := info_parts infoU
  have HIS := Lib.hid (And.intro hi1 (And.intro z1 (And.intro z2 z3)))
  clear hi1 z1 z2 z3
  have em : max (R : Int) 0 = (R : Int) := by omega
  have e2 : ((R : Int) + 63).tdiv 64 = ((wordsOf R : Nat) : Int) := by rw [Int.tdiv_eq_ediv_of_nonneg (by omega)]; unfold wordsOf; omega
  have hw : wordsOf R ≤ 100000 := by unfold wordsOf; omega
  generalize wordsOf R = W at *
  have HB : Hid (w.heap.size ≤ w.heap.size) := Lib.hid (Nat.le_refl _)
  go_enter Tryd.func41, Tryd.ntmps41
  go_wp2_with (at_make; refine wpList_make_full _ rfl _ _ 66 rfl w.heap.size 81 i1 _ 1 Tryd.underlying66 HIS.out.1 HIS.out.2.1 HIS.out.2.2.1 .i64 .i64 (W : Int) (W : Int) W rfl rfl rfl rfl (by rw [HIS.out.2.2.2]; omega) (by unfold maxLen; omega) HB.out ?_)
  intro w2 ho2 hg2
  have HW : Hid (WdAt w2 w.heap.size 0 W) := Lib.hid (by
    have h := ho2
    rw [toList_madeCells_one] at h
    unfold WdAt
    rw [own_full h, ws_zero])
  have HK : Hid (Keeps No w w2) := Lib.hid ((Keeps.refl _ _).grown hg2 (fun q e => by cases e))
  clear ho2 hg2
  go_wp2_with fail
  go_returns
  exact ⟨rfl, HW.out, HK.out⟩
theorem mix_word {X Y W i : Nat} {row : List Value} (h : row = (ws (X ||| Y) W).take i ++ (ws X W).drop i) (hi : i < W) :
    row.set i (.int .u64 (wordAt (X ||| Y) i : Nat)) = (ws (X ||| Y) W).take (i + 1) ++ (ws X W).drop (i + 1) := by
  subst h
  have l1 : ((ws (X ||| Y) W).take i).length = i := by rw [List.length_take, ws_len]; omega
  rw [List.set_append_right _ _ (by omega), l1, Nat.sub_self]
  obtain ⟨h1, h2⟩ := List.getElem?_eq_some_iff.1 (ws_get (X := X) hi)
  obtain ⟨h3, h4⟩ := List.getElem?_eq_some_iff.1 (ws_get (X := X ||| Y) hi)
  rw [List.drop_eq_getElem_cons h1, List.set_cons_zero, List.take_succ_eq_append_getElem h3, h4, List.append_assoc]; rfl
theorem more_iff {X Y W : Nat} (hX : X < 2 ^ (64 * W)) (hY : Y < 2 ^ (64 * W)) : (∀ k, k < W → (wordAt Y k &&& (18446744073709551615 - wordAt X k)) = 0) ↔ X ||| Y = X := by
  have bit : ∀ k j, k < W → j < 64 → (wordAt Y k &&& (18446744073709551615 - wordAt X k)).testBit j = (Y.testBit (64 * k + j) && !X.testBit (64 * k + j)) := fun k j hk hj => by
    have e : 18446744073709551615 - wordAt X k = 2 ^ 64 - (wordAt X k + 1) := by omega
    rw [Nat.testBit_and, e, Nat.testBit_two_pow_sub_succ (word_lt X k), tb_word, tb_word, decide_eq_true hj]
    simp
  constructor
  · intro h
    refine Sub.or_eq fun j hj => ?_
    by_cases hjW : j < 64 * W
    · have h1 := bit (j / 64) (j % 64) (by omega) (by omega)
      rw [h _ (by omega), Nat.zero_testBit, show 64 * (j / 64) + j % 64 = j by omega, hj, Bool.true_and] at h1
      cases hx : X.testBit j with
      | true => rfl
      | false => rw [hx] at h1; cases h1
    · rw [out_bit hY (by omega)] at hj; cases hj
  · intro h k hk
    refine Nat.eq_of_testBit_eq fun j => ?_
    rw [Nat.zero_testBit]
    by_cases hj : j < 64
    · rw [bit k j hk hj]
      cases hy : Y.testBit (64 * k + j) with
      | false => rfl
      | true =>
        have := sub_or_right X Y _ hy
        rw [h] at this
        rw [this]; rfl
    · rw [Nat.testBit_and, tb_word, decide_eq_false hj]; rfl
set_option maxHeartbeats 3200000 in
theorem sjoin_any (w : World) (g q X Y W : Nat) (h : WdAt w g X W) (h2 : WdAt w q Y W) (hne : q ≠ g) (hW : W ≤ 100000) (hX : X < 2 ^ (64 * W)) (hY : Y < 2 ^ (64 * W)) :
    Calls Tryd.prog 56 #[wv g W, wv q W] w fun e w' => e = .returned (.bool (decide (X ||| Y ≠ X))) ∧ WdAt w' g (X ||| Y) W ∧ Keeps (fun k => k = g) w w' := by
  have HH := Lib.hid h
  have HQ := Lib.hid h2
  clear h h2
  go_enter Tryd.func56, Tryd.ntmps56
  go_wp2_with fail
  go_loopg [5, 10] W (fun k v m wr => ∃ i mm : Nat, v = .int .u64 (mm : Int) ∧ mm < 18446744073709551616 ∧ m = .int .i64 (i : Int) ∧ i ≤ W ∧ k = W - i ∧ Hid (mm = 0 ↔ ∀ k, k < i → (wordAt Y k &&& (18446744073709551615 - wordAt X k)) = 0) ∧ Hid (wr.heap[g]? = some (.cells ((ws (X ||| Y) W).take i ++ (ws X W).drop i).toArray 81 (0, 0))) ∧ Hid (Keeps (fun k => k = g) w wr))
  case atStart => exact ⟨0, 0, rfl, by decide, rfl, Nat.zero_le _, rfl, Lib.hid ⟨fun _ k hk => absurd hk (by omega), fun _ => rfl⟩, Lib.hid HH.out, Lib.hid (Keeps.refl _ _)⟩
  case round =>
    obtain ⟨i, mm, rfl, hmm, rfl, hi, hg, HM, HR, HK⟩ := hrel
    by_cases hlt : i < W
    · have hlt' : (i : Int) < (W : Int) := by omega
      have i0 : (0 : Int) ≤ (i : Int) := by omega
      have hx := word_lt X i
      have hy := word_lt Y i
      have hcg : wr.cell? ⟨g, i, none⟩ = some (.int .u64 (wordAt X i : Nat)) := by
        rw [cell_of_row wr g _ _ _ _ HR.out, List.getElem?_toArray, List.getElem?_append_right (by rw [List.length_take, ws_len]; omega), List.getElem?_drop, List.length_take, ws_len, show i + (i - min i W) = i by omega]
        exact ws_get hlt
      have hfg : wr.frozen? ⟨g, i, none⟩ = false := frozen_of_row wr g i _ _ HR.out
      have hcq : wr.cell? ⟨q, i, none⟩ = some (.int .u64 (wordAt Y i : Nat)) := HK.out.cell (HQ.out.cell hlt) hne
      have ea := u64_andNot_nat (wordAt Y i) (wordAt X i) hy hx
      have hd : wordAt Y i &&& (18446744073709551615 - wordAt X i) < 18446744073709551616 := Nat.lt_of_le_of_lt Nat.and_le_left hy
      have eo := u64_or_nat mm (wordAt Y i &&& (18446744073709551615 - wordAt X i)) hmm hd
      have ex := u64_or_nat (wordAt X i) (wordAt Y i) hx hy
      rw [word_or] at ex
      have HR2 : Hid ((wr.setCell ⟨g, i, none⟩ (.int .u64 (wordAt (X ||| Y) i : Nat))).heap[g]? = some (.cells ((ws (X ||| Y) W).take (i + 1) ++ (ws X W).drop (i + 1)).toArray 81 (0, 0))) := Lib.hid (by
        rw [heap_setCell_same wr g i _ _ _ HR.out, ← mix_word rfl hlt]; simp)
      have HM2 : Hid ((mm ||| (wordAt Y i &&& (18446744073709551615 - wordAt X i))) = 0 ↔ ∀ k, k < i + 1 → (wordAt Y k &&& (18446744073709551615 - wordAt X k)) = 0) := Lib.hid (by
        rw [Nat.or_eq_zero_iff, HM.out]
        exact ⟨fun h k hk => by
          by_cases e : k = i
          · subst e; exact h.2
          · exact h.1 k (by omega), fun h => ⟨fun k hk => h k (by omega), h i (by omega)⟩⟩)
      have hd2 : mm ||| (wordAt Y i &&& (18446744073709551615 - wordAt X i)) < 18446744073709551616 := Nat.or_lt_two_pow (n := 64) hmm hd
      have HK2 : Hid (Keeps (fun k => k = g) w (wr.setCell ⟨g, i, none⟩ (.int .u64 (wordAt (X ||| Y) i : Nat)))) := Lib.hid (HK.out.setCell (.inl rfl) _)
      generalize wordAt (X ||| Y) i = z at *
      generalize wordAt Y i &&& (18446744073709551615 - wordAt X i) = d at *
      generalize mm ||| d = d2 at *
      generalize wordAt X i = x at *
      generalize wordAt Y i = y at *
      clear hx hy hd HM HK HR hX hY
      go_wp2_with fail
      go_roundg (W - (i + 1))
      case rel => exact ⟨i + 1, d2, rfl, hd2, by go_num, by omega, rfl, HM2, HR2, HK2⟩
      case measure => omega
    · obtain rfl : i = W := by omega
      have hlt' : ¬ (i : Int) < (i : Int) := by omega
      have HF : Hid (((mm : Int) != 0) = !decide (X ||| Y = X)) := Lib.hid (by
        have := HM.out.trans (more_iff hX hY)
        show (!((mm : Int) == 0)) = _
        congr 1
        exact decide_eq_decide.2 (by rw [← this]; omega))
      go_wp2_with fail
      go_returns
      refine ⟨rb rfl HF.out, ?_, HK.out⟩
      have h := HR.out
      rw [List.take_of_length_le (by rw [ws_len]; omega), List.drop_eq_nil_of_le (by rw [ws_len]; omega), List.append_nil] at h
      exact h
end Go.Proofs.YtpjilcfmcbapcaaDoor
