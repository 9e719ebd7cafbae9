/- The law IrMemory: walked. -/
import Derived.Test.YtbfjmhfhhlncjaaDoorIrMemProg
import Derived.Test.YtbfjmhfhhlncjaaDoorIrAwake
import Derived.Test.YtbfjmhfhhlncjaaDoorWordLow
import Derived.Deep.CutBlock
import Derived.Deep.DeepCutAuto
namespace Go.Proofs.YtbfjmhfhhlncjaaDoor
open Go.RowKit
set_option linter.unusedVariables false
set_option linter.unusedSimpArgs false
theorem widths_at (w : World) (B0 k : Nat) (hk : k < 4) (h : w.heap.size = B0) : ∃ b : Nat, (b = 1 ∨ b = 2 ∨ b = 4 ∨ b = 8) ∧ (w.alloc (.cells #[.int .i64 8, .int .i64 16, .int .i64 32, .int .i64 64] 3)).cell? ⟨B0, k, none⟩ = some (.int .i64 (8 * (b : Int))) := by
  have h1 : ∀ k, (w.alloc (.cells #[.int .i64 8, .int .i64 16, .int .i64 32, .int .i64 64] 3)).cell? ⟨B0, k, none⟩ = (#[Value.int .i64 8, .int .i64 16, .int .i64 32, .int .i64 64] : Array Value)[k]? := fun k => cell_of_row _ B0 k _ _ _ (alloc_at _ _ _ h)
  have hc : k = 0 ∨ k = 1 ∨ k = 2 ∨ k = 3 := by omega
  rcases hc with rfl | rfl | rfl | rfl
  · exact ⟨1, by omega, (h1 0).trans rfl⟩
  · exact ⟨2, by omega, (h1 1).trans rfl⟩
  · exact ⟨4, by omega, (h1 2).trans rfl⟩
  · exact ⟨8, by omega, (h1 3).trans rfl⟩
def mA (gl : Bool) (at_ n : Int) (b : Nat) (sg : Bool) (B : Nat) : MA := ⟨gl, at_, n, 8 * (b : Int), sg, b, B, B + 1 + 1, B + 1 + 1 + 1, B + 1, B + 1 + 1 + 1 + 1⟩
def mchain (wz : World) (A : MA) : World := (((((wz.alloc (.cells (icells A.ixs).toArray 27)).alloc (.cells #[.string lgname, .int .i64 24, .slice none 0 0] 49)).alloc (.cells #[.int .i64 24] 3)).alloc (.cells #[.slice (some ⟨A.ib, 0, none⟩) 9 9] 45)).alloc (.cells A.fn.cells.toArray 42)).alloc (.cells #[.slice (some ⟨A.gb, 0, none⟩) 1 1, .slice (some ⟨A.fb, 0, none⟩) 1 1, .int .i64 0] 36)
theorem mchain_keeps (wz : World) (A : MA) : Keeps No wz (mchain wz A) := by
  unfold mchain
  repeat (first | exact Keeps.refl _ _ | refine Keeps.alloc ?_ _)
theorem mmem_of (wz : World) (gl : Bool) (at_ n : Int) (b : Nat) (sg : Bool) (B : Nat) (h : wz.heap.size = B) : MMem (mchain wz (mA gl at_ n b sg B)) (mA gl at_ n b sg B) := by
  refine ⟨?_, ?_, ?_, ?_, ?_⟩
  · show (mchain wz (mA gl at_ n b sg B)).heap[B]? = _
    unfold mchain
    iterate 5 rw [Below.heap_alloc _ _ _ (by simp [h] <;> omega)]
    exact alloc_at _ _ _ h
  · show (mchain wz (mA gl at_ n b sg B)).heap[B + 1 + 1]? = _
    unfold mchain
    iterate 3 rw [Below.heap_alloc _ _ _ (by simp [h] <;> omega)]
    exact alloc_at _ _ _ (by simp [h])
  · show (mchain wz (mA gl at_ n b sg B)).heap[B + 1 + 1 + 1]? = _
    unfold mchain
    iterate 2 rw [Below.heap_alloc _ _ _ (by simp [h] <;> omega)]
    exact alloc_at _ _ _ (by simp [h])
  · show (mchain wz (mA gl at_ n b sg B)).heap[B + 1]? = _
    unfold mchain
    iterate 4 rw [Below.heap_alloc _ _ _ (by simp [h] <;> omega)]
    exact alloc_at _ _ _ (by simp [h])
  · show (mchain wz (mA gl at_ n b sg B)).heap[B + 1 + 1 + 1 + 1]? = _
    unfold mchain
    iterate 1 rw [Below.heap_alloc _ _ _ (by simp [h] <;> omega)]
    exact alloc_at _ _ _ (by simp [h])
set_option maxRecDepth 100000 in
set_option maxHeartbeats 12800000 in
theorem mem_walk_false (n which at0 : Int) (hn : I64 n) (hw : I64 which) (ha : I64 at0) (w : World) (L : Laid w) : Calls Tryd.prog 6 #[.int .i64 n, .int .i64 which, .int .i64 at0, .bool false] w fun e w' => e = .returned (.bool true) ∧ Keeps No w w' := by
  have HL := Lib.hid L
  have HA := Lib.hid (And.intro hn (And.intro hw ha))
  clear L hn hw ha
  obtain ⟨K, hK⟩ : ∃ K, IntKind.u64.wrap which % 4 = K := ⟨_, rfl⟩
  have hK1 : 0 ≤ K ∧ K < 4 := by rw [← hK]; exact ⟨Int.emod_nonneg _ (by decide), Int.emod_lt_of_pos _ (by decide)⟩
  have HK := Lib.hid hK
  clear hK
  obtain ⟨k, rfl⟩ : ∃ k : Nat, K = k := ⟨K.toNat, by omega⟩
  have hk : k < 4 := by omega
  have hki : (k : Int) < 4 := by omega
  have hk0 : (0 : Int) ≤ (k : Int) := by omega
  clear hK1
  obtain ⟨T, hT⟩ : ∃ K, IntKind.u64.wrap at0 % 40 = K := ⟨_, rfl⟩
  have hT1 : 0 ≤ T ∧ T < 40 := by rw [← hT]; exact ⟨Int.emod_nonneg _ (by decide), Int.emod_lt_of_pos _ (by decide)⟩
  have HT := Lib.hid hT
  clear hT
  obtain ⟨B0, hB0⟩ : ∃ q, w.heap.size = q := ⟨_, rfl⟩
  have HB0 := Lib.hid hB0
  obtain ⟨b, hb, hcb⟩ := widths_at w B0 k hk hB0
  obtain ⟨sg, hsg⟩ : ∃ s, (bits BinOp.and IntKind.i64 which 4 == 4) = s := ⟨_, rfl⟩
  go_enter Tryd.func6, Tryd.ntmps6
  go_wp2_with fail
  refine (low_as which 4 k HA.out.2.1 (by decide) HK _).mono ?_
  rintro e w1 ⟨rfl, rfl⟩
  go_wp2_with fail
  refine (low_as at0 40 T HA.out.2.2 (by decide) HT _).mono ?_
  rintro e w1 ⟨rfl, rfl⟩
  obtain ⟨at_, hat⟩ : ∃ a, T - 8 = a := ⟨_, rfl⟩
  have hat1 : -8 ≤ at_ ∧ at_ ≤ 31 := by omega
  have hwt : IntKind.i64.wrap (T - 8) = T - 8 := by rw [IntKind.wrap_i64]; omega
  go_upto_region 7 with fail
  obtain ⟨wz, hwz⟩ : ∃ W, (((w.alloc (.cells #[.int .i64 8, .int .i64 16, .int .i64 32, .int .i64 64] 3)).alloc (.cells #[.int .i64 (8 * (b : Int)), .bool sg] 23)).alloc (.cells #[.int .i64 7, .int .i64 0, .int .i64 0, .int .i64 0, .int .i64 0, .int .i64 0, .int .i64 0, .bool false, .slice none 0 0, .slice none 0 0, .slice none 0 0] 27)) = W := ⟨_, rfl⟩
  rw [hwz]
  have hkz : Keeps No w wz := by rw [← hwz]; exact (((Keeps.refl No w).alloc _).alloc _).alloc _
  have HKZ := Lib.hid hkz
  have hsz : wz.heap.size = B0 + 1 + 1 + 1 := by rw [← hwz]; simp [hB0]
  obtain ⟨B, hB⟩ : ∃ q, wz.heap.size = q := ⟨_, rfl⟩
  have HB := Lib.hid hB
  have r1 : wz.heap[B0 + 1]? = some (.cells #[.int .i64 (8 * (b : Int)), .bool sg] 23 (0, 0)) := by rw [← hwz, Below.heap_alloc _ _ _ (by simp [hB0])]; exact alloc_at _ _ _ (by simp [hB0])
  have r2 : wz.heap[B0 + 1 + 1]? = some (.cells #[.int .i64 7, .int .i64 0, .int .i64 0, .int .i64 0, .int .i64 0, .int .i64 0, .int .i64 0, .bool false, .slice none 0 0, .slice none 0 0, .slice none 0 0] 27 (0, 0)) := by rw [← hwz]; exact alloc_at _ _ _ (by simp [hB0])
  have v0 : wz.cell? ⟨B0 + 1, 0, none⟩ = some (.int .i64 (8 * (b : Int))) := by rw [cell_of_row wz _ 0 _ _ _ r1]; rfl
  have v1 : wz.cell? ⟨B0 + 1, 1, none⟩ = some (.bool sg) := by rw [cell_of_row wz _ 1 _ _ _ r1]; rfl
  have u0 : wz.cell? ⟨B0 + 1 + 1, 0, none⟩ = some (.int .i64 7) := by rw [cell_of_row wz _ 0 _ _ _ r2]; rfl
  have u1 : wz.cell? ⟨B0 + 1 + 1, 1, none⟩ = some (.int .i64 0) := by rw [cell_of_row wz _ 1 _ _ _ r2]; rfl
  have u2 : wz.cell? ⟨B0 + 1 + 1, 2, none⟩ = some (.int .i64 0) := by rw [cell_of_row wz _ 2 _ _ _ r2]; rfl
  have u3 : wz.cell? ⟨B0 + 1 + 1, 3, none⟩ = some (.int .i64 0) := by rw [cell_of_row wz _ 3 _ _ _ r2]; rfl
  have u4 : wz.cell? ⟨B0 + 1 + 1, 4, none⟩ = some (.int .i64 0) := by rw [cell_of_row wz _ 4 _ _ _ r2]; rfl
  have u5 : wz.cell? ⟨B0 + 1 + 1, 5, none⟩ = some (.int .i64 0) := by rw [cell_of_row wz _ 5 _ _ _ r2]; rfl
  have u6 : wz.cell? ⟨B0 + 1 + 1, 6, none⟩ = some (.int .i64 0) := by rw [cell_of_row wz _ 6 _ _ _ r2]; rfl
  have u7 : wz.cell? ⟨B0 + 1 + 1, 7, none⟩ = some (.bool false) := by rw [cell_of_row wz _ 7 _ _ _ r2]; rfl
  have u8 : wz.cell? ⟨B0 + 1 + 1, 8, none⟩ = some (.slice none 0 0) := by rw [cell_of_row wz _ 8 _ _ _ r2]; rfl
  have u9 : wz.cell? ⟨B0 + 1 + 1, 9, none⟩ = some (.slice none 0 0) := by rw [cell_of_row wz _ 9 _ _ _ r2]; rfl
  have u10 : wz.cell? ⟨B0 + 1 + 1, 10, none⟩ = some (.slice none 0 0) := by rw [cell_of_row wz _ 10 _ _ _ r2]; rfl
  clear hwz hkz r1 r2 hwt hcb hsz
  go_wp2_with fail
  change Calls Tryd.prog 22 #[pv (mA false at_ n b sg B).pg, .slice none 0 0, .int .i64 100] (mchain wz (mA false at_ n b sg B)) _
  have HKM := Lib.hid (mmem_of wz false at_ n b sg B HB.out)
  have HKW := Lib.hid (HKZ.out.trans (mchain_keeps wz (mA false at_ n b sg B)) (fun _ _ e => e))
  generalize mchain wz (mA false at_ n b sg B) = W at HKM HKW ⊢
  have HOK : Hid (mA false at_ n b sg B).ok := Lib.hid ⟨hat1, HA.out.1, hb, rfl⟩
  have hb8 : 1 ≤ b ∧ b ≤ 8 := by omega
  clear HKZ HB hB v0 v1 u0 u1 u2 u3 u4 u5 u6 u7 u8 u9 u10 hb
  by_cases h0 : 0 ≤ at_
  · by_cases h1 : at_ + (b : Int) ≤ 24
    · have h2 : at_ + (b : Int) ≤ 32 := by omega
      have hin : inM false at_ b = true := by unfold inM; simp; omega
      refine (mem_yes (A := mA false at_ n b sg B) HOK.out hin W HKM.out (HL.out.no HKW.out)).mono ?_
      rintro e w4 ⟨⟨sa, sn, sc, sl⟩, rfl, hk4⟩
      have HK4 := Lib.hid (HKW.out.trans hk4 (fun _ _ e => e))
      clear hk4 HKM HKW HOK hin
      dsimp only [ov, Sl.v]
      go_wp2_with fail
      refine (awake_any _ (HL.out.no (HK4.out.alloc _))).mono ?_
      rintro e w5 ⟨rfl, hk5⟩
      go_wp2_with fail
      go_returns
      exact ⟨rb rfl rfl, (HK4.out.alloc _).trans hk5 (fun _ _ e => e)⟩
    · by_cases h2 : at_ + (b : Int) ≤ 32
      · have e1 : 0 ≤ at_ := h0
        have hin : inM false at_ b = true := by unfold inM; simp; omega
        refine (mem_yes (A := mA false at_ n b sg B) HOK.out hin W HKM.out (HL.out.no HKW.out)).mono ?_
        rintro e w4 ⟨⟨sa, sn, sc, sl⟩, rfl, hk4⟩
        have HK4 := Lib.hid (HKW.out.trans hk4 (fun _ _ e => e))
        clear hk4 HKM HKW HOK hin
        dsimp only [ov, Sl.v]
        go_wp2_with fail
        refine (awake_any _ (HL.out.no (HK4.out.alloc _))).mono ?_
        rintro e w5 ⟨rfl, hk5⟩
        go_wp2_with fail
        go_returns
        exact ⟨rb rfl rfl, (HK4.out.alloc _).trans hk5 (fun _ _ e => e)⟩
      · have e1 : 0 ≤ at_ := h0
        have hin : inM false at_ b = false := by unfold inM; simp; omega
        refine (mem_no (A := mA false at_ n b sg B) HOK.out hin W HKM.out (HL.out.no HKW.out)).mono ?_
        rintro e w4 ⟨c, ⟨sa, sn, sc, sl⟩, rfl, hk4⟩
        have HK4 := Lib.hid (HKW.out.trans hk4 (fun _ _ e => e))
        clear hk4 HKM HKW HOK hin
        dsimp only [ov, Sl.v]
        go_wp2_with fail
        refine (awake_any _ (HL.out.no (HK4.out.alloc _))).mono ?_
        rintro e w5 ⟨rfl, hk5⟩
        go_wp2_with fail
        go_returns
        exact ⟨rb rfl rfl, (HK4.out.alloc _).trans hk5 (fun _ _ e => e)⟩
  · have e1 : ¬ 0 ≤ at_ := h0
    have hin : inM false at_ b = false := by unfold inM; simp; omega
    refine (mem_no (A := mA false at_ n b sg B) HOK.out hin W HKM.out (HL.out.no HKW.out)).mono ?_
    rintro e w4 ⟨c, ⟨sa, sn, sc, sl⟩, rfl, hk4⟩
    have HK4 := Lib.hid (HKW.out.trans hk4 (fun _ _ e => e))
    clear hk4 HKM HKW HOK hin
    dsimp only [ov, Sl.v]
    go_wp2_with fail
    refine (awake_any _ (HL.out.no (HK4.out.alloc _))).mono ?_
    rintro e w5 ⟨rfl, hk5⟩
    go_wp2_with fail
    go_returns
    exact ⟨rb rfl rfl, (HK4.out.alloc _).trans hk5 (fun _ _ e => e)⟩
set_option maxRecDepth 100000 in
set_option maxHeartbeats 12800000 in
theorem mem_walk_true (n which at0 : Int) (hn : I64 n) (hw : I64 which) (ha : I64 at0) (w : World) (L : Laid w) : Calls Tryd.prog 6 #[.int .i64 n, .int .i64 which, .int .i64 at0, .bool true] w fun e w' => e = .returned (.bool true) ∧ Keeps No w w' := by
  have HL := Lib.hid L
  have HA := Lib.hid (And.intro hn (And.intro hw ha))
  clear L hn hw ha
  obtain ⟨K, hK⟩ : ∃ K, IntKind.u64.wrap which % 4 = K := ⟨_, rfl⟩
  have hK1 : 0 ≤ K ∧ K < 4 := by rw [← hK]; exact ⟨Int.emod_nonneg _ (by decide), Int.emod_lt_of_pos _ (by decide)⟩
  have HK := Lib.hid hK
  clear hK
  obtain ⟨k, rfl⟩ : ∃ k : Nat, K = k := ⟨K.toNat, by omega⟩
  have hk : k < 4 := by omega
  have hki : (k : Int) < 4 := by omega
  have hk0 : (0 : Int) ≤ (k : Int) := by omega
  clear hK1
  obtain ⟨T, hT⟩ : ∃ K, IntKind.u64.wrap at0 % 40 = K := ⟨_, rfl⟩
  have hT1 : 0 ≤ T ∧ T < 40 := by rw [← hT]; exact ⟨Int.emod_nonneg _ (by decide), Int.emod_lt_of_pos _ (by decide)⟩
  have HT := Lib.hid hT
  clear hT
  obtain ⟨B0, hB0⟩ : ∃ q, w.heap.size = q := ⟨_, rfl⟩
  have HB0 := Lib.hid hB0
  obtain ⟨b, hb, hcb⟩ := widths_at w B0 k hk hB0
  obtain ⟨sg, hsg⟩ : ∃ s, (bits BinOp.and IntKind.i64 which 4 == 4) = s := ⟨_, rfl⟩
  go_enter Tryd.func6, Tryd.ntmps6
  go_wp2_with fail
  refine (low_as which 4 k HA.out.2.1 (by decide) HK _).mono ?_
  rintro e w1 ⟨rfl, rfl⟩
  go_wp2_with fail
  refine (low_as at0 40 T HA.out.2.2 (by decide) HT _).mono ?_
  rintro e w1 ⟨rfl, rfl⟩
  obtain ⟨at_, hat⟩ : ∃ a, T - 8 = a := ⟨_, rfl⟩
  have hat1 : -8 ≤ at_ ∧ at_ ≤ 31 := by omega
  have hwt : IntKind.i64.wrap (T - 8) = T - 8 := by rw [IntKind.wrap_i64]; omega
  go_upto_region 7 with fail
  obtain ⟨wz, hwz⟩ : ∃ W, (((w.alloc (.cells #[.int .i64 8, .int .i64 16, .int .i64 32, .int .i64 64] 3)).alloc (.cells #[.int .i64 (8 * (b : Int)), .bool sg] 23)).alloc (.cells #[.int .i64 8, .int .i64 0, .int .i64 0, .int .i64 0, .int .i64 0, .int .i64 0, .int .i64 0, .bool false, .slice none 0 0, .slice none 0 0, .slice none 0 0] 27)) = W := ⟨_, rfl⟩
  rw [hwz]
  have hkz : Keeps No w wz := by rw [← hwz]; exact (((Keeps.refl No w).alloc _).alloc _).alloc _
  have HKZ := Lib.hid hkz
  have hsz : wz.heap.size = B0 + 1 + 1 + 1 := by rw [← hwz]; simp [hB0]
  obtain ⟨B, hB⟩ : ∃ q, wz.heap.size = q := ⟨_, rfl⟩
  have HB := Lib.hid hB
  have r1 : wz.heap[B0 + 1]? = some (.cells #[.int .i64 (8 * (b : Int)), .bool sg] 23 (0, 0)) := by rw [← hwz, Below.heap_alloc _ _ _ (by simp [hB0])]; exact alloc_at _ _ _ (by simp [hB0])
  have r2 : wz.heap[B0 + 1 + 1]? = some (.cells #[.int .i64 8, .int .i64 0, .int .i64 0, .int .i64 0, .int .i64 0, .int .i64 0, .int .i64 0, .bool false, .slice none 0 0, .slice none 0 0, .slice none 0 0] 27 (0, 0)) := by rw [← hwz]; exact alloc_at _ _ _ (by simp [hB0])
  have v0 : wz.cell? ⟨B0 + 1, 0, none⟩ = some (.int .i64 (8 * (b : Int))) := by rw [cell_of_row wz _ 0 _ _ _ r1]; rfl
  have v1 : wz.cell? ⟨B0 + 1, 1, none⟩ = some (.bool sg) := by rw [cell_of_row wz _ 1 _ _ _ r1]; rfl
  have u0 : wz.cell? ⟨B0 + 1 + 1, 0, none⟩ = some (.int .i64 8) := by rw [cell_of_row wz _ 0 _ _ _ r2]; rfl
  have u1 : wz.cell? ⟨B0 + 1 + 1, 1, none⟩ = some (.int .i64 0) := by rw [cell_of_row wz _ 1 _ _ _ r2]; rfl
  have u2 : wz.cell? ⟨B0 + 1 + 1, 2, none⟩ = some (.int .i64 0) := by rw [cell_of_row wz _ 2 _ _ _ r2]; rfl
  have u3 : wz.cell? ⟨B0 + 1 + 1, 3, none⟩ = some (.int .i64 0) := by rw [cell_of_row wz _ 3 _ _ _ r2]; rfl
  have u4 : wz.cell? ⟨B0 + 1 + 1, 4, none⟩ = some (.int .i64 0) := by rw [cell_of_row wz _ 4 _ _ _ r2]; rfl
  have u5 : wz.cell? ⟨B0 + 1 + 1, 5, none⟩ = some (.int .i64 0) := by rw [cell_of_row wz _ 5 _ _ _ r2]; rfl
  have u6 : wz.cell? ⟨B0 + 1 + 1, 6, none⟩ = some (.int .i64 0) := by rw [cell_of_row wz _ 6 _ _ _ r2]; rfl
  have u7 : wz.cell? ⟨B0 + 1 + 1, 7, none⟩ = some (.bool false) := by rw [cell_of_row wz _ 7 _ _ _ r2]; rfl
  have u8 : wz.cell? ⟨B0 + 1 + 1, 8, none⟩ = some (.slice none 0 0) := by rw [cell_of_row wz _ 8 _ _ _ r2]; rfl
  have u9 : wz.cell? ⟨B0 + 1 + 1, 9, none⟩ = some (.slice none 0 0) := by rw [cell_of_row wz _ 9 _ _ _ r2]; rfl
  have u10 : wz.cell? ⟨B0 + 1 + 1, 10, none⟩ = some (.slice none 0 0) := by rw [cell_of_row wz _ 10 _ _ _ r2]; rfl
  clear hwz hkz r1 r2 hwt hcb hsz
  go_wp2_with fail
  change Calls Tryd.prog 22 #[pv (mA true at_ n b sg B).pg, .slice none 0 0, .int .i64 100] (mchain wz (mA true at_ n b sg B)) _
  have HKM := Lib.hid (mmem_of wz true at_ n b sg B HB.out)
  have HKW := Lib.hid (HKZ.out.trans (mchain_keeps wz (mA true at_ n b sg B)) (fun _ _ e => e))
  generalize mchain wz (mA true at_ n b sg B) = W at HKM HKW ⊢
  have HOK : Hid (mA true at_ n b sg B).ok := Lib.hid ⟨hat1, HA.out.1, hb, rfl⟩
  have hb8 : 1 ≤ b ∧ b ≤ 8 := by omega
  clear HKZ HB hB v0 v1 u0 u1 u2 u3 u4 u5 u6 u7 u8 u9 u10 hb
  by_cases h0 : 0 ≤ at_
  · by_cases h1 : at_ + (b : Int) ≤ 24
    · have e1 : 0 ≤ at_ := h0
      have hin : inM true at_ b = true := by unfold inM; simp; omega
      refine (mem_yes (A := mA true at_ n b sg B) HOK.out hin W HKM.out (HL.out.no HKW.out)).mono ?_
      rintro e w4 ⟨⟨sa, sn, sc, sl⟩, rfl, hk4⟩
      have HK4 := Lib.hid (HKW.out.trans hk4 (fun _ _ e => e))
      clear hk4 HKM HKW HOK hin
      dsimp only [ov, Sl.v]
      go_wp2_with fail
      refine (awake_any _ (HL.out.no (HK4.out.alloc _))).mono ?_
      rintro e w5 ⟨rfl, hk5⟩
      go_wp2_with fail
      go_returns
      exact ⟨rb rfl rfl, (HK4.out.alloc _).trans hk5 (fun _ _ e => e)⟩
    · have e1 : 0 ≤ at_ := h0
      have hin : inM true at_ b = false := by unfold inM; simp; omega
      refine (mem_no (A := mA true at_ n b sg B) HOK.out hin W HKM.out (HL.out.no HKW.out)).mono ?_
      rintro e w4 ⟨c, ⟨sa, sn, sc, sl⟩, rfl, hk4⟩
      have HK4 := Lib.hid (HKW.out.trans hk4 (fun _ _ e => e))
      clear hk4 HKM HKW HOK hin
      dsimp only [ov, Sl.v]
      go_wp2_with fail
      refine (awake_any _ (HL.out.no (HK4.out.alloc _))).mono ?_
      rintro e w5 ⟨rfl, hk5⟩
      go_wp2_with fail
      go_returns
      exact ⟨rb rfl rfl, (HK4.out.alloc _).trans hk5 (fun _ _ e => e)⟩
  · have e1 : ¬ 0 ≤ at_ := h0
    have hin : inM true at_ b = false := by unfold inM; simp; omega
    refine (mem_no (A := mA true at_ n b sg B) HOK.out hin W HKM.out (HL.out.no HKW.out)).mono ?_
    rintro e w4 ⟨c, ⟨sa, sn, sc, sl⟩, rfl, hk4⟩
    have HK4 := Lib.hid (HKW.out.trans hk4 (fun _ _ e => e))
    clear hk4 HKM HKW HOK hin
    dsimp only [ov, Sl.v]
    go_wp2_with fail
    refine (awake_any _ (HL.out.no (HK4.out.alloc _))).mono ?_
    rintro e w5 ⟨rfl, hk5⟩
    go_wp2_with fail
    go_returns
    exact ⟨rb rfl rfl, (HK4.out.alloc _).trans hk5 (fun _ _ e => e)⟩
theorem mem_walk (n which at0 : Int) (gl : Bool) (hn : I64 n) (hw : I64 which) (ha : I64 at0) (w : World) (L : Laid w) : Calls Tryd.prog 6 #[.int .i64 n, .int .i64 which, .int .i64 at0, .bool gl] w fun e w' => e = .returned (.bool true) ∧ Keeps No w w' := by
  cases gl
  · exact mem_walk_false n which at0 hn hw ha w L
  · exact mem_walk_true n which at0 hn hw ha w L
end Go.Proofs.YtbfjmhfhhlncjaaDoor
