/- The law IrCalls: walked. -/
import Derived.Test.YtbfjmhfhhlncjaaDoorIrCallsM
import Derived.Test.YtbfjmhfhhlncjaaDoorIrAwake
import Derived.Test.YtbfjmhfhhlncjaaDoorWordLow
import Derived.Deep.CutBlock
import Derived.Deep.DeepCutAuto
namespace Go.Proofs.YtbfjmhfhhlncjaaDoor
open Go.RowKit
set_option linter.unusedVariables false
set_option linter.unusedSimpArgs false
set_option maxRecDepth 100000 in
set_option maxHeartbeats 12800000 in
theorem calls_walk_false (deep : Int) (hd : I64 deep) (w : World) (L : Laid w) : Calls Tryd.prog 7 #[.int .i64 deep, .bool false] w fun e w' => e = .returned (.bool true) ∧ Keeps No w w' := by
  have HL := Lib.hid L
  have HA := Lib.hid hd
  clear L hd
  obtain ⟨K, hK⟩ : ∃ K, IntKind.u64.wrap deep % 1201 = K := ⟨_, rfl⟩
  have hK1 : 0 ≤ K ∧ K < 1201 := by rw [← hK]; exact ⟨Int.emod_nonneg _ (by decide), Int.emod_lt_of_pos _ (by decide)⟩
  have HK := Lib.hid hK
  clear hK
  obtain ⟨n, rfl⟩ : ∃ n : Nat, K = n := ⟨K.toNat, by omega⟩
  have hn : n ≤ 1200 := by omega
  clear hK1
  go_enter Tryd.func7, Tryd.ntmps7
  go_wp2_with fail
  refine (low_as deep 1201 n HA.out (by decide) HK _).mono ?_
  rintro e w1 ⟨rfl, rfl⟩
  obtain ⟨B0, hB0⟩ : ∃ q, w.heap.size = q := ⟨_, rfl⟩
  have HB0 := Lib.hid hB0
  go_wp2_with (at_builtin; refine wpList_appX _ rfl (.tmp 23) (.tmp 24) 43 rfl Tryd.underlying43 B0 _ 2 [xc 2 1, xb 2 3 0 2] (kcall false B0) 2 (B0 + 1) rfl (own_lit (alloc_at _ _ (B0 + 1 + 1) (by simp [hB0])) (by omega) rfl (by unfold maxLen; omega)) rfl ?_ rfl (by decide) (by omega) (by simp; omega) 4 rfl ?_)
  · rw [Below.heap_alloc _ _ _ (by simp; omega)]; exact alloc_at _ _ _ (by simp [hB0])
  intro g5 c5 w3 ho3 hg3
  have HI1 := Lib.hid ho3
  have hk3 : Keeps No w w3 := ((((Keeps.refl No w).alloc _).alloc _).alloc _).grown hg3 (fun q e => .inr (by simp [Value.ownBlock] at e; omega))
  have HK3 := Lib.hid hk3
  have hab : w3.heap[B0]? = some (.cells (irw 3 0) 3 (0, 0)) := by
    rw [hg3.block B0 (by simp; omega) (by simp [Value.ownBlock]; omega), Below.heap_alloc _ _ _ (by simp; omega), Below.heap_alloc _ _ _ (by simp; omega)]
    exact alloc_at _ _ _ hB0
  have HAB := Lib.hid hab
  clear ho3 hk3 hg3 hab hB0
  obtain ⟨B3, hB3⟩ : ∃ q, w3.heap.size = q := ⟨_, rfl⟩
  have HB3 := Lib.hid hB3
  go_wp2_with fail
  change Calls Tryd.prog 22 #[pv (kpg (n : Int) false (kA B0 B3 g5 c5)), .slice none 0 0, .int .i64 20000] (kchain w3 (n : Int) false B0 B3 g5 c5) _
  have HKM := Lib.hid (kmem_of w3 (n : Int) false B0 B3 g5 c5 B0 HB3.out HAB.out HI1.out)
  have HKW := Lib.hid (HK3.out.trans (kchain_keeps w3 (n : Int) false B0 B3 g5 c5) (fun _ _ e => e))
  generalize kchain w3 (n : Int) false B0 B3 g5 c5 = W at HKM HKW ⊢
  clear HAB HI1 HK3 HB3 hB3
  by_cases hw : 1000 < n + 2
  · have hw1 : (1000 : Int) < (n : Int) + 2 := by omega
    refine (calls_no (deep := (n : Int)) n hn rfl hw W HKM.out (HL.out.no HKW.out)).mono ?_
    rintro e w4 ⟨c, ⟨sa, sn, sc, sl⟩, rfl, hk4⟩
    have HK4 := Lib.hid (HKW.out.trans hk4 (fun _ _ e => e))
    clear hk4 HKM HKW
    dsimp only [ov, Sl.v]
    go_wp2_with fail
    refine (awake_any _ (HL.out.no (HK4.out.alloc _))).mono ?_
    rintro e w5 ⟨rfl, hk5⟩
    go_wp2_with fail
    go_returns
    exact ⟨rb rfl rfl, (HK4.out.alloc _).trans hk5 (fun _ _ e => e)⟩
  have hw1 : ¬ (1000 : Int) < (n : Int) + 2 := by omega
  · refine (calls_yes (deep := (n : Int)) (tail := false) n hn rfl (.inr (by omega)) W HKM.out (HL.out.no HKW.out)).mono ?_
    rintro e w4 ⟨⟨sa, sn, sc, sl⟩, rfl, hsl, hsb, hk4⟩
    have hsn : sn = 0 := by have := hsb.len; rw [hsl] at this; exact this.symm
    subst hsn
    have HSB := Lib.hid (And.intro hsl hsb)
    have HK4 := Lib.hid (HKW.out.trans hk4 (fun _ _ e => e))
    clear hsl hsb hk4 HKM HKW
    have hg : (decide ((0 : Int) < (n : Int)) = true ∧ kans n 77 = 1) ∨ (decide ((0 : Int) < (n : Int)) = false ∧ kans n 77 = 77) := by
      unfold kans
      by_cases h0 : n = 0
      · right; subst h0; exact ⟨rfl, rfl⟩
      · left; rw [if_neg h0]; exact ⟨decide_eq_true (by omega), rfl⟩
    have hen : ∀ w6 : World, ∀ c : Int, Keeps No w w6 → c = kans n 77 → BAt w6 ⟨sa, 0, sc, sl⟩ → Calls Tryd.prog 23 #[ov 1 (kans n 77) ⟨sa, 0, sc, sl⟩, ov 1 c sl0] w6 fun e w' => e = .returned (.bool true) ∧ Keeps No w6 w' := fun w6 c hk6 hc hb => by
      have := same_outcome 1 (kans n 77) 1 c ⟨sa, 0, sc, sl⟩ sl0 w6 hb ⟨rfl, ⟨Nat.le_refl _, Nat.zero_le _⟩, fun h => absurd h (by decide)⟩ (by show 0 ≤ 1000000; omega) rfl hc.symm
      rwa [decide_eq_true (show (⟨sa, 0, sc, sl⟩ : Sl).l = sl0.l from HSB.out.1)] at this
    have HEN := Lib.hid hen
    clear hen
    have hK5 : Keeps No w (w4.alloc (.cells #[.int .i64 1, .int .i64 (kans n 77), .slice sa 0 sc] 57)) := HK4.out.alloc _
    have hB5 : BAt (w4.alloc (.cells #[.int .i64 1, .int .i64 (kans n 77), .slice sa 0 sc] 57)) ⟨sa, 0, sc, sl⟩ := HSB.out.2.no ((Keeps.refl No w4).alloc _)
    have HKB := Lib.hid (And.intro hK5 hB5)
    clear hK5 hB5
    dsimp only [ov, Sl.v]
    obtain ⟨kz, hkz⟩ : ∃ z, kans n 77 = z := ⟨_, rfl⟩
    rw [hkz] at hg HEN HKB ⊢
    clear hkz
    rcases hg with ⟨hg, rfl⟩ | ⟨hg, rfl⟩
    · have hlt : (0 : Int) < (n : Int) := of_decide_eq_true hg
      clear hg
      go_wp2_with fail
      refine (HEN.out _ 1 HKB.out.1 rfl HKB.out.2).mono ?_
      rintro e w6 ⟨rfl, hk6⟩
      have HK6 := Lib.hid (HKB.out.1.trans hk6 (fun _ _ e => e))
      clear hk6
      go_wp2_with fail
      refine (awake_any _ (HL.out.no HK6.out)).mono ?_
      rintro e w7 ⟨rfl, hk7⟩
      go_wp2_with fail
      go_returns
      exact ⟨rb rfl rfl, HK6.out.trans hk7 (fun _ _ e => e)⟩
    · have hlt : ¬ (0 : Int) < (n : Int) := of_decide_eq_false hg
      clear hg
      go_wp2_with fail
      refine (HEN.out _ 77 HKB.out.1 rfl HKB.out.2).mono ?_
      rintro e w6 ⟨rfl, hk6⟩
      have HK6 := Lib.hid (HKB.out.1.trans hk6 (fun _ _ e => e))
      clear hk6
      go_wp2_with fail
      refine (awake_any _ (HL.out.no HK6.out)).mono ?_
      rintro e w7 ⟨rfl, hk7⟩
      go_wp2_with fail
      go_returns
      exact ⟨rb rfl rfl, HK6.out.trans hk7 (fun _ _ e => e)⟩
set_option maxRecDepth 100000 in
set_option maxHeartbeats 12800000 in
theorem calls_walk_true (deep : Int) (hd : I64 deep) (w : World) (L : Laid w) : Calls Tryd.prog 7 #[.int .i64 deep, .bool true] w fun e w' => e = .returned (.bool true) ∧ Keeps No w w' := by
  have HL := Lib.hid L
  have HA := Lib.hid hd
  clear L hd
  obtain ⟨K, hK⟩ : ∃ K, IntKind.u64.wrap deep % 1201 = K := ⟨_, rfl⟩
  have hK1 : 0 ≤ K ∧ K < 1201 := by rw [← hK]; exact ⟨Int.emod_nonneg _ (by decide), Int.emod_lt_of_pos _ (by decide)⟩
  have HK := Lib.hid hK
  clear hK
  obtain ⟨n, rfl⟩ : ∃ n : Nat, K = n := ⟨K.toNat, by omega⟩
  have hn : n ≤ 1200 := by omega
  clear hK1
  go_enter Tryd.func7, Tryd.ntmps7
  go_wp2_with fail
  refine (low_as deep 1201 n HA.out (by decide) HK _).mono ?_
  rintro e w1 ⟨rfl, rfl⟩
  obtain ⟨B0, hB0⟩ : ∃ q, w.heap.size = q := ⟨_, rfl⟩
  have HB0 := Lib.hid hB0
  go_wp2_with (at_builtin; refine wpList_appX _ rfl (.tmp 23) (.tmp 24) 43 rfl Tryd.underlying43 B0 _ 2 [xc 2 1, xb 2 3 0 2] (kcall true (B0 + 1 + 1)) 1 (B0 + 1 + 1 + 1) rfl (own_lit (alloc_at _ _ (B0 + 1 + 1 + 1 + 1) (by simp [hB0])) (by omega) rfl (by unfold maxLen; omega)) rfl ?_ rfl (by decide) (by omega) (by simp; omega) 3 rfl ?_)
  · rw [Below.heap_alloc _ _ _ (by simp; omega)]; exact alloc_at _ _ _ (by simp [hB0])
  intro g5 c5 w3 ho3 hg3
  have HI1 := Lib.hid ho3
  have hk3 : Keeps No w w3 := ((((((Keeps.refl No w).alloc _).alloc _).alloc _).alloc _).alloc _).grown hg3 (fun q e => .inr (by simp [Value.ownBlock] at e; omega))
  have HK3 := Lib.hid hk3
  have hab : w3.heap[B0 + 1 + 1]? = some (.cells (irw 3 0) 3 (0, 0)) := by
    rw [hg3.block (B0 + 1 + 1) (by simp; omega) (by simp [Value.ownBlock]), Below.heap_alloc _ _ _ (by simp; omega), Below.heap_alloc _ _ _ (by simp; omega)]
    exact alloc_at _ _ _ (by simp [hB0])
  have HAB := Lib.hid hab
  clear ho3 hk3 hg3 hab hB0
  obtain ⟨B3, hB3⟩ : ∃ q, w3.heap.size = q := ⟨_, rfl⟩
  have HB3 := Lib.hid hB3
  go_wp2_with fail
  change Calls Tryd.prog 22 #[pv (kpg (n : Int) true (kA (B0 + 1 + 1) B3 g5 c5)), .slice none 0 0, .int .i64 20000] (kchain w3 (n : Int) true (B0 + 1 + 1) B3 g5 c5) _
  have HKM := Lib.hid (kmem_of w3 (n : Int) true (B0 + 1 + 1) B3 g5 c5 B0 HB3.out HAB.out HI1.out)
  have HKW := Lib.hid (HK3.out.trans (kchain_keeps w3 (n : Int) true (B0 + 1 + 1) B3 g5 c5) (fun _ _ e => e))
  generalize kchain w3 (n : Int) true (B0 + 1 + 1) B3 g5 c5 = W at HKM HKW ⊢
  clear HAB HI1 HK3 HB3 hB3
  · refine (calls_yes (deep := (n : Int)) (tail := true) n hn rfl (.inl rfl) W HKM.out (HL.out.no HKW.out)).mono ?_
    rintro e w4 ⟨⟨sa, sn, sc, sl⟩, rfl, hsl, hsb, hk4⟩
    have hsn : sn = 0 := by have := hsb.len; rw [hsl] at this; exact this.symm
    subst hsn
    have HSB := Lib.hid (And.intro hsl hsb)
    have HK4 := Lib.hid (HKW.out.trans hk4 (fun _ _ e => e))
    clear hsl hsb hk4 HKM HKW
    have hg : (decide ((0 : Int) < (n : Int)) = true ∧ kans n 77 = 1) ∨ (decide ((0 : Int) < (n : Int)) = false ∧ kans n 77 = 77) := by
      unfold kans
      by_cases h0 : n = 0
      · right; subst h0; exact ⟨rfl, rfl⟩
      · left; rw [if_neg h0]; exact ⟨decide_eq_true (by omega), rfl⟩
    have hen : ∀ w6 : World, ∀ c : Int, Keeps No w w6 → c = kans n 77 → BAt w6 ⟨sa, 0, sc, sl⟩ → Calls Tryd.prog 23 #[ov 1 (kans n 77) ⟨sa, 0, sc, sl⟩, ov 1 c sl0] w6 fun e w' => e = .returned (.bool true) ∧ Keeps No w6 w' := fun w6 c hk6 hc hb => by
      have := same_outcome 1 (kans n 77) 1 c ⟨sa, 0, sc, sl⟩ sl0 w6 hb ⟨rfl, ⟨Nat.le_refl _, Nat.zero_le _⟩, fun h => absurd h (by decide)⟩ (by show 0 ≤ 1000000; omega) rfl hc.symm
      rwa [decide_eq_true (show (⟨sa, 0, sc, sl⟩ : Sl).l = sl0.l from HSB.out.1)] at this
    have HEN := Lib.hid hen
    clear hen
    have hK5 : Keeps No w (w4.alloc (.cells #[.int .i64 1, .int .i64 (kans n 77), .slice sa 0 sc] 57)) := HK4.out.alloc _
    have hB5 : BAt (w4.alloc (.cells #[.int .i64 1, .int .i64 (kans n 77), .slice sa 0 sc] 57)) ⟨sa, 0, sc, sl⟩ := HSB.out.2.no ((Keeps.refl No w4).alloc _)
    have HKB := Lib.hid (And.intro hK5 hB5)
    clear hK5 hB5
    dsimp only [ov, Sl.v]
    obtain ⟨kz, hkz⟩ : ∃ z, kans n 77 = z := ⟨_, rfl⟩
    rw [hkz] at hg HEN HKB ⊢
    clear hkz
    rcases hg with ⟨hg, rfl⟩ | ⟨hg, rfl⟩
    · have hlt : (0 : Int) < (n : Int) := of_decide_eq_true hg
      clear hg
      go_wp2_with fail
      refine (HEN.out _ 1 HKB.out.1 rfl HKB.out.2).mono ?_
      rintro e w6 ⟨rfl, hk6⟩
      have HK6 := Lib.hid (HKB.out.1.trans hk6 (fun _ _ e => e))
      clear hk6
      go_wp2_with fail
      refine (awake_any _ (HL.out.no HK6.out)).mono ?_
      rintro e w7 ⟨rfl, hk7⟩
      go_wp2_with fail
      go_returns
      exact ⟨rb rfl rfl, HK6.out.trans hk7 (fun _ _ e => e)⟩
    · have hlt : ¬ (0 : Int) < (n : Int) := of_decide_eq_false hg
      clear hg
      go_wp2_with fail
      refine (HEN.out _ 77 HKB.out.1 rfl HKB.out.2).mono ?_
      rintro e w6 ⟨rfl, hk6⟩
      have HK6 := Lib.hid (HKB.out.1.trans hk6 (fun _ _ e => e))
      clear hk6
      go_wp2_with fail
      refine (awake_any _ (HL.out.no HK6.out)).mono ?_
      rintro e w7 ⟨rfl, hk7⟩
      go_wp2_with fail
      go_returns
      exact ⟨rb rfl rfl, HK6.out.trans hk7 (fun _ _ e => e)⟩
theorem calls_walk (deep : Int) (tail : Bool) (hd : I64 deep) (w : World) (L : Laid w) : Calls Tryd.prog 7 #[.int .i64 deep, .bool tail] w fun e w' => e = .returned (.bool true) ∧ Keeps No w w' := by
  cases tail
  · exact calls_walk_false deep hd w L
  · exact calls_walk_true deep hd w L
end Go.Proofs.YtbfjmhfhhlncjaaDoor
