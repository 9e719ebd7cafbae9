/- The law LexTells, walked. -/
import Derived.Test.YtlpoahjgonjelaaLexSame
import Derived.Test.YtlpoahjgonjelaaLexRefTokens
namespace Go.Proofs.Ytlpoahjgonjelaa
open Go.RowKit
set_option linter.unusedVariables false

set_option maxHeartbeats 2000000 in
theorem lexTells_walk (s : ByteArray) (_ : s.size ≤ maxLen) (w : World) : Calls Try.prog 3 #[.string s] w fun e w' => e = .returned (.bool true) ∧ Below w.heap.size w w' := by
  by_cases h : 2000 < s.size
  · have h' : (2000 : Int) < (s.size : Int) := by omega
    go_enter Try.func3, Try.ntmps3
    go_wp2_with fail
    refine (awake_true w).mono ?_
    rintro e w1 ⟨rfl, hb⟩
    have HB := Lib.hid hb
    clear hb
    go_wp2_with fail
    go_returns
    exact ⟨rb rfl rfl, HB.out⟩
  · have h' : ¬ (2000 : Int) < (s.size : Int) := by omega
    have ht := tokens_any s
    have hr : ∀ w, Calls Try.prog 10 #[.string s] w (TokensPost w (Lx.tokensM s)) := fun w => rtokens_short s (by omega) w
    obtain ⟨⟨l, c, p⟩, hR⟩ : ∃ r, Lx.tokensM s = r := ⟨_, rfl⟩
    rw [hR] at ht hr
    obtain ⟨B, hB⟩ : ∃ B, Lx.wordB s = B := ⟨_, rfl⟩
    have HWB := Lib.hid hB
    have HT := Lib.hid ht
    have HR := Lib.hid hr
    clear hR ht hr hB
    go_enter Try.func3, Try.ntmps3
    go_wp2_with fail
    refine (HT.out w).mono ?_
    rintro e w1 ⟨va, rfl, ha, hba⟩
    have HA := Lib.hid ha
    have HBA := Lib.hid hba
    clear ha hba
    go_wp2_with fail
    refine (HR.out _).mono ?_
    rintro e w2 ⟨vb, rfl, hb, hbb⟩
    simp only at hb
    have HB2 := Lib.hid hb
    have HBB := Lib.hid hbb
    have hsz := hbb.size
    rw [heap_two] at hsz
    have HA2 : Hid ((w2.alloc (.cells #[.int .i64 c, .int .i64 p] 26)).ownsRow w.heap.size 33 6 va l.length (Lx.rowOf l)) :=
      Lib.hid ((own_to (own_to HA.out ((Below.refl _ w1).alloc (Nat.le_refl _) _)) hbb).alloc _)
    have HB3 : Hid ((w2.alloc (.cells #[.int .i64 c, .int .i64 p] 26)).ownsRow (w1.alloc (.cells #[.int .i64 c, .int .i64 p] 26)).heap.size 33 6 vb l.length (Lx.rowOf l)) :=
      Lib.hid (hb.alloc _)
    have hx : w2.heap[w1.heap.size]? = some (.cells #[.int .i64 c, .int .i64 p] 26 (0, 0)) := (hbb.block _ (by rw [heap_two]; omega)).trans (heap_alloc_new w1 _)
    have hne : w1.heap.size < w2.heap.size := by omega
    have f0 : (w2.alloc (.cells #[.int .i64 c, .int .i64 p] 26)).cell? ⟨w1.heap.size, 0, none⟩ = some (.int .i64 c) := by rw [World.cell?_alloc_past _ _ _ hne]; simp [World.cell?, hx]
    have f1 : (w2.alloc (.cells #[.int .i64 c, .int .i64 p] 26)).cell? ⟨w1.heap.size, 1, none⟩ = some (.int .i64 p) := by rw [World.cell?_alloc_past _ _ _ hne]; simp [World.cell?, hx]
    have hsz1 := HBA.out.size
    have HBW : Hid (Below w.heap.size w (w2.alloc (.cells #[.int .i64 c, .int .i64 p] 26))) := Lib.hid (((HBA.out.alloc hsz1 _).trans (hbb.mono (by rw [heap_two]; omega))).alloc (by omega) _)
    clear hb hbb hx hsz hne hsz1
    go_wp2_with fail
    refine (same_true l _ _ va vb _ HA2.out HB3.out).mono ?_
    rintro e w3 ⟨rfl, n, rfl⟩
    go_wp2_with fail
    refine (word_as s B HWB _).mono ?_
    rintro e w4 ⟨rfl, rfl⟩
    go_wp2_with fail
    refine (rword_as s B HWB _).mono ?_
    rintro e w5 ⟨rfl, rfl⟩
    go_wp2_with fail
    refine (awake_true _).mono ?_
    rintro e w6 ⟨rfl, hb6⟩
    have HB6 := Lib.hid hb6
    clear hb6
    go_wp2_with fail
    go_returns
    refine ⟨rb rfl rfl, ?_⟩
    have h3 := HB6.out
    have hs2 := HBW.out.size
    refine Below.trans ?_ (h3.mono ?_)
    · exact (below_drewN HBW.out n).alloc hs2 _
    · refine Nat.le_trans hs2 ?_
      have e := heap_two (World.drewN (w2.alloc (.cells #[.int .i64 c, .int .i64 p] 26)) n) (.cells (wl.map Value.string).toArray 9)
      rw [e]
      exact Nat.le_succ _
end Go.Proofs.Ytlpoahjgonjelaa
