/- The document's numbers, all ways. -/
import Derived.Test.YtlpoahjgonjelaaLexRefNumberH
import Derived.Test.YtlpoahjgonjelaaLexRefNumberD
import Derived.Test.YtlpoahjgonjelaaLexRefNumberZ
namespace Go.Proofs.Ytlpoahjgonjelaa
open Go.RowKit
set_option linter.unusedVariables false

set_option maxRecDepth 100000 in
set_option maxHeartbeats 2000000 in
theorem rnumber_bad (s : ByteArray) (i : Nat) (hi : i + 2 ≤ s.size) (hs : s.size ≤ 4611686018427387904) (h0 : Lx.pk s i = 48) (h1 : Lx.pk s (i + 1) = 120) (c2 V2 : Int) (HC2 : Hid (Lx.pk s (i + 2) = c2)) (hc2 : 0 ≤ c2 ∧ c2 ≤ 255) (HV2 : Hid (Lx.valB 16 c2 = V2)) (hv2 : V2 < 0) (w : World) :
    Calls Try.prog 33 #[.string s, .int .i64 (i : Int)] w (RTok s i (Lx.bad 3 (i + 2)) w) := by
  have q0 : i < s.size := by omega
  have q1 : (i : Int) < (s.size : Int) := by omega
  have q2 : (i : Int) + 2 ≤ (s.size : Int) := by omega
  rw [Lx.pk_lt q0] at h0
  have H1 := Lib.hid h1
  clear h1
  have HN := Lib.hid (NB.start w i true)
  obtain ⟨t0, t1, t2, t3, t4, t5, tf⟩ := HN.out.a.cells
  go_enter Try.func33, Try.ntmps33
  go_wp2_with fail
  refine (rat_as s (i + 1) _ 120 (by omega) hs H1 _).mono ?_
  rintro e w1 ⟨rfl, rfl⟩
  go_wp2_with fail
  refine (rat_as s (i + 2) _ c2 (by omega) hs HC2 _).mono ?_
  rintro e w1 ⟨rfl, rfl⟩
  go_wp2_with fail
  refine (rhex_as c2 V2 hc2 HV2 _).mono ?_
  rintro e w1 ⟨rfl, rfl⟩
  clear h0
  go_wp2_with fail
  refine bodyPost_ret (v := .tuple #[.agg #[.int .i64 3, .int .i64 (i : Int), .string ⟨#[]⟩, .string ⟨#[]⟩, .int .u64 0, .bool true], .int .i64 3]) (by simp [results, Try.results33, go_sem]) rfl ?_
  refine ⟨_, _, _, _, _, _, rfl, (fun h => absurd h (show ¬ (3 : Int) = 0 by decide)), ?_⟩
  repeat (first | with_reducible exact gn_refl _ | with_reducible refine gn_alloc ?_ _)
theorem rnumber_any (s : ByteArray) (i : Nat) (q0 : i < s.size) (hs : s.size ≤ 4611686018427387904) (w : World) :
    Calls Try.prog 33 #[.string s, .int .i64 (i : Int)] w (RTok s i (Lx.numberM s i) w) := by
  unfold Lx.numberM
  by_cases h0 : Lx.pk s i = 48
  · by_cases h1 : Lx.pk s (i + 1) = 120
    · have hi : i + 2 ≤ s.size := by have := Lx.pk_in (s := s) (i := i + 1) (by rw [h1]; decide); omega
      rw [if_pos ⟨h0, h1⟩]
      by_cases hv : Lx.valB 16 (Lx.pk s (i + 2)) < 0
      · rw [if_pos hv]; exact rnumber_bad s i hi hs h0 h1 _ _ (Lib.hid rfl) (Lx.pk_bd _ _) (Lib.hid rfl) hv w
      · rw [if_neg hv]; exact rnumber_hex s i hi hs h0 h1 _ _ (Lib.hid rfl) (Lx.pk_bd _ _) (Lib.hid rfl) (by omega) w
    · rw [if_neg (fun h => h1 h.2)]; exact rnumber_z s i q0 hs h0 _ (Lib.hid rfl) h1 w
  · rw [if_neg (fun h => h0 h.1)]; exact rnumber_d s i q0 hs h0 w
end Go.Proofs.Ytlpoahjgonjelaa
