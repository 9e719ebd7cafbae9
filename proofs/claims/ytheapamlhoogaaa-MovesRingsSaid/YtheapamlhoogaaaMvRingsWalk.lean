/- The law MovesRings, walked. -/
import Derived.Test.YtheapamlhoogaaaMvLow
import Derived.Test.YtheapamlhoogaaaMvRingsM
namespace Go.Proofs.Ytheapamlhoogaaa
open Go.RowKit Go.Maps
set_option linter.unusedVariables false

set_option maxRecDepth 100000 in
set_option maxHeartbeats 4000000 in
theorem movesRings_walk (many which : Int) (wm : (Lit.int .i64 many).wf = true) (ww : (Lit.int .i64 which).wf = true) (w : World) : Calls Try.prog 4 #[.int .i64 many, .int .i64 which] w fun e w' => e = .returned (.bool true) ∧ Below w.heap.size w w' := by
  have hm := wf_I64 wm
  have hw := wf_I64 ww
  obtain ⟨k, hk, hkz⟩ := low_nat many 19 hm (by decide)
  have HK := Lib.hid hkz
  have hk19 : k < 19 := by omega
  obtain ⟨u, hu, huz⟩ := low_nat which ((k + 2 : Nat) : Int) hw (by omega)
  have HU := Lib.hid huz
  have hu2 : u < k + 2 := by omega
  clear hkz huz wm ww hu hk
  obtain ⟨M, hM⟩ : ∃ M, k + 2 = M := ⟨_, rfl⟩
  have hk2 : (2 : Int) + (k : Int) = (M : Int) := by omega
  rw [hM] at HU hu2
  go_enter Try.func4, Try.ntmps4
  go_wp2_with fail
  refine (low_as many 19 _ hm (by decide) HK _).mono ?_
  rintro e w1 ⟨rfl, rfl⟩
  have hM21 : M ≤ 21 := by omega
  have hM0 : (0 : Int) < (M : Int) := by omega
  have hMM : Hid (M = k + 2) := Lib.hid hM.symm
  go_wp2_with fail
  clear HK hk2 hM
  go_loopg [5, 6] M (fun g x v wr => ∃ i : Nat, v = .int .i64 (i : Int) ∧ i ≤ M ∧ g = M - i ∧ Hid (wr.ownsRow w.heap.size 32 2 x i (mrow (ringP M i))) ∧ Hid (Below w.heap.size w wr))
  case atStart => exact ⟨0, rfl, Nat.zero_le _, rfl, Lib.hid (World.ownsRow_nil _ _ _ _), Lib.hid (Below.refl _ _)⟩
  case round =>
    obtain ⟨i, rfl, hi, hg, HO, HB⟩ := hrel
    by_cases hlt : i < M
    · have hlt' : (i : Int) < (M : Int) := by omega
      have hsz := HB.out.size
      have HNE : Hid (∀ q, u5.ownBlock = some q → w.heap.size ≤ q) := Lib.hid (fun q e => (HO.out.lt q e).1)
      obtain ⟨aa, ca, hv5, _⟩ := own_form HO.out
      subst hv5
      have hmd : Int.tmod ((i : Int) + 1) (M : Int) = (((i + 1) % M : Nat) : Int) := by
        have := Int.ofNat_tmod (i + 1) M
        push_cast at this ⊢
        exact this.symm
      obtain ⟨r, hr⟩ : ∃ r : Nat, (i + 1) % M = r := ⟨_, rfl⟩
      rw [hr] at hmd
      have HR := Lib.hid hr
      have hMne : ¬ (M : Int) = 0 := by omega
      clear hr
      go_wp2_with (at_builtin; refine wpList_app1 _ rfl _ _ 22 32 rfl Try.underlying22 infoV w.heap.size _ i (ringP M i) (i : Int) (r : Int) wr.heap.size rfl (HO.out.alloc _) rfl (heap_alloc_new _ _) (by omega) (by rw [heap_two]; omega) (wr.heap.size + 1) (heap_two _ _) ?_)
      intro g5 cap5 w5 hown hgrow _
      have HOW : Hid (w5.ownsRow w.heap.size 32 2 (.slice (some ⟨g5, 0, none⟩) (i + 1) cap5) (i + 1) (mrow (ringP M (i + 1)))) := Lib.hid (by rw [ringP_succ, mrow_snoc, HR.out]; exact hown)
      have HBW : Hid (Below w.heap.size w w5) := Lib.hid ((HB.out.alloc (by omega) _).grown hgrow (by rw [heap_two]; omega) HNE.out)
      clear hown hgrow hmd
      go_wp2_with fail
      go_roundg (M - (i + 1))
      case rel => exact ⟨i + 1, by go_num, by omega, rfl, HOW, HBW⟩
      case measure => omega
    · obtain rfl : i = M := by omega
      have hlt' : ¬ (i : Int) < (i : Int) := by omega
      obtain ⟨r1, hr1, hl1⟩ := rings_one hk19
      obtain ⟨r2, hr2, hl2, hl3⟩ := rings_two (w := u) hk19 (by have := hMM.out; omega)
      rw [← hMM.out] at hr1 hr2
      have hl1' : r1.length = i + 1 := by rw [hl1, hMM.out]
      have hl2' : i + 1 ≤ r2.length ∧ r2.length ≤ i + 2 := by have := hMM.out; omega
      obtain ⟨n2, hn2⟩ : ∃ n2, r2.length = n2 := ⟨_, rfl⟩
      rw [hn2] at hl2'
      have hk1 : ((i : Int) + 1 ≤ (n2 : Int)) := by omega
      have hk2 : ((n2 : Int) ≤ (i : Int) + 2) := by omega
      have HL1 := Lib.hid hl1'
      have HN2 := Lib.hid hn2
      have HR1 := Lib.hid hr1
      have HR2 := Lib.hid hr2
      have h99 : I64 99 := by unfold I64; decide
      have h50 : I64 50 := by unfold I64; decide
      have HNE : Hid (∀ q, u5.ownBlock = some q → w.heap.size ≤ q ∧ q < wr.heap.size) := Lib.hid (fun q e => HO.out.lt q e)
      obtain ⟨aa, ca, hv5, _⟩ := own_form HO.out
      subst hv5
      have HMV : Hid (Movs wr aa i (ringP i i)) := Lib.hid (Movs.of_row HO.out (ringP_len _ _) (ringP_bd _ _ (by omega) (by omega)))
      clear hr1 hr2 hl1 hl2 hl3 hl1' hl2' hn2
      go_wp2_with fail
      refine (order_as aa i ca (ringP i i) 99 r1 true (i + 1) wr HMV.out (by omega) h99 HR1.out HL1.out).mono ?_
      rintro e w1 ⟨a1, c1, rfl, _, hb1⟩
      have HB1 := Lib.hid hb1
      have HO1 := Lib.hid (own_to HO.out hb1)
      have hs1 := hb1.size
      have hs0 := HB.out.size
      clear hb1 HMV
      go_wp2_with fail
      refine (low_as which (i : Int) (u : Int) hw (by omega) HU _).mono ?_
      rintro e w2 ⟨rfl, rfl⟩
      go_wp2_with (at_builtin; refine wpList_app1 _ rfl _ _ 22 32 rfl Try.underlying22 infoV w.heap.size _ i (ringP i i) 50 (u : Int) w1.heap.size rfl (HO1.out.alloc _) rfl (heap_alloc_new _ _) (by omega) (by rw [heap_two]; omega) (w1.heap.size + 1) (heap_two _ _) ?_)
      intro g5 cap5 w5 hown hgrow hat
      have HBX : Hid (Below w.heap.size w w5) := Lib.hid ((((HB.out.trans (HB1.out.mono hs0)).alloc (by omega) _).grown hgrow (by rw [heap_two]; omega) (fun q e => (HNE.out q e).1)))
      have hown' : w5.ownsRow w.heap.size 32 2 (.slice (some ⟨g5, 0, none⟩) (i + 1) cap5) (i + 1) (mrow (ringP i i ++ [(50, (u : Int))])) := by rw [mrow_snoc]; exact hown
      have HMV2 : Hid (Movs w5 (some ⟨g5, 0, none⟩) (i + 1) (ringP i i ++ [(50, (u : Int))])) := Lib.hid (Movs.of_row hown' (by rw [List.length_append, ringP_len]; rfl) (by
        intro t ht
        rcases List.mem_append.1 ht with ht | ht
        · exact ringP_bd _ _ (by omega) (by omega) t ht
        · simp at ht; subst ht; exact ⟨h50, by unfold I64; simp only; omega⟩))
      clear hown hgrow hat hown'
      go_wp2_with fail
      refine (order_as _ (i + 1) cap5 _ 99 r2 true n2 w5 HMV2.out (by omega) h99 HR2.out HN2.out).mono ?_
      rintro e w6 ⟨a6, c6, rfl, _, hb6⟩
      have HB6 := Lib.hid hb6
      clear hb6 HMV2
      go_wp2_with fail
      refine (awake_true _).mono ?_
      rintro e w7 ⟨rfl, hb7⟩
      have HB7 := Lib.hid hb7
      clear hb7
      go_wp2_with fail
      go_returns
      have t5 := HBX.out.size
      have t6 := HB6.out.size
      exact ⟨rb rfl rfl, (HBX.out.trans (HB6.out.mono t5)).trans (HB7.out.mono (by omega))⟩
end Go.Proofs.Ytheapamlhoogaaa
