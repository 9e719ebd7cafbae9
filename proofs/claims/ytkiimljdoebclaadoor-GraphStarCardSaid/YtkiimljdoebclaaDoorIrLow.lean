/- Rows held against one another; a row written over. -/
import Derived.Test.YtkiimljdoebclaaDoorIrUses
import Derived.Deep.LoopGhost
namespace Go.Proofs.YtkiimljdoebclaaDoor
open Go.RowKit
set_option linter.unusedVariables false
set_option linter.unusedSimpArgs false

theorem SlAt.get {w : World} {s : Sl} (h : SlAt w s) {i : Nat} (hi : i < s.n) : ∃ (b off : Nat) (z : Int), s.l[i]? = some z ∧ s.a = some ⟨b, off, none⟩ ∧ w.cell? ⟨b, off + i, none⟩ = some (.int .i64 z) := by
  obtain ⟨b, off, e, hc⟩ := h.at_ (by omega)
  obtain ⟨z, hz⟩ : ∃ z, s.l[i]? = some z := ⟨_, List.getElem?_eq_getElem (by rw [h.len]; exact hi)⟩
  exact ⟨b, off, z, hz, e, hc i z hz⟩
set_option maxRecDepth 100000 in
set_option maxHeartbeats 3200000 in
theorem same_ints (s t : Sl) (w : World) (hs : SlAt w s) (ht : SlAt w t) (hn : s.n ≤ 1000000) :
    Calls Tryd.prog 9 #[s.v, t.v] w fun e w' => e = .returned (.bool (decide (s.l = t.l))) ∧ ∃ m, w.drewN m = w' := by
  obtain ⟨X, hX⟩ : ∃ X, decide (s.l = t.l) = X := ⟨_, rfl⟩
  rw [hX]
  have HX := Lib.hid hX
  have HS := Lib.hid hs
  have HT := Lib.hid ht
  have hcs := hs.cap
  have hct := ht.cap
  unfold maxLen at hcs hct
  clear hX hs ht
  obtain ⟨sa, sn, sc, sl⟩ := s
  obtain ⟨ta, tn, tc, tl⟩ := t
  simp only at hn hcs hct HX
  change Calls Tryd.prog 9 #[.slice sa sn sc, .slice ta tn tc] w _
  by_cases hnn : sn = tn
  · subst hnn
    have e1 : ((sn : Int) != (sn : Int)) = false := by simp
    go_enter Tryd.func9, Tryd.ntmps9
    go_wp2_with fail
    go_loopg [5] sn (fun g v wr => ∃ i m : Nat, v = .int .i64 (i : Int) ∧ i ≤ sn ∧ g = sn - i ∧ Hid (sl.take i = tl.take i) ∧ w.drewN m = wr)
    case atStart => exact ⟨0, 0, rfl, Nat.zero_le _, rfl, Lib.hid rfl, rfl⟩
    case round =>
      obtain ⟨i, m, rfl, hi, hg, HE, rfl⟩ := hrel
      by_cases hlt : i < sn
      · have hlt' : (i : Int) < (sn : Int) := by omega
        have i0 : (0 : Int) ≤ (i : Int) := by omega
        obtain ⟨b1, o1, z1, hz1, rfl, c1⟩ := HS.out.get hlt
        obtain ⟨b2, o2, z2, hz2, rfl, c2⟩ := HT.out.get hlt
        have HZ1 := Lib.hid hz1
        have HZ2 := Lib.hid hz2
        clear hz1 hz2
        by_cases hz : z1 = z2
        · have e2 : (z1 != z2) = false := by rw [hz]; simp
          have HZ := Lib.hid hz
          clear hz
          go_wp2_with fail
          go_quiet (fail)
          go_wp2_with fail
          go_roundg (sn - (i + 1))
          case rel => exact ⟨i + 1, m + nq, by go_num, by omega, rfl, Lib.hid (by
            obtain ⟨h1, h2⟩ := List.getElem?_eq_some_iff.1 HZ1.out
            obtain ⟨h3, h4⟩ := List.getElem?_eq_some_iff.1 HZ2.out
            rw [List.take_succ_eq_append_getElem h1, List.take_succ_eq_append_getElem h3, HE.out, h2, h4, HZ.out]), rfl⟩
          case measure => omega
        · have e2 : (z1 != z2) = true := bne_iff_ne.2 hz
          have HF : Hid (X = false) := Lib.hid (by
            rw [← HX.out]; exact decide_eq_false (fun e => hz (by have h := HZ1.out; rw [e] at h; have h2 := HZ2.out; simp only at h h2; rw [h] at h2; injection h2)))
          clear hz
          go_wp2_with fail
          go_quiet (fail)
          go_wp2_with fail
          go_returns
          exact ⟨rb rfl HF.out.symm, m + nq, by rw [World.drewN_drewN]⟩
      · obtain rfl : i = sn := by omega
        have hlt' : ¬ (i : Int) < (i : Int) := by omega
        have HF : Hid (X = true) := Lib.hid (by
          rw [← HX.out]; exact decide_eq_true (by have h := HE.out; rw [List.take_of_length_le (by have := HS.out.len; simp only at this; omega), List.take_of_length_le (by have := HT.out.len; simp only at this; omega)] at h; exact h))
        go_wp2_with fail
        go_returns
        exact ⟨rb rfl HF.out.symm, m, rfl⟩
  · have e1 : ((sn : Int) != (tn : Int)) = true := by rw [bne_iff_ne]; omega
    have HF : Hid (X = false) := Lib.hid (by
      rw [← HX.out]; exact decide_eq_false (fun e => hnn (by have h1 := HS.out.len; have h2 := HT.out.len; simp only at h1 h2; rw [e] at h1; omega)))
    clear hnn
    go_enter Tryd.func9, Tryd.ntmps9
    go_wp2_with fail
    go_returns
    exact ⟨rb rfl HF.out.symm, 0, rfl⟩
end Go.Proofs.YtkiimljdoebclaaDoor
