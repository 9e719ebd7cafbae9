/- What an instruction names, but of calls. -/
import Derived.Test.YtkiimljdoebclaaDoorIrFits
namespace Go.Proofs.YtkiimljdoebclaaDoor
open Go.RowKit
set_option linter.unusedVariables false
set_option linter.unusedSimpArgs false

set_option maxRecDepth 100000 in
set_option maxHeartbeats 12800000 in
theorem fits_rest (p : Pg) (f : Fx) (x : Ix) (pb po fb fo b off : Nat) (w : World) (hp : p.at_ w pb po) (hpo : PgOk w p) (hf : f.at_ w fb fo) (hfo : FxOk w f) (hx : x.at_ w b off) (hok : IxOk w x) (L : Laid w) (hop : x.op ≠ 10 ∧ x.op ≠ 19) :
    Calls Tryd.prog 46 #[.pointer (some ⟨pb, po, none⟩), .pointer (some ⟨fb, fo, none⟩), .pointer (some ⟨b, off, none⟩)] w fun e w' => e = .returned (.bool (x.fitsOk f.slots.n p.gn p.fl f.value)) ∧ Keeps No w w' := by
  have HPO := Lib.hid hpo
  have hflen := hpo.flen
  obtain ⟨ga, gn, gc, gl, pfa, pfn, pfc, pfl, main⟩ := p
  obtain ⟨fname, fpar, freg, ⟨sa, sn, sc, sl⟩, ba, bn, bc, bl, fv⟩ := f
  obtain ⟨op, sub, d, a, b', n, wb, ws, ⟨aa, an, ac, al⟩, xto, xcs⟩ := x
  obtain ⟨W1, hW1⟩ : ∃ W1, w.alloc (.cells #[.pointer (some ⟨b, off, none⟩)] 87) = W1 := ⟨_, rfl⟩
  have hk1 : Keeps No w W1 := by rw [← hW1]; exact (Keeps.refl _ _).alloc _
  have hq : W1.cell? ⟨w.heap.size, 0, none⟩ = some (.pointer (some ⟨b, off, none⟩)) := by rw [← hW1, World.cell?_alloc_at _ _ _ _ rfl]; rfl
  have HBE := Lib.hid (fun k m => below_any _ k w.heap.size b off (W1.drewN m) hq (hx.no (hk1.drewN m)))
  have c0 := hk1.cell0 (hx 0 _ rfl)
  have c1 := hk1.cell0 (hx 1 _ rfl)
  have c2 := hk1.cell0 (hx 2 _ rfl)
  have c3 := hk1.cell0 (hx 3 _ rfl)
  have c5 := hk1.cell0 (hx 5 _ rfl)
  have c6 := hk1.cell0 (hx 6 _ rfl)
  have c7 := hk1.cell0 (hx 7 _ rfl)
  have c8 := hk1.cell0 (hx 8 _ rfl)
  have g3 := hk1.cell0 (hf 3 _ rfl)
  have g5 := hk1.cell0 (hf 5 _ rfl)
  have p0 := hk1.cell0 (hp 0 _ rfl)
  have p1 := hk1.cell0 (hp 1 _ rfl)
  rw [Nat.add_zero] at c0 p0
  have i1 := hok.d
  have i2 := hok.a
  have i3 := hok.n
  have i4 := hok.args.cap
  have i5 := hpo.fcap
  have i6 := hpo.gcap
  have i7 := hfo.slots.cap
  unfold I64 at i1 i2 i3
  unfold maxLen at i4 i5 i6 i7
  have HK := Lib.hid hk1
  have HL := Lib.hid (L.no hk1)
  have HW := Lib.hid hW1
  simp only at i1 i2 i3 i4 i5 i6 i7 hop hflen HBE
  clear hp hpo hf hfo hx hok L hk1 hW1
  dsimp only [Sl.v] at c8 g3
  obtain ⟨h10, h19⟩ := hop
  by_cases h3 : op = 3
  · subst h3
    by_cases s1 : sub ≥ 1
    · by_cases s2 : sub < 20
      · go_enter Tryd.func46, Tryd.ntmps46
        go_upto_region 1 with fail
        rw [HW.out]
        clear HW
        go_wp2_with fail
        go_returns
        exact ⟨rb rfl (by simp [Ix.fitsOk]; omega), HK.out⟩
      · have s2' : ¬ sub < 20 := s2
        go_enter Tryd.func46, Tryd.ntmps46
        go_upto_region 1 with fail
        rw [HW.out]
        clear HW
        go_wp2_with fail
        go_returns
        exact ⟨rb rfl (by simp [Ix.fitsOk]; omega), HK.out⟩
    · have s1' : ¬ sub ≥ 1 := s1
      go_enter Tryd.func46, Tryd.ntmps46
      go_upto_region 1 with fail
      rw [HW.out]
      clear HW
      go_wp2_with fail
      go_returns
      exact ⟨rb rfl (by simp [Ix.fitsOk]; omega), HK.out⟩
  by_cases h4 : op = 4
  · subst h4
    go_enter Tryd.func46, Tryd.ntmps46
    go_upto_region 1 with fail
    rw [HW.out]
    clear HW
    go_wp2_with (go_at_call 62; refine (may_any _ _ _ HL.out).mono ?_; rintro e w' ⟨rfl, hgr⟩)
    go_returns
    exact ⟨rb rfl (by simp [Ix.fitsOk]), HK.out.trans (Keeps.of_gr hgr) (fun _ _ h => h)⟩
  by_cases h5 : op = 5
  · subst h5
    go_enter Tryd.func46, Tryd.ntmps46
    go_upto_region 1 with fail
    rw [HW.out]
    clear HW
    go_wp2_with (go_at_call 62; refine (may_any _ _ _ HL.out).mono ?_; rintro e w' ⟨rfl, hgr⟩)
    go_returns
    exact ⟨rb rfl (by simp [Ix.fitsOk]), HK.out.trans (Keeps.of_gr hgr) (fun _ _ h => h)⟩
  by_cases h6 : op = 6
  · subst h6
    go_enter Tryd.func46, Tryd.ntmps46
    go_upto_region 1 with fail
    rw [HW.out]
    clear HW
    go_wp2_with (go_at_call 62; refine (may_any _ _ _ HL.out).mono ?_; rintro e w' ⟨rfl, hgr⟩)
    go_returns
    exact ⟨rb rfl (by simp [Ix.fitsOk]), HK.out.trans (Keeps.of_gr hgr) (fun _ _ h => h)⟩
  by_cases h7 : op = 7
  · subst h7
    go_enter Tryd.func46, Tryd.ntmps46
    go_upto_region 1 with fail
    rw [HW.out]
    clear HW
    go_wp2_with (go_at_call 61; refine (HBE.out _ 0).mono ?_; rintro e w' ⟨rfl, rfl⟩)
    go_returns
    exact ⟨rb rfl (by simp [Ix.fitsOk]), HK.out⟩
  by_cases h8 : op = 8
  · subst h8
    go_enter Tryd.func46, Tryd.ntmps46
    go_upto_region 1 with fail
    rw [HW.out]
    clear HW
    go_wp2_with (go_at_call 61; refine (HBE.out _ 0).mono ?_; rintro e w' ⟨rfl, rfl⟩)
    go_returns
    exact ⟨rb rfl (by simp [Ix.fitsOk]), HK.out⟩
  by_cases h9 : op = 9
  · subst h9
    go_enter Tryd.func46, Tryd.ntmps46
    go_upto_region 1 with fail
    rw [HW.out]
    clear HW
    go_wp2_with (go_at_call 61; refine (HBE.out _ 0).mono ?_; rintro e w' ⟨rfl, rfl⟩)
    go_returns
    exact ⟨rb rfl (by simp [Ix.fitsOk]; rw [hflen]), HK.out⟩
  by_cases h11 : op = 11
  · subst h11
    by_cases s1 : (an : Int) ≤ 6
    · go_enter Tryd.func46, Tryd.ntmps46
      go_upto_region 1 with fail
      rw [HW.out]
      clear HW
      go_wp2_with fail
      go_returns
      exact ⟨rb rfl (by simp [Ix.fitsOk]; omega), HK.out⟩
    · have s1' : ¬ (an : Int) ≤ 6 := s1
      go_enter Tryd.func46, Tryd.ntmps46
      go_upto_region 1 with fail
      rw [HW.out]
      clear HW
      go_wp2_with fail
      go_returns
      exact ⟨rb rfl (by simp [Ix.fitsOk]; omega), HK.out⟩
  by_cases h20 : op = 20
  · subst h20
    by_cases s1 : (an : Int) ≤ 6
    · go_enter Tryd.func46, Tryd.ntmps46
      go_upto_region 1 with fail
      rw [HW.out]
      clear HW
      go_wp2_with fail
      go_returns
      exact ⟨rb rfl (by simp [Ix.fitsOk]; omega), HK.out⟩
    · have s1' : ¬ (an : Int) ≤ 6 := s1
      go_enter Tryd.func46, Tryd.ntmps46
      go_upto_region 1 with fail
      rw [HW.out]
      clear HW
      go_wp2_with fail
      go_returns
      exact ⟨rb rfl (by simp [Ix.fitsOk]; omega), HK.out⟩
  by_cases h17 : op = 17
  · subst h17
    by_cases s1 : a = -1
    · subst s1
      go_enter Tryd.func46, Tryd.ntmps46
      go_upto_region 1 with fail
      rw [HW.out]
      clear HW
      go_wp2_with fail
      go_returns
      exact ⟨rb rfl (by simp [Ix.fitsOk]), HK.out⟩
    · have s2 : (a == -1) = false := by rw [beq_eq_false_iff_ne]; exact s1
      go_enter Tryd.func46, Tryd.ntmps46
      go_upto_region 1 with fail
      rw [HW.out]
      clear HW
      go_wp2_with fail
      go_returns
      exact ⟨rb rfl (by simp [Ix.fitsOk]; simp [s1]), HK.out⟩
  have e3 : (op == 3) = false := by rw [beq_eq_false_iff_ne]; exact h3
  have e4 : (op == 4) = false := by rw [beq_eq_false_iff_ne]; exact h4
  have e5 : (op == 5) = false := by rw [beq_eq_false_iff_ne]; exact h5
  have e6 : (op == 6) = false := by rw [beq_eq_false_iff_ne]; exact h6
  have e7 : (op == 7) = false := by rw [beq_eq_false_iff_ne]; exact h7
  have e8 : (op == 8) = false := by rw [beq_eq_false_iff_ne]; exact h8
  have e9 : (op == 9) = false := by rw [beq_eq_false_iff_ne]; exact h9
  have e10 : (op == 10) = false := by rw [beq_eq_false_iff_ne]; exact h10
  have e11 : (op == 11) = false := by rw [beq_eq_false_iff_ne]; exact h11
  have e17 : (op == 17) = false := by rw [beq_eq_false_iff_ne]; exact h17
  have e19 : (op == 19) = false := by rw [beq_eq_false_iff_ne]; exact h19
  have e20 : (op == 20) = false := by rw [beq_eq_false_iff_ne]; exact h20
  go_enter Tryd.func46, Tryd.ntmps46
  go_upto_region 1 with fail
  rw [HW.out]
  clear HW
  go_wp2_with fail
  go_returns
  exact ⟨rb rfl (by simp [Ix.fitsOk, h3, h4, h5, h6, h7, h8, h9, h10, h11, h17, h19, h20]), HK.out⟩
end Go.Proofs.YtkiimljdoebclaaDoor
