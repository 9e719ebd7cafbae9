/- What OpTail names. -/
import Derived.Test.YtkiimljdoebclaaDoorIrFits
namespace Go.Proofs.YtkiimljdoebclaaDoor
open Go.RowKit
set_option linter.unusedVariables false
set_option linter.unusedSimpArgs false

set_option maxRecDepth 100000 in
set_option maxHeartbeats 12800000 in
theorem fits_tail (p : Pg) (f : Fx) (x : Ix) (pb po fb fo b off : Nat) (w : World) (hp : p.at_ w pb po) (hpo : PgOk w p) (hf : f.at_ w fb fo) (hfo : FxOk w f) (hx : x.at_ w b off) (hok : IxOk w x) (L : Laid w) (hop : x.op = 19) :
    Calls Tryd.prog 46 #[.pointer (some ⟨pb, po, none⟩), .pointer (some ⟨fb, fo, none⟩), .pointer (some ⟨b, off, none⟩)] w fun e w' => e = .returned (.bool (x.fitsOk f.slots.n p.gn p.fl f.value)) ∧ Keeps No w w' := by
  have HPO := Lib.hid hpo
  have hflen := hpo.flen
  obtain ⟨ga, gn, gc, gl, pfa, pfn, pfc, pfl, main⟩ := p
  obtain ⟨fname, fpar, freg, ⟨sa, sn, sc, sl⟩, ba, bn, bc, bl, fv⟩ := f
  obtain ⟨op, sub, d, a, b', n, wb, ws, ⟨aa, an, ac, al⟩, xto, xcs⟩ := x
  obtain ⟨W1, hW1⟩ : ∃ W1, w.alloc (.cells #[.pointer (some ⟨b, off, none⟩)] 87) = W1 := ⟨_, rfl⟩
  have hk1 : Keeps No w W1 := by rw [← hW1]; exact (Keeps.refl _ _).alloc _
  have hq : W1.cell? ⟨w.heap.size, 0, none⟩ = some (.pointer (some ⟨b, off, none⟩)) := by rw [← hW1, World.cell?_alloc_at _ _ _ _ rfl]; rfl
  have HBE := Lib.hid (fun k m => below_any _ k w.heap.size b off (W1.drewN m) hq (hx.no (hk1.drewN m)))
  have c0 := hk1.cell0 (hx 0 _ rfl)
  have c1 := hk1.cell0 (hx 1 _ rfl)
  have c2 := hk1.cell0 (hx 2 _ rfl)
  have c3 := hk1.cell0 (hx 3 _ rfl)
  have c5 := hk1.cell0 (hx 5 _ rfl)
  have c6 := hk1.cell0 (hx 6 _ rfl)
  have c7 := hk1.cell0 (hx 7 _ rfl)
  have c8 := hk1.cell0 (hx 8 _ rfl)
  have g3 := hk1.cell0 (hf 3 _ rfl)
  have g5 := hk1.cell0 (hf 5 _ rfl)
  have p0 := hk1.cell0 (hp 0 _ rfl)
  have p1 := hk1.cell0 (hp 1 _ rfl)
  rw [Nat.add_zero] at c0 p0
  have i1 := hok.d
  have i2 := hok.a
  have i3 := hok.n
  have i4 := hok.args.cap
  have i5 := hpo.fcap
  have i6 := hpo.gcap
  have i7 := hfo.slots.cap
  unfold I64 at i1 i2 i3
  unfold maxLen at i4 i5 i6 i7
  have HK := Lib.hid hk1
  have HL := Lib.hid (L.no hk1)
  have HW := Lib.hid hW1
  simp only at i1 i2 i3 i4 i5 i6 i7 hop hflen HBE
  clear hp hpo hf hfo hx hok L hk1 hW1
  dsimp only [Sl.v] at c8 g3
  subst hop
  have HFL := Lib.hid hflen
  clear hflen
  by_cases hb : 0 ≤ n ∧ n < (pfn : Int)
  · obtain ⟨N, rfl⟩ : ∃ N : Nat, n = (N : Int) := ⟨n.toNat, by omega⟩
    have hN : (N : Int) < (pfn : Int) := hb.2
    have N0 : (0 : Int) ≤ (N : Int) := by omega
    obtain ⟨g, hg⟩ : ∃ g, pfl[N]? = some g := ⟨_, List.getElem?_eq_getElem (by have := HFL.out; omega)⟩
    obtain ⟨gb, go_, hfa, hfat⟩ := HPO.out.fat (by simp only; omega)
    simp only at hfa hfat
    subst hfa
    have q1 := HK.out.cell0 (hfat N g hg 1 _ rfl)
    have q5 := HK.out.cell0 (hfat N g hg 5 _ rfl)
    have hbel : Hid (Ix.below ⟨19, sub, d, a, b', (N : Int), wb, ws, ⟨aa, an, ac, al⟩, xto, xcs⟩ pfn = true) := Lib.hid (by unfold Ix.below; simp; omega)
    have HBN := Lib.hid (fun m => by have h := HBE.out pfn m; rw [hbel.out] at h; exact h)
    have HG := Lib.hid hg
    have i8 := (HPO.out.fok g (List.mem_of_getElem? hg)).params
    unfold I64 at i8
    clear hfat hg hb
    obtain ⟨gname, gpar, greg, gsl, gba, gbn, gbc, gbl, gv⟩ := g
    simp only at i8
    have HS : Hid (Ix.fitsOk ⟨19, sub, d, a, b', (N : Int), wb, ws, ⟨aa, an, ac, al⟩, xto, xcs⟩ sn gn pfl fv = (decide ((an : Int) = gpar) && (!fv || gv))) := Lib.hid (by
      unfold Ix.fitsOk Ix.callOk
      simp only [Int.toNat_natCast, HG.out]
      rw [HFL.out, hbel.out]
      simp)
    simp only
    rw [HS.out]
    clear HS hbel HG
    by_cases ha : (an : Int) = gpar
    · subst ha
      cases gv with
      | true =>
        cases fv with
        | true =>
          go_enter Tryd.func46, Tryd.ntmps46
          go_upto_region 1 with fail
          rw [HW.out]
          clear HW
          go_wp2_with fail
          go_quiet ((go_at_call 61; exact quiet_one HBN.out))
          go_wp2_with fail
          go_returns
          exact ⟨rb rfl (by simp), HK.out.drewN _⟩
        | false =>
          go_enter Tryd.func46, Tryd.ntmps46
          go_upto_region 1 with fail
          rw [HW.out]
          clear HW
          go_wp2_with fail
          go_quiet ((go_at_call 61; exact quiet_one HBN.out))
          go_wp2_with fail
          go_returns
          exact ⟨rb rfl (by simp), HK.out.drewN _⟩
      | false =>
        cases fv with
        | true =>
          go_enter Tryd.func46, Tryd.ntmps46
          go_upto_region 1 with fail
          rw [HW.out]
          clear HW
          go_wp2_with fail
          go_quiet ((go_at_call 61; exact quiet_one HBN.out))
          go_wp2_with fail
          go_returns
          exact ⟨rb rfl (by simp), HK.out.drewN _⟩
        | false =>
          go_enter Tryd.func46, Tryd.ntmps46
          go_upto_region 1 with fail
          rw [HW.out]
          clear HW
          go_wp2_with fail
          go_quiet ((go_at_call 61; exact quiet_one HBN.out))
          go_wp2_with fail
          go_returns
          exact ⟨rb rfl (by simp), HK.out.drewN _⟩
    · have ha' : ((an : Int) == gpar) = false := by rw [beq_eq_false_iff_ne]; exact ha
      go_enter Tryd.func46, Tryd.ntmps46
      go_upto_region 1 with fail
      rw [HW.out]
      clear HW
      go_wp2_with fail
      go_quiet ((go_at_call 61; exact quiet_one HBN.out))
      go_wp2_with fail
      go_returns
      exact ⟨rb rfl (by simp [ha]), HK.out.drewN _⟩
  · have hbel : Hid (Ix.below ⟨19, sub, d, a, b', n, wb, ws, ⟨aa, an, ac, al⟩, xto, xcs⟩ pfn = false) := Lib.hid (by unfold Ix.below; simp; omega)
    have HBN := Lib.hid (fun m => by have h := HBE.out pfn m; rw [hbel.out] at h; exact h)
    have HS : Hid (Ix.fitsOk ⟨19, sub, d, a, b', n, wb, ws, ⟨aa, an, ac, al⟩, xto, xcs⟩ sn gn pfl fv = false) := Lib.hid (by
      unfold Ix.fitsOk Ix.callOk
      rw [HFL.out, hbel.out]
      simp; split <;> simp)
    simp only
    rw [HS.out]
    clear HS hbel
    go_enter Tryd.func46, Tryd.ntmps46
    go_upto_region 1 with fail
    rw [HW.out]
    clear HW
    go_wp2_with fail
    go_quiet ((go_at_call 61; exact quiet_one HBN.out))
    go_wp2_with fail
    go_returns
    exact ⟨rb rfl (by rfl), HK.out.drewN _⟩
end Go.Proofs.YtkiimljdoebclaaDoor
