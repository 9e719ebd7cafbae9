/- What may be: walk.global. -/
import Derived.Test.YtkiimljdoebclaaDoorIrForm3
import Derived.Deep.CutBlock
import Derived.StillTailTactics
namespace Go.Proofs.YtkiimljdoebclaaDoor
open Go.RowKit
set_option linter.unusedVariables false
set_option linter.unusedSimpArgs false

def Px.ok (size : Int) (fns : Nat) (k : Px) : Bool :=
  (decide (k.bytes = 1) || decide (k.bytes = 2) || decide (k.bytes = 4) || decide (k.bytes = 8)) && !(decide (k.at_ < 0) || decide (k.at_ > size - k.bytes) || decide (k.func < 0) || decide (k.func > (fns : Int)) || (decide (k.func > 0) && decide (k.bytes ≠ 8)))
def Gx.ok (fns : Nat) (g : Gx) : Bool := decide (1 ≤ g.size) && decide (g.size ≤ 65536) && g.pl.all (Px.ok g.size fns)
def Gx.at_ (g : Gx) (w : World) (b off : Nat) : Prop := ∀ (j : Nat) (v : Value), g.cells[j]? = some v → w.cell? ⟨b, off + j, none⟩ = some v
set_option maxRecDepth 100000 in
set_option maxHeartbeats 12800000 in
theorem global_any (p : Pg) (g : Gx) (pb po gb go_ : Nat) (w : World) (hp : p.at_ w pb po) (hpo : PgOk w p) (hg : g.at_ w gb go_) (hgo : GxOk w g) :
    Calls Tryd.prog 39 #[.pointer (some ⟨pb, po, none⟩), .pointer (some ⟨gb, go_, none⟩)] w fun e w' => e = .returned (.bool (g.ok p.fn)) ∧ Keeps No w w' := by
  have HGO := Lib.hid hgo
  have c1 := hg 1 _ rfl
  have c2 := hg 2 _ rfl
  have p1 := hp 1 _ rfl
  have hcap := hgo.cap
  have hfc := hpo.fcap
  have i1 := hgo.size
  unfold maxLen at hcap hfc
  unfold I64 at i1
  obtain ⟨gname, S, pa, pn, pc, pl⟩ := g
  obtain ⟨qga, qgn, qgc, qgl, qfa, fn, qfc, qfl, qmain⟩ := p
  simp only at hcap hfc i1
  have HU : Hid (Gx.ok fn ⟨gname, S, pa, pn, pc, pl⟩ = (decide (1 ≤ S) && decide (S ≤ 65536) && pl.all (Px.ok S fn))) := Lib.hid rfl
  simp only
  clear hp hpo hg hgo
  by_cases h1 : S < 1
  · have HF : Hid (Gx.ok fn ⟨gname, S, pa, pn, pc, pl⟩ = false) := Lib.hid (by rw [HU.out, decide_eq_false (by omega)]; rfl)
    go_enter Tryd.func39, Tryd.ntmps39
    go_wp2_with fail
    go_returns
    exact ⟨rb rfl HF.out.symm, Keeps.refl _ _⟩
  · by_cases h2 : S > 65536
    · have HF : Hid (Gx.ok fn ⟨gname, S, pa, pn, pc, pl⟩ = false) := Lib.hid (by rw [HU.out, decide_eq_false (show ¬ S ≤ 65536 by omega), Bool.and_false]; rfl)
      go_enter Tryd.func39, Tryd.ntmps39
      go_wp2_with fail
      go_returns
      exact ⟨rb rfl HF.out.symm, Keeps.refl _ _⟩
    · have HU2 : Hid (Gx.ok fn ⟨gname, S, pa, pn, pc, pl⟩ = pl.all (Px.ok S fn)) := Lib.hid (by rw [HU.out, decide_eq_true (by omega), decide_eq_true (by omega)]; rfl)
      clear HU
      go_enter Tryd.func39, Tryd.ntmps39
      go_wp2_with fail
      go_loopg [24] pn (fun g v wr => ∃ i : Nat, v = .int .i64 (i : Int) ∧ i ≤ pn ∧ g = pn - i ∧ Hid ((pl.take i).all (Px.ok S fn) = true) ∧ Hid (Keeps No w wr))
      case atStart => exact ⟨0, rfl, Nat.zero_le _, rfl, Lib.hid rfl, Lib.hid (Keeps.refl _ _)⟩
      case round =>
        obtain ⟨i, rfl, hi, hg, HE, HK⟩ := hrel
        by_cases hlt : i < pn
        · have hlt' : (i : Int) < (pn : Int) := by omega
          have i0 : (0 : Int) ≤ (i : Int) := by omega
          obtain ⟨bb, bo, ha, hc⟩ := HGO.out.at_ (by simp only; omega)
          simp only at ha hc
          subst ha
          obtain ⟨k, hk⟩ : ∃ k, pl[i]? = some k := ⟨_, List.getElem?_eq_getElem (by have := HGO.out.len; simp only at this; omega)⟩
          have k0 := HK.out.cell0 (hc i k hk 0 _ rfl)
          have k1 := HK.out.cell0 (hc i k hk 1 _ rfl)
          have k2 := HK.out.cell0 (hc i k hk 2 _ rfl)
          have k3 := HK.out.cell0 (hc i k hk 3 _ rfl)
          rw [Nat.add_zero] at k0
          have d1 := HK.out.cell0 c1
          have e1 := HK.out.cell0 p1
          have j1 := HGO.out.ok k (List.mem_of_getElem? hk)
          unfold I64 at j1
          obtain ⟨ka, kb, kf, kn⟩ := k
          simp only at j1
          have HKK := Lib.hid hk
          have HBAD : Hid (Px.ok S fn ⟨ka, kb, kf, kn⟩ = false → Gx.ok fn ⟨gname, S, some ⟨bb, bo, none⟩, pn, pc, pl⟩ = false) := Lib.hid (fun h => by
            rw [HU2.out, List.all_eq_false]; exact ⟨_, List.mem_of_getElem? HKK.out, by rw [h]; decide⟩)
          have HGOOD : Hid (Px.ok S fn ⟨ka, kb, kf, kn⟩ = true → (pl.take (i + 1)).all (Px.ok S fn) = true) := Lib.hid (fun h => by
            obtain ⟨h1, h2⟩ := List.getElem?_eq_some_iff.1 HKK.out
            rw [List.take_succ_eq_append_getElem h1, List.all_append, HE.out, h2]; simp [h])
          clear hk hc
          go_upto_region 6 with fail
          obtain ⟨WX, hWX⟩ : ∃ WX, wr.alloc (.cells #[.int .i64 ka, .int .i64 kb, .int .i64 kf, .int .i64 kn] 85) = WX := ⟨_, rfl⟩
          rw [hWX]
          obtain ⟨q, hq⟩ : ∃ q, wr.heap.size = q := ⟨_, rfl⟩
          have x0 : WX.cell? ⟨q, 0, none⟩ = some (.int .i64 ka) := by rw [← hWX, ← hq, World.cell?_alloc_at _ _ _ _ rfl]; rfl
          have x1 : WX.cell? ⟨q, 1, none⟩ = some (.int .i64 kb) := by rw [← hWX, ← hq, World.cell?_alloc_at _ _ _ _ rfl]; rfl
          have x2 : WX.cell? ⟨q, 2, none⟩ = some (.int .i64 kf) := by rw [← hWX, ← hq, World.cell?_alloc_at _ _ _ _ rfl]; rfl
          have hkx : Keeps No wr WX := by rw [← hWX]; exact (Keeps.refl _ _).alloc _
          have y1 := hkx.cell0 d1
          have z1 := hkx.cell0 e1
          have HKX := Lib.hid (HK.out.trans hkx (fun _ _ h => h))
          simp only [hq]
          clear d1 e1 hkx hWX k0 k1 k2 k3 hq
          go_upto_block 2 with fail
          go_cut [] (fun wx => (kb = 1 ∨ kb = 2 ∨ kb = 4 ∨ kb = 8) ∧ WX = wx)
          case first =>
            by_cases hb : kb = 1 ∨ kb = 2 ∨ kb = 4 ∨ kb = 8
            · rcases hb with h | h | h | h
              · have hb : kb = 1 ∨ kb = 2 ∨ kb = 4 ∨ kb = 8 := by omega
                subst h
                go_wp2_with fail
                go_meet
                exact ⟨by decide, rfl⟩
              · have hb : kb = 1 ∨ kb = 2 ∨ kb = 4 ∨ kb = 8 := by omega
                subst h
                go_wp2_with fail
                go_meet
                exact ⟨by decide, rfl⟩
              · have hb : kb = 1 ∨ kb = 2 ∨ kb = 4 ∨ kb = 8 := by omega
                subst h
                go_wp2_with fail
                go_meet
                exact ⟨by decide, rfl⟩
              · have hb : kb = 1 ∨ kb = 2 ∨ kb = 4 ∨ kb = 8 := by omega
                subst h
                go_wp2_with fail
                go_meet
                exact ⟨by decide, rfl⟩
            · have HF : Hid (Gx.ok fn ⟨gname, S, some ⟨bb, bo, none⟩, pn, pc, pl⟩ = false) := Lib.hid (HBAD.out (by
                unfold Px.ok; simp only
                rw [decide_eq_false (show ¬ kb = 1 by omega), decide_eq_false (show ¬ kb = 2 by omega), decide_eq_false (show ¬ kb = 4 by omega), decide_eq_false (show ¬ kb = 8 by omega)]; rfl))
              have f1 : (kb == 1) = false := by rw [beq_eq_false_iff_ne]; omega
              have f2 : (kb == 2) = false := by rw [beq_eq_false_iff_ne]; omega
              have f4 : (kb == 4) = false := by rw [beq_eq_false_iff_ne]; omega
              have f8 : (kb == 8) = false := by rw [beq_eq_false_iff_ne]; omega
              clear hb
              go_wp2_with fail
              go_returns
              exact ⟨rb rfl HF.out.symm, HKX.out⟩
          case rest =>
            obtain ⟨hb, rfl⟩ := hcut
            have hP : Px.ok S fn ⟨ka, kb, kf, kn⟩ = !(decide (ka < 0) || decide (ka > S - kb) || decide (kf < 0) || decide (kf > (fn : Int)) || (decide (kf > 0) && decide (kb ≠ 8))) := by
              unfold Px.ok; simp only
              rw [show (decide (kb = 1) || decide (kb = 2) || decide (kb = 4) || decide (kb = 8)) = true by simp; omega]
              rfl
            rw [hP] at HBAD HGOOD
            clear hP
            have hb1 : 1 ≤ kb ∧ kb ≤ 8 := by omega
            obtain ⟨D, hD⟩ : ∃ D, S - kb = D := ⟨_, rfl⟩
            have HB2 : Hid (IntKind.i64.wrap (S - kb) = D) := Lib.hid (by rw [IntKind.wrap_i64]; omega)
            rw [hD] at HBAD HGOOD
            have HD := Lib.hid hD
            clear hb hD
            by_cases t1 : ka < 0
            · have HF := HBAD.out (by simp; omega)
              have HF := Lib.hid HF
              have u1 : decide (ka < 0) = true := decide_eq_true (by omega)
              clear t1
              have hb2 := HB2.out
              go_wp2_with fail
              go_quiet (fail)
              clear hb2
              go_wp2_with fail
              go_returns
              exact ⟨rb rfl HF.out.symm, HKX.out.drewN _⟩
            · by_cases t2 : ka > D
              · have HF := HBAD.out (by simp; omega)
                have HF := Lib.hid HF
                have u1 : decide (ka < 0) = false := decide_eq_false (by omega)
                have u2 : decide (D < ka) = true := decide_eq_true (by omega)
                clear t1 t2
                have hb2 := HB2.out
                go_wp2_with fail
                go_quiet (fail)
                clear hb2
                go_wp2_with fail
                go_returns
                exact ⟨rb rfl HF.out.symm, HKX.out.drewN _⟩
              · by_cases t3 : kf < 0
                · have HF := HBAD.out (by simp; omega)
                  have HF := Lib.hid HF
                  have u1 : decide (ka < 0) = false := decide_eq_false (by omega)
                  have u2 : decide (D < ka) = false := decide_eq_false (by omega)
                  have u3 : decide (kf < 0) = true := decide_eq_true (by omega)
                  clear t1 t2 t3
                  have hb2 := HB2.out
                  go_wp2_with fail
                  go_quiet (fail)
                  clear hb2
                  go_wp2_with fail
                  go_returns
                  exact ⟨rb rfl HF.out.symm, HKX.out.drewN _⟩
                · by_cases t4 : kf > (fn : Int)
                  · have HF := HBAD.out (by simp; omega)
                    have HF := Lib.hid HF
                    have u1 : decide (ka < 0) = false := decide_eq_false (by omega)
                    have u2 : decide (D < ka) = false := decide_eq_false (by omega)
                    have u3 : decide (kf < 0) = false := decide_eq_false (by omega)
                    have u4 : decide ((fn : Int) < kf) = true := decide_eq_true (by omega)
                    clear t1 t2 t3 t4
                    have hb2 := HB2.out
                    go_wp2_with fail
                    go_quiet (fail)
                    clear hb2
                    go_wp2_with fail
                    go_returns
                    exact ⟨rb rfl HF.out.symm, HKX.out.drewN _⟩
                  · by_cases t5 : kf > 0
                    · by_cases t6 : kb = 8
                      · have HF := HGOOD.out (by simp; omega)
                        have HF := Lib.hid HF
                        have u1 : decide (ka < 0) = false := decide_eq_false (by omega)
                        have u2 : decide (D < ka) = false := decide_eq_false (by omega)
                        have u3 : decide (kf < 0) = false := decide_eq_false (by omega)
                        have u4 : decide ((fn : Int) < kf) = false := decide_eq_false (by omega)
                        have u5 : decide (0 < kf) = true := decide_eq_true (by omega)
                        have T6 := Lib.hid t6
                        have u6 : (kb != 8) = false := by rw [bne_eq_false_iff_eq]; exact t6
                        clear t1 t2 t3 t4 t5 t6
                        have hb2 := HB2.out
                        go_wp2_with fail
                        go_quiet (fail)
                        clear hb2
                        go_wp2_with fail
                        go_roundg (pn - (i + 1))
                        case rel => exact ⟨i + 1, by go_num, by omega, rfl, HF, Lib.hid (HKX.out.drewN _)⟩
                        case measure => omega
                      · have HF := HBAD.out (by simp; omega)
                        have HF := Lib.hid HF
                        have u1 : decide (ka < 0) = false := decide_eq_false (by omega)
                        have u2 : decide (D < ka) = false := decide_eq_false (by omega)
                        have u3 : decide (kf < 0) = false := decide_eq_false (by omega)
                        have u4 : decide ((fn : Int) < kf) = false := decide_eq_false (by omega)
                        have u5 : decide (0 < kf) = true := decide_eq_true (by omega)
                        have T6 := Lib.hid t6
                        have u6 : (kb != 8) = true := bne_iff_ne.2 t6
                        clear t1 t2 t3 t4 t5 t6
                        have hb2 := HB2.out
                        go_wp2_with fail
                        go_quiet (fail)
                        clear hb2
                        go_wp2_with fail
                        go_returns
                        exact ⟨rb rfl HF.out.symm, HKX.out.drewN _⟩
                    · have HF := HGOOD.out (by simp; omega)
                      have HF := Lib.hid HF
                      have u1 : decide (ka < 0) = false := decide_eq_false (by omega)
                      have u2 : decide (D < ka) = false := decide_eq_false (by omega)
                      have u3 : decide (kf < 0) = false := decide_eq_false (by omega)
                      have u4 : decide ((fn : Int) < kf) = false := decide_eq_false (by omega)
                      have u5 : decide (0 < kf) = false := decide_eq_false (by omega)
                      clear t1 t2 t3 t4 t5
                      have hb2 := HB2.out
                      go_wp2_with fail
                      go_quiet (fail)
                      clear hb2
                      go_wp2_with fail
                      go_roundg (pn - (i + 1))
                      case rel => exact ⟨i + 1, by go_num, by omega, rfl, HF, Lib.hid (HKX.out.drewN _)⟩
                      case measure => omega
        · obtain rfl : i = pn := by omega
          have hlt' : ¬ (i : Int) < (i : Int) := by omega
          go_wp2_with fail
          go_returns
          exact ⟨rb rfl (by rw [HU2.out]; have h := HE.out; rw [List.take_of_length_le (by have := HGO.out.len; simp only at this; omega)] at h; exact h.symm), HK.out⟩
end Go.Proofs.YtkiimljdoebclaaDoor
