/- What may be: walk.May, ir.Check. -/
import Derived.Test.YtkiimljdoebclaaDoorIrFun
import Derived.Test.YtkiimljdoebclaaDoorIrGlob
namespace Go.Proofs.YtkiimljdoebclaaDoor
open Go.RowKit
set_option linter.unusedVariables false
set_option linter.unusedSimpArgs false

def Pg.mainOk (p : Pg) : Bool := match p.fl[p.main.toNat]? with
  | some f => decide (f.params = 0)
  | none => false
def Pg.ok (p : Pg) : Bool := decide (0 ≤ p.main) && (decide (p.main < (p.fn : Int)) && (p.mainOk && (p.gl.all (Gx.ok p.fn) && p.fl.all (Fx.ok p.gn p.fl))))
theorem Pg.fget {w : World} {p : Pg} (h : PgOk w p) {i : Nat} (hi : i < p.fn) : ∃ (b off : Nat) (f : Fx), p.fl[i]? = some f ∧ p.fa = some ⟨b, off, none⟩ ∧ f.at_ w b (off + i * 6) ∧ FxOk w f := by
  obtain ⟨b, off, e, hc⟩ := h.fat (by omega)
  obtain ⟨z, hz⟩ : ∃ z, p.fl[i]? = some z := ⟨_, List.getElem?_eq_getElem (by rw [h.flen]; exact hi)⟩
  exact ⟨b, off, z, hz, e, hc i z hz, h.fok z (List.mem_of_getElem? hz)⟩
theorem Pg.gget {w : World} {p : Pg} (h : PgOk w p) {i : Nat} (hi : i < p.gn) : ∃ (b off : Nat) (g : Gx), p.gl[i]? = some g ∧ p.ga = some ⟨b, off, none⟩ ∧ g.at_ w b (off + i * 3) ∧ GxOk w g := by
  obtain ⟨b, off, e, hc⟩ := h.gat (by omega)
  obtain ⟨z, hz⟩ : ∃ z, p.gl[i]? = some z := ⟨_, List.getElem?_eq_getElem (by rw [h.glen]; exact hi)⟩
  exact ⟨b, off, z, hz, e, hc i z hz, h.gok z (List.mem_of_getElem? hz)⟩
set_option maxRecDepth 100000 in
set_option maxHeartbeats 12800000 in
theorem wmay_any (p : Pg) (pb : Nat) (w : World) (hp : p.at_ w pb 0) (hpo : PgOk w p) (L : Laid w) :
    Calls Tryd.prog 28 #[.pointer (some ⟨pb, 0, none⟩)] w fun e w' => e = .returned (.bool p.ok) ∧ Keeps No w w' := by
  have HPT := Lib.hid hp
  have HPO := Lib.hid hpo
  have HL := Lib.hid L
  have c0 := hp 0 _ rfl
  have c1 := hp 1 _ rfl
  have c2 := hp 2 _ rfl
  simp only [Nat.zero_add, Nat.add_zero] at c0 c1 c2
  have hgc := hpo.gcap
  have hfc := hpo.fcap
  unfold maxLen at hgc hfc
  have hmain := hpo.main
  unfold I64 at hmain
  clear hp hpo L
  have HU : Hid (p.ok = (decide (0 ≤ p.main) && (decide (p.main < (p.fn : Int)) && (p.mainOk && (p.gl.all (Gx.ok p.fn) && p.fl.all (Fx.ok p.gn p.fl)))))) := Lib.hid rfl
  obtain ⟨ga, hga⟩ : ∃ A, p.ga = A := ⟨_, rfl⟩
  obtain ⟨gn, hgn⟩ : ∃ A, p.gn = A := ⟨_, rfl⟩
  obtain ⟨gc, hgc'⟩ : ∃ A, p.gc = A := ⟨_, rfl⟩
  obtain ⟨fa, hfa⟩ : ∃ A, p.fa = A := ⟨_, rfl⟩
  obtain ⟨fn, hfn⟩ : ∃ A, p.fn = A := ⟨_, rfl⟩
  obtain ⟨fc, hfc'⟩ : ∃ A, p.fc = A := ⟨_, rfl⟩
  obtain ⟨mn, hmn⟩ : ∃ A, p.main = A := ⟨_, rfl⟩
  rw [hga, hgn, hgc'] at c0
  rw [hfa, hfn, hfc'] at c1
  rw [hmn] at c2 hmain
  rw [hgn, hgc'] at hgc
  rw [hfn, hfc'] at hfc
  have HGA := Lib.hid hga
  have HGN := Lib.hid hgn
  have HFA := Lib.hid hfa
  have HFN := Lib.hid hfn
  have HMN := Lib.hid hmn
  rw [hmn, hfn, hgn] at HU
  clear hga hgn hgc' hfa hfn hfc' hmn
  by_cases t1 : mn < 0
  · have u1 : decide (mn < 0) = true := decide_eq_true t1
    have HF : Hid (p.ok = false) := Lib.hid (by rw [HU.out, decide_eq_false (show ¬ 0 ≤ mn by omega)]; rfl)
    clear t1
    go_enter Tryd.func28, Tryd.ntmps28
    go_wp2_with fail
    go_quiet (fail)
    go_wp2_with fail
    go_returns
    exact ⟨rb rfl HF.out.symm, (Keeps.refl _ _).drewN _⟩
  · have u1 : decide (mn < 0) = false := decide_eq_false t1
    by_cases t2 : (fn : Int) ≤ mn
    · have u2 : decide ((fn : Int) ≤ mn) = true := decide_eq_true t2
      have HF : Hid (p.ok = false) := Lib.hid (by rw [HU.out, decide_eq_false (show ¬ mn < (fn : Int) by omega), Bool.false_and, Bool.and_false])
      clear t1 t2
      go_enter Tryd.func28, Tryd.ntmps28
      go_wp2_with fail
      go_quiet (fail)
      go_wp2_with fail
      go_returns
      exact ⟨rb rfl HF.out.symm, (Keeps.refl _ _).drewN _⟩
    · have u2 : decide ((fn : Int) ≤ mn) = false := decide_eq_false t2
      obtain ⟨m, rfl⟩ : ∃ m : Nat, mn = m := ⟨mn.toNat, by omega⟩
      have hm1 : m < fn := by omega
      obtain ⟨fb, fo, f0, hf0, hfa0, hft0, hfo0⟩ := Pg.fget HPO.out (i := m) (by rw [HFN.out]; exact hm1)
      obtain rfl := HFA.out.symm.trans hfa0
      have p0 := hft0 1 _ rfl
      have HM : Hid (p.mainOk = decide (f0.params = 0)) := Lib.hid (by unfold Pg.mainOk; rw [HMN.out, Int.toNat_natCast, hf0])
      have HU1 : Hid (p.ok = (decide (f0.params = 0) && (p.gl.all (Gx.ok fn) && p.fl.all (Fx.ok gn p.fl)))) := Lib.hid (by rw [HU.out, decide_eq_true (show (0 : Int) ≤ m by omega), decide_eq_true (show (m : Int) < fn by omega), HM.out]; rfl)
      obtain ⟨pp, hpp⟩ : ∃ q, f0.params = q := ⟨_, rfl⟩
      rw [hpp] at p0 HU1
      clear hf0 hfa0 hft0 hfo0 hpp HU HM t1 t2 u1 u2
      have hm1' : (m : Int) < (fn : Int) := by omega
      have m0 : (0 : Int) ≤ (m : Int) := by omega
      have u1 : decide ((m : Int) < 0) = false := decide_eq_false (by omega)
      have u2 : decide ((fn : Int) ≤ (m : Int)) = false := decide_eq_false (by omega)
      have u2' : decide (fn ≤ m) = false := decide_eq_false (by omega)
      by_cases t3 : pp = 0
      · have u3 : (pp != 0) = false := by rw [bne_eq_false_iff_eq]; exact t3
        have HU2 : Hid (p.ok = (p.gl.all (Gx.ok fn) && p.fl.all (Fx.ok gn p.fl))) := Lib.hid (by rw [HU1.out, decide_eq_true t3]; rfl)
        clear t3 HU1
        go_enter Tryd.func28, Tryd.ntmps28
        go_wp2_with fail
        go_quiet (fail)
        go_wp2_with fail
        have HK0 : Hid (Keeps No w (w.drewN nq)) := Lib.hid ((Keeps.refl _ _).drewN _)
        clear p0 u1 u2 u2' u3 c0 c1 c2
        generalize w.drewN nq = w1 at HK0 ⊢
        go_loopg [41] gn (fun g v wr => ∃ i : Nat, v = .int .i64 (i : Int) ∧ i ≤ gn ∧ g = gn - i ∧ Hid ((p.gl.take i).all (Gx.ok fn) = true) ∧ Hid (Keeps No w wr))
        case atStart => exact ⟨0, rfl, Nat.zero_le _, rfl, Lib.hid rfl, HK0⟩
        case round =>
          obtain ⟨i, rfl, hi, hg, HE, HK⟩ := hrel
          by_cases hlt : i < gn
          · have hlt' : (i : Int) < (gn : Int) := by omega
            have i0 : (0 : Int) ≤ (i : Int) := by omega
            obtain ⟨ab, ao, z, hz, ha, hat, hok⟩ := Pg.gget HPO.out (i := i) (by rw [HGN.out]; exact hlt)
            obtain rfl := HGA.out.symm.trans ha
            have c0 := HK.out.cell0 (HPT.out 0 _ rfl)
            simp only [Nat.zero_add] at c0
            rw [HGA.out, HGN.out] at c0
            obtain ⟨zc, hzc⟩ : ∃ q, p.gc = q := ⟨_, rfl⟩
            rw [hzc] at c0
            obtain ⟨R, hR⟩ : ∃ R, z.ok fn = R := ⟨_, rfl⟩
            have HC := Lib.hid (global_any p z pb 0 ab (ao + i * 3) wr (HPT.out.no HK.out) (HPO.out.no HK.out) (fun j v hj => HK.out.cell0 (hat j v hj)) (hok.no HK.out))
            rw [HFN.out, hR] at HC
            have HZ := Lib.hid hz
            have HR := Lib.hid hR
            clear hz ha hat hok hzc hR
            go_wp2_with fail
            refine HC.out.mono ?_
            rintro e w2 ⟨rfl, hg1⟩
            have HK2 := Lib.hid (HK.out.trans hg1 (fun _ _ h => h))
            clear hg1
            cases R with
            | false =>
              have HF : Hid (p.gl.all (Gx.ok fn) = false) := Lib.hid (List.all_eq_false.2 ⟨z, List.mem_of_getElem? HZ.out, by rw [HR.out]; decide⟩)
              go_wp2_with fail
              go_returns
              exact ⟨rb rfl (by rw [HU2.out, HF.out]; rfl), HK2.out⟩
            | true =>
              go_wp2_with fail
              go_roundg (gn - (i + 1))
              case rel => exact ⟨i + 1, by go_num, by omega, rfl, Lib.hid (by
                obtain ⟨h1, h2⟩ := List.getElem?_eq_some_iff.1 HZ.out
                rw [List.take_succ_eq_append_getElem h1, List.all_append, HE.out, h2]; simp [HR.out]), HK2⟩
              case measure => omega
          · obtain rfl : i = gn := by omega
            have hlt' : ¬ (i : Int) < (i : Int) := by omega
            have HU3 : Hid (p.ok = p.fl.all (Fx.ok i p.fl)) := Lib.hid (by
              rw [HU2.out]; have h := HE.out; rw [List.take_of_length_le (by have := HPO.out.glen; have := HGN.out; omega)] at h; rw [h]; rfl)
            obtain ⟨gn, hgn⟩ : ∃ gn, i = gn := ⟨_, rfl⟩
            rw [hgn] at HU3 HGN
            have HK0 := HK
            have c1 := HK0.out.cell0 (HPT.out 1 _ rfl)
            simp only [Nat.zero_add] at c1
            rw [HFA.out, HFN.out] at c1
            obtain ⟨zc, hzc⟩ : ∃ q, p.fc = q := ⟨_, rfl⟩
            rw [hzc] at c1
            clear hzc hgn HE HK
            go_wp2_with fail
            go_loopg [59] fn (fun g v wr => ∃ i : Nat, v = .int .i64 (i : Int) ∧ i ≤ fn ∧ g = fn - i ∧ Hid ((p.fl.take i).all (Fx.ok gn p.fl) = true) ∧ Hid (Keeps No w wr))
            case atStart => exact ⟨0, rfl, Nat.zero_le _, rfl, Lib.hid rfl, HK0⟩
            case round =>
              obtain ⟨i, rfl, hi, hg, HE, HK⟩ := hrel
              by_cases hlt : i < fn
              · have hlt' : (i : Int) < (fn : Int) := by omega
                have i0 : (0 : Int) ≤ (i : Int) := by omega
                obtain ⟨ab, ao, z, hz, ha, hat, hok⟩ := Pg.fget HPO.out (i := i) (by rw [HFN.out]; exact hlt)
                obtain ⟨rfl, rfl⟩ : fb = ab ∧ fo = ao := by have := HFA.out.symm.trans ha; simpa using this
                have c1 := HK.out.cell0 (HPT.out 1 _ rfl)
                simp only [Nat.zero_add] at c1
                rw [HFA.out, HFN.out] at c1
                obtain ⟨zc, hzc⟩ : ∃ q, p.fc = q := ⟨_, rfl⟩
                rw [hzc] at c1
                obtain ⟨R, hR⟩ : ∃ R, z.ok gn p.fl = R := ⟨_, rfl⟩
                have HC := Lib.hid (function_any p z pb 0 fb (fo + i * 6) wr (HPT.out.no HK.out) (HPO.out.no HK.out) (hat.no HK.out) (hok.no HK.out) (HL.out.no HK.out))
                rw [HGN.out, hR] at HC
                have HZ := Lib.hid hz
                have HR := Lib.hid hR
                clear hz ha hat hok hzc hR
                go_wp2_with fail
                refine HC.out.mono ?_
                rintro e w2 ⟨rfl, hg1⟩
                have HK2 := Lib.hid (HK.out.trans hg1 (fun _ _ h => h))
                clear hg1
                cases R with
                | false =>
                  have HF : Hid (p.fl.all (Fx.ok gn p.fl) = false) := Lib.hid (List.all_eq_false.2 ⟨z, List.mem_of_getElem? HZ.out, by rw [HR.out]; decide⟩)
                  go_wp2_with fail
                  go_returns
                  exact ⟨rb rfl (by rw [HU3.out, HF.out]), HK2.out⟩
                | true =>
                  go_wp2_with fail
                  go_roundg (fn - (i + 1))
                  case rel => exact ⟨i + 1, by go_num, by omega, rfl, Lib.hid (by
                    obtain ⟨h1, h2⟩ := List.getElem?_eq_some_iff.1 HZ.out
                    rw [List.take_succ_eq_append_getElem h1, List.all_append, HE.out, h2]; simp [HR.out]), HK2⟩
                  case measure => omega
              · obtain rfl : i = fn := by omega
                have hlt' : ¬ (i : Int) < (i : Int) := by omega
                go_wp2_with fail
                go_returns
                exact ⟨rb rfl (by rw [HU3.out]; have h := HE.out; rw [List.take_of_length_le (by have := HPO.out.flen; have := HFN.out; omega)] at h; exact h.symm), HK.out⟩
      · have u3 : (pp != 0) = true := bne_iff_ne.2 t3
        have HF : Hid (p.ok = false) := Lib.hid (by rw [HU1.out, decide_eq_false t3]; rfl)
        clear t3
        go_enter Tryd.func28, Tryd.ntmps28
        go_wp2_with fail
        go_quiet (fail)
        go_wp2_with fail
        go_returns
        exact ⟨rb rfl HF.out.symm, (Keeps.refl _ _).drewN _⟩
/-- A program as a value. -/
abbrev pv (p : Pg) : Value := .agg #[.slice p.ga p.gn p.gc, .slice p.fa p.fn p.fc, .int .i64 p.main]
theorem pg_boxed (p : Pg) (w : World) (t : TypeId) : p.at_ (w.alloc (.cells #[.slice p.ga p.gn p.gc, .slice p.fa p.fn p.fc, .int .i64 p.main] t)) w.heap.size 0 := fun j v hj => by
  rw [World.cell?_alloc_at _ _ _ _ rfl, Nat.zero_add]
  rw [List.getElem?_toArray]; exact hj
set_option maxRecDepth 100000 in
set_option maxHeartbeats 3200000 in
theorem check_any (p : Pg) (w : World) (hpo : PgOk w p) (L : Laid w) :
    Calls Tryd.prog 16 #[pv p] w fun e w' => e = .returned (.bool p.ok) ∧ Keeps No w w' := by
  have HU := Lib.hid (fun (o : Obj) (h : p.at_ (w.alloc o) w.heap.size 0) => wmay_any p w.heap.size (w.alloc o) h (hpo.no ((Keeps.refl _ _).alloc _)) (L.no ((Keeps.refl _ _).alloc _)))
  clear hpo L
  go_enter Tryd.func16, Tryd.ntmps16
  go_wp2_with fail
  refine (HU.out _ (pg_boxed p w _)).mono ?_
  rintro e w1 ⟨rfl, hk⟩
  have HK := Lib.hid (((Keeps.refl No w).alloc _).trans hk (fun _ _ e => e))
  clear hk
  go_wp2_with fail
  go_returns
  exact ⟨rfl, HK.out⟩
end Go.Proofs.YtkiimljdoebclaaDoor
