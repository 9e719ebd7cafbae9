/- One step of a run: as data. -/
import Derived.Test.YtbfjmhfhhlncjaaDoorIrMachs
import Derived.Test.YtbfjmhfhhlncjaaDoorIrForm3
import Derived.Deep.CutBlock
import Derived.StillTailTactics
import Derived.Test.YtbfjmhfhhlncjaaDoorWordPlainW
import Derived.Test.YtbfjmhfhhlncjaaDoorIrFits
namespace Go.Proofs.YtbfjmhfhhlncjaaDoor
open Go.RowKit
set_option linter.unusedVariables false
set_option linter.unusedSimpArgs false

structure SxOk (X : Sx) : Prop where
  pok : PgOk X.w0 X.P
  pat : X.P.at_ X.w0 X.pb 0
  fa : X.P.fa = some ⟨X.fb, X.fo, none⟩
/-- Where a run stands: at an instruction of a frame. -/
structure At (X : Sx) (s : St) (k : Nat) (f : Fr1) (F : Fx) (b : Bx) (x : Ix) : Prop where
  len : s.fs.length = k + 1
  k0 : k ≤ 1000000
  hf : s.fs[k]? = some f
  hF : X.P.fl[f.fi]? = some F
  hb : F.bl[f.bl]? = some b
  hx : b.l[f.at_]? = some x
  base : f.base < s.rg.length
  rl : s.rg.length ≤ 1000000
  st : (s.steps : Int) ≠ X.fuel
  st' : s.steps ≤ 2000000
  al : f.at_ ≤ 1000000
/-- Behind the first half of a step: it is counted, and the frame stands at the next instruction. -/
def St.next (s : St) (k : Nat) (f : Fr1) : St := { s with steps := s.steps + 1, fs := s.fs.set k { f with at_ := f.at_ + 1 } }
/-- What the walk of a step takes of memory. -/
structure Seen (X : Sx) (w : World) (c : Cs) (s : St) (k : Nat) (f : Fr1) (F : Fx) (b : Bx) (x : Ix) (g cap rb rc ib io bb bo : Nat) : Prop where
  fs : c.fs = .slice (some ⟨g, 0, none⟩) (k + 1) cap
  fc : k + 1 ≤ cap ∧ cap ≤ maxLen
  rg : c.rg = .slice (some ⟨rb, 0, none⟩) s.rg.length rc
  rc : s.rg.length ≤ rc ∧ rc ≤ maxLen
  fn : F.ba = some ⟨bb, bo, none⟩ ∧ F.bn ≤ F.bc ∧ F.bc ≤ maxLen ∧ f.bl < F.bn
  fcell : ∀ W, Keeps No X.w0 W → W.cell? ⟨X.fb, X.fo + f.fi * 6 + 4, none⟩ = some (.slice (some ⟨bb, bo, none⟩) F.bn F.bc)
  bcell : ∀ W, Keeps No X.w0 W → W.cell? ⟨bb, bo + f.bl, none⟩ = some (.slice (some ⟨ib, io, none⟩) b.n b.cap)
  bl : b.n ≤ b.cap ∧ b.cap ≤ maxLen ∧ f.at_ < b.n
  xat : ∀ W, Keeps No X.w0 W → x.at_ W ib (io + f.at_ * 11)
  xok : ∀ W, Keeps No X.w0 W → IxOk W x
theorem seen {X : Sx} {w : World} {c : Cs} {s : St} {k : Nat} {f : Fr1} {F : Fx} {b : Bx} {x : Ix} (hX : SxOk X) (h : MAt X w c s) (ha : At X s k f F b x) : ∃ g cap rb rc ib io bb bo, Seen X w c s k f F b x g cap rb rc ib io bb bo := by
  obtain ⟨g, cap, e1, e2, e3⟩ := h.fform (by rw [ha.len]; omega)
  obtain ⟨rb, rc, r1, r2, r3⟩ := h.rform (by have := ha.base; omega)
  rw [ha.len] at e1 e2
  have hP := hX.pok
  have hfl : f.fi < X.P.fl.length := (List.getElem?_eq_some_iff.1 ha.hF).1
  obtain ⟨pb', po', hpa, hpc⟩ := hP.fat (by rw [← hP.flen]; omega)
  have hpe := hX.fa
  rw [hpe] at hpa
  injection hpa with hpa
  injection hpa with ep1 ep2 _
  subst ep1; subst ep2
  have hFok : FxOk X.w0 F := hP.fok F (List.mem_of_getElem? ha.hF)
  have hFat := hpc f.fi F ha.hF
  have hbl : f.bl < F.bl.length := (List.getElem?_eq_some_iff.1 ha.hb).1
  obtain ⟨bb, bo, z, hz, hba, hbc, hbok⟩ := Fx.get hFok (i := f.bl) (by rw [← hFok.len]; omega)
  obtain rfl : b = z := by have := ha.hb; rw [hz] at this; exact (Option.some.inj this).symm
  have hbl' : f.at_ < b.l.length := (List.getElem?_eq_some_iff.1 ha.hx).1
  obtain ⟨ib, io, y, hy, hya, hyt, hyo⟩ := Bx.get hbok (i := f.at_) (by rw [← hbok.len]; omega)
  obtain rfl : x = y := by have := ha.hx; rw [hy] at this; exact (Option.some.inj this).symm
  refine ⟨g, cap, rb, rc, ib, io, bb, bo, e1, ⟨e2, e3⟩, r1, ⟨r2, r3⟩, ⟨hba, hFok.cap.1, hFok.cap.2, by rw [← hFok.len]; omega⟩, fun W hW => ?_, fun W hW => ?_, ⟨hbok.cap.1, hbok.cap.2, by rw [← hbok.len]; omega⟩, fun W hW => hyt.no hW, fun W hW => hyo.no hW⟩
  · have := hFat 4 _ rfl
    rw [hba] at this
    exact hW.cell0 this
  · have := hbc
    unfold Bx.v at this
    rw [hya] at this
    exact hW.cell0 this
end Go.Proofs.YtbfjmhfhhlncjaaDoor
/- One step of a run: OpConst. -/
namespace Go.Proofs.YtbfjmhfhhlncjaaDoor
open Go.RowKit
set_option linter.unusedVariables false
set_option linter.unusedSimpArgs false

set_option maxRecDepth 100000 in
set_option maxHeartbeats 6400000 in
theorem step_const (X : Sx) (hX : SxOk X) (w : World) (c : Cs) (s : St) (k : Nat) (f : Fr1) (F : Fx) (b : Bx) (x : Ix) (h : MAt X w c s) (hat : At X s k f F b x) (hop : x.op = 1) (d : Nat) (hd : x.d = d) (hdl : f.base + d < s.rg.length) :
    Calls Tryd.prog 43 #[.pointer (some ⟨X.M, 0, none⟩)] w fun e w' => StepTo X { s.next k f with rg := s.rg.set (f.base + d) x.n } e w' := by
  obtain ⟨g, cap, rb, rc, ib, io, bb, bo, S⟩ := seen hX h hat
  have c1 : w.cell? ⟨X.M, 1, none⟩ = some c.fs := h.cell 1 _ rfl
  have c10 : w.cell? ⟨X.M, 10, none⟩ = some (.int .i64 X.fuel) := h.cell 10 _ rfl
  have c11 : w.cell? ⟨X.M, 11, none⟩ = some (.int .i64 s.steps) := h.cell 11 _ rfl
  have f11 := h.frozen 11
  have hA := hat
  obtain ⟨len, k0, hf, hF, hb, hx, base, rl, st, st', al⟩ := hat
  have e11 : ((s.steps : Int) == X.fuel) = false := beq_eq_false_iff_ne.2 st
  have fcap := S.fc
  have rcap := S.rc
  have bcap := S.bl
  have ncap := S.fn.2
  unfold maxLen at fcap rcap bcap ncap
  have HS := Lib.hid S
  have H := Lib.hid h
  have HA := Lib.hid hA
  have H1 := Lib.hid (fun m : Nat => (h.drewN m).putM 11 (.int .i64 ((s.steps : Int) + 1)) { s with steps := s.steps + 1 } rfl rfl rfl rfl rfl rfl)
  clear S h hA len hf hF hb hx st
  rw [HS.out.fs] at c1
  go_enter Tryd.func43, Tryd.ntmps43
  go_wp2_with fail
  go_quiet (fail)
  go_wp2_with fail
  have H2 := Lib.hid (H1.out nq)
  clear c1 c10 c11 f11 e11 H1
  generalize ((w.drewN nq).setCell ⟨X.M, 11, none⟩ (.int .i64 ((s.steps : Int) + 1))) = w1 at H2 ⊢
  have hf1 : ({ s with steps := s.steps + 1 } : St).fs[k]? = some f := HA.out.hf
  have hg1 : c.fs = .slice (some ⟨g, 0, none⟩) ({ s with steps := s.steps + 1 } : St).fs.length cap := by rw [show ({ s with steps := s.steps + 1 } : St).fs.length = k + 1 from HA.out.len]; exact HS.out.fs
  have c1 : w1.cell? ⟨X.M, 1, none⟩ = some c.fs := H2.out.cell 1 _ rfl
  rw [HS.out.fs] at c1
  have hk0 := H2.out.rows.k0
  have d0 := H2.out.fcell hg1 hf1 0 _ rfl
  have d2 := H2.out.fcell hg1 hf1 2 _ rfl
  have d3 := H2.out.fcell hg1 hf1 3 _ rfl
  have d4 := H2.out.fcell hg1 hf1 4 _ rfl
  have g3 := H2.out.ffrozen hg1 (k * 8 + 3)
  have p4 := HS.out.fcell _ hk0
  have p5 := HS.out.bcell _ hk0
  rw [Nat.add_zero] at d0
  have H3 := Lib.hid (fun m : Nat => (H2.out.drewN m).putF hg1 hf1 3 (.int .i64 ((f.at_ : Int) + 1)) { f with at_ := f.at_ + 1 } rfl (by omega))
  clear hf1 hg1 hk0
  go_quiet (fail)
  generalize nq = n1
  go_wp2_with fail
  go_quiet (fail)
  go_wp2_with fail
  have H4 : Hid (MAt X ((w1.drewN (n1 + nq)).setCell ⟨g, k * 8 + 3, none⟩ (.int .i64 ((f.at_ : Int) + 1))) c (s.next k f)) := Lib.hid (H3.out (n1 + nq))
  clear c1 d0 d2 d3 d4 g3 p4 p5 H3 H2 fcap bcap ncap
  generalize ((w1.drewN (n1 + nq)).setCell ⟨g, k * 8 + 3, none⟩ (.int .i64 ((f.at_ : Int) + 1))) = w2 at H4 ⊢
  have hf2 : (s.next k f).fs[k]? = some { f with at_ := f.at_ + 1 } := by
    show (s.fs.set k _)[k]? = _
    rw [List.getElem?_set_self (by rw [HA.out.len]; omega)]
  have hg2 : c.fs = .slice (some ⟨g, 0, none⟩) (s.next k f).fs.length cap := by rw [show (s.next k f).fs.length = k + 1 from (List.length_set).trans HA.out.len]; exact HS.out.fs
  have c2 : w2.cell? ⟨X.M, 2, none⟩ = some c.rg := H4.out.cell 2 _ rfl
  rw [HS.out.rg] at c2
  have d4 := H4.out.fcell hg2 hf2 4 _ rfl
  have x0 := HS.out.xat _ H4.out.rows.k0 0 _ rfl
  rw [Nat.add_zero, hop] at x0
  have HR : Hid (c.rg = .slice (some ⟨rb, 0, none⟩) (s.next k f).rg.length rc) := Lib.hid HS.out.rg
  obtain ⟨rl', hrl⟩ : ∃ r, s.rg.length = r := ⟨_, rfl⟩
  have HRL := Lib.hid hrl
  rw [hrl] at c2 base rcap rl
  have bc1 : ¬ rc = f.base := by omega
  have bc2 : (f.base : Int) ≤ rl' := by omega
  clear hf2 hg2 hrl
  go_quiet (fail)
  go_wp2_with fail
  have H5 := Lib.hid (H4.out.drewN nq)
  clear c2 d4 x0 H4 bc1 bc2
  generalize w2.drewN nq = w3 at H5 ⊢
  have HX := Lib.hid (HS.out.xat _ H5.out.rows.k0)
  have x2 := HX.out 2 _ rfl
  rw [hd] at x2
  clear hd
  have x5 := HX.out 5 _ rfl
  rw [HRL.out] at hdl
  have hdl2 : d < rl' - f.base := by omega
  have zfr := H5.out.rfrozen HR.out (f.base + d)
  obtain ⟨zold, hzo⟩ : ∃ z, (s.next k f).rg[f.base + d]? = some z := ⟨_, List.getElem?_eq_getElem (by rw [show (s.next k f).rg = s.rg from rfl, HRL.out]; exact hdl)⟩
  have zc := H5.out.rcell HR.out hzo
  have H6 := Lib.hid (H5.out.drew.putR HR.out (f.base + d) (x.n))
  clear hzo
  go_still_tail 10, (by kernel_rfl)
  change wpList _ _ _ _ _ w3.drew
  go_wp2_with fail
  go_returns
  exact ⟨rfl, _, H6.out⟩
end Go.Proofs.YtbfjmhfhhlncjaaDoor
/- One step of a run: OpBin. -/
namespace Go.Proofs.YtbfjmhfhhlncjaaDoor
open Go.RowKit
set_option linter.unusedVariables false
set_option linter.unusedSimpArgs false

set_option maxRecDepth 100000 in
set_option maxHeartbeats 6400000 in
theorem step_bin (X : Sx) (hX : SxOk X) (w : World) (c : Cs) (s : St) (k : Nat) (f : Fr1) (F : Fx) (b : Bx) (x : Ix) (h : MAt X w c s) (hat : At X s k f F b x) (hop : x.op = 3) (d : Nat) (hd : x.d = d) (hdl : f.base + d < s.rg.length) (a : Nat) (ha : x.a = a) (za : Int) (hza : s.rg[f.base + a]? = some za) (hia : I64 za) (b_ : Nat) (hb_ : x.b = b_) (zb_ : Int) (hzb_ : s.rg[f.base + b_]? = some zb_) (hib_ : I64 zb_) (hok : Wd.plainOk x.sub za zb_ = true) :
    Calls Tryd.prog 43 #[.pointer (some ⟨X.M, 0, none⟩)] w fun e w' => StepTo X { s.next k f with rg := s.rg.set (f.base + d) (Wd.plainV x.sub za zb_) } e w' := by
  obtain ⟨g, cap, rb, rc, ib, io, bb, bo, S⟩ := seen hX h hat
  have c1 : w.cell? ⟨X.M, 1, none⟩ = some c.fs := h.cell 1 _ rfl
  have c10 : w.cell? ⟨X.M, 10, none⟩ = some (.int .i64 X.fuel) := h.cell 10 _ rfl
  have c11 : w.cell? ⟨X.M, 11, none⟩ = some (.int .i64 s.steps) := h.cell 11 _ rfl
  have f11 := h.frozen 11
  have hA := hat
  obtain ⟨len, k0, hf, hF, hb, hx, base, rl, st, st', al⟩ := hat
  have e11 : ((s.steps : Int) == X.fuel) = false := beq_eq_false_iff_ne.2 st
  have fcap := S.fc
  have rcap := S.rc
  have bcap := S.bl
  have ncap := S.fn.2
  unfold maxLen at fcap rcap bcap ncap
  have HS := Lib.hid S
  have H := Lib.hid h
  have HA := Lib.hid hA
  have H1 := Lib.hid (fun m : Nat => (h.drewN m).putM 11 (.int .i64 ((s.steps : Int) + 1)) { s with steps := s.steps + 1 } rfl rfl rfl rfl rfl rfl)
  clear S h hA len hf hF hb hx st
  rw [HS.out.fs] at c1
  go_enter Tryd.func43, Tryd.ntmps43
  go_wp2_with fail
  go_quiet (fail)
  go_wp2_with fail
  have H2 := Lib.hid (H1.out nq)
  clear c1 c10 c11 f11 e11 H1
  generalize ((w.drewN nq).setCell ⟨X.M, 11, none⟩ (.int .i64 ((s.steps : Int) + 1))) = w1 at H2 ⊢
  have hf1 : ({ s with steps := s.steps + 1 } : St).fs[k]? = some f := HA.out.hf
  have hg1 : c.fs = .slice (some ⟨g, 0, none⟩) ({ s with steps := s.steps + 1 } : St).fs.length cap := by rw [show ({ s with steps := s.steps + 1 } : St).fs.length = k + 1 from HA.out.len]; exact HS.out.fs
  have c1 : w1.cell? ⟨X.M, 1, none⟩ = some c.fs := H2.out.cell 1 _ rfl
  rw [HS.out.fs] at c1
  have hk0 := H2.out.rows.k0
  have d0 := H2.out.fcell hg1 hf1 0 _ rfl
  have d2 := H2.out.fcell hg1 hf1 2 _ rfl
  have d3 := H2.out.fcell hg1 hf1 3 _ rfl
  have d4 := H2.out.fcell hg1 hf1 4 _ rfl
  have g3 := H2.out.ffrozen hg1 (k * 8 + 3)
  have p4 := HS.out.fcell _ hk0
  have p5 := HS.out.bcell _ hk0
  rw [Nat.add_zero] at d0
  have H3 := Lib.hid (fun m : Nat => (H2.out.drewN m).putF hg1 hf1 3 (.int .i64 ((f.at_ : Int) + 1)) { f with at_ := f.at_ + 1 } rfl (by omega))
  clear hf1 hg1 hk0
  go_quiet (fail)
  generalize nq = n1
  go_wp2_with fail
  go_quiet (fail)
  go_wp2_with fail
  have H4 : Hid (MAt X ((w1.drewN (n1 + nq)).setCell ⟨g, k * 8 + 3, none⟩ (.int .i64 ((f.at_ : Int) + 1))) c (s.next k f)) := Lib.hid (H3.out (n1 + nq))
  clear c1 d0 d2 d3 d4 g3 p4 p5 H3 H2 fcap bcap ncap
  generalize ((w1.drewN (n1 + nq)).setCell ⟨g, k * 8 + 3, none⟩ (.int .i64 ((f.at_ : Int) + 1))) = w2 at H4 ⊢
  have hf2 : (s.next k f).fs[k]? = some { f with at_ := f.at_ + 1 } := by
    show (s.fs.set k _)[k]? = _
    rw [List.getElem?_set_self (by rw [HA.out.len]; omega)]
  have hg2 : c.fs = .slice (some ⟨g, 0, none⟩) (s.next k f).fs.length cap := by rw [show (s.next k f).fs.length = k + 1 from (List.length_set).trans HA.out.len]; exact HS.out.fs
  have c2 : w2.cell? ⟨X.M, 2, none⟩ = some c.rg := H4.out.cell 2 _ rfl
  rw [HS.out.rg] at c2
  have d4 := H4.out.fcell hg2 hf2 4 _ rfl
  have x0 := HS.out.xat _ H4.out.rows.k0 0 _ rfl
  rw [Nat.add_zero, hop] at x0
  have HR : Hid (c.rg = .slice (some ⟨rb, 0, none⟩) (s.next k f).rg.length rc) := Lib.hid HS.out.rg
  obtain ⟨rl', hrl⟩ : ∃ r, s.rg.length = r := ⟨_, rfl⟩
  have HRL := Lib.hid hrl
  rw [hrl] at c2 base rcap rl
  have bc1 : ¬ rc = f.base := by omega
  have bc2 : (f.base : Int) ≤ rl' := by omega
  clear hf2 hg2 hrl
  go_quiet (fail)
  go_wp2_with fail
  have H5 := Lib.hid (H4.out.drewN nq)
  clear c2 d4 x0 H4 bc1 bc2
  generalize w2.drewN nq = w3 at H5 ⊢
  have HX := Lib.hid (HS.out.xat _ H5.out.rows.k0)
  have x3 := HX.out 3 _ rfl
  rw [ha] at x3
  have haa : f.base + a < rl' := by have := (List.getElem?_eq_some_iff.1 hza).1; rw [HRL.out] at this; exact this
  have hba : a < rl' - f.base := by omega
  have ra := H5.out.rcell HR.out (k := f.base + a) (z := za) hza
  clear ha haa
  have x4 := HX.out 4 _ rfl
  rw [hb_] at x4
  have hab_ : f.base + b_ < rl' := by have := (List.getElem?_eq_some_iff.1 hzb_).1; rw [HRL.out] at this; exact this
  have hbb_ : b_ < rl' - f.base := by omega
  have rb_ := H5.out.rcell HR.out (k := f.base + b_) (z := zb_) hzb_
  clear hb_ hab_
  have x1 := HX.out 1 _ rfl
  unfold I64 at hia hib_
  obtain ⟨V, hV⟩ : ∃ V, Wd.plainV x.sub za zb_ = V := ⟨_, rfl⟩
  have HP := Lib.hid (fun m : Nat => wplain x.sub za zb_ hia hib_ (w3.drewN m))
  rw [hV, hok] at HP
  have HVV := Lib.hid hV
  clear hV hok hza hzb_ hia hib_
  go_quiet ((go_at_call 65; exact quiet_one HP.out))
  have H5 := Lib.hid (H5.out.drewN nq)
  clear HP x1 x3 x4 ra rb_
  generalize w3.drewN nq = w4 at H5 ⊢
  have x2 := (HS.out.xat _ H5.out.rows.k0) 2 _ rfl
  rw [hd] at x2
  clear hd
  rw [HRL.out] at hdl
  have hdl2 : d < rl' - f.base := by omega
  have zfr := H5.out.rfrozen HR.out (f.base + d)
  obtain ⟨zold, hzo⟩ : ∃ z, (s.next k f).rg[f.base + d]? = some z := ⟨_, List.getElem?_eq_getElem (by rw [show (s.next k f).rg = s.rg from rfl, HRL.out]; exact hdl)⟩
  have zc := H5.out.rcell HR.out hzo
  have H6 := Lib.hid (H5.out.putR HR.out (f.base + d) (V))
  clear hzo
  go_wp2_with fail
  go_returns
  rw [HVV.out]
  exact ⟨rfl, _, H6.out⟩

set_option maxRecDepth 100000 in
set_option maxHeartbeats 6400000 in
theorem step_bin_no (X : Sx) (hX : SxOk X) (w : World) (c : Cs) (s : St) (k : Nat) (f : Fr1) (F : Fx) (b : Bx) (x : Ix) (h : MAt X w c s) (hat : At X s k f F b x) (hop : x.op = 3) (a : Nat) (ha : x.a = a) (za : Int) (hza : s.rg[f.base + a]? = some za) (hia : I64 za) (b_ : Nat) (hb_ : x.b = b_) (zb_ : Int) (hzb_ : s.rg[f.base + b_]? = some zb_) (hib_ : I64 zb_) (hok : Wd.plainOk x.sub za zb_ = false) :
    Calls Tryd.prog 43 #[.pointer (some ⟨X.M, 0, none⟩)] w fun e w' => StepTo X ((s.next k f).stop 2 0) e w' := by
  obtain ⟨g, cap, rb, rc, ib, io, bb, bo, S⟩ := seen hX h hat
  have c1 : w.cell? ⟨X.M, 1, none⟩ = some c.fs := h.cell 1 _ rfl
  have c10 : w.cell? ⟨X.M, 10, none⟩ = some (.int .i64 X.fuel) := h.cell 10 _ rfl
  have c11 : w.cell? ⟨X.M, 11, none⟩ = some (.int .i64 s.steps) := h.cell 11 _ rfl
  have f11 := h.frozen 11
  have hA := hat
  obtain ⟨len, k0, hf, hF, hb, hx, base, rl, st, st', al⟩ := hat
  have e11 : ((s.steps : Int) == X.fuel) = false := beq_eq_false_iff_ne.2 st
  have fcap := S.fc
  have rcap := S.rc
  have bcap := S.bl
  have ncap := S.fn.2
  unfold maxLen at fcap rcap bcap ncap
  have HS := Lib.hid S
  have H := Lib.hid h
  have HA := Lib.hid hA
  have H1 := Lib.hid (fun m : Nat => (h.drewN m).putM 11 (.int .i64 ((s.steps : Int) + 1)) { s with steps := s.steps + 1 } rfl rfl rfl rfl rfl rfl)
  clear S h hA len hf hF hb hx st
  rw [HS.out.fs] at c1
  go_enter Tryd.func43, Tryd.ntmps43
  go_wp2_with fail
  go_quiet (fail)
  go_wp2_with fail
  have H2 := Lib.hid (H1.out nq)
  clear c1 c10 c11 f11 e11 H1
  generalize ((w.drewN nq).setCell ⟨X.M, 11, none⟩ (.int .i64 ((s.steps : Int) + 1))) = w1 at H2 ⊢
  have hf1 : ({ s with steps := s.steps + 1 } : St).fs[k]? = some f := HA.out.hf
  have hg1 : c.fs = .slice (some ⟨g, 0, none⟩) ({ s with steps := s.steps + 1 } : St).fs.length cap := by rw [show ({ s with steps := s.steps + 1 } : St).fs.length = k + 1 from HA.out.len]; exact HS.out.fs
  have c1 : w1.cell? ⟨X.M, 1, none⟩ = some c.fs := H2.out.cell 1 _ rfl
  rw [HS.out.fs] at c1
  have hk0 := H2.out.rows.k0
  have d0 := H2.out.fcell hg1 hf1 0 _ rfl
  have d2 := H2.out.fcell hg1 hf1 2 _ rfl
  have d3 := H2.out.fcell hg1 hf1 3 _ rfl
  have d4 := H2.out.fcell hg1 hf1 4 _ rfl
  have g3 := H2.out.ffrozen hg1 (k * 8 + 3)
  have p4 := HS.out.fcell _ hk0
  have p5 := HS.out.bcell _ hk0
  rw [Nat.add_zero] at d0
  have H3 := Lib.hid (fun m : Nat => (H2.out.drewN m).putF hg1 hf1 3 (.int .i64 ((f.at_ : Int) + 1)) { f with at_ := f.at_ + 1 } rfl (by omega))
  clear hf1 hg1 hk0
  go_quiet (fail)
  generalize nq = n1
  go_wp2_with fail
  go_quiet (fail)
  go_wp2_with fail
  have H4 : Hid (MAt X ((w1.drewN (n1 + nq)).setCell ⟨g, k * 8 + 3, none⟩ (.int .i64 ((f.at_ : Int) + 1))) c (s.next k f)) := Lib.hid (H3.out (n1 + nq))
  clear c1 d0 d2 d3 d4 g3 p4 p5 H3 H2 fcap bcap ncap
  generalize ((w1.drewN (n1 + nq)).setCell ⟨g, k * 8 + 3, none⟩ (.int .i64 ((f.at_ : Int) + 1))) = w2 at H4 ⊢
  have hf2 : (s.next k f).fs[k]? = some { f with at_ := f.at_ + 1 } := by
    show (s.fs.set k _)[k]? = _
    rw [List.getElem?_set_self (by rw [HA.out.len]; omega)]
  have hg2 : c.fs = .slice (some ⟨g, 0, none⟩) (s.next k f).fs.length cap := by rw [show (s.next k f).fs.length = k + 1 from (List.length_set).trans HA.out.len]; exact HS.out.fs
  have c2 : w2.cell? ⟨X.M, 2, none⟩ = some c.rg := H4.out.cell 2 _ rfl
  rw [HS.out.rg] at c2
  have d4 := H4.out.fcell hg2 hf2 4 _ rfl
  have x0 := HS.out.xat _ H4.out.rows.k0 0 _ rfl
  rw [Nat.add_zero, hop] at x0
  have HR : Hid (c.rg = .slice (some ⟨rb, 0, none⟩) (s.next k f).rg.length rc) := Lib.hid HS.out.rg
  obtain ⟨rl', hrl⟩ : ∃ r, s.rg.length = r := ⟨_, rfl⟩
  have HRL := Lib.hid hrl
  rw [hrl] at c2 base rcap rl
  have bc1 : ¬ rc = f.base := by omega
  have bc2 : (f.base : Int) ≤ rl' := by omega
  clear hf2 hg2 hrl
  go_quiet (fail)
  go_wp2_with fail
  have H5 := Lib.hid (H4.out.drewN nq)
  clear c2 d4 x0 H4 bc1 bc2
  generalize w2.drewN nq = w3 at H5 ⊢
  have HX := Lib.hid (HS.out.xat _ H5.out.rows.k0)
  have x3 := HX.out 3 _ rfl
  rw [ha] at x3
  have haa : f.base + a < rl' := by have := (List.getElem?_eq_some_iff.1 hza).1; rw [HRL.out] at this; exact this
  have hba : a < rl' - f.base := by omega
  have ra := H5.out.rcell HR.out (k := f.base + a) (z := za) hza
  clear ha haa
  have x4 := HX.out 4 _ rfl
  rw [hb_] at x4
  have hab_ : f.base + b_ < rl' := by have := (List.getElem?_eq_some_iff.1 hzb_).1; rw [HRL.out] at this; exact this
  have hbb_ : b_ < rl' - f.base := by omega
  have rb_ := H5.out.rcell HR.out (k := f.base + b_) (z := zb_) hzb_
  clear hb_ hab_
  have x1 := HX.out 1 _ rfl
  unfold I64 at hia hib_
  obtain ⟨V, hV⟩ : ∃ V, Wd.plainV x.sub za zb_ = V := ⟨_, rfl⟩
  have HP := Lib.hid (fun m : Nat => wplain x.sub za zb_ hia hib_ (w3.drewN m))
  rw [hV, hok] at HP
  have HVV := Lib.hid hV
  clear hV hok hza hzb_ hia hib_
  go_quiet ((go_at_call 65; exact quiet_one HP.out))
  have H5 := Lib.hid (H5.out.drewN nq)
  clear HP x1 x3 x4 ra rb_
  generalize w3.drewN nq = w4 at H5 ⊢
  go_wp2_with fail
  refine (stop_any X _ c (s.next k f) H5.out 2 0).mono ?_
  rintro e w5 ⟨rfl, h6⟩
  have H6 := Lib.hid h6
  clear h6
  go_wp2_with fail
  go_returns
  exact ⟨rfl, _, H6.out⟩
end Go.Proofs.YtbfjmhfhhlncjaaDoor
/- One step of a run: OpOut. -/
namespace Go.Proofs.YtbfjmhfhhlncjaaDoor
open Go.RowKit
set_option linter.unusedVariables false
set_option linter.unusedSimpArgs false

set_option maxRecDepth 100000 in
set_option maxHeartbeats 6400000 in
theorem step_out (X : Sx) (hX : SxOk X) (w : World) (c : Cs) (s : St) (k : Nat) (f : Fr1) (F : Fx) (b : Bx) (x : Ix) (h : MAt X w c s) (hat : At X s k f F b x) (hop : x.op = 13) (a : Nat) (ha : x.a = a) (za : Int) (hza : s.rg[f.base + a]? = some za) (hia : I64 za) (hol : s.out.length ≤ 900000) :
    Calls Tryd.prog 43 #[.pointer (some ⟨X.M, 0, none⟩)] w fun e w' => StepTo X { s.next k f with out := s.out ++ [za % 256] } e w' := by
  obtain ⟨g, cap, rb, rc, ib, io, bb, bo, S⟩ := seen hX h hat
  have c1 : w.cell? ⟨X.M, 1, none⟩ = some c.fs := h.cell 1 _ rfl
  have c10 : w.cell? ⟨X.M, 10, none⟩ = some (.int .i64 X.fuel) := h.cell 10 _ rfl
  have c11 : w.cell? ⟨X.M, 11, none⟩ = some (.int .i64 s.steps) := h.cell 11 _ rfl
  have f11 := h.frozen 11
  have hA := hat
  obtain ⟨len, k0, hf, hF, hb, hx, base, rl, st, st', al⟩ := hat
  have e11 : ((s.steps : Int) == X.fuel) = false := beq_eq_false_iff_ne.2 st
  have fcap := S.fc
  have rcap := S.rc
  have bcap := S.bl
  have ncap := S.fn.2
  unfold maxLen at fcap rcap bcap ncap
  have HS := Lib.hid S
  have H := Lib.hid h
  have HA := Lib.hid hA
  have H1 := Lib.hid (fun m : Nat => (h.drewN m).putM 11 (.int .i64 ((s.steps : Int) + 1)) { s with steps := s.steps + 1 } rfl rfl rfl rfl rfl rfl)
  clear S h hA len hf hF hb hx st
  rw [HS.out.fs] at c1
  go_enter Tryd.func43, Tryd.ntmps43
  go_wp2_with fail
  go_quiet (fail)
  go_wp2_with fail
  have H2 := Lib.hid (H1.out nq)
  clear c1 c10 c11 f11 e11 H1
  generalize ((w.drewN nq).setCell ⟨X.M, 11, none⟩ (.int .i64 ((s.steps : Int) + 1))) = w1 at H2 ⊢
  have hf1 : ({ s with steps := s.steps + 1 } : St).fs[k]? = some f := HA.out.hf
  have hg1 : c.fs = .slice (some ⟨g, 0, none⟩) ({ s with steps := s.steps + 1 } : St).fs.length cap := by rw [show ({ s with steps := s.steps + 1 } : St).fs.length = k + 1 from HA.out.len]; exact HS.out.fs
  have c1 : w1.cell? ⟨X.M, 1, none⟩ = some c.fs := H2.out.cell 1 _ rfl
  rw [HS.out.fs] at c1
  have hk0 := H2.out.rows.k0
  have d0 := H2.out.fcell hg1 hf1 0 _ rfl
  have d2 := H2.out.fcell hg1 hf1 2 _ rfl
  have d3 := H2.out.fcell hg1 hf1 3 _ rfl
  have d4 := H2.out.fcell hg1 hf1 4 _ rfl
  have g3 := H2.out.ffrozen hg1 (k * 8 + 3)
  have p4 := HS.out.fcell _ hk0
  have p5 := HS.out.bcell _ hk0
  rw [Nat.add_zero] at d0
  have H3 := Lib.hid (fun m : Nat => (H2.out.drewN m).putF hg1 hf1 3 (.int .i64 ((f.at_ : Int) + 1)) { f with at_ := f.at_ + 1 } rfl (by omega))
  clear hf1 hg1 hk0
  go_quiet (fail)
  generalize nq = n1
  go_wp2_with fail
  go_quiet (fail)
  go_wp2_with fail
  have H4 : Hid (MAt X ((w1.drewN (n1 + nq)).setCell ⟨g, k * 8 + 3, none⟩ (.int .i64 ((f.at_ : Int) + 1))) c (s.next k f)) := Lib.hid (H3.out (n1 + nq))
  clear c1 d0 d2 d3 d4 g3 p4 p5 H3 H2 fcap bcap ncap
  generalize ((w1.drewN (n1 + nq)).setCell ⟨g, k * 8 + 3, none⟩ (.int .i64 ((f.at_ : Int) + 1))) = w2 at H4 ⊢
  have hf2 : (s.next k f).fs[k]? = some { f with at_ := f.at_ + 1 } := by
    show (s.fs.set k _)[k]? = _
    rw [List.getElem?_set_self (by rw [HA.out.len]; omega)]
  have hg2 : c.fs = .slice (some ⟨g, 0, none⟩) (s.next k f).fs.length cap := by rw [show (s.next k f).fs.length = k + 1 from (List.length_set).trans HA.out.len]; exact HS.out.fs
  have c2 : w2.cell? ⟨X.M, 2, none⟩ = some c.rg := H4.out.cell 2 _ rfl
  rw [HS.out.rg] at c2
  have d4 := H4.out.fcell hg2 hf2 4 _ rfl
  have x0 := HS.out.xat _ H4.out.rows.k0 0 _ rfl
  rw [Nat.add_zero, hop] at x0
  have HR : Hid (c.rg = .slice (some ⟨rb, 0, none⟩) (s.next k f).rg.length rc) := Lib.hid HS.out.rg
  obtain ⟨rl', hrl⟩ : ∃ r, s.rg.length = r := ⟨_, rfl⟩
  have HRL := Lib.hid hrl
  rw [hrl] at c2 base rcap rl
  have bc1 : ¬ rc = f.base := by omega
  have bc2 : (f.base : Int) ≤ rl' := by omega
  clear hf2 hg2 hrl
  go_quiet (fail)
  go_wp2_with fail
  have H5 := Lib.hid (H4.out.drewN nq)
  clear c2 d4 x0 H4 bc1 bc2
  generalize w2.drewN nq = w3 at H5 ⊢
  have HX := Lib.hid (HS.out.xat _ H5.out.rows.k0)
  have x3 := HX.out 3 _ rfl
  rw [ha] at x3
  have haa : f.base + a < rl' := by have := (List.getElem?_eq_some_iff.1 hza).1; rw [HRL.out] at this; exact this
  have hba : a < rl' - f.base := by omega
  have ra := H5.out.rcell HR.out (k := f.base + a) (z := za) hza
  clear ha haa
  obtain ⟨vo, hvo⟩ : ∃ vo, c.out = vo := ⟨_, rfl⟩
  have HVO := Lib.hid hvo
  have hM1 : c.out.ownBlock ≠ some X.M := own_ne H5.out.rows.o H5.out.row (by decide)
  have hM2 : c.out.ownBlock ≠ some rb := own_ne2 H5.out.rows.o H5.out.rows.r (by decide) (by rw [HR.out]; rfl)
  have hM3 : c.out.ownBlock ≠ some ib := fun e => by
    have h1 := (H5.out.rows.o.lt _ e).1
    have h2 := World.block_lt_of_cell? X.w0 _ (HS.out.xat _ (Keeps.refl _ _) 3 _ rfl)
    exact absurd h2 (by simp only; exact Nat.not_lt.2 h1)
  have hS : ∀ (q : Nat) (p : Addr) (v : Value), w3.cell? p = some v → c.out.ownBlock ≠ some p.block → ∀ u : KS (fun q => vo.ownBlock = some q) w3, u.W.cell? p = some v := fun q p v hc hq u => u.cell hc (by rw [← hvo]; exact hq)
  have x9 := hS 0 ⟨X.M, 9, none⟩ vo (by rw [← hvo]; exact H5.out.cell 9 _ rfl) hM1
  have x3' := hS 0 _ _ x3 hM3
  have ra' := hS 0 _ _ ra hM2
  have hne : Nonempty (KS (fun q => vo.ownBlock = some q) w3) := ⟨⟨w3, Keeps.refl _ _⟩⟩
  unfold I64 at hia
  clear hvo hza hS hM1 hM2 hM3 x3 ra
  refine Mix.wp_region_mix (fun W => ∃ u : KS (fun q => vo.ownBlock = some q) w3, W = u.W) [17] (by kernel_rfl) ?_
  have H6 := Lib.hid H5.out.drew
  have HK4 : Hid (Keeps (fun q => vo.ownBlock = some q) w3 w3.drew) := Lib.hid ((Keeps.refl _ w3).drew)
  generalize w3.drew = w4 at H6 HK4 ⊢
  refine Mix.mix_seg 0 13 5 (by kernel_rfl) (by kernel_rfl) rfl rfl ⟨⟨w4, HK4.out⟩, rfl⟩ ?_
  simp only [List.drop_succ_cons, List.drop_zero, List.take_succ_cons, List.take_zero]
  repeat (go_big_quiet_step (fail))
  refine wpQuiet_nil ?_
  clear x9 x3' ra' hne
  refine Mix.mix_one 13 4 (by kernel_rfl) rfl rfl ?_
  simp only [List.drop_succ_cons, List.drop_zero, List.take_succ_cons, List.take_zero]
  go_wp2_with fail
  refine ⟨.inr ⟨⟨_, HK4.out.alloc _⟩, rfl⟩, ?_⟩
  refine Mix.mix_one 14 3 (by kernel_rfl) rfl rfl ?_
  simp only [List.drop_succ_cons, List.drop_zero, List.take_succ_cons, List.take_zero]
  have hc := H6.out.rows.o
  rw [HVO.out] at hc
  have HC := Lib.hid hc
  have hcB := H6.out.rows.k0.size
  have HOL := Lib.hid (show (s.next k f).out = s.out from rfl)
  clear hc
  refine wpList_appB _ rfl (.tmp 246) (.tmp 255) 55 rfl Tryd.underlying55 X.B vo s.out.length s.out (za % 256) w4.heap.size rfl (HC.out.alloc _) rfl (heap_alloc_new _ _) (by omega) (Nat.le_trans hcB (by simp)) ?_
  intro g5 cap5 w5 ho5 hg5 hl5
  have H7 := Lib.hid ((H6.out.alloc _).grownO (w' := w5) (v' := .slice (some ⟨g5, 0, none⟩) (s.out.length + 1) cap5) (out' := s.out ++ [za % 256]) (by rw [List.length_append]; exact ho5) (by rw [HVO.out]; exact hg5) (fun q hq => by
    obtain rfl : g5 = q := by simpa [Value.ownBlock] using hq
    rw [HVO.out]
    rcases hl5 with e | e
    · exact .inl e
    · exact .inr (Nat.le_of_eq e.symm)) _ 9 rfl rfl)
  obtain ⟨c9', f9'⟩ := (H6.out.alloc _).afterO (w' := w5) (by rw [HVO.out]; exact hg5)
  have HK5 := Lib.hid ((HK4.out.alloc _).grown hg5 (fun q e => .inl e))
  clear ho5 hg5 hl5
  go_wp2_with fail
  refine ⟨.inr ⟨⟨w5, HK5.out⟩, rfl⟩, ?_⟩
  refine Mix.mix_one 15 2 (by kernel_rfl) rfl rfl ?_
  simp only [List.drop_succ_cons, List.drop_zero, List.take_succ_cons, List.take_zero]
  go_wp2_with fail
  refine ⟨.inr ⟨⟨w5, HK5.out⟩, rfl⟩, ?_⟩
  refine Mix.mix_one 16 1 (by kernel_rfl) rfl rfl ?_
  simp only [List.drop_succ_cons, List.drop_zero, List.take_succ_cons, List.take_zero]
  go_wp2_with fail
  refine ⟨.inr ⟨⟨w5, HK5.out⟩, rfl⟩, ?_⟩
  refine Mix.mix_one 17 0 (by kernel_rfl) rfl rfl ?_
  simp only [List.drop_succ_cons, List.drop_zero, List.take_succ_cons, List.take_zero]
  go_wp2_with fail
  refine ⟨.inl ⟨rfl, rfl⟩, ?_⟩
  refine Mix.mix_end (by kernel_rfl) ?_
  go_wp2_with fail
  go_returns
  exact ⟨rfl, _, H7.out⟩
end Go.Proofs.YtbfjmhfhhlncjaaDoor
/- One step of a run: what goes on elsewhere. -/
namespace Go.Proofs.YtbfjmhfhhlncjaaDoor
open Go.RowKit
set_option linter.unusedVariables false
set_option linter.unusedSimpArgs false

set_option maxRecDepth 100000 in
set_option maxHeartbeats 6400000 in
theorem step_lead (X : Sx) (hX : SxOk X) (w : World) (c : Cs) (s : St) (k : Nat) (f : Fr1) (F : Fx) (b : Bx) (x : Ix) (h : MAt X w c s) (hat : At X s k f F b x) (O : Int) (hop : x.op = O) (hO : O = 10 ∨ O = 11 ∨ 14 ≤ O) (s' : St) (HL : ∀ (w3 : World) (g ib io rb ln rc : Nat), MAt X w3 c (s.next k f) → Keeps No X.w0 w3 → x.at_ w3 ib io → IxOk w3 x → ln = s.rg.length - f.base → c.rg = .slice (some ⟨rb, 0, none⟩) s.rg.length (f.base + rc) → (∀ (a : Nat) (z : Int), s.rg[f.base + a]? = some z → w3.cell? ⟨rb, f.base + a, none⟩ = some (.int .i64 z)) → (∃ cap, c.fs = .slice (some ⟨g, 0, none⟩) (k + 1) cap) → Calls Tryd.prog 69 #[.pointer (some ⟨X.M, 0, none⟩), .pointer (some ⟨g, k * 8, none⟩), .pointer (some ⟨ib, io, none⟩), .slice (some ⟨rb, f.base, none⟩) ln rc] w3 (StepTo X s')) :
    Calls Tryd.prog 43 #[.pointer (some ⟨X.M, 0, none⟩)] w fun e w' => StepTo X s' e w' := by
  have HLL := Lib.hid HL
  clear HL
  have o1 : (O == 1) = false := by rw [beq_eq_false_iff_ne]; omega
  have o2 : (O == 2) = false := by rw [beq_eq_false_iff_ne]; omega
  have o3 : (O == 3) = false := by rw [beq_eq_false_iff_ne]; omega
  have o4 : (O == 4) = false := by rw [beq_eq_false_iff_ne]; omega
  have o5 : (O == 5) = false := by rw [beq_eq_false_iff_ne]; omega
  have o6 : (O == 6) = false := by rw [beq_eq_false_iff_ne]; omega
  have o7 : (O == 7) = false := by rw [beq_eq_false_iff_ne]; omega
  have o8 : (O == 8) = false := by rw [beq_eq_false_iff_ne]; omega
  have o9 : (O == 9) = false := by rw [beq_eq_false_iff_ne]; omega
  have o12 : (O == 12) = false := by rw [beq_eq_false_iff_ne]; omega
  have o13 : (O == 13) = false := by rw [beq_eq_false_iff_ne]; omega
  clear hO
  obtain ⟨g, cap, rb, rc, ib, io, bb, bo, S⟩ := seen hX h hat
  have c1 : w.cell? ⟨X.M, 1, none⟩ = some c.fs := h.cell 1 _ rfl
  have c10 : w.cell? ⟨X.M, 10, none⟩ = some (.int .i64 X.fuel) := h.cell 10 _ rfl
  have c11 : w.cell? ⟨X.M, 11, none⟩ = some (.int .i64 s.steps) := h.cell 11 _ rfl
  have f11 := h.frozen 11
  have hA := hat
  obtain ⟨len, k0, hf, hF, hb, hx, base, rl, st, st', al⟩ := hat
  have e11 : ((s.steps : Int) == X.fuel) = false := beq_eq_false_iff_ne.2 st
  have fcap := S.fc
  have rcap := S.rc
  have bcap := S.bl
  have ncap := S.fn.2
  unfold maxLen at fcap rcap bcap ncap
  have HS := Lib.hid S
  have H := Lib.hid h
  have HA := Lib.hid hA
  have H1 := Lib.hid (fun m : Nat => (h.drewN m).putM 11 (.int .i64 ((s.steps : Int) + 1)) { s with steps := s.steps + 1 } rfl rfl rfl rfl rfl rfl)
  clear S h hA len hf hF hb hx st
  rw [HS.out.fs] at c1
  go_enter Tryd.func43, Tryd.ntmps43
  go_wp2_with fail
  go_quiet (fail)
  go_wp2_with fail
  have H2 := Lib.hid (H1.out nq)
  clear c1 c10 c11 f11 e11 H1
  generalize ((w.drewN nq).setCell ⟨X.M, 11, none⟩ (.int .i64 ((s.steps : Int) + 1))) = w1 at H2 ⊢
  have hf1 : ({ s with steps := s.steps + 1 } : St).fs[k]? = some f := HA.out.hf
  have hg1 : c.fs = .slice (some ⟨g, 0, none⟩) ({ s with steps := s.steps + 1 } : St).fs.length cap := by rw [show ({ s with steps := s.steps + 1 } : St).fs.length = k + 1 from HA.out.len]; exact HS.out.fs
  have c1 : w1.cell? ⟨X.M, 1, none⟩ = some c.fs := H2.out.cell 1 _ rfl
  rw [HS.out.fs] at c1
  have hk0 := H2.out.rows.k0
  have d0 := H2.out.fcell hg1 hf1 0 _ rfl
  have d2 := H2.out.fcell hg1 hf1 2 _ rfl
  have d3 := H2.out.fcell hg1 hf1 3 _ rfl
  have d4 := H2.out.fcell hg1 hf1 4 _ rfl
  have g3 := H2.out.ffrozen hg1 (k * 8 + 3)
  have p4 := HS.out.fcell _ hk0
  have p5 := HS.out.bcell _ hk0
  rw [Nat.add_zero] at d0
  have H3 := Lib.hid (fun m : Nat => (H2.out.drewN m).putF hg1 hf1 3 (.int .i64 ((f.at_ : Int) + 1)) { f with at_ := f.at_ + 1 } rfl (by omega))
  clear hf1 hg1 hk0
  go_quiet (fail)
  generalize nq = n1
  go_wp2_with fail
  go_quiet (fail)
  go_wp2_with fail
  have H4 : Hid (MAt X ((w1.drewN (n1 + nq)).setCell ⟨g, k * 8 + 3, none⟩ (.int .i64 ((f.at_ : Int) + 1))) c (s.next k f)) := Lib.hid (H3.out (n1 + nq))
  clear c1 d0 d2 d3 d4 g3 p4 p5 H3 H2 fcap bcap ncap
  generalize ((w1.drewN (n1 + nq)).setCell ⟨g, k * 8 + 3, none⟩ (.int .i64 ((f.at_ : Int) + 1))) = w2 at H4 ⊢
  have hf2 : (s.next k f).fs[k]? = some { f with at_ := f.at_ + 1 } := by
    show (s.fs.set k _)[k]? = _
    rw [List.getElem?_set_self (by rw [HA.out.len]; omega)]
  have hg2 : c.fs = .slice (some ⟨g, 0, none⟩) (s.next k f).fs.length cap := by rw [show (s.next k f).fs.length = k + 1 from (List.length_set).trans HA.out.len]; exact HS.out.fs
  have c2 : w2.cell? ⟨X.M, 2, none⟩ = some c.rg := H4.out.cell 2 _ rfl
  rw [HS.out.rg] at c2
  have d4 := H4.out.fcell hg2 hf2 4 _ rfl
  have x0 := HS.out.xat _ H4.out.rows.k0 0 _ rfl
  rw [Nat.add_zero, hop] at x0
  have HR : Hid (c.rg = .slice (some ⟨rb, 0, none⟩) (s.next k f).rg.length rc) := Lib.hid HS.out.rg
  obtain ⟨rl', hrl⟩ : ∃ r, s.rg.length = r := ⟨_, rfl⟩
  have HRL := Lib.hid hrl
  rw [hrl] at c2 base rcap rl
  have bc1 : ¬ rc = f.base := by omega
  have bc2 : (f.base : Int) ≤ rl' := by omega
  clear hf2 hg2 hrl
  go_quiet (fail)
  go_wp2_with fail
  have H5 := Lib.hid (H4.out.drewN nq)
  clear c2 d4 x0 H4 bc1 bc2
  generalize w2.drewN nq = w3 at H5 ⊢
  have HX := Lib.hid (HS.out.xat _ H5.out.rows.k0)
  have HC := Lib.hid (HLL.out w3 g ib (io + f.at_ * 11) rb (rl' - f.base) (rc - f.base) H5.out H5.out.rows.k0 HX.out (HS.out.xok _ H5.out.rows.k0) (by rw [HRL.out]) (by rw [show f.base + (rc - f.base) = rc by omega]; exact HS.out.rg) (fun a z hz => H5.out.rcell HR.out hz) ⟨cap, HS.out.fs⟩)
  go_wp2_with fail
  refine HC.out.mono ?_
  rintro e w5 ⟨rfl, c', h6⟩
  have H6 := Lib.hid h6
  clear h6
  go_wp2_with fail
  go_returns
  exact ⟨rfl, _, H6.out⟩
end Go.Proofs.YtbfjmhfhhlncjaaDoor
/- One step of a run: no more steps. -/
namespace Go.Proofs.YtbfjmhfhhlncjaaDoor
open Go.RowKit
set_option linter.unusedVariables false
set_option linter.unusedSimpArgs false

set_option maxRecDepth 100000 in
set_option maxHeartbeats 6400000 in
theorem step_fuel (X : Sx) (w : World) (c : Cs) (s : St) (h : MAt X w c s) (hs : (s.steps : Int) = X.fuel) :
    Calls Tryd.prog 43 #[.pointer (some ⟨X.M, 0, none⟩)] w (StepTo X (s.stop 3 0)) := by
  have c10 : w.cell? ⟨X.M, 10, none⟩ = some (.int .i64 X.fuel) := h.cell 10 _ rfl
  have c11 : w.cell? ⟨X.M, 11, none⟩ = some (.int .i64 s.steps) := h.cell 11 _ rfl
  have e11 : ((s.steps : Int) == X.fuel) = true := beq_iff_eq.2 hs
  have HS := Lib.hid (fun n : Nat => stop_any X (w.drewN n) c s (h.drewN n) 3 0)
  clear h hs
  go_enter Tryd.func43, Tryd.ntmps43
  go_wp2_with fail
  go_quiet (fail)
  go_wp2_with fail
  refine (HS.out nq).mono ?_
  rintro e w1 ⟨rfl, h1⟩
  have H1 := Lib.hid h1
  clear h1
  go_wp2_with fail
  go_returns
  exact ⟨rfl, _, H1.out⟩
end Go.Proofs.YtbfjmhfhhlncjaaDoor
