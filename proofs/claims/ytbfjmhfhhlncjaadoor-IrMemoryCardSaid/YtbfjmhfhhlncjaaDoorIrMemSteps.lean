/- One step of a run: what touches memory; OpSlot, OpGlobal, OpExt. -/
import Derived.Test.YtbfjmhfhhlncjaaDoorIrMemBytes
namespace Go.Proofs.YtbfjmhfhhlncjaaDoor
open Go.RowKit
set_option linter.unusedVariables false
set_option linter.unusedSimpArgs false

set_option maxRecDepth 100000 in
set_option maxHeartbeats 6400000 in
theorem step_touch5 (X : Sx) (hX : SxOk X) (w : World) (c : Cs) (s : St) (k : Nat) (f : Fr1) (F : Fx) (b : Bx) (x : Ix) (h : MAt X w c s) (hat : At X s k f F b x) (hop : x.op = 5) (s' : St) (HL : ∀ (w3 : World) (g ib io rb ln rc : Nat), MAt X w3 c (s.next k f) → Keeps No X.w0 w3 → x.at_ w3 ib io → IxOk w3 x → ln = s.rg.length - f.base → c.rg = .slice (some ⟨rb, 0, none⟩) s.rg.length (f.base + rc) → (∀ (a : Nat) (z : Int), s.rg[f.base + a]? = some z → w3.cell? ⟨rb, f.base + a, none⟩ = some (.int .i64 z)) → (∃ cap, c.fs = .slice (some ⟨g, 0, none⟩) (k + 1) cap) → Calls Tryd.prog 67 #[.pointer (some ⟨X.M, 0, none⟩), .pointer (some ⟨ib, io, none⟩), .slice (some ⟨rb, f.base, none⟩) ln rc] w3 (StepTo X s')) :
    Calls Tryd.prog 43 #[.pointer (some ⟨X.M, 0, none⟩)] w fun e w' => StepTo X s' e w' := by
  have HLL := Lib.hid HL
  clear HL
  obtain ⟨g, cap, rb, rc, ib, io, bb, bo, S⟩ := seen hX h hat
  have c1 : w.cell? ⟨X.M, 1, none⟩ = some c.fs := h.cell 1 _ rfl
  have c10 : w.cell? ⟨X.M, 10, none⟩ = some (.int .i64 X.fuel) := h.cell 10 _ rfl
  have c11 : w.cell? ⟨X.M, 11, none⟩ = some (.int .i64 s.steps) := h.cell 11 _ rfl
  have f11 := h.frozen 11
  have hA := hat
  obtain ⟨len, k0, hf, hF, hb, hx, base, rl, st, st', al⟩ := hat
  have e11 : ((s.steps : Int) == X.fuel) = false := beq_eq_false_iff_ne.2 st
  have fcap := S.fc
  have rcap := S.rc
  have bcap := S.bl
  have ncap := S.fn.2
  unfold maxLen at fcap rcap bcap ncap
  have HS := Lib.hid S
  have H := Lib.hid h
  have HA := Lib.hid hA
  have H1 := Lib.hid (fun m : Nat => (h.drewN m).putM 11 (.int .i64 ((s.steps : Int) + 1)) { s with steps := s.steps + 1 } rfl rfl rfl rfl rfl rfl)
  clear S h hA len hf hF hb hx st
  rw [HS.out.fs] at c1
  go_enter Tryd.func43, Tryd.ntmps43
  go_wp2_with fail
  go_quiet (fail)
  go_wp2_with fail
  have H2 := Lib.hid (H1.out nq)
  clear c1 c10 c11 f11 e11 H1
  generalize ((w.drewN nq).setCell ⟨X.M, 11, none⟩ (.int .i64 ((s.steps : Int) + 1))) = w1 at H2 ⊢
  have hf1 : ({ s with steps := s.steps + 1 } : St).fs[k]? = some f := HA.out.hf
  have hg1 : c.fs = .slice (some ⟨g, 0, none⟩) ({ s with steps := s.steps + 1 } : St).fs.length cap := by rw [show ({ s with steps := s.steps + 1 } : St).fs.length = k + 1 from HA.out.len]; exact HS.out.fs
  have c1 : w1.cell? ⟨X.M, 1, none⟩ = some c.fs := H2.out.cell 1 _ rfl
  rw [HS.out.fs] at c1
  have hk0 := H2.out.rows.k0
  have d0 := H2.out.fcell hg1 hf1 0 _ rfl
  have d2 := H2.out.fcell hg1 hf1 2 _ rfl
  have d3 := H2.out.fcell hg1 hf1 3 _ rfl
  have d4 := H2.out.fcell hg1 hf1 4 _ rfl
  have g3 := H2.out.ffrozen hg1 (k * 8 + 3)
  have p4 := HS.out.fcell _ hk0
  have p5 := HS.out.bcell _ hk0
  rw [Nat.add_zero] at d0
  have H3 := Lib.hid (fun m : Nat => (H2.out.drewN m).putF hg1 hf1 3 (.int .i64 ((f.at_ : Int) + 1)) { f with at_ := f.at_ + 1 } rfl (by omega))
  clear hf1 hg1 hk0
  go_quiet (fail)
  generalize nq = n1
  go_wp2_with fail
  go_quiet (fail)
  go_wp2_with fail
  have H4 : Hid (MAt X ((w1.drewN (n1 + nq)).setCell ⟨g, k * 8 + 3, none⟩ (.int .i64 ((f.at_ : Int) + 1))) c (s.next k f)) := Lib.hid (H3.out (n1 + nq))
  clear c1 d0 d2 d3 d4 g3 p4 p5 H3 H2 fcap bcap ncap
  generalize ((w1.drewN (n1 + nq)).setCell ⟨g, k * 8 + 3, none⟩ (.int .i64 ((f.at_ : Int) + 1))) = w2 at H4 ⊢
  have hf2 : (s.next k f).fs[k]? = some { f with at_ := f.at_ + 1 } := by
    show (s.fs.set k _)[k]? = _
    rw [List.getElem?_set_self (by rw [HA.out.len]; omega)]
  have hg2 : c.fs = .slice (some ⟨g, 0, none⟩) (s.next k f).fs.length cap := by rw [show (s.next k f).fs.length = k + 1 from (List.length_set).trans HA.out.len]; exact HS.out.fs
  have c2 : w2.cell? ⟨X.M, 2, none⟩ = some c.rg := H4.out.cell 2 _ rfl
  rw [HS.out.rg] at c2
  have d4 := H4.out.fcell hg2 hf2 4 _ rfl
  have x0 := HS.out.xat _ H4.out.rows.k0 0 _ rfl
  rw [Nat.add_zero, hop] at x0
  have HR : Hid (c.rg = .slice (some ⟨rb, 0, none⟩) (s.next k f).rg.length rc) := Lib.hid HS.out.rg
  obtain ⟨rl', hrl⟩ : ∃ r, s.rg.length = r := ⟨_, rfl⟩
  have HRL := Lib.hid hrl
  rw [hrl] at c2 base rcap rl
  have bc1 : ¬ rc = f.base := by omega
  have bc2 : (f.base : Int) ≤ rl' := by omega
  clear hf2 hg2 hrl
  go_quiet (fail)
  go_wp2_with fail
  have H5 := Lib.hid (H4.out.drewN nq)
  clear c2 d4 x0 H4 bc1 bc2
  generalize w2.drewN nq = w3 at H5 ⊢
  have HX := Lib.hid (HS.out.xat _ H5.out.rows.k0)
  have HC := Lib.hid (HLL.out w3 g ib (io + f.at_ * 11) rb (rl' - f.base) (rc - f.base) H5.out H5.out.rows.k0 HX.out (HS.out.xok _ H5.out.rows.k0) (by rw [HRL.out]) (by rw [show f.base + (rc - f.base) = rc by omega]; exact HS.out.rg) (fun a z hz => H5.out.rcell HR.out hz) ⟨cap, HS.out.fs⟩)
  go_wp2_with fail
  refine HC.out.mono ?_
  rintro e w5 ⟨rfl, c', h6⟩
  have H6 := Lib.hid h6
  clear h6
  go_wp2_with fail
  go_returns
  exact ⟨rfl, _, H6.out⟩
set_option maxRecDepth 100000 in
set_option maxHeartbeats 6400000 in
theorem step_touch6 (X : Sx) (hX : SxOk X) (w : World) (c : Cs) (s : St) (k : Nat) (f : Fr1) (F : Fx) (b : Bx) (x : Ix) (h : MAt X w c s) (hat : At X s k f F b x) (hop : x.op = 6) (s' : St) (HL : ∀ (w3 : World) (g ib io rb ln rc : Nat), MAt X w3 c (s.next k f) → Keeps No X.w0 w3 → x.at_ w3 ib io → IxOk w3 x → ln = s.rg.length - f.base → c.rg = .slice (some ⟨rb, 0, none⟩) s.rg.length (f.base + rc) → (∀ (a : Nat) (z : Int), s.rg[f.base + a]? = some z → w3.cell? ⟨rb, f.base + a, none⟩ = some (.int .i64 z)) → (∃ cap, c.fs = .slice (some ⟨g, 0, none⟩) (k + 1) cap) → Calls Tryd.prog 67 #[.pointer (some ⟨X.M, 0, none⟩), .pointer (some ⟨ib, io, none⟩), .slice (some ⟨rb, f.base, none⟩) ln rc] w3 (StepTo X s')) :
    Calls Tryd.prog 43 #[.pointer (some ⟨X.M, 0, none⟩)] w fun e w' => StepTo X s' e w' := by
  have HLL := Lib.hid HL
  clear HL
  obtain ⟨g, cap, rb, rc, ib, io, bb, bo, S⟩ := seen hX h hat
  have c1 : w.cell? ⟨X.M, 1, none⟩ = some c.fs := h.cell 1 _ rfl
  have c10 : w.cell? ⟨X.M, 10, none⟩ = some (.int .i64 X.fuel) := h.cell 10 _ rfl
  have c11 : w.cell? ⟨X.M, 11, none⟩ = some (.int .i64 s.steps) := h.cell 11 _ rfl
  have f11 := h.frozen 11
  have hA := hat
  obtain ⟨len, k0, hf, hF, hb, hx, base, rl, st, st', al⟩ := hat
  have e11 : ((s.steps : Int) == X.fuel) = false := beq_eq_false_iff_ne.2 st
  have fcap := S.fc
  have rcap := S.rc
  have bcap := S.bl
  have ncap := S.fn.2
  unfold maxLen at fcap rcap bcap ncap
  have HS := Lib.hid S
  have H := Lib.hid h
  have HA := Lib.hid hA
  have H1 := Lib.hid (fun m : Nat => (h.drewN m).putM 11 (.int .i64 ((s.steps : Int) + 1)) { s with steps := s.steps + 1 } rfl rfl rfl rfl rfl rfl)
  clear S h hA len hf hF hb hx st
  rw [HS.out.fs] at c1
  go_enter Tryd.func43, Tryd.ntmps43
  go_wp2_with fail
  go_quiet (fail)
  go_wp2_with fail
  have H2 := Lib.hid (H1.out nq)
  clear c1 c10 c11 f11 e11 H1
  generalize ((w.drewN nq).setCell ⟨X.M, 11, none⟩ (.int .i64 ((s.steps : Int) + 1))) = w1 at H2 ⊢
  have hf1 : ({ s with steps := s.steps + 1 } : St).fs[k]? = some f := HA.out.hf
  have hg1 : c.fs = .slice (some ⟨g, 0, none⟩) ({ s with steps := s.steps + 1 } : St).fs.length cap := by rw [show ({ s with steps := s.steps + 1 } : St).fs.length = k + 1 from HA.out.len]; exact HS.out.fs
  have c1 : w1.cell? ⟨X.M, 1, none⟩ = some c.fs := H2.out.cell 1 _ rfl
  rw [HS.out.fs] at c1
  have hk0 := H2.out.rows.k0
  have d0 := H2.out.fcell hg1 hf1 0 _ rfl
  have d2 := H2.out.fcell hg1 hf1 2 _ rfl
  have d3 := H2.out.fcell hg1 hf1 3 _ rfl
  have d4 := H2.out.fcell hg1 hf1 4 _ rfl
  have g3 := H2.out.ffrozen hg1 (k * 8 + 3)
  have p4 := HS.out.fcell _ hk0
  have p5 := HS.out.bcell _ hk0
  rw [Nat.add_zero] at d0
  have H3 := Lib.hid (fun m : Nat => (H2.out.drewN m).putF hg1 hf1 3 (.int .i64 ((f.at_ : Int) + 1)) { f with at_ := f.at_ + 1 } rfl (by omega))
  clear hf1 hg1 hk0
  go_quiet (fail)
  generalize nq = n1
  go_wp2_with fail
  go_quiet (fail)
  go_wp2_with fail
  have H4 : Hid (MAt X ((w1.drewN (n1 + nq)).setCell ⟨g, k * 8 + 3, none⟩ (.int .i64 ((f.at_ : Int) + 1))) c (s.next k f)) := Lib.hid (H3.out (n1 + nq))
  clear c1 d0 d2 d3 d4 g3 p4 p5 H3 H2 fcap bcap ncap
  generalize ((w1.drewN (n1 + nq)).setCell ⟨g, k * 8 + 3, none⟩ (.int .i64 ((f.at_ : Int) + 1))) = w2 at H4 ⊢
  have hf2 : (s.next k f).fs[k]? = some { f with at_ := f.at_ + 1 } := by
    show (s.fs.set k _)[k]? = _
    rw [List.getElem?_set_self (by rw [HA.out.len]; omega)]
  have hg2 : c.fs = .slice (some ⟨g, 0, none⟩) (s.next k f).fs.length cap := by rw [show (s.next k f).fs.length = k + 1 from (List.length_set).trans HA.out.len]; exact HS.out.fs
  have c2 : w2.cell? ⟨X.M, 2, none⟩ = some c.rg := H4.out.cell 2 _ rfl
  rw [HS.out.rg] at c2
  have d4 := H4.out.fcell hg2 hf2 4 _ rfl
  have x0 := HS.out.xat _ H4.out.rows.k0 0 _ rfl
  rw [Nat.add_zero, hop] at x0
  have HR : Hid (c.rg = .slice (some ⟨rb, 0, none⟩) (s.next k f).rg.length rc) := Lib.hid HS.out.rg
  obtain ⟨rl', hrl⟩ : ∃ r, s.rg.length = r := ⟨_, rfl⟩
  have HRL := Lib.hid hrl
  rw [hrl] at c2 base rcap rl
  have bc1 : ¬ rc = f.base := by omega
  have bc2 : (f.base : Int) ≤ rl' := by omega
  clear hf2 hg2 hrl
  go_quiet (fail)
  go_wp2_with fail
  have H5 := Lib.hid (H4.out.drewN nq)
  clear c2 d4 x0 H4 bc1 bc2
  generalize w2.drewN nq = w3 at H5 ⊢
  have HX := Lib.hid (HS.out.xat _ H5.out.rows.k0)
  have HC := Lib.hid (HLL.out w3 g ib (io + f.at_ * 11) rb (rl' - f.base) (rc - f.base) H5.out H5.out.rows.k0 HX.out (HS.out.xok _ H5.out.rows.k0) (by rw [HRL.out]) (by rw [show f.base + (rc - f.base) = rc by omega]; exact HS.out.rg) (fun a z hz => H5.out.rcell HR.out hz) ⟨cap, HS.out.fs⟩)
  go_wp2_with fail
  refine HC.out.mono ?_
  rintro e w5 ⟨rfl, c', h6⟩
  have H6 := Lib.hid h6
  clear h6
  go_wp2_with fail
  go_returns
  exact ⟨rfl, _, H6.out⟩
end Go.Proofs.YtbfjmhfhhlncjaaDoor
/- One step of a run: what touches memory; OpSlot, OpGlobal, OpExt. -/
namespace Go.Proofs.YtbfjmhfhhlncjaaDoor
open Go.RowKit
set_option linter.unusedVariables false
set_option linter.unusedSimpArgs false

set_option maxRecDepth 100000 in
set_option maxHeartbeats 6400000 in
theorem step_slot (X : Sx) (hX : SxOk X) (w : World) (c : Cs) (s : St) (k : Nat) (f : Fr1) (F : Fx) (b : Bx) (x : Ix) (h : MAt X w c s) (hat : At X s k f F b x) (hop : x.op = 7) (d : Nat) (hd : x.d = d) (hdl : f.base + d < s.rg.length) (hXM : SxM X) (hn : x.n = 0) (hfi : Hid (f.fi = 0)) (htop : Hid (I64 (f.top - 32))) :
    Calls Tryd.prog 43 #[.pointer (some ⟨X.M, 0, none⟩)] w fun e w' => StepTo X { s.next k f with rg := s.rg.set (f.base + d) (f.top - 32) } e w' := by
  obtain ⟨g, cap, rb, rc, ib, io, bb, bo, S⟩ := seen hX h hat
  have c1 : w.cell? ⟨X.M, 1, none⟩ = some c.fs := h.cell 1 _ rfl
  have c10 : w.cell? ⟨X.M, 10, none⟩ = some (.int .i64 X.fuel) := h.cell 10 _ rfl
  have c11 : w.cell? ⟨X.M, 11, none⟩ = some (.int .i64 s.steps) := h.cell 11 _ rfl
  have f11 := h.frozen 11
  have hA := hat
  obtain ⟨len, k0, hf, hF, hb, hx, base, rl, st, st', al⟩ := hat
  have e11 : ((s.steps : Int) == X.fuel) = false := beq_eq_false_iff_ne.2 st
  have fcap := S.fc
  have rcap := S.rc
  have bcap := S.bl
  have ncap := S.fn.2
  unfold maxLen at fcap rcap bcap ncap
  have HS := Lib.hid S
  have H := Lib.hid h
  have HA := Lib.hid hA
  have H1 := Lib.hid (fun m : Nat => (h.drewN m).putM 11 (.int .i64 ((s.steps : Int) + 1)) { s with steps := s.steps + 1 } rfl rfl rfl rfl rfl rfl)
  clear S h hA len hf hF hb hx st
  rw [HS.out.fs] at c1
  go_enter Tryd.func43, Tryd.ntmps43
  go_wp2_with fail
  go_quiet (fail)
  go_wp2_with fail
  have H2 := Lib.hid (H1.out nq)
  clear c1 c10 c11 f11 e11 H1
  generalize ((w.drewN nq).setCell ⟨X.M, 11, none⟩ (.int .i64 ((s.steps : Int) + 1))) = w1 at H2 ⊢
  have hf1 : ({ s with steps := s.steps + 1 } : St).fs[k]? = some f := HA.out.hf
  have hg1 : c.fs = .slice (some ⟨g, 0, none⟩) ({ s with steps := s.steps + 1 } : St).fs.length cap := by rw [show ({ s with steps := s.steps + 1 } : St).fs.length = k + 1 from HA.out.len]; exact HS.out.fs
  have c1 : w1.cell? ⟨X.M, 1, none⟩ = some c.fs := H2.out.cell 1 _ rfl
  rw [HS.out.fs] at c1
  have hk0 := H2.out.rows.k0
  have d0 := H2.out.fcell hg1 hf1 0 _ rfl
  have d2 := H2.out.fcell hg1 hf1 2 _ rfl
  have d3 := H2.out.fcell hg1 hf1 3 _ rfl
  have d4 := H2.out.fcell hg1 hf1 4 _ rfl
  have g3 := H2.out.ffrozen hg1 (k * 8 + 3)
  have p4 := HS.out.fcell _ hk0
  have p5 := HS.out.bcell _ hk0
  rw [Nat.add_zero] at d0
  have H3 := Lib.hid (fun m : Nat => (H2.out.drewN m).putF hg1 hf1 3 (.int .i64 ((f.at_ : Int) + 1)) { f with at_ := f.at_ + 1 } rfl (by omega))
  clear hf1 hg1 hk0
  go_quiet (fail)
  generalize nq = n1
  go_wp2_with fail
  go_quiet (fail)
  go_wp2_with fail
  have H4 : Hid (MAt X ((w1.drewN (n1 + nq)).setCell ⟨g, k * 8 + 3, none⟩ (.int .i64 ((f.at_ : Int) + 1))) c (s.next k f)) := Lib.hid (H3.out (n1 + nq))
  clear c1 d0 d2 d3 d4 g3 p4 p5 H3 H2 fcap bcap ncap
  generalize ((w1.drewN (n1 + nq)).setCell ⟨g, k * 8 + 3, none⟩ (.int .i64 ((f.at_ : Int) + 1))) = w2 at H4 ⊢
  have hf2 : (s.next k f).fs[k]? = some { f with at_ := f.at_ + 1 } := by
    show (s.fs.set k _)[k]? = _
    rw [List.getElem?_set_self (by rw [HA.out.len]; omega)]
  have hg2 : c.fs = .slice (some ⟨g, 0, none⟩) (s.next k f).fs.length cap := by rw [show (s.next k f).fs.length = k + 1 from (List.length_set).trans HA.out.len]; exact HS.out.fs
  have c2 : w2.cell? ⟨X.M, 2, none⟩ = some c.rg := H4.out.cell 2 _ rfl
  rw [HS.out.rg] at c2
  have d4 := H4.out.fcell hg2 hf2 4 _ rfl
  have x0 := HS.out.xat _ H4.out.rows.k0 0 _ rfl
  rw [Nat.add_zero, hop] at x0
  have HR : Hid (c.rg = .slice (some ⟨rb, 0, none⟩) (s.next k f).rg.length rc) := Lib.hid HS.out.rg
  obtain ⟨rl', hrl⟩ : ∃ r, s.rg.length = r := ⟨_, rfl⟩
  have HRL := Lib.hid hrl
  rw [hrl] at c2 base rcap rl
  have bc1 : ¬ rc = f.base := by omega
  have bc2 : (f.base : Int) ≤ rl' := by omega
  clear hf2 hg2 hrl
  go_quiet (fail)
  go_wp2_with fail
  have H5 := Lib.hid (H4.out.drewN nq)
  clear c2 d4 x0 H4 bc1 bc2
  generalize w2.drewN nq = w3 at H5 ⊢
  have HX := Lib.hid (HS.out.xat _ H5.out.rows.k0)
  have x2 := HX.out 2 _ rfl
  rw [hd] at x2
  clear hd
  have x5 := HX.out 5 _ rfl
  rw [hn] at x5
  obtain ⟨lb, lc, ib2, ic2, s1, s2, s3, s4, s5, s6, s7⟩ := hXM.sl
  unfold maxLen at s2 s5
  have m4 : w3.cell? ⟨X.M, 4, none⟩ = some X.sl := H5.out.cell 4 _ rfl
  rw [s1] at m4
  have l0 := SxM.keep H5.out s3 s4
  have l1 := SxM.keep H5.out s6 s7
  have hf3 : (s.next k f).fs[k]? = some { f with at_ := f.at_ + 1 } := by
    show (s.fs.set k _)[k]? = _
    rw [List.getElem?_set_self (by rw [HA.out.len]; omega)]
  have hg3 : c.fs = .slice (some ⟨g, 0, none⟩) (s.next k f).fs.length cap := by rw [show (s.next k f).fs.length = k + 1 from (List.length_set).trans HA.out.len]; exact HS.out.fs
  have d5 := H5.out.fcell hg3 hf3 5 _ rfl
  have d1 := H5.out.fcell hg3 hf3 1 _ rfl
  rw [show ({ f with at_ := f.at_ + 1 } : Fr1).fi = 0 from hfi.out] at d1
  have ht1 : I64 (f.top - 32) := htop.out
  unfold I64 at ht1
  have hw : IntKind.i64.wrap (f.top - 32) = f.top - 32 := by rw [IntKind.wrap_i64]; omega
  clear hf3 hg3 hn s1 s3 s4 s6 s7
  rw [HRL.out] at hdl
  have hdl2 : d < rl' - f.base := by omega
  have zfr := H5.out.rfrozen HR.out (f.base + d)
  obtain ⟨zold, hzo⟩ : ∃ z, (s.next k f).rg[f.base + d]? = some z := ⟨_, List.getElem?_eq_getElem (by rw [show (s.next k f).rg = s.rg from rfl, HRL.out]; exact hdl)⟩
  have zc := H5.out.rcell HR.out hzo
  have H6 := Lib.hid (H5.out.drew.putR HR.out (f.base + d) (f.top - 32))
  clear hzo
  go_still_tail 27, (by kernel_rfl)
  change wpList _ _ _ _ _ w3.drew
  go_wp2_with fail
  go_returns
  exact ⟨rfl, _, H6.out⟩
end Go.Proofs.YtbfjmhfhhlncjaaDoor
/- One step of a run: what touches memory; OpSlot, OpGlobal, OpExt. -/
namespace Go.Proofs.YtbfjmhfhhlncjaaDoor
open Go.RowKit
set_option linter.unusedVariables false
set_option linter.unusedSimpArgs false

set_option maxRecDepth 100000 in
set_option maxHeartbeats 6400000 in
theorem step_global (X : Sx) (hX : SxOk X) (w : World) (c : Cs) (s : St) (k : Nat) (f : Fr1) (F : Fx) (b : Bx) (x : Ix) (h : MAt X w c s) (hat : At X s k f F b x) (hop : x.op = 8) (d : Nat) (hd : x.d = d) (hdl : f.base + d < s.rg.length) (hXM : SxM X) (hn : x.n = 0) :
    Calls Tryd.prog 43 #[.pointer (some ⟨X.M, 0, none⟩)] w fun e w' => StepTo X { s.next k f with rg := s.rg.set (f.base + d) (65536) } e w' := by
  obtain ⟨g, cap, rb, rc, ib, io, bb, bo, S⟩ := seen hX h hat
  have c1 : w.cell? ⟨X.M, 1, none⟩ = some c.fs := h.cell 1 _ rfl
  have c10 : w.cell? ⟨X.M, 10, none⟩ = some (.int .i64 X.fuel) := h.cell 10 _ rfl
  have c11 : w.cell? ⟨X.M, 11, none⟩ = some (.int .i64 s.steps) := h.cell 11 _ rfl
  have f11 := h.frozen 11
  have hA := hat
  obtain ⟨len, k0, hf, hF, hb, hx, base, rl, st, st', al⟩ := hat
  have e11 : ((s.steps : Int) == X.fuel) = false := beq_eq_false_iff_ne.2 st
  have fcap := S.fc
  have rcap := S.rc
  have bcap := S.bl
  have ncap := S.fn.2
  unfold maxLen at fcap rcap bcap ncap
  have HS := Lib.hid S
  have H := Lib.hid h
  have HA := Lib.hid hA
  have H1 := Lib.hid (fun m : Nat => (h.drewN m).putM 11 (.int .i64 ((s.steps : Int) + 1)) { s with steps := s.steps + 1 } rfl rfl rfl rfl rfl rfl)
  clear S h hA len hf hF hb hx st
  rw [HS.out.fs] at c1
  go_enter Tryd.func43, Tryd.ntmps43
  go_wp2_with fail
  go_quiet (fail)
  go_wp2_with fail
  have H2 := Lib.hid (H1.out nq)
  clear c1 c10 c11 f11 e11 H1
  generalize ((w.drewN nq).setCell ⟨X.M, 11, none⟩ (.int .i64 ((s.steps : Int) + 1))) = w1 at H2 ⊢
  have hf1 : ({ s with steps := s.steps + 1 } : St).fs[k]? = some f := HA.out.hf
  have hg1 : c.fs = .slice (some ⟨g, 0, none⟩) ({ s with steps := s.steps + 1 } : St).fs.length cap := by rw [show ({ s with steps := s.steps + 1 } : St).fs.length = k + 1 from HA.out.len]; exact HS.out.fs
  have c1 : w1.cell? ⟨X.M, 1, none⟩ = some c.fs := H2.out.cell 1 _ rfl
  rw [HS.out.fs] at c1
  have hk0 := H2.out.rows.k0
  have d0 := H2.out.fcell hg1 hf1 0 _ rfl
  have d2 := H2.out.fcell hg1 hf1 2 _ rfl
  have d3 := H2.out.fcell hg1 hf1 3 _ rfl
  have d4 := H2.out.fcell hg1 hf1 4 _ rfl
  have g3 := H2.out.ffrozen hg1 (k * 8 + 3)
  have p4 := HS.out.fcell _ hk0
  have p5 := HS.out.bcell _ hk0
  rw [Nat.add_zero] at d0
  have H3 := Lib.hid (fun m : Nat => (H2.out.drewN m).putF hg1 hf1 3 (.int .i64 ((f.at_ : Int) + 1)) { f with at_ := f.at_ + 1 } rfl (by omega))
  clear hf1 hg1 hk0
  go_quiet (fail)
  generalize nq = n1
  go_wp2_with fail
  go_quiet (fail)
  go_wp2_with fail
  have H4 : Hid (MAt X ((w1.drewN (n1 + nq)).setCell ⟨g, k * 8 + 3, none⟩ (.int .i64 ((f.at_ : Int) + 1))) c (s.next k f)) := Lib.hid (H3.out (n1 + nq))
  clear c1 d0 d2 d3 d4 g3 p4 p5 H3 H2 fcap bcap ncap
  generalize ((w1.drewN (n1 + nq)).setCell ⟨g, k * 8 + 3, none⟩ (.int .i64 ((f.at_ : Int) + 1))) = w2 at H4 ⊢
  have hf2 : (s.next k f).fs[k]? = some { f with at_ := f.at_ + 1 } := by
    show (s.fs.set k _)[k]? = _
    rw [List.getElem?_set_self (by rw [HA.out.len]; omega)]
  have hg2 : c.fs = .slice (some ⟨g, 0, none⟩) (s.next k f).fs.length cap := by rw [show (s.next k f).fs.length = k + 1 from (List.length_set).trans HA.out.len]; exact HS.out.fs
  have c2 : w2.cell? ⟨X.M, 2, none⟩ = some c.rg := H4.out.cell 2 _ rfl
  rw [HS.out.rg] at c2
  have d4 := H4.out.fcell hg2 hf2 4 _ rfl
  have x0 := HS.out.xat _ H4.out.rows.k0 0 _ rfl
  rw [Nat.add_zero, hop] at x0
  have HR : Hid (c.rg = .slice (some ⟨rb, 0, none⟩) (s.next k f).rg.length rc) := Lib.hid HS.out.rg
  obtain ⟨rl', hrl⟩ : ∃ r, s.rg.length = r := ⟨_, rfl⟩
  have HRL := Lib.hid hrl
  rw [hrl] at c2 base rcap rl
  have bc1 : ¬ rc = f.base := by omega
  have bc2 : (f.base : Int) ≤ rl' := by omega
  clear hf2 hg2 hrl
  go_quiet (fail)
  go_wp2_with fail
  have H5 := Lib.hid (H4.out.drewN nq)
  clear c2 d4 x0 H4 bc1 bc2
  generalize w2.drewN nq = w3 at H5 ⊢
  have HX := Lib.hid (HS.out.xat _ H5.out.rows.k0)
  have x2 := HX.out 2 _ rfl
  rw [hd] at x2
  clear hd
  have x5 := HX.out 5 _ rfl
  rw [hn] at x5
  obtain ⟨sb, sc, s1, s2, s3, s4⟩ := hXM.st
  unfold maxLen at s2
  have m3 : w3.cell? ⟨X.M, 3, none⟩ = some X.st := H5.out.cell 3 _ rfl
  rw [s1] at m3
  have l0 := SxM.keep H5.out s3 s4
  clear hn s1 s3 s4
  rw [HRL.out] at hdl
  have hdl2 : d < rl' - f.base := by omega
  have zfr := H5.out.rfrozen HR.out (f.base + d)
  obtain ⟨zold, hzo⟩ : ∃ z, (s.next k f).rg[f.base + d]? = some z := ⟨_, List.getElem?_eq_getElem (by rw [show (s.next k f).rg = s.rg from rfl, HRL.out]; exact hdl)⟩
  have zc := H5.out.rcell HR.out hzo
  have H6 := Lib.hid (H5.out.drew.putR HR.out (f.base + d) 65536)
  clear hzo
  go_still_tail 17, (by kernel_rfl)
  change wpList _ _ _ _ _ w3.drew
  go_wp2_with fail
  go_returns
  exact ⟨rfl, _, H6.out⟩
end Go.Proofs.YtbfjmhfhhlncjaaDoor
/- One step of a run: what touches memory; OpSlot, OpGlobal, OpExt. -/
namespace Go.Proofs.YtbfjmhfhhlncjaaDoor
open Go.RowKit
set_option linter.unusedVariables false
set_option linter.unusedSimpArgs false

set_option maxRecDepth 100000 in
set_option maxHeartbeats 6400000 in
theorem step_ext (X : Sx) (hX : SxOk X) (w : World) (c : Cs) (s : St) (k : Nat) (f : Fr1) (F : Fx) (b : Bx) (x : Ix) (h : MAt X w c s) (hat : At X s k f F b x) (hop : x.op = 4) (d : Nat) (hd : x.d = d) (hdl : f.base + d < s.rg.length) (a : Nat) (ha : x.a = a) (za : Int) (hza : s.rg[f.base + a]? = some za) (hia : I64 za) (V : Int) (hV : Hid (Wd.wrap x.wb x.ws za = V)) (hwb : x.wb = 8 ∨ x.wb = 16 ∨ x.wb = 32 ∨ x.wb = 64) :
    Calls Tryd.prog 43 #[.pointer (some ⟨X.M, 0, none⟩)] w fun e w' => StepTo X { s.next k f with rg := s.rg.set (f.base + d) V } e w' := by
  obtain ⟨g, cap, rb, rc, ib, io, bb, bo, S⟩ := seen hX h hat
  have c1 : w.cell? ⟨X.M, 1, none⟩ = some c.fs := h.cell 1 _ rfl
  have c10 : w.cell? ⟨X.M, 10, none⟩ = some (.int .i64 X.fuel) := h.cell 10 _ rfl
  have c11 : w.cell? ⟨X.M, 11, none⟩ = some (.int .i64 s.steps) := h.cell 11 _ rfl
  have f11 := h.frozen 11
  have hA := hat
  obtain ⟨len, k0, hf, hF, hb, hx, base, rl, st, st', al⟩ := hat
  have e11 : ((s.steps : Int) == X.fuel) = false := beq_eq_false_iff_ne.2 st
  have fcap := S.fc
  have rcap := S.rc
  have bcap := S.bl
  have ncap := S.fn.2
  unfold maxLen at fcap rcap bcap ncap
  have HS := Lib.hid S
  have H := Lib.hid h
  have HA := Lib.hid hA
  have H1 := Lib.hid (fun m : Nat => (h.drewN m).putM 11 (.int .i64 ((s.steps : Int) + 1)) { s with steps := s.steps + 1 } rfl rfl rfl rfl rfl rfl)
  clear S h hA len hf hF hb hx st
  rw [HS.out.fs] at c1
  go_enter Tryd.func43, Tryd.ntmps43
  go_wp2_with fail
  go_quiet (fail)
  go_wp2_with fail
  have H2 := Lib.hid (H1.out nq)
  clear c1 c10 c11 f11 e11 H1
  generalize ((w.drewN nq).setCell ⟨X.M, 11, none⟩ (.int .i64 ((s.steps : Int) + 1))) = w1 at H2 ⊢
  have hf1 : ({ s with steps := s.steps + 1 } : St).fs[k]? = some f := HA.out.hf
  have hg1 : c.fs = .slice (some ⟨g, 0, none⟩) ({ s with steps := s.steps + 1 } : St).fs.length cap := by rw [show ({ s with steps := s.steps + 1 } : St).fs.length = k + 1 from HA.out.len]; exact HS.out.fs
  have c1 : w1.cell? ⟨X.M, 1, none⟩ = some c.fs := H2.out.cell 1 _ rfl
  rw [HS.out.fs] at c1
  have hk0 := H2.out.rows.k0
  have d0 := H2.out.fcell hg1 hf1 0 _ rfl
  have d2 := H2.out.fcell hg1 hf1 2 _ rfl
  have d3 := H2.out.fcell hg1 hf1 3 _ rfl
  have d4 := H2.out.fcell hg1 hf1 4 _ rfl
  have g3 := H2.out.ffrozen hg1 (k * 8 + 3)
  have p4 := HS.out.fcell _ hk0
  have p5 := HS.out.bcell _ hk0
  rw [Nat.add_zero] at d0
  have H3 := Lib.hid (fun m : Nat => (H2.out.drewN m).putF hg1 hf1 3 (.int .i64 ((f.at_ : Int) + 1)) { f with at_ := f.at_ + 1 } rfl (by omega))
  clear hf1 hg1 hk0
  go_quiet (fail)
  generalize nq = n1
  go_wp2_with fail
  go_quiet (fail)
  go_wp2_with fail
  have H4 : Hid (MAt X ((w1.drewN (n1 + nq)).setCell ⟨g, k * 8 + 3, none⟩ (.int .i64 ((f.at_ : Int) + 1))) c (s.next k f)) := Lib.hid (H3.out (n1 + nq))
  clear c1 d0 d2 d3 d4 g3 p4 p5 H3 H2 fcap bcap ncap
  generalize ((w1.drewN (n1 + nq)).setCell ⟨g, k * 8 + 3, none⟩ (.int .i64 ((f.at_ : Int) + 1))) = w2 at H4 ⊢
  have hf2 : (s.next k f).fs[k]? = some { f with at_ := f.at_ + 1 } := by
    show (s.fs.set k _)[k]? = _
    rw [List.getElem?_set_self (by rw [HA.out.len]; omega)]
  have hg2 : c.fs = .slice (some ⟨g, 0, none⟩) (s.next k f).fs.length cap := by rw [show (s.next k f).fs.length = k + 1 from (List.length_set).trans HA.out.len]; exact HS.out.fs
  have c2 : w2.cell? ⟨X.M, 2, none⟩ = some c.rg := H4.out.cell 2 _ rfl
  rw [HS.out.rg] at c2
  have d4 := H4.out.fcell hg2 hf2 4 _ rfl
  have x0 := HS.out.xat _ H4.out.rows.k0 0 _ rfl
  rw [Nat.add_zero, hop] at x0
  have HR : Hid (c.rg = .slice (some ⟨rb, 0, none⟩) (s.next k f).rg.length rc) := Lib.hid HS.out.rg
  obtain ⟨rl', hrl⟩ : ∃ r, s.rg.length = r := ⟨_, rfl⟩
  have HRL := Lib.hid hrl
  rw [hrl] at c2 base rcap rl
  have bc1 : ¬ rc = f.base := by omega
  have bc2 : (f.base : Int) ≤ rl' := by omega
  clear hf2 hg2 hrl
  go_quiet (fail)
  go_wp2_with fail
  have H5 := Lib.hid (H4.out.drewN nq)
  clear c2 d4 x0 H4 bc1 bc2
  generalize w2.drewN nq = w3 at H5 ⊢
  have HX := Lib.hid (HS.out.xat _ H5.out.rows.k0)
  have x2 := HX.out 2 _ rfl
  rw [hd] at x2
  clear hd
  have x3 := HX.out 3 _ rfl
  rw [ha] at x3
  have x6 := HX.out 6 _ rfl
  have x7 := HX.out 7 _ rfl
  have haa : f.base + a < rl' := by have := (List.getElem?_eq_some_iff.1 hza).1; rw [HRL.out] at this; exact this
  have hba : a < rl' - f.base := by omega
  have ra := H5.out.rcell HR.out (k := f.base + a) (z := za) hza
  clear ha haa hza
  have HW := Lib.hid (fun W : World => mwrap x.wb x.ws hwb za V hia hV W)
  clear hV hwb hia
  have y2 : ∀ u : KW w3, u.W.cell? _ = _ := fun u => u.cell x2
  have y3 : ∀ u : KW w3, u.W.cell? _ = _ := fun u => u.cell x3
  have y6 : ∀ u : KW w3, u.W.cell? _ = _ := fun u => u.cell x6
  have y7 : ∀ u : KW w3, u.W.cell? _ = _ := fun u => u.cell x7
  have yr : ∀ u : KW w3, u.W.cell? _ = _ := fun u => u.cell ra
  have hne : Nonempty (KW w3) := ⟨KW.of _⟩
  rw [HRL.out] at hdl
  have hdl2 : d < rl' - f.base := by omega
  clear x2 x3 x6 x7 ra
  refine Mix.wp_region_mix (fun W => ∃ u : KW w3, W = u.W) [18] (by kernel_rfl) ?_
  have HK4 : Hid (Keeps No w3 w3.drew) := Lib.hid ((Keeps.refl _ w3).drew)
  generalize w3.drew = w4 at HK4 ⊢
  refine Mix.mix_seg 0 16 3 (by kernel_rfl) (by kernel_rfl) rfl rfl ⟨⟨w4, HK4.out⟩, rfl⟩ ?_
  simp only [List.drop_succ_cons, List.drop_zero, List.take_succ_cons, List.take_zero]
  repeat (go_big_quiet_step (fail))
  refine wpQuiet_nil ?_
  clear y2 y3 y6 y7 yr hne
  refine Mix.mix_one 16 2 (by kernel_rfl) rfl rfl ?_
  simp only [List.drop_succ_cons, List.drop_zero, List.take_succ_cons, List.take_zero]
  go_wp2_with fail
  refine (HW.out w4).mono ?_
  rintro e w6 ⟨rfl, hk6⟩
  have HK6 := Lib.hid (HK4.out.trans hk6 (fun _ _ e => e))
  clear hk6
  go_wp2_with fail
  refine ⟨.inr ⟨⟨w6, HK6.out⟩, rfl⟩, ?_⟩
  refine Mix.mix_one 17 1 (by kernel_rfl) rfl rfl ?_
  simp only [List.drop_succ_cons, List.drop_zero, List.take_succ_cons, List.take_zero]
  go_wp2_with fail
  refine ⟨.inr ⟨⟨w6, HK6.out⟩, rfl⟩, ?_⟩
  have H7 := Lib.hid (H5.out.keep HK6.out)
  have zfr := H7.out.rfrozen HR.out (f.base + d)
  obtain ⟨zold, hzo⟩ : ∃ z, (s.next k f).rg[f.base + d]? = some z := ⟨_, List.getElem?_eq_getElem (by rw [show (s.next k f).rg = s.rg from rfl, HRL.out]; exact hdl)⟩
  have zc := H7.out.rcell HR.out hzo
  have H8 := Lib.hid (H7.out.putR HR.out (f.base + d) V)
  clear hzo
  refine Mix.mix_one 18 0 (by kernel_rfl) rfl rfl ?_
  simp only [List.drop_succ_cons, List.drop_zero, List.take_succ_cons, List.take_zero]
  go_wp2_with fail
  refine ⟨.inl ⟨rfl, rfl⟩, ?_⟩
  refine Mix.mix_end (by kernel_rfl) ?_
  go_wp2_with fail
  go_returns
  exact ⟨rfl, _, H8.out⟩
end Go.Proofs.YtbfjmhfhhlncjaaDoor
