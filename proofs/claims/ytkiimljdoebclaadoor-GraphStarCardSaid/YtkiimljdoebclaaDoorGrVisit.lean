/- visit: a function is come to, and those that it calls. -/
import Derived.Test.YtkiimljdoebclaaDoorGrFds
import Derived.Test.YtkiimljdoebclaaDoorGrLists
namespace Go.Proofs.YtkiimljdoebclaaDoor
open Go.RowKit Gm
set_option linter.unusedVariables false
set_option linter.unusedSimpArgs false

theorem wpList_appW (w : World) {ops : Array Oper} {rest : List Oper} {o : Oper} {a : Act} {Q : Exit → Act → World → Prop} (hgd : o.guard = none) (s x : Operand)
    (ho : o.op = .call { callee := .builtin .append, args := #[s, x], argTypes := #[29, 29] })
    (B : Nat) (v : Value) (n : Nat) (xs : List Value) (u : Value) (q : Nat) (hs : a.eval s = v) (hown : w.ownsRow B 28 1 v n xs) (hx : a.eval x = .slice (some ⟨q, 0, none⟩) 1 1) (hq : w.heap[q]? = some (.cells #[u] 28 (0, 0))) (hu : u.oneCell' = true)
    (hn : n ≤ 999999) (hB : B ≤ w.heap.size)
    (h : ∀ g' cap w', w'.ownsRow B 28 1 (.slice (some ⟨g', 0, none⟩) (n + 1) cap) (n + 1) (xs ++ [u]) → w.grownBy w' v.ownBlock → (v.ownBlock = some g' ∨ w.heap.size ≤ g') → wpList Tryd.prog ops Q rest (a.put o.dst (.slice (some ⟨g', 0, none⟩) (n + 1) cap)) w') : wpList Tryd.prog ops Q (o :: rest) a w := by
  obtain ⟨i0, hi, hz0, hz1, hz2⟩ := info_parts infoSI
  refine wpList_append_lies w hgd s x _ ho B 28 i0 (.slice none 0 0) 1 24 Tryd.underlying29 hi hz0 hz1 hz2 rfl (by decide) v n xs hs hown ⟨q, 0, none⟩ 1 1 [u] hx rfl (fun j y hy => ?_) (fun y hy => by simp at hy; subst hy; exact hu) (by decide) (by unfold maxLen; omega) (by omega) hB _ rfl (fun g' cap w' k1 k2 k3 _ => h g' cap w' k1 k2 (k3.imp id (fun e => by omega)))
  cases j with
  | zero => obtain rfl : u = y := by simpa using hy
            have e : (⟨q, 0, none⟩ : Addr).add 0 = ⟨q, 0, none⟩ := by unfold Addr.add; split <;> simp_all
            rw [e]; unfold World.cell?; simp only; rw [hq]; rfl
  | succ j => cases hy
/-- The finder at R, its loose parts left open. -/
def FDx (w0 w : World) (R W L P n : Nat) (ca : Option Addr) (cc : Nat) (s : Fdr) : Prop := ∃ oa oc qa qc, FD w0 w R W L P n ca cc s oa oc qa qc
theorem FDx.no {w0 w w' : World} {R W L P n : Nat} {ca : Option Addr} {cc : Nat} {s : Fdr} (h : FDx w0 w R W L P n ca cc s) (hk : Keeps No w w') : FDx w0 w' R W L P n ca cc s := by
  obtain ⟨oa, oc, qa, qc, h⟩ := h; exact ⟨oa, oc, qa, qc, h.no hk⟩
def VisitC (n fuel : Nat) (cs : List (List Int)) : Prop := ∀ (w0 w : World) (R W L P : Nat) (ca : Option Addr) (cc : Nat) (s : Fdr) (z : Int) (s' : Fdr) (S : List Sl), LsAt w0 ca n cc S → S.map Sl.l = cs → FDx w0 w R W L P n ca cc s → visitM n cs fuel s z = some s' →
  Calls Tryd.prog 29 #[.pointer (some ⟨R, 0, none⟩), .int .i64 z] w fun e w' => e = .returned (.tuple #[]) ∧ FDx w0 w' R W L P n ca cc s'
set_option maxRecDepth 100000 in
set_option maxHeartbeats 12800000 in
theorem visit_step (n fuel : Nat) (cs : List (List Int)) (hn1 : n ≤ 1000000) (IH : VisitC n fuel cs) : VisitC n (fuel + 1) cs := by
  intro w0 w R W L P ca cc s z s' S hS hSc hF hm
  rw [visitM] at hm
  obtain ⟨v, hv, hm⟩ := Option.bind_eq_some_iff.1 hm
  obtain ⟨rfl, hvn⟩ := ix_some.1 hv
  split at hm
  case isFalse => cases hm
  rename_i hb
  obtain ⟨row, hrow, hm⟩ := Option.bind_eq_some_iff.1 hm
  obtain ⟨s2, hs2, hend⟩ := Option.bind_eq_some_iff.1 hm
  clear hm hv
  obtain ⟨oa, oc, qa, qc, hf⟩ := hF
  have HS := Lib.hid hS
  have HSC := Lib.hid hSc
  have HROW := Lib.hid hrow
  have HS2 := Lib.hid hs2
  have HEND := Lib.hid hend
  have HIH := Lib.hid IH
  have HB := Lib.hid hb
  have HF := Lib.hid hf
  have hcc := hS.cap
  unfold maxLen at hcc
  clear hS hSc hrow hs2 hend IH hb hf
  have v0 : (0 : Int) ≤ (v : Int) := by omega
  have vn : (v : Int) < (n : Int) := by omega
  obtain ⟨cm, hcm⟩ : ∃ c, s.came = c := ⟨_, rfl⟩
  have HCM := Lib.hid hcm
  have c5 : w.cell? ⟨R, 5, none⟩ = some (.int .i64 (cm : Int)) := HF.out.cell (by rw [← hcm]; rfl)
  have f5 := HF.out.frozen 5
  obtain ⟨cn, hcn⟩ : ∃ c, cm + 1 = c := ⟨_, rfl⟩
  have e1 : IntKind.i64.wrap ((cm : Int) + 1) = (cn : Int) := by rw [IntKind.wrap_i64]; have := HB.out.1; omega
  have HCN := Lib.hid hcn
  clear hcn
  clear hcm
  go_enter Tryd.func29, Tryd.ntmps29
  go_upto_region 1 with fail
  have HF1 := Lib.hid (HF.out.setCame cn)
  clear c5 f5 e1 HF
  obtain ⟨w1, hw1⟩ : ∃ W, w.setCell ⟨R, 5, none⟩ (.int .i64 (cn : Int)) = W := ⟨_, rfl⟩
  rw [hw1] at HF1 ⊢
  clear hw1
  -- region 1
  have p1 : ∀ u : KS (fun q => q = W) w1, u.W.cell? ⟨R, 1, none⟩ = some (.slice (some ⟨W, 0, none⟩) n n) := fun u => u.cell (HF1.out.cell rfl) (HF1.out.RneI HF1.out.wh)
  have p2 : ∀ u : KS (fun q => q = W) w1, u.W.cell? ⟨R, 2, none⟩ = some (.slice (some ⟨L, 0, none⟩) n n) := fun u => u.cell (HF1.out.cell rfl) (HF1.out.RneI HF1.out.wh)
  have p5 : ∀ u : KS (fun q => q = W) w1, u.W.cell? ⟨R, 5, none⟩ = some (.int .i64 (cn : Int)) := fun u => u.cell (HF1.out.cell rfl) (HF1.out.RneI HF1.out.wh)
  have hne : Nonempty (KS (fun q => q = W) w1) := ⟨⟨w1, Keeps.refl _ _⟩⟩
  refine Mix.wp_region_mix (fun W' => ∃ u : KS (fun q => q = W) w1, W' = u.W) [21] (by kernel_rfl) ?_
  have HV0 : Hid (Keeps No w1 w1.drew) := Lib.hid ((Keeps.refl _ w1).drew)
  generalize w1.drew = x0 at HV0 ⊢
  have Hx0 : Hid (Keeps (fun q => q = W) w1 x0) := Lib.hid (HV0.out.mono (fun _ _ e => e.elim))
  refine Mix.mix_seg 0 18 4 (by kernel_rfl) (by kernel_rfl) rfl rfl ⟨⟨x0, Hx0.out⟩, rfl⟩ ?_
  simp only [List.drop_succ_cons, List.drop_zero, List.take_succ_cons, List.take_zero]
  repeat (go_big_quiet_step (fail))
  refine wpQuiet_nil ?_
  clear p1 p2 p5
  have HFx := Lib.hid (HF1.out.no HV0.out)
  have d1 : ∃ z, x0.cell? ⟨W, v, none⟩ = some (.int .i64 z) := ⟨_, HFx.out.wh.cell (List.getElem?_eq_getElem (by have := HFx.out.len.1; omega))⟩
  obtain ⟨zw, d1⟩ := d1
  have f1 := HFx.out.wh.frozen v
  refine Mix.mix_seg 18 1 3 (by kernel_rfl) (by kernel_rfl) rfl rfl ⟨⟨x0, Hx0.out⟩, rfl⟩ ?_
  simp only [List.drop_succ_cons, List.drop_zero, List.take_succ_cons, List.take_zero]
  repeat (go_big_quiet_step (fail))
  refine wpQuiet_nil ?_
  refine Mix.mix_one 19 2 (by kernel_rfl) rfl rfl ?_
  simp only [List.drop_succ_cons, List.drop_zero, List.take_succ_cons, List.take_zero]
  go_wp2_with fail
  have HF2 := Lib.hid (HFx.out.setW v (cn : Int))
  have Hx1 : Hid (Keeps (fun q => q = W) w1 (x0.setCell ⟨W, v, none⟩ (.int .i64 (cn : Int)))) := Lib.hid (Hx0.out.setCell (.inl rfl) _)
  generalize x0.setCell ⟨W, v, none⟩ (.int .i64 (cn : Int)) = x1 at HF2 Hx1 ⊢
  refine ⟨.inr ⟨⟨x1, Hx1.out⟩, rfl⟩, ?_⟩
  clear d1 f1
  refine Mix.mix_seg 20 1 1 (by kernel_rfl) (by kernel_rfl) rfl rfl ⟨⟨x1, Hx1.out⟩, rfl⟩ ?_
  simp only [List.drop_succ_cons, List.drop_zero, List.take_succ_cons, List.take_zero]
  repeat (go_big_quiet_step (fail))
  refine wpQuiet_nil ?_
  have d1 : ∃ z, x1.cell? ⟨L, v, none⟩ = some (.int .i64 z) := ⟨_, HF2.out.lw.cell (List.getElem?_eq_getElem (by have := HF2.out.len.2.1; simp only at this ⊢; omega))⟩
  obtain ⟨zl, d1⟩ := d1
  have f1 := HF2.out.lw.frozen v
  refine Mix.mix_one 21 0 (by kernel_rfl) rfl rfl ?_
  simp only [List.drop_succ_cons, List.drop_zero, List.take_succ_cons, List.take_zero]
  go_wp2_with fail
  have HF3 := Lib.hid (HF2.out.setL v (cn : Int))
  refine ⟨.inl ⟨rfl, rfl⟩, ?_⟩
  refine Mix.mix_end (by kernel_rfl) ?_
  generalize x1.setCell ⟨L, v, none⟩ (.int .i64 (cn : Int)) = w3 at HF3 ⊢
  clear d1 f1 HF2 Hx1 HFx Hx0 HV0 HF1 hne
  -- region 2
  obtain ⟨on, hon⟩ : ∃ k, s.op.length = k := ⟨_, rfl⟩
  have HON := Lib.hid hon
  have c4 : w3.cell? ⟨R, 4, none⟩ = some (.slice oa on oc) := HF3.out.cell (by rw [← hon]; rfl)
  have HO3 : Hid (w3.ownsRow w0.heap.size 3 1 (.slice oa on oc) on (irow s.op)) := Lib.hid (by rw [← hon]; exact HF3.out.op)
  have hsz : w0.heap.size ≤ w3.heap.size := HF3.out.kp.size
  have hol : on ≤ 999999 := by rw [← hon]; exact HB.out.2
  clear hon
  go_wp2_with (at_builtin; refine wpList_appG _ rfl (.tmp 41) (.tmp 43) rfl w0.heap.size (.slice oa on oc) on s.op (v : Int) w3.heap.size rfl (HO3.out.alloc _) rfl (heap_alloc_new _ _) hol (by simp; omega) ?_)
  intro g' cap w4 ho hg hgo
  have hk4 : Keeps (fun q => (Value.slice oa on oc).ownBlock = some q) w3 w4 := ((Keeps.refl _ _).alloc _).grown hg (fun q e => .inl e)
  have hgo' : (Value.slice oa on oc).ownBlock = some g' ∨ w3.heap.size ≤ g' := hgo.imp id (fun e => by first | omega | (simp at e; omega))
  have HF4 : Hid (FD w0 (w4.setCell ⟨R, 4, none⟩ (.slice (some ⟨g', 0, none⟩) (on + 1) cap)) R W L P n ca cc { s with came := cn, when := s.when.set v (cn : Int), low := s.low.set v (cn : Int), op := s.op ++ [(v : Int)] } (some ⟨g', 0, none⟩) cap qa qc) := Lib.hid (by
    have e := HON.out
    subst e
    exact HF3.out.pushO hk4 ho hgo')
  have hr4 : w4.heap[R]? = w3.heap[R]? := hk4.block R HF3.out.lt (fun e => by obtain ⟨cs, hc⟩ := own_typ HO3.out e; exact HF3.out.RneI hc rfl)
  have c4 : ∃ y, w4.cell? ⟨R, 4, none⟩ = some y := ⟨_, by rw [cell_of_row w4 R 4 _ _ _ (hr4.trans HF3.out.row)]; rfl⟩
  obtain ⟨y4, c4⟩ := c4
  have f4 : w4.frozen? ⟨R, 4, none⟩ = false := frozen_of_row w4 R 4 _ _ (hr4.trans HF3.out.row)
  clear ho hg hgo hk4 hgo' hr4 hsz
  go_upto_region 3 with fail
  generalize w4.setCell ⟨R, 4, none⟩ (.slice (some ⟨g', 0, none⟩) (on + 1) cap) = w5 at HF4 ⊢
  clear c4 f4 HF3 HO3
  -- region 3
  obtain ⟨sl, hsl⟩ : ∃ sl, S[v]? = some sl := ⟨_, List.getElem?_eq_getElem (by rw [HS.out.len]; exact hvn)⟩
  obtain ⟨cb, co, rfl, k1, k2, k3⟩ := HS.out.at_ v sl hsl
  have HSL : Hid (sl.l = row) := Lib.hid (by
    have h := HROW.out
    rw [← HSC.out, List.getElem?_map, hsl] at h
    injection h)
  obtain ⟨sa, sn, sc, sll⟩ := sl
  have HSA := Lib.hid k2
  have k1' : w5.cell? ⟨cb, co + v, none⟩ = some (.slice sa sn sc) := HF4.out.kp.cell0 k1
  have c0 : w5.cell? ⟨R, 0, none⟩ = some (.slice (some ⟨cb, co, none⟩) n cc) := HF4.out.cell rfl
  have hsc := k2.cap
  unfold maxLen at hsc
  simp only at k3 hsc
  clear k1 k2 hsl
  go_wp2_with fail
  have HROWL : Hid (row.length = sn) := Lib.hid (by rw [← HSL.out]; exact HSA.out.len)
  obtain ⟨s1, hs1⟩ : ∃ s1 : Fdr, { s with came := cn, when := s.when.set v (cn : Int), low := s.low.set v (cn : Int), op := s.op ++ [(v : Int)] } = s1 := ⟨_, rfl⟩
  have HS3 : Hid (stepsM (visitM n cs fuel) n v row s1 = some s2) := Lib.hid (by
    have h := HS2.out
    rw [HCM.out, HCN.out] at h
    rw [← hs1]; exact h)
  rw [hs1] at HF4
  have HF5 : Hid (FDx w0 w5 R W L P n (some ⟨cb, co, none⟩) cc s1) := Lib.hid ⟨_, _, _, _, HF4.out⟩
  clear hs1 HF4 HON HCM HCN HS2 HB c0 k1'
  go_loopg [55] sn (fun k x wr => ∃ i : Nat, ∃ si : Fdr, x = .int .i64 (i : Int) ∧ i ≤ sn ∧ k = sn - i ∧ Hid (FDx w0 wr R W L P n (some ⟨cb, co, none⟩) cc si ∧ stepsM (visitM n cs fuel) n v (row.drop i) si = some s2))
  case atStart => exact ⟨0, s1, rfl, Nat.zero_le _, rfl, Lib.hid ⟨HF5.out, HS3.out⟩⟩
  case round =>
    obtain ⟨i, si, rfl, hi, hg, HR⟩ := hrel
    by_cases hlt : i < sn
    · skip
      -- DEV<
      have hlt' : (i : Int) < (sn : Int) := by omega
      have i0 : (0 : Int) ≤ (i : Int) := by omega
      obtain ⟨⟨oa1, oc1, qa1, qc1, hf⟩, hsteps⟩ := HR.out
      obtain ⟨b1, o1, z, hz, e1, cz⟩ := HSA.out.get hlt
      simp only at hz e1 cz
      subst e1
      have hdrop : row.drop i = z :: row.drop (i + 1) := by
        have h : sll = row := HSL.out
        rw [← h, List.drop_eq_getElem_cons (by have := HSA.out.len; simp only at this; omega)]
        congr 1
        exact (List.getElem?_eq_some_iff.1 hz).2
      rw [hdrop, stepsM] at hsteps
      obtain ⟨sj, hstep, hrest⟩ := Option.bind_eq_some_iff.1 hsteps
      have HREST := Lib.hid hrest
      have HF := Lib.hid hf
      rw [stepM] at hstep
      obtain ⟨u, hu, hstep⟩ := Option.bind_eq_some_iff.1 hstep
      obtain ⟨rfl, hun⟩ := ix_some.1 hu
      obtain ⟨x, hx, hstep⟩ := Option.bind_eq_some_iff.1 hstep
      have u0 : (0 : Int) ≤ (u : Int) := by omega
      have un : (u : Int) < (n : Int) := by omega
      have cz' := HF.out.kp.cell0 cz
      have HX := Lib.hid hx
      have c1 : wr.cell? ⟨R, 1, none⟩ = some (.slice (some ⟨W, 0, none⟩) n n) := HF.out.cell rfl
      have cx : wr.cell? ⟨W, u, none⟩ = some (.int .i64 x) := HF.out.wh.cell hx
      clear hdrop hsteps hrest hf hu hz cz hx
      by_cases hx0 : x = 0
      · have e0 : (x == 0) = true := beq_iff_eq.2 hx0
        rw [if_pos hx0] at hstep
        obtain ⟨s3, hvis, hstep⟩ := Option.bind_eq_some_iff.1 hstep
        obtain ⟨a, ha, hstep⟩ := Option.bind_eq_some_iff.1 hstep
        obtain ⟨b, hb, hstep⟩ := Option.bind_eq_some_iff.1 hstep
        injection hstep with hstep
        have HST := Lib.hid hstep
        have HA := Lib.hid ha
        have HBB := Lib.hid hb
        have HV := Lib.hid (fun (W1 : World) (h : FDx w0 W1 R W L P n (some ⟨cb, co, none⟩) cc si) => HIH.out w0 W1 R W L P (some ⟨cb, co, none⟩) cc si (u : Int) s3 S HS.out HSC.out h hvis)
        clear hx0 hvis hstep ha hb
        go_wp2_with fail
        refine (HV.out _ ⟨_, _, _, _, HF.out⟩).mono ?_
        rintro e w6 ⟨rfl, hf6⟩
        obtain ⟨oa2, oc2, qa2, qc2, hf6⟩ := hf6
        have HF6 := Lib.hid hf6
        clear hf6 HV c1 cx cz' HF HR e0
        go_upto_region 8 with fail
        have hne : Nonempty (KS No w6) := ⟨⟨w6, Keeps.refl _ _⟩⟩
        have p2 : ∀ y : KS No w6, y.W.cell? ⟨R, 2, none⟩ = some (.slice (some ⟨L, 0, none⟩) n n) := fun y => y.cell (HF6.out.cell rfl) (fun e => e)
        have pa : ∀ y : KS No w6, y.W.cell? ⟨L, v, none⟩ = some (.int .i64 a) := fun y => y.cell (HF6.out.lw.cell HA.out) (fun e => e)
        have pb : ∀ y : KS No w6, y.W.cell? ⟨L, u, none⟩ = some (.int .i64 b) := fun y => y.cell (HF6.out.lw.cell HBB.out) (fun e => e)
        refine Mix.wp_region_mix (fun W' => ∃ u : KS No w6, W' = u.W) [21] (by kernel_rfl) ?_
        have HV0 : Hid (Keeps No w6 w6.drew) := Lib.hid ((Keeps.refl _ w6).drew)
        generalize w6.drew = x0 at HV0 ⊢
        refine Mix.mix_seg 0 19 3 (by kernel_rfl) (by kernel_rfl) rfl rfl ⟨⟨x0, HV0.out⟩, rfl⟩ ?_
        simp only [List.drop_succ_cons, List.drop_zero, List.take_succ_cons, List.take_zero]
        repeat (go_big_quiet_step (fail))
        refine wpQuiet_nil ?_
        clear p2 pa pb
        refine Mix.mix_one 19 2 (by kernel_rfl) rfl rfl ?_
        simp only [List.drop_succ_cons, List.drop_zero, List.take_succ_cons, List.take_zero]
        go_wp2_with fail
        case inl h =>
          have HMIN : Hid (b = min a b) := Lib.hid (by rw [Int.min_def]; split <;> omega)
          clear h
          refine ⟨.inr ⟨⟨x0, HV0.out⟩, rfl⟩, ?_⟩
          refine Mix.mix_seg 20 1 1 (by kernel_rfl) (by kernel_rfl) rfl rfl ⟨⟨x0, HV0.out⟩, rfl⟩ ?_
          simp only [List.drop_succ_cons, List.drop_zero, List.take_succ_cons, List.take_zero]
          repeat (go_big_quiet_step (fail))
          refine wpQuiet_nil ?_
          have HFy := Lib.hid (HF6.out.no HV0.out)
          have da := HFy.out.lw.cell HA.out
          have fa := HFy.out.lw.frozen v
          refine Mix.mix_one 21 0 (by kernel_rfl) rfl rfl ?_
          simp only [List.drop_succ_cons, List.drop_zero, List.take_succ_cons, List.take_zero]
          go_wp2_with fail
          have HN := Lib.hid (HFy.out.setL v b)
          refine ⟨.inl ⟨rfl, rfl⟩, ?_⟩
          refine Mix.mix_end (by kernel_rfl) ?_
          generalize x0.setCell ⟨L, v, none⟩ (.int .i64 b) = w7 at HN ⊢
          clear da fa HFy
          go_wp2_with fail
          go_roundg (sn - (i + 1))
          case rel =>
            refine ⟨i + 1, sj, by go_num, by omega, rfl, Lib.hid ⟨?_, HREST.out⟩⟩
            rw [← HST.out, ← HMIN.out]
            exact ⟨_, _, _, _, HN.out⟩
          case measure => omega
        case inr h =>
          have HMIN : Hid (a = min a b) := Lib.hid (by rw [Int.min_def]; split <;> omega)
          clear h
          refine ⟨.inr ⟨⟨x0, HV0.out⟩, rfl⟩, ?_⟩
          refine Mix.mix_seg 20 1 1 (by kernel_rfl) (by kernel_rfl) rfl rfl ⟨⟨x0, HV0.out⟩, rfl⟩ ?_
          simp only [List.drop_succ_cons, List.drop_zero, List.take_succ_cons, List.take_zero]
          repeat (go_big_quiet_step (fail))
          refine wpQuiet_nil ?_
          have HFy := Lib.hid (HF6.out.no HV0.out)
          have da := HFy.out.lw.cell HA.out
          have fa := HFy.out.lw.frozen v
          refine Mix.mix_one 21 0 (by kernel_rfl) rfl rfl ?_
          simp only [List.drop_succ_cons, List.drop_zero, List.take_succ_cons, List.take_zero]
          go_wp2_with fail
          have HN := Lib.hid (HFy.out.setL v a)
          refine ⟨.inl ⟨rfl, rfl⟩, ?_⟩
          refine Mix.mix_end (by kernel_rfl) ?_
          generalize x0.setCell ⟨L, v, none⟩ (.int .i64 a) = w7 at HN ⊢
          clear da fa HFy
          go_wp2_with fail
          go_roundg (sn - (i + 1))
          case rel =>
            refine ⟨i + 1, sj, by go_num, by omega, rfl, Lib.hid ⟨?_, HREST.out⟩⟩
            rw [← HST.out, ← HMIN.out]
            exact ⟨_, _, _, _, HN.out⟩
          case measure => omega
      · have e0 : (x == 0) = false := beq_eq_false_iff_ne.2 hx0
        rw [if_neg hx0] at hstep
        obtain ⟨y, hy, hstep⟩ := Option.bind_eq_some_iff.1 hstep
        have cy : wr.cell? ⟨P, u, none⟩ = some (.int .i64 y) := HF.out.pt.cell hy
        have c3 : wr.cell? ⟨R, 3, none⟩ = some (.slice (some ⟨P, 0, none⟩) n n) := HF.out.cell rfl
        by_cases hy0 : y < 0
        · rw [if_pos hy0] at hstep
          obtain ⟨a, ha, hstep⟩ := Option.bind_eq_some_iff.1 hstep
          injection hstep with hstep
          have HST := Lib.hid hstep
          have HA := Lib.hid ha
          have hd : decide (y < 0) = true := decide_eq_true hy0
          clear hstep ha hx0 hy hy0
          go_upto_region 10 with fail
          clear c1 cx cz' cy c3 hd e0
          have hne : Nonempty (KS No wr) := ⟨⟨wr, Keeps.refl _ _⟩⟩
          have p2 : ∀ y : KS No wr, y.W.cell? ⟨R, 2, none⟩ = some (.slice (some ⟨L, 0, none⟩) n n) := fun y => y.cell (HF.out.cell rfl) (fun e => e)
          have pa : ∀ y : KS No wr, y.W.cell? ⟨L, v, none⟩ = some (.int .i64 a) := fun y => y.cell (HF.out.lw.cell HA.out) (fun e => e)
          have pc : ∀ y : KS No wr, y.W.cell? ⟨R, 1, none⟩ = some (.slice (some ⟨W, 0, none⟩) n n) := fun y => y.cell (HF.out.cell rfl) (fun e => e)
          have pb : ∀ y : KS No wr, y.W.cell? ⟨W, u, none⟩ = some (.int .i64 x) := fun y => y.cell (HF.out.wh.cell HX.out) (fun e => e)
          refine Mix.wp_region_mix (fun W' => ∃ u : KS No wr, W' = u.W) [21] (by kernel_rfl) ?_
          have HV0 : Hid (Keeps No wr wr.drew) := Lib.hid ((Keeps.refl _ wr).drew)
          generalize wr.drew = x0 at HV0 ⊢
          refine Mix.mix_seg 0 19 3 (by kernel_rfl) (by kernel_rfl) rfl rfl ⟨⟨x0, HV0.out⟩, rfl⟩ ?_
          simp only [List.drop_succ_cons, List.drop_zero, List.take_succ_cons, List.take_zero]
          repeat (go_big_quiet_step (fail))
          refine wpQuiet_nil ?_
          clear p2 pa pb
          refine Mix.mix_one 19 2 (by kernel_rfl) rfl rfl ?_
          simp only [List.drop_succ_cons, List.drop_zero, List.take_succ_cons, List.take_zero]
          go_wp2_with fail
          case inl h =>
            have HMIN : Hid (x = min a x) := Lib.hid (by rw [Int.min_def]; split <;> omega)
            clear h
            refine ⟨.inr ⟨⟨x0, HV0.out⟩, rfl⟩, ?_⟩
            refine Mix.mix_seg 20 1 1 (by kernel_rfl) (by kernel_rfl) rfl rfl ⟨⟨x0, HV0.out⟩, rfl⟩ ?_
            simp only [List.drop_succ_cons, List.drop_zero, List.take_succ_cons, List.take_zero]
            repeat (go_big_quiet_step (fail))
            refine wpQuiet_nil ?_
            have HFy := Lib.hid (HF.out.no HV0.out)
            have da := HFy.out.lw.cell HA.out
            have fa := HFy.out.lw.frozen v
            refine Mix.mix_one 21 0 (by kernel_rfl) rfl rfl ?_
            simp only [List.drop_succ_cons, List.drop_zero, List.take_succ_cons, List.take_zero]
            go_wp2_with fail
            have HN := Lib.hid (HFy.out.setL v x)
            refine ⟨.inl ⟨rfl, rfl⟩, ?_⟩
            refine Mix.mix_end (by kernel_rfl) ?_
            generalize x0.setCell ⟨L, v, none⟩ (.int .i64 x) = w7 at HN ⊢
            clear da fa HFy
            go_wp2_with fail
            go_roundg (sn - (i + 1))
            case rel =>
              refine ⟨i + 1, sj, by go_num, by omega, rfl, Lib.hid ⟨?_, HREST.out⟩⟩
              rw [← HST.out, ← HMIN.out]
              exact ⟨_, _, _, _, HN.out⟩
            case measure => omega
          case inr h =>
            have HMIN : Hid (a = min a x) := Lib.hid (by rw [Int.min_def]; split <;> omega)
            clear h
            refine ⟨.inr ⟨⟨x0, HV0.out⟩, rfl⟩, ?_⟩
            refine Mix.mix_seg 20 1 1 (by kernel_rfl) (by kernel_rfl) rfl rfl ⟨⟨x0, HV0.out⟩, rfl⟩ ?_
            simp only [List.drop_succ_cons, List.drop_zero, List.take_succ_cons, List.take_zero]
            repeat (go_big_quiet_step (fail))
            refine wpQuiet_nil ?_
            have HFy := Lib.hid (HF.out.no HV0.out)
            have da := HFy.out.lw.cell HA.out
            have fa := HFy.out.lw.frozen v
            refine Mix.mix_one 21 0 (by kernel_rfl) rfl rfl ?_
            simp only [List.drop_succ_cons, List.drop_zero, List.take_succ_cons, List.take_zero]
            go_wp2_with fail
            have HN := Lib.hid (HFy.out.setL v a)
            refine ⟨.inl ⟨rfl, rfl⟩, ?_⟩
            refine Mix.mix_end (by kernel_rfl) ?_
            generalize x0.setCell ⟨L, v, none⟩ (.int .i64 a) = w7 at HN ⊢
            clear da fa HFy
            go_wp2_with fail
            go_roundg (sn - (i + 1))
            case rel =>
              refine ⟨i + 1, sj, by go_num, by omega, rfl, Lib.hid ⟨?_, HREST.out⟩⟩
              rw [← HST.out, ← HMIN.out]
              exact ⟨_, _, _, _, HN.out⟩
            case measure => omega
        · rw [if_neg hy0] at hstep
          injection hstep with hstep
          have HST := Lib.hid hstep
          have hd : decide (y < 0) = false := decide_eq_false hy0
          clear hstep hx0 hy hy0
          go_wp2_with fail
          go_roundg (sn - (i + 1))
          case rel => exact ⟨i + 1, sj, by go_num, by omega, rfl, Lib.hid ⟨by rw [← HST.out]; exact ⟨_, _, _, _, HF.out⟩, HREST.out⟩⟩
          case measure => omega
      -- DEV>
    · obtain rfl : i = sn := by omega
      have hlt' : ¬ (i : Int) < (i : Int) := by omega
      obtain ⟨⟨oa1, oc1, qa1, qc1, hf⟩, hsteps⟩ := HR.out
      rw [List.drop_eq_nil_of_le (by have := HROWL.out; omega), stepsM] at hsteps
      injection hsteps with hsteps
      subst hsteps
      have hend := HEND.out
      rw [endM] at hend
      obtain ⟨a, ha, hend⟩ := Option.bind_eq_some_iff.1 hend
      obtain ⟨b, hb, hend⟩ := Option.bind_eq_some_iff.1 hend
      have HF := Lib.hid hf
      have c2 : wr.cell? ⟨R, 2, none⟩ = some (.slice (some ⟨L, 0, none⟩) n n) := HF.out.cell rfl
      have c1 : wr.cell? ⟨R, 1, none⟩ = some (.slice (some ⟨W, 0, none⟩) n n) := HF.out.cell rfl
      have ca : wr.cell? ⟨L, v, none⟩ = some (.int .i64 a) := HF.out.lw.cell ha
      have cb' : wr.cell? ⟨W, v, none⟩ = some (.int .i64 b) := HF.out.wh.cell hb
      clear hf ha hb HEND HR HROWL HSL HIH HSA HS HSC HROW HF5 HS3
      by_cases hab : a < b
      · rw [if_pos hab] at hend
        injection hend with hend
        have hd : decide (a < b) = true := decide_eq_true hab
        have HE := Lib.hid hend
        clear hend hab
        go_wp2_with fail
        go_quiet (fail)
        have HF2 := Lib.hid (HF.out.no ((Keeps.refl No wr).drewN nq))
        go_wp2_with fail
        go_returns
        exact ⟨rfl, by rw [← HE.out]; exact ⟨_, _, _, _, HF2.out⟩⟩
      · rw [if_neg hab] at hend
        obtain ⟨A, hA, hend⟩ := Option.bind_eq_some_iff.1 hend
        split at hend
        case isFalse => cases hend
        rename_i hcond
        obtain ⟨p, hp, hend⟩ := Option.bind_eq_some_iff.1 hend
        injection hend with hend
        have hd : decide (a < b) = false := decide_eq_false hab
        have HE := Lib.hid hend
        have HA := Lib.hid hA
        have HP := Lib.hid hp
        have HCO := Lib.hid hcond
        clear hend hab hA hp hcond
        go_wp2_with fail
        go_quiet (fail)
        have HF2 := Lib.hid (HF.out.no ((Keeps.refl No wr).drewN nq))
        generalize wr.drewN nq = w2 at HF2 ⊢
        clear HF c2 c1 ca cb' hd
        obtain ⟨on2, hon2⟩ : ∃ k, si.op.length = k := ⟨_, rfl⟩
        have HON := Lib.hid hon2
        have hA0 := HA.out
        rw [hon2] at hA0
        have hpos : 0 < on2 := by
          cases on2 with
          | zero => cases hA0
          | succ k => omega
        have HO0 : Hid (w2.ownsRow w0.heap.size 3 1 (.slice oa1 on2 oc1) on2 (irow si.op)) := Lib.hid (by rw [← hon2]; exact HF2.out.op)
        obtain ⟨g, oc, hform, _⟩ : ∃ g oc, Value.slice oa1 on2 oc1 = .slice (some ⟨g, 0, none⟩) on2 oc ∧ True := by
          rcases HO0.out.2 with ⟨h1, h2⟩ | ⟨g, cap, cur, h1, _⟩
          · omega
          · exact ⟨g, cap, h1, trivial⟩
        injection hform with hoa _ hoc
        subst hoa hoc
        have c4 : w2.cell? ⟨R, 4, none⟩ = some (.slice (some ⟨g, 0, none⟩) on2 oc1) := HF2.out.cell (by rw [← hon2]; rfl)
        have hoc : on2 ≤ oc1 ∧ oc1 ≤ maxLen := by
          rcases HO0.out.2 with ⟨h1, h2⟩ | ⟨g1, cap, cur, h1, _, _, h4, h5, _⟩
          · omega
          · injection h1 with _ _ e; subst e; exact ⟨h4, h5⟩
        unfold maxLen at hoc
        have HO1 : Hid (∀ (j : Nat) z, si.op[j]? = some z → w2.cell? ⟨g, j, none⟩ = some (.int .i64 z)) := Lib.hid (fun j z hz => by
          rw [World.ownsRow.cellAt HO0.out j (by have := (List.getElem?_eq_some_iff.1 hz).1; omega)]; exact irow_get hz)
        obtain ⟨m, rfl⟩ : ∃ m, on2 = m + 1 := ⟨on2 - 1, by omega⟩
        have e1 : IntKind.i64.wrap (((m + 1 : Nat) : Int) - 1) = (m : Int) := by rw [IntKind.wrap_i64]; omega
        clear hon2 hpos
        have HA0 := Lib.hid hA0
        clear hA0
        go_upto_region 14 with fail
        go_loopg [6] m (fun k x wr => ∃ i : Nat, x = .int .i64 (i : Int) ∧ i ≤ m ∧ k = i ∧ Hid (lastAt si.op (v : Int) (i + 1) = some A) ∧ wr = w2)
        case atStart => exact ⟨m, rfl, Nat.le_refl _, rfl, HA0, rfl⟩
        case round =>
          obtain ⟨i, rfl, him, hg2, HL, rfl⟩ := hrel
          have i0 : (0 : Int) ≤ (i : Int) := by omega
          have im : (i : Int) < ((m + 1 : Nat) : Int) := by omega
          obtain ⟨y, hy⟩ : ∃ y, si.op[i]? = some y := ⟨_, List.getElem?_eq_getElem (by have := HON.out; omega)⟩
          have cy := HO1.out i y hy
          have hl := HL.out
          rw [lastAt, hy] at hl
          by_cases hyv : y = (v : Int)
          · rw [if_pos (by rw [hyv])] at hl
            injection hl with hl
            subst hl
            have e2 : (y != (v : Int)) = false := by rw [hyv]; simp
            clear hyv HL hy
            obtain ⟨pn, hpn⟩ : ∃ k, m + 1 - i = k := ⟨_, rfl⟩
            obtain ⟨pl, hpl⟩ : ∃ l, si.op.drop i = l := ⟨_, rfl⟩
            have hplen : pl.length = pn := by rw [← hpl, List.length_drop, HON.out]; exact hpn
            have hpn0 : 0 < pn := by omega
            have hpn1 : pn ≤ 12 := by have := HCO.out.1; rw [hpl, hplen] at this; exact this
            have HCL := Lib.hid (clone_any wr g i pn (oc1 - i) pl hplen hpn0 (by omega) (fun j z hz => by
              refine HO1.out (i + j) z ?_
              rw [← hpl, List.getElem?_drop] at hz; exact hz))
            have HPL := Lib.hid hpl
            have HPT : Hid (tellM n (si.parts.length : Int) pl si.part = some p) := Lib.hid (by rw [← hpl]; exact HP.out)
            have HPLEN := Lib.hid hplen
            clear hpl hplen HP
            go_wp2_with fail
            refine HCL.out.mono ?_
            rintro e w5 ⟨g5, cap5, rfl, ho5, hk5⟩
            have HO5 := Lib.hid ho5
            have HK5 := Lib.hid hk5
            have HF5 := Lib.hid (HF2.out.no hk5)
            have c4' := hk5.cell0 c4
            have f4' := HF5.out.frozen 4
            clear ho5 hk5 HCL hpn c4 e1 cy
            have him1 : i ≤ oc1 := by omega
            have him2 : (i : Int) ≤ ((m + 1 : Nat) : Int) := by omega
            go_upto_region 18 with fail
            have hk6 : Keeps (fun q => q = R ∨ q = P) wr (w5.setCell ⟨R, 4, none⟩ (.slice (some ⟨g, 0, none⟩) i oc1)) := (HK5.out.mono (fun _ _ e => e.elim)).trans (setC w5 ⟨R, 4, none⟩ (.slice (some ⟨g, 0, none⟩) i oc1)) (fun q _ e => .inl e)
            have HTS : Hid (TS wr (w5.setCell ⟨R, 4, none⟩ (.slice (some ⟨g, 0, none⟩) i oc1)) R P n #[.slice (some ⟨cb, co, none⟩) n cc, .slice (some ⟨W, 0, none⟩) n n, .slice (some ⟨L, 0, none⟩) n n, .slice (some ⟨P, 0, none⟩) n n, .slice (some ⟨g, 0, none⟩) i oc1, .int .i64 (si.came : Int), .slice qa1 si.parts.length qc1] (.slice (some ⟨g5, 0, none⟩) pn cap5) pl si.part) := Lib.hid (by
              have hs := setC w5 ⟨R, 4, none⟩ (.slice (some ⟨g, 0, none⟩) i oc1)
              refine ⟨hk6, ?_, HF5.out.pt.keep hs (fun e => HF5.out.RneI HF5.out.pt e.symm), HF5.out.len.2.2, ?_, HF2.out.pt.lt⟩
              · rw [heap_setCell_same w5 R 4 _ _ _ HF5.out.row]; rfl
              · rw [HPLEN.out]
                exact own_kept HO5.out (fun q hq => hs.block q (ownG_lt HO5.out q hq) (fun e => by obtain ⟨cs, hc⟩ := own_typ HO5.out hq; exact HF5.out.RneI hc e.symm)))
            generalize w5.setCell ⟨R, 4, none⟩ (.slice (some ⟨g, 0, none⟩) i oc1) = w6 at HTS ⊢
            clear hk6 c4' f4' HF5 HK5 HO5
            obtain ⟨K, hK⟩ : ∃ k, si.parts.length = k := ⟨_, rfl⟩
            rw [hK] at HTS HPT
            have HKK := Lib.hid hK
            clear hK
            go_wp2_with fail
            obtain ⟨wB, rfl⟩ : ∃ W', W' = wr := ⟨_, rfl⟩
            go_loopg [171] pn (fun k x wr => ∃ j : Nat, ∃ pk : List Int, x = .int .i64 (j : Int) ∧ j ≤ pn ∧ k = pn - j ∧ Hid (TS wB wr R P n #[.slice (some ⟨cb, co, none⟩) n cc, .slice (some ⟨W, 0, none⟩) n n, .slice (some ⟨L, 0, none⟩) n n, .slice (some ⟨P, 0, none⟩) n n, .slice (some ⟨g, 0, none⟩) i oc1, .int .i64 (si.came : Int), .slice qa1 K qc1] (.slice (some ⟨g5, 0, none⟩) pn cap5) pl pk ∧ tellM n (K : Int) (pl.drop j) pk = some p))
            case atStart => exact ⟨0, si.part, rfl, Nat.zero_le _, rfl, Lib.hid ⟨HTS.out, HPT.out⟩⟩
            case round =>
              obtain ⟨j, pk, rfl, hj, hg3, HJ⟩ := hrel
              by_cases hjl : j < pn
              · have hjl' : (j : Int) < (pn : Int) := by omega
                have j0 : (0 : Int) ≤ (j : Int) := by omega
                obtain ⟨z, hz⟩ : ∃ z, pl[j]? = some z := ⟨_, List.getElem?_eq_getElem (by have := HPLEN.out; omega)⟩
                have htell := HJ.out.2
                rw [show pl.drop j = z :: pl.drop (j + 1) by
                  rw [List.drop_eq_getElem_cons (by have := HPLEN.out; omega)]
                  congr 1
                  exact (List.getElem?_eq_some_iff.1 hz).2, tellM] at htell
                obtain ⟨u, hu, htell2⟩ := Option.bind_eq_some_iff.1 htell
                clear htell
                obtain ⟨rfl, hun⟩ := ix_some.1 hu
                have u0 : (0 : Int) ≤ (u : Int) := by omega
                have un : (u : Int) < (n : Int) := by omega
                have HTL := Lib.hid htell2
                have cz : wr.cell? ⟨g5, j, none⟩ = some (.int .i64 (u : Int)) := by
                  have ho := HJ.out.1.own
                  rw [HPLEN.out] at ho
                  rw [World.ownsRow.cellAt ho j (by omega)]; exact irow_get hz
                have hcap5 : pn ≤ cap5 ∧ cap5 ≤ 9223372036854775807 := by
                  rcases HJ.out.1.own.2 with ⟨h1, _⟩ | ⟨g1, cap, cur, h1, _, _, h4, h5, _⟩
                  · cases h1
                  · injection h1 with _ _ e; subst e; rw [HPLEN.out] at h4; exact ⟨h4, h5⟩
                have HT := Lib.hid HJ.out.1
                clear htell2 hu hz HJ
                go_upto_region 21 with fail
                have hne : Nonempty (KS No wr) := ⟨⟨wr, Keeps.refl _ _⟩⟩
                have p3 : ∀ y : KS No wr, y.W.cell? ⟨R, 3, none⟩ = some (.slice (some ⟨P, 0, none⟩) n n) := fun y => y.cell (HT.out.cell rfl) (fun e => e)
                have p6 : ∀ y : KS No wr, y.W.cell? ⟨R, 6, none⟩ = some (.slice qa1 K qc1) := fun y => y.cell (HT.out.cell rfl) (fun e => e)
                refine Mix.wp_region_mix (fun W' => ∃ u : KS No wr, W' = u.W) [11] (by kernel_rfl) ?_
                have HV0 : Hid (Keeps No wr wr.drew) := Lib.hid ((Keeps.refl _ wr).drew)
                generalize wr.drew = x0 at HV0 ⊢
                refine Mix.mix_seg 0 9 3 (by kernel_rfl) (by kernel_rfl) rfl rfl ⟨⟨x0, HV0.out⟩, rfl⟩ ?_
                simp only [List.drop_succ_cons, List.drop_zero, List.take_succ_cons, List.take_zero]
                repeat (go_big_quiet_step (fail))
                refine wpQuiet_nil ?_
                clear p3 p6 cz
                refine Mix.mix_one 9 2 (by kernel_rfl) rfl rfl ?_
                simp only [List.drop_succ_cons, List.drop_zero, List.take_succ_cons, List.take_zero]
                go_wp2_with fail
                refine ⟨.inr ⟨⟨x0, HV0.out⟩, rfl⟩, ?_⟩
                refine Mix.mix_seg 10 1 1 (by kernel_rfl) (by kernel_rfl) rfl rfl ⟨⟨x0, HV0.out⟩, rfl⟩ ?_
                simp only [List.drop_succ_cons, List.drop_zero, List.take_succ_cons, List.take_zero]
                repeat (go_big_quiet_step (fail))
                refine wpQuiet_nil ?_
                have HTy := Lib.hid (HT.out.no HV0.out)
                have da : ∃ y, x0.cell? ⟨P, u, none⟩ = some (.int .i64 y) := ⟨_, HTy.out.pt.cell (List.getElem?_eq_getElem (by rw [HTy.out.len]; exact hun))⟩
                obtain ⟨y0, da⟩ := da
                have fa := HTy.out.pt.frozen u
                refine Mix.mix_one 11 0 (by kernel_rfl) rfl rfl ?_
                simp only [List.drop_succ_cons, List.drop_zero, List.take_succ_cons, List.take_zero]
                go_wp2_with fail
                have HN := Lib.hid (HTy.out.set u (K : Int))
                refine ⟨.inl ⟨rfl, rfl⟩, ?_⟩
                refine Mix.mix_end (by kernel_rfl) ?_
                generalize x0.setCell ⟨P, u, none⟩ (.int .i64 (K : Int)) = w7 at HN ⊢
                clear da fa HTy HT HV0 hne
                go_wp2_with fail
                go_roundg (pn - (j + 1))
                case rel => exact ⟨j + 1, _, by go_num, by omega, rfl, Lib.hid ⟨HN.out, HTL.out⟩⟩
                case measure => omega
              · obtain rfl : j = pn := by omega
                have hjl' : ¬ (j : Int) < (j : Int) := by omega
                have htell := HJ.out.2
                rw [List.drop_eq_nil_of_le (by have := HPLEN.out; omega), tellM] at htell
                injection htell with htell
                subst htell
                have HT := Lib.hid HJ.out.1
                have HSO := Lib.hid (fun (W1 : World) h => sort_any W1 wB.heap.size j (.slice (some ⟨g5, 0, none⟩) j cap5) pl hpn1 h)
                clear HJ HTS HPT
                go_wp2_with fail
                refine (HSO.out _ (by have h := HT.out.own; rw [HPLEN.out] at h; exact h)).mono ?_
                rintro e w8 ⟨rfl, ho8, hk8⟩
                have hg5 : wB.heap.size ≤ g5 := ownG_lo HT.out.own g5 rfl
                have hne5 : ∀ q, (Value.slice (some ⟨g5, 0, none⟩) j cap5).ownBlock = some q → q = g5 := fun q e => by injection e with e; exact e.symm
                have hk8' : Keeps (fun q => q = R ∨ q = P) wB w8 := HT.out.kp.trans hk8 (fun q hq e => by have := hne5 q e; omega)
                have HF8 : Hid (FD w0 w8 R W L P n (some ⟨cb, co, none⟩) cc { si with part := pk, op := si.op.take i } (some ⟨g, 0, none⟩) oc1 qa1 qc1) := Lib.hid (by
                  refine HF2.out.rejoin (by have := HON.out; omega) hk8' ?_ ?_ HT.out.len
                  · rw [HKK.out]
                    exact (hk8.block _ (Array.getElem?_eq_some_iff.1 HT.out.row).1 (fun e => by obtain ⟨cs, hc⟩ := own_typ HT.out.own e; exact ne_type HT.out.row hc (by decide) rfl)).trans HT.out.row
                  · exact HT.out.pt.keep hk8 (fun e => by
                      have := hne5 P e
                      have := HT.out.lt
                      omega))
                have HO8 := Lib.hid ho8
                have HK8 := Lib.hid hk8'
                have HG5 := Lib.hid hg5
                clear ho8 hk8 hk8' hg5 hne5 HSO HT
                obtain ⟨vs, q1, q2⟩ := HF8.out.qs.ex
                have HQ1 : Hid (w8.ownsRow w0.heap.size 28 1 (.slice qa1 K qc1) K vs) := Lib.hid (by
                  have e := HKK.out
                  subst e
                  exact q1)
                have HQ2 := Lib.hid q2
                have c6 : w8.cell? ⟨R, 6, none⟩ = some (.slice qa1 K qc1) := HF8.out.cell (by rw [← HKK.out]; rfl)
                have hK9 : K ≤ 999999 := by have := HCO.out.2; rw [HKK.out] at this; exact this
                have hs8 : w0.heap.size ≤ w8.heap.size := HF8.out.kp.size
                clear q1 q2
                go_wp2_with (at_builtin; refine wpList_appW _ rfl (.tmp 193) (.tmp 195) rfl w0.heap.size (.slice qa1 K qc1) K vs (.slice (some ⟨g5, 0, none⟩) j cap5) w8.heap.size rfl (HQ1.out.alloc _) rfl (heap_alloc_new _ _) rfl hK9 (by simp; omega) ?_)
                intro g9 cap9 w9 ho9 hg9 hgo9
                have hk9 : Keeps (fun q => (Value.slice qa1 K qc1).ownBlock = some q) w8 w9 := ((Keeps.refl _ _).alloc _).grown hg9 (fun q e => .inl e)
                have hgo9' : (Value.slice qa1 K qc1).ownBlock = some g9 ∨ w8.heap.size ≤ g9 := hgo9.imp id (fun e => by first | omega | (simp at e; omega))
                have HF9 : Hid (FD w0 (w9.setCell ⟨R, 6, none⟩ (.slice (some ⟨g9, 0, none⟩) (K + 1) cap9)) R W L P n (some ⟨cb, co, none⟩) cc { si with part := pk, op := si.op.take i, parts := si.parts ++ [isort pl] } (some ⟨g, 0, none⟩) oc1 (some ⟨g9, 0, none⟩) cap9) := Lib.hid (by
                  have hil : (isort pl).length = j := by rw [(isort_perm pl).length_eq]; exact HPLEN.out
                  have hgl := ownG_lt HF2.out.op g rfl
                  have b1 := HF2.out.wh.lt
                  have b2 := HF2.out.lw.lt
                  have b3 := HF2.out.pt.lt
                  have b4 := HG5.out
                  have e := HKK.out
                  subst e
                  have hu : w8.ownsRow w0.heap.size 3 1 (.slice (some ⟨g5, 0, none⟩) j cap5) (isort pl).length (irow (isort pl)) := by rw [hil]; exact own_mono HO8.out HF2.out.kp.size
                  refine HF8.out.pushQ hk9 vs HQ1.out HQ2.out hu (fun q hq hb => ?_) ho9 hgo9'
                  have e1 : g5 = q := by injection hq
                  rcases hb with hb | hb | hb | hb
                  · omega
                  · omega
                  · omega
                  · have e2 : g = q := by injection hb
                    omega)
                have hr9 : w9.heap[R]? = w8.heap[R]? := hk9.block R HF8.out.lt (fun e => by obtain ⟨cs, hc⟩ := own_typ HQ1.out e; exact ne_type HF8.out.row hc (by decide) rfl)
                have c9 : ∃ y, w9.cell? ⟨R, 6, none⟩ = some y := ⟨_, by rw [cell_of_row w9 R 6 _ _ _ (hr9.trans HF8.out.row)]; rfl⟩
                obtain ⟨y9, c9⟩ := c9
                have f9 : w9.frozen? ⟨R, 6, none⟩ = false := frozen_of_row w9 R 6 _ _ (hr9.trans HF8.out.row)
                clear ho9 hg9 hgo9 hk9 hgo9' hr9 c6
                go_wp2_with fail
                go_returns
                refine ⟨rfl, ?_⟩
                rw [← HE.out, HPL.out]
                exact ⟨_, _, _, _, HF9.out⟩
          · rw [if_neg (by intro e; injection e with e; exact hyv e)] at hl
            have e2 : (y != (v : Int)) = true := bne_iff_ne.2 hyv
            obtain ⟨j, rfl⟩ : ∃ j, i = j + 1 := by
              cases i with
              | zero => rw [lastAt] at hl; cases hl
              | succ j => exact ⟨j, rfl⟩
            have e3 : IntKind.i64.wrap (((j + 1 : Nat) : Int) - 1) = (j : Int) := by rw [IntKind.wrap_i64]; omega
            have HL2 := Lib.hid hl
            clear hyv hl hy HL
            go_wp2_with fail
            go_roundg j
            case rel => exact ⟨j, rfl, by omega, rfl, HL2, rfl⟩
            case measure => omega
end Go.Proofs.YtkiimljdoebclaaDoor
