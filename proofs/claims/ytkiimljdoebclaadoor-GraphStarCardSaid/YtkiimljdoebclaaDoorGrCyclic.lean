/- Cyclic, walked. -/
import Derived.Test.YtkiimljdoebclaaDoorGrParts
namespace Go.Proofs.YtkiimljdoebclaaDoor
open Go.RowKit Gm Go.Maps
set_option linter.unusedVariables false
set_option linter.unusedSimpArgs false

theorem slDrew {w : World} {s : Sl} (h : SlAt w s) (k : Nat) : SlAt (w.drewN k) s := h.no ((Keeps.refl No w).drewN k)
set_option maxRecDepth 100000 in
set_option maxHeartbeats 25600000 in
theorem cyclic_any (p : Pg) (w : World) (fuel : Nat) (CS : List Int) (hok : PgOk w p) (hl : Laid w) (h : Plain p) (ht : TkOk p) (hpo : p.ok = true) (hm : cyclicM p.fn (callsM p.nm) fuel = some CS) :
    Calls Tryd.prog 10 #[pv p] w fun e w' => ∃ v, e = .returned v ∧ w'.ownsRow w.heap.size 3 1 v CS.length (irow CS) ∧ Keeps No w w' := by
  unfold cyclicM at hm
  obtain ⟨s, hs, hm⟩ := Option.bind_eq_some_iff.1 hm
  split at hm
  case isTrue => cases hm
  rename_i hbad
  have HOKP : Hid (okParts s.parts = true) := Lib.hid (by simpa using hbad)
  have HCH := Lib.hid (fun (W : World) (hk : Keeps No w W) => check_any p W (hok.no hk) (hl.no hk))
  rw [hpo] at HCH
  have HCA := Lib.hid (fun (W : World) (hk : Keeps No w W) (pb : Nat) (hp : p.at_ W pb 0) => gcalls_any p pb 0 W hp (hok.no hk) h ht)
  obtain ⟨n, hn⟩ : ∃ n, p.fn = n := ⟨_, rfl⟩
  obtain ⟨cs, hcs⟩ : ∃ cs, callsM p.nm = cs := ⟨_, rfl⟩
  have hn0 := h.n0
  have hn1 := h.n1
  rw [hn, hcs] at hs hm HCA
  rw [hn] at hn0 hn1
  have HNF := Lib.hid (fun (W : World) OB S (hS : LsAt W (some ⟨OB, 0, none⟩) n n S) (hSc : S.map Sl.l = cs) => newFinder_any n fuel cs W (some ⟨OB, 0, none⟩) n S s hn0 hn1 hS hSc hs)
  have HM := Lib.hid hm
  clear hok hl h ht hpo hs hbad hm hn hcs
  go_enter Tryd.func10, Tryd.ntmps10
  go_upto_region 1 with fail
  have hp1 := pg_boxed p w 26
  have hk1 : Keeps No w (w.alloc (.cells #[.slice p.ga p.gn p.gc, .slice p.fa p.fn p.fc, .int .i64 p.main] 26)) := (Keeps.refl _ _).alloc _
  generalize w.alloc (.cells #[.slice p.ga p.gn p.gc, .slice p.fa p.fn p.fc, .int .i64 p.main] 26) = w1 at hp1 hk1 ⊢
  obtain ⟨PB, hPB⟩ : ∃ q, w.heap.size = q := ⟨_, rfl⟩
  rw [hPB] at hp1 ⊢
  have p0 : w1.cell? ⟨PB, 0, none⟩ = some (.slice p.ga p.gn p.gc) := hp1 0 _ rfl
  have p1 : w1.cell? ⟨PB, 1, none⟩ = some (.slice p.fa p.fn p.fc) := hp1 1 _ rfl
  have p2 : w1.cell? ⟨PB, 2, none⟩ = some (.int .i64 p.main) := hp1 2 _ rfl
  have HP1 := Lib.hid hp1
  have HK1 := Lib.hid hk1
  clear hp1 hk1 hPB
  go_wp2_with fail
  refine (HCH.out w1 HK1.out).mono ?_
  rintro e w2 ⟨rfl, hk2⟩
  have HK2 := Lib.hid (HK1.out.trans hk2 (fun _ _ e => e))
  have HP2 := Lib.hid (HP1.out.no hk2)
  clear hk2 p0 p1 p2 HCH HK1 HP1
  go_upto_region 3 with fail
  go_wp2_with fail
  refine (HCA.out w2 HK2.out PB HP2.out).mono ?_
  rintro e w3 ⟨OB, rfl, ⟨S, hS, hSc⟩, hk3⟩
  have HK3 := Lib.hid (HK2.out.trans hk3 (fun _ _ e => e))
  have HS3 := Lib.hid hS
  have HSC := Lib.hid hSc
  clear hS hSc hk3 HK2 HP2 HCA
  go_wp2_with fail
  refine (HNF.out w3 OB S HS3.out HSC.out).mono ?_
  rintro e w4 ⟨R, rfl, Wb, Lb, Pb, hfx⟩
  obtain ⟨oa, oc, qa, qc, hf⟩ := hfx
  have HF := Lib.hid hf
  have HK4 := Lib.hid (HK3.out.trans hf.kp (fun _ _ e => e))
  have HS4 := Lib.hid (HS3.out.no hf.kp)
  obtain ⟨PSl, hps, hpm⟩ := hf.sets HOKP.out
  have HPS := Lib.hid hps
  have HPM := Lib.hid hpm
  obtain ⟨K, hK⟩ : ∃ k, s.parts.length = k := ⟨_, rfl⟩
  have hK1 : K ≤ 1000000 := by rw [← hK]; exact (okParts_out HOKP.out).1
  rw [hK] at HPS
  have HKK := Lib.hid hK
  have c6 : w4.cell? ⟨R, 6, none⟩ = some (.slice qa K qc) := hf.cell (by rw [← hK]; rfl)
  have HC6 := Lib.hid c6
  clear hf hps hpm hK HNF HK3 HS3 c6
  have c0 := HF.out.cell (j := 0) rfl
  have HBW : Hid (w.heap.size ≤ w4.heap.size) := Lib.hid HK4.out.size
  go_upto_region 5 with fail
  go_wp2_with fail
  clear c0
  have HM0 : Hid (cycM s cs ((List.range n).drop 0) [] = some CS) := Lib.hid HM.out
  go_loopg [4, 16] n (fun k y x wr => ∃ i : Nat, ∃ out oa oc, y = .slice oa (List.length out) oc ∧ x = .int .i64 (i : Int) ∧ i ≤ n ∧ k = n - i ∧ Hid (Keeps No w4 wr) ∧ Hid (wr.ownsRow w4.heap.size 3 1 (.slice oa (List.length out) oc) (List.length out) (irow out)) ∧ Hid (cycM s cs ((List.range n).drop i) out = some CS))
  case atStart => exact ⟨0, [], none, 0, rfl, rfl, Nat.zero_le _, rfl, Lib.hid (Keeps.refl _ _), Lib.hid (World.ownsRow_nil _ _ _ _), HM0⟩
  case round =>
    obtain ⟨i, out, oa, oc, rfl, rfl, hi, hg, HK, HO, HC⟩ := hrel
    by_cases hlt : i < n
    · have hlt' : (i : Int) < (n : Int) := by omega
      have i0 : (0 : Int) ≤ (i : Int) := by omega
      have hcm := HC.out
      rw [List.drop_eq_getElem_cons (by rw [List.length_range]; exact hlt), List.getElem_range, cycM] at hcm
      obtain ⟨kz, hkz, hc2⟩ := Option.bind_eq_some_iff.1 hcm
      obtain ⟨kn, hkn, hc3⟩ := Option.bind_eq_some_iff.1 hc2
      obtain ⟨rfl, hknl⟩ := ix_some.1 hkn
      obtain ⟨pl, hpl, hc4⟩ := Option.bind_eq_some_iff.1 hc3
      obtain ⟨row, hrow, hc5⟩ := Option.bind_eq_some_iff.1 hc4
      split at hc5
      case isFalse => cases hc5
      rename_i hol
      have HC5 := Lib.hid hc5
      have hkni : kn < K := by rw [← HKK.out]; exact hknl
      have kn0 : (0 : Int) ≤ (kn : Int) := by omega
      have kni : (kn : Int) < (K : Int) := by omega
      have hfw := HF.out.no HK.out
      have c3 : wr.cell? ⟨R, 3, none⟩ = some (.slice (some ⟨Pb, 0, none⟩) n n) := hfw.cell rfl
      have c0 : wr.cell? ⟨R, 0, none⟩ = some (.slice (some ⟨OB, 0, none⟩) n n) := hfw.cell rfl
      have c6 := HK.out.cell0 HC6.out
      have cp := hfw.pt.cell hkz
      obtain ⟨pt, hpt⟩ : ∃ pt, PSl[kn]? = some pt := ⟨_, List.getElem?_eq_getElem (by rw [HPS.out.len]; exact hkni)⟩
      obtain ⟨qb, qo, eqa, k1, k2, k3⟩ := HPS.out.at_ kn pt hpt
      have hptl : pt.l = pl := by
        have h := hpl
        rw [← HPM.out, List.getElem?_map, hpt] at h
        injection h
      subst eqa
      obtain ⟨pa, pn, pc, pll⟩ := pt
      simp only at hptl
      subst hptl
      have k1' : wr.cell? ⟨qb, qo + kn, none⟩ = some (.slice pa pn pc) := HK.out.cell0 k1
      have hqc := HPS.out.cap
      unfold maxLen at hqc
      have HPN : Hid (pll.length = pn) := Lib.hid k2.len
      obtain ⟨sr, hsr⟩ : ∃ sr, S[i]? = some sr := ⟨_, List.getElem?_eq_getElem (by rw [HS4.out.len]; exact hlt)⟩
      obtain ⟨cb, co, ec, g1, g2, g3⟩ := HS4.out.at_ i sr hsr
      injection ec with ec
      injection ec with ec1 ec2 _
      subst ec1 ec2
      obtain ⟨ra, rn, rc, rl⟩ := sr
      have hrl : rl = row := by
        have h := hrow
        rw [← HSC.out, List.getElem?_map, hsr] at h
        injection h
      subst hrl
      have g1' : wr.cell? ⟨OB, 0 + i, none⟩ = some (.slice ra rn rc) := HK.out.cell0 g1
      rw [Nat.zero_add] at g1'
      have HCT : Hid (∀ k, Calls Tryd.prog 22 #[.slice ra rn rc, .int .i64 (i : Int)] (wr.drewN k) fun e w' => e = .returned (.bool (decide ((i : Int) ∈ rl))) ∧ w' = wr.drewN k) := Lib.hid (fun k => contains_any (wr.drewN k) ⟨ra, rn, rc, rl⟩ (i : Int) (slDrew (g2.no HK.out) k) g3)
      obtain ⟨X, hX⟩ : ∃ X, decide ((i : Int) ∈ rl) = X := ⟨_, rfl⟩
      rw [hX] at HCT
      have HX := Lib.hid hX
      clear hcm hkz hc2 hkn hc3 hpl hc4 hrow hc5 hfw hpt k1 k2 k3 hsr g1 g2 g3 hX hknl
      by_cases hpn : 1 < pn
      · have hd : decide ((pn : Int) > 1) = true := decide_eq_true (by omega)
        have HYES : Hid (1 < pll.length ∨ (i : Int) ∈ rl) := Lib.hid (.inl (by rw [HPN.out]; exact hpn))
        clear hpn
        go_wp2_with fail
        go_quiet ((go_at_call 22; exact Calls.quiet_of_same (HCT.out _)))
        have HK7 : Hid (Keeps No w4 (wr.drewN nq)) := Lib.hid (HK.out.drewN nq)
        have HO7 : Hid ((wr.drewN nq).ownsRow w4.heap.size 3 1 (.slice oa (List.length out) oc) (List.length out) (irow out)) := Lib.hid HO.out
        generalize wr.drewN nq = w7 at HK7 HO7 ⊢
        clear c3 c0 c6 cp k1' g1' HK HO
        obtain ⟨on, hon⟩ : ∃ k, List.length out = k := ⟨_, rfl⟩
        have HON := Lib.hid hon
        have HO2 : Hid (w7.ownsRow w4.heap.size 3 1 (.slice oa on oc) on (irow out)) := Lib.hid (by rw [← hon]; exact HO7.out)
        have hs7 : w4.heap.size ≤ w7.heap.size := HK7.out.size
        rw [hon] at hol ⊢
        clear hon
        go_wp2_with (at_builtin; refine wpList_appG _ rfl (.tmp 45) (.tmp 47) rfl w4.heap.size (.slice oa on oc) on out (i : Int) w7.heap.size rfl (HO2.out.alloc _) rfl (heap_alloc_new _ _) hol (by simp; omega) ?_)
        intro g' cap w8 ho8 hg8 hgo8
        have hk8 : Keeps (fun q => (Value.slice oa on oc).ownBlock = some q) w7 w8 := ((Keeps.refl _ _).alloc _).grown hg8 (fun q e => .inl e)
        have HK8 : Hid (Keeps No w4 w8) := Lib.hid (HK7.out.trans hk8 (fun q hq e => by have := ownG_lo HO2.out q e; omega))
        have hoo : (out ++ [(i : Int)]).length = on + 1 := by rw [List.length_append, List.length_singleton, HON.out]
        have HO8 := Lib.hid ho8
        clear ho8 hg8 hgo8 hk8 hs7
        go_wp2_with fail
        go_roundg (n - (i + 1))
        case rel => exact ⟨i + 1, out ++ [(i : Int)], some ⟨g', 0, none⟩, cap, by rw [hoo], by go_num, by omega, rfl, HK8, by rw [hoo]; exact HO8, Lib.hid (by have h := HC5.out; rw [if_pos HYES.out] at h; exact h)⟩
        case measure => omega
      · have hd : decide ((pn : Int) > 1) = false := decide_eq_false (by omega)
        have HNOT : Hid (¬ 1 < pll.length) := Lib.hid (by rw [HPN.out]; exact hpn)
        clear hpn
        go_wp2_with fail
        go_quiet ((go_at_call 22; exact Calls.quiet_of_same (HCT.out _)))
        have HK7 : Hid (Keeps No w4 (wr.drewN nq)) := Lib.hid (HK.out.drewN nq)
        have HO7 : Hid ((wr.drewN nq).ownsRow w4.heap.size 3 1 (.slice oa (List.length out) oc) (List.length out) (irow out)) := Lib.hid HO.out
        generalize wr.drewN nq = w7 at HK7 HO7 ⊢
        clear c3 c0 c6 cp k1' g1' HK HO
        cases X with
        | true =>
          have HYES : Hid (1 < pll.length ∨ (i : Int) ∈ rl) := Lib.hid (.inr (of_decide_eq_true HX.out))
          obtain ⟨on, hon⟩ : ∃ k, List.length out = k := ⟨_, rfl⟩
          have HON := Lib.hid hon
          have HO2 : Hid (w7.ownsRow w4.heap.size 3 1 (.slice oa on oc) on (irow out)) := Lib.hid (by rw [← hon]; exact HO7.out)
          have hs7 : w4.heap.size ≤ w7.heap.size := HK7.out.size
          rw [hon] at hol ⊢
          clear hon
          go_wp2_with (at_builtin; refine wpList_appG _ rfl (.tmp 45) (.tmp 47) rfl w4.heap.size (.slice oa on oc) on out (i : Int) w7.heap.size rfl (HO2.out.alloc _) rfl (heap_alloc_new _ _) hol (by simp; omega) ?_)
          intro g' cap w8 ho8 hg8 hgo8
          have hk8 : Keeps (fun q => (Value.slice oa on oc).ownBlock = some q) w7 w8 := ((Keeps.refl _ _).alloc _).grown hg8 (fun q e => .inl e)
          have HK8 : Hid (Keeps No w4 w8) := Lib.hid (HK7.out.trans hk8 (fun q hq e => by have := ownG_lo HO2.out q e; omega))
          have hoo : (out ++ [(i : Int)]).length = on + 1 := by rw [List.length_append, List.length_singleton, HON.out]
          have HO8 := Lib.hid ho8
          clear ho8 hg8 hgo8 hk8 hs7
          go_wp2_with fail
          go_roundg (n - (i + 1))
          case rel => exact ⟨i + 1, out ++ [(i : Int)], some ⟨g', 0, none⟩, cap, by rw [hoo], by go_num, by omega, rfl, HK8, by rw [hoo]; exact HO8, Lib.hid (by have h := HC5.out; rw [if_pos HYES.out] at h; exact h)⟩
          case measure => omega
        | false =>
          have HNO : Hid (¬ (1 < pll.length ∨ (i : Int) ∈ rl)) := Lib.hid (by
            rintro (e | e)
            · exact HNOT.out e
            · exact of_decide_eq_false HX.out e)
          go_wp2_with fail
          go_roundg (n - (i + 1))
          case rel => exact ⟨i + 1, out, oa, oc, rfl, by go_num, by omega, rfl, HK7, HO7, Lib.hid (by have h := HC5.out; rw [if_neg HNO.out] at h; exact h)⟩
          case measure => omega
    · obtain rfl : i = n := by omega
      have hlt' : ¬ (i : Int) < (i : Int) := by omega
      have HE : Hid (out = CS) := Lib.hid (by
        have h := HC.out
        rw [List.drop_eq_nil_of_le (by rw [List.length_range]; exact Nat.le_refl _), cycM] at h
        injection h)
      go_wp2_with fail
      go_returns
      exact ⟨_, rfl, by rw [← HE.out]; exact own_mono HO.out HBW.out, HK4.out.trans HK.out (fun _ _ e => e)⟩
end Go.Proofs.YtkiimljdoebclaaDoor
