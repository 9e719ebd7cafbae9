/- Parts, walked. -/
import Derived.Test.YtkiimljdoebclaaDoorGrPw
import Derived.Test.YtkiimljdoebclaaDoorGrCallsW
namespace Go.Proofs.YtkiimljdoebclaaDoor
open Go.RowKit Gm Go.Maps
set_option linter.unusedVariables false
set_option linter.unusedSimpArgs false

theorem rowM_mem {l : List Int} {z : Int} (h : z ∈ rowM l) : z ∈ l := by
  unfold rowM at h
  have h1 := (isort_perm _).mem_iff.1 h
  have key : ∀ (l acc : List Int), z ∈ addM acc l → z ∈ acc ∨ z ∈ l := by
    intro l
    induction l with
    | nil => intro acc h; exact .inl h
    | cons a t ih =>
      intro acc h
      rw [addM] at h
      rcases ih _ h with h | h
      · split at h
        · exact .inl h
        · rcases List.mem_append.1 h with h | h
          · exact .inl h
          · exact .inr (by simp at h; simp [h])
      · exact .inr (List.mem_cons_of_mem _ h)
  rcases key l [] h1 with h | h
  · cases h
  · exact h
theorem calls_bd {p : Pg} (h : Plain p) : ∀ l ∈ callsM p.nm, l.length ≤ 1000000 ∧ ∀ z ∈ l, I64 z := by
  intro l hl
  unfold callsM at hl
  obtain ⟨r, hr, rfl⟩ := List.mem_map.1 hl
  refine ⟨?_, fun z hz => ?_⟩
  · have h1 := h.few r hr
    have h2 := addM_len r []
    unfold rowM
    rw [(isort_perm _).length_eq]
    simp at h2
    omega
  · obtain ⟨u, rfl, hu⟩ := h.rng r hr z (rowM_mem hz)
    have := h.n1
    unfold I64; omega
/-- calls, as what can be read. -/
theorem gcalls_any (p : Pg) (pb po : Nat) (w : World) (hp : p.at_ w pb po) (hok : PgOk w p) (h : Plain p) (ht : TkOk p) :
    Calls Tryd.prog 18 #[.pointer (some ⟨pb, po, none⟩)] w fun e w' => ∃ OB, e = .returned (.slice (some ⟨OB, 0, none⟩) p.fn p.fn) ∧ (∃ S, LsAt w' (some ⟨OB, 0, none⟩) p.fn p.fn S ∧ S.map Sl.l = callsM p.nm) ∧ Keeps No w w' := by
  refine (calls_any' p pb po w hp hok h ht).mono ?_
  rintro e w' ⟨SB, SE, OB, rfl, hco⟩
  exact ⟨OB, rfl, hco.lists h.n1 (calls_bd h), hco.kp⟩
set_option maxRecDepth 100000 in
set_option maxHeartbeats 25600000 in
theorem parts_any (p : Pg) (w : World) (fuel : Nat) (PS : List (List Int)) (hok : PgOk w p) (hl : Laid w) (h : Plain p) (ht : TkOk p) (hpo : p.ok = true) (hm : partsM p.fn (callsM p.nm) fuel = some PS) :
    Calls Tryd.prog 8 #[pv p] w fun e w' => ∃ a k cap, e = .returned (.slice a k cap) ∧ (∃ S, LsAt w' a k cap S ∧ S.map Sl.l = PS) ∧ Keeps No w w' := by
  unfold partsM at hm
  obtain ⟨s, hs, hm⟩ := Option.bind_eq_some_iff.1 hm
  split at hm
  case isTrue => cases hm
  rename_i hbad
  obtain ⟨W1, hW, hm⟩ := Option.bind_eq_some_iff.1 hm
  obtain ⟨q1, hq1, hm⟩ := Option.bind_eq_some_iff.1 hm
  have HOKP : Hid (okParts s.parts = true) := Lib.hid (by simpa using hbad)
  have HCH := Lib.hid (fun (W : World) (hk : Keeps No w W) => check_any p W (hok.no hk) (hl.no hk))
  rw [hpo] at HCH
  have HCA := Lib.hid (fun (W : World) (hk : Keeps No w W) (pb : Nat) (hp : p.at_ W pb 0) => gcalls_any p pb 0 W hp (hok.no hk) h ht)
  obtain ⟨n, hn⟩ : ∃ n, p.fn = n := ⟨_, rfl⟩
  obtain ⟨cs, hcs⟩ : ∃ cs, callsM p.nm = cs := ⟨_, rfl⟩
  have hn0 := h.n0
  have hn1 := h.n1
  rw [hn, hcs] at hs hW HCA
  rw [hn] at hn0 hn1 hm
  have HNF := Lib.hid (fun (W : World) OB S (hS : LsAt W (some ⟨OB, 0, none⟩) n n S) (hSc : S.map Sl.l = cs) => newFinder_any n fuel cs W (some ⟨OB, 0, none⟩) n S s hn0 hn1 hS hSc hs)
  have HW := Lib.hid hW
  have HQ1 := Lib.hid hq1
  have HM := Lib.hid hm
  clear hok hl h ht hpo hs hbad hW hq1 hm hn hcs
  go_enter Tryd.func8, Tryd.ntmps8
  go_upto_region 1 with fail
  have hp1 := pg_boxed p w 26
  have hk1 : Keeps No w (w.alloc (.cells #[.slice p.ga p.gn p.gc, .slice p.fa p.fn p.fc, .int .i64 p.main] 26)) := (Keeps.refl _ _).alloc _
  generalize w.alloc (.cells #[.slice p.ga p.gn p.gc, .slice p.fa p.fn p.fc, .int .i64 p.main] 26) = w1 at hp1 hk1 ⊢
  obtain ⟨PB, hPB⟩ : ∃ q, w.heap.size = q := ⟨_, rfl⟩
  rw [hPB] at hp1 ⊢
  have p0 : w1.cell? ⟨PB, 0, none⟩ = some (.slice p.ga p.gn p.gc) := hp1 0 _ rfl
  have p1 : w1.cell? ⟨PB, 1, none⟩ = some (.slice p.fa p.fn p.fc) := hp1 1 _ rfl
  have p2 : w1.cell? ⟨PB, 2, none⟩ = some (.int .i64 p.main) := hp1 2 _ rfl
  have HP1 := Lib.hid hp1
  have HK1 := Lib.hid hk1
  clear hp1 hk1 hPB
  go_wp2_with fail
  refine (HCH.out w1 HK1.out).mono ?_
  rintro e w2 ⟨rfl, hk2⟩
  have HK2 := Lib.hid (HK1.out.trans hk2 (fun _ _ e => e))
  have HP2 := Lib.hid (HP1.out.no hk2)
  clear hk2 p0 p1 p2 HCH HK1 HP1
  go_upto_region 3 with fail
  go_wp2_with fail
  refine (HCA.out w2 HK2.out PB HP2.out).mono ?_
  rintro e w3 ⟨OB, rfl, ⟨S, hS, hSc⟩, hk3⟩
  have HK3 := Lib.hid (HK2.out.trans hk3 (fun _ _ e => e))
  have HS3 := Lib.hid hS
  have HSC := Lib.hid hSc
  clear hS hSc hk3 HK2 HP2 HCA
  go_wp2_with fail
  refine (HNF.out w3 OB S HS3.out HSC.out).mono ?_
  rintro e w4 ⟨R, rfl, Wb, Lb, Pb, hfx⟩
  obtain ⟨oa, oc, qa, qc, hf⟩ := hfx
  have HF := Lib.hid hf
  have HK4 := Lib.hid (HK3.out.trans hf.kp (fun _ _ e => e))
  have HS4 := Lib.hid (HS3.out.no hf.kp)
  obtain ⟨PSl, hps, hpm⟩ := hf.sets HOKP.out
  have HPS := Lib.hid hps
  have HPM := Lib.hid hpm
  obtain ⟨K, hK⟩ : ∃ k, s.parts.length = k := ⟨_, rfl⟩
  have hK1 : K ≤ 1000000 := by rw [← hK]; exact (okParts_out HOKP.out).1
  rw [hK] at HPS
  have HKK := Lib.hid hK
  have c6 : w4.cell? ⟨R, 6, none⟩ = some (.slice qa K qc) := hf.cell (by rw [← hK]; rfl)
  have HC6 := Lib.hid c6
  clear hf hps hpm hK HNF HK3 HS3
  go_wp2_with (at_make; refine wpList_makeS _ rfl _ rfl K rfl hK1 ?_)
  intro w5 hr5 hk5
  obtain ⟨CB, hCB⟩ : ∃ q, w4.heap.size = q := ⟨_, rfl⟩
  rw [hCB] at hr5 ⊢
  have HR5 := Lib.hid hr5
  have HK5 := Lib.hid hk5
  have HCB : Hid (w4.heap.size ≤ CB) := Lib.hid (by rw [hCB]; exact Nat.le_refl _)
  have c6' := hk5.cell0 c6
  clear hr5 hk5 c6 hCB
  go_upto_region 5 with fail
  go_wp2_with (at_make; refine wpList_makeI _ rfl _ rfl K rfl hK1 ?_)
  intro w6 hr6 hk6
  obtain ⟨WB, hWB⟩ : ∃ q, w5.heap.size = q := ⟨_, rfl⟩
  rw [hWB] at hr6 ⊢
  have HPW : Hid (PW w4 w6 CB WB K (List.replicate K []) (List.replicate K 0)) := Lib.hid (by
    have rr : irow (List.replicate K 0) = List.replicate K (Value.int .i64 0) := by unfold irow; rw [List.map_replicate]
    refine ⟨HK5.out.trans hk6 (fun _ _ e => e), ⟨HCB.out, by rw [← hWB]; exact HK5.out.size⟩, ⟨List.replicate K (.slice none 0 0), (hk6.block _ (Array.getElem?_eq_some_iff.1 HR5.out).1 (fun e => e)).trans HR5.out, by simp, fun i l hl => ?_, fun i j u v q hu hv hij e1 => ?_⟩, by unfold RowAt; rw [rr]; exact hr6, by simp⟩
    · have hi : i < K := by have := (List.getElem?_eq_some_iff.1 hl).1; simpa using this
      obtain rfl : l = [] := List.eq_of_mem_replicate (List.mem_of_getElem? hl)
      exact ⟨.slice none 0 0, by rw [List.getElem?_replicate, if_pos hi], World.ownsRow_nil _ _ _ _, fun q e => by cases e⟩
    · obtain rfl := List.eq_of_mem_replicate (List.mem_of_getElem? hu)
      cases e1)
  clear hr6 hk6 hWB HR5 HK5 HCB c6'
  go_upto_region 6 with fail
  have c6 := HPW.out.kp.cell0 HC6.out
  go_wp2_with fail
  clear c6
  have hmm := @run_makeMap Tryd.prog
  have HW0 : Hid (psM s cs n 0 (s.parts.drop 0) ⟨List.replicate K [], List.replicate K 0, []⟩ = some W1) := Lib.hid (by
    have h := HW.out
    rw [HKK.out] at h
    exact h)
  clear HW
  go_loopg [43] K (fun k x wr => ∃ i : Nat, ∃ W : Ws, x = .int .i64 (i : Int) ∧ i ≤ K ∧ k = K - i ∧ Hid (PW w4 wr CB WB K W.callers W.waits) ∧ Hid (psM s cs n i (s.parts.drop i) W = some W1))
  case atStart => exact ⟨0, _, rfl, Nat.zero_le _, rfl, HPW, HW0⟩
  case round =>
    obtain ⟨i, W, rfl, hi, hg, HP, HPM2⟩ := hrel
    by_cases hlt : i < K
    · skip
      -- DEV<
      have hlt' : (i : Int) < (K : Int) := by omega
      have i0 : (0 : Int) ≤ (i : Int) := by omega
      obtain ⟨pt, hpt⟩ : ∃ pt, PSl[i]? = some pt := ⟨_, List.getElem?_eq_getElem (by rw [HPS.out.len]; exact hlt)⟩
      obtain ⟨qb, qo, rfl, k1, k2, k3⟩ := HPS.out.at_ i pt hpt
      obtain ⟨pa, pn, pc, pl⟩ := pt
      have hpl : s.parts[i]? = some pl := by rw [← HPM.out, List.getElem?_map, hpt]; rfl
      have hps := HPM2.out
      rw [show s.parts.drop i = pl :: s.parts.drop (i + 1) by
        rw [List.drop_eq_getElem_cons (by rw [HKK.out]; exact hlt)]
        congr 1
        exact (List.getElem?_eq_some_iff.1 hpl).2, psM] at hps
      obtain ⟨W2, hv, hps2⟩ := Option.bind_eq_some_iff.1 hps
      have HV := Lib.hid hv
      have HPS2 := Lib.hid hps2
      have k1' : wr.cell? ⟨qb, qo + i, none⟩ = some (.slice pa pn pc) := HP.out.kp.cell0 k1
      have HPT := Lib.hid k2
      have hpc := k2.cap
      unfold maxLen at hpc
      have HPN : Hid (pl.length = pn) := Lib.hid k2.len
      simp only at hpc k3
      have hqc := HPS.out.cap
      unfold maxLen at hqc
      clear hps hv hps2 k1 k2 hpt hpl
      have hmm2 := hmm
      go_wp2_with (refine wpList_insK mapII _ rfl (.tmp 48) (.tmp 49) (.const (.int .i64 1)) rfl wr.heap.size [] (i : Int) 1 rfl (MapK.made wr) (by unfold maxLen; simp) rfl rfl (by show I64 _; unfold I64; omega) (by show I64 1; unfold I64; omega) ?_)
      intro w7 hm7 ht7
      have hk7 : Keeps No wr w7 := ((Keeps.refl No wr).alloc _).turned ht7 (.inr (Nat.le_refl _))
      have HP7 := Lib.hid (HP.out.no hk7)
      obtain ⟨m, hm⟩ : ∃ q, wr.heap.size = q := ⟨_, rfl⟩
      rw [hm] at hm7 ⊢
      have HM7 := Lib.hid hm7
      have HMG : Hid (w4.heap.size ≤ m) := Lib.hid (by rw [← hm]; exact HP.out.kp.size)
      clear hm7 ht7 hk7 hm k1' hmm2
      go_upto_region 10 with fail
      go_wp2_with fail
      obtain ⟨wA, rfl⟩ : ∃ W, W = wr := ⟨_, rfl⟩
      have HV0 : Hid (vsM s cs n i (pl.drop 0) ⟨W.callers, W.waits, kput [] (i : Int) 1⟩ = some W2) := Lib.hid HV.out
      go_loopg [53] pn (fun k x wr => ∃ j : Nat, ∃ V : Ws, x = .int .i64 (j : Int) ∧ j ≤ pn ∧ k = pn - j ∧ Hid (PW w4 wr CB WB K V.callers V.waits) ∧ Hid (MapK mapII wr m V.seen) ∧ Hid (vsM s cs n i (pl.drop j) V = some W2))
      case atStart => exact ⟨0, ⟨W.callers, W.waits, kput [] (i : Int) 1⟩, rfl, Nat.zero_le _, rfl, HP7, HM7, HV0⟩
      case round =>
        obtain ⟨j, V, rfl, hj, hg2, HPV, HMV, HVV⟩ := hrel
        by_cases hjl : j < pn
        · have hjl' : (j : Int) < (pn : Int) := by omega
          have j0 : (0 : Int) ≤ (j : Int) := by omega
          obtain ⟨zb, zo, z, hz, ez, cz⟩ := HPT.out.get hjl
          simp only at hz ez cz
          subst ez
          have hvs := HVV.out
          rw [show pl.drop j = z :: pl.drop (j + 1) by
            rw [List.drop_eq_getElem_cons (by have := HPN.out; omega)]
            congr 1
            exact (List.getElem?_eq_some_iff.1 hz).2, vsM] at hvs
          obtain ⟨u, hu, hvs2⟩ := Option.bind_eq_some_iff.1 hvs
          obtain ⟨rfl, hun⟩ := ix_some.1 hu
          obtain ⟨row, hrow, hvs3⟩ := Option.bind_eq_some_iff.1 hvs2
          obtain ⟨V2, hed, hvs4⟩ := Option.bind_eq_some_iff.1 hvs3
          have HED := Lib.hid hed
          have HVS4 := Lib.hid hvs4
          have u0 : (0 : Int) ≤ (u : Int) := by omega
          have un : (u : Int) < (n : Int) := by omega
          obtain ⟨sr, hsr⟩ : ∃ sr, S[u]? = some sr := ⟨_, List.getElem?_eq_getElem (by rw [HS4.out.len]; exact hun)⟩
          obtain ⟨cb, co, ec, c1, c2, c3⟩ := HS4.out.at_ u sr hsr
          injection ec with ec
          injection ec with ec1 ec2 _
          subst ec1 ec2
          obtain ⟨ra, rn, rc, rl⟩ := sr
          have hrl : rl = row := by
            have h := hrow
            rw [← HSC.out, List.getElem?_map, hsr] at h
            injection h
          subst hrl
          have HRW := Lib.hid c2
          have HRN : Hid (rl.length = rn) := Lib.hid c2.len
          have hrc := c2.cap
          unfold maxLen at hrc
          simp only at hrc c3
          have cz' := HPV.out.kp.cell0 cz
          have c1' : wr.cell? ⟨OB, 0 + u, none⟩ = some (.slice ra rn rc) := HPV.out.kp.cell0 c1
          rw [Nat.zero_add] at c1'
          have c0 := HPV.out.kp.cell0 (HF.out.cell (j := 0) rfl)
          clear hvs hu hvs2 hvs3 hvs4 hed hrow hsr c1 c2 hz cz
          go_wp2_with fail
          clear cz' c1' c0
          obtain ⟨wB, rfl⟩ : ∃ W, W = wr := ⟨_, rfl⟩
          have HE0 : Hid (edgesM s n i (rl.drop 0) V = some V2) := Lib.hid HED.out
          go_loopg [65] rn (fun k x wr => ∃ l : Nat, ∃ Y : Ws, x = .int .i64 (l : Int) ∧ l ≤ rn ∧ k = rn - l ∧ Hid (PW w4 wr CB WB K Y.callers Y.waits) ∧ Hid (MapK mapII wr m Y.seen) ∧ Hid (edgesM s n i (rl.drop l) Y = some V2))
          case atStart => exact ⟨0, V, rfl, Nat.zero_le _, rfl, HPV, HMV, HE0⟩
          case round =>
            obtain ⟨l, Y, rfl, hll, hg3, HPY, HMY, HEY⟩ := hrel
            by_cases hl3 : l < rn
            · have hl3' : (l : Int) < (rn : Int) := by omega
              have l0 : (0 : Int) ≤ (l : Int) := by omega
              obtain ⟨eb, eo, y, hy, ey, cy⟩ := HRW.out.get hl3
              simp only at hy ey cy
              subst ey
              have hes := HEY.out
              rw [show rl.drop l = y :: rl.drop (l + 1) by
                rw [List.drop_eq_getElem_cons (by have := HRN.out; omega)]
                congr 1
                exact (List.getElem?_eq_some_iff.1 hy).2, edgesM] at hes
              obtain ⟨Y2, hed, hes2⟩ := Option.bind_eq_some_iff.1 hes
              rw [edgeM] at hed
              obtain ⟨t, ht, hed2⟩ := Option.bind_eq_some_iff.1 hed
              obtain ⟨rfl, htn⟩ := ix_some.1 ht
              obtain ⟨c, hc, hed3⟩ := Option.bind_eq_some_iff.1 hed2
              have HES2 := Lib.hid hes2
              have t0 : (0 : Int) ≤ (t : Int) := by omega
              have tn : (t : Int) < (n : Int) := by omega
              have cy' := HPY.out.kp.cell0 cy
              have hfy := HF.out.no HPY.out.kp
              have c3 : wr.cell? ⟨R, 3, none⟩ = some (.slice (some ⟨Pb, 0, none⟩) n n) := hfy.cell rfl
              have ct : wr.cell? ⟨Pb, t, none⟩ = some (.int .i64 c) := hfy.pt.cell hc
              clear hes hes2 hed hed2 ht hc hy cy hfy
              by_cases hk : (kget Y.seen c).getD 0 ≠ 0
              · rw [if_pos hk] at hed3
                injection hed3 with hed3
                subst hed3
                have hcI : I64 c := by
                  cases hg : kget Y.seen c with
                  | none => rw [hg] at hk; exact absurd rfl hk
                  | some v => exact (HMY.out.kok c v hg).1
                have hlk := look_int HMY.out hcI
                obtain ⟨gv, hgv⟩ : ∃ g, (kget Y.seen c).getD 0 = g := ⟨_, rfl⟩
                rw [hgv] at hlk hk
                have e0 : (gv == 0) = false := beq_eq_false_iff_ne.2 hk
                clear hk hgv hcI
                go_wp2_with fail
                go_roundg (rn - (l + 1))
                case rel => exact ⟨l + 1, Y, by go_num, by omega, rfl, HPY, HMY, HES2⟩
                case measure => omega
              · rw [if_neg hk] at hed3
                obtain ⟨cn, hcn, hed4⟩ := Option.bind_eq_some_iff.1 hed3
                obtain ⟨rfl, hcK⟩ := ix_some.1 hcn
                obtain ⟨rw1, hrw, hed5⟩ := Option.bind_eq_some_iff.1 hed4
                obtain ⟨x, hx, hed6⟩ := Option.bind_eq_some_iff.1 hed5
                split at hed6
                case isFalse => cases hed6
                rename_i hcond
                injection hed6 with hed6
                have HY2 := Lib.hid hed6
                have hcK2 : cn < K := by rw [← HPY.out.len.1]; exact hcK
                have cn0 : (0 : Int) ≤ (cn : Int) := by omega
                have cnK : (cn : Int) < (K : Int) := by omega
                have hcI : I64 (cn : Int) := by unfold I64; omega
                have hlk := look_int HMY.out hcI
                have hgv : (kget Y.seen (cn : Int)).getD 0 = 0 := by
                  cases h : (kget Y.seen (cn : Int)).getD 0 == 0 with
                  | true => exact beq_iff_eq.1 h
                  | false => exact absurd (beq_eq_false_iff_ne.1 h) hk
                rw [hgv] at hlk
                have HRW1 := Lib.hid hrw
                have HX := Lib.hid hx
                have HCND := Lib.hid hcond
                have hci := hcI
                have HCI := Lib.hid hci
                clear hed3 hcn hed4 hed5 hed6 hk hgv hrw hx hcond hci hcK
                go_wp2_with (at_mapUpdate; refine wpList_putK mapII _ rfl _ _ _ rfl m Y.seen (cn : Int) 1 rfl HMY.out (by unfold maxLen; have := HCND.out.2.2.2; omega) rfl rfl hcI (show I64 1 by unfold I64; omega) ?_)
                intro w8 hm8 ht8
                have hk8 : Keeps (fun q => q = m) wr w8 := (Keeps.refl (fun q => q = m) wr).turned ht8 (.inl rfl)
                have HP8 := Lib.hid (HPY.out.keep hk8 (fun q e => by rw [e]; exact HMG.out) (fun q e cs t f hc => HMY.out.ne hc e.symm))
                have HM8 := Lib.hid hm8
                clear hm8 ht8 hk8 cy' c3 ct hlk
                go_upto_region 19 with fail
                obtain ⟨ua, uc, r1, r2, r3⟩ := HP8.out.row HRW1.out
                obtain ⟨un2, hun2⟩ : ∃ k, rw1.length = k := ⟨_, rfl⟩
                rw [hun2] at r1 r2
                have HUN := Lib.hid hun2
                have HRO := Lib.hid r2
                have hs8 : w4.heap.size ≤ w8.heap.size := HP8.out.kp.size
                have hun9 : un2 ≤ 999999 := by rw [← hun2]; exact HCND.out.1
                clear hun2 r2 hcI
                go_wp2_with (at_builtin; refine wpList_appG _ rfl (.tmp 87) (.tmp 89) rfl w4.heap.size (.slice ua un2 uc) un2 rw1 (i : Int) w8.heap.size rfl (HRO.out.alloc _) rfl (heap_alloc_new _ _) hun9 (by simp; omega) ?_)
                intro g' cap w9 ho9 hg9 hgo9
                have hk9 : Keeps (fun q => (Value.slice ua un2 uc).ownBlock = some q) w8 w9 := ((Keeps.refl _ _).alloc _).grown hg9 (fun q e => .inl e)
                have hgo9' : (Value.slice ua un2 uc).ownBlock = some g' ∨ w8.heap.size ≤ g' := hgo9.imp id (fun e => by first | omega | (simp at e; omega))
                have HP9 : Hid (PW w4 (w9.setCell ⟨CB, cn, none⟩ (.slice (some ⟨g', 0, none⟩) (un2 + 1) cap)) CB WB K (Y.callers.set cn (rw1 ++ [(i : Int)])) Y.waits) := Lib.hid (by
                  have e := HUN.out
                  subst e
                  exact HP8.out.push HRW1.out r1 hk9 ho9 hgo9')
                have hcb9 : ∃ vs : List Value, w9.heap[CB]? = some (.cells vs.toArray 28 (0, 0)) ∧ vs.length = K := by
                  obtain ⟨vs, v1, v2, _⟩ := HP8.out.cb
                  exact ⟨vs, (hk9.block CB (Array.getElem?_eq_some_iff.1 v1).1 (fun e => by obtain ⟨cs, hc⟩ := own_typ HRO.out e; exact ne_type v1 hc (by decide) rfl)).trans v1, v2⟩
                obtain ⟨vs9, hcb9, hvl9⟩ := hcb9
                have c9 : ∃ y, w9.cell? ⟨CB, cn, none⟩ = some y := ⟨_, by rw [cell_of_row w9 CB cn _ _ _ hcb9, List.getElem?_toArray]; exact List.getElem?_eq_getElem (by omega)⟩
                obtain ⟨y9, c9⟩ := c9
                have f9 : w9.frozen? ⟨CB, cn, none⟩ = false := frozen_of_row w9 CB cn _ _ hcb9
                have HM9 : Hid (MapK mapII (w9.setCell ⟨CB, cn, none⟩ (.slice (some ⟨g', 0, none⟩) (un2 + 1) cap)) m (kput Y.seen (cn : Int) 1)) := Lib.hid (by
                  have h1 := HM8.out.keep hk9 (fun e => by obtain ⟨cs, hc⟩ := own_typ HRO.out e; exact HM8.out.ne hc rfl)
                  exact h1.keep (setC w9 ⟨CB, cn, none⟩ _) (h1.ne hcb9))
                clear ho9 hg9 hgo9 hk9 hgo9' hcb9 r1 r3 hs8
                go_upto_region 20 with fail
                generalize w9.setCell ⟨CB, cn, none⟩ (.slice (some ⟨g', 0, none⟩) (un2 + 1) cap) = w10 at HP9 HM9 ⊢
                have cw := HP9.out.wb.cell HX.out
                have fw := HP9.out.wb.frozen i
                obtain ⟨x1, hx1⟩ : ∃ q, x + 1 = q := ⟨_, rfl⟩
                have ex : IntKind.i64.wrap (x + 1) = x1 := by rw [IntKind.wrap_i64]; have := HCND.out; omega
                have HX1 := Lib.hid hx1
                clear hx1 c9 f9
                go_upto_region 21 with fail
                have HPN10 := Lib.hid (HP9.out.wait i x1)
                have HMN10 : Hid (MapK mapII (w10.setCell ⟨WB, i, none⟩ (.int .i64 x1)) m (kput Y.seen (cn : Int) 1)) := Lib.hid (HM9.out.keep (setC w10 ⟨WB, i, none⟩ _) (HM9.out.ne HP9.out.wb))
                generalize w10.setCell ⟨WB, i, none⟩ (.int .i64 x1) = w11 at HPN10 HMN10 ⊢
                clear cw fw ex
                go_wp2_with fail
                go_roundg (rn - (l + 1))
                case rel => exact ⟨l + 1, Y2, by go_num, by omega, rfl, Lib.hid (by rw [← HY2.out, HX1.out]; exact HPN10.out), Lib.hid (by rw [← HY2.out]; exact HMN10.out), HES2⟩
                case measure => omega
            · obtain rfl : l = rn := by omega
              have hl3' : ¬ (l : Int) < (l : Int) := by omega
              have HE : Hid (Y = V2) := Lib.hid (by
                have h := HEY.out
                rw [List.drop_eq_nil_of_le (by have := HRN.out; omega), edgesM] at h
                injection h)
              go_wp2_with fail
              go_roundg (pn - (j + 1))
              case rel => exact ⟨j + 1, V2, by go_num, by omega, rfl, Lib.hid (by rw [← HE.out]; exact HPY.out), Lib.hid (by rw [← HE.out]; exact HMY.out), HVS4⟩
              case measure => omega
        · obtain rfl : j = pn := by omega
          have hjl' : ¬ (j : Int) < (j : Int) := by omega
          have HE : Hid (V = W2) := Lib.hid (by
            have h := HVV.out
            rw [List.drop_eq_nil_of_le (by have := HPN.out; omega), vsM] at h
            injection h)
          go_wp2_with fail
          go_roundg (K - (i + 1))
          case rel => exact ⟨i + 1, W2, by go_num, by omega, rfl, Lib.hid (by rw [← HE.out]; exact HPV.out), HPS2⟩
          case measure => omega
      -- DEV>
    · obtain rfl : i = K := by omega
      have hlt' : ¬ (i : Int) < (i : Int) := by omega
      have HE : Hid (W = W1) := Lib.hid (by
        have h := HPM2.out
        rw [List.drop_eq_nil_of_le (by rw [HKK.out]; exact Nat.le_refl _), psM] at h
        injection h)
      have HPE : Hid (PW w4 wr CB WB i W1.callers W1.waits) := Lib.hid (by rw [← HE.out]; exact HP.out)
      clear HE HP HPM2 HPW HW0 hmm
      obtain ⟨wE, rfl⟩ : ∃ W, W = wr := ⟨_, rfl⟩
      go_upto_region 25 with fail
      have hk12 : Keeps No wE ((wE.alloc (.cells #[] 3)).alloc (.cells #[.slice (some ⟨wE.heap.size, 0, none⟩) 0 0] 59)) := ((Keeps.refl No wE).alloc _).alloc _
      have HQ12 : Hid (HQ ((wE.alloc (.cells #[] 3)).alloc (.cells #[.slice (some ⟨wE.heap.size, 0, none⟩) 0 0] 59)) wE.heap.size (wE.heap.size + 1) [] (some ⟨wE.heap.size, 0, none⟩) 0) := Lib.hid (by
        have h1 := heap_alloc_new (wE.alloc (.cells #[] 3)) (.cells #[.slice (some ⟨wE.heap.size, 0, none⟩) 0 0] 59)
        have h2 : ((wE.alloc (.cells #[] 3)).alloc (.cells #[.slice (some ⟨wE.heap.size, 0, none⟩) 0 0] 59)).heap[wE.heap.size]? = some (.cells #[] 3 (0, 0)) := by
          rw [Below.heap_alloc _ _ _ (by simp)]; exact heap_alloc_new _ _
        exact ⟨by simpa using h1, rfl, .inr ⟨wE.heap.size, 0, #[], rfl, Nat.le_refl _, h2, Nat.le_refl _, Nat.zero_le _, rfl, rfl⟩⟩)
      generalize (wE.alloc (.cells #[] 3)).alloc (.cells #[.slice (some ⟨wE.heap.size, 0, none⟩) 0 0] 59) = w12 at hk12 HQ12 ⊢
      have HK12 := Lib.hid hk12
      obtain ⟨NB, hNB⟩ : ∃ q, wE.heap.size + 1 = q := ⟨_, rfl⟩
      rw [hNB] at HQ12
      have hNB2 : wE.heap.size ≤ NB := by omega
      have HNB := Lib.hid hNB2
      rw [hNB]
      have c6 := (HPE.out.kp.trans hk12 (fun _ _ e => e)).cell0 HC6.out
      clear hk12 hNB hNB2
      go_wp2_with fail
      clear c6
      have HQ0 : Hid (firstM s W1 0 (s.parts.drop 0) [] = some q1) := Lib.hid HQ1.out
      go_loopg [108] i (fun k x wr => ∃ j : Nat, ∃ q : List Int, ∃ ha hc, x = .int .i64 (j : Int) ∧ j ≤ i ∧ k = i - j ∧ Hid (Keeps No wE wr) ∧ Hid (HQ wr wE.heap.size NB q ha hc) ∧ Hid (firstM s W1 j (s.parts.drop j) q = some q1))
      case atStart => exact ⟨0, [], _, _, rfl, Nat.zero_le _, rfl, HK12, HQ12, HQ0⟩
      case round =>
        obtain ⟨j, q, ha, hc, rfl, hj, hg2, HKJ, HHJ, HFJ⟩ := hrel
        by_cases hjl : j < i
        · have hjl' : (j : Int) < (i : Int) := by omega
          have j0 : (0 : Int) ≤ (j : Int) := by omega
          obtain ⟨pt, hpt⟩ : ∃ pt, PSl[j]? = some pt := ⟨_, List.getElem?_eq_getElem (by rw [HPS.out.len]; exact hjl)⟩
          obtain ⟨qb, qo, eqa, k1, k2, k3⟩ := HPS.out.at_ j pt hpt
          subst eqa
          obtain ⟨pa, pn, pc, pl⟩ := pt
          have hpl : s.parts[j]? = some pl := by rw [← HPM.out, List.getElem?_map, hpt]; rfl
          have hfs := HFJ.out
          rw [show s.parts.drop j = pl :: s.parts.drop (j + 1) by
            rw [List.drop_eq_getElem_cons (by rw [HKK.out]; exact hjl)]
            congr 1
            exact (List.getElem?_eq_some_iff.1 hpl).2, firstM] at hfs
          obtain ⟨x, hx, hfs2⟩ := Option.bind_eq_some_iff.1 hfs
          have HPJ := Lib.hid (HPE.out.no HKJ.out)
          have k1' : wr.cell? ⟨qb, qo + j, none⟩ = some (.slice pa pn pc) := HPJ.out.kp.cell0 k1
          have cw := HPJ.out.wb.cell hx
          have hpc := k2.cap
          unfold maxLen at hpc
          have HPT := Lib.hid k2
          have HPN : Hid (pl.length = pn) := Lib.hid k2.len
          simp only at hpc k3
          have hqc := HPS.out.cap
          unfold maxLen at hqc
          clear hfs hx hpt hpl k1 k2
          by_cases hx0 : x = 0
          · rw [if_pos hx0] at hfs2
            obtain ⟨z, hz, hfs3⟩ := Option.bind_eq_some_iff.1 hfs2
            obtain ⟨q2, hq2, hfs4⟩ := Option.bind_eq_some_iff.1 hfs3
            have e0 : (x == 0) = true := beq_iff_eq.2 hx0
            have hpn0 : 0 < pn := by rw [← HPN.out]; exact (List.getElem?_eq_some_iff.1 hz).1
            obtain ⟨zb, zo, z2, hz2, ez, cz⟩ := HPT.out.get hpn0
            simp only at hz2 ez cz
            subst ez
            rw [hz] at hz2
            injection hz2 with hz2
            subst hz2
            have cz' := HPJ.out.kp.cell0 cz
            rw [Nat.add_zero] at cz'
            have HPU := Lib.hid (heapPushN wr wE.heap.size NB q q2 z ha hc HHJ.out HKJ.out.size hq2)
            have HFS4 := Lib.hid hfs4
            have hpn0' : (0 : Int) < (pn : Int) := by omega
            clear hx0 hfs2 hz hfs3 hfs4 cz hpn0 hq2
            go_wp2_with fail
            refine HPU.out.mono ?_
            rintro e w13 ⟨rfl, ha2, hc2, h13, hk13⟩
            have HH13 := Lib.hid h13
            have HK13 : Hid (Keeps No wE w13) := Lib.hid (HKJ.out.trans hk13 (fun x hx e => by
              rcases e with e | e
              · have := HNB.out; omega
              · have := ownG_lo HHJ.out.own x e; omega))
            clear h13 hk13 HPU k1' cw cz' e0
            go_wp2_with fail
            go_roundg (i - (j + 1))
            case rel => exact ⟨j + 1, q2, ha2, hc2, by go_num, by omega, rfl, HK13, HH13, HFS4⟩
            case measure => omega
          · rw [if_neg hx0] at hfs2
            have e0 : (x == 0) = false := beq_eq_false_iff_ne.2 hx0
            have HFS4 := Lib.hid hfs2
            clear hx0 hfs2
            go_wp2_with fail
            go_roundg (i - (j + 1))
            case rel => exact ⟨j + 1, q, ha, hc, by go_num, by omega, rfl, HKJ, HHJ, HFS4⟩
            case measure => omega
        · obtain rfl : j = i := by omega
          have hjl' : ¬ (j : Int) < (j : Int) := by omega
          have HE : Hid (q = q1) := Lib.hid (by
            have h := HFJ.out
            rw [List.drop_eq_nil_of_le (by rw [HKK.out]; exact Nat.le_refl _), firstM] at h
            injection h)
          have HWB : Hid (WB < wE.heap.size ∧ Keeps No w4 wE ∧ w4.heap.size ≤ WB) := Lib.hid ⟨HPE.out.wb.lt, HPE.out.kp, HPE.out.lo.2⟩
          have HG0 : Hid (GC w4 wE wr WB NB W1.waits q1 [] ha hc (.slice none 0 0)) := Lib.hid ⟨HKJ.out.mono (fun _ _ e => e.elim), (HPE.out.no HKJ.out).wb, by rw [← HE.out]; exact HHJ.out, ⟨[], World.ownsRow_nil _ _ _ _, fun i l hl => by cases hl⟩⟩
          clear HFJ HE HKJ HHJ HQ0 HQ12 HK12
          obtain ⟨wF, rfl⟩ : ∃ W, W = wr := ⟨_, rfl⟩
          go_wp2_with fail
          go_loopg [17] fuel (fun k x wr => ∃ wt q out ha hc oa oc, x = .slice oa (List.length out) oc ∧ Hid (GC w4 wE wr WB NB wt q out ha hc (.slice oa (List.length out) oc)) ∧ Hid (goM s n W1.callers k wt q out = some PS) ∧ wt.length = j)
          case atStart => exact ⟨_, _, [], _, _, none, 0, rfl, HG0, HM, HPE.out.len.2⟩
          case round =>
            obtain ⟨wt, q, out, ha, hc, oa, oc, rfl, HG, HGM, hwtl⟩ := hrel
            have HWTL := Lib.hid hwtl
            clear hwtl
            have hgm := HGM.out
            cases gk with
            | zero => rw [goM] at hgm; cases hgm
            | succ f =>
              have cn : wr.cell? ⟨NB, 0, none⟩ = some (.slice ha q.length hc) := by rw [cell_of_row wr NB 0 _ _ _ HG.out.hq.row]; rfl
              rcases q with _ | ⟨z0q, qt⟩
              · rw [goM] at hgm
                injection hgm with hgm
                have HRES := Lib.hid hgm
                clear hgm HGM
                simp only [List.length_nil] at cn
                go_wp2_with fail
                refine (len_ready ha 0 hc wr).mono ?_
                rintro e w13 ⟨rfl, rfl⟩
                go_wp2_with fail
                go_returns
                obtain ⟨a, k, cap, e1, hS⟩ := HG.out.lists (HWB.out.2.1.trans HG.out.kp (fun x hx e => by have := HWB.out.2.2; omega))
                injection e1 with e2 e3 e4
                subst e2 e3 e4
                refine ⟨_, _, _, rfl, ?_, ?_⟩
                · rw [← HRES.out]; exact hS
                · exact HK4.out.trans (HWB.out.2.1.trans HG.out.kp (fun x hx e => by have := HWB.out.2.2; omega)) (fun _ _ e => e)
              · rw [goM] at hgm
                obtain ⟨⟨zz, qr⟩, hpop, hgm0⟩ := Option.bind_eq_some_iff.1 hgm
                simp only at hgm0
                obtain ⟨v, hv, hgm2⟩ := Option.bind_eq_some_iff.1 hgm0
                obtain ⟨rfl, hvn⟩ := ix_some.1 hv
                obtain ⟨kz, hkz, hgm3⟩ := Option.bind_eq_some_iff.1 hgm2
                obtain ⟨kn, hkn, hgm4⟩ := Option.bind_eq_some_iff.1 hgm3
                obtain ⟨rfl, hknl⟩ := ix_some.1 hkn
                obtain ⟨pl, hpl, hgm5⟩ := Option.bind_eq_some_iff.1 hgm4
                obtain ⟨row, hrow, hgm6⟩ := Option.bind_eq_some_iff.1 hgm5
                split at hgm6
                case isFalse => cases hgm6
                rename_i hol
                obtain ⟨A, hfr, hgm7⟩ := Option.bind_eq_some_iff.1 hgm6
                have HFR := Lib.hid hfr
                have HGM7 := Lib.hid hgm7
                have hkni : kn < j := by rw [← HKK.out]; exact hknl
                have kn0 : (0 : Int) ≤ (kn : Int) := by omega
                have kni : (kn : Int) < (j : Int) := by omega
                have vn0 : (0 : Int) ≤ (v : Int) := by omega
                have vnn : (v : Int) < (n : Int) := by omega
                have HKZ := Lib.hid hkz
                have HPL := Lib.hid hpl
                have HROW := Lib.hid hrow
                obtain ⟨kq, hkq⟩ : ∃ k, qt.length = k := ⟨_, rfl⟩
                have hlen : (z0q :: qt).length = kq + 1 := by rw [List.length_cons, hkq]
                have HPOP := Lib.hid (And.intro hpop hlen)
                have hown' := HG.out.hq.own
                rw [hlen] at hown'
                have HOQ := Lib.hid hown'
                rw [hlen] at cn
                have hd0 : decide (((kq + 1 : Nat) : Int) > 0) = true := decide_eq_true (by omega)
                have hd1 : (0 : Int) < ((kq + 1 : Nat) : Int) := by omega
                clear hgm hgm0 hgm2 hgm3 hgm4 hgm5 hgm6 hgm7 hv hkz hkn hpl hrow hfr HGM hpop hlen hown' hkq
                go_upto_region 33 with (go_at_call 20; refine (len_ready ha (kq + 1) hc wr).mono ?_; rintro e w13 ⟨rfl, rfl⟩)
                have hFw := HF.out.no (HWB.out.2.1.trans HG.out.kp (fun x hx e => by have := HWB.out.2.2; omega))
                have hold : ∀ x, x < w4.heap.size → ¬ (x = NB ∨ (Value.slice ha (kq + 1) hc).ownBlock = some x) := fun x hx e => by
                  have h1 := HWB.out.2.1.size
                  rcases e with e | e
                  · have := HNB.out; omega
                  · have := ownG_lo HOQ.out x e; omega
                have p3 : ∀ y : KS (fun x => x = NB ∨ (Value.slice ha (kq + 1) hc).ownBlock = some x) w13, y.W.cell? ⟨R, 3, none⟩ = some (.slice (some ⟨Pb, 0, none⟩) n n) := fun y => y.cell (hFw.cell rfl) (hold R HF.out.lt)
                have pp : ∀ y : KS (fun x => x = NB ∨ (Value.slice ha (kq + 1) hc).ownBlock = some x) w13, y.W.cell? ⟨Pb, v, none⟩ = some (.int .i64 (kn : Int)) := fun y => y.cell (hFw.pt.cell HKZ.out) (hold Pb HF.out.pt.lt)
                have hne : Nonempty (KS (fun x => x = NB ∨ (Value.slice ha (kq + 1) hc).ownBlock = some x) w13) := ⟨⟨w13, Keeps.refl _ _⟩⟩
                clear hFw hold cn
                refine Mix.wp_region_mix (fun W' => ∃ u : KS (fun x => x = NB ∨ (Value.slice ha (kq + 1) hc).ownBlock = some x) w13, W' = u.W) [] (by kernel_rfl) ?_
                have HV0 : Hid (Keeps No w13 w13.drew) := Lib.hid ((Keeps.refl _ w13).drew)
                generalize w13.drew = x0 at HV0 ⊢
                have HV1 : Hid (Keeps (fun x => x = NB ∨ (Value.slice ha (kq + 1) hc).ownBlock = some x) w13 x0) := Lib.hid (HV0.out.mono (fun _ _ e => e.elim))
                refine Mix.mix_seg 0 5 4 (by kernel_rfl) (by kernel_rfl) rfl rfl ⟨⟨x0, HV1.out⟩, rfl⟩ ?_
                simp only [List.drop_succ_cons, List.drop_zero, List.take_succ_cons, List.take_zero]
                repeat (go_big_quiet_step (fail))
                refine wpQuiet_nil ?_
                refine Mix.mix_one 5 3 (by kernel_rfl) rfl rfl ?_
                simp only [List.drop_succ_cons, List.drop_zero, List.take_succ_cons, List.take_zero]
                have HG2 := Lib.hid (HG.out.no HV0.out)
                have HTA := Lib.hid (takeN x0 wE.heap.size NB (z0q :: qt) qr (v : Int) ha hc HG2.out.hq HPOP.out.1)
                go_wp2_with fail
                refine HTA.out.mono ?_
                rintro e w14 ⟨rfl, h14, hk14⟩
                have HG3 := Lib.hid (HG2.out.heap HWB.out.1 HNB.out hk14 h14)
                rw [HPOP.out.2] at hk14
                have HV2 : Hid (Keeps (fun x => x = NB ∨ (Value.slice ha (kq + 1) hc).ownBlock = some x) w13 w14) := Lib.hid (HV1.out.trans hk14 (fun _ _ e => e))
                clear h14 hk14 HTA HG2 HG
                go_wp2_with fail
                refine ⟨.inr ⟨⟨w14, HV2.out⟩, rfl⟩, ?_⟩
                refine Mix.mix_seg 6 3 0 (by kernel_rfl) (by kernel_rfl) rfl rfl ⟨⟨w14, HV2.out⟩, rfl⟩ ?_
                simp only [List.drop_succ_cons, List.drop_zero, List.take_succ_cons, List.take_zero]
                repeat (go_big_quiet_step (fail))
                refine wpQuiet_nil ?_
                refine Mix.mix_end (by kernel_rfl) ?_
                clear p3 pp hne HV0 HV1 HV2
                obtain ⟨vso, o1, o2⟩ := HG3.out.ob
                have HO2 := Lib.hid o2
                obtain ⟨on, hon⟩ : ∃ k, List.length out = k := ⟨_, rfl⟩
                rw [hon] at o1 hol
                have HO1 := Lib.hid o1
                have HON := Lib.hid hon
                have HK14 : Hid (Keeps No w4 w14) := Lib.hid (HWB.out.2.1.trans HG3.out.kp (fun x hx e => by have := HWB.out.2.2; omega))
                obtain ⟨pt, hpt⟩ : ∃ pt, PSl[kn]? = some pt := ⟨_, List.getElem?_eq_getElem (by rw [HPS.out.len]; exact hkni)⟩
                obtain ⟨qb, qo, eqa, k1, k2, k3⟩ := HPS.out.at_ kn pt hpt
                have hptl : pt.l = pl := by
                  have h := HPL.out
                  rw [← HPM.out, List.getElem?_map, hpt] at h
                  injection h
                subst eqa
                obtain ⟨pa, pn, pc, pll⟩ := pt
                simp only at hptl
                subst hptl
                have k1' : w14.cell? ⟨qb, qo + kn, none⟩ = some (.slice pa pn pc) := HK14.out.cell0 k1
                have HPT := Lib.hid (And.intro k2 k3)
                have c6 := HK14.out.cell0 HC6.out
                have hqc := HPS.out.cap
                unfold maxLen at hqc
                have hs14 : wE.heap.size ≤ w14.heap.size := HG3.out.kp.size
                clear o1 o2 hpt k1 k2 k3
                rw [hon]
                clear hon
                go_wp2_with (at_builtin; refine wpList_appW _ rfl (.tmp 139) (.tmp 147) rfl wE.heap.size (.slice oa on oc) on vso (.slice pa pn pc) w14.heap.size rfl (HO1.out.alloc _) rfl (heap_alloc_new _ _) rfl hol (by simp; omega) ?_)
                intro g' cap w15 ho15 hg15 hgo15
                have hk15 : Keeps (fun x => (Value.slice oa on oc).ownBlock = some x) w14 w15 := ((Keeps.refl _ _).alloc _).grown hg15 (fun q e => .inl e)
                have HG4 : Hid (GC w4 wE w15 WB NB wt qr (out ++ [pll]) ha hc (.slice (some ⟨g', 0, none⟩) (on + 1) cap)) := Lib.hid (by
                  have e := HON.out
                  subst e
                  exact HG3.out.told (s := ⟨pa, pn, pc, pll⟩) vso HO1.out HO2.out HWB.out.1 hk15 ho15 ⟨rfl, HPT.out.1.len.symm, HPT.out.1, HPT.out.2⟩)
                clear ho15 hg15 hgo15 hk15 k1' c6 HO1 HO2 HK14 HPT HG3 hs14
                go_upto_region 35 with fail
                obtain ⟨vs, v1, v2, v3, v4⟩ := HPE.out.cb
                obtain ⟨ur, u1, u2, u3⟩ := v3 kn row HROW.out
                obtain ⟨ua, uc, rfl, _⟩ := own_form u2
                obtain ⟨rn, hrn⟩ : ∃ k, row.length = k := ⟨_, rfl⟩
                rw [hrn] at u1 u2 u3
                have hCBW : CB ≠ WB := ne_type v1 HPE.out.wb (by decide)
                have cr : w15.cell? ⟨CB, kn, none⟩ = some (.slice ua rn uc) := HG4.out.kp.cell (by rw [cell_of_row wE CB kn _ _ _ v1, List.getElem?_toArray]; exact u1) hCBW
                have HUO : Hid (wE.ownsRow w4.heap.size 3 1 (.slice ua rn uc) rn (irow row) ∧ ∀ q, (Value.slice ua rn uc).ownBlock = some q → q ≠ WB) := Lib.hid ⟨u2, u3⟩
                have HRNN := Lib.hid hrn
                clear v1 v2 v3 v4 u1 u2 u3 hrn hCBW
                go_wp2_with fail
                clear cr
                have HFR0 : Hid (freeM s (row.drop 0) (wt, qr) = some A) := Lib.hid HFR.out
                go_loopg [154] rn (fun k x wr => ∃ l : Nat, ∃ a1 a2 ha hc, x = .int .i64 (l : Int) ∧ l ≤ rn ∧ k = rn - l ∧ Hid (GC w4 wE wr WB NB a1 a2 (out ++ [pll]) ha hc (.slice (some ⟨g', 0, none⟩) (on + 1) cap)) ∧ Hid (freeM s (row.drop l) (a1, a2) = some A) ∧ a1.length = j)
                case atStart => exact ⟨0, wt, qr, ha, hc, rfl, Nat.zero_le _, rfl, HG4, HFR0, HWTL.out⟩
                case round =>
                  obtain ⟨l, a1, a2, hb, hd, rfl, hll, hg3, HGL, HFL, ha1⟩ := hrel
                  have HA1 := Lib.hid ha1
                  clear ha1
                  by_cases hl3 : l < rn
                  · have hl3' : (l : Int) < (rn : Int) := by omega
                    have l0 : (0 : Int) ≤ (l : Int) := by omega
                    obtain ⟨cz, hcz⟩ : ∃ c, row[l]? = some c := ⟨_, List.getElem?_eq_getElem (by have := HRNN.out; omega)⟩
                    obtain ⟨g2, cap2, eu, ce, hc1, hc2⟩ := own_cell HUO.out.1 hcz
                    injection eu with eu1 _ eu2
                    subst eu1 eu2
                    unfold maxLen at hc2
                    have ce' := HGL.out.kp.cell ce (HUO.out.2 g2 rfl)
                    have hfl := HFL.out
                    rw [show row.drop l = cz :: row.drop (l + 1) by
                      rw [List.drop_eq_getElem_cons (by have := HRNN.out; omega)]
                      congr 1
                      exact (List.getElem?_eq_some_iff.1 hcz).2, freeM] at hfl
                    obtain ⟨cn, hcn, hfl2⟩ := Option.bind_eq_some_iff.1 hfl
                    obtain ⟨rfl, hcnl⟩ := ix_some.1 hcn
                    obtain ⟨x, hx, hfl3⟩ := Option.bind_eq_some_iff.1 hfl2
                    simp only at hcnl hx hfl3
                    split at hfl3
                    case isFalse => cases hfl3
                    rename_i hxb
                    have hcnj : cn < j := by rw [← HA1.out]; exact hcnl
                    have cn0 : (0 : Int) ≤ (cn : Int) := by omega
                    have cnj : (cn : Int) < (j : Int) := by omega
                    have cw := HGL.out.rw_.cell hx
                    have fw := HGL.out.rw_.frozen cn
                    obtain ⟨x1, hx1⟩ : ∃ q, x - 1 = q := ⟨_, rfl⟩
                    have ex : IntKind.i64.wrap (x - 1) = x1 := by rw [IntKind.wrap_i64]; omega
                    rw [hx1] at hfl3
                    have HFL3 := Lib.hid hfl3
                    have HCNL := Lib.hid hcnl
                    clear hfl hcn hfl2 hfl3 hx hx1 hcz ce hcnl
                    go_upto_region 39 with fail
                    have HG5 := Lib.hid (HGL.out.wait HWB.out.1 cn x1)
                    generalize wr.setCell ⟨WB, cn, none⟩ (.int .i64 x1) = w16 at HG5 ⊢
                    have hsl : (a1.set cn x1).length = j := by rw [List.length_set]; exact HA1.out
                    have HSL := Lib.hid hsl
                    have cw2 : w16.cell? ⟨WB, cn, none⟩ = some (.int .i64 x1) := HG5.out.rw_.cell (List.getElem?_set_self HCNL.out)
                    clear cw fw ex ce' hsl HGL
                    by_cases hx0 : x1 = 0
                    · have e0 : (x1 == 0) = true := beq_iff_eq.2 hx0
                      have hf := HFL3.out
                      rw [if_pos hx0] at hf
                      obtain ⟨p2, hp2, hf2⟩ := Option.bind_eq_some_iff.1 hf
                      obtain ⟨z0, hz0, hf3⟩ := Option.bind_eq_some_iff.1 hf2
                      obtain ⟨q2, hq2, hf4⟩ := Option.bind_eq_some_iff.1 hf3
                      have HF4 := Lib.hid hf4
                      have HK16 : Hid (Keeps No w4 w16) := Lib.hid (HWB.out.2.1.trans HG5.out.kp (fun x hx e => by have := HWB.out.2.2; omega))
                      obtain ⟨pt2, hpt2⟩ : ∃ pt, PSl[cn]? = some pt := ⟨_, List.getElem?_eq_getElem (by rw [HPS.out.len]; exact hcnj)⟩
                      obtain ⟨qb2, qo2, eqa2, k1, k2, k3⟩ := HPS.out.at_ cn pt2 hpt2
                      injection eqa2 with eqa2
                      injection eqa2 with eqb eqo _
                      subst eqb eqo
                      obtain ⟨pa2, pn2, pc2, pl2⟩ := pt2
                      have hpl2 : pl2 = p2 := by
                        have h := hp2
                        rw [← HPM.out, List.getElem?_map, hpt2] at h
                        injection h
                      subst hpl2
                      have hpn0 : 0 < pn2 := by have := k2.len; simp only at this; rw [← this]; exact (List.getElem?_eq_some_iff.1 hz0).1
                      obtain ⟨zb, zo, z2, hz2, ez, cz2⟩ := k2.get hpn0
                      simp only at hz2 ez cz2
                      subst ez
                      rw [hz0] at hz2
                      injection hz2 with hz2
                      subst hz2
                      have k1' : w16.cell? ⟨qb, qo + cn, none⟩ = some (.slice (some ⟨zb, zo, none⟩) pn2 pc2) := HK16.out.cell0 k1
                      have cz3 := HK16.out.cell0 cz2
                      rw [Nat.add_zero] at cz3
                      have c6 := HK16.out.cell0 HC6.out
                      have hpc2 := k2.cap
                      unfold maxLen at hpc2
                      simp only at hpc2 k3
                      have hpn0' : (0 : Int) < (pn2 : Int) := by omega
                      have HPU := Lib.hid (heapPushN w16 wE.heap.size NB a2 q2 z0 hb hd HG5.out.hq HG5.out.kp.size hq2)
                      clear hx0 hf hp2 hf2 hz0 hf3 hf4 k1 k2 hpt2 cz2 hpn0 HFL3 hq2
                      go_wp2_with fail
                      refine HPU.out.mono ?_
                      rintro e w17 ⟨rfl, ha7, hc7, h17, hk17⟩
                      have HG7 := Lib.hid (HG5.out.heap HWB.out.1 HNB.out hk17 h17)
                      clear h17 hk17 HPU k1' cz3 c6 cw2 e0 HG5
                      go_wp2_with fail
                      go_roundg (rn - (l + 1))
                      case rel => exact ⟨l + 1, a1.set cn x1, q2, ha7, hc7, by go_num, by omega, rfl, HG7, HF4, HSL.out⟩
                      case measure => omega
                    · have e0 : (x1 == 0) = false := beq_eq_false_iff_ne.2 hx0
                      have hf := HFL3.out
                      rw [if_neg hx0] at hf
                      have HF4 := Lib.hid hf
                      clear hx0 hf HFL3
                      go_wp2_with fail
                      go_roundg (rn - (l + 1))
                      case rel => exact ⟨l + 1, a1.set cn x1, a2, hb, hd, by go_num, by omega, rfl, HG5, HF4, HSL.out⟩
                      case measure => omega
                  · obtain rfl : l = rn := by omega
                    have hl3' : ¬ (l : Int) < (l : Int) := by omega
                    have HE : Hid ((a1, a2) = A) := Lib.hid (by
                      have h := HFL.out
                      rw [List.drop_eq_nil_of_le (by have := HRNN.out; omega), freeM] at h
                      injection h)
                    have hoo : (out ++ [pll]).length = on + 1 := by rw [List.length_append, List.length_singleton, HON.out]
                    go_wp2_with fail
                    go_roundg f
                    case rel =>
                      refine ⟨a1, a2, out ++ [pll], hb, hd, some ⟨g', 0, none⟩, cap, by rw [hoo], by rw [hoo]; exact HGL, ?_, HA1.out⟩
                      have h := HGM7.out
                      rw [← HE.out] at h
                      exact Lib.hid h
                    case measure => exact Nat.lt_succ_self f
end Go.Proofs.YtkiimljdoebclaaDoor
