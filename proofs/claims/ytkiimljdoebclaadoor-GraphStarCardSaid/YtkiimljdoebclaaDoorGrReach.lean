/- Reach, walked. -/
import Derived.Test.YtkiimljdoebclaaDoorGrCyclic
import Derived.WalkMore
namespace Go.Proofs.YtkiimljdoebclaaDoor
open Go.RowKit Gm Go.Maps
set_option linter.unusedVariables false
set_option linter.unusedSimpArgs false

theorem own_take {w : World} {B g n oc A : Nat} {l : List Int} (h : w.ownsRow B 3 1 (.slice (some ⟨g, 0, none⟩) n oc) n (irow l)) (hA : A ≤ n) : w.ownsRow B 3 1 (.slice (some ⟨g, 0, none⟩) A oc) A (irow (l.take A)) := by
  have hl : l.length = n := by have := h.1; unfold irow at this; rw [List.length_map] at this; omega
  rcases h.2 with ⟨h1, _⟩ | ⟨g1, cap, cur, h1, h2, h3, h4, h5, h6, h7⟩
  · cases h1
  · cases h1
    refine ⟨by unfold irow; rw [List.length_map, List.length_take]; omega, .inr ⟨g, oc, cur, rfl, h2, h3, by omega, h5, h6, ?_⟩⟩
    have e : irow (l.take A) = (irow l).take A := by unfold irow; rw [List.map_take]
    rw [e, ← h7, List.take_take, Nat.mul_one, Nat.mul_one, Nat.min_eq_left hA]
/-- A row of one's own is appended, whatever its length. -/
theorem wpList_appO (w : World) {ops : Array Oper} {rest : List Oper} {o : Oper} {a : Act} {Q : Exit → Act → World → Prop} (hgd : o.guard = none) (s x : Operand) (ho : o.op = .call { callee := .builtin .append, args := #[s, x], argTypes := #[28, 28] })
    (B : Nat) (v : Value) (n : Nat) (l1 : List Int) (hs : a.eval s = v) (hown : w.ownsRow B 3 1 v n (irow l1)) (B2 : Nat) (u : Value) (m : Nat) (l2 : List Int) (hx : a.eval x = u) (hu : w.ownsRow B2 3 1 u m (irow l2))
    (T : Nat) (hT : n + m = T) (hn : T ≤ 1000000) (hB : B ≤ w.heap.size)
    (h : ∀ ga gc w', w'.ownsRow B 3 1 (.slice ga T gc) T (irow (l1 ++ l2)) → Keeps (fun q => v.ownBlock = some q) w w' → wpList Tryd.prog ops Q rest (a.put o.dst (.slice ga T gc)) w') : wpList Tryd.prog ops Q (o :: rest) a w := by
  have hl2 : l2.length = m := by have := hu.1; unfold irow at this; rw [List.length_map] at this; omega
  obtain ⟨ua, uc, rfl, _⟩ := own_form hu
  by_cases hm : m = 0
  · subst hm
    obtain rfl := List.length_eq_zero_iff.1 hl2
    obtain ⟨ga, gc, rfl, _⟩ := own_form hown
    obtain rfl : n = T := by omega
    exact wpList_app0 w hgd s x 28 3 ho Tryd.underlying28 infoI B _ n _ hown hs ua uc hx (h ga gc w (by rw [List.append_nil]; exact hown) (Keeps.refl _ _))
  · obtain ⟨nb, ncap, ne, _, nc1, nc2⟩ := own_cell hu (i := 0) (z := l2[0]'(by omega)) (List.getElem?_eq_getElem _)
    injection ne with ne1 _ ne2
    subst ne1 ne2
    refine wpList_appIs w hgd s x 28 ho Tryd.underlying28 B v n l1 l2 nb 0 m uc T hT hs hown hx hl2 (by omega) (fun j z hz => ?_) (by omega) hB (fun g' cap w' k1 k2 => h _ cap w' k1 ((Keeps.refl _ _).grown k2 (fun q e => .inl e)))
    rw [Nat.zero_add, World.ownsRow.cellAt hu j (by have := (List.getElem?_eq_some_iff.1 hz).1; omega)]
    exact irow_get hz
set_option maxRecDepth 100000 in
set_option maxHeartbeats 25600000 in
theorem reach_any (p : Pg) (w : World) (fuel : Nat) (al : List (Int × Int)) (hok : PgOk w p) (hl : Laid w) (h : Plain p) (ht : TkOk p) (hpo : p.ok = true) (hm : reachM p.fn p.nm p.fs fuel [p.main] [] = some al) (hal : al.length ≤ 13) :
    Calls Tryd.prog 11 #[pv p] w fun e w' => ∃ v, e = .returned v ∧ w'.ownsRow w.heap.size 3 1 v al.length (irow (isort (keys al))) ∧ Keeps No w w' := by
  have HCH := Lib.hid (fun (W : World) (hk : Keeps No w W) => check_any p W (hok.no hk) (hl.no hk))
  rw [hpo] at HCH
  have HBP := Lib.hid (fun (W : World) (hk : Keeps No w W) (pb : Nat) (hp : p.at_ W pb 0) => byParams_any p pb 0 W hp (hok.no hk) h.g h.ins ht)
  have HPC := Lib.hid (fun (W : World) (pb : Nat) (hp : p.at_ W pb 0) => pieces_none p pb 0 W hp h.g)
  have HRI := Lib.hid (fun (W : World) (m : Nat) (hm : MapK mapII W m al) => rising_any W m al hm hal)
  have HOK := Lib.hid hok
  have HPL := Lib.hid h
  have HM := Lib.hid hm
  obtain ⟨n, hn⟩ : ∃ n, p.fn = n := ⟨_, rfl⟩
  have hn0 := h.n0
  have hn1 := h.n1
  have HMI : Hid (I64 p.main) := Lib.hid hok.main
  obtain ⟨mi, hmi⟩ : ∃ x, p.main = x := ⟨_, rfl⟩
  rw [hmi] at HM
  rw [hn] at hn0 hn1 HM
  have HN := Lib.hid hn
  have HMM := Lib.hid hmi
  clear hok hl h ht hpo hm hal hn hmi
  go_enter Tryd.func11, Tryd.ntmps11
  go_upto_region 1 with fail
  have hp1 := pg_boxed p w 26
  have hk1 : Keeps No w (w.alloc (.cells #[.slice p.ga p.gn p.gc, .slice p.fa p.fn p.fc, .int .i64 p.main] 26)) := (Keeps.refl _ _).alloc _
  generalize w.alloc (.cells #[.slice p.ga p.gn p.gc, .slice p.fa p.fn p.fc, .int .i64 p.main] 26) = w1 at hp1 hk1 ⊢
  obtain ⟨PB, hPB⟩ : ∃ q, w.heap.size = q := ⟨_, rfl⟩
  have HSZ : Hid (w.heap.size ≤ w1.heap.size) := Lib.hid hk1.size
  rw [hPB] at hp1 ⊢
  have p0 : w1.cell? ⟨PB, 0, none⟩ = some (.slice p.ga p.gn p.gc) := hp1 0 _ rfl
  have p1 : w1.cell? ⟨PB, 1, none⟩ = some (.slice p.fa p.fn p.fc) := hp1 1 _ rfl
  have p2 : w1.cell? ⟨PB, 2, none⟩ = some (.int .i64 p.main) := hp1 2 _ rfl
  have HP1 := Lib.hid hp1
  have HK1 := Lib.hid hk1
  clear hp1 hk1 hPB
  go_step3
  go_wp2_with fail
  refine (HCH.out w1 HK1.out).mono ?_
  rintro e w2 ⟨rfl, hk2⟩
  have HK2 := Lib.hid (HK1.out.trans hk2 (fun _ _ e => e))
  have HP2 := Lib.hid (HP1.out.no hk2)
  clear hk2 p0 p1 p2 HCH HK1 HP1
  go_upto_region 3 with fail
  go_wp2_with fail
  refine (HBP.out w2 HK2.out PB HP2.out).mono ?_
  rintro e w3 ⟨ta0, tk0, tc0, rfl, hk3⟩
  have HK3 := Lib.hid (HK2.out.trans hk3 (fun _ _ e => e))
  have HP3 := Lib.hid (HP2.out.no hk3)
  clear hk3 HK2 HP2 HBP
  unfold sev
  go_upto_region 4 with fail
  have hmm := @run_makeMap Tryd.prog
  go_upto_region 5 with fail
  have hk4 : Keeps No w3 ((w3.alloc (.cells #[.slice ta0 tk0 tc0, .slice none 0 0, .slice none 0 0, .slice none 0 0, .slice none 0 0, .slice none 0 0, .slice none 0 0] 63)).alloc (.map #[] 0)) := ((Keeps.refl No w3).alloc _).alloc _
  have hm4 : MapK mapII ((w3.alloc (.cells #[.slice ta0 tk0 tc0, .slice none 0 0, .slice none 0 0, .slice none 0 0, .slice none 0 0, .slice none 0 0, .slice none 0 0] 63)).alloc (.map #[] 0)) (w3.heap.size + 1) [] := by
    have h := MapK.made (M := mapII) (w3.alloc (.cells #[.slice ta0 tk0 tc0, .slice none 0 0, .slice none 0 0, .slice none 0 0, .slice none 0 0, .slice none 0 0, .slice none 0 0] 63))
    simpa using h
  generalize (w3.alloc (.cells #[.slice ta0 tk0 tc0, .slice none 0 0, .slice none 0 0, .slice none 0 0, .slice none 0 0, .slice none 0 0, .slice none 0 0] 63)).alloc (.map #[] 0) = w4 at hk4 hm4 ⊢
  obtain ⟨m, hm⟩ : ∃ q, w3.heap.size + 1 = q := ⟨_, rfl⟩
  rw [hm] at hm4 ⊢
  have HMG : Hid (w.heap.size ≤ m ∧ PB < m) := Lib.hid (by
    have h1 := HK3.out.size
    have h2 := World.block_lt_of_cell? w3 _ (HP3.out 1 _ rfl)
    simp only at h2
    omega)
  have HM4 := Lib.hid hm4
  have HK4 := Lib.hid (HK3.out.trans hk4 (fun _ _ e => e))
  have HP4 := Lib.hid (HP3.out.no hk4)
  obtain ⟨TB, hTB⟩ : ∃ q, w3.heap.size = q := ⟨_, rfl⟩
  rw [hTB]
  clear hk4 hm4 hm hTB hmm HK3 HP3
  have hmn : p.main = mi := HMM.out
  have p2 : ∀ u : KS No w4, u.W.cell? ⟨PB, 2, none⟩ = some (.int .i64 mi) := fun u => u.cell (by have h := HP4.out 2 _ rfl; rw [hmn] at h; exact h) (fun e => e)
  have hne : Nonempty (KS No w4) := ⟨⟨w4, Keeps.refl _ _⟩⟩
  clear hmn
  refine Mix.wp_region_mix (fun W' => ∃ u : KS No w4, W' = u.W) [] (by kernel_rfl) ?_
  have HV0 : Hid (Keeps No w4 w4.drew) := Lib.hid ((Keeps.refl _ w4).drew)
  generalize w4.drew = x0 at HV0 ⊢
  refine Mix.mix_seg 1 2 4 (by kernel_rfl) (by kernel_rfl) rfl rfl ⟨⟨x0, HV0.out⟩, rfl⟩ ?_
  simp only [List.drop_succ_cons, List.drop_zero, List.take_succ_cons, List.take_zero]
  repeat (go_big_quiet_step (fail))
  refine wpQuiet_nil ?_
  clear p2
  refine Mix.mix_two 0 3 3 (by kernel_rfl) rfl rfl rfl ?_ ?_
  case' refine_1 =>
        simp only [List.drop_succ_cons, List.drop_zero, List.take_succ_cons, List.take_zero]
        go_wp2_with fail
        refine (HPC.out x0 PB (HP4.out.no HV0.out)).mono ?_
        rintro e x1 ⟨rfl, hkx⟩
        have HKX1 := Lib.hid (HV0.out.trans hkx (fun _ _ e => e))
        clear hkx
        go_wp2_with fail
        refine ⟨.inr ⟨⟨x1, HKX1.out⟩, rfl⟩, ?_⟩
        refine Mix.mix_one 3 2 (by kernel_rfl) rfl rfl ?_
        simp only [List.drop_succ_cons, List.drop_zero, List.take_succ_cons, List.take_zero]
        go_wp2_with fail
        have HKX := Lib.hid (HKX1.out.alloc (.cells #[.int .i64 mi] 3))
        have HQB0 : Hid ((x1.alloc (.cells #[.int .i64 mi] 3)).heap[x1.heap.size]? = some (.cells #[.int .i64 mi] 3 (0, 0))) := Lib.hid (heap_alloc_new _ _)
        generalize x1.alloc (.cells #[.int .i64 mi] 3) = x2 at HKX HQB0 ⊢
        obtain ⟨QB, hQB⟩ : ∃ q, x1.heap.size = q := ⟨_, rfl⟩
        rw [hQB] at HQB0 ⊢
        have HQB := HQB0
        clear hQB HKX1 HQB0
        refine ⟨.inr ⟨⟨x2, HKX.out⟩, rfl⟩, ?_⟩
        refine Mix.mix_one 4 1 (by kernel_rfl) rfl rfl ?_
        simp only [List.drop_succ_cons, List.drop_zero, List.take_succ_cons, List.take_zero]
        go_wp2_with (at_builtin; refine wpList_appG _ rfl (.tmp 14) (.tmp 17) rfl w4.heap.size (.slice none 0 0) 0 [] mi QB rfl (World.ownsRow_nil _ _ _ _) rfl HQB.out (by omega) HKX.out.size ?_)
        intro g' cap x3 ho hg hgo
        have HK5 : Hid (Keeps No w4 x3) := Lib.hid (HKX.out.grown hg (fun q e => by cases e))
        have HO5 := Lib.hid ho
        clear ho hg hgo HQB HKX
        go_wp2_with fail
        refine ⟨.inr ⟨⟨x3, HK5.out⟩, rfl⟩, ?_⟩
        refine Mix.mix_seg 5 1 0 (by kernel_rfl) (by kernel_rfl) rfl rfl ⟨⟨x3, HK5.out⟩, rfl⟩ ?_
        simp only [List.drop_succ_cons, List.drop_zero, List.take_succ_cons, List.take_zero]
        repeat (go_big_quiet_step (fail))
        refine wpQuiet_nil ?_
        refine Mix.mix_end (by kernel_rfl) ?_
  case' refine_2 =>
        simp only [List.drop_succ_cons, List.drop_zero, List.take_succ_cons, List.take_zero]
        go_wp2_with fail
        have HKX1 := Lib.hid (HV0.out.alloc (.cells #[.int .i64 mi] 3))
        have HQB0 : Hid ((x0.alloc (.cells #[.int .i64 mi] 3)).heap[x0.heap.size]? = some (.cells #[.int .i64 mi] 3 (0, 0))) := Lib.hid (heap_alloc_new _ _)
        generalize x0.alloc (.cells #[.int .i64 mi] 3) = x1 at HKX1 HQB0 ⊢
        obtain ⟨QB, hQB⟩ : ∃ q, x0.heap.size = q := ⟨_, rfl⟩
        rw [hQB] at HQB0 ⊢
        clear hQB
        refine ⟨.inr ⟨⟨x1, HKX1.out⟩, rfl⟩, ?_⟩
        refine Mix.mix_one 0 2 (by kernel_rfl) rfl rfl ?_
        simp only [List.drop_succ_cons, List.drop_zero, List.take_succ_cons, List.take_zero]
        go_wp2_with fail
        refine (HPC.out x1 PB (HP4.out.no HKX1.out)).mono ?_
        rintro e x2 ⟨rfl, hkx⟩
        have HKX := Lib.hid (HKX1.out.trans hkx (fun _ _ e => e))
        have HQB := Lib.hid ((hkx.block QB (Array.getElem?_eq_some_iff.1 HQB0.out).1 (fun e => e)).trans HQB0.out)
        clear hkx HKX1 HQB0
        go_wp2_with fail
        refine ⟨.inr ⟨⟨x2, HKX.out⟩, rfl⟩, ?_⟩
        refine Mix.mix_one 4 1 (by kernel_rfl) rfl rfl ?_
        simp only [List.drop_succ_cons, List.drop_zero, List.take_succ_cons, List.take_zero]
        go_wp2_with (at_builtin; refine wpList_appG _ rfl (.tmp 14) (.tmp 17) rfl w4.heap.size (.slice none 0 0) 0 [] mi QB rfl (World.ownsRow_nil _ _ _ _) rfl HQB.out (by omega) HKX.out.size ?_)
        intro g' cap x3 ho hg hgo
        have HK5 : Hid (Keeps No w4 x3) := Lib.hid (HKX.out.grown hg (fun q e => by cases e))
        have HO5 := Lib.hid ho
        clear ho hg hgo HQB HKX
        go_wp2_with fail
        refine ⟨.inr ⟨⟨x3, HK5.out⟩, rfl⟩, ?_⟩
        refine Mix.mix_seg 5 1 0 (by kernel_rfl) (by kernel_rfl) rfl rfl ⟨⟨x3, HK5.out⟩, rfl⟩ ?_
        simp only [List.drop_succ_cons, List.drop_zero, List.take_succ_cons, List.take_zero]
        repeat (go_big_quiet_step (fail))
        refine wpQuiet_nil ?_
        refine Mix.mix_end (by kernel_rfl) ?_
  all_goals
    clear hne HV0 HPC
    have HM5 := Lib.hid (HM4.out.keep HK5.out (fun e => e))
    have HK50 : Hid (Keeps (fun q => q = m) w4 x3) := Lib.hid (HK5.out.mono (fun _ _ e => e.elim))
    clear HK5
    go_wp2_with fail
    go_step3
    go_wp2_with fail
    go_loopg [5] fuel (fun k y wr => ∃ todo : List Int, ∃ ta tc al0, y = .slice ta (List.length todo) tc ∧ Hid (Keeps (fun q => q = m) w4 wr) ∧ Hid (MapK mapII wr m al0) ∧ Hid (wr.ownsRow w4.heap.size 3 1 (.slice ta (List.length todo) tc) (List.length todo) (irow todo)) ∧ Hid (reachM n p.nm p.fs k todo al0 = some al))
    case' atStart => exact ⟨[mi], some ⟨g', 0, none⟩, cap, [], rfl, HK50, HM5, HO5, HM⟩
    case' round =>
      obtain ⟨todo, ta, tc, al0, rfl, HKR, HMR, HOR, HRM⟩ := hrel
      have hrm := HRM.out
      cases gk with
      | zero => rw [reachM] at hrm; cases hrm
      | succ f =>
        rw [reachM] at hrm
        rcases List.eq_nil_or_concat todo with rfl | ⟨init, z, rfl⟩
        · simp only [List.getLast?_nil] at hrm
          injection hrm with hrm
          subst hrm
          clear HRM
          simp only [List.length_nil]
          go_wp2_with fail
          refine (HRI.out wr m HMR.out).mono ?_
          rintro e w6 ⟨v, rfl, ho, hk⟩
          obtain ⟨aa, ca, rfl, _⟩ := own_form ho
          have HO6 := Lib.hid (And.intro ho hk)
          clear ho hk HRI
          go_wp2_with fail
          rw [Exit.noGoto_ret]
          go_returns
          have hk0 : Keeps No w wr := HK4.out.trans HKR.out (fun q hq e => by have := HMG.out.1; omega)
          exact ⟨_, rfl, own_mono HO6.out.1 hk0.size, hk0.trans HO6.out.2 (fun _ _ e => e)⟩
        · rw [List.concat_eq_append] at hrm
          rw [List.concat_eq_append] at HOR
          rw [List.concat_eq_append]
          simp only [List.getLast?_append, List.getLast?_singleton, Option.some_or, List.dropLast_concat] at hrm
          obtain ⟨ln, hln⟩ : ∃ k, init.length = k := ⟨_, rfl⟩
          have hll : (init ++ [z]).length = ln + 1 := by simp [hln]
          rw [hll] at HOR ⊢
          obtain ⟨g, cap2, ev, cz, hc1, hc2⟩ := own_cell HOR.out (i := ln) (z := z) (by rw [List.getElem?_append_right (by omega), hln]; simp)
          injection ev with ev1 _ ev2
          subst ev1 ev2
          unfold maxLen at hc2
          have HOT : Hid (wr.ownsRow w4.heap.size 3 1 (.slice (some ⟨g, 0, none⟩) ln tc) ln (irow init)) := Lib.hid (by
            have h := own_take HOR.out (A := ln) (by omega)
            rw [show (init ++ [z]).take ln = init by rw [← hln]; simp] at h
            exact h)
          have e1 : IntKind.i64.wrap (((ln + 1 : Nat) : Int) - 1) = (ln : Int) := by rw [IntKind.wrap_i64]; omega
          have ln0 : (0 : Int) ≤ (ln : Int) := by omega
          have ln1 : (ln : Int) < ((ln + 1 : Nat) : Int) := by omega
          have lgt : decide (((ln + 1 : Nat) : Int) > 0) = true := decide_eq_true (by omega)
          have ltc : (ln : Int) ≤ (tc : Int) := by omega
          have HLN := Lib.hid hln
          have HRM2 := Lib.hid hrm
          clear hrm hll HRM
          by_cases hk : (kget al0 z).getD 0 ≠ 0
          · have hrm := HRM2.out
            rw [if_pos hk] at hrm
            have HRM3 := Lib.hid hrm
            have hzI : I64 z := by
              cases hg : kget al0 z with
              | none => rw [hg] at hk; exact absurd rfl hk
              | some v => exact (HMR.out.kok z v hg).1
            have hlk := look_int HMR.out hzI
            obtain ⟨gv, hgv⟩ : ∃ g, (kget al0 z).getD 0 = g := ⟨_, rfl⟩
            rw [hgv] at hlk hk
            have e0 : (gv != 0) = true := bne_iff_ne.2 hk
            clear hk hgv hzI hrm hln
            go_wp2_with fail
            go_roundg f
            case rel => exact ⟨init, some ⟨g, 0, none⟩, tc, al0, by rw [HLN.out], HKR, HMR, by rw [HLN.out]; exact HOT, HRM3⟩
            case measure => exact Nat.lt_succ_self f
          · have hrm := HRM2.out
            rw [if_neg hk] at hrm
            obtain ⟨v, hv, hrm2⟩ := Option.bind_eq_some_iff.1 hrm
            obtain ⟨rfl, hvn⟩ := ix_some.1 hv
            obtain ⟨a, ha, hrm3⟩ := Option.bind_eq_some_iff.1 hrm2
            obtain ⟨b, hbb, hrm4⟩ := Option.bind_eq_some_iff.1 hrm3
            split at hrm4
            case isFalse => cases hrm4
            rename_i hcond
            have HRM3 := Lib.hid hrm4
            have HCND := Lib.hid hcond
            have vn0 : (0 : Int) ≤ (v : Int) := by omega
            have vnn : (v : Int) < (n : Int) := by omega
            have hvI : I64 (v : Int) := by unfold I64; omega
            have hlk := look_int HMR.out hvI
            have hgv : (kget al0 (v : Int)).getD 0 = 0 := by
              cases h : (kget al0 (v : Int)).getD 0 == 0 with
              | true => exact beq_iff_eq.1 h
              | false => exact absurd (beq_eq_false_iff_ne.1 h) hk
            rw [hgv] at hlk
            obtain ⟨fb, fo, fx, hf, hfa, hat, hfo⟩ := Pg.fget HOK.out (i := v) (by rw [HN.out]; exact hvn)
            have hfm := List.mem_of_getElem? hf
            have hL : fx.ins.flatMap namedX = a := by
              have h := ha
              unfold Pg.nm at h
              rw [List.getElem?_map, hf] at h
              injection h
            have hM : fx.ins.flatMap funcsX = b := by
              have h := hbb
              unfold Pg.fs at h
              rw [List.getElem?_map, hf] at h
              injection h
            have hk0 : Keeps No w wr := HK4.out.trans HKR.out (fun q hq e => by have := HMG.out.1; omega)
            have HG : Hid (∀ W, Keeps No w W → Calls Tryd.prog 25 #[.pointer (some ⟨fb, fo + v * 6, none⟩)] W (FactsPost W a b)) := Lib.hid (fun W hk => by
              rw [← hL, ← hM]
              exact gather_any fx fb (fo + v * 6) W (hat.no hk) (hfo.no hk) (fun x hx => HPL.out.ops x (Pg.ins_mem hfm hx)) (Nat.le_trans (Pg.ins_len hfm) HPL.out.ins))
            have p1 : wr.cell? ⟨PB, 1, none⟩ = some (.slice (some ⟨fb, fo, none⟩) n p.fc) := by
              have h := HP4.out 1 _ rfl
              rw [HN.out, hfa] at h
              exact HKR.out.cell h (fun e => by have := HMG.out.2; simp only at e; omega)
            have HP1 := Lib.hid p1
            have hfc : n ≤ p.fc ∧ p.fc ≤ 9223372036854775807 := by have := HOK.out.fcap; rw [HN.out] at this; unfold maxLen at this; exact this
            obtain ⟨fc, hfcc⟩ : ∃ c, p.fc = c := ⟨_, rfl⟩
            rw [hfcc] at p1 HP1 hfc
            have HK0 := Lib.hid hk0
            clear hk hrm hv hrm2 ha hrm3 hbb hrm4 hcond hgv hf hfa hat hfo hfm hL hM hk0 hfcc hln p1
            go_wp2_with (at_mapUpdate; refine wpList_putK mapII _ rfl _ _ _ rfl m al0 (v : Int) 1 rfl HMR.out (by unfold maxLen; have := HCND.out.2; omega) rfl rfl hvI (show I64 1 by unfold I64; omega) ?_)
            intro w6 hm6 ht6
            have hk6 : Keeps (fun q => q = m) wr w6 := (Keeps.refl (fun q => q = m) wr).turned ht6 (.inl rfl)
            have HM6 := Lib.hid hm6
            have HKR6 := Lib.hid (HKR.out.trans hk6 (fun _ _ e => e))
            have HK6 : Hid (Keeps No w w6) := Lib.hid (HK0.out.trans hk6 (fun q hq e => by have := HMG.out.1; omega))
            have HO6 : Hid (w6.ownsRow w4.heap.size 3 1 (.slice (some ⟨g, 0, none⟩) ln tc) ln (irow init)) := Lib.hid (own_kept HOT.out (fun q hq => hk6.block q (ownG_lt HOT.out q hq) (fun e => by obtain ⟨cs, hc⟩ := own_typ HOT.out hq; exact HMR.out.ne hc e.symm)))
            have p1 : w6.cell? ⟨PB, 1, none⟩ = some (.slice (some ⟨fb, fo, none⟩) n fc) := hk6.cell HP1.out (fun e => by have := HMG.out.2; simp only at e; omega)
            clear hm6 ht6 hk6 hlk cz
            go_wp2_with fail
            refine (HG.out w6 HK6.out).mono ?_
            rintro e w7 ⟨sa, sc, ua, uc, rfl, ho1, ho2, hdis, hk7⟩
            obtain ⟨an, han⟩ : ∃ k, List.length a = k := ⟨_, rfl⟩
            obtain ⟨bn, hbn⟩ : ∃ k, List.length b = k := ⟨_, rfl⟩
            rw [han] at ho1
            rw [hbn] at ho2
            rw [han, hbn]
            have HAN : Hid (a.length = an ∧ b.length = bn) := Lib.hid ⟨han, hbn⟩
            have HO1 := Lib.hid ho1
            have HO2 := Lib.hid ho2
            have HK7 := Lib.hid hk7
            clear ho1 ho2 hdis hk7 HG p1 han hbn
            go_upto_region 12 with fail
            have hka := (Keeps.refl No w7).alloc (.cells #[.slice sa an sc, .slice ua bn uc, .int .i64 0] 67)
            have HKB : Hid ((w7.alloc (.cells #[.slice sa an sc, .slice ua bn uc, .int .i64 0] 67)).heap[w7.heap.size]? = some (.cells #[.slice sa an sc, .slice ua bn uc, .int .i64 0] 67 (0, 0))) := Lib.hid (heap_alloc_new _ _)
            have HK8 : Hid (Keeps No w6 (w7.alloc (.cells #[.slice sa an sc, .slice ua bn uc, .int .i64 0] 67))) := Lib.hid (HK7.out.trans hka (fun _ _ e => e))
            have HN8 : Hid ((w7.alloc (.cells #[.slice sa an sc, .slice ua bn uc, .int .i64 0] 67)).ownsRow w6.heap.size 3 1 (.slice sa an sc) an (irow a)) := Lib.hid (own_kept HO1.out (fun q hq => hka.block q (ownG_lt HO1.out q hq) (fun e => e)))
            have HU8 : Hid ((w7.alloc (.cells #[.slice sa an sc, .slice ua bn uc, .int .i64 0] 67)).ownsRow w6.heap.size 3 1 (.slice ua bn uc) bn (irow b)) := Lib.hid (own_kept HO2.out (fun q hq => hka.block q (ownG_lt HO2.out q hq) (fun e => e)))
            generalize w7.alloc (.cells #[.slice sa an sc, .slice ua bn uc, .int .i64 0] 67) = w8 at HKB HK8 HN8 HU8 ⊢
            obtain ⟨KB, hKB⟩ : ∃ q, w7.heap.size = q := ⟨_, rfl⟩
            rw [hKB] at HKB ⊢
            clear hka hKB HO1 HO2 HK7
            have HM8 := Lib.hid (HM6.out.keep HK8.out (fun e => e))
            have HKR8 : Hid (Keeps (fun q => q = m) w4 w8) := Lib.hid (HKR6.out.trans HK8.out (fun _ _ e => e.elim))
            have HO8 : Hid (w8.ownsRow w4.heap.size 3 1 (.slice (some ⟨g, 0, none⟩) ln tc) ln (irow init)) := Lib.hid (own_kept HO6.out (fun q hq => HK8.out.block q (ownG_lt HO6.out q hq) (fun e => e)))
            have kk0 : w8.cell? ⟨KB, 0, none⟩ = some (.slice sa an sc) := by rw [cell_of_row w8 KB 0 _ _ _ HKB.out]; rfl
            have HG6 : Hid (g < w6.heap.size) := Lib.hid (ownG_lt HO6.out g rfl)
            clear HM6 HKR6 HK6 HO6 HK8
            have hsum : ln + an + bn ≤ 1000000 := by
              have h := HCND.out.1
              rw [List.length_append, HLN.out, HAN.out.1, HAN.out.2] at h
              simp at h
              omega
            have hs8 : w4.heap.size ≤ w8.heap.size := HKR8.out.size
            obtain ⟨tl2, htl2⟩ : ∃ k, ln + an = k := ⟨_, rfl⟩
            go_wp2_with (at_builtin; refine wpList_appO _ rfl (.tmp 44) (.tmp 46) rfl w4.heap.size (.slice (some ⟨g, 0, none⟩) ln tc) ln init rfl HO8.out w6.heap.size (.slice sa an sc) an a rfl HN8.out tl2 htl2 (by omega) hs8 ?_)
            intro g9 cap9 w9 ho9 hk9
            obtain ⟨gcs, hgc⟩ := own_typ HO8.out rfl
            have HM9 := Lib.hid (HM8.out.keep hk9 (fun e => HM8.out.ne hgc (by injection e with e; exact e.symm)))
            have hglo : w4.heap.size ≤ g := ownG_lo HO8.out g rfl
            have HKR9 : Hid (Keeps (fun q => q = m) w4 w9) := Lib.hid (HKR8.out.trans hk9 (fun q hq e => by injection e with e; simp only at e; omega))
            have HKB9 := Lib.hid ((hk9.block KB (Array.getElem?_eq_some_iff.1 HKB.out).1 (fun e => ne_type HKB.out hgc (by decide) (by injection e with e; exact e.symm))).trans HKB.out)
            have HU9 : Hid (w9.ownsRow w6.heap.size 3 1 (.slice ua bn uc) bn (irow b)) := Lib.hid (own_kept HU8.out (fun q hq => hk9.block q (ownG_lt HU8.out q hq) (fun e => by have h1 := ownG_lo HU8.out q hq; have h2 := HG6.out; injection e with e; simp only at e; omega)))
            have HO9 := Lib.hid ho9
            clear ho9 hk9 hgc hglo hs8 kk0 HM8 HKR8 HKB HU8 HN8 HO8
            go_upto_region 13 with fail
            have hs9 : w4.heap.size ≤ w9.heap.size := HKR9.out.size
            have kk1 : w9.cell? ⟨KB, 1, none⟩ = some (.slice ua bn uc) := by rw [cell_of_row w9 KB 1 _ _ _ HKB9.out]; rfl
            obtain ⟨tl3, htl3⟩ : ∃ k, tl2 + bn = k := ⟨_, rfl⟩
            go_wp2_with (at_builtin; refine wpList_appO _ rfl (.tmp 48) (.tmp 50) rfl w4.heap.size (.slice g9 tl2 cap9) tl2 (init ++ a) rfl HO9.out w6.heap.size (.slice ua bn uc) bn b rfl HU9.out tl3 htl3 (by omega) hs9 ?_)
            intro g10 cap10 w10 ho10 hk10
            have HM10 := Lib.hid (HM9.out.keep hk10 (fun e => by obtain ⟨cs, hc⟩ := own_typ HO9.out e; exact HM9.out.ne hc rfl))
            have HKR10 : Hid (Keeps (fun q => q = m) w4 w10) := Lib.hid (HKR9.out.trans hk10 (fun q hq e => by have := ownG_lo HO9.out q e; omega))
            have HKB10 := Lib.hid ((hk10.block KB (Array.getElem?_eq_some_iff.1 HKB9.out).1 (fun e => by obtain ⟨cs, hc⟩ := own_typ HO9.out e; exact ne_type HKB9.out hc (by decide) rfl)).trans HKB9.out)
            have HO10 := Lib.hid ho10
            have HTL : Hid ((init ++ a ++ b).length = tl3) := Lib.hid (by rw [List.length_append, List.length_append, HLN.out, HAN.out.1, HAN.out.2]; omega)
            clear ho10 hk10 hs9 kk1 htl2 htl3 HM9 HKR9 HKB9 HU9 HO9
            obtain ⟨wq, rfl⟩ : ∃ W', W' = w10 := ⟨_, rfl⟩
            have kk2 : wq.cell? ⟨KB, 2, none⟩ = some (.int .i64 0) := by rw [cell_of_row wq KB 2 _ _ _ HKB10.out]; rfl
            go_wp2_with fail
            obtain ⟨wA, rfl⟩ : ∃ W, W = wr := ⟨_, rfl⟩
            go_loopg [5, 52] 7 (fun k y x wr => y = .slice g10 tl3 cap10 ∧ ∃ j : Nat, x = .int .i64 (j : Int) ∧ j ≤ 7 ∧ k = 7 - j ∧ wr = wq)
            case' atStart => exact ⟨rfl, 0, rfl, by omega, rfl, rfl⟩
            case' round =>
              obtain ⟨rfl, j, rfl, hj, hg4, rfl⟩ := hrel
              by_cases hj7 : j < 7
              · have j7 : (j : Int) < 7 := by omega
                have j0 : (0 : Int) ≤ (j : Int) := by omega
                have hb : (bits BinOp.and IntKind.i64 0 1 == 1) = false := rfl
                go_wp2_with fail
                go_roundg (7 - (j + 1))
                case rel => exact ⟨rfl, j + 1, by go_num, by omega, rfl, rfl⟩
                case measure => omega
              · obtain rfl : j = 7 := by omega
                have j7 : ¬ ((7 : Nat) : Int) < 7 := by omega
                go_wp2_with fail
                go_roundg f
                case rel => exact ⟨init ++ a ++ b, g10, cap10, kput al0 (v : Int) 1, by rw [HTL.out], HKR10, HM10, by rw [HTL.out]; first | exact HO10 | (rw [List.append_assoc]; exact HO10), HRM3⟩
                case measure => exact Nat.lt_succ_self f
end Go.Proofs.YtkiimljdoebclaaDoor
