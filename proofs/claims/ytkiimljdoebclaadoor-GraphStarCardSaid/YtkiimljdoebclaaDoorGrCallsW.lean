/- calls, walked. -/
import Derived.Test.YtkiimljdoebclaaDoorGrCalls
import Derived.Test.YtkiimljdoebclaaDoorGrBy
namespace Go.Proofs.YtkiimljdoebclaaDoor
open Go.RowKit Gm
set_option linter.unusedVariables false
set_option linter.unusedSimpArgs false

/-- Whom each function names. -/
def Pg.nm (p : Pg) : List (List Int) := p.fl.map (fun f => f.ins.flatMap namedX)
def Pg.fs (p : Pg) : List (List Int) := p.fl.map (fun f => f.ins.flatMap funcsX)
/-- What is asked of a program: no globals, no address taken, none called at; few names. -/
structure Plain (p : Pg) : Prop where
  g : p.gn = 0
  n0 : 0 < p.fn
  n1 : p.fn ≤ 1000000
  ins : p.ins.length ≤ 999999
  ops : ∀ x ∈ p.ins, x.op ≠ 11 ∧ x.op ≠ 20
  few : ∀ l ∈ p.nm, l.length ≤ 12
  rng : ∀ l ∈ p.nm, ∀ z ∈ l, ∃ u : Nat, z = (u : Int) ∧ u < p.fn
theorem Pg.ins_len {p : Pg} {f : Fx} (hf : f ∈ p.fl) : f.ins.length ≤ p.ins.length := by
  unfold Pg.ins
  obtain ⟨a, b, e⟩ := List.append_of_mem hf
  rw [e, List.flatMap_append, List.flatMap_cons, List.length_append, List.length_append]
  omega
theorem Pg.ins_mem {p : Pg} {f : Fx} (hf : f ∈ p.fl) {x : Ix} (hx : x ∈ f.ins) : x ∈ p.ins := List.mem_flatMap.2 ⟨f, hf, hx⟩
theorem addM_len : ∀ (l acc : List Int), (addM acc l).length ≤ acc.length + l.length
  | [], acc => by simp [addM]
  | z :: t, acc => by
    rw [addM, List.length_cons]
    by_cases h : z ∈ acc
    · rw [if_pos h]; have := addM_len t acc; omega
    · rw [if_neg h]; have := addM_len t (acc ++ [z]); rw [List.length_append, List.length_singleton] at this; omega
set_option maxRecDepth 100000 in
set_option maxHeartbeats 12800000 in
theorem calls_any' (p : Pg) (pb po : Nat) (w : World) (hp : p.at_ w pb po) (hok : PgOk w p) (h : Plain p) (ht : TkOk p) :
    Calls Tryd.prog 18 #[.pointer (some ⟨pb, po, none⟩)] w fun e w' => ∃ SB SE OB, e = .returned (.slice (some ⟨OB, 0, none⟩) p.fn p.fn) ∧ CO w w' SB SE OB p.fn p.fn (callsM p.nm) := by
  have c1 := hp 1 _ rfl
  have hcap := hok.fcap
  unfold maxLen at hcap
  have HPP := Lib.hid hp
  have HOK := Lib.hid hok
  have HPL := Lib.hid h
  have HBP := Lib.hid (byParams_any p pb po w hp hok h.g h.ins ht)
  have hn0 := h.n0
  have hn1 := h.n1
  obtain ⟨n, hn⟩ : ∃ bn, p.fn = bn := ⟨_, rfl⟩
  obtain ⟨A, hA⟩ : ∃ A, p.fa = A := ⟨_, rfl⟩
  obtain ⟨fc, hfc⟩ : ∃ A, p.fc = A := ⟨_, rfl⟩
  rw [hn, hA, hfc] at c1; rw [hn, hfc] at hcap; rw [hn] at hn0 hn1 ⊢
  have HC1 := Lib.hid c1
  have HN := Lib.hid hn
  have HA := Lib.hid hA
  clear hp hok h ht hn hA hfc c1
  go_enter Tryd.func18, Tryd.ntmps18
  go_upto_region 1 with fail
  go_wp2_with fail
  refine HBP.out.mono ?_
  rintro e w1 ⟨ta, tk, tc, rfl, hk1⟩
  have HK1 := Lib.hid hk1
  clear hk1 HBP
  unfold sev
  go_upto_region 2 with fail
  obtain ⟨w2, hw2⟩ : ∃ W, w1.alloc (.cells #[.slice ta tk tc, .slice none 0 0, .slice none 0 0, .slice none 0 0, .slice none 0 0, .slice none 0 0, .slice none 0 0] 63) = W := ⟨_, rfl⟩
  have HK2 : Hid (Keeps No w w2) := Lib.hid (by rw [← hw2]; exact HK1.out.alloc _)
  rw [hw2]
  obtain ⟨TB, hTB⟩ : ∃ q, w1.heap.size = q := ⟨_, rfl⟩
  rw [hTB]
  clear hw2 hTB HK1
  have d1 := HK2.out.cell0 HC1.out
  go_wp2_with (at_make; refine wpList_makeS _ rfl _ rfl n rfl hn1 ?_)
  intro w3 hr3 hk3
  have HK3 := Lib.hid (HK2.out.trans hk3 (fun _ _ e => e))
  have HR3 := Lib.hid hr3
  obtain ⟨OB, hOB⟩ : ∃ q, w2.heap.size = q := ⟨_, rfl⟩
  have HOB : Hid (w.heap.size ≤ OB) := Lib.hid (by rw [← hOB]; exact HK2.out.size)
  rw [hOB] at HR3 ⊢
  clear hr3 hk3 hOB d1
  have d1 := HK3.out.cell0 HC1.out
  go_upto_region 3 with fail
  go_wp2_with (at_make; refine wpList_makeI _ rfl _ rfl n rfl hn1 ?_)
  intro w4 hr4 hk4
  have HK4 := Lib.hid (HK3.out.trans hk4 (fun _ _ e => e))
  have HR4 := Lib.hid hr4
  have HR34 := Lib.hid ((hk4.block OB (Array.getElem?_eq_some_iff.1 HR3.out).1 (fun e => e)).trans HR3.out)
  obtain ⟨SE, hSE⟩ : ∃ q, w3.heap.size = q := ⟨_, rfl⟩
  have HSE : Hid (w.heap.size ≤ SE) := Lib.hid (by rw [← hSE]; exact HK3.out.size)
  rw [hSE] at HR4 ⊢
  clear hr4 hk4 hSE d1 HR3
  go_upto_region 4 with fail
  obtain ⟨w5, hw5⟩ : ∃ W, w4.alloc (.cells #[.slice (some ⟨SE, 0, none⟩) n n] 28) = W := ⟨_, rfl⟩
  have hk5 : Keeps No w4 w5 := by rw [← hw5]; exact (Keeps.refl _ _).alloc _
  obtain ⟨SB, hSB⟩ : ∃ q, w4.heap.size = q := ⟨_, rfl⟩
  have HCO : Hid (CO w w5 SB SE OB n 0 []) := Lib.hid (by
    refine ⟨HK4.out.trans hk5 (fun _ _ e => e), ⟨by rw [← hSB]; exact HK4.out.size, HSE.out, HOB.out⟩, fun e => ?_, by rw [← hw5, ← hSB]; exact heap_alloc_new _ _, ⟨List.replicate n 0, ?_, by simp, fun g x hx => ?_⟩, ⟨[], ?_, rfl, fun i l hl => by cases hl⟩, rfl⟩
    · have := (Array.getElem?_eq_some_iff.1 HR34.out).1; omega
    · have e : irow (List.replicate n 0) = List.replicate n (.int .i64 0) := by unfold irow; rw [List.map_replicate]
      unfold RowAt
      rw [e]
      exact (hk5.block SE (Array.getElem?_eq_some_iff.1 HR4.out).1 (fun e => e)).trans HR4.out
    · have := List.eq_of_mem_replicate (List.mem_of_getElem? hx); omega
    · exact (hk5.block OB (Array.getElem?_eq_some_iff.1 HR34.out).1 (fun e => e)).trans HR34.out)
  rw [hw5, hSB]
  clear hw5 hk5 hSB HR4 HR34 HK4 HSE HOB HK3 HK2
  have d1 := HCO.out.kp.cell0 HC1.out
  go_wp2_with fail
  clear d1
  go_loopg [30] n (fun k x wr => ∃ i : Nat, x = .int .i64 (i : Int) ∧ i ≤ n ∧ k = n - i ∧ Hid (CO w wr SB SE OB n i (callsM (p.nm.take i))))
  case atStart => exact ⟨0, rfl, Nat.zero_le _, rfl, HCO⟩
  case round =>
    obtain ⟨i, rfl, hi, hg, HC⟩ := hrel
    by_cases hlt : i < n
    · have hlt' : (i : Int) < (n : Int) := by omega
      have hltN := hlt
      have i0 : (0 : Int) ≤ (i : Int) := by omega
      obtain ⟨fb, fo, f, hf, ha, hat, hfo⟩ := Pg.fget HOK.out (i := i) (by rw [HN.out]; exact hlt)
      have hfm := List.mem_of_getElem? hf
      obtain rfl := HA.out.symm.trans ha
      have hnl : p.nm[i]? = some (f.ins.flatMap namedX) := by unfold Pg.nm; rw [List.getElem?_map, hf]; rfl
      obtain ⟨L, hL⟩ : ∃ L, f.ins.flatMap namedX = L := ⟨_, rfl⟩
      rw [hL] at hnl
      have HNL := Lib.hid hnl
      have HG : Hid (∀ W, Keeps No w W → Calls Tryd.prog 25 #[.pointer (some ⟨fb, fo + i * 6, none⟩)] W (FactsPost W L (f.ins.flatMap funcsX))) := Lib.hid (fun W hk => by
        rw [← hL]
        exact gather_any f fb (fo + i * 6) W (hat.no hk) (hfo.no hk) (fun x hx => HPL.out.ops x (Pg.ins_mem hfm hx)) (Nat.le_trans (Pg.ins_len hfm) HPL.out.ins))
      obtain ⟨M, hM⟩ : ∃ L, f.ins.flatMap funcsX = L := ⟨_, rfl⟩
      rw [hM] at HG
      have hLlen : L.length ≤ 12 := HPL.out.few L (List.mem_of_getElem? hnl)
      clear hf hfm ha hat hfo hnl hL hM
      go_upto_region 7 with fail
      have hk6 : Keeps No wr (wr.alloc (.cells #[.int .i64 (i : Int)] 3)) := (Keeps.refl _ _).alloc _
      have hr6 : (wr.alloc (.cells #[.int .i64 (i : Int)] 3)).heap[wr.heap.size]? = some (.cells #[.int .i64 (i : Int)] 3 (0, 0)) := heap_alloc_new _ _
      generalize wr.alloc (.cells #[.int .i64 (i : Int)] 3) = w6 at hk6 hr6 ⊢
      obtain ⟨FB, hFB⟩ : ∃ q, wr.heap.size = q := ⟨_, rfl⟩
      rw [hFB] at hr6 ⊢
      have HFB := Lib.hid hFB
      have HR6 := Lib.hid hr6
      have HK6 := Lib.hid hk6
      have p1 : ∀ u : KS No w6, u.W.cell? ⟨pb, po + 1, none⟩ = some (.slice (some ⟨fb, fo, none⟩) n fc) := fun u => u.cell (hk6.cell0 (HC.out.kp.cell0 HC1.out)) (fun e => e)
      have pf : ∀ u : KS No w6, u.W.cell? ⟨FB, 0, none⟩ = some (.int .i64 (i : Int)) := fun u => u.cell (by rw [cell_of_row w6 FB 0 _ _ _ hr6]; rfl) (fun e => e)
      have hne : Nonempty (KS No w6) := ⟨⟨w6, Keeps.refl _ _⟩⟩
      clear hFB hr6 hk6
      refine Mix.wp_region_mix (fun W' => ∃ u : KS No w6, W' = u.W) [8] (by kernel_rfl) ?_
      have HV0 : Hid (Keeps No w6 w6.drew) := Lib.hid ((Keeps.refl _ w6).drew)
      generalize w6.drew = x0 at HV0 ⊢
      refine Mix.mix_seg 0 6 3 (by kernel_rfl) (by kernel_rfl) rfl rfl ⟨⟨x0, HV0.out⟩, rfl⟩ ?_
      simp only [List.drop_succ_cons, List.drop_zero, List.take_succ_cons, List.take_zero]
      repeat (go_big_quiet_step (fail))
      refine wpQuiet_nil ?_
      clear p1 pf
      refine Mix.mix_two 6 7 2 (by kernel_rfl) rfl rfl rfl ?_ ?_
      case' refine_1 =>
        simp only [List.drop_succ_cons, List.drop_zero, List.take_succ_cons, List.take_zero]
        go_wp2_with fail
        refine (HG.out x0 ((HC.out.kp.trans HK6.out (fun _ _ e => e)).trans HV0.out (fun _ _ e => e))).mono ?_
        rintro e x1 ⟨sa, sc, ta, tc, rfl, ho1, ho2, hdis, hkx⟩
        have HO1 := Lib.hid (And.intro ho1 hkx)
        clear ho1 ho2 hdis hkx
        go_wp2_with fail
        refine ⟨.inr ⟨⟨x1, HV0.out.trans HO1.out.2 (fun _ _ e => e)⟩, rfl⟩, ?_⟩
        refine Mix.mix_one 7 1 (by kernel_rfl) rfl rfl ?_
        simp only [List.drop_succ_cons, List.drop_zero, List.take_succ_cons, List.take_zero]
        go_wp2_with fail
        refine ⟨.inr ⟨⟨_, (HV0.out.trans HO1.out.2 (fun _ _ e => e)).alloc _⟩, rfl⟩, ?_⟩
        refine Mix.mix_one 8 0 (by kernel_rfl) rfl rfl ?_
        simp only [List.drop_succ_cons, List.drop_zero, List.take_succ_cons, List.take_zero]
        go_wp2_with fail
        refine ⟨.inl ⟨rfl, rfl⟩, ?_⟩
        refine Mix.mix_end (by kernel_rfl) ?_
        have hka := (Keeps.refl No x1).alloc (.cells #[.slice sa L.length sc, .slice ta M.length tc, .int .i64 0] 67)
        have HROW : Hid ((x1.alloc (.cells #[.slice sa L.length sc, .slice ta M.length tc, .int .i64 0] 67)).heap[x1.heap.size]? = some (.cells #[.slice sa L.length sc, .slice ta M.length tc, .int .i64 0] 67 (0, 0))) := Lib.hid (heap_alloc_new _ _)
        have HK8 : Hid (Keeps No w6 (x1.alloc (.cells #[.slice sa L.length sc, .slice ta M.length tc, .int .i64 0] 67))) := Lib.hid ((HV0.out.trans HO1.out.2 (fun _ _ e => e)).trans hka (fun _ _ e => e))
        have HOWN : Hid ((x1.alloc (.cells #[.slice sa L.length sc, .slice ta M.length tc, .int .i64 0] 67)).ownsRow w6.heap.size 3 1 (.slice sa L.length sc) L.length (irow L)) := Lib.hid (own_mono (own_kept HO1.out.1 (fun q hq => hka.block q (ownG_lt HO1.out.1 q hq) (fun e => e))) HV0.out.size)
        generalize x1.alloc (.cells #[.slice sa L.length sc, .slice ta M.length tc, .int .i64 0] 67) = w8 at HROW HK8 HOWN ⊢
        obtain ⟨KB, hKB⟩ : ∃ q, x1.heap.size = q := ⟨_, rfl⟩
        rw [hKB] at HROW ⊢
        clear hka hKB HO1
      case' refine_2 =>
        simp only [List.drop_succ_cons, List.drop_zero, List.take_succ_cons, List.take_zero]
        go_wp2_with fail
        refine ⟨.inr ⟨⟨_, HV0.out.alloc _⟩, rfl⟩, ?_⟩
        refine Mix.mix_one 6 1 (by kernel_rfl) rfl rfl ?_
        simp only [List.drop_succ_cons, List.drop_zero, List.take_succ_cons, List.take_zero]
        have hka := (Keeps.refl No x0).alloc (.cells #[.slice none 0 0, .slice none 0 0, .int .i64 0] 67)
        have hrz : (x0.alloc (.cells #[.slice none 0 0, .slice none 0 0, .int .i64 0] 67)).heap[x0.heap.size]? = some (.cells #[.slice none 0 0, .slice none 0 0, .int .i64 0] 67 (0, 0)) := heap_alloc_new _ _
        have HKA : Hid (Keeps No w6 (x0.alloc (.cells #[.slice none 0 0, .slice none 0 0, .int .i64 0] 67))) := Lib.hid (HV0.out.trans hka (fun _ _ e => e))
        generalize x0.alloc (.cells #[.slice none 0 0, .slice none 0 0, .int .i64 0] 67) = x1 at hrz HKA ⊢
        obtain ⟨KB, hKB⟩ : ∃ q, x0.heap.size = q := ⟨_, rfl⟩
        rw [hKB] at hrz ⊢
        have HKB : Hid (w6.heap.size ≤ KB) := Lib.hid (by rw [← hKB]; exact HV0.out.size)
        have HRZ := Lib.hid hrz
        clear hka hKB hrz
        go_wp2_with fail
        refine (HG.out x1 ((HC.out.kp.trans HK6.out (fun _ _ e => e)).trans HKA.out (fun _ _ e => e))).mono ?_
        rintro e x2 ⟨sa, sc, ta, tc, rfl, ho1, ho2, hdis, hkx⟩
        have HO1 := Lib.hid (And.intro ho1 hkx)
        have HRZ2 := Lib.hid ((hkx.block KB (Array.getElem?_eq_some_iff.1 HRZ.out).1 (fun e => e)).trans HRZ.out)
        clear ho1 ho2 hdis hkx
        go_wp2_with fail
        refine ⟨.inr ⟨⟨x2, HKA.out.trans HO1.out.2 (fun _ _ e => e)⟩, rfl⟩, ?_⟩
        have y0 : x2.cell? ⟨KB, 0, none⟩ = some (.slice none 0 0) := by rw [cell_of_row x2 KB 0 _ _ _ HRZ2.out]; rfl
        have y1 : x2.cell? ⟨KB, 1, none⟩ = some (.slice none 0 0) := by rw [cell_of_row x2 KB 1 _ _ _ HRZ2.out]; rfl
        have y2 : x2.cell? ⟨KB, 2, none⟩ = some (.int .i64 0) := by rw [cell_of_row x2 KB 2 _ _ _ HRZ2.out]; rfl
        have z0 : x2.frozen? ⟨KB, 0, none⟩ = false := frozen_of_row x2 KB 0 _ _ HRZ2.out
        have z1 : x2.frozen? ⟨KB, 1, none⟩ = false := frozen_of_row x2 KB 1 _ _ HRZ2.out
        have z2 : x2.frozen? ⟨KB, 2, none⟩ = false := frozen_of_row x2 KB 2 _ _ HRZ2.out
        refine Mix.mix_one 8 0 (by kernel_rfl) rfl rfl ?_
        simp only [List.drop_succ_cons, List.drop_zero, List.take_succ_cons, List.take_zero]
        go_wp2_with fail
        refine ⟨.inl ⟨rfl, rfl⟩, ?_⟩
        refine Mix.mix_end (by kernel_rfl) ?_
        obtain ⟨hka, hrow⟩ := three_set (a := .slice sa L.length sc) (b := .slice ta M.length tc) (c := .int .i64 0) HRZ2.out
        have HROW := Lib.hid hrow
        have HK8 : Hid (Keeps No w6 (((x2.setCell ⟨KB, 0, none⟩ (.slice sa L.length sc)).setCell ⟨KB, 1, none⟩ (.slice ta M.length tc)).setCell ⟨KB, 2, none⟩ (.int .i64 0))) := Lib.hid ((HKA.out.trans HO1.out.2 (fun _ _ e => e)).trans hka (fun q hq e => by have := HKB.out; omega))
        have HOWN : Hid ((((x2.setCell ⟨KB, 0, none⟩ (.slice sa L.length sc)).setCell ⟨KB, 1, none⟩ (.slice ta M.length tc)).setCell ⟨KB, 2, none⟩ (.int .i64 0)).ownsRow w6.heap.size 3 1 (.slice sa L.length sc) L.length (irow L)) := Lib.hid (own_mono (own_kept HO1.out.1 (fun q hq => hka.block q (ownG_lt HO1.out.1 q hq) (fun e => by obtain ⟨cs, hc⟩ := own_typ HO1.out.1 hq; exact ne_type HRZ2.out hc (by decide) e.symm))) HKA.out.size)
        generalize ((x2.setCell ⟨KB, 0, none⟩ (.slice sa L.length sc)).setCell ⟨KB, 1, none⟩ (.slice ta M.length tc)).setCell ⟨KB, 2, none⟩ (.int .i64 0) = w8 at HROW HK8 HOWN ⊢
        clear hka hrow HO1 HKA HKB HRZ HRZ2 y0 y1 y2 z0 z1 z2
      all_goals
        clear hne HG HV0
        go_upto_region 10 with fail
        have hk9 : Keeps No w8 (w8.alloc (.cells #[.slice none 0 0] 28)) := (Keeps.refl _ _).alloc _
        have hl9 : (w8.alloc (.cells #[.slice none 0 0] 28)).heap[w8.heap.size]? = some (.cells #[.slice none 0 0] 28 (0, 0)) := heap_alloc_new _ _
        have HK9 : Hid (Keeps No wr (w8.alloc (.cells #[.slice none 0 0] 28))) := Lib.hid ((HK6.out.trans HK8.out (fun _ _ e => e)).trans hk9 (fun _ _ e => e))
        have HR9 : Hid ((w8.alloc (.cells #[.slice none 0 0] 28)).heap[KB]? = some (.cells #[.slice sa L.length sc, .slice ta M.length tc, .int .i64 0] 67 (0, 0))) := Lib.hid ((hk9.block _ (Array.getElem?_eq_some_iff.1 HROW.out).1 (fun e => e)).trans HROW.out)
        have HO9 : Hid ((w8.alloc (.cells #[.slice none 0 0] 28)).ownsRow w6.heap.size 3 1 (.slice sa L.length sc) L.length (irow L)) := Lib.hid (own_kept HOWN.out (fun q hq => hk9.block q (ownG_lt HOWN.out q hq) (fun e => e)))
        have HAD : Hid (AD (w8.alloc (.cells #[.slice none 0 0] 28)) (w8.alloc (.cells #[.slice none 0 0] 28)) SB SE FB w8.heap.size n i [] none 0) := Lib.hid (by
          have hk69 := HK8.out.trans hk9 (fun _ _ e => e)
          obtain ⟨sn, s1, s2, s3⟩ := HC.out.se
          have sb9 := (HK9.out.block _ (Array.getElem?_eq_some_iff.1 HC.out.sb).1 (fun e => e)).trans HC.out.sb
          have fb9 := (hk69.block _ (Array.getElem?_eq_some_iff.1 HR6.out).1 (fun e => e)).trans HR6.out
          have se9 := s1.keep HK9.out (fun e => e)
          have b1 := (Array.getElem?_eq_some_iff.1 HC.out.sb).1
          have b2 := s1.lt
          have b3 := HK6.out.size
          have b4 := HK8.out.size
          have b5 := HFB.out
          refine ⟨Keeps.refl _ _, sb9, fb9, hl9, ⟨sn, se9, s2, fun g x hx => by have := s3 g x hx; omega, fun g hg => ⟨fun e => by have := s3 g _ e; omega, fun e => by cases e⟩⟩, World.ownsRow_nil _ _ _ _, ⟨(Array.getElem?_eq_some_iff.1 sb9).1, se9.lt, (Array.getElem?_eq_some_iff.1 fb9).1, (Array.getElem?_eq_some_iff.1 hl9).1⟩, by omega, by omega⟩)
        have HLO : Hid (SE < w6.heap.size ∧ w6.heap.size ≤ w8.heap.size ∧ wr.heap.size ≤ w8.heap.size) := Lib.hid (by
          obtain ⟨sn, s1, s2, s3⟩ := HC.out.se
          exact ⟨Nat.lt_of_lt_of_le s1.lt HK6.out.size, HK8.out.size, Nat.le_trans HK6.out.size HK8.out.size⟩)
        have HOL : Hid (∀ q, (Value.slice sa L.length sc).ownBlock = some q → q < w8.heap.size) := Lib.hid (fun q hq => ownG_lt HOWN.out q hq)
        generalize w8.alloc (.cells #[.slice none 0 0] 28) = w9 at HK9 HR9 HO9 HAD ⊢
        obtain ⟨LB, hLB⟩ : ∃ q, w8.heap.size = q := ⟨_, rfl⟩
        rw [hLB] at HAD HLO HOL ⊢
        clear hk9 hl9 hLB HROW HK8 HOWN HR6 HK6 HFB
        have k0 : w9.cell? ⟨KB, 0, none⟩ = some (.slice sa L.length sc) := by rw [cell_of_row w9 KB 0 _ _ _ HR9.out]; rfl
        have k2 : w9.cell? ⟨KB, 2, none⟩ = some (.int .i64 0) := by rw [cell_of_row w9 KB 2 _ _ _ HR9.out]; rfl
        go_wp2_with fail
        obtain ⟨wA, rfl⟩ : ∃ W, W = wr := ⟨_, rfl⟩
        go_loopg [41] 7 (fun k x wr => ∃ j : Nat, x = .int .i64 (j : Int) ∧ j ≤ 7 ∧ k = 7 - j ∧ wr = w9)
        case' atStart => exact ⟨0, rfl, by omega, rfl, rfl⟩
        case' round =>
          obtain ⟨j, rfl, hj, hg4, rfl⟩ := hrel
          by_cases hj7 : j < 7
          · have j7 : (j : Int) < 7 := by omega
            have j0 : (0 : Int) ≤ (j : Int) := by omega
            have hb : (bits BinOp.and IntKind.i64 0 1 == 1) = false := rfl
            go_wp2_with fail
            go_roundg (7 - (j + 1))
            case rel => exact ⟨j + 1, by go_num, by omega, rfl, rfl⟩
            case measure => omega
          · obtain rfl : j = 7 := by omega
            have j7 : ¬ ((7 : Nat) : Int) < 7 := by omega
            have HBD : Hid (∀ z ∈ L, ∃ u : Nat, z = (u : Int) ∧ u < n) := Lib.hid (by
              have h := HPL.out.rng L (List.mem_of_getElem? HNL.out)
              rw [HN.out] at h
              exact h)
            have HSL : Hid (SlAt wr ⟨sa, L.length, sc, L⟩) := Lib.hid (by
              obtain ⟨s, e1, e2, e3, e4⟩ := own_sl HO9.out (fun z hz => by obtain ⟨u, rfl, hu⟩ := HBD.out z hz; unfold I64; omega)
              obtain ⟨a1, n1, c1, l1⟩ := s
              simp only [Sl.v] at e1 e2 e3
              injection e1 with e1 e5 e6
              subst e1 e2 e3 e6
              exact e4)
            have HAC := Lib.hid (add_any ⟨sa, L.length, sc, L⟩ hn1 (by omega : i ≤ 1000000) HAD.out HSL.out (fun b o e => by
              have e1 : sa = some ⟨b, o, none⟩ := e
              subst e1
              have h1 := ownG_lo HO9.out b rfl
              have h2 := HOL.out b rfl
              have h3 := HLO.out
              exact ⟨by omega, by omega⟩) HBD.out (by simp only [List.length_nil]; omega))
            obtain ⟨la0, hla0⟩ : ∃ l, addM [] L = l := ⟨_, rfl⟩
            have hla1 : la0.length ≤ 12 := by have := addM_len L []; rw [hla0] at this; simp at this; omega
            have HLA := Lib.hid hla0
            change Hid (Calls Tryd.prog 30 #[.slice sa L.length sc, .pointer (some ⟨SB, 0, none⟩), .pointer (some ⟨FB, 0, none⟩), .pointer (some ⟨LB, 0, none⟩)] wr fun e w' => e = .returned (.tuple #[]) ∧ ∃ la lc, AD wr w' SB SE FB LB n i (addM [] L) la lc) at HAC
            rw [hla0] at HAC
            clear hla0 HSL HBD
            go_wp2_with fail
            refine HAC.out.mono ?_
            rintro e w10 ⟨rfl, la, lc, had⟩
            have HAD2 := Lib.hid had
            clear had HAC HO9 HOL
            obtain ⟨ln, hln⟩ : ∃ k, la0.length = k := ⟨_, rfl⟩
            have HLN := Lib.hid hln
            have HSO := Lib.hid (fun (W1 : World) h => sort_any W1 wr.heap.size ln (.slice la ln lc) la0 (by omega) h)
            have cl : w10.cell? ⟨LB, 0, none⟩ = some (.slice la ln lc) := by rw [cell_of_row w10 LB 0 _ _ _ HAD2.out.lb, ← hln]; rfl
            clear hln hla1
            go_wp2_with fail
            refine (HSO.out w10 (by have h := HAD2.out.own; rw [HLN.out] at h; exact h)).mono ?_
            rintro e w11 ⟨rfl, ho11, hk11⟩
            have hlo : ∀ q, (Value.slice la ln lc).ownBlock = some q → wr.heap.size ≤ q := fun q e => ownG_lo ho11 q e
            have hlt := HAD2.out.lt
            have b11 : ∀ {q : Nat}, q < wr.heap.size → w11.heap[q]? = w10.heap[q]? := fun {q} hq => hk11.block q (Nat.lt_of_lt_of_le hq HAD2.out.kp.size) (fun e => by have := hlo q e; omega)
            have hKT : Keeps (fun q => q = SE) wA w11 := by
              refine ((HK9.out.mono (fun _ _ e => e.elim)).trans HAD2.out.kp (fun q hq e => ?_)).trans hk11 (fun q hq e => ?_)
              · rcases e with e | e
                · exact e
                · have := HLO.out; omega
              · have := hlo q e; have := HK9.out.size; omega
            have HCP : Hid (CO w (w11.setCell ⟨OB, i, none⟩ (.slice la ln lc)) SB SE OB n (i + 1) (callsM (p.nm.take (i + 1)))) := Lib.hid (by
              have e1 : callsM (p.nm.take (i + 1)) = callsM (p.nm.take i) ++ [rowM L] := by
                unfold callsM
                rw [List.take_add_one, HNL.out, List.map_append]; rfl
              have e2 : rowM L = isort la0 := by unfold rowM; rw [HLA.out]
              have e3 : (isort la0).length = ln := by rw [(isort_perm la0).length_eq]; exact HLN.out
              rw [e1, e2]
              refine HC.out.put hltN hKT ?_ ?_
              · obtain ⟨sn, s1, s2, s3, _⟩ := HAD2.out.se
                exact ⟨sn, (b11 hlt.2.1).trans s1, s2, s3⟩
              · rw [e3]; exact own_mono ho11 HK9.out.size)
            have fb11 := (b11 hlt.2.2.1).trans HAD2.out.fb
            have lb11 := (b11 hlt.2.2.2).trans HAD2.out.lb
            rw [HLN.out] at lb11
            obtain ⟨vs, o1, o2, _⟩ := HC.out.ob
            have o11 := (hKT.block OB (Array.getElem?_eq_some_iff.1 o1).1 (fun e => by obtain ⟨sn, s1, _⟩ := HC.out.se; exact ne_type o1 s1 (by decide) e)).trans o1
            have cf : w11.cell? ⟨FB, 0, none⟩ = some (.int .i64 (i : Int)) := by rw [cell_of_row w11 FB 0 _ _ _ fb11]; rfl
            have cl2 : w11.cell? ⟨LB, 0, none⟩ = some (.slice la ln lc) := by rw [cell_of_row w11 LB 0 _ _ _ lb11]; rfl
            have co : w11.cell? ⟨OB, i, none⟩ = some (.slice none 0 0) := by
              rw [cell_of_row w11 OB i _ _ _ o11, List.getElem?_toArray, List.getElem?_append_right (by omega), o2, Nat.sub_self, List.getElem?_replicate, if_pos (by omega)]
            have fo11 : w11.frozen? ⟨OB, i, none⟩ = false := frozen_of_row w11 OB i _ _ o11
            clear hlo b11 hKT fb11 lb11 o1 o2 o11 ho11 hk11 hlt HSO cl k0 k2 HK9 HR9 HAD HC
            go_wp2_with fail
            go_roundg (n - (i + 1))
            case rel => exact ⟨i + 1, by go_num, by omega, rfl, HCP⟩
            case measure => omega
    · obtain rfl : i = n := by omega
      have hlt' : ¬ (i : Int) < (i : Int) := by omega
      have HF : Hid (CO w wr SB SE OB i i (callsM p.nm)) := Lib.hid (by
        have h := HC.out
        rw [List.take_of_length_le (by unfold Pg.nm; rw [List.length_map, HOK.out.flen, HN.out]; exact Nat.le_refl _)] at h
        exact h)
      go_wp2_with fail
      go_returns
      exact ⟨SB, SE, OB, rfl, HF.out⟩
/-- calls answers the mirror's rows. -/
theorem CO.lists {w0 w : World} {SB SE OB n : Nat} {rows : List (List Int)} (h : CO w0 w SB SE OB n n rows) (hn : n ≤ 1000000) (hb : ∀ l ∈ rows, l.length ≤ 1000000 ∧ ∀ z ∈ l, I64 z) : ∃ S, LsAt w (some ⟨OB, 0, none⟩) n n S ∧ S.map Sl.l = rows := by
  obtain ⟨vs, o1, o2, o3⟩ := h.ob
  rw [Nat.sub_self, List.replicate_zero, List.append_nil] at o1
  have pick : ∀ i : Nat, ∃ s : Sl, ∀ l, rows[i]? = some l → vs[i]? = some s.v ∧ s.l = l ∧ s.n = l.length ∧ SlAt w s := fun i => by
    cases hl : rows[i]? with
    | none => exact ⟨⟨none, 0, 0, []⟩, fun l e => by cases e⟩
    | some l =>
      obtain ⟨u, h3, h4, _⟩ := o3 i l hl
      obtain ⟨s, e1, e2, e3, e4⟩ := own_sl h4 (hb l (List.mem_of_getElem? hl)).2
      exact ⟨s, fun l' e => by injection e with e; subst e; exact ⟨by rw [h3, e1], e2, e3, e4⟩⟩
  obtain ⟨F, hF⟩ := Classical.axiomOfChoice pick
  have hmap : ((List.range n).map F).map Sl.l = rows := by
    refine List.ext_getElem? fun i => ?_
    rw [List.map_map, List.getElem?_map]
    by_cases hi : i < n
    · have hr : i < rows.length := by rw [h.rl]; exact hi
      rw [List.getElem?_range hi, List.getElem?_eq_getElem hr]
      have := (hF i rows[i] (List.getElem?_eq_getElem hr)).2.1
      simp [this]
    · rw [List.getElem?_eq_none (by simp; omega), List.getElem?_eq_none (by rw [h.rl]; omega)]; rfl
  refine ⟨(List.range n).map F, ⟨by simp, ⟨Nat.le_refl _, by unfold maxLen; omega⟩, fun i s hs => ?_⟩, hmap⟩
  have hi : i < n := by have := (List.getElem?_eq_some_iff.1 hs).1; simpa using this
  rw [List.getElem?_map, List.getElem?_range hi] at hs
  injection hs with hs
  have hr : i < rows.length := by rw [h.rl]; exact hi
  obtain ⟨f1, f2, f3, f4⟩ := hF i rows[i] (List.getElem?_eq_getElem hr)
  subst hs
  refine ⟨OB, 0, rfl, ?_, f4, by rw [f3]; exact (hb _ (List.getElem_mem hr)).1⟩
  rw [Nat.zero_add, cell_of_row w OB i _ _ _ o1, List.getElem?_toArray]
  exact f1
end Go.Proofs.YtkiimljdoebclaaDoor

