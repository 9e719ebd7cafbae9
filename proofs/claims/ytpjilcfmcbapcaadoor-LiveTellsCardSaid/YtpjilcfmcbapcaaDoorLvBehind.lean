/- live.Behind. -/
import Derived.Test.YtpjilcfmcbapcaaDoorLvIn
import Derived.Test.YtpjilcfmcbapcaaDoorMix
namespace Go.Proofs.YtpjilcfmcbapcaaDoor
open Go.RowKit
set_option linter.unusedVariables false
set_option linter.unusedSimpArgs false

/-- What Behind's cells hold, when the instructions from k on have been shown. -/
structure BJ (c5 c8 i : Nat) (l : List Int) (k : Nat) (w : World) : Prop where
  a : w.heap[c5]? = some (.cells #[.int .i64 i] 3 (0, 0))
  b : ∃ v, w.heap[c8]? = some (.cells #[v] 22 (0, 0)) ∧ (if k ≤ i then w.ownsRow (c8 + 2) 3 1 v l.length (irow l) else v = .slice none 0 0)
theorem BJ.keep {S : Nat → Prop} {c5 c8 i k : Nat} {l : List Int} {w w' : World} (h : BJ c5 c8 i l k w) (hk : Keeps S w w') (hS : ∀ q, S q → q ≠ c5 ∧ q ≠ c8 ∧ (q < c8 + 2 ∨ ∀ cs, w.heap[q]? ≠ some (.cells cs 3 (0, 0)))) : BJ c5 c8 i l k w' := by
  obtain ⟨v, h1, h2⟩ := h.b
  refine ⟨(hk.block c5 (Array.getElem?_eq_some_iff.1 h.a).1 (fun e => (hS _ e).1 rfl)).trans h.a, v, (hk.block c8 (Array.getElem?_eq_some_iff.1 h1).1 (fun e => (hS _ e).2.1 rfl)).trans h1, ?_⟩
  split
  · rename_i hki
    rw [if_pos hki] at h2
    exact own_keep h2 hk (fun q e hq => by
      have hlo := own_lo h2 q hq
      obtain ⟨cs, hcs⟩ := own_typ h2 hq
      rcases (hS q e).2.2 with h3 | h3
      · omega
      · exact h3 cs hcs)
  · rename_i hki
    rw [if_neg hki] at h2
    exact h2
set_option maxHeartbeats 3200000 in
theorem behind1_any (w : World) (c5 c8 i k g W X R : Nat) (l : List Int) (h : BJ c5 c8 i l (k + 1) w) (hX : WdAt w g X W) (ht : LaidT w) (hR : R ≤ 64 * W) (hXR : X < 2 ^ R) (hW : W ≤ 10000) (hl : k = i → listB X R = l) (hc : c8 + 2 ≤ w.heap.size) :
    Calls Tryd.prog 30 (#[.int .i64 (k : Int), wv g W] ++ #[.pointer (some ⟨c5, 0, none⟩), .pointer (some ⟨c8, 0, none⟩)]) w fun e w' => e = .returned (.tuple #[]) ∧ BJ c5 c8 i l k w' ∧ Keeps (fun q => q = c8) w w' := by
  change Calls Tryd.prog 30 #[.int .i64 (k : Int), wv g W, .pointer (some ⟨c5, 0, none⟩), .pointer (some ⟨c8, 0, none⟩)] w _
  have H := Lib.hid h
  have HL := Lib.hid (list_any w g X W hW hX ht)
  obtain ⟨v, hv, hv2⟩ := h.b
  have c5c : w.cell? ⟨c5, 0, none⟩ = some (.int .i64 i) := by rw [cell_of_row w c5 0 _ _ _ h.a]; rfl
  have HV := Lib.hid (And.intro hv hv2)
  have HM : Hid (listB X (64 * W) = listB X R) := Lib.hid (listB_more hXR _ hR)
  clear h hX ht hv hv2
  by_cases hki : k = i
  · have e1 : ((k : Int) == (i : Int)) = true := beq_iff_eq.2 (by omega)
    have HKI := Lib.hid hki
    have HLL := Lib.hid (hl hki)
    clear hki hl
    go_enter Tryd.func30, Tryd.ntmps30
    go_wp2_with fail
    refine HL.out.mono ?_
    rintro e w1 ⟨u, rfl, hu⟩
    rw [HM.out, HLL.out] at hu
    obtain ⟨aa, ca, rfl, _⟩ := own_form hu.o
    have HU := Lib.hid hu
    have r8 : w1.heap[c8]? = some (.cells #[v] 22 (0, 0)) := (hu.k.block c8 (Array.getElem?_eq_some_iff.1 HV.out.1).1 (fun e => e)).trans HV.out.1
    have f8 : w1.frozen? ⟨c8, 0, none⟩ = false := frozen_of_row w1 c8 0 _ _ r8
    have c8c : w1.cell? ⟨c8, 0, none⟩ = some v := by rw [cell_of_row w1 c8 0 _ _ _ r8]; rfl
    have HR8 := Lib.hid r8
    clear hu r8
    go_wp2_with fail
    go_returns
    refine ⟨rfl, ⟨?_, .slice aa l.length ca, ?_, ?_⟩, ((HU.out.k.mono (T := fun q => q = c8) (fun _ _ e => e.elim)).setCell (.inl rfl) _)⟩
    · refine (Below.heap_setCell _ _ _ _ (fun e => ?_)).trans ((HU.out.k.block c5 (Array.getElem?_eq_some_iff.1 H.out.a).1 (fun e => e)).trans H.out.a)
      simp only at e
      have h1 := H.out.a
      rw [e, HV.out.1] at h1
      injection h1 with h1
      injection h1 with _ h1 _
      exact absurd h1 (by decide)
    · rw [heap_setCell_same w1 c8 0 _ _ _ HR8.out]; rfl
    · rw [if_pos (by have := HKI.out; omega)]
      have ho := own_mono HU.out.o hc
      exact own_kept ho (fun q hq => Below.heap_setCell _ _ _ _ (fun e => by have := own_lo ho q hq; simp only at e; omega))
  · have e1 : ((k : Int) == (i : Int)) = false := beq_eq_false_iff_ne.2 (by omega)
    have HKI := Lib.hid hki
    clear hki hl
    go_enter Tryd.func30, Tryd.ntmps30
    go_wp2_with fail
    go_returns
    refine ⟨rfl, ⟨H.out.a, v, HV.out.1, ?_⟩, Keeps.refl _ _⟩
    have h2 := HV.out.2
    by_cases hk2 : k ≤ i
    · rw [if_pos hk2]
      rw [if_pos (by have := HKI.out; omega)] at h2
      exact h2
    · rw [if_neg hk2]
      rw [if_neg (by omega)] at h2
      exact h2
set_option maxRecDepth 100000 in
set_option maxHeartbeats 6400000 in
theorem behind_yes (f : Fx) (w : World) (hok : FxOk w f) (hm : f.may = true) (R : Nat) (hR : f.regs = (R : Int)) (hs : SmF f) (ht : LaidT w) (b i : Nat) (B : Bx) (hB : f.bl[b]? = some B) (hi : i < B.n) :
    Calls Tryd.prog 14 #[fv f, .int .i64 (b : Int), .int .i64 (i : Int)] w fun e w' => ∃ v O, e = .returned v ∧ Least (bls f) O ∧ Own w w' v (listB (backs (B.l.drop (i + 1)) (O b)) R) := by
  obtain ⟨R2, e1, hR2, hform, hbl⟩ := may_regs hm
  obtain rfl : R2 = R := by rw [hR] at e1; omega
  have hk0 : ∀ o, Keeps No w (w.alloc o) := fun o => (Keeps.refl _ _).alloc o
  have hblt : b < f.bn := by have := (List.getElem?_eq_some_iff.1 hB).1; have := hok.len; omega
  obtain ⟨bb, bo, B', hB', hba, hcB, hBA⟩ := Fx.get hok hblt
  obtain rfl : B = B' := Option.some.inj (hB.symm.trans hB')
  have HFT := Lib.hid (fun x hx => form_fit hform hR (List.mem_of_getElem? hB) (x := x) hx)
  have HOK := Lib.hid hok
  have HS := Lib.hid hs
  have HT := Lib.hid ht
  have HM := Lib.hid hm
  have HFO := Lib.hid hform
  have HRG := Lib.hid hR
  have HB := Lib.hid hB
  have HBA := Lib.hid hBA
  have HW : Hid (R2 ≤ 64 * wordsOf R2 ∧ wordsOf R2 ≤ 10000) := Lib.hid (by unfold wordsOf; omega)
  have hcap := hBA.cap
  have hbnc := hok.cap
  unfold maxLen at hcap hbnc
  have hx4 := fx_boxed f w 25 4 _ rfl
  have b0 : (0 : Int) ≤ (b : Int) := by omega
  have b1 : (b : Int) < (f.bn : Int) := by omega
  have b2 : ¬ (b : Int) < 0 := by omega
  have i0 : ¬ (i : Int) < 0 := by omega
  have i1 : (i : Int) < (B.n : Int) := by omega
  have HCB := Lib.hid hcB
  obtain ⟨FB, hFB⟩ : ∃ q, w.heap.size = q := ⟨_, rfl⟩
  unfold fv
  clear hok hm hR hs ht e1 hform hbl hB' hBA hcB
  go_enter Tryd.func14, Tryd.ntmps14
  obtain ⟨Ba, Bn, Bc, Bl⟩ := B
  simp only at hcap i1
  simp only at HFT HBA
  go_wp2_with fail
  obtain ⟨w2, hw2⟩ : ∃ W, (w.alloc (.cells #[.string f.name, .int .i64 f.params, .int .i64 f.regs, f.slots.v, .slice f.ba f.bn f.bc, .bool f.value] 25)).alloc (.cells #[.int .i64 (i : Int)] 3) = W := ⟨_, rfl⟩
  rw [hba] at hw2
  have hk2 : Keeps No (w.alloc (.cells #[.string f.name, .int .i64 f.params, .int .i64 f.regs, f.slots.v, .slice f.ba f.bn f.bc, .bool f.value] 25)) w2 := by rw [hba, ← hw2]; exact (Keeps.refl _ _).alloc _
  have hkw : Keeps No w w2 := ((Keeps.refl _ _).alloc _).trans hk2 (fun _ _ e => e)
  have hf2 : f.at_ w2 FB 0 := by rw [← hFB]; exact (fx_boxed f w 25).no hk2
  have r5 : w2.heap[FB + 1]? = some (.cells #[.int .i64 (i : Int)] 3 (0, 0)) := by
    rw [← hw2, ← hFB]
    have := heap_alloc_new (w.alloc (.cells #[.string f.name, .int .i64 f.params, .int .i64 f.regs, f.slots.v, .slice (some ⟨bb, bo, none⟩) f.bn f.bc, .bool f.value] 25)) (.cells #[.int .i64 (i : Int)] 3)
    simpa using this
  have HF2 := Lib.hid hf2
  have HKW := Lib.hid hkw
  have HR5 := Lib.hid r5
  have HS2 : Hid (w2.heap.size = FB + 2) := Lib.hid (by rw [← hw2, ← hFB]; simp)
  have HMA := Lib.hid (fun W1 (hk : Keeps No w2 W1) => may_any f FB 0 W1 (HF2.out.no hk) (HOK.out.no (HKW.out.trans hk (fun _ _ e => e))))
  rw [HM.out] at HMA
  have p5 : ∀ u : KW w2, u.W.cell? ⟨FB + 1, 0, none⟩ = some (.int .i64 (i : Int)) := fun u => u.cell (by rw [cell_of_row w2 _ 0 _ _ _ r5]; rfl)
  have p4 : ∀ u : KW w2, u.W.cell? ⟨FB, 4, none⟩ = some (.slice (some ⟨bb, bo, none⟩) f.bn f.bc) := fun u => u.cell (by have := hf2 4 _ rfl; rw [hba] at this; exact this)
  have pB : ∀ u : KW w2, u.W.cell? ⟨bb, bo + b, none⟩ = some (.slice Ba Bn Bc) := fun u => u.cell (hkw.cell0 HCB.out)
  have hne : Nonempty (KW w2) := ⟨KW.of _⟩
  rw [hw2]
  clear hw2 hk2 hkw hf2 r5 hx4
  have d1 : decide ((b : Int) < 0) = false := decide_eq_false (by omega)
  have d2 : decide (f.bn ≤ b) = false := decide_eq_false (by omega)
  have d3 : decide ((i : Int) < 0) = false := decide_eq_false (by omega)
  have d4 : decide (Bn ≤ i) = false := decide_eq_false (by omega)
  refine wp_region_class (C := fun W => ∃ u : KW w2, W = u.W) (by kernel_rfl) (by kernel_rfl) ⟨⟨World.drew _, (Keeps.refl _ _).drew⟩, rfl⟩ ?_
  repeat (go_big_quiet_step (first | (go_at_call 22; with_reducible refine kw_call _ (HMA.out _ (KW.h _)))))
  refine wpQuiet_nil ?_
  rintro _ ⟨T, rfl⟩
  have hk3 := T.h
  obtain ⟨w3, hw3⟩ : ∃ W, T.W = W := ⟨_, rfl⟩
  rw [hw3] at hk3 ⊢
  clear hw3 p5 p4 pB hne d1 d2 d3 d4
  have HK3 := Lib.hid hk3
  have HKW3 : Hid (Keeps No w w3) := Lib.hid (HKW.out.trans hk3 (fun _ _ e => e))
  have HS3 : Hid (FB + 2 ≤ w3.heap.size) := Lib.hid (by have := hk3.size; have := HS2.out; omega)
  clear hk3 T
  have HOF := Lib.hid (of_any w3 f FB 0 R2 (HF2.out.no HK3.out) (HOK.out.no HKW3.out) HFO.out HRG.out hR2 HS.out (HT.out.keep HKW3.out (fun e => e)))
  go_wp2_with fail
  refine HOF.out.mono ?_
  rintro e w4 ⟨M, I, O, rfl, hl⟩
  go_upto_region 5 with fail
  have HL := Lib.hid hl
  obtain ⟨GI, GO, gi, go, hM, hGI, hGO, hq, hls⟩ := hl.lv.ex
  obtain ⟨w5, hw5⟩ : ∃ W, w4.alloc (.cells #[.slice none 0 0] 22) = W := ⟨_, rfl⟩
  obtain ⟨C8, hC8⟩ : ∃ q, w4.heap.size = q := ⟨_, rfl⟩
  have hk5 : Keeps No w4 w5 := by rw [← hw5]; exact (Keeps.refl _ _).alloc _
  have HK5 : Hid (Keeps No w3 w5) := Lib.hid (hl.k.trans hk5 (fun _ _ e => e))
  have l5 : ∀ {k o}, w4.heap[k]? = some o → w5.heap[k]? = some o := fun {k o} h => (hk5.block k (Array.getElem?_eq_some_iff.1 h).1 (fun e => e)).trans h
  have r8 : w5.heap[C8]? = some (.cells #[.slice none 0 0] 22 (0, 0)) := by rw [← hw5, ← hC8]; exact heap_alloc_new _ _
  have s5 : w5.heap.size = C8 + 1 := by rw [← hw5, ← hC8]; simp
  have hMl : M < C8 := by rw [← hC8]; exact (Array.getElem?_eq_some_iff.1 hM).1
  have hgl : go b < C8 := by rw [← hC8]; exact (hq.dq b hblt).lt
  have hg3 := (hls b hblt).2
  have h3C : w3.heap.size ≤ C8 := by rw [← hC8]; exact hl.k.size
  have hTl : 0 < w3.heap.size := (HT.out.keep HKW3.out (fun e => e)).blk
  have cM1 : w5.cell? ⟨M, 1, none⟩ = some (.slice (some ⟨GO, 0, none⟩) f.bn f.bn) := by rw [cell_of_row w5 M 1 _ _ _ (l5 hM)]; rfl
  have cGO : w5.cell? ⟨GO, b, none⟩ = some (wv (go b) (wordsOf R2)) := by
    rw [cell_of_row w5 GO b _ _ _ (l5 hGO), List.getElem?_toArray]; exact slotRow_get _ _ hblt hblt
  have hfit : ∀ x ∈ Bl, Fit (64 * wordsOf R2) x := fun x hx => by
    have h := HFT.out x hx
    have hw := HW.out.1
    exact ⟨fun r hr => by have := h.1 r hr; omega, fun hd => by have := h.2 hd; omega⟩
  have hO := (hl.bd b hblt).2.1
  have hBmem : (⟨Ba, Bn, Bc, Bl⟩ : Bx) ∈ f.bl := List.mem_of_getElem? HB.out
  have HBK := Lib.hid (back_any w3 w5 M (go b) (O b) (wordsOf R2) _ f FB 0 b ⟨Ba, Bn, Bc, Bl⟩ (.func (.func 30) #[] #[.pointer (some ⟨FB + 1, 0, none⟩), .pointer (some ⟨C8, 0, none⟩)]) true (fun q => q = C8) (BJ (FB + 1) C8 i (listB (backs (Bl.drop (i + 1)) (O b)) R2))
    (HF2.out.no HK3.out) (HOK.out.no HKW3.out) HB.out (fun x hx => ⟨hfit x hx, HS.out.args _ hBmem x hx⟩) HW.out.2
    ⟨HK5.out, l5 hM, (hq.dq b hblt).keep hk5 (fun e => e), HT.out.keep (HKW3.out.trans HK5.out (fun _ _ e => e)) (fun e => e)⟩ (fun w1 h => ⟨by rw [cell_of_row w1 M 2 _ _ _ h]; rfl, by rw [cell_of_row w1 M 3 _ _ _ h]; rfl⟩)
    (type_ne hM (hq.dq b hblt) (by decide)) hg3 (by omega)
    ⟨(((HK3.out.trans HK5.out (fun _ _ e => e)).block (FB + 1) (by rw [HS2.out]; omega) (fun e => e)).trans HR5.out), _, r8, by rw [if_neg (by show ¬ Bn ≤ i; have := i1; omega)]⟩
    (fun k w1' w2' h hk => h.keep hk (fun q e => by have := HS3.out; rcases e with rfl | rfl <;> omega))
    (fun h => by cases h)
    (fun _ => ⟨_, _, rfl, fun _ _ => rfl, fun q e => by subst e; omega, fun k w1' hk hsz hj hbk => (behind1_any w1' (FB + 1) C8 i k (go b) (wordsOf R2) (backs (Bl.drop (k + 1)) (O b)) R2 _ hj hbk.s hbk.t HW.out.1 (backs_lt hO (fun x hx => HFT.out x (List.mem_of_mem_drop hx))) HW.out.2 (fun e => by rw [e]) (by omega)).mono (fun e w2' h => h)⟩))
  rw [hw5]
  clear hl hM hGI hGO hq hls hw5 hk5 l5 r8 s5 hMl hgl hg3 h3C hTl hfit hO hBmem HOF
  rw [hC8]
  go_wp2_with fail
  refine HBK.out.mono ?_
  rintro e w6 ⟨rfl, hj, hb6⟩
  obtain ⟨v, hv, hv2⟩ := hj.b
  rw [if_pos (Nat.zero_le _)] at hv2
  have c8c : w6.cell? ⟨C8, 0, none⟩ = some v := by rw [cell_of_row w6 C8 0 _ _ _ hv]; rfl
  have HV := Lib.hid (own_mono (base' := w.heap.size) hv2 (by have := HS3.out; have := HL.out.k.size; omega))
  have HK6 : Hid (Keeps No w w6) := Lib.hid (HKW3.out.trans hb6.k (fun _ _ e => e))
  clear hj hb6 hv hv2 HBK
  go_wp2_with fail
  go_returns
  exact ⟨v, rfl, O, HL.out.least, HV.out, HK6.out⟩
end Go.Proofs.YtpjilcfmcbapcaaDoor
