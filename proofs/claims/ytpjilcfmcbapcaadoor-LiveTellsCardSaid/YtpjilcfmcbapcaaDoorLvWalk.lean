/- (*span.Live).Walk. -/
import Derived.Test.YtpjilcfmcbapcaaDoorLvIn
import Derived.Test.YtpjilcfmcbapcaaDoorMix
namespace Go.Proofs.YtpjilcfmcbapcaaDoor
open Go.RowKit
set_option linter.unusedVariables false
set_option linter.unusedSimpArgs false

theorem walk1_any (w : World) (P BX FS : Nat) (caps : Array Value) (b k g W : Nat) (hP : w.heap[P]? = some (.cells #[.func (.func FS) #[] caps] 70 (0, 0))) (hX : w.heap[BX]? = some (.cells #[.int .i64 (b : Int)] 3 (0, 0)))
    (hF : ∀ (as' : Array Value) (W1 : World), (callFunc FS as').run Tryd.prog W1 = .ok (.enter FS as') W1) (Q : World → Prop)
    (h : Calls Tryd.prog FS (#[.int .i64 (b : Int), .int .i64 (k : Int), wv g W] ++ caps) w fun e w2 => e = .returned (.tuple #[]) ∧ Q w2) :
    Calls Tryd.prog 42 (#[.int .i64 (k : Int), wv g W] ++ #[.pointer (some ⟨P, 0, none⟩), .pointer (some ⟨BX, 0, none⟩)]) w fun e w2 => e = .returned (.tuple #[]) ∧ Q w2 := by
  change Calls Tryd.prog 42 #[.int .i64 (k : Int), wv g W, .pointer (some ⟨P, 0, none⟩), .pointer (some ⟨BX, 0, none⟩)] w _
  have c6 : w.cell? ⟨P, 0, none⟩ = some (.func (.func FS) #[] caps) := by rw [cell_of_row w P 0 _ _ _ hP]; rfl
  have c7 : w.cell? ⟨BX, 0, none⟩ = some (.int .i64 (b : Int)) := by rw [cell_of_row w BX 0 _ _ _ hX]; rfl
  have H := Lib.hid h
  clear h hP hX
  go_enter Tryd.func42, Tryd.ntmps42
  go_wp2_with fail
  refine Calls.mono H.out ?_
  rintro e w2 ⟨rfl, hq⟩
  have HQ := Lib.hid hq
  clear hq
  go_wp2_with fail
  go_returns
  exact ⟨rfl, HQ.out⟩
set_option maxRecDepth 100000 in
set_option maxHeartbeats 6400000 in
theorem walk_any (w3 w : World) (f : Fx) (fb fo M R : Nat) (I O : Nat → Nat) (hf : f.at_ w3 fb fo) (hok : FxOk w3 f) (hform : f.formOk = true) (hR : f.regs = (R : Int)) (hR2 : R ≤ 100000) (hs : SmF f) (ht : LaidT w3) (hl : LvR w3 w f fb fo M R I O)
    (FS : Nat) (caps : Array Value) (SH : Nat → Prop) (J : Nat → Nat → World → Prop) (hJ0 : J 0 (blk (bls f) 0).length w) (hnext : ∀ b w1, b + 1 < f.bn → J b 0 w1 → J (b + 1) (blk (bls f) (b + 1)).length w1)
    (hst : ∀ b k w1 w2, J b k w1 → Keeps (fun q => w.heap.size ≤ q) w1 w2 → J b k w2)
    (hSH : ∀ q, SH q → w3.heap.size ≤ q ∧ q < w.heap.size ∧ ∃ cs ty, w.heap[q]? = some (.cells cs ty (0, 0)) ∧ ty ≠ 81 ∧ ty ≠ 66 ∧ ty ≠ 61)
    (hF : ∀ (as' : Array Value) (W1 : World), (callFunc FS as').run Tryd.prog W1 = .ok (.enter FS as') W1)
    (hshow : ∀ (b k g : Nat) (B : Bx) (w1 : World), f.bl[b]? = some B → k < B.n → J b (k + 1) w1 → WdAt w1 g (backs (B.l.drop (k + 1)) (O b)) (wordsOf R) → LaidT w1 → Keeps No w3 w1 →
      Calls Tryd.prog FS (#[.int .i64 (b : Int), .int .i64 (k : Int), wv g (wordsOf R)] ++ caps) w1 fun e w2 => e = .returned (.tuple #[]) ∧ J b k w2 ∧ Keeps SH w1 w2) :
    Calls Tryd.prog 25 #[.pointer (some ⟨M, 0, none⟩), .func (.func FS) #[] caps] w fun e w' => e = .returned (.tuple #[]) ∧ (∃ p, p + 1 = f.bn ∧ J p 0 w' ∨ f.bn = 0) ∧ Keeps No w3 w' := by
  have HF := Lib.hid hf
  have HOK := Lib.hid hok
  have HFO := Lib.hid hform
  have HRG := Lib.hid hR
  have HS := Lib.hid hs
  have HT := Lib.hid ht
  have HL := Lib.hid hl
  have HJ0 := Lib.hid hJ0
  have HNX := Lib.hid hnext
  have HST := Lib.hid hst
  have HSH := Lib.hid hSH
  have HSW := Lib.hid hshow
  obtain ⟨GI, GO, gi, go, hM, hGI, hGO, hq, hls⟩ := hl.lv.ex
  have HM := Lib.hid hM
  have HGO := Lib.hid hGO
  have HQ := Lib.hid hq
  have HLS := Lib.hid hls
  have HW : Hid (R ≤ 64 * wordsOf R ∧ wordsOf R ≤ 10000) := Lib.hid (by unfold wordsOf; omega)
  have hbn := hs.bn
  have hbc := hok.cap
  unfold maxLen at hbc
  have cM2 : w.cell? ⟨M, 2, none⟩ = some (.pointer (some ⟨fb, fo, none⟩)) := by rw [cell_of_row w M 2 _ _ _ hM]; rfl
  have cf2 := hl.k.cell0 (hf 2 _ rfl)
  have cf4 := hl.k.cell0 (hf 4 _ rfl)
  rw [hR] at cf2
  have hMl : M < w.heap.size := (Array.getElem?_eq_some_iff.1 hM).1
  have hfl : fb < w.heap.size := World.block_lt_of_cell? _ _ cf2
  clear hf hok hform hR hs ht hl hJ0 hnext hst hSH hshow hM hGI hGO hq hls
  have HNEW := Lib.hid (fun v => snew_any v R hR2)
  go_enter Tryd.func25, Tryd.ntmps25
  go_wp2_with fail
  refine (HNEW.out _).mono ?_
  rintro e w2 ⟨rfl, hs2, hk2⟩
  obtain ⟨P, hP⟩ : ∃ q, w.heap.size = q := ⟨_, rfl⟩
  have hk02 : Keeps No w w2 := ((Keeps.refl _ _).alloc _).trans hk2 (fun _ _ e => e)
  have rP : w2.heap[P]? = some (.cells #[.func (.func FS) #[] caps] 70 (0, 0)) := by
    rw [hk2.block P (by rw [← hP]; simp) (fun e => e), ← hP]; exact heap_alloc_new _ _
  obtain ⟨g, hg⟩ : ∃ q, (w.alloc (.cells #[.func (.func FS) #[] caps] 70)).heap.size = q := ⟨_, rfl⟩
  have hPg : P < g := by rw [← hg, ← hP]; simp
  rw [hg] at hs2
  have hgv : w.heap.size + 1 = g := by rw [← hg]; simp
  have HP := Lib.hid hP
  have HK02 := Lib.hid hk02
  have HRP := Lib.hid rP
  have HPG := Lib.hid hPg
  have HG0 := Lib.hid hs2
  have cM2' := hk02.cell0 cM2
  have cf4' := hk02.cell0 cf4
  clear hs2 hk2 hk02 rP hPg cM2 cf2 cf4 hMl hfl
  rw [hg, hP]
  clear hP hg hgv
  go_wp2_with fail
  go_loopg [22] f.bn (fun k v wr => ∃ i : Nat, v = .int .i64 (i : Int) ∧ i ≤ f.bn ∧ k = f.bn - i ∧ Hid ((i = 0 ∧ J 0 (blk (bls f) 0).length wr) ∨ ∃ p, i = p + 1 ∧ J p 0 wr) ∧ Hid (∃ X, WdAt wr g X (wordsOf R)) ∧ Hid (Keeps (fun q => SH q ∨ q = g) w2 wr))
  case atStart => exact ⟨0, rfl, Nat.zero_le _, rfl, Lib.hid (.inl ⟨rfl, HST.out _ _ _ _ HJ0.out (HK02.out.mono (fun _ _ e => e.elim))⟩), Lib.hid ⟨0, HG0.out⟩, Lib.hid (Keeps.refl _ _)⟩
  case round =>
    obtain ⟨i, rfl, hi, hgk, HJ, HX, HK⟩ := hrel
    by_cases hlt : i < f.bn
    · have hlt' : (i : Int) < (f.bn : Int) := by omega
      have i0 : (0 : Int) ≤ (i : Int) := by omega
      have HJI : Hid (J i (blk (bls f) i).length wr) := Lib.hid (by
        rcases HJ.out with ⟨rfl, h⟩ | ⟨p, rfl, h⟩
        · exact h
        · exact HNX.out p wr hlt h)
      obtain ⟨X, hX⟩ := HX.out
      have hBm : ∃ B, f.bl[i]? = some B := ⟨_, List.getElem?_eq_getElem (by rw [HOK.out.len]; exact hlt)⟩
      obtain ⟨B, hB⟩ := hBm
      have HB := Lib.hid hB
      have hbk := blk_get hB
      have hBl : B.l.length = B.n := (HOK.out.ok B (List.mem_of_getElem? hB)).len
      have hP := HP.out
      have hPg := HPG.out
      have lw : ∀ {k : Nat} {cs : Array Value} {ty : TypeId}, w.heap[k]? = some (.cells cs ty (0, 0)) → (ty = 81 ∨ ty = 66 ∨ ty = 61) → wr.heap[k]? = some (.cells cs ty (0, 0)) := fun {k : Nat} {cs : Array Value} {ty : TypeId} h ht => by
        have hk := (Array.getElem?_eq_some_iff.1 h).1
        have h2 := (HK02.out.block k hk (fun e => e)).trans h
        refine (HK.out.block k (Array.getElem?_eq_some_iff.1 h2).1 (fun e => ?_)).trans h2
        rcases e with e | e
        · obtain ⟨_, _, cs2, ty2, h3, n1, n2, n3⟩ := HSH.out k e
          rw [h] at h3
          injection h3 with h3
          injection h3 with _ h3 _
          subst h3
          rcases ht with ht | ht | ht
          · exact n1 ht
          · exact n2 ht
          · exact n3 ht
        · omega
      have hgr : g < wr.heap.size := hX.lt
      have rM := lw HM.out (.inr (.inr rfl))
      have rO := lw HGO.out (.inr (.inl rfl))
      have rq := lw (HQ.out.dq i hlt) (.inl rfl)
      have rP : wr.heap[P]? = some (.cells #[.func (.func FS) #[] caps] 70 (0, 0)) := (HK.out.block P (Array.getElem?_eq_some_iff.1 HRP.out).1 (fun e => by
        rcases e with e | e
        · have := (HSH.out P e).2.1; omega
        · omega)).trans HRP.out
      have gq : go i < w.heap.size := (HQ.out.dq i hlt).lt
      have hMl : M < w.heap.size := (Array.getElem?_eq_some_iff.1 HM.out).1
      have hOl : GO < w.heap.size := (Array.getElem?_eq_some_iff.1 HGO.out).1
      have HK3 : Hid (Keeps No w3 wr) := Lib.hid ((HL.out.k.trans HK02.out (fun _ _ e => e)).trans HK.out (fun q hq e => by
        have h0 := HL.out.k.size
        rcases e with e | e
        · have := (HSH.out q e).1; omega
        · omega))
      go_wp2_with fail
      obtain ⟨wb, hwb⟩ : ∃ W', wr.alloc (.cells #[.int .i64 (i : Int)] 3) = W' := ⟨_, rfl⟩
      obtain ⟨BX, hBX⟩ : ∃ q, wr.heap.size = q := ⟨_, rfl⟩
      have hkb : Keeps No wr wb := by rw [← hwb]; exact (Keeps.refl _ _).alloc _
      have lb : ∀ {k o}, wr.heap[k]? = some o → wb.heap[k]? = some o := fun {k o} h => (hkb.block k (Array.getElem?_eq_some_iff.1 h).1 (fun e => e)).trans h
      have rX : wb.heap[BX]? = some (.cells #[.int .i64 (i : Int)] 3 (0, 0)) := by rw [← hwb, ← hBX]; exact heap_alloc_new _ _
      have sb : wb.heap.size = BX + 1 := by rw [← hwb, ← hBX]; simp
      have HRX := Lib.hid rX
      have HRM := Lib.hid (lb rM)
      have HRQ : Hid (WdAt wb (go i) (O i) (wordsOf R)) := Lib.hid (lb rq)
      have HXG : Hid (WdAt wb g X (wordsOf R)) := Lib.hid (hX.keep hkb (fun e => e))
      have HRP2 := Lib.hid (lb rP)
      have HKB : Hid (Keeps No wr wb ∧ wb.heap.size = BX + 1 ∧ wr.heap.size = BX) := Lib.hid ⟨hkb, sb, hBX⟩
      have p1 : ∀ u : KS (fun q => q = g) wb, u.W.cell? ⟨M, 1, none⟩ = some (.slice (some ⟨GO, 0, none⟩) f.bn f.bn) := fun u => u.cell (by rw [cell_of_row wb M 1 _ _ _ (lb rM)]; rfl) (by simp only; omega)
      have p2 : ∀ u : KS (fun q => q = g) wb, u.W.cell? ⟨BX, 0, none⟩ = some (.int .i64 (i : Int)) := fun u => u.cell (by rw [cell_of_row wb BX 0 _ _ _ rX]; rfl) (by simp only; omega)
      have p3 : ∀ u : KS (fun q => q = g) wb, u.W.cell? ⟨GO, i, none⟩ = some (wv (go i) (wordsOf R)) := fun u => u.cell (by rw [cell_of_row wb GO i _ _ _ (lb rO), List.getElem?_toArray]; exact slotRow_get _ _ hlt hlt) (by simp only; omega)
      have hne : Nonempty (KS (fun q => q = g) wb) := ⟨⟨wb, Keeps.refl _ _⟩⟩
      have HGE : Hid (BX ≠ g ∧ P ≠ g ∧ M ≠ g ∧ go i ≠ g ∧ g < BX ∧ w.heap.size = P ∧ P < BX ∧ M < P ∧ P < g) := Lib.hid (by omega)
      rw [hwb, hBX]
      clear hwb hkb lb rX sb hBX rM rO rq rP lw hMl hOl gq hgr hP hPg hX
      refine Mix.wp_region_mix (fun W' => ∃ u : KS (fun q => q = g) wb, W' = u.W) [] (by kernel_rfl) ?_
      have HV0 : Hid (Keeps No wb wb.drew) := Lib.hid ((Keeps.refl _ wb).drew)
      generalize wb.drew = v0 at HV0 ⊢
      refine Mix.mix_seg 0 8 1 (by kernel_rfl) (by kernel_rfl) rfl rfl ⟨⟨v0, HV0.out.mono (fun _ _ e => e.elim)⟩, rfl⟩ ?_
      simp only [List.drop_succ_cons, List.drop_zero, List.take_succ_cons, List.take_zero]
      repeat (go_big_quiet_step (fail))
      refine wpQuiet_nil ?_
      clear hne p1 p2 p3
      refine Mix.mix_one 8 0 (by kernel_rfl) rfl rfl ?_
      simp only [List.drop_succ_cons, List.drop_zero, List.take_succ_cons, List.take_zero]
      go_wp2_with (refine wpList_copyS (o := ⟨some 33, _, _, _, _, _⟩) _ rfl (.tmp 25) (.tmp 32) rfl g (go i) X (O i) (wordsOf R) rfl rfl (HXG.out.keep HV0.out (fun e => e)) (HRQ.out.keep HV0.out (fun e => e)) ?_)
      intro w5 hs5 hk5
      have HK5 : Hid (Keeps (fun q => q = g) wb w5) := Lib.hid ((HV0.out.mono (T := fun q => q = g) (fun _ _ e => e.elim)).trans hk5 (fun _ _ e => e))
      have HS5 := Lib.hid hs5
      clear hs5 hk5
      go_wp2_with fail
      refine ⟨.inr ⟨⟨w5, HK5.out⟩, rfl⟩, ?_⟩
      refine Mix.mix_end (by kernel_rfl) ?_
      have hE := HGE.out
      have hSH5 : ∀ q, SH q → w3.heap.size ≤ q ∧ q < P ∧ q ≠ M := fun q e => by
        obtain ⟨h1, h2, cs, ty, h3, _, _, h4⟩ := HSH.out q e
        exact ⟨h1, by omega, fun e2 => by
          subst e2
          rw [HM.out] at h3
          injection h3 with h3
          injection h3 with _ h3 _
          exact h4 h3.symm⟩
      have r5X := (HK5.out.block BX (by have := HKB.out; omega) hE.1).trans HRX.out
      have r5P := (HK5.out.block P (Array.getElem?_eq_some_iff.1 HRP2.out).1 hE.2.1).trans HRP2.out
      have r5M := (HK5.out.block M (Array.getElem?_eq_some_iff.1 HRM.out).1 hE.2.2.1).trans HRM.out
      have k35 : Keeps No w3 w5 := (HK3.out.trans HKB.out.1 (fun _ _ e => e)).trans HK5.out (fun q hq e => by
        have h0 := HL.out.k.size
        omega)
      have kw5 : Keeps (fun q => w.heap.size ≤ q) wr w5 := (HKB.out.1.mono (T := fun q => w.heap.size ≤ q) (fun _ _ e => e.elim)).trans HK5.out (fun q _ e => by omega)
      have k25 : Keeps (fun q => SH q ∨ q = g) w2 w5 := HK.out.trans ((HKB.out.1.mono (T := fun q => q = g) (fun _ _ e => e.elim)).trans HK5.out (fun _ _ e => e)) (fun _ _ e => .inr e)
      have s5 : BX < w5.heap.size := by have := HK5.out.size; have := HKB.out.2.1; omega
      have sP : P < w2.heap.size := (Array.getElem?_eq_some_iff.1 HRP.out).1
      have sz2 : w2.heap.size ≤ BX := by have := HK.out.size; have := HKB.out.2.2; omega
      have h3P : w3.heap.size ≤ P := by have := HL.out.k.size; omega
      have hfit : ∀ x ∈ B.l, Fit (64 * wordsOf R) x := fun x hx => by
        have h := form_fit HFO.out HRG.out (List.mem_of_getElem? HB.out) hx
        have hw := HW.out.1
        exact ⟨fun r hr => by have := h.1 r hr; omega, fun hd => by have := h.2 hd; omega⟩
      have HBK := Lib.hid (back_any w3 w5 M g (O i) (wordsOf R) _ f fb fo i B (.func (.func 42) #[] #[.pointer (some ⟨P, 0, none⟩), .pointer (some ⟨BX, 0, none⟩)]) true SH
        (fun k w1 => J i k w1 ∧ w1.heap[P]? = some (.cells #[.func (.func FS) #[] caps] 70 (0, 0)) ∧ w1.heap[BX]? = some (.cells #[.int .i64 (i : Int)] 3 (0, 0)) ∧ Keeps (fun q => SH q ∨ q = g) w2 w1)
        HF.out HOK.out HB.out (fun x hx => ⟨hfit x hx, HS.out.args B (List.mem_of_getElem? HB.out) x hx⟩) HW.out.2
        ⟨k35, r5M, HS5.out, HT.out.keep k35 (fun e => e)⟩ (fun w1 h => ⟨by rw [cell_of_row w1 M 2 _ _ _ h]; rfl, by rw [cell_of_row w1 M 3 _ _ _ h]; rfl⟩)
        hE.2.2.1 (by omega) (by have := HT.out.blk; omega)
        ⟨by rw [← hBl, ← hbk]; exact HST.out _ _ _ _ HJI.out kw5, r5P, r5X, k25⟩
        (fun k w1' w2' h hk => ⟨HST.out _ _ _ _ h.1 (hk.mono (fun q _ e => by rcases e with e | e <;> omega)), (hk.block P (Array.getElem?_eq_some_iff.1 h.2.1).1 (fun e => by rcases e with e | e <;> omega)).trans h.2.1, (hk.block BX (Array.getElem?_eq_some_iff.1 h.2.2.1).1 (fun e => by rcases e with e | e <;> omega)).trans h.2.2.1,
          h.2.2.2.trans hk (fun q hq e => by rcases e with e | e; exact .inr e; omega)⟩)
        (fun h => by cases h)
        (fun _ => ⟨_, _, rfl, fun _ _ => rfl, fun q e => by have h1 := hSH5 q e; have h2 := HT.out.blk; omega, fun k w1' hk hsz hj hbk2 =>
          (walk1_any w1' P BX FS caps i k g (wordsOf R) hj.2.1 hj.2.2.1 hF (fun w2' => J i k w2' ∧ Keeps SH w1' w2') (HSW.out i k g B w1' HB.out hk hj.1 hbk2.s hbk2.t hbk2.k)).mono (fun e w2' h => ⟨h.1, ⟨h.2.1, (h.2.2.block P (Array.getElem?_eq_some_iff.1 hj.2.1).1 (fun e => by have := hSH5 P e; omega)).trans hj.2.1, (h.2.2.block BX (Array.getElem?_eq_some_iff.1 hj.2.2.1).1 (fun e => by have := hSH5 BX e; omega)).trans hj.2.2.1, hj.2.2.2.trans h.2.2 (fun _ _ e => .inl e)⟩, h.2.2⟩)⟩))
      have cX5 : w5.cell? ⟨BX, 0, none⟩ = some (.int .i64 (i : Int)) := by rw [cell_of_row w5 BX 0 _ _ _ r5X]; rfl
      clear hE hSH5 r5X r5P r5M k35 kw5 k25 s5 sP sz2 h3P hfit hbk hBl hB
      go_wp2_with fail
      refine HBK.out.mono ?_
      rintro e w6 ⟨rfl, hj, hb⟩
      have HJ6 : Hid ((i + 1 = 0 ∧ J 0 (blk (bls f) 0).length w6) ∨ ∃ p, i + 1 = p + 1 ∧ J p 0 w6) := Lib.hid (.inr ⟨i, rfl, hj.1⟩)
      have HX6 : Hid (∃ X, WdAt w6 g X (wordsOf R)) := Lib.hid ⟨_, hb.s⟩
      have HK6 := Lib.hid hj.2.2.2
      clear hj hb HBK
      go_wp2_with fail
      go_roundg (f.bn - (i + 1))
      case rel => exact ⟨i + 1, by go_num, by omega, rfl, HJ6, HX6, HK6⟩
      case measure => omega
    · obtain rfl : i = f.bn := by omega
      have hlt' : ¬ (f.bn : Int) < (f.bn : Int) := by omega
      go_wp2_with fail
      go_returns
      refine ⟨rfl, ?_, (HL.out.k.trans HK02.out (fun _ _ e => e)).trans HK.out (fun q hq e => ?_)⟩
      · rcases HJ.out with ⟨h, _⟩ | ⟨p, h, hj⟩
        · exact ⟨0, .inr h⟩
        · exact ⟨p, .inl ⟨h.symm, hj⟩⟩
      · have h0 := HL.out.k.size
        have h1 := HP.out
        have h2 := HPG.out
        rcases e with e | e
        · have := (HSH.out q e).1; omega
        · omega
end Go.Proofs.YtpjilcfmcbapcaaDoor
