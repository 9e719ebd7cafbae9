/- GraphStar, walked. -/
import Derived.Test.YtkiimljdoebclaaDoorGrLawP
import Derived.Test.YtkiimljdoebclaaDoorGrStarMem
namespace Go.Proofs.YtkiimljdoebclaaDoor
open Go.RowKit Gm Go.Maps
set_option linter.unusedVariables false
set_option linter.unusedSimpArgs false

set_option maxRecDepth 100000 in
set_option maxHeartbeats 25600000 in
theorem star_law (x y z : Int) (hx : I64 x) (hy : I64 y) (hz : I64 z) (w : World) (hl : Laid w) : Calls Tryd.prog 4 #[.int .i64 x, .int .i64 y, .int .i64 z] w fun e w' => e = .returned (.bool true) ∧ Keeps No w w' := by
  have HL := Lib.hid hl
  obtain ⟨k, hk, ek⟩ := low_nat x 12 (by omega)
  have HLX : Hid (Calls Tryd.prog 5 #[.int .i64 x, .int .i64 12] w fun e w' => e = .returned (.int .i64 (k : Int)) ∧ Keeps No w w') := Lib.hid (by rw [← ek]; exact low_any x 12 hx (by omega) w)
  obtain ⟨m, hm⟩ : ∃ m, k + 1 = m := ⟨_, rfl⟩
  have hm0 : 0 < m := by omega
  have hm12 : m ≤ 12 := by omega
  obtain ⟨t, ht, et⟩ := low_nat z (m : Int) (by omega)
  have htm : t < m := by omega
  have HLY : Hid (∀ W, Calls Tryd.prog 5 #[.int .i64 z, .int .i64 (m : Int)] W fun e w' => e = .returned (.int .i64 (t : Int)) ∧ Keeps No W w') := Lib.hid (fun W => by rw [← et]; exact low_any z m hz (by omega) W)
  have e1 : IntKind.i64.wrap (1 + (k : Int)) = (m : Int) := by rw [IntKind.wrap_i64]; omega
  have HY := Lib.hid hy
  clear hl hx hy hz ek et hm hk ht
  go_enter Tryd.func4, Tryd.ntmps4
  go_wp2_with fail
  refine HLX.out.mono ?_
  rintro e w1 ⟨rfl, hk1⟩
  have HK1 := Lib.hid hk1
  clear hk1 HLX
  go_wp2_with fail
  refine (HLY.out w1).mono ?_
  rintro e w2 ⟨rfl, hk2⟩
  have HK2 := Lib.hid (HK1.out.trans hk2 (fun _ _ e => e))
  clear hk2 HLY HK1 e1
  go_wp2_with fail
  have HSG0 : Hid (SG w2 (((w2.alloc (.cells xret.cells.toArray 40)).alloc (.cells #[.slice none 0 0, .slice none 0 0, .int .i64 (m : Int)] 26)).alloc (.cells (xfunc (t : Int)).cells.toArray 40)) w2.heap.size (w2.heap.size + 1) m 0 t none 0 [] (.slice (some ⟨w2.heap.size + 1 + 1, 0, none⟩) 1 1) (.slice none 0 0) (.slice none 0 0) [] [] []) := Lib.hid (SG.start w2 m t)
  change Code.wp _ _ _ _ (((w2.alloc (.cells xret.cells.toArray 40)).alloc (.cells #[.slice none 0 0, .slice none 0 0, .int .i64 (m : Int)] 26)).alloc (.cells (xfunc (t : Int)).cells.toArray 40))
  generalize ((w2.alloc (.cells xret.cells.toArray 40)).alloc (.cells #[.slice none 0 0, .slice none 0 0, .int .i64 (m : Int)] 26)).alloc (.cells (xfunc (t : Int)).cells.toArray 40) = w3 at HSG0 ⊢
  obtain ⟨VB, hVB⟩ : ∃ c, w2.heap.size + 1 = c := ⟨_, rfl⟩
  rw [hVB] at HSG0 ⊢
  obtain ⟨MB, hMB⟩ : ∃ c, VB + 1 = c := ⟨_, rfl⟩
  rw [hMB] at HSG0 ⊢
  obtain ⟨RB, hRB⟩ : ∃ c, w2.heap.size = c := ⟨_, rfl⟩
  generalize hRB2 : SG w2 w3 w2.heap.size = F0 at HSG0
  rw [hRB] at hRB2 ⊢
  subst hRB2
  clear hVB hMB hRB
  go_loopg [9, 10, 11, 12] m (fun k mv cv rv fv wr => ∃ (i : Nat) (fa : Option Addr) (fc : Nat) (fl : List Fx) (S R : List Int), fv = .int .i64 (i : Int) ∧ i ≤ m ∧ k = m - i ∧ Hid (SG w2 wr RB VB m i t fa fc fl mv cv rv S S R) ∧ Hid (SR S R i t))
  case atStart => exact ⟨0, none, 0, [], [], [], rfl, Nat.zero_le _, rfl, HSG0, Lib.hid (SR.zero t)⟩
  case round =>
    obtain ⟨i, fa, fc, fl, S, R, rfl, hi, hg, HS, HR⟩ := hrel
    clear HSG0
    by_cases hlt : i < m
    · have hlt' : (i : Int) < (m : Int) := by omega
      have i0 : (0 : Int) ≤ (i : Int) := by omega
      have hvk : VB < wr.heap.size := (Array.getElem?_eq_some_iff.1 HS.out.lf.row).1
      have cv1 : wr.cell? ⟨VB, 1, none⟩ = some (.slice fa i fc) := by rw [cell_of_row wr VB 1 _ _ _ HS.out.lf.row]; rfl
      have r0 : wr.cell? ⟨RB, 0, none⟩ = some (.int .i64 17) := by rw [cell_of_row wr RB 0 _ _ _ HS.out.lf.ret]; rfl
      have r1 : wr.cell? ⟨RB, 1, none⟩ = some (.int .i64 0) := by rw [cell_of_row wr RB 1 _ _ _ HS.out.lf.ret]; rfl
      have r2 : wr.cell? ⟨RB, 2, none⟩ = some (.int .i64 0) := by rw [cell_of_row wr RB 2 _ _ _ HS.out.lf.ret]; rfl
      have r3 : wr.cell? ⟨RB, 3, none⟩ = some (.int .i64 (-1)) := by rw [cell_of_row wr RB 3 _ _ _ HS.out.lf.ret]; rfl
      have r4 : wr.cell? ⟨RB, 4, none⟩ = some (.int .i64 0) := by rw [cell_of_row wr RB 4 _ _ _ HS.out.lf.ret]; rfl
      have r5 : wr.cell? ⟨RB, 5, none⟩ = some (.int .i64 0) := by rw [cell_of_row wr RB 5 _ _ _ HS.out.lf.ret]; rfl
      have r6 : wr.cell? ⟨RB, 6, none⟩ = some (.int .i64 0) := by rw [cell_of_row wr RB 6 _ _ _ HS.out.lf.ret]; rfl
      have r7 : wr.cell? ⟨RB, 7, none⟩ = some (.bool false) := by rw [cell_of_row wr RB 7 _ _ _ HS.out.lf.ret]; rfl
      have r8 : wr.cell? ⟨RB, 8, none⟩ = some (.slice none 0 0) := by rw [cell_of_row wr RB 8 _ _ _ HS.out.lf.ret]; rfl
      have r9 : wr.cell? ⟨RB, 9, none⟩ = some (.slice none 0 0) := by rw [cell_of_row wr RB 9 _ _ _ HS.out.lf.ret]; rfl
      have r10 : wr.cell? ⟨RB, 10, none⟩ = some (.slice none 0 0) := by rw [cell_of_row wr RB 10 _ _ _ HS.out.lf.ret]; rfl
      have HSZ : Hid (w2.heap.size ≤ wr.heap.size) := Lib.hid HS.out.kp.size
      go_wp2_with (at_builtin; refine stop_here ?_)
      unfold Stop
      change wpList _ _ _ _ _ (((wr.alloc (.cells xret.cells.toArray 40)).alloc (.cells #[.slice (some ⟨wr.heap.size, 0, none⟩) 1 1] 43)).alloc (.cells (lfx wr.heap.size (wr.heap.size + 1)).cells.toArray 46))
      have hk2 : Keeps No wr (((wr.alloc (.cells xret.cells.toArray 40)).alloc (.cells #[.slice (some ⟨wr.heap.size, 0, none⟩) 1 1] 43)).alloc (.cells (lfx wr.heap.size (wr.heap.size + 1)).cells.toArray 46)) := (((Keeps.refl No wr).alloc _).alloc _).alloc _
      have q0 : (((wr.alloc (.cells xret.cells.toArray 40)).alloc (.cells #[.slice (some ⟨wr.heap.size, 0, none⟩) 1 1] 43)).alloc (.cells (lfx wr.heap.size (wr.heap.size + 1)).cells.toArray 46)).heap[wr.heap.size]? = some (.cells xret.cells.toArray 40 (0, 0)) := by
        rw [Below.heap_alloc _ _ _ (by first | (simp; done) | (simp; omega)), Below.heap_alloc _ _ _ (by first | (simp; done) | (simp; omega))]; exact heap_alloc_new _ _
      have q1 : (((wr.alloc (.cells xret.cells.toArray 40)).alloc (.cells #[.slice (some ⟨wr.heap.size, 0, none⟩) 1 1] 43)).alloc (.cells (lfx wr.heap.size (wr.heap.size + 1)).cells.toArray 46)).heap[wr.heap.size + 1]? = some (.cells #[.slice (some ⟨wr.heap.size, 0, none⟩) 1 1] 43 (0, 0)) := by
        rw [Below.heap_alloc _ _ _ (by first | (simp; done) | (simp; omega))]
        have h := heap_alloc_new (wr.alloc (.cells xret.cells.toArray 40)) (.cells #[.slice (some ⟨wr.heap.size, 0, none⟩) 1 1] 43)
        simpa using h
      have q2 : (((wr.alloc (.cells xret.cells.toArray 40)).alloc (.cells #[.slice (some ⟨wr.heap.size, 0, none⟩) 1 1] 43)).alloc (.cells (lfx wr.heap.size (wr.heap.size + 1)).cells.toArray 46)).heap[wr.heap.size + 1 + 1]? = some (.cells (lfx wr.heap.size (wr.heap.size + 1)).cells.toArray 46 (0, 0)) := by
        have h := heap_alloc_new ((wr.alloc (.cells xret.cells.toArray 40)).alloc (.cells #[.slice (some ⟨wr.heap.size, 0, none⟩) 1 1] 43)) (.cells (lfx wr.heap.size (wr.heap.size + 1)).cells.toArray 46)
        simpa using h
      generalize ((wr.alloc (.cells xret.cells.toArray 40)).alloc (.cells #[.slice (some ⟨wr.heap.size, 0, none⟩) 1 1] 43)).alloc (.cells (lfx wr.heap.size (wr.heap.size + 1)).cells.toArray 46) = w4 at hk2 q0 q1 q2 ⊢
      have HSZ4 : Hid (w2.heap.size ≤ w4.heap.size) := Lib.hid (Nat.le_trans HSZ.out hk2.size)
      obtain ⟨IB, hIB⟩ : ∃ q, wr.heap.size = q := ⟨_, rfl⟩
      have HIB : Hid (wr.heap.size ≤ IB) := Lib.hid (by omega)
      rw [hIB] at q0 q1 q2 ⊢
      have HQ := Lib.hid (And.intro q0 (And.intro q1 q2))
      have HK4 := Lib.hid hk2
      have HO4 : Hid (w4.ownsRow w2.heap.size 46 6 (.slice fa i fc) i (fl.flatMap Fx.cells)) := Lib.hid (own_kept HS.out.lf.own (fun q hq => hk2.block q (ownG_lt HS.out.lf.own q hq) (fun e => e)))
      clear q0 q1 q2 hk2 hIB r0 r1 r2 r3 r4 r5 r6 r7 r8 r9 r10 hvk cv1
      refine wpList_appF _ rfl (.tmp 34) (.tmp 40) rfl w2.heap.size (.slice fa i fc) i fl (lfx IB (IB + 1)) (IB + 1 + 1) rfl HO4.out rfl HQ.out.2.2 (by omega) HSZ4.out ?_
      intro g' cap w5 ho hg5
      have hk5 : Keeps (fun q => (Value.slice fa i fc).ownBlock = some q) w4 w5 := (Keeps.refl _ _).grown hg5 (fun q e => .inl e)
      have HS6 : Hid (SG w2 (w5.setCell ⟨VB, 1, none⟩ (.slice (some ⟨g', 0, none⟩) (i + 1) cap)) RB VB m (i + 1) t (some ⟨g', 0, none⟩) cap (fl ++ [lfx IB (IB + 1)]) u9 u10 u11 S S R) := Lib.hid (HS.out.leaf HK4.out HIB.out HQ.out.1 HQ.out.2.1 hk5 ho)
      have hV4 := (HK4.out.block VB (Array.getElem?_eq_some_iff.1 HS.out.lf.row).1 (fun e => e)).trans HS.out.lf.row
      have hV5 : w5.heap[VB]? = some (.cells #[.slice none 0 0, .slice fa i fc, .int .i64 (m : Int)] 26 (0, 0)) := (hk5.block VB (Array.getElem?_eq_some_iff.1 hV4).1 (fun e => absurd (own_row_typ HO4.out e hV4) (by decide))).trans hV4
      have c5 : w5.cell? ⟨VB, 1, none⟩ = some (.slice fa i fc) := by rw [cell_of_row w5 VB 1 _ _ _ hV5]; rfl
      have f5 : w5.frozen? ⟨VB, 1, none⟩ = false := frozen_of_row w5 VB 1 _ _ hV5
      clear ho hg5 hk5 hV4 hV5 HQ HK4 HO4 HSZ4 HIB HS
      go_upto_region 12 with fail
      clear c5 f5
      generalize w5.setCell ⟨VB, 1, none⟩ (.slice (some ⟨g', 0, none⟩) (i + 1) cap) = w6 at HS6 ⊢
      have hsl : S.length ≤ 12 := by have := HR.out.sl; omega
      have hrl : R.length ≤ 12 := by have := HR.out.rl; omega
      obtain ⟨Z, hZ⟩ : ∃ Z, bits BinOp.and IntKind.i64 (y / 2 ^ i) 1 = Z := ⟨_, rfl⟩
      by_cases hb : Z = 1
      · have hb1 : (Z == 1) = true := beq_iff_eq.2 hb
        go_wp2_with (at_builtin; refine stop_here ?_)
        unfold Stop
        change wpList _ _ _ _ _ (w6.alloc (.cells (xcall (i : Int)).cells.toArray 40))
        have HS7 := Lib.hid (HS6.out.no ((Keeps.refl No _).alloc (.cells (xcall (i : Int)).cells.toArray 40)))
        have hq7 := heap_alloc_new w6 (.cells (xcall (i : Int)).cells.toArray 40)
        generalize w6.alloc (.cells (xcall (i : Int)).cells.toArray 40) = w7 at HS7 hq7 ⊢
        obtain ⟨Q7, hQ7⟩ : ∃ q, w6.heap.size = q := ⟨_, rfl⟩
        rw [hQ7] at hq7 ⊢
        clear HS6 hQ7
        refine wpList_appX _ rfl (.tmp 48) (.tmp 51) rfl w2.heap.size u9 (S.length + 1) (xfunc (t : Int) :: S.map xcall) (xcall (i : Int)) Q7 rfl HS7.out.mn rfl hq7 (by omega) HS7.out.kp.size ?_
        intro g7 cap7 w8 ho7 hg7 hgo7
        have HS8 := Lib.hid (HS7.out.main ((Keeps.refl _ _).grown hg7 (fun q e => .inl e)) hgo7 ho7)
        clear ho7 hg7 hgo7 hq7 HS7
        go_wp2_with (at_builtin; refine stop_here ?_)
        unfold Stop
        change wpList _ _ _ _ _ (w8.alloc (.cells #[.int .i64 (i : Int)] 3))
        have HS9 := Lib.hid (HS8.out.no ((Keeps.refl No _).alloc (.cells #[.int .i64 (i : Int)] 3)))
        have hq9 := heap_alloc_new w8 (.cells #[.int .i64 (i : Int)] 3)
        generalize w8.alloc (.cells #[.int .i64 (i : Int)] 3) = w9 at HS9 hq9 ⊢
        obtain ⟨Q9, hQ9⟩ : ∃ q, w8.heap.size = q := ⟨_, rfl⟩
        rw [hQ9] at hq9 ⊢
        clear HS8 hQ9
        refine wpList_appG _ rfl (.tmp 53) (.tmp 55) rfl w2.heap.size u10 S.length S (i : Int) Q9 rfl HS9.out.cl rfl hq9 (by omega) HS9.out.kp.size ?_
        intro g9 cap9 w10 ho9 hg9 hgo9
        have HS10 := Lib.hid (HS9.out.calls ((Keeps.refl _ _).grown hg9 (fun q e => .inl e)) hgo9 ho9)
        clear ho9 hg9 hgo9 hq9 HS9
        go_wp2_with (at_builtin; refine stop_here ?_)
        unfold Stop
        change wpList _ _ _ _ _ (w10.alloc (.cells #[.int .i64 (i : Int)] 3))
        have HSA := Lib.hid (HS10.out.no ((Keeps.refl No _).alloc (.cells #[.int .i64 (i : Int)] 3)))
        have hqA := heap_alloc_new w10 (.cells #[.int .i64 (i : Int)] 3)
        generalize w10.alloc (.cells #[.int .i64 (i : Int)] 3) = wA at HSA hqA ⊢
        obtain ⟨QA, hQA⟩ : ∃ q, w10.heap.size = q := ⟨_, rfl⟩
        rw [hQA] at hqA ⊢
        clear HS10 hQA
        refine wpList_appG _ rfl (.tmp 67) (.tmp 69) rfl w2.heap.size u11 R.length R (i : Int) QA rfl HSA.out.rc rfl hqA (by omega) HSA.out.kp.size ?_
        intro gA capA wB hoA hgA hgoA
        have HSB := Lib.hid (HSA.out.reach ((Keeps.refl _ _).grown hgA (fun q e => .inl e)) hgoA hoA)
        clear hoA hgA hgoA hqA HSA
        go_wp2_with fail
        go_roundg (m - (i + 1))
        case rel => exact ⟨i + 1, _, _, _, _, _, by go_num, by omega, rfl, HSB, Lib.hid HR.out.both⟩
        case measure => omega
      · have hb1 : (Z == 1) = false := beq_eq_false_iff_ne.2 hb
        by_cases hit : i = t
        · have hit1 : ((i : Int) == (t : Int)) = true := beq_iff_eq.2 (by omega)
          have HRT := Lib.hid (HR.out.told hit)
          clear hit
          go_wp2_with (at_builtin; refine stop_here ?_)
          unfold Stop
          change wpList _ _ _ _ _ (w6.alloc (.cells #[.int .i64 (i : Int)] 3))
          have HSA := Lib.hid (HS6.out.no ((Keeps.refl No _).alloc (.cells #[.int .i64 (i : Int)] 3)))
          have hqA := heap_alloc_new w6 (.cells #[.int .i64 (i : Int)] 3)
          generalize w6.alloc (.cells #[.int .i64 (i : Int)] 3) = wA at HSA hqA ⊢
          obtain ⟨QA, hQA⟩ : ∃ q, w6.heap.size = q := ⟨_, rfl⟩
          rw [hQA] at hqA ⊢
          clear HS6 hQA
          refine wpList_appG _ rfl (.tmp 67) (.tmp 69) rfl w2.heap.size u11 R.length R (i : Int) QA rfl HSA.out.rc rfl hqA (by omega) HSA.out.kp.size ?_
          intro gA capA wB hoA hgA hgoA
          have HSB := Lib.hid (HSA.out.reach ((Keeps.refl _ _).grown hgA (fun q e => .inl e)) hgoA hoA)
          clear hoA hgA hgoA hqA HSA
          go_wp2_with fail
          go_roundg (m - (i + 1))
          case rel => exact ⟨i + 1, _, _, _, _, _, by go_num, by omega, rfl, HSB, Lib.hid HRT.out⟩
          case measure => omega
        · have hit1 : ((i : Int) == (t : Int)) = false := beq_eq_false_iff_ne.2 (by omega)
          have HRT := Lib.hid (HR.out.wait hit)
          clear hit
          go_wp2_with fail
          go_roundg (m - (i + 1))
          case rel => exact ⟨i + 1, _, _, _, _, _, by go_num, by omega, rfl, HS6, HRT⟩
          case measure => omega
    · obtain rfl : i = m := by omega
      have hlt' : ¬ (i : Int) < (i : Int) := by omega
      have hsl : S.length ≤ 12 := by have := HR.out.sl; omega
      have hrl : R.length ≤ 12 := by have := HR.out.rl; omega
      have nV : ¬ (u9.ownBlock = some VB ∨ (Value.slice fa i fc).ownBlock = some VB) := fun e => by
        rcases e with e | e
        · exact absurd (own_row_typ HS.out.mn e HS.out.lf.row) (by decide)
        · exact absurd (own_row_typ HS.out.lf.own e HS.out.lf.row) (by decide)
      have nR : ¬ (u9.ownBlock = some RB ∨ (Value.slice fa i fc).ownBlock = some RB) := fun e => by
        rcases e with e | e
        · exact (HS.out.am RB e).1 rfl
        · exact absurd (own_row_typ HS.out.lf.own e HS.out.lf.ret) (by decide)
      have cv1 : ∀ u : KS (fun q => u9.ownBlock = some q ∨ (Value.slice fa i fc).ownBlock = some q) wr, u.W.cell? ⟨VB, 1, none⟩ = some (.slice fa i fc) := fun u => u.cell (by rw [cell_of_row wr VB 1 _ _ _ HS.out.lf.row]; rfl) nV
      have r0 : ∀ u : KS (fun q => u9.ownBlock = some q ∨ (Value.slice fa i fc).ownBlock = some q) wr, u.W.cell? ⟨RB, 0, none⟩ = some (.int .i64 17) := fun u => u.cell (by rw [cell_of_row wr RB 0 _ _ _ HS.out.lf.ret]; rfl) nR
      have r1 : ∀ u : KS (fun q => u9.ownBlock = some q ∨ (Value.slice fa i fc).ownBlock = some q) wr, u.W.cell? ⟨RB, 1, none⟩ = some (.int .i64 0) := fun u => u.cell (by rw [cell_of_row wr RB 1 _ _ _ HS.out.lf.ret]; rfl) nR
      have r2 : ∀ u : KS (fun q => u9.ownBlock = some q ∨ (Value.slice fa i fc).ownBlock = some q) wr, u.W.cell? ⟨RB, 2, none⟩ = some (.int .i64 0) := fun u => u.cell (by rw [cell_of_row wr RB 2 _ _ _ HS.out.lf.ret]; rfl) nR
      have r3 : ∀ u : KS (fun q => u9.ownBlock = some q ∨ (Value.slice fa i fc).ownBlock = some q) wr, u.W.cell? ⟨RB, 3, none⟩ = some (.int .i64 (-1)) := fun u => u.cell (by rw [cell_of_row wr RB 3 _ _ _ HS.out.lf.ret]; rfl) nR
      have r4 : ∀ u : KS (fun q => u9.ownBlock = some q ∨ (Value.slice fa i fc).ownBlock = some q) wr, u.W.cell? ⟨RB, 4, none⟩ = some (.int .i64 0) := fun u => u.cell (by rw [cell_of_row wr RB 4 _ _ _ HS.out.lf.ret]; rfl) nR
      have r5 : ∀ u : KS (fun q => u9.ownBlock = some q ∨ (Value.slice fa i fc).ownBlock = some q) wr, u.W.cell? ⟨RB, 5, none⟩ = some (.int .i64 0) := fun u => u.cell (by rw [cell_of_row wr RB 5 _ _ _ HS.out.lf.ret]; rfl) nR
      have r6 : ∀ u : KS (fun q => u9.ownBlock = some q ∨ (Value.slice fa i fc).ownBlock = some q) wr, u.W.cell? ⟨RB, 6, none⟩ = some (.int .i64 0) := fun u => u.cell (by rw [cell_of_row wr RB 6 _ _ _ HS.out.lf.ret]; rfl) nR
      have r7 : ∀ u : KS (fun q => u9.ownBlock = some q ∨ (Value.slice fa i fc).ownBlock = some q) wr, u.W.cell? ⟨RB, 7, none⟩ = some (.bool false) := fun u => u.cell (by rw [cell_of_row wr RB 7 _ _ _ HS.out.lf.ret]; rfl) nR
      have r8 : ∀ u : KS (fun q => u9.ownBlock = some q ∨ (Value.slice fa i fc).ownBlock = some q) wr, u.W.cell? ⟨RB, 8, none⟩ = some (.slice none 0 0) := fun u => u.cell (by rw [cell_of_row wr RB 8 _ _ _ HS.out.lf.ret]; rfl) nR
      have r9 : ∀ u : KS (fun q => u9.ownBlock = some q ∨ (Value.slice fa i fc).ownBlock = some q) wr, u.W.cell? ⟨RB, 9, none⟩ = some (.slice none 0 0) := fun u => u.cell (by rw [cell_of_row wr RB 9 _ _ _ HS.out.lf.ret]; rfl) nR
      have r10 : ∀ u : KS (fun q => u9.ownBlock = some q ∨ (Value.slice fa i fc).ownBlock = some q) wr, u.W.cell? ⟨RB, 10, none⟩ = some (.slice none 0 0) := fun u => u.cell (by rw [cell_of_row wr RB 10 _ _ _ HS.out.lf.ret]; rfl) nR
      have hne : Nonempty (KS (fun q => u9.ownBlock = some q ∨ (Value.slice fa i fc).ownBlock = some q) wr) := ⟨⟨wr, Keeps.refl _ _⟩⟩
      have HNV := Lib.hid nV
      clear nV nR
      go_upto_region 17 with fail
      refine Mix.wp_region_mix (fun W' => ∃ u : KS (fun q => u9.ownBlock = some q ∨ (Value.slice fa i fc).ownBlock = some q) wr, W' = u.W) [12] (by kernel_rfl) ?_
      have hkd : Keeps No wr wr.drew := (Keeps.refl _ wr).drew
      have HS0 := Lib.hid (HS.out.no hkd)
      have HX0 : Hid (Keeps (fun q => u9.ownBlock = some q ∨ (Value.slice fa i fc).ownBlock = some q) wr wr.drew) := Lib.hid (hkd.mono (fun _ _ e => e.elim))
      clear hkd
      generalize wr.drew = x0 at HS0 HX0 ⊢
      refine Mix.mix_seg 0 4 9 (by kernel_rfl) (by kernel_rfl) rfl rfl ⟨⟨x0, HX0.out⟩, rfl⟩ ?_
      simp only [List.drop_succ_cons, List.drop_zero, List.take_succ_cons, List.take_zero]
      repeat (go_big_quiet_step (fail))
      refine wpQuiet_nil ?_
      clear cv1 r0 r1 r2 r3 r4 r5 r6 r7 r8 r9 r10
      refine Mix.mix_one 4 8 (by kernel_rfl) rfl rfl ?_
      simp only [List.drop_succ_cons, List.drop_zero, List.take_succ_cons, List.take_zero]
      go_wp2_with fail
      have HS1 := Lib.hid (HS0.out.no ((Keeps.refl No x0).alloc (.cells #[.int .i64 17, .int .i64 0, .int .i64 0, .int .i64 (-1), .int .i64 0, .int .i64 0, .int .i64 0, .bool false, .slice none 0 0, .slice none 0 0, .slice none 0 0] 40)))
      have HX1 := Lib.hid (HX0.out.alloc (.cells #[.int .i64 17, .int .i64 0, .int .i64 0, .int .i64 (-1), .int .i64 0, .int .i64 0, .int .i64 0, .bool false, .slice none 0 0, .slice none 0 0, .slice none 0 0] 40))
      have hq1 := heap_alloc_new x0 (.cells #[.int .i64 17, .int .i64 0, .int .i64 0, .int .i64 (-1), .int .i64 0, .int .i64 0, .int .i64 0, .bool false, .slice none 0 0, .slice none 0 0, .slice none 0 0] 40)
      generalize x0.alloc (.cells #[.int .i64 17, .int .i64 0, .int .i64 0, .int .i64 (-1), .int .i64 0, .int .i64 0, .int .i64 0, .bool false, .slice none 0 0, .slice none 0 0, .slice none 0 0] 40) = x1 at HS1 HX1 hq1 ⊢
      obtain ⟨Q1, hQ1⟩ : ∃ q, x0.heap.size = q := ⟨_, rfl⟩
      rw [hQ1] at hq1 ⊢
      have HQ1 := Lib.hid hq1
      clear hQ1 hq1 HS0 HX0
      refine ⟨.inr ⟨⟨x1, HX1.out⟩, rfl⟩, ?_⟩
      refine Mix.mix_one 5 7 (by kernel_rfl) rfl rfl ?_
      simp only [List.drop_succ_cons, List.drop_zero, List.take_succ_cons, List.take_zero]
      go_wp2_with (at_builtin; refine wpList_appX _ rfl (.tmp 73) (.tmp 75) rfl w2.heap.size u9 (S.length + 1) (xfunc (t : Int) :: S.map xcall) xret Q1 rfl HS1.out.mn rfl HQ1.out (by omega) HS1.out.kp.size ?_)
      intro g1 ic x2 ho hg hgo
      have hkg : Keeps (fun q => u9.ownBlock = some q) x1 x2 := (Keeps.refl _ _).grown hg (fun q e => .inl e)
      have HS2 := Lib.hid (HS1.out.fin hkg ho)
      have HX2 := Lib.hid (HX1.out.trans hkg (fun q _ e => .inl e))
      clear hkg ho hg hgo HQ1 HS1 HX1
      go_wp2_with fail
      refine ⟨.inr ⟨⟨x2, HX2.out⟩, rfl⟩, ?_⟩
      refine Mix.mix_seg 6 1 6 (by kernel_rfl) (by kernel_rfl) rfl rfl ⟨⟨x2, HX2.out⟩, rfl⟩ ?_
      simp only [List.drop_succ_cons, List.drop_zero, List.take_succ_cons, List.take_zero]
      repeat (go_big_quiet_step (fail))
      refine wpQuiet_nil ?_
      refine Mix.mix_one 7 5 (by kernel_rfl) rfl rfl ?_
      simp only [List.drop_succ_cons, List.drop_zero, List.take_succ_cons, List.take_zero]
      go_wp2_with fail
      have hk3 : Keeps No x2 (x2.alloc (.cells #[.slice (some ⟨g1, 0, none⟩) (S.length + 1 + 1) ic] 43)) := (Keeps.refl No x2).alloc _
      have HS3 := Lib.hid (HS2.out.no hk3)
      have HX3 := Lib.hid (HX2.out.trans hk3 (fun q _ e => e.elim))
      have hq3 := heap_alloc_new x2 (.cells #[.slice (some ⟨g1, 0, none⟩) (S.length + 1 + 1) ic] 43)
      generalize x2.alloc (.cells #[.slice (some ⟨g1, 0, none⟩) (S.length + 1 + 1) ic] 43) = x3 at hk3 HS3 HX3 hq3 ⊢
      obtain ⟨BB, hBB⟩ : ∃ q, x2.heap.size = q := ⟨_, rfl⟩
      rw [hBB] at hq3 ⊢
      have HQ3 := Lib.hid hq3
      clear hBB hq3 hk3 HS2 HX2
      refine ⟨.inr ⟨⟨x3, HX3.out⟩, rfl⟩, ?_⟩
      refine Mix.mix_seg 8 1 4 (by kernel_rfl) (by kernel_rfl) rfl rfl ⟨⟨x3, HX3.out⟩, rfl⟩ ?_
      simp only [List.drop_succ_cons, List.drop_zero, List.take_succ_cons, List.take_zero]
      repeat (go_big_quiet_step (fail))
      refine wpQuiet_nil ?_
      refine Mix.mix_one 9 3 (by kernel_rfl) rfl rfl ?_
      simp only [List.drop_succ_cons, List.drop_zero, List.take_succ_cons, List.take_zero]
      go_wp2_with fail
      have hk4 : Keeps No x3 (x3.alloc (.cells #[.string ⟨#[]⟩, .int .i64 0, .int .i64 1, .slice none 0 0, .slice (some ⟨BB, 0, none⟩) 1 1, .bool false] 46)) := (Keeps.refl No x3).alloc _
      have HS4 := Lib.hid (HS3.out.no hk4)
      have HX4 := Lib.hid (HX3.out.trans hk4 (fun q _ e => e.elim))
      have hq4 := heap_alloc_new x3 (.cells #[.string ⟨#[]⟩, .int .i64 0, .int .i64 1, .slice none 0 0, .slice (some ⟨BB, 0, none⟩) 1 1, .bool false] 46)
      have HQ4B := Lib.hid ((hk4.block BB (Array.getElem?_eq_some_iff.1 HQ3.out).1 (fun e => e)).trans HQ3.out)
      generalize x3.alloc (.cells #[.string ⟨#[]⟩, .int .i64 0, .int .i64 1, .slice none 0 0, .slice (some ⟨BB, 0, none⟩) 1 1, .bool false] 46) = x4 at hk4 HS4 HX4 hq4 HQ4B ⊢
      obtain ⟨FB, hFB⟩ : ∃ q, x3.heap.size = q := ⟨_, rfl⟩
      rw [hFB] at hq4 ⊢
      have HQ4 := Lib.hid hq4
      clear hFB hq4 hk4 HS3 HX3 HQ3
      refine ⟨.inr ⟨⟨x4, HX4.out⟩, rfl⟩, ?_⟩
      refine Mix.mix_one 10 2 (by kernel_rfl) rfl rfl ?_
      simp only [List.drop_succ_cons, List.drop_zero, List.take_succ_cons, List.take_zero]
      go_wp2_with (at_builtin; refine wpList_appF _ rfl (.tmp 72) (.tmp 80) rfl w2.heap.size (.slice fa i fc) i fl (mfx t S g1 BB ic) FB rfl HS4.out.lf.own rfl HQ4.out (by omega) HS4.out.kp.size ?_)
      intro g' cap x5 ho hg
      have hk5 : Keeps (fun q => (Value.slice fa i fc).ownBlock = some q) x4 x5 := (Keeps.refl _ _).grown hg (fun q e => .inl e)
      have HX5 := Lib.hid (HX4.out.trans hk5 (fun q _ e => .inr e))
      have HMD := Lib.hid (HS4.out.made (g' := g') (cap := cap) hm12 htm (fun z hz => by obtain ⟨u, e, hu⟩ := HR.out.sb z hz; omega) HQ4B.out hk5 (by rw [List.flatMap_append, List.flatMap_cons, List.flatMap_nil, List.append_nil]; exact ho))
      have hV5 : x5.heap[VB]? = some (.cells #[.slice none 0 0, .slice fa i fc, .int .i64 (i : Int)] 26 (0, 0)) := (hk5.block VB (Array.getElem?_eq_some_iff.1 HS4.out.lf.row).1 (fun e => HNV.out (.inr e))).trans HS4.out.lf.row
      have c5 : x5.cell? ⟨VB, 1, none⟩ = some (.slice fa i fc) := by rw [cell_of_row x5 VB 1 _ _ _ hV5]; rfl
      have f5 : x5.frozen? ⟨VB, 1, none⟩ = false := frozen_of_row x5 VB 1 _ _ hV5
      clear ho hg hk5 hV5 HQ4 HQ4B HS4 HX4
      go_wp2_with fail
      refine ⟨.inr ⟨⟨x5, HX5.out⟩, rfl⟩, ?_⟩
      refine Mix.mix_seg 11 1 1 (by kernel_rfl) (by kernel_rfl) rfl rfl ⟨⟨x5, HX5.out⟩, rfl⟩ ?_
      simp only [List.drop_succ_cons, List.drop_zero, List.take_succ_cons, List.take_zero]
      repeat (go_big_quiet_step (fail))
      refine wpQuiet_nil ?_
      refine Mix.mix_one 12 0 (by kernel_rfl) rfl rfl ?_
      simp only [List.drop_succ_cons, List.drop_zero, List.take_succ_cons, List.take_zero]
      go_wp2_with fail
      refine ⟨.inl ⟨rfl, rfl⟩, ?_⟩
      refine Mix.mix_end (by kernel_rfl) ?_
      clear c5 f5 HX5 HNV hne HS
      generalize (⟨none, 0, 0, [], some ⟨g', 0, none⟩, i + 1, cap, fl ++ [mfx t S g1 BB ic], (i : Int)⟩ : Pg) = p at HMD
      generalize x5.setCell ⟨VB, 1, none⟩ (.slice (some ⟨g', 0, none⟩) (i + 1) cap) = x6 at HMD ⊢
      obtain ⟨ra, rcap, rfl, _⟩ := own_form HMD.out.rc
      obtain ⟨ca, cc, rfl, hsc⟩ := own_parts HMD.out.cl (fun z hz => by obtain ⟨u, e, hu⟩ := HR.out.sb z hz; unfold I64; omega)
      have HCL := Lib.hid hsc
      have HPL := Lib.hid (HMD.out.star.plain hm12 hsl HR.out.sb)
      have HTK := Lib.hid (HMD.out.star.tkOk htm)
      have HTE := Lib.hid HMD.out.star.tk
      have HPO := Lib.hid (HMD.out.star.ok htm HR.out.sb)
      have HF := Lib.hid (HMD.out.star.facts HR.out hm0 hm12 htm)
      have HOKR := Lib.hid HMD.out.ok
      have HOK := Lib.hid (HMD.out.ok x6 (Keeps.refl _ _)).1
      have HP := Lib.hid (HMD.out.ok x6 (Keeps.refl _ _)).2
      have HRC := Lib.hid HMD.out.rc
      have HKW := Lib.hid (HK2.out.trans HMD.out.kp (fun _ _ e => e))
      have HSL := Lib.hid HMD.out.kp.size
      obtain ⟨m1, hm1⟩ : ∃ q, i + 1 = q := ⟨_, rfl⟩
      have hfn : p.fn = m1 := by rw [HMD.out.star.fn]; exact hm1
      have HCA : Hid (∀ W, Keeps No x6 W → Calls Tryd.prog 13 #[pv p] W fun e w' => ∃ OB, e = .returned (.slice (some ⟨OB, 0, none⟩) m1 m1) ∧ (∃ S0, LsAt w' (some ⟨OB, 0, none⟩) m1 m1 S0 ∧ S0.map Sl.l = starC i S) ∧ Keeps No W w') := Lib.hid (fun W hk => by
        have h := callsD_any p W (HOK.out.no hk) (HL.out.no (HKW.out.trans hk (fun _ _ e => e))) HPL.out HTK.out HPO.out
        rw [hfn, HF.out.calls] at h
        exact h)
      have HPA := Lib.hid (fun (W : World) (hk : Keeps No x6 W) => parts_any p W 40 (outs (i + 1)) (HOK.out.no hk) (HL.out.no (HKW.out.trans hk (fun _ _ e => e))) HPL.out HTK.out HPO.out HF.out.parts)
      clear hsc hfn HMD
      have p0 : ∀ u : KS No x6, u.W.cell? ⟨VB, 0, none⟩ = some (.slice p.ga p.gn p.gc) := fun u => u.cell (HP.out 0 _ rfl) (fun e => e)
      have p1 : ∀ u : KS No x6, u.W.cell? ⟨VB, 1, none⟩ = some (.slice p.fa p.fn p.fc) := fun u => u.cell (HP.out 1 _ rfl) (fun e => e)
      have p2 : ∀ u : KS No x6, u.W.cell? ⟨VB, 2, none⟩ = some (.int .i64 p.main) := fun u => u.cell (HP.out 2 _ rfl) (fun e => e)
      have hne : Nonempty (KS No x6) := ⟨⟨x6, Keeps.refl _ _⟩⟩
      go_upto_region 18 with fail
      refine Mix.wp_region_mix (fun W' => ∃ u : KS No x6, W' = u.W) [] (by kernel_rfl) ?_
      have HX0 : Hid (Keeps No x6 x6.drew) := Lib.hid ((Keeps.refl _ x6).drew)
      generalize x6.drew = y0 at HX0 ⊢
      refine Mix.mix_seg 0 1 5 (by kernel_rfl) (by kernel_rfl) rfl rfl ⟨⟨y0, HX0.out⟩, rfl⟩ ?_
      simp only [List.drop_succ_cons, List.drop_zero, List.take_succ_cons, List.take_zero]
      repeat (go_big_quiet_step (fail))
      refine wpQuiet_nil ?_
      refine Mix.mix_seg 2 1 4 (by kernel_rfl) (by kernel_rfl) rfl rfl ⟨⟨y0, HX0.out⟩, rfl⟩ ?_
      simp only [List.drop_succ_cons, List.drop_zero, List.take_succ_cons, List.take_zero]
      repeat (go_big_quiet_step (fail))
      refine wpQuiet_nil ?_
      clear p0 p1 p2
      refine Mix.mix_one 1 3 (by kernel_rfl) rfl rfl ?_
      simp only [List.drop_succ_cons, List.drop_zero, List.take_succ_cons, List.take_zero]
      go_wp2_with fail
      refine (HCA.out y0 HX0.out).mono ?_
      rintro e y1 ⟨OB, rfl, ⟨Sc, hsc, hmc⟩, hk⟩
      have HX1 := Lib.hid (HX0.out.trans hk (fun _ _ e => e))
      have HSC := Lib.hid (And.intro hsc hmc)
      clear hk hsc hmc HX0 HCA
      go_wp2_with fail
      refine ⟨.inr ⟨⟨y1, HX1.out⟩, rfl⟩, ?_⟩
      refine Mix.mix_one 3 2 (by kernel_rfl) rfl rfl ?_
      simp only [List.drop_succ_cons, List.drop_zero, List.take_succ_cons, List.take_zero]
      go_wp2_with fail
      refine (HPA.out y1 HX1.out).mono ?_
      rintro e y2 ⟨pa, pk, pc, rfl, ⟨Sp, hsp, hmp⟩, hk⟩
      obtain rfl : m1 = pk := by rw [← hsp.len, ← hm1]; have := congrArg List.length hmp; rw [List.length_map, outs_len] at this; exact this.symm
      obtain ⟨sp0, hsp0⟩ : ∃ s, Sp[0]? = some s := ⟨_, List.getElem?_eq_getElem (by rw [hsp.len]; omega)⟩
      obtain ⟨PB, PO, rfl, _⟩ := hsp.at_ 0 sp0 hsp0
      have HX2 := Lib.hid (HX1.out.trans hk (fun _ _ e => e))
      have HSC2 := Lib.hid (And.intro (HSC.out.1.no hk) HSC.out.2)
      have HSP := Lib.hid (And.intro hsp hmp)
      clear hk hsp hmp HX1 HPA HSC hsp0
      go_wp2_with fail
      refine ⟨.inr ⟨⟨y2, HX2.out⟩, rfl⟩, ?_⟩
      refine Mix.mix_seg 4 2 0 (by kernel_rfl) (by kernel_rfl) rfl rfl ⟨⟨y2, HX2.out⟩, rfl⟩ ?_
      simp only [List.drop_succ_cons, List.drop_zero, List.take_succ_cons, List.take_zero]
      repeat (go_big_quiet_step (fail))
      refine wpQuiet_nil ?_
      refine Mix.mix_end (by kernel_rfl) ?_
      clear hne
      have HP2 := Lib.hid (HP.out.no HX2.out)
      have HOK2 := Lib.hid (HOK.out.no HX2.out)
      have HKW2 := Lib.hid (HKW.out.trans HX2.out (fun _ _ e => e))
      have HCL2 := Lib.hid (HCL.out.no HX2.out)
      have HRC2 : Hid (y2.ownsRow w2.heap.size 3 1 (.slice ra R.length rcap) R.length (irow R)) := Lib.hid (own_kept HRC.out (fun q hq => HX2.out.block q (ownG_lt HRC.out q hq) (fun e => e)))
      have HSL2 : Hid (w2.heap.size ≤ y2.heap.size) := Lib.hid (Nat.le_trans HSL.out HX2.out.size)
      clear HP HOK HKW HCL HRC HSL
      have em1 : IntKind.i64.wrap ((i : Int) + 1) = (m1 : Int) := by rw [IntKind.wrap_i64]; omega
      have en : ((m1 : Int) != (m1 : Int)) = false := by simp
      go_wp2_with fail
      go_loopg [15] m1 (fun k v wr => ∃ f : Nat, v = .int .i64 (f : Int) ∧ f ≤ m1 ∧ k = m1 - f ∧ Hid (Keeps No y2 wr))
      case atStart => exact ⟨0, rfl, Nat.zero_le _, rfl, Lib.hid (Keeps.refl _ _)⟩
      case round =>
        obtain ⟨f, rfl, hf, hg2, HKF⟩ := hrel
        by_cases hfm : f < m1
        · have hle : (f : Int) ≤ (i : Int) := by omega
          have hld : decide ((f : Int) ≤ (i : Int)) = true := decide_eq_true hle
          have f0 : (0 : Int) ≤ (f : Int) := by omega
          have fm : (f : Int) < (m1 : Int) := by omega
          have hspl : Sp.length = m1 := HSP.out.1.len
          have hscl : Sc.length = m1 := HSC2.out.1.len
          obtain ⟨⟨pa, pn, pcp, pl⟩, hsp⟩ : ∃ s, Sp[f]? = some s := ⟨_, List.getElem?_eq_getElem (by omega)⟩
          obtain ⟨⟨qa, qn, qcp, ql⟩, hsq⟩ : ∃ s, Sc[f]? = some s := ⟨_, List.getElem?_eq_getElem (by omega)⟩
          have hpl : pl = [(f : Int)] := by
            have h := congrArg (fun L => L[f]?) HSP.out.2
            simp only [List.getElem?_map, hsp, Option.map_some, outs] at h
            rw [List.getElem?_range (by omega)] at h
            simpa using h
          have hql : f < i → ql = [] := fun hfi => by
            have h := congrArg (fun L => L[f]?) HSC2.out.2
            simp only [List.getElem?_map, hsq, Option.map_some] at h
            rw [star_leaf hfi] at h
            simpa using h
          obtain ⟨b2, o2, e2, cp, hsa, hsn⟩ := HSP.out.1.at_ f _ hsp
          obtain ⟨b3, o3, e3, cq, hqa, hqn⟩ := HSC2.out.1.at_ f _ hsq
          injection e2 with e2
          injection e2 with e21 e22
          subst e21 e22
          injection e3 with e3
          injection e3 with e31 e32
          subst e31 e32
          rw [Nat.zero_add] at cq
          have cp2 : wr.cell? ⟨PB, PO + f, none⟩ = some (.slice pa pn pcp) := HKF.out.cell0 cp
          have hkx : Keeps No wr (wr.alloc (.cells #[.int .i64 (f : Int)] 3)) := (Keeps.refl No wr).alloc _
          have HI : Hid (Calls Tryd.prog 9 #[.slice pa pn pcp, .slice (some ⟨wr.heap.size, 0, none⟩) 1 1] (wr.alloc (.cells #[.int .i64 (f : Int)] 3)) fun e w' => e = .returned (.bool true) ∧ Keeps No (wr.alloc (.cells #[.int .i64 (f : Int)] 3)) w') := Lib.hid (ints_true ⟨pa, pn, pcp, pl⟩ ⟨some ⟨wr.heap.size, 0, none⟩, 1, 1, [(f : Int)]⟩ _ ((hsa.no HKF.out).no hkx) (sl_new wr [(f : Int)] (by simp) (by intro y hy; simp at hy; subst hy; unfold I64; omega)) (by show 1 ≤ 1000000; omega) hpl)
          have HKX := Lib.hid (HKF.out.trans hkx (fun _ _ e => e))
          have HQQ : Hid (y2.cell? ⟨OB, f, none⟩ = some (.slice qa qn qcp) ∧ (f < i → qn = 0)) := Lib.hid ⟨cq, fun hfi => by have := hqa.len; simp only at this; rw [← this, hql hfi]; rfl⟩
          clear hspl hscl hsp hsq hpl hql cp hsa hsn cq hqa hqn hkx
          go_wp2_with fail
          refine HI.out.mono ?_
          rintro e y3 ⟨rfl, hk3⟩
          have HK3 := Lib.hid (HKX.out.trans hk3 (fun _ _ e => e))
          clear hk3 HI HKX cp2
          by_cases hfi : f < i
          · have hfI : (f : Int) < (i : Int) := by omega
            have hfd : decide ((f : Int) < (i : Int)) = true := decide_eq_true hfI
            obtain rfl : qn = 0 := HQQ.out.2 hfi
            have cq : y3.cell? ⟨OB, f, none⟩ = some (.slice qa 0 qcp) := HK3.out.cell0 HQQ.out.1
            go_wp2_with fail
            go_roundg (m1 - (f + 1))
            case rel => exact ⟨f + 1, by go_num, by omega, rfl, HK3⟩
            case measure => omega
          · have hfI : ¬ (f : Int) < (i : Int) := by omega
            have hfd : decide ((f : Int) < (i : Int)) = false := decide_eq_false hfI
            go_wp2_with fail
            go_roundg (m1 - (f + 1))
            case rel => exact ⟨f + 1, by go_num, by omega, rfl, HK3⟩
            case measure => omega
        · have hle : ¬ (f : Int) ≤ (i : Int) := by omega
          have hld : decide ((f : Int) ≤ (i : Int)) = false := decide_eq_false hle
          clear hfm hf hg2
          have i0 : (0 : Int) ≤ (i : Int) := by omega
          have im : (i : Int) < (m1 : Int) := by omega
          have hscl : Sc.length = m1 := HSC2.out.1.len
          obtain ⟨⟨qa, qn, qcp, ql⟩, hsq⟩ : ∃ s, Sc[i]? = some s := ⟨_, List.getElem?_eq_getElem (by omega)⟩
          have hql : ql = S := by
            have h := congrArg (fun L => L[i]?) HSC2.out.2
            simp only [List.getElem?_map, hsq, Option.map_some] at h
            rw [star_main] at h
            simpa using h
          obtain ⟨b3, o3, e3, cq, hqa, hqn⟩ := HSC2.out.1.at_ i _ hsq
          injection e3 with e3
          injection e3 with e31 e32
          subst e31 e32
          rw [Nat.zero_add] at cq
          have cq2 : wr.cell? ⟨OB, i, none⟩ = some (.slice qa qn qcp) := HKF.out.cell0 cq
          have HI1 : Hid (Calls Tryd.prog 9 #[.slice qa qn qcp, .slice ca S.length cc] wr fun e w' => e = .returned (.bool true) ∧ Keeps No wr w') := Lib.hid (ints_true ⟨qa, qn, qcp, ql⟩ ⟨ca, S.length, cc, S⟩ wr (hqa.no HKF.out) (HCL2.out.no HKF.out) (by show S.length ≤ 1000000; omega) hql)
          clear hscl hsq hql cq hqa hqn HSP HSC2 HCL2
          go_wp2_with fail
          refine HI1.out.mono ?_
          rintro e v1 ⟨rfl, hk⟩
          have HV1 := Lib.hid (HKF.out.trans hk (fun _ _ e => e))
          clear hk HI1 cq2 HKF
          have p0 : v1.cell? ⟨VB, 0, none⟩ = some (.slice p.ga p.gn p.gc) := HV1.out.cell0 (HP2.out 0 _ rfl)
          have p1 : v1.cell? ⟨VB, 1, none⟩ = some (.slice p.fa p.fn p.fc) := HV1.out.cell0 (HP2.out 1 _ rfl)
          have p2 : v1.cell? ⟨VB, 2, none⟩ = some (.int .i64 p.main) := HV1.out.cell0 (HP2.out 2 _ rfl)
          have HTA : Hid (Calls Tryd.prog 15 #[pv p] v1 fun e w' => ∃ v, e = .returned v ∧ w'.ownsRow v1.heap.size 3 1 v 1 (irow [(t : Int)]) ∧ Keeps No v1 w') := Lib.hid (by
            have h := takenD_any p v1 (HOK2.out.no HV1.out) (HL.out.no (HKW2.out.trans HV1.out (fun _ _ e => e))) HPL.out HTK.out HPO.out
            rw [HTE.out] at h
            exact h)
          go_wp2_with fail
          refine HTA.out.mono ?_
          rintro e v2 ⟨u2, rfl, ho, hk⟩
          obtain ⟨ta, tc, rfl, hst⟩ := own_parts ho (by intro z hz; simp at hz; subst hz; unfold I64; omega)
          have hkx : Keeps No v2 (v2.alloc (.cells #[.int .i64 (t : Int)] 3)) := (Keeps.refl No v2).alloc _
          have HV2 := Lib.hid (HV1.out.trans hk (fun _ _ e => e))
          have HVX := Lib.hid (HV2.out.trans hkx (fun _ _ e => e))
          have HI2 : Hid (Calls Tryd.prog 9 #[.slice ta 1 tc, .slice (some ⟨v2.heap.size, 0, none⟩) 1 1] (v2.alloc (.cells #[.int .i64 (t : Int)] 3)) fun e w' => e = .returned (.bool true) ∧ Keeps No (v2.alloc (.cells #[.int .i64 (t : Int)] 3)) w') := Lib.hid (ints_true ⟨ta, 1, tc, [(t : Int)]⟩ ⟨some ⟨v2.heap.size, 0, none⟩, 1, 1, [(t : Int)]⟩ _ (hst.no hkx) (sl_new v2 [(t : Int)] (by simp) (by intro y hy; simp at hy; subst hy; unfold I64; omega)) (by show 1 ≤ 1000000; omega) rfl)
          clear ho hk hst hkx HTA HV1 HV2 HTE p0 p1 p2
          go_wp2_with fail
          refine HI2.out.mono ?_
          rintro e v3 ⟨rfl, hk⟩
          have HV3 := Lib.hid (HVX.out.trans hk (fun _ _ e => e))
          clear hk HI2 HVX
          have p0 : v3.cell? ⟨VB, 0, none⟩ = some (.slice p.ga p.gn p.gc) := HV3.out.cell0 (HP2.out 0 _ rfl)
          have p1 : v3.cell? ⟨VB, 1, none⟩ = some (.slice p.fa p.fn p.fc) := HV3.out.cell0 (HP2.out 1 _ rfl)
          have p2 : v3.cell? ⟨VB, 2, none⟩ = some (.int .i64 p.main) := HV3.out.cell0 (HP2.out 2 _ rfl)
          obtain ⟨al, hal1, hal2, hal3⟩ := HF.out.reach
          obtain ⟨rn, hrn⟩ : ∃ q, R.length + 1 = q := ⟨_, rfl⟩
          have hal4 : al.length = rn := by rw [hal2, List.length_append, ← hrn]; rfl
          have HRE : Hid (Calls Tryd.prog 11 #[pv p] v3 fun e w' => ∃ v, e = .returned v ∧ w'.ownsRow v3.heap.size 3 1 v rn (irow (R ++ [(i : Int)])) ∧ Keeps No v3 w') := Lib.hid (by
            have h := reach_any p v3 40 al (HOK2.out.no HV3.out) (HL.out.no (HKW2.out.trans HV3.out (fun _ _ e => e))) HPL.out HTK.out HPO.out hal1 (by omega)
            rw [hal3, hal4] at h
            exact h)
          clear hal1 hal2 hal3 hal4
          go_wp2_with fail
          refine HRE.out.mono ?_
          rintro e v4 ⟨u4, rfl, ho, hk⟩
          have HB4 : Hid (∀ z ∈ R ++ [(i : Int)], I64 z) := Lib.hid (fun z hz => by
            rcases List.mem_append.1 hz with hz | hz
            · obtain ⟨u, e, hu⟩ := HR.out.rb z hz; unfold I64; omega
            · obtain rfl : z = (i : Int) := by simpa using hz
              unfold I64; omega)
          obtain ⟨a4, c4, rfl, hs4⟩ := own_parts ho HB4.out
          have HV4 := Lib.hid (HV3.out.trans hk (fun _ _ e => e))
          have HS4 := Lib.hid ho
          have HVS := Lib.hid HV3.out.size
          clear ho hk hs4 HRE HV3 p0 p1 p2
          go_wp2_with (at_builtin; refine stop_here ?_)
          unfold Stop
          change wpList _ _ _ _ _ (v4.alloc (.cells #[.int .i64 (i : Int)] 3))
          have HV5 := Lib.hid (HV4.out.alloc (.cells #[.int .i64 (i : Int)] 3))
          have hk5 : Keeps No v4 (v4.alloc (.cells #[.int .i64 (i : Int)] 3)) := (Keeps.refl No v4).alloc _
          have HS5 := Lib.hid (own_kept HS4.out (fun q hq => hk5.block q (ownG_lt HS4.out q hq) (fun e => e)))
          clear hk5
          have hq5 := heap_alloc_new v4 (.cells #[.int .i64 (i : Int)] 3)
          generalize v4.alloc (.cells #[.int .i64 (i : Int)] 3) = v5 at HV5 HS5 hq5 ⊢
          obtain ⟨Q5, hQ5⟩ : ∃ q, v4.heap.size = q := ⟨_, rfl⟩
          rw [hQ5] at hq5 ⊢
          have HRC5 : Hid (v5.ownsRow w2.heap.size 3 1 (.slice ra R.length rcap) R.length (irow R)) := Lib.hid (own_kept HRC2.out (fun q hq => HV5.out.block q (ownG_lt HRC2.out q hq) (fun e => e)))
          clear hQ5 HV4 HS4
          refine wpList_appGg _ rfl (.tmp 149) (.tmp 151) rfl w2.heap.size (.slice ra R.length rcap) R.length R (i : Int) Q5 rfl HRC5.out rfl hq5 (by omega) (Nat.le_trans HSL2.out HV5.out.size) ?_
          intro g6 cap6 v6 ho6 hg6 hgo6
          rw [hrn] at ho6 ⊢
          have hkg : Keeps (fun q => (Value.slice ra R.length rcap).ownBlock = some q) v5 v6 := (Keeps.refl _ _).grown hg6 (fun q e => .inl e)
          have hlt : ∀ q, (Value.slice ra R.length rcap).ownBlock = some q → q < v3.heap.size ∧ w.heap.size ≤ q := fun q e => ⟨Nat.lt_of_lt_of_le (ownG_lt HRC2.out q e) HVS.out, Nat.le_trans HK2.out.size (ownG_lo HRC2.out q e)⟩
          obtain ⟨a5, c5, e5, hs5⟩ := own_parts (own_kept HS5.out (fun q hq => hkg.block q (ownG_lt HS5.out q hq) (fun e => by have h1 := (hlt q e).1; have h2 := ownG_lo HS5.out q hq; omega))) HB4.out
          injection e5 with e51 _ e52
          subst e51 e52
          obtain ⟨a6, c6, e6, hs6⟩ := own_parts ho6 HB4.out
          injection e6 with e61 _ e62
          subst e62
          rw [e61]
          have HI6 : Hid (Calls Tryd.prog 9 #[.slice a4 rn c4, .slice a6 rn cap6] v6 fun e w' => e = .returned (.bool true) ∧ Keeps No v6 w') := Lib.hid (ints_true ⟨a4, rn, c4, R ++ [(i : Int)]⟩ ⟨a6, rn, cap6, R ++ [(i : Int)]⟩ v6 hs5 hs6 (by show rn ≤ 1000000; omega) rfl)
          have HW6 := Lib.hid ((HKW2.out.trans HV5.out (fun _ _ e => e)).trans hkg (fun q hq e => by have := (hlt q e).2; omega))
          have HR6 := Lib.hid (((HX2.out.mono (fun _ _ e => e.elim)).trans (HV5.out.mono (fun _ _ e => e.elim)) (fun _ _ e => e)).trans hkg (fun _ _ e => e))
          clear ho6 hg6 hgo6 hkg hlt hs5 hs6 e61 HS5 HV5 hq5 HRC5 HRC2
          go_wp2_with fail
          refine HI6.out.mono ?_
          rintro e v7 ⟨rfl, hk⟩
          have HW7 := Lib.hid (HW6.out.trans hk (fun _ _ e => e))
          have HR7 := Lib.hid (HOKR.out v7 (HR6.out.trans (hk.mono (fun _ _ e => e.elim)) (fun _ _ e => e)))
          clear hk HI6 HW6 HR6
          have p0 : v7.cell? ⟨VB, 0, none⟩ = some (.slice p.ga p.gn p.gc) := HR7.out.2 0 _ rfl
          have p1 : v7.cell? ⟨VB, 1, none⟩ = some (.slice p.fa p.fn p.fc) := HR7.out.2 1 _ rfl
          have p2 : v7.cell? ⟨VB, 2, none⟩ = some (.int .i64 p.main) := HR7.out.2 2 _ rfl
          have HCY := Lib.hid (cyclic_any p v7 40 [] HR7.out.1 (HL.out.no HW7.out) HPL.out HTK.out HPO.out HF.out.cyc)
          have HAW := Lib.hid (fun W hW => awake_any W hW)
          go_wp2_with fail
          refine HCY.out.mono ?_
          rintro e v8 ⟨u8, rfl, ho, hk⟩
          obtain ⟨a8, c8, rfl, _⟩ := own_form ho
          have HW8 := Lib.hid (HW7.out.trans hk (fun _ _ e => e))
          rw [List.length_nil]
          clear ho hk HCY p0 p1 p2 HW7 HR7
          go_wp2_with fail
          refine (HAW.out v8 (HL.out.no HW8.out)).mono ?_
          rintro e v9 ⟨rfl, hk⟩
          have HW9 := Lib.hid (HW8.out.trans hk (fun _ _ e => e))
          clear hk HAW HW8
          go_wp2_with fail
          go_returns
          exact ⟨rb rfl rfl, HW9.out⟩
end Go.Proofs.YtkiimljdoebclaaDoor
