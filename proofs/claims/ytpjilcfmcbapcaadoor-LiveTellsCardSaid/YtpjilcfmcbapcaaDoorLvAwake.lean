/- awake. -/
import Derived.Test.YtpjilcfmcbapcaaDoorLvLittle
namespace Go.Proofs.YtpjilcfmcbapcaaDoor
open Go.RowKit
set_option linter.unusedVariables false
set_option linter.unusedSimpArgs false

def ax0 : Ix := ⟨2, 0, 1, 0, 0, 0, 0, false, Sl0, Sl0, Sl0⟩
def ax1 : Ix := ⟨1, 0, 0, 0, 0, 0, 0, false, Sl0, Sl0, Sl0⟩
def ax2 : Ix := ⟨17, 0, 0, 1, 0, 0, 0, false, Sl0, Sl0, Sl0⟩
def afn (q : Nat) : Fx := ofn (q + 1) q 3 1 2 [ax0, ax1, ax2]
def afn0 : Fx := ⟨ByteArray.empty, 0, 0, Sl0, none, 0, 0, [], false⟩
theorem afn_may (q : Nat) : (afn q).may = true := by rfl
theorem afn0_may : afn0.may = false := by rfl
theorem afn0_ok (w : World) : FxOk w afn0 := ⟨Nat.zero_le _, by unfold I64 afn0; decide, by unfold I64 afn0; decide, sl0_at w, rfl, ⟨Nat.le_refl _, Nat.zero_le _⟩, (fun x hx => by cases hx), fun h => absurd h (Nat.lt_irrefl 0)⟩
theorem afn_sm (q : Nat) : SmF (afn q) := ⟨by show 1 ≤ 1000; decide, fun b hb => by
  obtain rfl : b = ⟨some ⟨q, 0, none⟩, 3, 3, [ax0, ax1, ax2]⟩ := by simpa [afn, ofn] using hb
  exact Nat.zero_le _, fun b hb x hx => by
  obtain rfl : b = ⟨some ⟨q, 0, none⟩, 3, 3, [ax0, ax1, ax2]⟩ := by simpa [afn, ofn] using hb
  simp at hx
  rcases hx with rfl | rfl | rfl <;> exact Nat.zero_le _⟩
theorem ax_bare : ∀ x ∈ [ax0, ax1, ax2], Bare x := by
  intro x hx
  simp at hx
  rcases hx with rfl | rfl | rfl <;> exact ⟨by unfold I64; decide, by unfold I64; decide, by unfold I64; decide, by unfold I64; decide, by unfold I64; decide, by unfold I64; decide, by unfold I64; decide, rfl, rfl, rfl⟩
theorem one_bd {c : Int} (h : I64 c) : ∀ z ∈ [c], I64 z := fun z hz => by
  have e : z = c := by simpa using hz
  rw [e]; exact h
theorem two_alloc (w : World) (a b : Obj) : ((w.alloc a).alloc b).heap[w.heap.size]? = some a ∧ ((w.alloc a).alloc b).heap[w.heap.size + 1]? = some b := by
  constructor
  · rw [Below.heap_alloc _ _ _ (by simp)]; exact heap_alloc_new _ _
  · have := heap_alloc_new (w.alloc a) b
    simpa using this
/-- One number in a row of its own, as a slice. -/
theorem one_sl {w : World} {q : Nat} {z : Int} (h : w.heap[q]? = some (.cells #[.int .i64 z] 3 (0, 0))) (hz : I64 z) : SlAt w ⟨some ⟨q, 0, none⟩, 1, 1, [z]⟩ :=
  ⟨rfl, ⟨Nat.le_refl _, by unfold maxLen; simp only; omega⟩, (fun y hy => by
    have e : y = z := by simpa using hy
    rw [e]; exact hz), fun _ => ⟨q, 0, rfl, fun i y hy => by
    cases i with
    | zero => obtain rfl : z = y := by simpa using hy
              rw [cell_of_row w q _ _ _ _ h]; rfl
    | succ i => simp at hy⟩⟩
set_option maxRecDepth 100000 in
set_option maxHeartbeats 6400000 in
theorem awake_any (w : World) (ht : LaidT w) : Calls Tryd.prog 6 #[] w fun e w' => e = .returned (.bool true) ∧ Keeps No w w' := by
  have HT := Lib.hid ht
  clear ht
  go_enter Tryd.func6, Tryd.ntmps6
  go_upto_region 2 with fail
  obtain ⟨w1, hw1⟩ : ∃ W, ((w.alloc (.cells (xrow [ax0, ax1, ax2]).toArray 38)).alloc (.cells #[.slice (some ⟨w.heap.size, 0, none⟩) 3 3] 30)).alloc (.cells #[.string ByteArray.empty, .int .i64 1, .int .i64 2, .slice none 0 0, .slice (some ⟨w.heap.size + 1, 0, none⟩) 1 1, .bool true] 25) = W := ⟨_, rfl⟩
  have hk1 : Keeps No w w1 := by rw [← hw1]; exact (((Keeps.refl _ _).alloc _).alloc _).alloc _
  have r0 : w1.heap[w.heap.size]? = some (.cells (xrow [ax0, ax1, ax2]).toArray 38 (0, 0)) := by
    rw [← hw1, Below.heap_alloc _ _ _ (by simp; omega), Below.heap_alloc _ _ _ (by simp)]; exact heap_alloc_new _ _
  have r1 : w1.heap[w.heap.size + 1]? = some (.cells #[.slice (some ⟨w.heap.size, 0, none⟩) 3 3] 30 (0, 0)) := by
    rw [← hw1, Below.heap_alloc _ _ _ (by simp)]
    exact (two_alloc w _ _).2
  have r2 : w1.heap[w.heap.size + 1 + 1]? = some (.cells #[.string ByteArray.empty, .int .i64 1, .int .i64 2, .slice none 0 0, .slice (some ⟨w.heap.size + 1, 0, none⟩) 1 1, .bool true] 25 (0, 0)) := by
    rw [← hw1]
    have := heap_alloc_new ((w.alloc (.cells (xrow [ax0, ax1, ax2]).toArray 38)).alloc (.cells #[.slice (some ⟨w.heap.size, 0, none⟩) 3 3] 30)) (.cells #[.string ByteArray.empty, .int .i64 1, .int .i64 2, .slice none 0 0, .slice (some ⟨w.heap.size + 1, 0, none⟩) 1 1, .bool true] 25)
    simpa using this
  obtain ⟨B0, hB0⟩ : ∃ q, w.heap.size = q := ⟨_, rfl⟩
  have HF : Hid (FxOk w1 (afn B0)) := Lib.hid (by
    rw [← hB0]
    exact ofn_ok (by unfold I64; decide) (by unfold I64; decide) ax_bare ⟨Nat.le_refl _, by unfold maxLen; decide⟩ (by rw [cell_of_row w1 _ 0 _ _ _ r1]; rfl) (fun j v hv => by rw [cell_of_row w1 _ j _ _ _ r0, List.getElem?_toArray]; exact hv))
  have HK1 := Lib.hid hk1
  have HR2 := Lib.hid r2
  have HC : Hid (∀ W, Keeps No w1 W → W.cell? ⟨B0 + 1 + 1, 0, none⟩ = some (.string ByteArray.empty) ∧ W.cell? ⟨B0 + 1 + 1, 1, none⟩ = some (.int .i64 1) ∧ W.cell? ⟨B0 + 1 + 1, 2, none⟩ = some (.int .i64 2) ∧ W.cell? ⟨B0 + 1 + 1, 3, none⟩ = some (.slice none 0 0) ∧ W.cell? ⟨B0 + 1 + 1, 4, none⟩ = some (.slice (some ⟨B0 + 1, 0, none⟩) 1 1) ∧ W.cell? ⟨B0 + 1 + 1, 5, none⟩ = some (.bool true)) := Lib.hid (fun W hk => by
    rw [← hB0]
    have h := (hk.block _ (Array.getElem?_eq_some_iff.1 r2).1 (fun e => e)).trans r2
    exact ⟨by rw [cell_of_row W _ 0 _ _ _ h]; rfl, by rw [cell_of_row W _ 1 _ _ _ h]; rfl, by rw [cell_of_row W _ 2 _ _ _ h]; rfl, by rw [cell_of_row W _ 3 _ _ _ h]; rfl, by rw [cell_of_row W _ 4 _ _ _ h]; rfl, by rw [cell_of_row W _ 5 _ _ _ h]; rfl⟩)
  have HIN := Lib.hid (fun (W : World) (hk : Keeps No w1 W) => in_yes (afn B0) W (HF.out.no hk) (afn_may B0) 2 rfl (afn_sm B0) (HT.out.keep (HK1.out.trans hk (fun _ _ e => e)) (fun e => e)))
  have HOU := Lib.hid (fun (W : World) (hk : Keeps No w1 W) => out_yes (afn B0) W (HF.out.no hk) (afn_may B0) 2 rfl (afn_sm B0) (HT.out.keep (HK1.out.trans hk (fun _ _ e => e)) (fun e => e)))
  have HBE := Lib.hid (fun (W : World) (hk : Keeps No w1 W) => behind_yes (afn B0) W (HF.out.no hk) (afn_may B0) 2 rfl (afn_sm B0) (HT.out.keep (HK1.out.trans hk (fun _ _ e => e)) (fun e => e)) 0 0 ⟨some ⟨B0, 0, none⟩, 3, 3, [ax0, ax1, ax2]⟩ rfl (Nat.zero_lt_succ 2))
  have HDE := Lib.hid (fun (W : World) (hk : Keeps No w1 W) => dead_yes (afn B0) W (HF.out.no hk) (afn_may B0) 2 rfl (afn_sm B0) (fun B hB => by
    obtain rfl : B = ⟨some ⟨B0, 0, none⟩, 3, 3, [ax0, ax1, ax2]⟩ := by simpa [afn, ofn] using hB
    show 3 ≤ 100000; decide) (HT.out.keep (HK1.out.trans hk (fun _ _ e => e)) (fun e => e)))
  have HNO := Lib.hid (fun (W : World) => in_no afn0 W (afn0_ok W) afn0_may)
  have hw1' := hw1
  unfold xrow ax0 ax1 ax2 Ix.cells Sl0 at hw1'
  simp only [List.flatMap_cons, List.flatMap_nil, List.cons_append, List.nil_append, Sl.v] at hw1'
  rw [hB0] at hw1' ⊢
  rw [show ByteArray.empty = { data := #[] } from rfl] at hw1'
  rw [hw1']
  obtain ⟨c0, c1, c2, c3, c4, c5⟩ := HC.out w1 (Keeps.refl _ _)
  clear hw1 hw1' hk1 r0 r1 r2 hB0
  go_wp2_with fail
  refine (HIN.out w1 (Keeps.refl _ _)).mono ?_
  rintro e w2 ⟨v, O, rfl, hle, _, hll, hk2⟩
  have hls : (List.range (afn B0).bn).map (fun b => listB (backs (blk (bls (afn B0)) b) (O b)) 2) = [[0]] := by
    show [listB (backs [ax0, ax1, ax2] (O 0)) 2] = _
    rw [least_zero hle rfl]; rfl
  rw [hls] at hll
  obtain ⟨a, n, cap, S, rfl, hS, hSl⟩ := hll.at_ (fun l hl => by
    obtain rfl : l = [0] := by simpa using hl
    exact ⟨by decide, one_bd (by unfold I64; decide)⟩)
  have hn1 : n = 1 := by rw [← hS.len, ← List.length_map, hSl]; rfl
  subst hn1
  have HS := Lib.hid hS
  have HSL : Hid (∀ W, Keeps No w2 W → W.heap[w2.heap.size]? = some (.cells #[.int .i64 0] 3 (0, 0)) → W.heap[w2.heap.size + 1]? = some (.cells #[.slice (some ⟨w2.heap.size, 0, none⟩) 1 1] 22 (0, 0)) →
      Calls Tryd.prog 13 #[.slice a 1 cap, .slice (some ⟨w2.heap.size + 1, 0, none⟩) 1 1] W fun e w' => e = .returned (.bool true) ∧ Keeps No W w') := Lib.hid (fun W hk h1 h2 => by
    have h := same_lists a (some ⟨w2.heap.size + 1, 0, none⟩) 1 1 cap 1 S [⟨some ⟨w2.heap.size, 0, none⟩, 1, 1, [0]⟩] W (hS.no hk) ⟨rfl, ⟨Nat.le_refl _, by unfold maxLen; omega⟩, fun i s hs => by
      cases i with
      | zero => obtain rfl : ⟨some ⟨w2.heap.size, 0, none⟩, 1, 1, [0]⟩ = s := by simpa using hs
                exact ⟨_, 0, rfl, by rw [cell_of_row W _ _ _ _ _ h2]; rfl, one_sl h1 (by unfold I64; decide), by show 1 ≤ 1000000; decide⟩
      | succ i => simp at hs⟩ (by decide)
    rw [hSl] at h
    exact h)
  have HK2 : Hid (Keeps No w1 w2) := Lib.hid hk2
  clear hle hls hll hS hSl hk2 c0 c1 c2 c3 c4 c5
  go_wp2_with fail
  refine (HSL.out _ (((Keeps.refl _ _).alloc _).alloc _) (two_alloc _ _ _).1 (two_alloc _ _ _).2).mono ?_
  rintro e w3 ⟨rfl, hk3⟩
  have HK3 : Hid (Keeps No w1 w3) := Lib.hid (HK2.out.trans ((((Keeps.refl No w2).alloc _).alloc _).trans hk3 (fun _ _ e => e)) (fun _ _ e => e))
  obtain ⟨c0, c1, c2, c3, c4, c5⟩ := HC.out w3 HK3.out
  clear hk3 HSL HS
  go_wp2_with fail
  refine (HOU.out w3 HK3.out).mono ?_
  rintro e w4 ⟨v, O, rfl, hle, _, hll, hk4⟩
  obtain ⟨vs, hvs, _⟩ := hll.ex
  obtain ⟨a4, ca4, rfl, _⟩ := own_form hvs
  have HK4 : Hid (Keeps No w1 w4) := Lib.hid (HK3.out.trans hk4 (fun _ _ e => e))
  have el : ((List.range (afn B0).bn).map (fun b => listB (O b) 2)).length = 1 := by simp; rfl
  rw [el]
  clear hle hll hk4 hvs c0 c1 c2 c3 c4 c5 el
  obtain ⟨c0, c1, c2, c3, c4, c5⟩ := HC.out w4 HK4.out
  go_wp2_with fail
  refine (HBE.out w4 HK4.out).mono ?_
  rintro e w5 ⟨v, O, rfl, hle, hown⟩
  have h1 : listB (backs (List.drop (0 + 1) [ax0, ax1, ax2]) (O 0)) 2 = [1] := by
    rw [least_zero hle rfl]; rfl
  rw [h1] at hown
  have HK5 : Hid (Keeps No w1 w5) := Lib.hid (HK4.out.trans hown.k (fun _ _ e => e))
  obtain ⟨⟨sa, sn, sc, sl⟩, hsv, hsl, hsn, hsw⟩ := own_sl hown.o (one_bd (by unfold I64; decide))
  simp only at hsl hsn
  subst hsl
  have hsn1 : sn = 1 := hsn
  subst hsn1
  rw [← hsv]
  have HSI : Hid (∀ W, Keeps No w5 W → W.heap[w5.heap.size]? = some (.cells #[.int .i64 1] 3 (0, 0)) →
      Calls Tryd.prog 11 #[.slice sa 1 sc, .slice (some ⟨w5.heap.size, 0, none⟩) 1 1] W fun e w' => e = .returned (.bool true) ∧ Keeps No W w') := Lib.hid (fun W hk h1 => (same_ints ⟨sa, 1, sc, [1]⟩ ⟨some ⟨w5.heap.size, 0, none⟩, 1, 1, [1]⟩ W (hsw.no hk) (one_sl h1 (by unfold I64; decide)) (by show 1 ≤ 1000000; decide)).mono (fun e w' h => by
        obtain ⟨h2, m, h3⟩ := h
        exact ⟨h2, by rw [← h3]; exact (Keeps.refl _ _).drewN m⟩))
  clear hle h1 hown hsv hsn hsw c0 c1 c2 c3 c4 c5
  dsimp only [Sl.v]
  go_wp2_with fail
  refine (HSI.out _ ((Keeps.refl _ _).alloc _) (heap_alloc_new _ _)).mono ?_
  rintro e w6 ⟨rfl, hk6⟩
  have HK6 : Hid (Keeps No w1 w6) := Lib.hid (HK5.out.trans (((Keeps.refl No w5).alloc _).trans hk6 (fun _ _ e => e)) (fun _ _ e => e))
  clear hk6 HSI
  obtain ⟨c0, c1, c2, c3, c4, c5⟩ := HC.out w6 HK6.out
  go_wp2_with fail
  refine (HDE.out w6 HK6.out).mono ?_
  rintro e w7 ⟨O, hle, rfl, hk7⟩
  have hd : mu (fun c => deadRow (O c) (blk (bls (afn B0)) c)) (afn B0).bn = 1 := by
    show 0 + deadRow (O 0) [ax0, ax1, ax2] = 1
    rw [least_zero hle rfl]; rfl
  rw [hd]
  have HK7 : Hid (Keeps No w1 w7) := Lib.hid (HK6.out.trans hk7 (fun _ _ e => e))
  clear hle hd hk7 c0 c1 c2 c3 c4 c5
  go_wp2_with fail
  refine (HNO.out w7).mono ?_
  rintro e w8 ⟨rfl, hk8⟩
  have HK8 : Hid (Keeps No w w8) := Lib.hid (HK1.out.trans (HK7.out.trans hk8 (fun _ _ e => e)) (fun _ _ e => e))
  clear hk8
  go_wp2_with fail
  go_returns
  exact ⟨rfl, HK8.out⟩
end Go.Proofs.YtpjilcfmcbapcaaDoor
