/- Rows held against one another, by a function: instructions. -/
import Derived.Test.YtbfjmhfhhlncjaaDoorIrSameB
import Derived.Deep.LoopGhost
namespace Go.Proofs.YtbfjmhfhhlncjaaDoor
open Go.RowKit
set_option linter.unusedVariables false
set_option linter.unusedSimpArgs false

def sameRow {α : Type} (f : α → α → Bool) (l k : List α) : Bool := decide (l.length = k.length) && (l.zip k).all (fun p => f p.1 p.2)
theorem sameRow_len {α : Type} (f : α → α → Bool) {l k : List α} (h : l.length ≠ k.length) : sameRow f l k = false := by unfold sameRow; rw [decide_eq_false h]; rfl
theorem sameRow_no {α : Type} (f : α → α → Bool) {l k : List α} {i : Nat} {x y : α} (hx : l[i]? = some x) (hy : k[i]? = some y) (h : f x y = false) : sameRow f l k = false := by
  unfold sameRow
  have hz : (l.zip k)[i]? = some (x, y) := by rw [List.getElem?_zip_eq_some]; exact ⟨hx, hy⟩
  rw [show (l.zip k).all (fun p => f p.1 p.2) = false from List.all_eq_false.2 ⟨_, List.mem_of_getElem? hz, by rw [h]; decide⟩, Bool.and_false]
theorem sameRow_more {α : Type} (f : α → α → Bool) {l k : List α} {i : Nat} {x y : α} (hx : l[i]? = some x) (hy : k[i]? = some y) (h : f x y = true) (ht : ((l.zip k).take i).all (fun p => f p.1 p.2) = true) : ((l.zip k).take (i + 1)).all (fun p => f p.1 p.2) = true := by
  have hz : (l.zip k)[i]? = some (x, y) := by rw [List.getElem?_zip_eq_some]; exact ⟨hx, hy⟩
  obtain ⟨h1, h2⟩ := List.getElem?_eq_some_iff.1 hz
  rw [List.take_succ_eq_append_getElem h1, List.all_append, ht, h2]
  simp [h]
theorem sameRow_yes {α : Type} (f : α → α → Bool) {l k : List α} {n : Nat} (hl : l.length = n) (hk : k.length = n) (ht : ((l.zip k).take n).all (fun p => f p.1 p.2) = true) : sameRow f l k = true := by
  unfold sameRow
  rw [List.take_of_length_le (by simp [hl, hk])] at ht
  rw [ht, decide_eq_true (by rw [hl, hk])]; rfl

set_option maxRecDepth 100000 in
set_option maxHeartbeats 6400000 in
theorem eqf_ins (fw : Value) (sa sb : Option Addr) (rn kn rc kc : Nat) (l k : List Ix) (w : World) (hl : l.length = rn) (hk : k.length = kn) (hrc : rn ≤ rc ∧ rc ≤ maxLen) (hkc : kn ≤ kc ∧ kc ≤ maxLen)
    (hf : fw = .func (.func 74) #[] #[])
    (hra : 0 < rn → ∃ b off, sa = some ⟨b, off, none⟩ ∧ ∀ (i : Nat) (x : Ix), l[i]? = some x → ∀ (j : Nat) (v : Value), x.cells[j]? = some v → w.cell? ⟨b, off + i * 11 + j, none⟩ = some v)
    (hrb : 0 < kn → ∃ b off, sb = some ⟨b, off, none⟩ ∧ ∀ (i : Nat) (x : Ix), k[i]? = some x → ∀ (j : Nat) (v : Value), x.cells[j]? = some v → w.cell? ⟨b, off + i * 11 + j, none⟩ = some v)
    (hc : ∀ x ∈ l, ∀ y ∈ k, ∀ W, Keeps No w W → Calls Tryd.prog 74 #[ia x, ia y] W fun e w' => e = .returned (.bool (x.same y)) ∧ Keeps No W w') :
    Calls Tryd.prog 73 #[.slice sa rn rc, .slice sb kn kc, fw] w fun e w' => e = .returned (.bool (sameRow Ix.same l k)) ∧ Keeps No w w' := by
  subst hf
  obtain ⟨X, hX⟩ : ∃ Q, sameRow Ix.same l k = Q := ⟨_, rfl⟩
  rw [hX]
  have HX := Lib.hid hX
  have HL := Lib.hid hl
  have HK := Lib.hid hk
  have HRA := Lib.hid hra
  have HRB := Lib.hid hrb
  have HC := Lib.hid hc
  unfold maxLen at hrc hkc
  clear hX hl hk hra hrb hc
  by_cases hn : rn = kn
  · subst hn
    have e1 : ((rn : Int) != (rn : Int)) = false := by simp
    go_enter Tryd.func73, Tryd.ntmps73
    go_wp2_with fail
    go_loopg [17] rn (fun g v wr => ∃ i : Nat, v = .int .i64 (i : Int) ∧ i ≤ rn ∧ g = rn - i ∧ Hid (((l.zip k).take i).all (fun p => p.1.same p.2) = true) ∧ Hid (Keeps No w wr))
    case atStart => exact ⟨0, rfl, Nat.zero_le _, rfl, Lib.hid rfl, Lib.hid (Keeps.refl _ _)⟩
    case round =>
      obtain ⟨i, rfl, hi, hg, HE, HW⟩ := hrel
      by_cases hlt : i < rn
      · have hlt' : (i : Int) < (rn : Int) := by omega
        have i0 : (0 : Int) ≤ (i : Int) := by omega
        obtain ⟨x, hx⟩ : ∃ x, l[i]? = some x := ⟨_, List.getElem?_eq_getElem (by rw [HL.out]; exact hlt)⟩
        obtain ⟨y, hy⟩ : ∃ y, k[i]? = some y := ⟨_, List.getElem?_eq_getElem (by rw [HK.out]; exact hlt)⟩
        obtain ⟨b1, o1, rfl, hc1⟩ := HRA.out (by omega)
        obtain ⟨b2, o2, rfl, hc2⟩ := HRB.out (by omega)
        have x0 := HW.out.cell0 (hc1 i x hx 0 _ rfl)
        have y0 := HW.out.cell0 (hc2 i y hy 0 _ rfl)
        have x1 := HW.out.cell0 (hc1 i x hx 1 _ rfl)
        have y1 := HW.out.cell0 (hc2 i y hy 1 _ rfl)
        have x2 := HW.out.cell0 (hc1 i x hx 2 _ rfl)
        have y2 := HW.out.cell0 (hc2 i y hy 2 _ rfl)
        have x3 := HW.out.cell0 (hc1 i x hx 3 _ rfl)
        have y3 := HW.out.cell0 (hc2 i y hy 3 _ rfl)
        have x4 := HW.out.cell0 (hc1 i x hx 4 _ rfl)
        have y4 := HW.out.cell0 (hc2 i y hy 4 _ rfl)
        have x5 := HW.out.cell0 (hc1 i x hx 5 _ rfl)
        have y5 := HW.out.cell0 (hc2 i y hy 5 _ rfl)
        have x6 := HW.out.cell0 (hc1 i x hx 6 _ rfl)
        have y6 := HW.out.cell0 (hc2 i y hy 6 _ rfl)
        have x7 := HW.out.cell0 (hc1 i x hx 7 _ rfl)
        have y7 := HW.out.cell0 (hc2 i y hy 7 _ rfl)
        have x8 := HW.out.cell0 (hc1 i x hx 8 _ rfl)
        have y8 := HW.out.cell0 (hc2 i y hy 8 _ rfl)
        have x9 := HW.out.cell0 (hc1 i x hx 9 _ rfl)
        have y9 := HW.out.cell0 (hc2 i y hy 9 _ rfl)
        have x10 := HW.out.cell0 (hc1 i x hx 10 _ rfl)
        have y10 := HW.out.cell0 (hc2 i y hy 10 _ rfl)
        rw [Nat.add_zero] at x0 y0
        have nb1 : b1 < wr.heap.size := World.block_lt_of_cell? wr _ x0
        have nb2 : b2 < wr.heap.size := World.block_lt_of_cell? wr _ y0
        obtain ⟨R, hR⟩ : ∃ R, x.same y = R := ⟨_, rfl⟩
        have HCC := Lib.hid (fun (W : World) (h : Keeps No w W) => HC.out x (List.mem_of_getElem? hx) y (List.mem_of_getElem? hy) W h)
        rw [hR] at HCC
        have HXI := Lib.hid hx
        have HYI := Lib.hid hy
        have HR := Lib.hid hR
        clear hx hy hc1 hc2 hR
        go_wp2_with fail
        refine (HCC.out _ ((HW.out.alloc _).alloc _)).mono ?_
        rintro e w2 ⟨rfl, hk2⟩
        have HW2 := Lib.hid (((HW.out.alloc _).alloc _).trans hk2 (fun _ _ h => h))
        clear hk2
        cases R with
        | false =>
          have HF : Hid (X = false) := Lib.hid (HX.out.symm.trans (sameRow_no _ HXI.out HYI.out HR.out))
          go_wp2_with fail
          go_returns
          exact ⟨rb rfl HF.out.symm, HW2.out⟩
        | true =>
          go_wp2_with fail
          go_roundg (rn - (i + 1))
          case rel => exact ⟨i + 1, by go_num, by omega, rfl, Lib.hid (sameRow_more _ HXI.out HYI.out HR.out HE.out), HW2⟩
          case measure => omega
      · obtain rfl : i = rn := by omega
        have hlt' : ¬ (i : Int) < (i : Int) := by omega
        have HF : Hid (X = true) := Lib.hid (HX.out.symm.trans (sameRow_yes _ HL.out HK.out HE.out))
        go_wp2_with fail
        go_returns
        exact ⟨rb rfl HF.out.symm, HW.out⟩
  · have e1 : ((rn : Int) != (kn : Int)) = true := by rw [bne_iff_ne]; omega
    have HF : Hid (X = false) := Lib.hid (HX.out.symm.trans (sameRow_len _ (by rw [HL.out, HK.out]; exact hn)))
    clear hn
    go_enter Tryd.func73, Tryd.ntmps73
    go_wp2_with fail
    go_returns
    exact ⟨rb rfl HF.out.symm, Keeps.refl _ _⟩
end Go.Proofs.YtbfjmhfhhlncjaaDoor
