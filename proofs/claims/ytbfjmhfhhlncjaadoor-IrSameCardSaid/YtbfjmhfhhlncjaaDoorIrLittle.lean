/- The example's program: as it lies in memory, and what it comes to. -/
import Derived.Test.YtbfjmhfhhlncjaaDoorIrRuns
import Derived.Test.YtbfjmhfhhlncjaaDoorIrSteps
import Derived.Test.YtbfjmhfhhlncjaaDoorIrSames
namespace Go.Proofs.YtbfjmhfhhlncjaaDoor
open Go.RowKit
set_option linter.unusedVariables false
set_option linter.unusedSimpArgs false

def sl0 : Sl := ⟨none, 0, 0, []⟩
def lmain : ByteArray := ⟨#[109, 97, 105, 110]⟩
def lixs (n : Int) : List Ix := [⟨1, 0, 0, 0, 0, n, 0, false, sl0, sl0, sl0⟩, ⟨13, 0, 0, 0, 0, 0, 0, false, sl0, sl0, sl0⟩, ⟨17, 0, 0, 0, 0, 0, 0, false, sl0, sl0, sl0⟩]
def lblk (n : Int) (ib : Nat) : Bx := ⟨some ⟨ib, 0, none⟩, 3, 3, lixs n⟩
def lfn (n : Int) (ib bb : Nat) : Fx := ⟨lmain, 0, 1, sl0, some ⟨bb, 0, none⟩, 1, 1, [lblk n ib], true⟩
def lpg (n : Int) (ib bb fb : Nat) : Pg := ⟨none, 0, 0, [], some ⟨fb, 0, none⟩, 1, 1, [lfn n ib bb], 0⟩
theorem sl0_at (w : World) : SlAt w sl0 := ⟨rfl, ⟨Nat.le_refl _, Nat.zero_le _⟩, fun z hz => (by cases hz), fun h => absurd h (by decide)⟩
theorem i64s (z : Int) (h : -1000 ≤ z ∧ z ≤ 1000) : I64 z := by unfold I64; omega
theorem lpg_ok (n : Int) (hn : I64 n) (ib bb fb : Nat) (w : World) (hi : w.heap[ib]? = some (.cells ((lixs n).flatMap Ix.cells).toArray 27 (0, 0))) (hb : w.heap[bb]? = some (.cells #[.slice (some ⟨ib, 0, none⟩) 3 3] 45 (0, 0)))
    (hf : w.heap[fb]? = some (.cells ((lfn n ib bb).cells).toArray 42 (0, 0))) : PgOk w (lpg n ib bb fb) := by
  have hix : ∀ x ∈ lixs n, IxOk w x := by
    intro x hx
    unfold lixs at hx
    simp at hx
    rcases hx with rfl | rfl | rfl
    · exact ⟨i64s 1 (by decide), i64s 0 (by decide), i64s 0 (by decide), i64s 0 (by decide), i64s 0 (by decide), hn, i64s 0 (by decide), sl0_at w, sl0_at w, sl0_at w⟩
    · exact ⟨i64s 13 (by decide), i64s 0 (by decide), i64s 0 (by decide), i64s 0 (by decide), i64s 0 (by decide), i64s 0 (by decide), i64s 0 (by decide), sl0_at w, sl0_at w, sl0_at w⟩
    · exact ⟨i64s 17 (by decide), i64s 0 (by decide), i64s 0 (by decide), i64s 0 (by decide), i64s 0 (by decide), i64s 0 (by decide), i64s 0 (by decide), sl0_at w, sl0_at w, sl0_at w⟩
  have hbx : BxAt w (lblk n ib) := ⟨rfl, ⟨Nat.le_refl _, by show 3 ≤ maxLen; unfold maxLen; omega⟩, hix, fun _ => ⟨ib, 0, rfl, fun k x hx j v hj => by
    rw [Nat.zero_add, cell_of_row w ib _ _ _ _ hi, List.getElem?_toArray]
    exact flat_get Ix.cells 11 ix_len (lixs n) k x hx j v hj⟩⟩
  have hfx : FxOk w (lfn n ib bb) := ⟨by show 4 ≤ maxLen; unfold maxLen; omega, i64s 0 (by decide), i64s 1 (by decide), sl0_at w, rfl, ⟨Nat.le_refl _, by show 1 ≤ maxLen; unfold maxLen; omega⟩, fun x hx => by
    obtain rfl : x = lblk n ib := by simpa [lfn] using hx
    exact hbx, fun _ => ⟨bb, 0, rfl, fun k x hx => by
      cases k with
      | zero => obtain rfl : lblk n ib = x := by simpa [lfn] using hx
                rw [cell_of_row w bb _ _ _ _ hb]; rfl
      | succ k => simp [lfn] at hx⟩⟩
  refine ⟨i64s 0 (by decide), rfl, ⟨Nat.le_refl _, Nat.zero_le _⟩, (fun g hg => by cases hg), (fun h => absurd h (Nat.lt_irrefl 0)), rfl, ⟨Nat.le_refl _, by show 1 ≤ maxLen; unfold maxLen; omega⟩, fun f hf' => ?_, fun _ => ⟨fb, 0, rfl, fun k f hf' j v hj => ?_⟩⟩
  · obtain rfl : f = lfn n ib bb := by simpa [lpg] using hf'
    exact hfx
  · cases k with
    | zero =>
      obtain rfl : lfn n ib bb = f := by simpa [lpg] using hf'
      rw [cell_of_row w fb _ _ _ _ hf, List.getElem?_toArray]
      simpa using hj
    | succ k => simp [lpg] at hf'
theorem lpg_check (n : Int) (ib bb fb : Nat) : (lpg n ib bb fb).ok = true := by rfl
theorem lpg_plain (n : Int) (ib bb fb : Nat) : plain (lpg n ib bb fb) := by
  refine ⟨rfl, fun f hf => ?_⟩
  obtain rfl : f = lfn n ib bb := by simpa [lpg] using hf
  rfl
theorem lpg_few (n : Int) (ib bb fb : Nat) : fewRegs (lpg n ib bb fb) := fun f hf => by
  obtain rfl : f = lfn n ib bb := by simpa [lpg] using hf
  show (1 : Int) ≤ 256; omega
theorem lpg_count (n : Int) (ib bb fb : Nat) : countL (lpg n ib bb fb).fl = 3 := rfl
theorem lpg_small (n : Int) (ib bb fb : Nat) : ∀ f ∈ (lpg n ib bb fb).fl, SmallFx f := fun f hf => by
  obtain rfl : f = lfn n ib bb := by simpa [lpg] using hf
  refine ⟨Nat.zero_le _, by show 1 ≤ 1000000; omega, fun b hb => ?_⟩
  obtain rfl : b = lblk n ib := by simpa [lfn] using hb
  refine ⟨by show 3 ≤ 1000000; omega, fun x hx => ?_⟩
  have hx' : x ∈ lixs n := hx
  unfold lixs at hx'
  simp at hx'
  rcases hx' with rfl | rfl | rfl <;> exact ⟨Nat.zero_le _, Nat.zero_le _, Nat.zero_le _⟩
theorem lsame (n m : Int) (ib bb ib' bb' : Nat) (h : n ≠ m) : sameRow Fx.same [lfn n ib bb] [lfn m ib' bb'] = false := by
  unfold sameRow
  simp only [List.zip_cons_cons, List.all_cons, Fx.same, lfn, List.zip_nil_right, List.all_nil]
  simp [sameRow, Bx.same, lblk, lixs, Ix.same, h]
/-! What it comes to. -/
def ls0 : St := St.start.enter 0 1 [] (-1) 16777216
def lf (k : Nat) : Fr1 := ⟨0, 0, k, 0, 16777216, 16777216, -1⟩
theorem l_at (n : Int) (ib bb : Nat) (X : Sx) (fuel : Int) (hfl : X.P.fl = [lfn n ib bb]) (hfu : X.fuel = fuel) (s : St) (k : Nat) (x : Ix) (hs : s.fs = [lf k]) (hr : s.rg.length = 1) (hx : (lixs n)[k]? = some x) (hst : (s.steps : Int) ≠ fuel) (hst' : s.steps ≤ 2000000) (hk : k ≤ 1000000) :
    At X s 0 (lf k) (lfn n ib bb) (lblk n ib) x :=
  ⟨by rw [hs]; rfl, by omega, by rw [hs]; rfl, by rw [hfl]; rfl, rfl, hx, by rw [hr]; exact Nat.zero_lt_one, by rw [hr]; omega, by rw [hfu]; exact hst, hst', hk⟩
def ls1 (n : Int) : St := { ls0.next 0 (lf 0) with rg := ls0.rg.set 0 n }
def ls2 (n : Int) : St := { (ls1 n).next 0 (lf 1) with out := (ls1 n).out ++ [n % 256] }
def ls3 (n : Int) : St := ((ls2 n).next 0 (lf 2)).stop 1 n
theorem lstep1 (n fuel : Int) (ib bb : Nat) (hf : (0 : Int) ≠ fuel) : StepsTo [lfn n ib bb] fuel ls0 (ls1 n) := fun X w c hX hfl hfu h =>
  step_const X hX w c ls0 0 (lf 0) (lfn n ib bb) (lblk n ib) _ h (l_at n ib bb X fuel hfl hfu ls0 0 _ rfl rfl rfl hf (by decide) (by decide)) rfl 0 rfl (by decide)
theorem lstep2 (n fuel : Int) (hn : I64 n) (ib bb : Nat) (hf : (1 : Int) ≠ fuel) : StepsTo [lfn n ib bb] fuel (ls1 n) (ls2 n) := fun X w c hX hfl hfu h =>
  step_out X hX w c (ls1 n) 0 (lf 1) (lfn n ib bb) (lblk n ib) _ h (l_at n ib bb X fuel hfl hfu (ls1 n) 1 _ rfl rfl rfl hf (by show 1 ≤ 2000000; omega) (by decide)) rfl 0 rfl n rfl hn (by show 0 ≤ 900000; omega)
theorem lstep3 (n fuel : Int) (hn : I64 n) (ib bb : Nat) (hf : (2 : Int) ≠ fuel) : StepsTo [lfn n ib bb] fuel (ls2 n) (ls3 n) := fun X w c hX hfl hfu h => by
  refine step_lead X hX w c (ls2 n) 0 (lf 2) (lfn n ib bb) (lblk n ib) _ h (l_at n ib bb X fuel hfl hfu (ls2 n) 2 _ rfl rfl rfl hf (by show 2 ≤ 2000000; omega) (by decide)) 17 rfl (by decide) (ls3 n) (fun w3 g ib' io rb ln rc hm hk0 hx hxo hln hrg hcell hfs => ?_)
  have x0 := hx 0 _ rfl
  have x3 := hx 3 _ rfl
  rw [Nat.add_zero] at x0
  have hln' : ln = 1 := hln
  exact lead_ret X w3 (ls3 n) ib' io rb 0 ln rc 0 _ n x0 x3 (by omega) (by omega) (hcell 0 n rfl) (answer_one X w3 c ((ls2 n).next 0 (lf 2)) hm rfl n)
theorem lruns (n : Int) (hn : I64 n) (ib bb : Nat) : Runs [lfn n ib bb] 10 3 ls0 (ls3 n) :=
  .step 2 _ _ _ rfl (lstep1 n 10 ib bb (by decide)) (.step 1 _ _ _ rfl (lstep2 n 10 hn ib bb (by decide)) (.step 0 _ _ _ rfl (lstep3 n 10 hn ib bb (by decide)) (.done _ (by show (1 : Int) ≠ 0; decide))))
theorem lruns2 (n : Int) (hn : I64 n) (ib bb : Nat) : Runs [lfn n ib bb] 2 3 ls0 ((ls2 n).stop 3 0) :=
  .step 2 _ _ _ rfl (lstep1 n 2 ib bb (by decide)) (.step 1 _ _ _ rfl (lstep2 n 2 hn ib bb (by decide)) (.step 0 _ _ _ rfl (fun X w c hX hfl hfu h => step_fuel X w c _ h (by rw [hfu]; rfl)) (.done _ (by show (3 : Int) ≠ 0; decide))))
end Go.Proofs.YtbfjmhfhhlncjaaDoor
