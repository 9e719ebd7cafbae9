/- The law IrWords: its program's run. -/
import Derived.Test.YtbfjmhfhhlncjaaDoorIrWordsA
import Derived.Test.YtbfjmhfhhlncjaaDoorIrAwakeA
namespace Go.Proofs.YtbfjmhfhhlncjaaDoor
open Go.RowKit
set_option linter.unusedVariables false
set_option linter.unusedSimpArgs false

theorem wix_out (a b S : Int) (i : Nat) (hi : i < 8) : (wixs a b S)[4 + 2 * i]? = some (xo (2 : Nat)) := by
  have h : i = 0 ∨ i = 1 ∨ i = 2 ∨ i = 3 ∨ i = 4 ∨ i = 5 ∨ i = 6 ∨ i = 7 := by omega
  rcases h with rfl | rfl | rfl | rfl | rfl | rfl | rfl | rfl <;> rfl
theorem wix_shr (a b S : Int) (i : Nat) (hi : i < 8) : (wixs a b S)[4 + 2 * i + 1]? = some (xb 12 (2 : Nat) (2 : Nat) (3 : Nat)) := by
  have h : i = 0 ∨ i = 1 ∨ i = 2 ∨ i = 3 ∨ i = 4 ∨ i = 5 ∨ i = 6 ∨ i = 7 := by omega
  rcases h with rfl | rfl | rfl | rfl | rfl | rfl | rfl | rfl <;> rfl
section
variable {a b S : Int} {ib ic bb : Nat}
def wend (a b n : Int) : St := (wst 21 [a, b, shr8 n 8, 8] (bytes8 n 8)).stop 1 (shr8 n 8)
theorem w_loop (n : Int) (hn : I64 n) : ∀ (k i : Nat), i + k = 8 → Runs [wfn a b S ib ic bb] 100 (2 * k + 1) (wst (4 + 2 * i) [a, b, shr8 n i, 8] (bytes8 n i)) (wend a b n)
  | 0, i, h => by
    obtain rfl : i = 8 := by omega
    exact .step 0 _ _ _ rfl (w_ret 20 _ _ 2 (shr8 n 8) rfl rfl (by decide) rfl (by decide)) (.done _ (by show (1 : Int) ≠ 0; decide))
  | k + 1, i, h => by
    have hi : i < 8 := by omega
    have h1 : StepsTo [wfn a b S ib ic bb] 100 (wst (4 + 2 * i) [a, b, shr8 n i, 8] (bytes8 n i)) (wst (4 + 2 * i + 1) [a, b, shr8 n i, 8] (bytes8 n (i + 1))) := by
      rw [bytes8_succ]
      exact w_out (4 + 2 * i) _ _ 2 (shr8 n i) rfl (wix_out a b S i hi) (by omega) rfl (shr8_I64 n hn i) (by rw [bytes8_len]; omega)
    have h2 : StepsTo [wfn a b S ib ic bb] 100 (wst (4 + 2 * i + 1) [a, b, shr8 n i, 8] (bytes8 n (i + 1))) (wst (4 + 2 * (i + 1)) [a, b, shr8 n (i + 1), 8] (bytes8 n (i + 1))) :=
      w_bin (4 + 2 * i + 1) _ _ 12 2 2 3 (shr8 n i) 8 rfl (wix_shr a b S i hi) (by omega) (by decide) rfl rfl (shr8_I64 n hn i) (i64s 8 (by decide)) (shr_ok _)
    exact .step (2 * k + 2) _ _ _ rfl h1 (.step (2 * k + 1) _ _ _ rfl h2 (w_loop n hn k (i + 1) (by omega)))
theorem w_runs (ha : I64 a) (hb : I64 b) (hok : Wd.plainOk S a b = true) (n : Int) (hv : Wd.plainV S a b = n) (hn : I64 n) :
    Runs [wfn a b S ib ic bb] 100 21 (St.start.enter 0 4 [] (-1) 16777216) (wend a b n) := by
  refine .step 20 _ (wst 1 [a, 0, 0, 0] []) _ rfl (w_const 0 [0, 0, 0, 0] [] 0 a rfl rfl (by decide) (by decide)) ?_
  refine .step 19 _ (wst 2 [a, b, 0, 0] []) _ rfl (w_const 1 [a, 0, 0, 0] [] 1 b rfl rfl (by decide) (by decide)) ?_
  refine .step 18 _ (wst 3 [a, b, n, 0] []) _ rfl ?_ ?_
  · have h := w_bin (a := a) (b := b) (S := S) (ib := ib) (ic := ic) (bb := bb) 2 [a, b, 0, 0] [] S 2 0 1 a b rfl rfl (by decide) (by decide) rfl rfl ha hb hok
    rw [hv] at h
    exact h
  refine .step 17 _ (wst 4 [a, b, n, 8] []) _ rfl (w_const 3 [a, b, n, 0] [] 3 8 rfl rfl (by decide) (by decide)) ?_
  exact w_loop n hn 8 0 rfl
theorem w_runs_no (ha : I64 a) (hb : I64 b) (hok : Wd.plainOk S a b = false) :
    Runs [wfn a b S ib ic bb] 100 3 (St.start.enter 0 4 [] (-1) 16777216) ((wst 3 [a, b, 0, 0] []).stop 2 0) := by
  refine .step 2 _ (wst 1 [a, 0, 0, 0] []) _ rfl (w_const 0 [0, 0, 0, 0] [] 0 a rfl rfl (by decide) (by decide)) ?_
  refine .step 1 _ (wst 2 [a, b, 0, 0] []) _ rfl (w_const 1 [a, 0, 0, 0] [] 1 b rfl rfl (by decide) (by decide)) ?_
  exact .step 0 _ _ _ rfl (w_bin_no 2 [a, b, 0, 0] [] S 2 0 1 a b rfl rfl (by decide) rfl rfl ha hb hok) (.done _ (by show (2 : Int) ≠ 0; decide))
end
/-! In memory. -/
theorem xix_ok (a b S : Int) (ha : I64 a) (hb : I64 b) (hS : I64 S) (w : World) : ∀ x ∈ wixs a b S, IxOk w x := by
  have z (k : Int) (h : -1000 ≤ k ∧ k ≤ 1000) := i64s k h
  have c : ∀ d n : Int, (-1000 ≤ d ∧ d ≤ 1000) → I64 n → IxOk w (xc d n) := fun d n hd hn => ⟨z 1 (by decide), z 0 (by decide), z d hd, z 0 (by decide), z 0 (by decide), hn, z 0 (by decide), sl0_at w, sl0_at w, sl0_at w⟩
  have cb : ∀ s d p q : Int, I64 s → (-1000 ≤ d ∧ d ≤ 1000) → (-1000 ≤ p ∧ p ≤ 1000) → (-1000 ≤ q ∧ q ≤ 1000) → IxOk w (xb s d p q) := fun s d p q hs hd hp hq => ⟨z 3 (by decide), hs, z d hd, z p hp, z q hq, z 0 (by decide), z 0 (by decide), sl0_at w, sl0_at w, sl0_at w⟩
  have co : IxOk w (xo 2) := ⟨z 13 (by decide), z 0 (by decide), z 0 (by decide), z 2 (by decide), z 0 (by decide), z 0 (by decide), z 0 (by decide), sl0_at w, sl0_at w, sl0_at w⟩
  have cr : IxOk w (xr 2) := ⟨z 17 (by decide), z 0 (by decide), z 0 (by decide), z 2 (by decide), z 0 (by decide), z 0 (by decide), z 0 (by decide), sl0_at w, sl0_at w, sl0_at w⟩
  have cs : IxOk w (xb 12 2 2 3) := cb 12 2 2 3 (z 12 (by decide)) (by decide) (by decide) (by decide)
  have cp : ∀ (k : Nat) (x : Ix), x ∈ wpairs k → IxOk w x := by
    intro k
    induction k with
    | zero => intro x hx; cases hx
    | succ k ih =>
      intro x hx
      rcases List.mem_append.1 hx with hx | hx
      · exact ih x hx
      · simp at hx
        rcases hx with rfl | rfl
        · exact co
        · exact cs
  intro x hx
  rcases List.mem_append.1 hx with hx | hx
  · rcases List.mem_append.1 hx with hx | hx
    · simp [whead] at hx
      rcases hx with rfl | rfl | rfl | rfl
      · exact c 0 a (by decide) ha
      · exact c 1 b (by decide) hb
      · exact cb S 2 0 1 hS (by decide) (by decide) (by decide)
      · exact c 3 8 (by decide) (z 8 (by decide))
    · exact cp 8 x hx
  · obtain rfl : x = xr 2 := by simpa using hx
    exact cr
def icells (l : List Ix) : List Value := l.flatMap Ix.cells
theorem wpg_ok (a b S : Int) (ha : I64 a) (hb : I64 b) (hS : I64 S) (ib ic bb fb B : Nat) (w : World) (hi : w.ownsRow B 27 11 (.slice (some ⟨ib, 0, none⟩) 21 ic) 21 (icells (wixs a b S))) (hic : 21 ≤ ic ∧ ic ≤ maxLen) (hbb : w.heap[bb]? = some (.cells #[.slice (some ⟨ib, 0, none⟩) 21 ic] 45 (0, 0)))
    (hf : w.heap[fb]? = some (.cells ((wfn a b S ib ic bb).cells).toArray 42 (0, 0))) : PgOk w (wpg a b S ib ic bb fb) := by
  have hbx : BxAt w (wblk a b S ib ic) := ⟨rfl, hic, xix_ok a b S ha hb hS w, fun _ => ⟨ib, 0, rfl, fun k x hx j v hj => by
    rw [Nat.zero_add]
    have hk : k < 21 := (List.getElem?_eq_some_iff.1 hx).1
    have hj' : j < 11 := by have := (List.getElem?_eq_some_iff.1 hj).1; rwa [ix_len] at this
    have h := hi.cellAt (k * 11 + j) (by omega)
    exact h.trans (flat_get Ix.cells 11 ix_len (wixs a b S) k x hx j v hj)⟩⟩
  have hfx : FxOk w (wfn a b S ib ic bb) := ⟨by show 4 ≤ maxLen; unfold maxLen; omega, i64s 0 (by decide), i64s 4 (by decide), sl0_at w, rfl, ⟨Nat.le_refl _, by show 1 ≤ maxLen; unfold maxLen; omega⟩, fun x hx => by
    obtain rfl : x = wblk a b S ib ic := by simpa [wfn] using hx
    exact hbx, fun _ => ⟨bb, 0, rfl, fun k x hx => by
      cases k with
      | zero => obtain rfl : wblk a b S ib ic = x := by simpa [wfn] using hx
                rw [cell_of_row w bb _ _ _ _ hbb]; rfl
      | succ k => simp [wfn] at hx⟩⟩
  refine ⟨i64s 0 (by decide), rfl, ⟨Nat.le_refl _, Nat.zero_le _⟩, (fun g hg => by cases hg), (fun h => absurd h (Nat.lt_irrefl 0)), rfl, ⟨Nat.le_refl _, by show 1 ≤ maxLen; unfold maxLen; omega⟩, fun f hf' => ?_, fun _ => ⟨fb, 0, rfl, fun k f hf' j v hj => ?_⟩⟩
  · obtain rfl : f = wfn a b S ib ic bb := by simpa [wpg] using hf'
    exact hfx
  · cases k with
    | zero =>
      obtain rfl : wfn a b S ib ic bb = f := by simpa [wpg] using hf'
      rw [cell_of_row w fb _ _ _ _ hf, List.getElem?_toArray]
      simpa using hj
    | succ k => simp [wpg] at hf'
theorem words_yes (a b S : Int) (ha : I64 a) (hb : I64 b) (hS : 1 ≤ S ∧ S ≤ 10) (ib ic bb fb : Nat) (w : World) (hp : PgOk w (wpg a b S ib ic bb fb)) (L : Laid w) (hok : Wd.plainOk S a b = true) (n : Int) (hv : Wd.plainV S a b = n) (hn : I64 n) :
    Calls Tryd.prog 22 #[pv (wpg a b S ib ic bb fb), .slice none 0 0, .int .i64 100] w fun e w' => ∃ s : Sl, e = .returned (ov 1 0 s) ∧ s.l = bytes8 n 8 ∧ BAt w' s ∧ Keeps No w w' := by
  refine (run_any (wpg a b S ib ic bb fb) w hp L (wpg_check a b S hS ib ic bb fb) (wpg_few a b S ib ic bb fb) (wpg_plain a b S ib ic bb fb) (by show 1 ≤ 100000; omega) none 0 0 (by decide) 100 (by decide) 0 rfl (wfn a b S ib ic bb) rfl 4 rfl (by decide) 21 (wend a b n) (w_runs ha hb hok n hv hn)).mono ?_
  rintro e w' ⟨vo, rfl, ho, hk⟩
  obtain ⟨s, rfl, hl, hb'⟩ := own_bytes ho
  refine ⟨s, ?_, hl, hb', hk⟩
  show Ending.returned (.agg #[.int .i64 1, .int .i64 (shr8 n 8 % 256), s.v]) = _
  rw [shr8_end n hn]
theorem words_no (a b S : Int) (ha : I64 a) (hb : I64 b) (hS : 1 ≤ S ∧ S ≤ 10) (ib ic bb fb : Nat) (w : World) (hp : PgOk w (wpg a b S ib ic bb fb)) (L : Laid w) (hok : Wd.plainOk S a b = false) :
    Calls Tryd.prog 22 #[pv (wpg a b S ib ic bb fb), .slice none 0 0, .int .i64 100] w fun e w' => ∃ s : Sl, e = .returned (ov 2 0 s) ∧ s.l = [] ∧ BAt w' s ∧ Keeps No w w' := by
  refine (run_any (wpg a b S ib ic bb fb) w hp L (wpg_check a b S hS ib ic bb fb) (wpg_few a b S ib ic bb fb) (wpg_plain a b S ib ic bb fb) (by show 1 ≤ 100000; omega) none 0 0 (by decide) 100 (by decide) 0 rfl (wfn a b S ib ic bb) rfl 4 rfl (by decide) 3 _ (w_runs_no ha hb hok)).mono ?_
  rintro e w' ⟨vo, rfl, ho, hk⟩
  obtain ⟨s, rfl, hl, hb'⟩ := own_bytes ho
  exact ⟨s, rfl, hl, hb', hk⟩
end Go.Proofs.YtbfjmhfhhlncjaaDoor
