/- The law IrWords: its program, and what it comes to. -/
import Derived.Test.YtbfjmhfhhlncjaaDoorIrLittle
import Derived.Test.YtbfjmhfhhlncjaaDoorIrAwakeA
import Derived.Deep.AppendLies
namespace Go.Proofs.YtbfjmhfhhlncjaaDoor
open Go.RowKit
set_option linter.unusedVariables false
set_option linter.unusedSimpArgs false

def xc (d n : Int) : Ix := ⟨1, 0, d, 0, 0, n, 0, false, sl0, sl0, sl0⟩
def xb (S d a b : Int) : Ix := ⟨3, S, d, a, b, 0, 0, false, sl0, sl0, sl0⟩
def xo (a : Int) : Ix := ⟨13, 0, 0, a, 0, 0, 0, false, sl0, sl0, sl0⟩
def xr (a : Int) : Ix := ⟨17, 0, 0, a, 0, 0, 0, false, sl0, sl0, sl0⟩
def whead (a b S : Int) : List Ix := [xc 0 a, xc 1 b, xb S 2 0 1, xc 3 8]
def wpairs : Nat → List Ix
  | 0 => []
  | n + 1 => wpairs n ++ [xo 2, xb 12 2 2 3]
def wixs (a b S : Int) : List Ix := whead a b S ++ wpairs 8 ++ [xr 2]
theorem wpairs_len (n : Nat) : (wpairs n).length = 2 * n := by
  induction n with
  | zero => rfl
  | succ n ih => simp [wpairs, ih]; omega
def wblk (a b S : Int) (ib ic : Nat) : Bx := ⟨some ⟨ib, 0, none⟩, 21, ic, wixs a b S⟩
def wfn (a b S : Int) (ib ic bb : Nat) : Fx := ⟨lmain, 0, 4, sl0, some ⟨bb, 0, none⟩, 1, 1, [wblk a b S ib ic], true⟩
def wpg (a b S : Int) (ib ic bb fb : Nat) : Pg := ⟨none, 0, 0, [], some ⟨fb, 0, none⟩, 1, 1, [wfn a b S ib ic bb], 0⟩
theorem wpg_plain (a b S : Int) (ib ic bb fb : Nat) : plain (wpg a b S ib ic bb fb) := by
  refine ⟨rfl, fun f hf => ?_⟩
  obtain rfl : f = wfn a b S ib ic bb := by simpa [wpg] using hf
  rfl
theorem wpg_few (a b S : Int) (ib ic bb fb : Nat) : fewRegs (wpg a b S ib ic bb fb) := fun f hf => by
  obtain rfl : f = wfn a b S ib ic bb := by simpa [wpg] using hf
  show (4 : Int) ≤ 256; omega
theorem wpg_check (a b S : Int) (hS : 1 ≤ S ∧ S ≤ 10) (ib ic bb fb : Nat) : (wpg a b S ib ic bb fb).ok = true := by
  have h : S = 1 ∨ S = 2 ∨ S = 3 ∨ S = 4 ∨ S = 5 ∨ S = 6 ∨ S = 7 ∨ S = 8 ∨ S = 9 ∨ S = 10 := by omega
  rcases h with rfl | rfl | rfl | rfl | rfl | rfl | rfl | rfl | rfl | rfl <;> rfl
/-! What it comes to. -/
def wst (m : Nat) (r o : List Int) : St := ⟨[lf m], r, o, [], [], 0, m, 0, 0⟩
section
variable {a b S : Int} {ib ic bb : Nat}
theorem w_at (X : Sx) (hfl : X.P.fl = [wfn a b S ib ic bb]) (hfu : X.fuel = 100) (m : Nat) (r o : List Int) (x : Ix) (hr : r.length = 4) (hx : (wixs a b S)[m]? = some x) (hm : m < 100) :
    At X (wst m r o) 0 (lf m) (wfn a b S ib ic bb) (wblk a b S ib ic) x :=
  ⟨rfl, by omega, rfl, by rw [hfl]; rfl, rfl, hx, by show 0 < r.length; omega, by show r.length ≤ 1000000; omega, by rw [hfu]; show ((m : Nat) : Int) ≠ 100; omega, by show m ≤ 2000000; omega, by show m ≤ 1000000; omega⟩
theorem w_const (m : Nat) (r o : List Int) (d : Nat) (n : Int) (hr : r.length = 4) (hx : (wixs a b S)[m]? = some (xc d n)) (hm : m < 100) (hd : d < 4) :
    StepsTo [wfn a b S ib ic bb] 100 (wst m r o) (wst (m + 1) (r.set d n) o) := fun X w c hX hfl hfu h => by
  have := step_const X hX w c (wst m r o) 0 (lf m) (wfn a b S ib ic bb) (wblk a b S ib ic) _ h (w_at X hfl hfu m r o _ hr hx hm) rfl d rfl (by show 0 + d < r.length; omega)
  rw [show (lf m).base + d = d from Nat.zero_add d] at this
  exact this
theorem w_bin (m : Nat) (r o : List Int) (s : Int) (d p q : Nat) (zp zq : Int) (hr : r.length = 4) (hx : (wixs a b S)[m]? = some (xb s d p q)) (hm : m < 100) (hd : d < 4) (hp : r[p]? = some zp) (hq : r[q]? = some zq) (ip : I64 zp) (iq : I64 zq) (hok : Wd.plainOk s zp zq = true) :
    StepsTo [wfn a b S ib ic bb] 100 (wst m r o) (wst (m + 1) (r.set d (Wd.plainV s zp zq)) o) := fun X w c hX hfl hfu h => by
  have := step_bin X hX w c (wst m r o) 0 (lf m) (wfn a b S ib ic bb) (wblk a b S ib ic) _ h (w_at X hfl hfu m r o _ hr hx hm) rfl d rfl (by show 0 + d < r.length; omega) p rfl zp (by show r[0 + p]? = _; rw [Nat.zero_add]; exact hp) ip q rfl zq (by show r[0 + q]? = _; rw [Nat.zero_add]; exact hq) iq hok
  rw [show (lf m).base + d = d from Nat.zero_add d] at this
  exact this
theorem w_bin_no (m : Nat) (r o : List Int) (s : Int) (d p q : Nat) (zp zq : Int) (hr : r.length = 4) (hx : (wixs a b S)[m]? = some (xb s d p q)) (hm : m < 100) (hp : r[p]? = some zp) (hq : r[q]? = some zq) (ip : I64 zp) (iq : I64 zq) (hok : Wd.plainOk s zp zq = false) :
    StepsTo [wfn a b S ib ic bb] 100 (wst m r o) ((wst (m + 1) r o).stop 2 0) := fun X w c hX hfl hfu h =>
  step_bin_no X hX w c (wst m r o) 0 (lf m) (wfn a b S ib ic bb) (wblk a b S ib ic) _ h (w_at X hfl hfu m r o _ hr hx hm) rfl p rfl zp (by show r[0 + p]? = _; rw [Nat.zero_add]; exact hp) ip q rfl zq (by show r[0 + q]? = _; rw [Nat.zero_add]; exact hq) iq hok
theorem w_out (m : Nat) (r o : List Int) (p : Nat) (zp : Int) (hr : r.length = 4) (hx : (wixs a b S)[m]? = some (xo p)) (hm : m < 100) (hp : r[p]? = some zp) (ip : I64 zp) (ho : o.length ≤ 900000) :
    StepsTo [wfn a b S ib ic bb] 100 (wst m r o) (wst (m + 1) r (o ++ [zp % 256])) := fun X w c hX hfl hfu h =>
  step_out X hX w c (wst m r o) 0 (lf m) (wfn a b S ib ic bb) (wblk a b S ib ic) _ h (w_at X hfl hfu m r o _ hr hx hm) rfl p rfl zp (by show r[0 + p]? = _; rw [Nat.zero_add]; exact hp) ip ho
theorem w_ret (m : Nat) (r o : List Int) (p : Nat) (zp : Int) (hr : r.length = 4) (hx : (wixs a b S)[m]? = some (xr p)) (hm : m < 100) (hp : r[p]? = some zp) (hpl : p < 4) :
    StepsTo [wfn a b S ib ic bb] 100 (wst m r o) ((wst (m + 1) r o).stop 1 zp) := fun X w c hX hfl hfu h => by
  refine step_lead X hX w c (wst m r o) 0 (lf m) (wfn a b S ib ic bb) (wblk a b S ib ic) _ h (w_at X hfl hfu m r o _ hr hx hm) 17 rfl (by decide) ((wst (m + 1) r o).stop 1 zp) (fun w3 g ib' io rb ln rc hm hk0 hx hxo hln hrg hcell hfs => ?_)
  have x0 := hx 0 _ rfl
  have x3 := hx 3 _ rfl
  rw [Nat.add_zero] at x0
  have hln' : ln = 4 := by rw [hln]; show r.length - 0 = 4; omega
  exact lead_ret X w3 ((wst (m + 1) r o).stop 1 zp) ib' io rb 0 ln rc p _ zp x0 x3 (by omega) (by omega) (hcell p zp (by show r[0 + p]? = _; rw [Nat.zero_add]; exact hp)) (answer_one X w3 c ((wst m r o).next 0 (lf m)) hm rfl zp)
end
/-- A number, shifted by bytes. -/
def shr8 (n : Int) : Nat → Int
  | 0 => n
  | k + 1 => Wd.plainV 12 (shr8 n k) 8
def bytes8 (n : Int) (k : Nat) : List Int := (List.range k).map fun i => shr8 n i % 256
theorem shr_ok (n : Int) : Wd.plainOk 12 n 8 = true := by simp [Wd.plainOk]
theorem shr_v (n : Int) : Wd.plainV 12 n 8 = wrap64 (IntKind.u64.wrap n / 256) := by
  unfold Wd.plainV
  rw [shr_ok]
  simp
theorem wrap64_I64 (n : Int) : I64 (wrap64 n) := by unfold I64 wrap64; omega
theorem shr8_I64 (n : Int) (h : I64 n) : ∀ k, I64 (shr8 n k)
  | 0 => h
  | k + 1 => by show I64 (Wd.plainV 12 (shr8 n k) 8); rw [shr_v]; exact wrap64_I64 _
theorem u_of (n : Int) : IntKind.u64.wrap n = n % 18446744073709551616 := by simp only [IntKind.wrap, IntKind.bits, IntKind.signed]; simp
theorem shr8_u (n : Int) : ∀ k, IntKind.u64.wrap (shr8 n k) = IntKind.u64.wrap n / 256 ^ k
  | 0 => by simp [shr8]
  | k + 1 => by
    show IntKind.u64.wrap (Wd.plainV 12 (shr8 n k) 8) = _
    rw [shr_v, shr8_u n k, Int.pow_succ, ← Int.ediv_ediv_of_nonneg (by exact Int.le_of_lt (Int.pow_pos (by decide)))]
    have h : 0 ≤ IntKind.u64.wrap n / 256 ^ k ∧ IntKind.u64.wrap n / 256 ^ k < 18446744073709551616 := by
      rw [← shr8_u n k, u_of]; omega
    obtain ⟨U, hU⟩ : ∃ U, IntKind.u64.wrap n / 256 ^ k = U := ⟨_, rfl⟩
    rw [hU] at h ⊢
    rw [u_of]; unfold wrap64; omega
theorem shr8_low (n : Int) (k : Nat) : shr8 n k % 256 = (IntKind.u64.wrap n / 256 ^ k) % 256 := by
  rw [← shr8_u, u_of]; omega
theorem shr8_end (n : Int) (h : I64 n) : shr8 n 8 % 256 = 0 := by
  rw [shr8_low, u_of]
  have : (256 : Int) ^ 8 = 18446744073709551616 := by decide
  rw [this]; omega
theorem bytes8_succ (n : Int) (k : Nat) : bytes8 n (k + 1) = bytes8 n k ++ [shr8 n k % 256] := by
  unfold bytes8; rw [List.range_succ, List.map_append]; rfl
theorem bytes8_len (n : Int) (k : Nat) : (bytes8 n k).length = k := by unfold bytes8; simp
end Go.Proofs.YtbfjmhfhhlncjaaDoor
/- The law IrWords: its program's run. -/
namespace Go.Proofs.YtbfjmhfhhlncjaaDoor
open Go.RowKit
set_option linter.unusedVariables false
set_option linter.unusedSimpArgs false

theorem wix_out (a b S : Int) (i : Nat) (hi : i < 8) : (wixs a b S)[4 + 2 * i]? = some (xo (2 : Nat)) := by
  have h : i = 0 ∨ i = 1 ∨ i = 2 ∨ i = 3 ∨ i = 4 ∨ i = 5 ∨ i = 6 ∨ i = 7 := by omega
  rcases h with rfl | rfl | rfl | rfl | rfl | rfl | rfl | rfl <;> rfl
theorem wix_shr (a b S : Int) (i : Nat) (hi : i < 8) : (wixs a b S)[4 + 2 * i + 1]? = some (xb 12 (2 : Nat) (2 : Nat) (3 : Nat)) := by
  have h : i = 0 ∨ i = 1 ∨ i = 2 ∨ i = 3 ∨ i = 4 ∨ i = 5 ∨ i = 6 ∨ i = 7 := by omega
  rcases h with rfl | rfl | rfl | rfl | rfl | rfl | rfl | rfl <;> rfl
section
variable {a b S : Int} {ib ic bb : Nat}
def wend (a b n : Int) : St := (wst 21 [a, b, shr8 n 8, 8] (bytes8 n 8)).stop 1 (shr8 n 8)
theorem w_loop (n : Int) (hn : I64 n) : ∀ (k i : Nat), i + k = 8 → Runs [wfn a b S ib ic bb] 100 (2 * k + 1) (wst (4 + 2 * i) [a, b, shr8 n i, 8] (bytes8 n i)) (wend a b n)
  | 0, i, h => by
    obtain rfl : i = 8 := by omega
    exact .step 0 _ _ _ rfl (w_ret 20 _ _ 2 (shr8 n 8) rfl rfl (by decide) rfl (by decide)) (.done _ (by show (1 : Int) ≠ 0; decide))
  | k + 1, i, h => by
    have hi : i < 8 := by omega
    have h1 : StepsTo [wfn a b S ib ic bb] 100 (wst (4 + 2 * i) [a, b, shr8 n i, 8] (bytes8 n i)) (wst (4 + 2 * i + 1) [a, b, shr8 n i, 8] (bytes8 n (i + 1))) := by
      rw [bytes8_succ]
      exact w_out (4 + 2 * i) _ _ 2 (shr8 n i) rfl (wix_out a b S i hi) (by omega) rfl (shr8_I64 n hn i) (by rw [bytes8_len]; omega)
    have h2 : StepsTo [wfn a b S ib ic bb] 100 (wst (4 + 2 * i + 1) [a, b, shr8 n i, 8] (bytes8 n (i + 1))) (wst (4 + 2 * (i + 1)) [a, b, shr8 n (i + 1), 8] (bytes8 n (i + 1))) :=
      w_bin (4 + 2 * i + 1) _ _ 12 2 2 3 (shr8 n i) 8 rfl (wix_shr a b S i hi) (by omega) (by decide) rfl rfl (shr8_I64 n hn i) (i64s 8 (by decide)) (shr_ok _)
    exact .step (2 * k + 2) _ _ _ rfl h1 (.step (2 * k + 1) _ _ _ rfl h2 (w_loop n hn k (i + 1) (by omega)))
theorem w_runs (ha : I64 a) (hb : I64 b) (hok : Wd.plainOk S a b = true) (n : Int) (hv : Wd.plainV S a b = n) (hn : I64 n) :
    Runs [wfn a b S ib ic bb] 100 21 (St.start.enter 0 4 [] (-1) 16777216) (wend a b n) := by
  refine .step 20 _ (wst 1 [a, 0, 0, 0] []) _ rfl (w_const 0 [0, 0, 0, 0] [] 0 a rfl rfl (by decide) (by decide)) ?_
  refine .step 19 _ (wst 2 [a, b, 0, 0] []) _ rfl (w_const 1 [a, 0, 0, 0] [] 1 b rfl rfl (by decide) (by decide)) ?_
  refine .step 18 _ (wst 3 [a, b, n, 0] []) _ rfl ?_ ?_
  · have h := w_bin (a := a) (b := b) (S := S) (ib := ib) (ic := ic) (bb := bb) 2 [a, b, 0, 0] [] S 2 0 1 a b rfl rfl (by decide) (by decide) rfl rfl ha hb hok
    rw [hv] at h
    exact h
  refine .step 17 _ (wst 4 [a, b, n, 8] []) _ rfl (w_const 3 [a, b, n, 0] [] 3 8 rfl rfl (by decide) (by decide)) ?_
  exact w_loop n hn 8 0 rfl
theorem w_runs_no (ha : I64 a) (hb : I64 b) (hok : Wd.plainOk S a b = false) :
    Runs [wfn a b S ib ic bb] 100 3 (St.start.enter 0 4 [] (-1) 16777216) ((wst 3 [a, b, 0, 0] []).stop 2 0) := by
  refine .step 2 _ (wst 1 [a, 0, 0, 0] []) _ rfl (w_const 0 [0, 0, 0, 0] [] 0 a rfl rfl (by decide) (by decide)) ?_
  refine .step 1 _ (wst 2 [a, b, 0, 0] []) _ rfl (w_const 1 [a, 0, 0, 0] [] 1 b rfl rfl (by decide) (by decide)) ?_
  exact .step 0 _ _ _ rfl (w_bin_no 2 [a, b, 0, 0] [] S 2 0 1 a b rfl rfl (by decide) rfl rfl ha hb hok) (.done _ (by show (2 : Int) ≠ 0; decide))
end
/-! In memory. -/
theorem xix_ok (a b S : Int) (ha : I64 a) (hb : I64 b) (hS : I64 S) (w : World) : ∀ x ∈ wixs a b S, IxOk w x := by
  have z (k : Int) (h : -1000 ≤ k ∧ k ≤ 1000) := i64s k h
  have c : ∀ d n : Int, (-1000 ≤ d ∧ d ≤ 1000) → I64 n → IxOk w (xc d n) := fun d n hd hn => ⟨z 1 (by decide), z 0 (by decide), z d hd, z 0 (by decide), z 0 (by decide), hn, z 0 (by decide), sl0_at w, sl0_at w, sl0_at w⟩
  have cb : ∀ s d p q : Int, I64 s → (-1000 ≤ d ∧ d ≤ 1000) → (-1000 ≤ p ∧ p ≤ 1000) → (-1000 ≤ q ∧ q ≤ 1000) → IxOk w (xb s d p q) := fun s d p q hs hd hp hq => ⟨z 3 (by decide), hs, z d hd, z p hp, z q hq, z 0 (by decide), z 0 (by decide), sl0_at w, sl0_at w, sl0_at w⟩
  have co : IxOk w (xo 2) := ⟨z 13 (by decide), z 0 (by decide), z 0 (by decide), z 2 (by decide), z 0 (by decide), z 0 (by decide), z 0 (by decide), sl0_at w, sl0_at w, sl0_at w⟩
  have cr : IxOk w (xr 2) := ⟨z 17 (by decide), z 0 (by decide), z 0 (by decide), z 2 (by decide), z 0 (by decide), z 0 (by decide), z 0 (by decide), sl0_at w, sl0_at w, sl0_at w⟩
  have cs : IxOk w (xb 12 2 2 3) := cb 12 2 2 3 (z 12 (by decide)) (by decide) (by decide) (by decide)
  have cp : ∀ (k : Nat) (x : Ix), x ∈ wpairs k → IxOk w x := by
    intro k
    induction k with
    | zero => intro x hx; cases hx
    | succ k ih =>
      intro x hx
      rcases List.mem_append.1 hx with hx | hx
      · exact ih x hx
      · simp at hx
        rcases hx with rfl | rfl
        · exact co
        · exact cs
  intro x hx
  rcases List.mem_append.1 hx with hx | hx
  · rcases List.mem_append.1 hx with hx | hx
    · simp [whead] at hx
      rcases hx with rfl | rfl | rfl | rfl
      · exact c 0 a (by decide) ha
      · exact c 1 b (by decide) hb
      · exact cb S 2 0 1 hS (by decide) (by decide) (by decide)
      · exact c 3 8 (by decide) (z 8 (by decide))
    · exact cp 8 x hx
  · obtain rfl : x = xr 2 := by simpa using hx
    exact cr
def icells (l : List Ix) : List Value := l.flatMap Ix.cells
theorem wpg_ok (a b S : Int) (ha : I64 a) (hb : I64 b) (hS : I64 S) (ib ic bb fb B : Nat) (w : World) (hi : w.ownsRow B 27 11 (.slice (some ⟨ib, 0, none⟩) 21 ic) 21 (icells (wixs a b S))) (hic : 21 ≤ ic ∧ ic ≤ maxLen) (hbb : w.heap[bb]? = some (.cells #[.slice (some ⟨ib, 0, none⟩) 21 ic] 45 (0, 0)))
    (hf : w.heap[fb]? = some (.cells ((wfn a b S ib ic bb).cells).toArray 42 (0, 0))) : PgOk w (wpg a b S ib ic bb fb) := by
  have hbx : BxAt w (wblk a b S ib ic) := ⟨rfl, hic, xix_ok a b S ha hb hS w, fun _ => ⟨ib, 0, rfl, fun k x hx j v hj => by
    rw [Nat.zero_add]
    have hk : k < 21 := (List.getElem?_eq_some_iff.1 hx).1
    have hj' : j < 11 := by have := (List.getElem?_eq_some_iff.1 hj).1; rwa [ix_len] at this
    have h := hi.cellAt (k * 11 + j) (by omega)
    exact h.trans (flat_get Ix.cells 11 ix_len (wixs a b S) k x hx j v hj)⟩⟩
  have hfx : FxOk w (wfn a b S ib ic bb) := ⟨by show 4 ≤ maxLen; unfold maxLen; omega, i64s 0 (by decide), i64s 4 (by decide), sl0_at w, rfl, ⟨Nat.le_refl _, by show 1 ≤ maxLen; unfold maxLen; omega⟩, fun x hx => by
    obtain rfl : x = wblk a b S ib ic := by simpa [wfn] using hx
    exact hbx, fun _ => ⟨bb, 0, rfl, fun k x hx => by
      cases k with
      | zero => obtain rfl : wblk a b S ib ic = x := by simpa [wfn] using hx
                rw [cell_of_row w bb _ _ _ _ hbb]; rfl
      | succ k => simp [wfn] at hx⟩⟩
  refine ⟨i64s 0 (by decide), rfl, ⟨Nat.le_refl _, Nat.zero_le _⟩, (fun g hg => by cases hg), (fun h => absurd h (Nat.lt_irrefl 0)), rfl, ⟨Nat.le_refl _, by show 1 ≤ maxLen; unfold maxLen; omega⟩, fun f hf' => ?_, fun _ => ⟨fb, 0, rfl, fun k f hf' j v hj => ?_⟩⟩
  · obtain rfl : f = wfn a b S ib ic bb := by simpa [wpg] using hf'
    exact hfx
  · cases k with
    | zero =>
      obtain rfl : wfn a b S ib ic bb = f := by simpa [wpg] using hf'
      rw [cell_of_row w fb _ _ _ _ hf, List.getElem?_toArray]
      simpa using hj
    | succ k => simp [wpg] at hf'
theorem words_yes (a b S : Int) (ha : I64 a) (hb : I64 b) (hS : 1 ≤ S ∧ S ≤ 10) (ib ic bb fb : Nat) (w : World) (hp : PgOk w (wpg a b S ib ic bb fb)) (L : Laid w) (hok : Wd.plainOk S a b = true) (n : Int) (hv : Wd.plainV S a b = n) (hn : I64 n) :
    Calls Tryd.prog 22 #[pv (wpg a b S ib ic bb fb), .slice none 0 0, .int .i64 100] w fun e w' => ∃ s : Sl, e = .returned (ov 1 0 s) ∧ s.l = bytes8 n 8 ∧ BAt w' s ∧ Keeps No w w' := by
  refine (run_any (wpg a b S ib ic bb fb) w hp L (wpg_check a b S hS ib ic bb fb) (wpg_few a b S ib ic bb fb) (wpg_plain a b S ib ic bb fb) (by show 1 ≤ 100000; omega) none 0 0 (by decide) 100 (by decide) 0 rfl (wfn a b S ib ic bb) rfl 4 rfl (by decide) 21 (wend a b n) (w_runs ha hb hok n hv hn)).mono ?_
  rintro e w' ⟨vo, rfl, ho, hk⟩
  obtain ⟨s, rfl, hl, hb'⟩ := own_bytes ho
  refine ⟨s, ?_, hl, hb', hk⟩
  show Ending.returned (.agg #[.int .i64 1, .int .i64 (shr8 n 8 % 256), s.v]) = _
  rw [shr8_end n hn]
theorem words_no (a b S : Int) (ha : I64 a) (hb : I64 b) (hS : 1 ≤ S ∧ S ≤ 10) (ib ic bb fb : Nat) (w : World) (hp : PgOk w (wpg a b S ib ic bb fb)) (L : Laid w) (hok : Wd.plainOk S a b = false) :
    Calls Tryd.prog 22 #[pv (wpg a b S ib ic bb fb), .slice none 0 0, .int .i64 100] w fun e w' => ∃ s : Sl, e = .returned (ov 2 0 s) ∧ s.l = [] ∧ BAt w' s ∧ Keeps No w w' := by
  refine (run_any (wpg a b S ib ic bb fb) w hp L (wpg_check a b S hS ib ic bb fb) (wpg_few a b S ib ic bb fb) (wpg_plain a b S ib ic bb fb) (by show 1 ≤ 100000; omega) none 0 0 (by decide) 100 (by decide) 0 rfl (wfn a b S ib ic bb) rfl 4 rfl (by decide) 3 _ (w_runs_no ha hb hok)).mono ?_
  rintro e w' ⟨vo, rfl, ho, hk⟩
  obtain ⟨s, rfl, hl, hb'⟩ := own_bytes ho
  exact ⟨s, rfl, hl, hb', hk⟩
end Go.Proofs.YtbfjmhfhhlncjaaDoor
/- The law IrWords: a row of instructions that grows. -/
namespace Go.Proofs.YtbfjmhfhhlncjaaDoor
open Go.RowKit
set_option linter.unusedVariables false
set_option linter.unusedSimpArgs false

theorem infoX : (Tryd.prog.info? 27).map (fun i => (i.zero, i.size, i.bytes)) = some (some (ia ⟨0, 0, 0, 0, 0, 0, 0, false, sl0, sl0, sl0⟩), 11, 136) := by kernel_rfl
theorem icells_app (a b : List Ix) : icells (a ++ b) = icells a ++ icells b := by unfold icells; rw [List.flatMap_append]
theorem icells_len (l : List Ix) : (icells l).length = l.length * 11 := by
  induction l with
  | nil => rfl
  | cons x l ih => unfold icells at *; rw [List.flatMap_cons, List.length_append, ih, ix_len, List.length_cons]; omega
theorem icells_one (l : List Ix) : ∀ u ∈ icells l, u.oneCell' = true := by
  intro u hu
  unfold icells at hu
  obtain ⟨x, _, hx⟩ := List.mem_flatMap.1 hu
  unfold Ix.cells at hx
  simp only [List.mem_cons, List.not_mem_nil, or_false] at hx
  rcases hx with rfl | rfl | rfl | rfl | rfl | rfl | rfl | rfl | rfl | rfl | rfl <;> rfl
/-- Instructions are appended, at the operation. -/
theorem wpList_appX (w : World) {ops : Array Oper} {rest : List Oper} {o : Oper} {a : Act} {Q : Exit → Act → World → Prop} (hgd : o.guard = none) (s x : Operand) (t : TypeId)
    (ho : o.op = .call { callee := .builtin .append, args := #[s, x], argTypes := #[t, t] }) (ht : Tryd.prog.underlying t = some (.slice 27))
    (B : Nat) (v : Value) (n : Nat) (l1 lx : List Ix) (m : Nat) (q : Nat) (hs : a.eval s = v) (hown : w.ownsRow B 27 11 v n (icells l1)) (hx : a.eval x = .slice (some ⟨q, 0, none⟩) m m) (hq : w.heap[q]? = some (.cells (icells lx).toArray 27 (0, 0))) (hm : lx.length = m) (hm0 : 0 < m ∧ m ≤ 1000)
    (hn : n ≤ 999999) (hB : B ≤ w.heap.size) (T : Nat) (hT : n + m = T)
    (h : ∀ g' cap w', w'.ownsRow B 27 11 (.slice (some ⟨g', 0, none⟩) T cap) T (icells (l1 ++ lx)) → w.grownBy w' v.ownBlock → wpList Tryd.prog ops Q rest (a.put o.dst (.slice (some ⟨g', 0, none⟩) T cap)) w') : wpList Tryd.prog ops Q (o :: rest) a w := by
  subst hT
  obtain ⟨i0, hi, hz0, hz1, hz2⟩ := info_parts infoX
  refine wpList_append_lies w hgd s x t ho B 27 i0 _ 11 136 ht hi hz0 hz1 hz2 rfl (by decide) v n (icells l1) hs hown ⟨q, 0, none⟩ m m (icells lx) hx (by rw [icells_len, hm]) (fun j u hu => ?_) (icells_one lx) hm0.1 (by unfold maxLen; omega) (by omega) hB _ rfl (fun g' cap w' k1 k2 k3 _ => h g' cap w' (by rw [icells_app]; exact k1) k2)
  have e : (⟨q, 0, none⟩ : Addr).add j = ⟨q, 0 + j, none⟩ := by unfold Addr.add; split <;> simp_all
  rw [e, Nat.zero_add, cell_of_row w q _ _ _ _ hq, List.getElem?_toArray]
  exact hu
end Go.Proofs.YtbfjmhfhhlncjaaDoor
/- The law IrWords: bounds, and rows as they are made. -/
namespace Go.Proofs.YtbfjmhfhhlncjaaDoor
open Go.RowKit
set_option linter.unusedVariables false
set_option linter.unusedSimpArgs false

theorem i64_bd (z : Int) : I64 (IntKind.i64.wrap z) := by rw [IntKind.wrap_i64]; unfold I64; omega
theorem tmod_I64 (a b : Int) (hb : I64 b) (h0 : b ≠ 0) : I64 (a.tmod b) := by
  have h1 := Int.natAbs_tmod a b
  have h2 := Nat.mod_lt a.natAbs (show 0 < b.natAbs by omega)
  unfold I64 at *
  omega
theorem plainV_I64 (S a b : Int) (hS : 1 ≤ S ∧ S ≤ 10) (ha : I64 a) (hb : I64 b) : I64 (Wd.plainV S a b) := by
  have z0 : I64 0 := by unfold I64; omega
  by_cases hok : Wd.plainOk S a b = false
  · have : Wd.plainV S a b = 0 := by unfold Wd.plainV; rw [if_pos hok]
    rw [this]; exact z0
  have h : S = 1 ∨ S = 2 ∨ S = 3 ∨ S = 4 ∨ S = 5 ∨ S = 6 ∨ S = 7 ∨ S = 8 ∨ S = 9 ∨ S = 10 := by omega
  unfold Wd.plainV
  rw [if_neg hok]
  rcases h with rfl | rfl | rfl | rfl | rfl | rfl | rfl | rfl | rfl | rfl
  · exact wrap64_I64 _
  · exact wrap64_I64 _
  · exact wrap64_I64 _
  · exact wrap64_I64 _
  · refine tmod_I64 a b hb (fun e => hok ?_)
    rw [e]; simp [Wd.plainOk]
  · exact wrap64_I64 _
  · exact wrap64_I64 _
  · exact i64_bd _
  · exact i64_bd _
  · exact i64_bd _
theorem own_lit {w : World} {B g n : Nat} {cs : Array Value} {T : TypeId} {z : Nat} (h : w.heap[g]? = some (.cells cs T (0, 0))) (hB : B ≤ g) (hs : cs.size = n * z) (hn : n ≤ maxLen) : w.ownsRow B T z (.slice (some ⟨g, 0, none⟩) n n) n cs.toList :=
  ⟨by rw [Array.length_toList]; exact hs, .inr ⟨g, n, cs, rfl, hB, h, Nat.le_refl _, hn, hs, List.take_of_length_le (by rw [Array.length_toList]; omega)⟩⟩
end Go.Proofs.YtbfjmhfhhlncjaaDoor
