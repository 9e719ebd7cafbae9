/- The law IrWords: its program, and what it comes to. -/
import Derived.Test.YtbfjmhfhhlncjaaDoorIrLittle
namespace Go.Proofs.YtbfjmhfhhlncjaaDoor
open Go.RowKit
set_option linter.unusedVariables false
set_option linter.unusedSimpArgs false

def xc (d n : Int) : Ix := ⟨1, 0, d, 0, 0, n, 0, false, sl0, sl0, sl0⟩
def xb (S d a b : Int) : Ix := ⟨3, S, d, a, b, 0, 0, false, sl0, sl0, sl0⟩
def xo (a : Int) : Ix := ⟨13, 0, 0, a, 0, 0, 0, false, sl0, sl0, sl0⟩
def xr (a : Int) : Ix := ⟨17, 0, 0, a, 0, 0, 0, false, sl0, sl0, sl0⟩
def whead (a b S : Int) : List Ix := [xc 0 a, xc 1 b, xb S 2 0 1, xc 3 8]
def wpairs : Nat → List Ix
  | 0 => []
  | n + 1 => wpairs n ++ [xo 2, xb 12 2 2 3]
def wixs (a b S : Int) : List Ix := whead a b S ++ wpairs 8 ++ [xr 2]
theorem wpairs_len (n : Nat) : (wpairs n).length = 2 * n := by
  induction n with
  | zero => rfl
  | succ n ih => simp [wpairs, ih]; omega
def wblk (a b S : Int) (ib ic : Nat) : Bx := ⟨some ⟨ib, 0, none⟩, 21, ic, wixs a b S⟩
def wfn (a b S : Int) (ib ic bb : Nat) : Fx := ⟨lmain, 0, 4, sl0, some ⟨bb, 0, none⟩, 1, 1, [wblk a b S ib ic], true⟩
def wpg (a b S : Int) (ib ic bb fb : Nat) : Pg := ⟨none, 0, 0, [], some ⟨fb, 0, none⟩, 1, 1, [wfn a b S ib ic bb], 0⟩
theorem wpg_plain (a b S : Int) (ib ic bb fb : Nat) : plain (wpg a b S ib ic bb fb) := by
  refine ⟨rfl, fun f hf => ?_⟩
  obtain rfl : f = wfn a b S ib ic bb := by simpa [wpg] using hf
  rfl
theorem wpg_few (a b S : Int) (ib ic bb fb : Nat) : fewRegs (wpg a b S ib ic bb fb) := fun f hf => by
  obtain rfl : f = wfn a b S ib ic bb := by simpa [wpg] using hf
  show (4 : Int) ≤ 256; omega
theorem wpg_check (a b S : Int) (hS : 1 ≤ S ∧ S ≤ 10) (ib ic bb fb : Nat) : (wpg a b S ib ic bb fb).ok = true := by
  have h : S = 1 ∨ S = 2 ∨ S = 3 ∨ S = 4 ∨ S = 5 ∨ S = 6 ∨ S = 7 ∨ S = 8 ∨ S = 9 ∨ S = 10 := by omega
  rcases h with rfl | rfl | rfl | rfl | rfl | rfl | rfl | rfl | rfl | rfl <;> rfl
/-! What it comes to. -/
def wst (m : Nat) (r o : List Int) : St := ⟨[lf m], r, o, [], [], 0, m, 0, 0⟩
section
variable {a b S : Int} {ib ic bb : Nat}
theorem w_at (X : Sx) (hfl : X.P.fl = [wfn a b S ib ic bb]) (hfu : X.fuel = 100) (m : Nat) (r o : List Int) (x : Ix) (hr : r.length = 4) (hx : (wixs a b S)[m]? = some x) (hm : m < 100) :
    At X (wst m r o) 0 (lf m) (wfn a b S ib ic bb) (wblk a b S ib ic) x :=
  ⟨rfl, by omega, rfl, by rw [hfl]; rfl, rfl, hx, by show 0 < r.length; omega, by show r.length ≤ 1000000; omega, by rw [hfu]; show ((m : Nat) : Int) ≠ 100; omega, by show m ≤ 2000000; omega, by show m ≤ 1000000; omega⟩
theorem w_const (m : Nat) (r o : List Int) (d : Nat) (n : Int) (hr : r.length = 4) (hx : (wixs a b S)[m]? = some (xc d n)) (hm : m < 100) (hd : d < 4) :
    StepsTo [wfn a b S ib ic bb] 100 (wst m r o) (wst (m + 1) (r.set d n) o) := fun X w c hX hfl hfu h => by
  have := step_const X hX w c (wst m r o) 0 (lf m) (wfn a b S ib ic bb) (wblk a b S ib ic) _ h (w_at X hfl hfu m r o _ hr hx hm) rfl d rfl (by show 0 + d < r.length; omega)
  rw [show (lf m).base + d = d from Nat.zero_add d] at this
  exact this
theorem w_bin (m : Nat) (r o : List Int) (s : Int) (d p q : Nat) (zp zq : Int) (hr : r.length = 4) (hx : (wixs a b S)[m]? = some (xb s d p q)) (hm : m < 100) (hd : d < 4) (hp : r[p]? = some zp) (hq : r[q]? = some zq) (ip : I64 zp) (iq : I64 zq) (hok : Wd.plainOk s zp zq = true) :
    StepsTo [wfn a b S ib ic bb] 100 (wst m r o) (wst (m + 1) (r.set d (Wd.plainV s zp zq)) o) := fun X w c hX hfl hfu h => by
  have := step_bin X hX w c (wst m r o) 0 (lf m) (wfn a b S ib ic bb) (wblk a b S ib ic) _ h (w_at X hfl hfu m r o _ hr hx hm) rfl d rfl (by show 0 + d < r.length; omega) p rfl zp (by show r[0 + p]? = _; rw [Nat.zero_add]; exact hp) ip q rfl zq (by show r[0 + q]? = _; rw [Nat.zero_add]; exact hq) iq hok
  rw [show (lf m).base + d = d from Nat.zero_add d] at this
  exact this
theorem w_bin_no (m : Nat) (r o : List Int) (s : Int) (d p q : Nat) (zp zq : Int) (hr : r.length = 4) (hx : (wixs a b S)[m]? = some (xb s d p q)) (hm : m < 100) (hp : r[p]? = some zp) (hq : r[q]? = some zq) (ip : I64 zp) (iq : I64 zq) (hok : Wd.plainOk s zp zq = false) :
    StepsTo [wfn a b S ib ic bb] 100 (wst m r o) ((wst (m + 1) r o).stop 2 0) := fun X w c hX hfl hfu h =>
  step_bin_no X hX w c (wst m r o) 0 (lf m) (wfn a b S ib ic bb) (wblk a b S ib ic) _ h (w_at X hfl hfu m r o _ hr hx hm) rfl p rfl zp (by show r[0 + p]? = _; rw [Nat.zero_add]; exact hp) ip q rfl zq (by show r[0 + q]? = _; rw [Nat.zero_add]; exact hq) iq hok
theorem w_out (m : Nat) (r o : List Int) (p : Nat) (zp : Int) (hr : r.length = 4) (hx : (wixs a b S)[m]? = some (xo p)) (hm : m < 100) (hp : r[p]? = some zp) (ip : I64 zp) (ho : o.length ≤ 900000) :
    StepsTo [wfn a b S ib ic bb] 100 (wst m r o) (wst (m + 1) r (o ++ [zp % 256])) := fun X w c hX hfl hfu h =>
  step_out X hX w c (wst m r o) 0 (lf m) (wfn a b S ib ic bb) (wblk a b S ib ic) _ h (w_at X hfl hfu m r o _ hr hx hm) rfl p rfl zp (by show r[0 + p]? = _; rw [Nat.zero_add]; exact hp) ip ho
theorem w_ret (m : Nat) (r o : List Int) (p : Nat) (zp : Int) (hr : r.length = 4) (hx : (wixs a b S)[m]? = some (xr p)) (hm : m < 100) (hp : r[p]? = some zp) (hpl : p < 4) :
    StepsTo [wfn a b S ib ic bb] 100 (wst m r o) ((wst (m + 1) r o).stop 1 zp) := fun X w c hX hfl hfu h => by
  refine step_lead X hX w c (wst m r o) 0 (lf m) (wfn a b S ib ic bb) (wblk a b S ib ic) _ h (w_at X hfl hfu m r o _ hr hx hm) 17 rfl (by decide) ((wst (m + 1) r o).stop 1 zp) (fun w3 g ib' io rb ln rc hm hk0 hx hxo hln hrg hcell hfs => ?_)
  have x0 := hx 0 _ rfl
  have x3 := hx 3 _ rfl
  rw [Nat.add_zero] at x0
  have hln' : ln = 4 := by rw [hln]; show r.length - 0 = 4; omega
  exact lead_ret X w3 ((wst (m + 1) r o).stop 1 zp) ib' io rb 0 ln rc p _ zp x0 x3 (by omega) (by omega) (hcell p zp (by show r[0 + p]? = _; rw [Nat.zero_add]; exact hp)) (answer_one X w3 c ((wst m r o).next 0 (lf m)) hm rfl zp)
end
/-- A number, shifted by bytes. -/
def shr8 (n : Int) : Nat → Int
  | 0 => n
  | k + 1 => Wd.plainV 12 (shr8 n k) 8
def bytes8 (n : Int) (k : Nat) : List Int := (List.range k).map fun i => shr8 n i % 256
theorem shr_ok (n : Int) : Wd.plainOk 12 n 8 = true := by simp [Wd.plainOk]
theorem shr_v (n : Int) : Wd.plainV 12 n 8 = wrap64 (IntKind.u64.wrap n / 256) := by
  unfold Wd.plainV
  rw [shr_ok]
  simp
theorem wrap64_I64 (n : Int) : I64 (wrap64 n) := by unfold I64 wrap64; omega
theorem shr8_I64 (n : Int) (h : I64 n) : ∀ k, I64 (shr8 n k)
  | 0 => h
  | k + 1 => by show I64 (Wd.plainV 12 (shr8 n k) 8); rw [shr_v]; exact wrap64_I64 _
theorem u_of (n : Int) : IntKind.u64.wrap n = n % 18446744073709551616 := by simp only [IntKind.wrap, IntKind.bits, IntKind.signed]; simp
theorem shr8_u (n : Int) : ∀ k, IntKind.u64.wrap (shr8 n k) = IntKind.u64.wrap n / 256 ^ k
  | 0 => by simp [shr8]
  | k + 1 => by
    show IntKind.u64.wrap (Wd.plainV 12 (shr8 n k) 8) = _
    rw [shr_v, shr8_u n k, Int.pow_succ, ← Int.ediv_ediv_of_nonneg (by exact Int.le_of_lt (Int.pow_pos (by decide)))]
    have h : 0 ≤ IntKind.u64.wrap n / 256 ^ k ∧ IntKind.u64.wrap n / 256 ^ k < 18446744073709551616 := by
      rw [← shr8_u n k, u_of]; omega
    obtain ⟨U, hU⟩ : ∃ U, IntKind.u64.wrap n / 256 ^ k = U := ⟨_, rfl⟩
    rw [hU] at h ⊢
    rw [u_of]; unfold wrap64; omega
theorem shr8_low (n : Int) (k : Nat) : shr8 n k % 256 = (IntKind.u64.wrap n / 256 ^ k) % 256 := by
  rw [← shr8_u, u_of]; omega
theorem shr8_end (n : Int) (h : I64 n) : shr8 n 8 % 256 = 0 := by
  rw [shr8_low, u_of]
  have : (256 : Int) ^ 8 = 18446744073709551616 := by decide
  rw [this]; omega
theorem bytes8_succ (n : Int) (k : Nat) : bytes8 n (k + 1) = bytes8 n k ++ [shr8 n k % 256] := by
  unfold bytes8; rw [List.range_succ, List.map_append]; rfl
theorem bytes8_len (n : Int) (k : Nat) : (bytes8 n k).length = k := by unfold bytes8; simp
end Go.Proofs.YtbfjmhfhhlncjaaDoor
