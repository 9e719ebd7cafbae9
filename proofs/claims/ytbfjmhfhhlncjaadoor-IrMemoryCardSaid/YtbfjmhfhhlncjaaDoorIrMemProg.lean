/- The law IrMemory: its program's run. -/
import Derived.Test.YtbfjmhfhhlncjaaDoorIrMemRun
import Derived.Test.YtbfjmhfhhlncjaaDoorIrMemSteps
import Derived.Test.YtbfjmhfhhlncjaaDoorIrWordsM
import Derived.Test.YtbfjmhfhhlncjaaDoorIrAwakeA
namespace Go.Proofs.YtbfjmhfhhlncjaaDoor
open Go.RowKit
set_option linter.unusedVariables false
set_option linter.unusedSimpArgs false

def mf (m : Nat) : Fr1 := ⟨0, 0, m, 0, 16777216, 16777184, -1⟩
def mst (m : Nat) (r dt sk : List Int) : St := ⟨[mf m], r, [], dt, sk, 0, m, 0, 0⟩
theorem mst_next (m : Nat) (r dt sk : List Int) : (mst m r dt sk).next 0 (mf m) = mst (m + 1) r dt sk := rfl
def oM (gl : Bool) (at_ : Int) : Nat := (if gl then at_ else 1048544 + at_).toNat
def pM (gl : Bool) : Int := if gl then 65536 else 16777184
def inM (gl : Bool) (at_ : Int) (b : Nat) : Bool := decide (0 ≤ at_) && decide (at_ + b ≤ (if gl then 24 else 32))
def putD (gl : Bool) (dt : List Int) (o : Nat) (l : List Int) : List Int := if gl then laidI dt o l else dt
def putK (gl : Bool) (sk : List Int) (o : Nat) (l : List Int) : List Int := if gl then sk else laidI sk o l
def rowM (gl : Bool) (dt sk : List Int) : List Int := if gl then dt else sk
theorem bytes_in (gl : Bool) (X : Sx) (hX : SxOk X) (hXM : SxM X) (w : World) (c : Cs) (m : Nat) (r dt sk : List Int) (h : MAt X w c (mst m r dt sk)) (hd : dt.length = 32) (hs : sk.length = 1048576) (at_ : Int) (b : Nat) (hb : 1 ≤ b ∧ b ≤ 8) (hin : inM gl at_ b = true) :
    ∃ g cap cur, BytesTo X w (pM gl + at_) b (.slice (some ⟨g, oM gl at_, none⟩) b cap) ∧ (b ≤ cap ∧ cap ≤ 9223372036854775807) ∧ w.heap[g]? = some (.cells (List.toArray cur) 5 (0, 0)) ∧ oM gl at_ + b ≤ cur.length ∧
      (∀ w' (l : List Int), l.length = b → w'.heap[g]? = some (.cells (laidB cur (oM gl at_) l).toArray 5 (0, 0)) → Keeps (fun q => q = g) w w' → MAt X w' c (mst m r (putD gl dt (oM gl at_) l) (putK gl sk (oM gl at_) l))) ∧
      (∀ (j : Nat) y, (rowM gl dt sk)[oM gl at_ + j]? = some y → w.cell? ⟨g, oM gl at_ + j, none⟩ = some (.int .u8 y)) := by
  have hin' : 0 ≤ at_ ∧ at_ + b ≤ (if gl then 24 else 32) := by unfold inM at hin; simpa using hin
  cases gl with
  | false =>
    have hin2 : at_ + b ≤ 32 := hin'.2
    obtain ⟨g, cap, cur, e, hB, hg, h1, h2, h3, h4⟩ := own_cur h.rows.k (by show 0 < sk.length; omega)
    have e' : c.sk = .slice (some ⟨g, 0, none⟩) 1048576 cap := by rw [e]; show Value.slice _ sk.length _ = _; rw [hs]
    have h1' : 1048576 ≤ cap := by have : sk.length ≤ cap := h1; omega
    unfold maxLen at h2
    obtain ⟨o, ho⟩ : ∃ o, oM false at_ = o := ⟨_, rfl⟩
    have hoz : (o : Int) = 1048544 + at_ := by rw [← ho]; unfold oM; simp; omega
    rw [ho]
    have hz : pM false + at_ = 15728640 + (o : Int) := by rw [hoz]; unfold pM; simp; omega
    refine ⟨g, cap - o, cur.toList, ?_, by omega, by simpa using hg, by rw [Array.length_toList, h3]; omega, ?_, ?_⟩
    · intro k
      rw [hz]
      exact bytes_stack X (w.drewN k) c (mst m r dt sk) (h.drewN k) 0 (mf m) rfl (by omega) rfl (by show (15728640 : Int) ≤ 16777184; decide) g cap e' ⟨h1', by unfold maxLen; omega⟩ o b hb (by omega) (by show (16777184 : Int) ≤ _; omega)
    · intro w' l hl hg' hk
      have hol : o + l.length ≤ 1048576 := by omega
      have hcl : cur.toList.length = cap := by rw [Array.length_toList]; exact h3
      have hlen : (laidB cur.toList o l).length = cap := by rw [laidB_len cur.toList o l (by rw [hcl]; omega)]; exact hcl
      have ho' : w'.ownsRow X.B 5 1 (.slice (some ⟨g, 0, none⟩) 1048576 cap) 1048576 (brow (laidI sk o l)) :=
        own_mk hB hg' h1' (by unfold maxLen; omega) hlen (laidB_take cur.toList sk 1048576 o l hs (by have : cur.toList.take sk.length = brow sk := h4; rwa [hs] at this) hol)
      exact h.newK e' hs (laidI sk o l) (by rw [laidI_len _ _ _ (by omega)]; exact hs) ho' hk
    · intro j y hy
      have hj : o + j < sk.length := (List.getElem?_eq_some_iff.1 hy).1
      have hr : w.ownsRow X.B 5 1 (.slice (some ⟨g, 0, none⟩) 1048576 cap) 1048576 (brow sk) := by
        have hh := h.rows.k
        rw [e', show (mst m r dt sk).sk.length = 1048576 from hs] at hh
        exact hh
      have := hr.cellAt (o + j) (by show o + j < 1048576 * 1; omega)
      refine this.trans ?_
      unfold brow
      rw [List.getElem?_map]
      have hy' : sk[o + j]? = some y := hy
      rw [hy']; rfl
  | true =>
    have hin2 : at_ + b ≤ 24 := hin'.2
    obtain ⟨g, cap, cur, e, hB, hg, h1, h2, h3, h4⟩ := own_cur h.rows.t (by show 0 < dt.length; omega)
    have e' : c.dt = .slice (some ⟨g, 0, none⟩) 32 cap := by rw [e]; show Value.slice _ dt.length _ = _; rw [hd]
    have h1' : 32 ≤ cap := by have : dt.length ≤ cap := h1; omega
    unfold maxLen at h2
    obtain ⟨o, ho⟩ : ∃ o, oM true at_ = o := ⟨_, rfl⟩
    have hoz : (o : Int) = at_ := by rw [← ho]; unfold oM; simp; omega
    rw [ho]
    have hz : pM true + at_ = 65536 + (o : Int) := by rw [hoz]; rfl
    refine ⟨g, cap - o, cur.toList, ?_, by omega, by simpa using hg, by rw [Array.length_toList, h3]; omega, ?_, ?_⟩
    · intro k
      rw [hz]
      exact bytes_data X hX hXM (w.drewN k) c (mst m r dt sk) (h.drewN k) 0 (mf m) rfl (by omega) rfl (by show (15728640 : Int) ≤ 16777184; decide) g cap e' ⟨h1', by unfold maxLen; omega⟩ o b hb (by omega) _ (by rw [if_pos (by omega)])
    · intro w' l hl hg' hk
      have hol : o + l.length ≤ 32 := by omega
      have hcl : cur.toList.length = cap := by rw [Array.length_toList]; exact h3
      have hlen : (laidB cur.toList o l).length = cap := by rw [laidB_len cur.toList o l (by rw [hcl]; omega)]; exact hcl
      have ho' : w'.ownsRow X.B 5 1 (.slice (some ⟨g, 0, none⟩) 32 cap) 32 (brow (laidI dt o l)) :=
        own_mk hB hg' h1' (by unfold maxLen; omega) hlen (laidB_take cur.toList dt 32 o l hd (by have : cur.toList.take dt.length = brow dt := h4; rwa [hd] at this) hol)
      exact h.newT e' hd (laidI dt o l) (by rw [laidI_len _ _ _ (by omega)]; exact hd) ho' hk
    · intro j y hy
      have hj : o + j < dt.length := (List.getElem?_eq_some_iff.1 hy).1
      have hr : w.ownsRow X.B 5 1 (.slice (some ⟨g, 0, none⟩) 32 cap) 32 (brow dt) := by
        have hh := h.rows.t
        rw [e', show (mst m r dt sk).dt.length = 32 from hd] at hh
        exact hh
      have := hr.cellAt (o + j) (by show o + j < 32 * 1; omega)
      refine this.trans ?_
      unfold brow
      rw [List.getElem?_map]
      have hy' : dt[o + j]? = some y := hy
      rw [hy']; rfl
theorem bytes_out (gl : Bool) (X : Sx) (hX : SxOk X) (hXM : SxM X) (w : World) (c : Cs) (m : Nat) (r dt sk : List Int) (h : MAt X w c (mst m r dt sk)) (hd : dt.length = 32) (at_ : Int) (hat : -8 ≤ at_ ∧ at_ ≤ 31) (b : Nat) (hb : 1 ≤ b ∧ b ≤ 8) (hin : inM gl at_ b = false) : BytesTo X w (pM gl + at_) b (.slice none 0 0) := by
  have hin' : ¬ (0 ≤ at_ ∧ at_ + b ≤ (if gl then 24 else 32)) := by unfold inM at hin; intro e; rw [decide_eq_true e.1, decide_eq_true e.2] at hin; cases hin
  intro k
  cases gl with
  | false =>
    have hin2 : ¬ (0 ≤ at_ ∧ at_ + b ≤ 32) := hin'
    have hz : pM false + at_ = 16777184 + at_ := rfl
    rw [hz]
    exact bytes_far X (w.drewN k) c (mst m r dt sk) (h.drewN k) 0 (mf m) rfl (by omega) rfl hd (16777184 + at_) b hb (by omega) (by show (16777184 : Int) + at_ < 16777184 ∨ _; omega) (by omega)
  | true =>
    have hin2 : ¬ (0 ≤ at_ ∧ at_ + b ≤ 24) := hin'
    have hz : pM true + at_ = 65536 + at_ := rfl
    rw [hz]
    by_cases h0 : at_ < 0
    · exact bytes_far X (w.drewN k) c (mst m r dt sk) (h.drewN k) 0 (mf m) rfl (by omega) rfl hd (65536 + at_) b hb (by omega) (by left; show (65536 : Int) + at_ < 16777184; omega) (by omega)
    · obtain ⟨o, rfl⟩ : ∃ o : Nat, at_ = o := ⟨at_.toNat, by omega⟩
      obtain ⟨g, cap, cur, e, hB, hg, h1, h2, h3, h4⟩ := own_cur h.rows.t (by show 0 < dt.length; omega)
      have e' : c.dt = .slice (some ⟨g, 0, none⟩) 32 cap := by rw [e]; show Value.slice _ dt.length _ = _; rw [hd]
      have h1' : 32 ≤ cap := by have : dt.length ≤ cap := h1; omega
      exact bytes_data X hX hXM (w.drewN k) c (mst m r dt sk) (h.drewN k) 0 (mf m) rfl (by omega) rfl (by show (15728640 : Int) ≤ 16777184; decide) g cap e' ⟨h1', h2⟩ o b hb (by omega) _ (by rw [if_neg (by omega)])
/-! The program. -/
def yplace (gl : Bool) : Ix := ⟨if gl then 8 else 7, 0, 0, 0, 0, 0, 0, false, sl0, sl0, sl0⟩
def ystore (bits : Int) (sg : Bool) : Ix := ⟨6, 0, 0, 0, 2, 0, bits, sg, sl0, sl0, sl0⟩
def yload (bits : Int) (sg : Bool) : Ix := ⟨5, 0, 3, 0, 0, 0, bits, sg, sl0, sl0, sl0⟩
def yext (bits : Int) (sg : Bool) : Ix := ⟨4, 0, 2, 2, 0, 0, bits, sg, sl0, sl0, sl0⟩
structure MA where
  gl : Bool
  at_ : Int
  n : Int
  bits : Int
  sg : Bool
  b : Nat
  ib : Nat
  slb : Nat
  bb : Nat
  gb : Nat
  fb : Nat
structure MA.ok (A : MA) : Prop where
  at_ : -8 ≤ A.at_ ∧ A.at_ ≤ 31
  n : I64 A.n
  b : A.b = 1 ∨ A.b = 2 ∨ A.b = 4 ∨ A.b = 8
  bits : A.bits = 8 * (A.b : Int)
def MA.ixs (A : MA) : List Ix := [yplace A.gl, xc 1 A.at_, xb 1 0 0 1, xc 2 A.n, ystore A.bits A.sg, yload A.bits A.sg, yext A.bits A.sg, xb 14 3 3 2, xr 3]
def MA.blk (A : MA) : Bx := ⟨some ⟨A.ib, 0, none⟩, 9, 9, A.ixs⟩
def MA.slots (A : MA) : Sl := ⟨some ⟨A.slb, 0, none⟩, 1, 1, [24]⟩
def MA.fn (A : MA) : Fx := ⟨lmain, 0, 4, A.slots, some ⟨A.bb, 0, none⟩, 1, 1, [A.blk], true⟩
def lgname : ByteArray := ⟨#[103]⟩
def mglob : Gx := ⟨lgname, 24, none, 0, 0, []⟩
def MA.pg (A : MA) : Pg := ⟨some ⟨A.gb, 0, none⟩, 1, 1, [mglob], some ⟨A.fb, 0, none⟩, 1, 1, [A.fn], 0⟩
theorem MA.check (A : MA) (h : A.ok) : A.pg.ok = true := by
  obtain ⟨gl, at_, n, bits, sg, b, ib, slb, bb, gb, fb⟩ := A
  obtain ⟨_, _, hb, hbits⟩ := h
  simp only at hb hbits
  subst hbits
  rcases hb with rfl | rfl | rfl | rfl <;> cases gl <;> cases sg <;> rfl
theorem MA.memp (A : MA) : MemP A.pg := ⟨rfl, rfl, ⟨_, rfl, rfl, rfl⟩, ⟨_, rfl, rfl, rfl⟩⟩
theorem MA.few (A : MA) : fewRegs A.pg := fun f hf => by
  obtain rfl : f = A.fn := by simpa [MA.pg] using hf
  show (4 : Int) ≤ 256; omega
section
variable {A : MA}
theorem m_at (X : Sx) (hfl : X.P.fl = [A.fn]) (hfu : X.fuel = 100) (m : Nat) (r dt sk : List Int) (x : Ix) (hr : r.length = 4) (hx : A.ixs[m]? = some x) (hm : m < 100) : At X (mst m r dt sk) 0 (mf m) A.fn A.blk x :=
  ⟨rfl, by omega, rfl, by rw [hfl]; rfl, rfl, hx, by show 0 < r.length; omega, by show r.length ≤ 1000000; omega, by rw [hfu]; show ((m : Nat) : Int) ≠ 100; omega, by show m ≤ 2000000; omega, by show m ≤ 1000000; omega⟩
theorem z0 (m d : Nat) : (mf m).base + d = d := Nat.zero_add d
theorem m_place (r dt sk : List Int) (hr : r.length = 4) : StepsToM [A.fn] 100 (mst 0 r dt sk) (mst 1 (r.set 0 (pM A.gl)) dt sk) := fun X w c hX hXM hfl hfu h => by
  have hat := m_at (A := A) X hfl hfu 0 r dt sk (yplace A.gl) hr rfl (by decide)
  cases hg : A.gl with
  | false =>
    rw [hg] at hat
    exact step_slot X hX w c (mst 0 r dt sk) 0 (mf 0) A.fn A.blk _ h hat rfl 0 rfl (by show 0 + 0 < r.length; omega) hXM rfl (Lib.hid rfl) (Lib.hid (by show I64 (16777216 - 32); unfold I64; omega))
  | true =>
    rw [hg] at hat
    exact step_global X hX w c (mst 0 r dt sk) 0 (mf 0) A.fn A.blk _ h hat rfl 0 rfl (by show 0 + 0 < r.length; omega) hXM rfl
theorem m_const (m : Nat) (r dt sk : List Int) (d : Nat) (n : Int) (hr : r.length = 4) (hx : A.ixs[m]? = some (xc d n)) (hm : m < 100) (hd : d < 4) : StepsToM [A.fn] 100 (mst m r dt sk) (mst (m + 1) (r.set d n) dt sk) := fun X w c hX hXM hfl hfu h => by
  have := step_const X hX w c (mst m r dt sk) 0 (mf m) A.fn A.blk _ h (m_at X hfl hfu m r dt sk _ hr hx hm) rfl d rfl (by show 0 + d < r.length; omega)
  rw [z0] at this
  exact this
theorem m_bin (m : Nat) (r dt sk : List Int) (s : Int) (d p q : Nat) (zp zq : Int) (hr : r.length = 4) (hx : A.ixs[m]? = some (xb s d p q)) (hm : m < 100) (hd : d < 4) (hp : r[p]? = some zp) (hq : r[q]? = some zq) (ip : I64 zp) (iq : I64 zq) (hok : Wd.plainOk s zp zq = true) :
    StepsToM [A.fn] 100 (mst m r dt sk) (mst (m + 1) (r.set d (Wd.plainV s zp zq)) dt sk) := fun X w c hX hXM hfl hfu h => by
  have := step_bin X hX w c (mst m r dt sk) 0 (mf m) A.fn A.blk _ h (m_at X hfl hfu m r dt sk _ hr hx hm) rfl d rfl (by show 0 + d < r.length; omega) p rfl zp (by show r[0 + p]? = _; rw [Nat.zero_add]; exact hp) ip q rfl zq (by show r[0 + q]? = _; rw [Nat.zero_add]; exact hq) iq hok
  rw [z0] at this
  exact this
theorem m_ext (r dt sk : List Int) (z : Int) (h : A.ok) (hr : r.length = 4) (hz : r[2]? = some z) (iz : I64 z) : StepsToM [A.fn] 100 (mst 6 r dt sk) (mst 7 (r.set 2 (Wd.wrap A.bits A.sg z)) dt sk) := fun X w c hX hXM hfl hfu hm => by
  have := step_ext X hX w c (mst 6 r dt sk) 0 (mf 6) A.fn A.blk (yext A.bits A.sg) hm (m_at X hfl hfu 6 r dt sk _ hr rfl (by decide)) rfl 2 rfl (by show 0 + 2 < r.length; omega) 2 rfl z (by show r[0 + 2]? = _; exact hz) iz _ (Lib.hid rfl) (by show A.bits = 8 ∨ A.bits = 16 ∨ A.bits = 32 ∨ A.bits = 64; have := h.b; have := h.bits; omega)
  rw [z0] at this
  exact this
theorem m_ret (r dt sk : List Int) (z : Int) (hr : r.length = 4) (hz : r[3]? = some z) : StepsToM [A.fn] 100 (mst 8 r dt sk) ((mst 9 r dt sk).stop 1 z) := fun X w c hX hXM hfl hfu h => by
  refine step_lead X hX w c (mst 8 r dt sk) 0 (mf 8) A.fn A.blk _ h (m_at X hfl hfu 8 r dt sk _ hr rfl (by decide)) 17 rfl (by decide) ((mst 9 r dt sk).stop 1 z) (fun w3 g ib' io rb ln rc hm hk0 hx hxo hln hrg hcell hfs => ?_)
  have x0 := hx 0 _ rfl
  have x3 := hx 3 _ rfl
  rw [Nat.add_zero] at x0
  have hln' : ln = 4 := by rw [hln]; show r.length - 0 = 4; omega
  exact lead_ret X w3 ((mst 9 r dt sk).stop 1 z) ib' io rb 0 ln rc 3 _ z x0 x3 (by omega) (by omega) (hcell 3 z (by show r[0 + 3]? = _; exact hz)) (answer_one X w3 c (mst 9 r dt sk) hm rfl z)
theorem bBd (h : A.ok) : 1 ≤ A.b ∧ A.b ≤ 8 := by have := h.b; omega
theorem m_store (r dt sk : List Int) (z : Int) (h : A.ok) (hr : r.length = 4) (hp : r[0]? = some (pM A.gl + A.at_)) (hz : r[2]? = some z) (iz : I64 z) (hd : dt.length = 32) (hs : sk.length = 1048576) (hin : inM A.gl A.at_ A.b = true) :
    StepsToM [A.fn] 100 (mst 4 r dt sk) (mst 5 r (putD A.gl dt (oM A.gl A.at_) (bytesN z A.b)) (putK A.gl sk (oM A.gl A.at_) (bytesN z A.b))) := fun X w c hX hXM hfl hfu hm => by
  refine step_touch6 X hX w c (mst 4 r dt sk) 0 (mf 4) A.fn A.blk (ystore A.bits A.sg) hm (m_at X hfl hfu 4 r dt sk _ hr rfl (by decide)) rfl _ (fun w3 g ib io rb ln rc hm3 hk0 hx hxo hln hrg hcell hfs => ?_)
  have x0 := hx 0 _ rfl
  have x3 := hx 3 _ rfl
  have x4 := hx 4 _ rfl
  have x6 := hx 6 _ rfl
  rw [Nat.add_zero] at x0
  rw [show (ystore A.bits A.sg).wb = 8 * (A.b : Int) from h.bits] at x6
  have hln' : ln = 4 := by rw [hln]; show r.length - 0 = 4; omega
  have hm4 : MAt X w3 c (mst 5 r dt sk) := hm3
  obtain ⟨g', cap, cur, B1, B2, B3, B4, B5, B6⟩ := bytes_in A.gl X hX hXM w3 c 5 r dt sk hm4 hd hs A.at_ A.b (bBd h) hin
  exact touch_store X w3 c (mst 5 r dt sk) _ ib io rb 0 ln rc 0 2 A.b g' (oM A.gl A.at_) cap _ z (bBd h) x0 x3 x4 x6 (by omega) (by omega) (by omega) (hcell 0 _ (by show r[0 + 0]? = _; exact hp)) (hcell 2 z (by show r[0 + 2]? = _; exact hz)) iz B1 B2 cur B3 B4 (fun w' k1 k2 => ⟨c, B5 w' (bytesN z A.b) (bytesN_len _ _) k1 k2⟩)
theorem m_store_no (r dt sk : List Int) (h : A.ok) (hr : r.length = 4) (hp : r[0]? = some (pM A.gl + A.at_)) (hd : dt.length = 32) (hin : inM A.gl A.at_ A.b = false) :
    StepsToM [A.fn] 100 (mst 4 r dt sk) ((mst 5 r dt sk).stop 2 0) := fun X w c hX hXM hfl hfu hm => by
  refine step_touch6 X hX w c (mst 4 r dt sk) 0 (mf 4) A.fn A.blk (ystore A.bits A.sg) hm (m_at X hfl hfu 4 r dt sk _ hr rfl (by decide)) rfl _ (fun w3 g ib io rb ln rc hm3 hk0 hx hxo hln hrg hcell hfs => ?_)
  have x3 := hx 3 _ rfl
  have x6 := hx 6 _ rfl
  rw [show (ystore A.bits A.sg).wb = 8 * (A.b : Int) from h.bits] at x6
  have hln' : ln = 4 := by rw [hln]; show r.length - 0 = 4; omega
  have hm4 : MAt X w3 c (mst 5 r dt sk) := hm3
  exact touch_no X w3 c (mst 5 r dt sk) hm4 ib io rb 0 ln rc 0 A.b _ (bBd h) x3 x6 (by omega) (by omega) (hcell 0 _ (by show r[0 + 0]? = _; exact hp)) (bytes_out A.gl X hX hXM w3 c 5 r dt sk hm4 hd A.at_ h.at_ A.b (bBd h) hin)
theorem m_load (r dt sk : List Int) (z : Int) (h : A.ok) (hr : r.length = 4) (hp : r[0]? = some (pM A.gl + A.at_)) (iz : I64 z) (hd : dt.length = 32) (hs : sk.length = 1048576) (hin : inM A.gl A.at_ A.b = true) (hrow : ∀ j, j < A.b → (rowM A.gl dt sk)[oM A.gl A.at_ + j]? = (bytesN z A.b)[j]?) :
    StepsToM [A.fn] 100 (mst 5 r dt sk) (mst 6 (r.set 3 (Wd.wrap A.bits A.sg z)) dt sk) := fun X w c hX hXM hfl hfu hm => by
  refine step_touch5 X hX w c (mst 5 r dt sk) 0 (mf 5) A.fn A.blk (yload A.bits A.sg) hm (m_at X hfl hfu 5 r dt sk _ hr rfl (by decide)) rfl _ (fun w3 g ib io rb ln rc hm3 hk0 hx hxo hln hrg hcell hfs => ?_)
  have x0 := hx 0 _ rfl
  have x2 := hx 2 _ rfl
  have x3 := hx 3 _ rfl
  have x6 := hx 6 _ rfl
  have x7 := hx 7 _ rfl
  rw [Nat.add_zero] at x0
  have hln' : ln = 4 := by rw [hln]; show r.length - 0 = 4; omega
  have hm4 : MAt X w3 c (mst 6 r dt sk) := hm3
  obtain ⟨g', cap, cur, B1, B2, B3, B4, B5, B6⟩ := bytes_in A.gl X hX hXM w3 c 6 r dt sk hm4 hd hs A.at_ A.b (bBd h) hin
  have hR : c.rg = .slice (some ⟨rb, 0, none⟩) (mst 6 r dt sk).rg.length (0 + rc) := hrg
  obtain ⟨zo, hzo⟩ : ∃ zo, r[3]? = some zo := ⟨_, List.getElem?_eq_getElem (by omega)⟩
  exact touch_load X w3 c (mst 6 r dt sk) _ ib io rb 0 ln rc 0 3 A.b g' (oM A.gl A.at_) cap _ z (Wd.wrap A.bits A.sg z) A.bits A.sg (bBd h) h.bits (by have := h.b; have := h.bits; omega) x0 x2 x3 x6 x7 (by omega) (by omega) (by omega) (hcell 0 _ (by show r[0 + 0]? = _; exact hp)) B1 B2
    (fun j y hy => B6 j y (by rw [hrow j (by have := (List.getElem?_eq_some_iff.1 hy).1; rwa [bytesN_len] at this)]; exact hy)) (by rw [h.bits]; exact wrap_read A.b A.sg z iz h.b)
    (fun w' hk => ⟨⟨zo, ((hm4.keep hk).rcell hR (k := 3) hzo)⟩, (hm4.keep hk).rfrozen hR 3, c, (hm4.keep hk).putR hR 3 _⟩)
end
end Go.Proofs.YtbfjmhfhhlncjaaDoor
/- The law IrMemory: what its program comes to. -/
namespace Go.Proofs.YtbfjmhfhhlncjaaDoor
open Go.RowKit
set_option linter.unusedVariables false
set_option linter.unusedSimpArgs false

section
variable {A : MA}
theorem wrap_I64 (b : Int) (s : Bool) (n : Int) (h : I64 n) (hb : b = 8 ∨ b = 16 ∨ b = 32 ∨ b = 64) : I64 (Wd.wrap b s n) := by
  unfold I64 at *
  rcases hb with rfl | rfl | rfl | rfl <;> cases s <;> simp [Wd.wrap] <;> omega
theorem plain_add (P at_ : Int) (hP : 0 ≤ P ∧ P ≤ 16777216) (h : -8 ≤ at_ ∧ at_ ≤ 31) : Wd.plainOk 1 P at_ = true ∧ Wd.plainV 1 P at_ = P + at_ := by
  have e : Wd.plainOk 1 P at_ = true := by simp [Wd.plainOk]
  refine ⟨e, ?_⟩
  unfold Wd.plainV
  rw [e]
  simp [wrap64]
  omega
theorem plain_eq (v : Int) : Wd.plainOk 14 v v = true ∧ Wd.plainV 14 v v = 1 := by
  have e : Wd.plainOk 14 v v = true := by simp [Wd.plainOk]
  refine ⟨e, ?_⟩
  unfold Wd.plainV
  rw [e]
  simp
theorem pM_bd (gl : Bool) : 0 ≤ pM gl ∧ pM gl ≤ 16777216 := by cases gl <;> decide
theorem zero32_len : zero32.length = 32 := List.length_replicate
theorem m_begin (h : A.ok) (n : Nat) (sF : St) (hr : RunsM [A.fn] 100 n (mst 4 [pM A.gl + A.at_, A.at_, A.n, 0] zero32 SK0) sF) : RunsM [A.fn] 100 (n + 1 + 1 + 1 + 1) (mst 0 [0, 0, 0, 0] zero32 SK0) sF := by
  obtain ⟨e1, e2⟩ := plain_add (pM A.gl) A.at_ (pM_bd A.gl) h.at_
  have hP := pM_bd A.gl
  have s1 := m_place (A := A) [0, 0, 0, 0] zero32 SK0 rfl
  have s2 := m_const (A := A) 1 [pM A.gl, 0, 0, 0] zero32 SK0 1 A.at_ rfl rfl (by decide) (by decide)
  have s3 := m_bin (A := A) 2 [pM A.gl, A.at_, 0, 0] zero32 SK0 1 0 0 1 (pM A.gl) A.at_ rfl rfl (by decide) (by decide) rfl rfl (by unfold I64; omega) (by have := h.at_; unfold I64; omega) e1
  rw [e2] at s3
  have s4 := m_const (A := A) 3 [pM A.gl + A.at_, A.at_, 0, 0] zero32 SK0 2 A.n rfl rfl (by decide) (by decide)
  exact .step _ _ _ _ rfl s1 (.step _ _ _ _ rfl s2 (.step _ _ _ _ rfl s3 (.step _ _ _ _ rfl s4 hr)))
theorem m_runs_no (h : A.ok) (hin : inM A.gl A.at_ A.b = false) : ∃ n s, s.kind = 2 ∧ RunsM [A.fn] 100 n (mst 0 [0, 0, 0, 0] zero32 SK0) s :=
  ⟨_, _, rfl, m_begin h _ _ (.step 0 _ _ _ rfl (m_store_no [pM A.gl + A.at_, A.at_, A.n, 0] zero32 SK0 h rfl rfl zero32_len hin) (.done _ (by show (2 : Int) ≠ 0; decide)))⟩
theorem m_runs_yes (h : A.ok) (hin : inM A.gl A.at_ A.b = true) : ∃ n s, s.kind = 1 ∧ s.code = 1 ∧ RunsM [A.fn] 100 n (mst 0 [0, 0, 0, 0] zero32 SK0) s := by
  have hbb := bBd h
  have hin' : 0 ≤ A.at_ ∧ A.at_ + A.b ≤ (if A.gl then 24 else 32) := by unfold inM at hin; simpa using hin
  obtain ⟨o, ho⟩ : ∃ o, oM A.gl A.at_ = o := ⟨_, rfl⟩
  have hob : (A.gl = true → o + A.b ≤ 32) ∧ (A.gl = false → o + A.b ≤ 1048576) := by
    constructor
    · intro e; rw [e] at hin' ho; unfold oM at ho; simp at hin' ho; omega
    · intro e; rw [e] at hin' ho; unfold oM at ho; simp at hin' ho; omega
  obtain ⟨dt, hdt⟩ : ∃ l, putD A.gl zero32 o (bytesN A.n A.b) = l := ⟨_, rfl⟩
  obtain ⟨sk, hsk⟩ : ∃ l, putK A.gl SK0 o (bytesN A.n A.b) = l := ⟨_, rfl⟩
  have hbl := bytesN_len A.n A.b
  have hd : dt.length = 32 := by
    rw [← hdt]; unfold putD
    by_cases hg : A.gl = true
    · rw [if_pos hg, laidI_len _ _ _ (by rw [hbl, zero32_len]; exact hob.1 hg)]; exact zero32_len
    · rw [if_neg hg]; exact zero32_len
  have hs : sk.length = 1048576 := by
    rw [← hsk]; unfold putK
    by_cases hg : A.gl = true
    · rw [if_pos hg]; exact SK0_len
    · rw [if_neg hg, laidI_len _ _ _ (by rw [hbl, SK0_len]; exact hob.2 (by simpa using hg))]; exact SK0_len
  have hrow : ∀ j, j < A.b → (rowM A.gl dt sk)[o + j]? = (bytesN A.n A.b)[j]? := fun j hj => by
    unfold rowM
    by_cases hg : A.gl = true
    · rw [if_pos hg, ← hdt]; unfold putD; rw [if_pos hg]
      exact laidI_get _ _ _ (by rw [hbl, zero32_len]; exact hob.1 hg) j (by rw [hbl]; exact hj)
    · rw [if_neg hg, ← hsk]; unfold putK; rw [if_neg hg]
      exact laidI_get _ _ _ (by rw [hbl, SK0_len]; exact hob.2 (by simpa using hg)) j (by rw [hbl]; exact hj)
  have s5 := m_store [pM A.gl + A.at_, A.at_, A.n, 0] zero32 SK0 A.n h rfl rfl rfl h.n zero32_len SK0_len hin
  rw [ho, hdt, hsk] at s5
  have s6 := m_load [pM A.gl + A.at_, A.at_, A.n, 0] dt sk A.n h rfl rfl h.n hd hs hin (by rw [ho]; exact hrow)
  obtain ⟨v, hv⟩ : ∃ v, Wd.wrap A.bits A.sg A.n = v := ⟨_, rfl⟩
  rw [hv] at s6
  have iv : I64 v := by rw [← hv]; exact wrap_I64 _ _ _ h.n (by have := h.b; have := h.bits; omega)
  have s7 := m_ext [pM A.gl + A.at_, A.at_, A.n, v] dt sk A.n h rfl rfl h.n
  rw [hv] at s7
  obtain ⟨e1, e2⟩ := plain_eq v
  have s8 := m_bin (A := A) 7 [pM A.gl + A.at_, A.at_, v, v] dt sk 14 3 3 2 v v rfl rfl (by decide) (by decide) rfl rfl iv iv e1
  rw [e2] at s8
  have s9 := m_ret (A := A) [pM A.gl + A.at_, A.at_, v, 1] dt sk 1 rfl rfl
  exact ⟨_, _, rfl, rfl, m_begin h _ _ (.step _ _ _ _ rfl s5 (.step _ _ _ _ rfl s6 (.step _ _ _ _ rfl s7 (.step _ _ _ _ rfl s8 (.step 0 _ _ _ rfl s9 (.done _ (by show (1 : Int) ≠ 0; decide)))))))⟩
theorem startM_eq : St.startM.enterM 0 4 (-1) = mst 0 [0, 0, 0, 0] zero32 SK0 := rfl
/-- Where the law's program lies. -/
structure MMem (w : World) (A : MA) : Prop where
  ib : w.heap[A.ib]? = some (.cells (icells A.ixs).toArray 27 (0, 0))
  slb : w.heap[A.slb]? = some (.cells #[.int .i64 24] 3 (0, 0))
  bb : w.heap[A.bb]? = some (.cells #[.slice (some ⟨A.ib, 0, none⟩) 9 9] 45 (0, 0))
  gb : w.heap[A.gb]? = some (.cells #[.string lgname, .int .i64 24, .slice none 0 0] 49 (0, 0))
  fb : w.heap[A.fb]? = some (.cells A.fn.cells.toArray 42 (0, 0))
theorem mpg_ok {w : World} (h : MMem w A) (hA : A.ok) : PgOk w A.pg := by
  have z (k : Int) (h : -1000 ≤ k ∧ k ≤ 1000) := i64s k h
  have hat := hA.at_
  have hbt : -1000 ≤ A.bits ∧ A.bits ≤ 1000 := by have := hA.b; have := hA.bits; omega
  have m1 : 1 ≤ maxLen := by unfold maxLen; omega
  have s0 := sl0_at w
  have hix : ∀ x ∈ A.ixs, IxOk w x := by
    intro x hx
    unfold MA.ixs at hx
    simp only [List.mem_cons, List.not_mem_nil, or_false] at hx
    rcases hx with rfl | rfl | rfl | rfl | rfl | rfl | rfl | rfl | rfl
    · exact ⟨by show I64 (if A.gl then 8 else 7); split <;> exact z _ (by decide), z 0 (by decide), z 0 (by decide), z 0 (by decide), z 0 (by decide), z 0 (by decide), z 0 (by decide), s0, s0, s0⟩
    · exact ⟨z 1 (by decide), z 0 (by decide), z 1 (by decide), z 0 (by decide), z 0 (by decide), z A.at_ (by omega), z 0 (by decide), s0, s0, s0⟩
    · exact ⟨z 3 (by decide), z 1 (by decide), z 0 (by decide), z 0 (by decide), z 1 (by decide), z 0 (by decide), z 0 (by decide), s0, s0, s0⟩
    · exact ⟨z 1 (by decide), z 0 (by decide), z 2 (by decide), z 0 (by decide), z 0 (by decide), hA.n, z 0 (by decide), s0, s0, s0⟩
    · exact ⟨z 6 (by decide), z 0 (by decide), z 0 (by decide), z 0 (by decide), z 2 (by decide), z 0 (by decide), z A.bits hbt, s0, s0, s0⟩
    · exact ⟨z 5 (by decide), z 0 (by decide), z 3 (by decide), z 0 (by decide), z 0 (by decide), z 0 (by decide), z A.bits hbt, s0, s0, s0⟩
    · exact ⟨z 4 (by decide), z 0 (by decide), z 2 (by decide), z 2 (by decide), z 0 (by decide), z 0 (by decide), z A.bits hbt, s0, s0, s0⟩
    · exact ⟨z 3 (by decide), z 14 (by decide), z 3 (by decide), z 3 (by decide), z 2 (by decide), z 0 (by decide), z 0 (by decide), s0, s0, s0⟩
    · exact ⟨z 17 (by decide), z 0 (by decide), z 0 (by decide), z 3 (by decide), z 0 (by decide), z 0 (by decide), z 0 (by decide), s0, s0, s0⟩
  have hbx : BxAt w A.blk := ⟨rfl, ⟨Nat.le_refl _, by show 9 ≤ maxLen; unfold maxLen; omega⟩, hix, fun _ => ⟨A.ib, 0, rfl, fun k x hx j v hj => by
    rw [Nat.zero_add, cell_of_row w A.ib _ _ _ _ h.ib, List.getElem?_toArray]
    exact flat_get Ix.cells 11 ix_len A.ixs k x hx j v hj⟩⟩
  have hsl : SlAt w A.slots := ⟨rfl, ⟨Nat.le_refl _, m1⟩, fun y hy => by
    obtain rfl : y = 24 := by simpa [MA.slots] using hy
    exact z 24 (by decide), fun _ => ⟨A.slb, 0, rfl, fun i y hy => by
      rw [Nat.zero_add, cell_of_row w A.slb i _ _ _ h.slb]
      match i, hy with
      | 0, hy => obtain rfl : (24 : Int) = y := by simpa [MA.slots] using hy
                 rfl
      | i + 1, hy => simp [MA.slots] at hy⟩⟩
  have hfx : FxOk w A.fn := ⟨by show 4 ≤ maxLen; unfold maxLen; omega, z 0 (by decide), z 4 (by decide), hsl, rfl, ⟨Nat.le_refl _, m1⟩, fun x hx => by
    obtain rfl : x = A.blk := by simpa [MA.fn] using hx
    exact hbx, fun _ => ⟨A.bb, 0, rfl, fun k x hx => by
      rw [Nat.zero_add, cell_of_row w A.bb k _ _ _ h.bb]
      match k, hx with
      | 0, hx => obtain rfl := Option.some.inj hx; rfl
      | k + 1, hx => simp [MA.fn] at hx⟩⟩
  have hgx : GxOk w mglob := ⟨by show 1 ≤ maxLen; exact m1, z 24 (by decide), rfl, ⟨Nat.le_refl _, Nat.zero_le _⟩, (fun p hp => by cases hp), fun h => absurd h (Nat.lt_irrefl 0)⟩
  refine ⟨z 0 (by decide), rfl, ⟨Nat.le_refl _, m1⟩, fun g hg => ?_, fun _ => ⟨A.gb, 0, rfl, fun k g hg j v hj => ?_⟩, rfl, ⟨Nat.le_refl _, m1⟩, fun f hf => ?_, fun _ => ⟨A.fb, 0, rfl, fun k f hf j v hj => ?_⟩⟩
  · obtain rfl : g = mglob := by simpa [MA.pg] using hg
    exact hgx
  · match k, hg with
    | 0, hg =>
      obtain rfl := Option.some.inj hg
      rw [show 0 + 0 * 3 + j = j by omega, cell_of_row w A.gb j _ _ _ h.gb, List.getElem?_toArray]
      exact hj
    | k + 1, hg => simp [MA.pg] at hg
  · obtain rfl : f = A.fn := by simpa [MA.pg] using hf
    exact hfx
  · match k, hf with
    | 0, hf =>
      obtain rfl := Option.some.inj hf
      rw [show 0 + 0 * 6 + j = j by omega, cell_of_row w A.fb j _ _ _ h.fb, List.getElem?_toArray]
      exact hj
    | k + 1, hf => simp [MA.pg] at hf
theorem mem_yes (hA : A.ok) (hin : inM A.gl A.at_ A.b = true) (w : World) (h : MMem w A) (L : Laid w) :
    Calls Tryd.prog 22 #[pv A.pg, .slice none 0 0, .int .i64 100] w fun e w' => ∃ s : Sl, e = .returned (ov 1 1 s) ∧ Keeps No w w' := by
  obtain ⟨m, s, h1, h2, hr⟩ := m_runs_yes hA hin
  refine (run_mem A.pg w (mpg_ok h hA) L (A.check hA) A.few A.memp none 0 0 (by decide) 100 (by decide) rfl A.fn rfl 4 rfl (by decide) m s (by rw [startM_eq]; exact hr)).mono ?_
  rintro e w' ⟨vo, rfl, ho, hk⟩
  obtain ⟨s', rfl, hl, hb'⟩ := own_bytes ho
  exact ⟨s', by rw [h1, h2], hk⟩
theorem mem_no (hA : A.ok) (hin : inM A.gl A.at_ A.b = false) (w : World) (h : MMem w A) (L : Laid w) :
    Calls Tryd.prog 22 #[pv A.pg, .slice none 0 0, .int .i64 100] w fun e w' => ∃ (c : Int) (s : Sl), e = .returned (ov 2 c s) ∧ Keeps No w w' := by
  obtain ⟨m, s, h1, hr⟩ := m_runs_no hA hin
  refine (run_mem A.pg w (mpg_ok h hA) L (A.check hA) A.few A.memp none 0 0 (by decide) 100 (by decide) rfl A.fn rfl 4 rfl (by decide) m s (by rw [startM_eq]; exact hr)).mono ?_
  rintro e w' ⟨vo, rfl, ho, hk⟩
  obtain ⟨s', rfl, hl, hb'⟩ := own_bytes ho
  exact ⟨s.code, s', by rw [h1], hk⟩
end
end Go.Proofs.YtbfjmhfhhlncjaaDoor
