/- A run of a program of the middle language: as data, and as it lies in memory. -/
import Derived.Test.YtbfjmhfhhlncjaaDoorIrP
import Derived.Test.YtbfjmhfhhlncjaaDoorIrRow
import Derived.Lib.SliceRun
namespace Go.Proofs.YtbfjmhfhhlncjaaDoor
open Go.RowKit
set_option linter.unusedVariables false
set_option linter.unusedSimpArgs false

/-- A call that runs. -/
structure Fr1 where
  fi : Nat
  bl : Nat
  at_ : Nat
  base : Nat
  top : Int
  low : Int
  d : Int
/-- A run. -/
structure St where
  fs : List Fr1
  rg : List Int
  out : List Int
  dt : List Int
  sk : List Int
  rd : Nat
  steps : Nat
  kind : Int
  code : Int
/-- Where the rows that a run writes stand. -/
structure Cs where
  fs : Value
  rg : Value
  out : Value
  dt : Value
  sk : Value
/-- What stays as it is while a program runs. -/
structure Sx where
  P : Pg
  pb : Nat
  fb : Nat
  fo : Nat
  vin : Value
  fuel : Int
  st : Value
  sl : Value
  M : Nat
  w0 : World
  w1 : World
  Fx : Nat → Prop
abbrev Sx.B (X : Sx) : Nat := X.w0.heap.size
def Sx.Mut (X : Sx) : Nat → Prop := fun k => X.B ≤ k ∧ ¬ X.Fx k
def mcells (X : Sx) (c : Cs) (s : St) : Array Value := #[.pointer (some ⟨X.pb, 0, none⟩), c.fs, c.rg, X.st, X.sl, c.dt, c.sk, X.vin, .int .i64 s.rd, c.out, .int .i64 X.fuel, .int .i64 s.steps, .int .i64 s.kind, .int .i64 s.code]
def fcells (X : Sx) (f : Fr1) : List Value := [.pointer (some ⟨X.fb, X.fo + f.fi * 6, none⟩), .int .i64 f.fi, .int .i64 f.bl, .int .i64 f.at_, .int .i64 f.base, .int .i64 f.top, .int .i64 f.low, .int .i64 f.d]
def frow (X : Sx) (l : List Fr1) : List Value := l.flatMap (fcells X)
def brow (l : List Int) : List Value := l.map (fun z => .int .u8 z)
structure Rows (X : Sx) (w : World) (c : Cs) (fs : List Fr1) (rg out dt sk : List Int) : Prop where
  f : w.ownsRow X.B 104 8 c.fs fs.length (frow X fs)
  r : w.ownsRow X.B 2 1 c.rg rg.length (irow rg)
  o : w.ownsRow X.B 5 1 c.out out.length (brow out)
  t : w.ownsRow X.B 5 1 c.dt dt.length (brow dt)
  k : w.ownsRow X.B 5 1 c.sk sk.length (brow sk)
  k0 : Keeps No X.w0 w
  k1 : Keeps X.Mut X.w1 w
  nf : ∀ q, c.fs.ownBlock = some q → ¬ X.Fx q
  nr : ∀ q, c.rg.ownBlock = some q → ¬ X.Fx q
  no : ∀ q, c.out.ownBlock = some q → ¬ X.Fx q
  nt : ∀ q, c.dt.ownBlock = some q → ¬ X.Fx q
  nk : ∀ q, c.sk.ownBlock = some q → ¬ X.Fx q
  d1 : ∀ q, c.out.ownBlock = some q → c.dt.ownBlock ≠ some q
  d2 : ∀ q, c.out.ownBlock = some q → c.sk.ownBlock ≠ some q
  d3 : ∀ q, c.dt.ownBlock = some q → c.sk.ownBlock ≠ some q
structure MAt (X : Sx) (w : World) (c : Cs) (s : St) : Prop where
  row : w.heap[X.M]? = some (.cells (mcells X c s) 84 (0, 0))
  rows : Rows X w c s.fs s.rg s.out s.dt s.sk
  hM : X.B ≤ X.M ∧ ¬ X.Fx X.M
  fx : ∀ q, X.Fx q → q < X.w1.heap.size

theorem own_ne {w : World} {B z n : Nat} {e T : TypeId} {v : Value} {xs : List Value} {b : Nat} {cs : Array Value} {fr : Nat × Nat} (hown : w.ownsRow B e z v n xs) (hb : w.heap[b]? = some (.cells cs T fr)) (hTe : T ≠ e) : v.ownBlock ≠ some b := by
  intro hq
  rcases hown.2 with ⟨rfl, _⟩ | ⟨g, cap, cur, rfl, _, hg, _⟩
  · simp [Value.ownBlock] at hq
  · simp [Value.ownBlock] at hq
    subst hq
    rw [hg] at hb
    injection hb with hb
    injection hb with _ h2 _
    exact hTe h2.symm
theorem own_ne2 {w : World} {B z n B' z' n' : Nat} {e T : TypeId} {v v' : Value} {xs xs' : List Value} (h : w.ownsRow B e z v n xs) (h' : w.ownsRow B' T z' v' n' xs') (hTe : T ≠ e) {q : Nat} (hq : v'.ownBlock = some q) : v.ownBlock ≠ some q := by
  rcases h'.2 with ⟨rfl, _⟩ | ⟨g, cap, cur, rfl, _, hg, _⟩
  · simp [Value.ownBlock] at hq
  · simp [Value.ownBlock] at hq
    subst hq
    exact own_ne h hg hTe
/-- A row that is written in another block. -/
theorem own_far {w : World} {B z n : Nat} {e : TypeId} {v : Value} {xs : List Value} (h : w.ownsRow B e z v n xs) {p : Addr} (hp : v.ownBlock ≠ some p.block) (u : Value) : (w.setCell p u).ownsRow B e z v n xs :=
  own_kept h (fun q hq => Below.heap_setCell _ _ _ _ (fun e => by subst e; exact hp hq))
section
variable {X : Sx} {w w' : World} {c : Cs} {s : St} {fs : List Fr1} {rg out dt sk : List Int}
theorem Rows.grow (h : Rows X w c fs rg out dt sk) (hk : ∀ q, q < w.heap.size → w'.heap[q]? = w.heap[q]?) (ho : w'.os = w.os) (ht : w'.tape = w.tape) (hu : w'.output = w.output) (hs : w.heap.size ≤ w'.heap.size) : Rows X w' c fs rg out dt sk := by
  have hg : w.grownBy w' none := ⟨ho, ht, hu, hs, fun k hk' _ => hk k hk'⟩
  have e : ∀ v : Value, v.ownBlock = none ∨ v.ownBlock ≠ none := fun v => by cases v.ownBlock <;> simp
  exact ⟨h.f.kept hg (e _), h.r.kept hg (e _), h.o.kept hg (e _), h.t.kept hg (e _), h.k.kept hg (e _), h.k0.grown hg (fun q e => by cases e), h.k1.grown hg (fun q e => by cases e), h.nf, h.nr, h.no, h.nt, h.nk, h.d1, h.d2, h.d3⟩
theorem Rows.alloc (h : Rows X w c fs rg out dt sk) (o : Obj) : Rows X (w.alloc o) c fs rg out dt sk :=
  h.grow (fun q hq => Below.heap_alloc w o q hq) rfl rfl rfl (by simp)
theorem Rows.drew (h : Rows X w c fs rg out dt sk) : Rows X w.drew c fs rg out dt sk := h.grow (fun _ _ => rfl) rfl rfl rfl (Nat.le_refl _)
theorem Rows.drewN (h : Rows X w c fs rg out dt sk) (n : Nat) : Rows X (w.drewN n) c fs rg out dt sk := h.grow (fun _ _ => rfl) rfl rfl rfl (Nat.le_refl _)
theorem MAt.alloc (h : MAt X w c s) (o : Obj) : MAt X (w.alloc o) c s :=
  ⟨(Below.heap_alloc w o _ (Array.getElem?_eq_some_iff.1 h.row).1).trans h.row, h.rows.alloc o, h.hM, h.fx⟩
theorem MAt.drew (h : MAt X w c s) : MAt X w.drew c s := ⟨h.row, h.rows.drew, h.hM, h.fx⟩
theorem MAt.drewN (h : MAt X w c s) (n : Nat) : MAt X (w.drewN n) c s := ⟨h.row, h.rows.drewN n, h.hM, h.fx⟩
theorem MAt.keep (h : MAt X w c s) (hk : Keeps No w w') : MAt X w' c s :=
  ⟨(hk.block _ (Array.getElem?_eq_some_iff.1 h.row).1 (fun e => e)).trans h.row, h.rows.grow (fun q hq => hk.block q hq (fun e => e)) hk.os hk.tape hk.output hk.size, h.hM, h.fx⟩
/-- One of the machine's own cells is written. -/
theorem MAt.putM (h : MAt X w c s) (j : Nat) (v : Value) (s' : St) (e : (mcells X c s).setIfInBounds j v = mcells X c s') (e1 : s'.fs = s.fs) (e2 : s'.rg = s.rg) (e3 : s'.out = s.out) (e4 : s'.dt = s.dt) (e5 : s'.sk = s.sk) :
    MAt X (w.setCell ⟨X.M, j, none⟩ v) c s' := by
  have R := h.rows
  have hne : X.Mut X.M := h.hM
  refine ⟨by rw [← e]; exact heap_setCell_same w X.M j _ _ v h.row, ?_, h.hM, h.fx⟩
  rw [e1, e2, e3, e4, e5]
  exact ⟨own_far R.f (own_ne R.f h.row (by decide)) v, own_far R.r (own_ne R.r h.row (by decide)) v, own_far R.o (own_ne R.o h.row (by decide)) v, own_far R.t (own_ne R.t h.row (by decide)) v, own_far R.k (own_ne R.k h.row (by decide)) v,
    R.k0.setCell (.inr h.hM.1) v, R.k1.setCell (.inl hne) v, R.nf, R.nr, R.no, R.nt, R.nk, R.d1, R.d2, R.d3⟩
theorem MAt.cell (h : MAt X w c s) (j : Nat) (v : Value) (hj : (mcells X c s)[j]? = some v) : w.cell? ⟨X.M, j, none⟩ = some v := by
  rw [cell_of_row w X.M j _ _ _ h.row]; exact hj
theorem MAt.frozen (h : MAt X w c s) (j : Nat) : w.frozen? ⟨X.M, j, none⟩ = false := frozen_of_row w X.M j _ _ h.row
/-- The frames' row. -/
theorem MAt.fform (h : MAt X w c s) (hn : 0 < s.fs.length) : ∃ g cap, c.fs = .slice (some ⟨g, 0, none⟩) s.fs.length cap ∧ s.fs.length ≤ cap ∧ cap ≤ maxLen := by
  rcases h.rows.f.2 with ⟨_, h0⟩ | ⟨g, cap, cur, e, _, _, h1, h2, _⟩
  · omega
  · exact ⟨g, cap, e, h1, h2⟩
theorem MAt.rform (h : MAt X w c s) (hn : 0 < s.rg.length) : ∃ g cap, c.rg = .slice (some ⟨g, 0, none⟩) s.rg.length cap ∧ s.rg.length ≤ cap ∧ cap ≤ maxLen := by
  rcases h.rows.r.2 with ⟨_, h0⟩ | ⟨g, cap, cur, e, _, _, h1, h2, _⟩
  · omega
  · exact ⟨g, cap, e, h1, h2⟩
theorem frow_len (X : Sx) (l : List Fr1) : (frow X l).length = l.length * 8 := by
  unfold frow
  induction l with
  | nil => rfl
  | cons a t ih => rw [List.flatMap_cons, List.length_append, ih]; simp [fcells]; omega
theorem frow_get (X : Sx) : ∀ (l : List Fr1) (k : Nat) (f : Fr1), l[k]? = some f → ∀ (j : Nat) (v : Value), (fcells X f)[j]? = some v → (frow X l)[k * 8 + j]? = some v := by
  intro l
  induction l with
  | nil => intro k f hf; cases hf
  | cons a t ih =>
    intro k f hf j v hv
    unfold frow
    rw [List.flatMap_cons]
    have hla : (fcells X a).length = 8 := rfl
    cases k with
    | zero =>
      obtain rfl : a = f := by simpa using hf
      have hj : j < 8 := (List.getElem?_eq_some_iff.1 hv).1
      rw [List.getElem?_append_left (by rw [hla]; omega)]
      rw [Nat.zero_mul, Nat.zero_add]; exact hv
    | succ k =>
      rw [List.getElem?_append_right (by rw [hla]; omega), hla, show (k + 1) * 8 + j - 8 = k * 8 + j by omega]
      exact ih k f (by simpa using hf) j v hv
theorem frow_set (X : Sx) : ∀ (l : List Fr1) (k : Nat) (f f' : Fr1), l[k]? = some f → ∀ (j : Nat) (v : Value), (fcells X f).set j v = fcells X f' → j < 8 → (frow X l).set (k * 8 + j) v = frow X (l.set k f') := by
  intro l
  induction l with
  | nil => intro k f f' hf; cases hf
  | cons a t ih =>
    intro k f f' hf j v hv hj
    unfold frow
    rw [List.flatMap_cons]
    have hla : (fcells X a).length = 8 := rfl
    cases k with
    | zero =>
      obtain rfl : a = f := by simpa using hf
      rw [List.set_append_left _ _ (by rw [hla]; omega), Nat.zero_mul, Nat.zero_add, hv, List.set_cons_zero, List.flatMap_cons]
    | succ k =>
      rw [List.set_append_right _ _ (by rw [hla]; omega), hla, show (k + 1) * 8 + j - 8 = k * 8 + j by omega, List.set_cons_succ, List.flatMap_cons]
      exact congrArg _ (ih k f f' (by simpa using hf) j v hv hj)
theorem MAt.fcell (h : MAt X w c s) {g cap : Nat} (hg : c.fs = .slice (some ⟨g, 0, none⟩) s.fs.length cap) {k : Nat} {f : Fr1} (hk : s.fs[k]? = some f) (j : Nat) (v : Value) (hv : (fcells X f)[j]? = some v) : w.cell? ⟨g, k * 8 + j, none⟩ = some v := by
  have hf := h.rows.f
  rw [hg] at hf
  have hl : k < s.fs.length := (List.getElem?_eq_some_iff.1 hk).1
  have hj : j < 8 := (List.getElem?_eq_some_iff.1 hv).1
  rw [hf.cellAt _ (by omega)]
  exact frow_get X _ k f hk j v hv
theorem MAt.ffrozen (h : MAt X w c s) {g cap : Nat} (hg : c.fs = .slice (some ⟨g, 0, none⟩) s.fs.length cap) (j : Nat) : w.frozen? ⟨g, j, none⟩ = false := by
  have hf := h.rows.f
  rw [hg] at hf
  exact hf.frozenAt j
/-- A cell of a frame is written. -/
theorem MAt.putF (h : MAt X w c s) {g cap : Nat} (hg : c.fs = .slice (some ⟨g, 0, none⟩) s.fs.length cap) {k : Nat} {f : Fr1} (hk : s.fs[k]? = some f) (j : Nat) (v : Value) (f' : Fr1) (hv : (fcells X f).set j v = fcells X f') (hj : j < 8) :
    MAt X (w.setCell ⟨g, k * 8 + j, none⟩ v) c { s with fs := s.fs.set k f' } := by
  have R := h.rows
  have hq : c.fs.ownBlock = some g := by rw [hg]; rfl
  have hB := (R.f.lt g hq).1
  have hMg : g ≠ X.M := fun e => own_ne R.f h.row (by decide) (by rw [hq, e])
  have hf := R.f
  rw [hg] at hf
  have h2 := (hf.stored (k * 8 + j) v).1
  rw [frow_set X s.fs k f f' hk j v hv hj, ← hg] at h2
  refine ⟨(Below.heap_setCell _ _ _ _ (fun e => hMg (by simpa using e.symm))).trans h.row, ?_, h.hM, h.fx⟩
  refine ⟨by rw [List.length_set]; exact h2, own_far R.r (own_ne2 R.r R.f (by decide) hq) v, own_far R.o (own_ne2 R.o R.f (by decide) hq) v, own_far R.t (own_ne2 R.t R.f (by decide) hq) v, own_far R.k (own_ne2 R.k R.f (by decide) hq) v,
    R.k0.setCell (.inr hB) v, R.k1.setCell (.inl ⟨hB, R.nf g hq⟩) v, R.nf, R.nr, R.no, R.nt, R.nk, R.d1, R.d2, R.d3⟩
theorem MAt.rcell (h : MAt X w c s) {g cap : Nat} (hg : c.rg = .slice (some ⟨g, 0, none⟩) s.rg.length cap) {k : Nat} {z : Int} (hk : s.rg[k]? = some z) : w.cell? ⟨g, k, none⟩ = some (.int .i64 z) := by
  have hf := h.rows.r
  rw [hg] at hf
  have hl : k < s.rg.length := (List.getElem?_eq_some_iff.1 hk).1
  rw [hf.cellAt _ (by omega)]
  exact irow_get hk
theorem MAt.rfrozen (h : MAt X w c s) {g cap : Nat} (hg : c.rg = .slice (some ⟨g, 0, none⟩) s.rg.length cap) (j : Nat) : w.frozen? ⟨g, j, none⟩ = false := by
  have hf := h.rows.r
  rw [hg] at hf
  exact hf.frozenAt j
/-- A register is written. -/
theorem MAt.putR (h : MAt X w c s) {g cap : Nat} (hg : c.rg = .slice (some ⟨g, 0, none⟩) s.rg.length cap) (k : Nat) (z : Int) :
    MAt X (w.setCell ⟨g, k, none⟩ (.int .i64 z)) c { s with rg := s.rg.set k z } := by
  have R := h.rows
  have hq : c.rg.ownBlock = some g := by rw [hg]; rfl
  have hB := (R.r.lt g hq).1
  have hMg : g ≠ X.M := fun e => own_ne R.r h.row (by decide) (by rw [hq, e])
  have hf := R.r
  rw [hg] at hf
  have h2 := (hf.stored k (.int .i64 z)).1
  rw [show (irow s.rg).set k (.int .i64 z) = irow (s.rg.set k z) by unfold irow; rw [List.map_set], ← hg] at h2
  refine ⟨(Below.heap_setCell _ _ _ _ (fun e => hMg (by simpa using e.symm))).trans h.row, ?_, h.hM, h.fx⟩
  refine ⟨own_far R.f (own_ne2 R.f R.r (by decide) hq) _, by rw [List.length_set]; exact h2, own_far R.o (own_ne2 R.o R.r (by decide) hq) _, own_far R.t (own_ne2 R.t R.r (by decide) hq) _, own_far R.k (own_ne2 R.k R.r (by decide) hq) _,
    R.k0.setCell (.inr hB) _, R.k1.setCell (.inl ⟨hB, R.nr g hq⟩) _, R.nf, R.nr, R.no, R.nt, R.nk, R.d1, R.d2, R.d3⟩
end
end Go.Proofs.YtbfjmhfhhlncjaaDoor
/- A run ends: stop. -/
namespace Go.Proofs.YtbfjmhfhhlncjaaDoor
open Go.RowKit
set_option linter.unusedVariables false
set_option linter.unusedSimpArgs false

def St.stop (s : St) (k code : Int) : St := { s with kind := k, code := if k = 1 then code % 256 else s.code }
set_option maxRecDepth 100000 in
set_option maxHeartbeats 1600000 in
theorem stop_any (X : Sx) (w : World) (c : Cs) (s : St) (h : MAt X w c s) (k code : Int) :
    Calls Tryd.prog 63 #[.pointer (some ⟨X.M, 0, none⟩), .int .i64 k, .int .i64 code] w fun e w' => e = .returned (.tuple #[]) ∧ MAt X w' c (s.stop k code) := by
  have c12 := h.cell 12 _ rfl
  have c13 := h.cell 13 _ rfl
  have f12 := h.frozen 12
  have f13 := h.frozen 13
  have H1 : Hid (MAt X (w.setCell ⟨X.M, 12, none⟩ (.int .i64 k)) c { s with kind := k }) := Lib.hid (h.putM 12 _ _ rfl rfl rfl rfl rfl rfl)
  have H2 : ∀ z : Int, Hid (MAt X ((w.setCell ⟨X.M, 12, none⟩ (.int .i64 k)).setCell ⟨X.M, 13, none⟩ (.int .i64 z)) c { s with kind := k, code := z }) := fun z => Lib.hid (H1.out.putM 13 _ _ rfl rfl rfl rfl rfl rfl)
  have H2' := Lib.hid H2
  clear h H2
  by_cases hk : k = 1
  · subst hk
    have HS : Hid (s.stop 1 code = { s with kind := 1, code := code % 256 }) := Lib.hid rfl
    go_enter Tryd.func63, Tryd.ntmps63
    go_wp2_with fail
    go_returns
    refine ⟨rfl, ?_⟩
    rw [HS.out]
    exact (H2'.out _).out
  · have HS : Hid (s.stop k code = { s with kind := k }) := Lib.hid (by unfold St.stop; rw [if_neg hk])
    go_enter Tryd.func63, Tryd.ntmps63
    go_wp2_with fail
    go_returns
    refine ⟨rfl, ?_⟩
    rw [HS.out]
    exact H1.out
end Go.Proofs.YtbfjmhfhhlncjaaDoor
/- A run in memory: its rows grow. -/
namespace Go.Proofs.YtbfjmhfhhlncjaaDoor
open Go.RowKit
set_option linter.unusedVariables false
set_option linter.unusedSimpArgs false

/-- What a step leaves. -/
def StepTo (X : Sx) (s' : St) (e : Ending) (w' : World) : Prop := e = .returned (.tuple #[]) ∧ ∃ c', MAt X w' c' s'
theorem infoI64 : (Tryd.prog.info? 2).map (fun i => (i.zero, i.size, i.bytes)) = some (some (.int .i64 0), 1, 8) := by kernel_rfl
theorem infoB : (Tryd.prog.info? 5).map (fun i => (i.zero, i.size, i.bytes)) = some (some (.int .u8 0), 1, 1) := by kernel_rfl
theorem brow_app (a b : List Int) : brow (a ++ b) = brow a ++ brow b := by unfold brow; rw [List.map_append]
theorem brow_len (a : List Int) : (brow a).length = a.length := by unfold brow; rw [List.length_map]
/-- A byte is appended, at the operation. -/
theorem wpList_appB (w : World) {ops : Array Oper} {rest : List Oper} {o : Oper} {a : Act} {Q : Exit → Act → World → Prop} (hgd : o.guard = none) (s x : Operand) (t : TypeId)
    (ho : o.op = .call { callee := .builtin .append, args := #[s, x], argTypes := #[t, t] }) (ht : Tryd.prog.underlying t = some (.slice 5))
    (B : Nat) (v : Value) (n : Nat) (l1 : List Int) (z : Int) (q : Nat) (hs : a.eval s = v) (hown : w.ownsRow B 5 1 v n (brow l1)) (hx : a.eval x = .slice (some ⟨q, 0, none⟩) 1 1) (hq : w.heap[q]? = some (.cells #[.int .u8 z] 5 (0, 0)))
    (hn : n ≤ 999999) (hB : B ≤ w.heap.size)
    (h : ∀ g' cap w', w'.ownsRow B 5 1 (.slice (some ⟨g', 0, none⟩) (n + 1) cap) (n + 1) (brow (l1 ++ [z])) → w.grownBy w' v.ownBlock → (v.ownBlock = some g' ∨ g' = w.heap.size) → wpList Tryd.prog ops Q rest (a.put o.dst (.slice (some ⟨g', 0, none⟩) (n + 1) cap)) w') : wpList Tryd.prog ops Q (o :: rest) a w := by
  obtain ⟨i0, hi, hz0, hz1, hz2⟩ := info_parts infoB
  have hc : ∀ (j : Nat) u, (brow [z])[j]? = some u → w.cell? ((⟨q, 0, none⟩ : Addr).add j) = some u := fun j u hu => by
    cases j with
    | zero => obtain rfl : Value.int .u8 z = u := by simpa [brow] using hu
              have e : (⟨q, 0, none⟩ : Addr).add 0 = ⟨q, 0, none⟩ := by unfold Addr.add; split <;> simp_all
              rw [e]; unfold World.cell?; simp only; rw [hq]; rfl
    | succ j => cases hu
  have hone : ∀ u ∈ brow [z], u.oneCell' = true := by intro u hu; unfold brow at hu; simp at hu; subst hu; rfl
  have hmx : n + 1 ≤ maxLen := by unfold maxLen; omega
  have hby : (n + 1) * 1 ≤ 140737488355328 := by omega
  exact wpList_append_lies w hgd s x t ho B 5 i0 (.int .u8 0) 1 1 ht hi hz0 hz1 hz2 rfl (by decide) v n (brow l1) hs hown ⟨q, 0, none⟩ 1 1 (brow [z]) hx rfl hc hone (by decide) hmx hby hB _ rfl
    (fun g' cap w' k1 k2 k3 _ => h g' cap w' (by rw [brow_app]; exact k1) k2 k3)
section
variable {X : Sx} {w w' : World} {c : Cs} {s : St}
theorem kept_ne {w : World} {B z n : Nat} {e : TypeId} {v : Value} {xs : List Value} {row : Option Nat} (h : w.ownsRow B e z v n xs) (hne : ∀ q, v.ownBlock = some q → row ≠ some q) : v.ownBlock = none ∨ v.ownBlock ≠ row := by
  cases hv : v.ownBlock with
  | none => exact .inl rfl
  | some q => exact .inr (fun e => hne q hv e.symm)
/-- The bytes that were put out have grown. -/
theorem MAt.grownO (h : MAt X w c s) {v' : Value} {out' : List Int} (ho : w'.ownsRow X.B 5 1 v' out'.length (brow out')) (hg : w.grownBy w' c.out.ownBlock) (hl : ∀ q, v'.ownBlock = some q → c.out.ownBlock = some q ∨ w.heap.size ≤ q) :
    ∀ (W : World) (j : Nat), j = 9 → W = w'.setCell ⟨X.M, j, none⟩ v' → MAt X W { c with out := v' } { s with out := out' } := by
  rintro W j rfl rfl
  have R := h.rows
  have hMo : c.out.ownBlock ≠ some X.M := own_ne R.o h.row (by decide)
  have hMl := (Array.getElem?_eq_some_iff.1 h.row).1
  have hrow : w'.heap[X.M]? = some (.cells (mcells X c s) 84 (0, 0)) := (hg.block _ hMl (fun e => hMo e.symm)).trans h.row
  have hfx : ∀ q, X.Fx q → q < w.heap.size := fun q hq => Nat.lt_of_lt_of_le (h.fx q hq) R.k1.size
  have hno' : ∀ q, v'.ownBlock = some q → ¬ X.Fx q := fun q hq hf => by
    rcases hl q hq with e | e
    · exact R.no q e hf
    · exact absurd (hfx q hf) (by omega)
  have hne' : v'.ownBlock ≠ some X.M := own_ne ho hrow (by decide)
  have hm : ∀ q, c.out.ownBlock = some q → X.Mut q := fun q hq => ⟨(R.o.lt q hq).1, R.no q hq⟩
  have r := R.r.kept hg (kept_ne R.r (fun q hq => own_ne2 R.o R.r (by decide) hq))
  have f := R.f.kept hg (kept_ne R.f (fun q hq => own_ne2 R.o R.f (by decide) hq))
  have t := R.t.kept hg (kept_ne R.t (fun q hq e => R.d1 q e hq))
  have k := R.k.kept hg (kept_ne R.k (fun q hq e => R.d2 q e hq))
  refine ⟨?_, ?_, h.hM, h.fx⟩
  · exact heap_setCell_same w' X.M 9 _ _ v' hrow
  · refine ⟨own_far f (own_ne f hrow (by decide)) v', own_far r (own_ne r hrow (by decide)) v', own_far ho hne' v', own_far t (own_ne t hrow (by decide)) v', own_far k (own_ne k hrow (by decide)) v', ?_, ?_, R.nf, R.nr, hno', R.nt, R.nk, ?_, ?_, R.d3⟩
    · exact (R.k0.grown hg (fun q e => .inr (R.o.lt q e).1)).setCell (.inr h.hM.1) v'
    · exact (R.k1.grown hg (fun q e => .inl (hm q e))).setCell (.inl (show X.Mut X.M from h.hM)) v'
    · intro q hq
      rcases hl q hq with e | e
      · exact R.d1 q e
      · exact fun e2 => absurd (R.t.lt q e2).2 (by omega)
    · intro q hq
      rcases hl q hq with e | e
      · exact R.d2 q e
      · exact fun e2 => absurd (R.k.lt q e2).2 (by omega)
theorem MAt.afterO (h : MAt X w c s) (hg : w.grownBy w' c.out.ownBlock) : w'.cell? ⟨X.M, 9, none⟩ = some c.out ∧ w'.frozen? ⟨X.M, 9, none⟩ = false := by
  have hMo : c.out.ownBlock ≠ some X.M := own_ne h.rows.o h.row (by decide)
  have hMl := (Array.getElem?_eq_some_iff.1 h.row).1
  have hrow : w'.heap[X.M]? = some (.cells (mcells X c s) 84 (0, 0)) := (hg.block _ hMl (fun e => hMo e.symm)).trans h.row
  exact ⟨by rw [cell_of_row w' X.M 9 _ _ _ hrow]; rfl, frozen_of_row w' X.M 9 _ _ hrow⟩
end
end Go.Proofs.YtbfjmhfhhlncjaaDoor
