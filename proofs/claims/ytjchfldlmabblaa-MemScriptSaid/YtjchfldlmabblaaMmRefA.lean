/- The document's memory: what it is in memory. -/
import Derived.Test.YtjchfldlmabblaaMmRow
import Derived.Test.YtjchfldlmabblaaMmB
import Derived.Laws.OwnMore
namespace Go.Proofs.Ytjchfldlmabblaa
open Go.RowKit Go.Maps
set_option linter.unusedVariables false
set_option linter.unusedSimpArgs false

def vrow (l : List Vl) : List Value := l.flatMap (fun x => [.int .i64 x.k, .int .i64 x.n, .int .i64 x.b, .int .i64 x.o])
/-- A block of the document's: is it there, its size, its cells by rising places, what they hold; and where these lie. -/
structure Rb where
  on : Bool
  z : Int
  ca : Option Addr
  cc : Nat
  c : List Ck
  vp : Option Addr
  vc : Nat
  v : List Vl
abbrev Rb.cs (d : Rb) : Value := .slice d.ca d.c.length d.cc
abbrev Rb.vs (d : Rb) : Value := .slice d.vp d.v.length d.vc
def Rb.cells (d : Rb) : List Value := [.int .i64 d.z, d.cs, d.vs, .bool d.on]
def brow (l : List Rb) : List Value := l.flatMap Rb.cells
def Rb.own (d : Rb) (a : Nat) : Prop := d.cs.ownBlock = some a ∨ d.vs.ownBlock = some a
def getv : List Ck → List Vl → Ck → Vl
  | c :: cs, v :: vs, x => if c = x then v else getv cs vs x
  | _, _, _ => v0
def hasc (c : List Ck) (x : Ck) : Bool := c.any (fun y => decide (y = x))
def Rb.view (d : Rb) : Bv := ⟨d.z, hasc d.c, getv d.c d.v⟩
structure RbAs (B : Nat) (w : World) (d : Rb) : Prop where
  co : w.ownsRow B 36 2 d.cs d.c.length (crow d.c)
  vo : w.ownsRow B 42 4 d.vs d.v.length (vrow d.v)
  len : d.v.length = d.c.length
  cl : d.c.length ≤ 1000
  ck : ∀ t ∈ d.c, ckOk t
  up : d.c.Pairwise (fun a b => a.1 < b.1)
  zl : 0 ≤ d.z ∧ d.z ≤ 9223372036854775807
structure Rd where
  r : Nat
  g : Nat
  cap : Nat
  bs : List Rb
  tag : Nat → Nat × Nat
abbrev Rd.sl (R : Rd) : Value := .slice (some ⟨R.g, 0, none⟩) R.bs.length R.cap
def Rd.has (R : Rd) (a : Nat) : Prop := a = R.r ∨ a = R.g ∨ ∃ (i : Nat) (d : Rb), R.bs[i]? = some d ∧ d.own a
def Rd.at (R : Rd) (b : Int) : Option Rb := if 1 ≤ b then (R.bs[b.toNat]?).filter (fun d => d.on) else none
def Rd.view (R : Rd) : View := fun b => (R.at b).map Rb.view
structure RefAs (B : Nat) (w : World) (R : Rd) : Prop where
  a : w.heap[R.r]? = some (.cells #[R.sl] 62 (0, 0))
  o : w.ownsRow B 59 4 R.sl R.bs.length (brow R.bs)
  b : ∀ (i : Nat) (d : Rb), R.bs[i]? = some d → RbAs B w d
  n : 1 ≤ R.bs.length ∧ R.bs.length ≤ 1000
  rB : B ≤ R.r
  ts : R.tag R.r = (0, 0) ∧ R.tag R.g = (0, 1)
  tb : ∀ (i : Nat) (d : Rb), R.bs[i]? = some d → (∀ a, d.cs.ownBlock = some a → R.tag a = (i + 1, 2)) ∧ (∀ a, d.vs.ownBlock = some a → R.tag a = (i + 1, 3))
theorem own_kept {w w' : World} {B : Nat} {e : TypeId} {z n : Nat} {v : Value} {xs : List Value} (h : w.ownsRow B e z v n xs) (hk : ∀ q, v.ownBlock = some q → w'.heap[q]? = w.heap[q]?) : w'.ownsRow B e z v n xs := by
  refine ⟨h.1, ?_⟩
  rcases h.2 with h2 | ⟨g, cap, cur, h1, h2, h3, h4⟩
  · exact .inl h2
  · exact .inr ⟨g, cap, cur, h1, h2, (hk g (by rw [h1]; rfl)).trans h3, h4⟩
theorem own_lt {w : World} {B : Nat} {e : TypeId} {z n : Nat} {v : Value} {xs : List Value} (h : w.ownsRow B e z v n xs) {q : Nat} (hq : v.ownBlock = some q) : B ≤ q ∧ q < w.heap.size := h.lt q hq
theorem vrow_len (l : List Vl) : (vrow l).length = l.length * 4 := by
  induction l with
  | nil => rfl
  | cons t l ih => unfold vrow at *; rw [List.flatMap_cons, List.length_append, ih]; simp; omega
theorem brow_len (l : List Rb) : (brow l).length = l.length * 4 := by
  induction l with
  | nil => rfl
  | cons t l ih => unfold brow at *; rw [List.flatMap_cons, List.length_append, ih]; simp [Rb.cells]; omega
theorem crow_len (l : List Ck) : (crow l).length = l.length * 2 := by
  induction l with
  | nil => rfl
  | cons t l ih => unfold crow at *; rw [List.flatMap_cons, List.length_append, ih]; simp; omega
theorem brow_get (l : List Rb) (k : Nat) (d : Rb) (h : l[k]? = some d) : (brow l)[k * 4]? = some (.int .i64 d.z) ∧ (brow l)[k * 4 + 1]? = some d.cs ∧ (brow l)[k * 4 + 2]? = some d.vs ∧ (brow l)[k * 4 + 3]? = some (.bool d.on) := by
  induction l generalizing k with
  | nil => cases h
  | cons a l ih =>
    have e : brow (a :: l) = a.cells ++ brow l := by unfold brow; rw [List.flatMap_cons]
    rw [e]
    cases k with
    | zero => injection h with h; subst h; exact ⟨rfl, rfl, rfl, rfl⟩
    | succ k =>
      obtain ⟨h1, h2, h3, h4⟩ := ih k h
      rw [show (k + 1) * 4 = k * 4 + 4 by omega]
      exact ⟨h1, h2, h3, h4⟩
theorem vrow_get (l : List Vl) (k : Nat) (d : Vl) (h : l[k]? = some d) : (vrow l)[k * 4]? = some (.int .i64 d.k) ∧ (vrow l)[k * 4 + 1]? = some (.int .i64 d.n) ∧ (vrow l)[k * 4 + 2]? = some (.int .i64 d.b) ∧ (vrow l)[k * 4 + 3]? = some (.int .i64 d.o) := by
  induction l generalizing k with
  | nil => cases h
  | cons a l ih =>
    have e : vrow (a :: l) = [.int .i64 a.k, .int .i64 a.n, .int .i64 a.b, .int .i64 a.o] ++ vrow l := by unfold vrow; rw [List.flatMap_cons]
    rw [e]
    cases k with
    | zero => injection h with h; subst h; exact ⟨rfl, rfl, rfl, rfl⟩
    | succ k =>
      obtain ⟨h1, h2, h3, h4⟩ := ih k h
      rw [show (k + 1) * 4 = k * 4 + 4 by omega]
      exact ⟨h1, h2, h3, h4⟩
section
variable {w w' : World} {R : Rd} {B : Nat} {d : Rb}
theorem RbAs.kept (h : RbAs B w d) (hk : ∀ q, d.own q → w'.heap[q]? = w.heap[q]?) : RbAs B w' d :=
  ⟨own_kept h.co (fun q e => hk q (.inl e)), own_kept h.vo (fun q e => hk q (.inr e)), h.len, h.cl, h.ck, h.up, h.zl⟩
theorem RbAs.lt (h : RbAs B w d) {q : Nat} (hq : d.own q) : B ≤ q ∧ q < w.heap.size := by
  rcases hq with e | e
  · exact own_lt h.co e
  · exact own_lt h.vo e
theorem RefAs.lt (h : RefAs B w R) {a : Nat} (ha : R.has a) : B ≤ a ∧ a < w.heap.size := by
  rcases ha with rfl | rfl | ⟨i, d, h1, h2⟩
  · exact ⟨h.rB, (Array.getElem?_eq_some_iff.1 h.a).1⟩
  · exact own_lt h.o rfl
  · exact (h.b i d h1).lt h2
theorem RefAs.block (h : RefAs B w R) (hk : ∀ q, R.has q → w'.heap[q]? = w.heap[q]?) : RefAs B w' R :=
  ⟨(hk _ (.inl rfl)).trans h.a, own_kept h.o (fun q e => hk q (.inr (.inl (by injection e with e; exact e.symm)))), fun i d e => (h.b i d e).kept (fun q hq => hk q (.inr (.inr ⟨i, d, e, hq⟩))), h.n, h.rB, h.ts, h.tb⟩
theorem RefAs.kept {F : Nat → Prop} (h : RefAs B w R) (hk : Keeps F w w') (hF : ∀ a, R.has a → ¬ F a) : RefAs B w' R := h.block (fun a ha => hk.block a (h.lt ha).2 (hF a ha))
theorem RefAs.no (h : RefAs B w R) (hk : Keeps No w w') : RefAs B w' R := h.kept hk (fun _ _ e => e)
theorem RefAs.c0 (h : RefAs B w R) : w.cell? ⟨R.r, 0, none⟩ = some R.sl := by simp [World.cell?, h.a]
theorem RefAs.f0 (h : RefAs B w R) (o : Nat) : w.frozen? ⟨R.r, o, none⟩ = false := by simp [World.frozen?, h.a]
theorem RefAs.c (h : RefAs B w R) {i : Nat} {d : Rb} (hi : R.bs[i]? = some d) : w.cell? ⟨R.g, i * 4, none⟩ = some (.int .i64 d.z) ∧ w.cell? ⟨R.g, i * 4 + 1, none⟩ = some d.cs ∧ w.cell? ⟨R.g, i * 4 + 2, none⟩ = some d.vs ∧ w.cell? ⟨R.g, i * 4 + 3, none⟩ = some (.bool d.on) := by
  have hl : i < R.bs.length := (List.getElem?_eq_some_iff.1 hi).1
  obtain ⟨h1, h2, h3, h4⟩ := brow_get _ _ _ hi
  have c := fun o (ho : o < 4) => h.o.cellAt (i * 4 + o) (by omega)
  exact ⟨(c 0 (by decide)).trans h1, (c 1 (by decide)).trans h2, (c 2 (by decide)).trans h3, (c 3 (by decide)).trans h4⟩
theorem at_pos {R : Rd} {b : Int} {d : Rb} (h : R.at b = some d) : ∃ i : Nat, b = (i : Int) ∧ 1 ≤ i ∧ i < R.bs.length ∧ R.bs[i]? = some d ∧ d.on = true := by
  unfold Rd.at at h
  by_cases hb : 1 ≤ b
  · rw [if_pos hb] at h
    obtain ⟨h1, h2⟩ := Option.filter_eq_some_iff.1 h
    exact ⟨b.toNat, by omega, by omega, (List.getElem?_eq_some_iff.1 h1).1, h1, h2⟩
  · rw [if_neg hb] at h; cases h
theorem at_of {R : Rd} {i : Nat} {d : Rb} (hi : 1 ≤ i) (h : R.bs[i]? = some d) (ho : d.on = true) : R.at (i : Int) = some d := by
  unfold Rd.at
  rw [if_pos (by omega), show ((i : Int)).toNat = i by omega, h, Option.filter_some, if_pos ho]
end
set_option maxRecDepth 100000 in
set_option maxHeartbeats 1600000 in
theorem there_any (B : Nat) (R : Rd) (b : Int) (w : World) (h : RefAs B w R) :
    Calls Try.prog 26 #[.pointer (some ⟨R.r, 0, none⟩), .int .i64 b] w fun e w' => e = .returned (.bool (R.at b).isSome) ∧ ∃ k, w' = w.drewN k := by
  have c0 := h.c0
  have hn := h.n
  have hno : ∀ {b : Int}, (∀ d, R.at b = some d → False) → (R.at b).isSome = false := fun {b} hf => by
    cases e : R.at b with
    | none => rfl
    | some d => exact (hf d e).elim
  by_cases hb : 0 < b
  · obtain ⟨i, rfl⟩ : ∃ i : Nat, b = (i : Int) := ⟨b.toNat, by omega⟩
    by_cases hi : i < R.bs.length
    · have hi' : (i : Int) < (R.bs.length : Int) := by omega
      obtain ⟨d, hd⟩ : ∃ d, R.bs[i]? = some d := ⟨_, List.getElem?_eq_getElem hi⟩
      obtain ⟨_, _, _, c3⟩ := h.c hd
      have hA : (R.at (i : Int)).isSome = d.on := by
        cases ho : d.on with
        | true => rw [at_of (by omega) hd ho]; rfl
        | false => exact hno (fun d' e => by obtain ⟨j, hj, _, _, h4, h5⟩ := at_pos e; obtain rfl : i = j := (by omega); rw [hd] at h4; injection h4 with h4; subst h4; rw [ho] at h5; cases h5)
      rw [hA]
      have HD := Lib.hid hd
      clear hA h hd
      go_enter Try.func26, Try.ntmps26
      go_wp2_with fail
      try go_quiet (fail)
      try go_wp2_with fail
      go_returns
      exact ⟨rfl, by first | exact ⟨_, rfl⟩ | exact ⟨0, rfl⟩⟩
    · have hi' : ¬ (i : Int) < (R.bs.length : Int) := by omega
      rw [hno (fun d' e => by obtain ⟨j, hj, _, h3, _, _⟩ := at_pos e; omega)]
      clear h
      go_enter Try.func26, Try.ntmps26
      go_wp2_with fail
      try go_quiet (fail)
      try go_wp2_with fail
      go_returns
      exact ⟨rfl, by first | exact ⟨_, rfl⟩ | exact ⟨0, rfl⟩⟩
  · rw [hno (fun d' e => by obtain ⟨j, hj, h2, _⟩ := at_pos e; omega)]
    clear h
    go_enter Try.func26, Try.ntmps26
    go_wp2_with fail
    try go_quiet (fail)
    try go_wp2_with fail
    go_returns
    exact ⟨rfl, by first | exact ⟨_, rfl⟩ | exact ⟨0, rfl⟩⟩
theorem there_q (B : Nat) (R : Rd) (b : Int) (X : Bool) (hX : (R.at b).isSome = X) (w : World) (h : RefAs B w R) (m : Nat) :
    Calls Try.prog 26 #[.pointer (some ⟨R.r, 0, none⟩), .int .i64 b] (w.drewN m) fun e w' => e = .returned (.bool X) ∧ ∃ n, w' = w.drewN n := by
  subst hX
  exact (there_any B R b _ (h.no ((Keeps.refl _ _).drewN m))).mono fun e w' ⟨h1, k, h2⟩ => ⟨h1, _, h2.trans (World.drewN_drewN _ _ _)⟩
end Go.Proofs.Ytjchfldlmabblaa
