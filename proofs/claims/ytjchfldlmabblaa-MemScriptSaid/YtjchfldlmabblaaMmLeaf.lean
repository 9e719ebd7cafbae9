/- The small calls of the store. -/
import Derived.Test.YtjchfldlmabblaaMmBase
namespace Go.Proofs.Ytjchfldlmabblaa
open Go.RowKit Go.Maps
set_option linter.unusedVariables false
abbrev v0 : Vl := ⟨0, 0, 0, 0⟩
/-- What is to be seen of a block; of a store. -/
structure Bv where
  size : Int
  cell : Ck → Bool
  val : Ck → Vl
abbrev View := Int → Option Bv
def Bk.get (d : Bk) (c : Ck) : Vl := if d.wr = true ∧ d.f = c then d.one else (kget d.held c).getD v0
def Bk.view (d : Bk) : Bv := ⟨d.size, fun c => (kget d.cl c).isSome, d.get⟩
def Sd.view (S : Sd) : View := fun k => (kget S.bs k).map Bk.view
def w64 (x : Int) : Int := wrap64 x
def noneV (x : Vl) : Bool := decide (x.k = 2) && decide (x.b = 0) && decide (x.o = 0)
def spanV (d : Bv) (o : Int) : Bool := decide (0 ≤ o) && decide (o ≤ d.size)
/-- The block that a pointer points into, or right behind. -/
def atV (V : View) (p : Vl) : Option Bv := if p.k = 2 then (V p.b).filter (fun d => spanV d p.o) else none
def inV (V : View) (p : Vl) : Bool := (atV V p).isSome
def moveV (V : View) (p : Vl) (n : Int) : Vl × Bool := match atV V p with
  | none => (v0, false)
  | some d => if spanV d (w64 (p.o + n)) = true then (⟨2, 0, p.b, w64 (p.o + n)⟩, true) else (v0, false)
def withinV (V : View) (p q : Vl) : Bool := decide (p.b = q.b) && inV V p && inV V q
def lessV (V : View) (p q : Vl) : Bool × Bool := if withinV V p q = true then (decide (p.o < q.o), true) else (false, false)
def distV (V : View) (p q : Vl) : Int × Bool := if withinV V p q = true then (w64 (p.o - q.o), true) else (0, false)
def sureV (V : View) (p : Vl) : Bool := noneV p || (match V p.b with | none => false | some d => decide (p.o ≠ d.size))
def equalV (V : View) (p q : Vl) : Bool × Bool :=
  if p.k = 1 ∧ q.k = 1 ∨ p.k = 3 ∧ q.k = 3 then (decide (p.n = q.n), true)
  else if p.k = 3 ∧ noneV q = true ∨ q.k = 3 ∧ noneV p = true then (false, true)
  else if p.k ≠ 2 ∨ q.k ≠ 2 then (false, false)
  else if p.b = q.b then (decide (p.o = q.o), true)
  else (false, sureV V p && sureV V q)
/-- The block that has such a cell. -/
def cellV (V : View) (p : Vl) (t : ByteArray) : Option Bv := if p.k = 2 then (V p.b).filter (fun d => d.cell (p.o, t)) else none
def readV (V : View) (p : Vl) (t : ByteArray) : Vl × Bool := match cellV V p t with
  | none => (v0, false)
  | some d => if (d.val (p.o, t)).k = 0 then (v0, false) else (d.val (p.o, t), true)
def Bv.put (d : Bv) (c : Ck) (v : Vl) : Bv := { d with val := fun x => if x = c then v else d.val x }
def writeV (V : View) (p : Vl) (t : ByteArray) (v : Vl) : View := match cellV V p t with
  | none => V
  | some d => fun k => if k = p.b then some (d.put (p.o, t) v) else V k
theorem view_some {S : Sd} {k : Int} {d : Bk} (h : kget S.bs k = some d) : S.view k = some d.view := by unfold Sd.view; rw [h]; rfl
theorem view_none {S : Sd} {k : Int} (h : kget S.bs k = none) : S.view k = none := by unfold Sd.view; rw [h]; rfl
set_option maxRecDepth 100000 in
set_option maxHeartbeats 800000 in
theorem lcell_any (lm : Nat) (cl : List (Ck × Int)) (o : Int) (t : ByteArray) (w : World) (h : MapK mapCI w lm cl) (hk : ckOk (o, t)) :
    Calls Try.prog 66 #[.agg #[.map (some lm)], .int .i64 o, .string t] w fun e w' => e = .returned (.tuple #[va v0, .bool (kget cl (o, t)).isSome]) ∧ Keeps No w w' := by
  obtain ⟨X, hX⟩ : ∃ X, (kget cl (o, t)).isSome = X := ⟨_, rfl⟩
  have HM := Lib.hid h
  have HK := Lib.hid hk
  rw [hX]
  have HX := Lib.hid hX
  have hl : ∀ o1 o2, (Instr.lookup 74 (.map (some lm)) (.agg #[.int .i64 o, .string t]) true).run Try.prog ((w.alloc o1).alloc o2) = .ok (.tuple #[.int .i64 ((kget cl (o, t)).getD 0), .bool X]) ((w.alloc o1).alloc o2) := fun o1 o2 => hX ▸ look_cell ((h.alloc o1).alloc o2) hk
  clear h hk hX
  go_enter Try.func66, Try.ntmps66
  go_wp2_with fail
  go_returns
  exact ⟨rfl, ((Keeps.refl _ _).alloc _).alloc _⟩
set_option maxHeartbeats 800000 in
theorem none_any (x : Vl) (w : World) :
    Calls Try.prog 48 #[va x] w fun e w' => e = .returned (.bool (noneV x)) ∧ Keeps No w w' := by
  obtain ⟨k, n, b, o⟩ := x
  unfold noneV
  go_enter Try.func48, Try.ntmps48
  go_wp2_with fail
  all_goals (go_returns; exact ⟨rb rfl (by simp_all; try rfl), (Keeps.refl _ _).alloc _⟩)
set_option maxHeartbeats 800000 in
theorem spans_any (d : Bk) (o : Int) (w : World) (h : BlkAs w d) :
    Calls Try.prog 46 #[.pointer (some ⟨d.kb, 0, none⟩), .int .i64 o] w fun e w' => e = .returned (.bool (decide (0 ≤ o) && decide (o ≤ d.size))) ∧ w' = w := by
  obtain ⟨c0, _, _, _, _, _, _, _, _, _, f⟩ := h.c
  go_enter Try.func46, Try.ntmps46
  go_wp2_with fail
  all_goals (go_returns; exact ⟨rb rfl (by simp_all; try omega), rfl⟩)
/-- What 'at' answers: nil, or the block's place. -/
def Sd.at (S : Sd) (p : Vl) : Option Nat := if p.k = 2 then ((kget S.bs p.b).filter (fun d => spanV d.view p.o)).map (fun d => d.kb) else none
set_option maxHeartbeats 800000 in
theorem at_any (S : Sd) (p : Vl) (w : World) (h : StoreAs w S) (hp : vlOk p) :
    Calls Try.prog 45 #[.pointer (some ⟨S.s, 0, none⟩), va p] w fun e w' => e = .returned (ptrV (S.at p)) ∧ Keeps No w w' := by
  obtain ⟨k, n, b, o⟩ := p
  obtain ⟨_, _, hb, _⟩ := hp
  simp only at hb
  have c0 := h.c0
  have f := h.f
  have hs := h.lt (.inl rfl)
  have hs' : S.s ≠ w.heap.size := by omega
  have hl := fun (o1 : Obj) (n : Nat) => (h.no (((Keeps.refl No w).alloc o1).drewN n)).look hb
  have HS := Lib.hid h
  cases hg : kget S.bs b with
  | none =>
    have hA : S.at ⟨k, n, b, o⟩ = none := by unfold Sd.at; rw [hg]; split <;> rfl
    rw [hA, ptrV]
    simp only [hg, Option.map_none, ptrV] at hl
    clear h hA hg
    go_enter Try.func45, Try.ntmps45
    go_wp2_with fail
    go_quiet (fail)
    go_wp2_with fail
    all_goals (go_returns; exact ⟨rfl, ((Keeps.refl _ _).alloc _).drewN _⟩)
  | some d =>
    simp only [hg, Option.map_some, ptrV] at hl
    by_cases hk : k = 2
    · subst hk
      have HD := Lib.hid (h.b b d hg).1
      cases hV : spanV d.view o with
      | false =>
        have hA : S.at ⟨2, n, b, o⟩ = none := by unfold Sd.at; rw [if_pos rfl, hg]; simp [Option.filter, hV]
        rw [hA, ptrV]
        have HV : Hid ((decide (0 ≤ o) && decide (o ≤ d.size)) = false) := Lib.hid hV
        clear h hA hg hV
        go_enter Try.func45, Try.ntmps45
        go_wp2_with fail
        go_quiet (fail)
        go_wp2_with fail
        refine (spans_any d o _ (HD.out.no (((Keeps.refl _ _).alloc _).drewN _))).mono ?_
        rintro e w1 ⟨rfl, rfl⟩
        rw [HV.out]
        go_wp2_with fail
        go_returns
        exact ⟨rfl, ((Keeps.refl _ _).alloc _).drewN _⟩
      | true =>
        have hA : S.at ⟨2, n, b, o⟩ = some d.kb := by unfold Sd.at; rw [if_pos rfl, hg]; simp [Option.filter, hV]
        rw [hA, ptrV]
        have HV : Hid ((decide (0 ≤ o) && decide (o ≤ d.size)) = true) := Lib.hid hV
        clear h hA hg hV
        go_enter Try.func45, Try.ntmps45
        go_wp2_with fail
        go_quiet (fail)
        go_wp2_with fail
        refine (spans_any d o _ (HD.out.no (((Keeps.refl _ _).alloc _).drewN _))).mono ?_
        rintro e w1 ⟨rfl, rfl⟩
        rw [HV.out]
        go_wp2_with fail
        go_returns
        exact ⟨rfl, ((Keeps.refl _ _).alloc _).drewN _⟩
    · have hA : S.at ⟨k, n, b, o⟩ = none := by unfold Sd.at; rw [if_neg hk]
      rw [hA, ptrV]
      clear h hA hg
      go_enter Try.func45, Try.ntmps45
      go_wp2_with fail
      go_quiet (fail)
      go_wp2_with fail
      all_goals (go_returns; exact ⟨rfl, ((Keeps.refl _ _).alloc _).drewN _⟩)
end Go.Proofs.Ytjchfldlmabblaa
