/- Moves said without Go: maps as lists of pairs, what Order makes of moves. -/
import Derived.WalkKit
namespace Go.Proofs.Ytheapamlhoogaaa.Mv
set_option linter.unusedVariables false

/-- A move's To and From; or a map's key and what stands at it. -/
abbrev Pr := Int × Int
def aget : List Pr → Int → Option Int
  | [], _ => none
  | (a, b) :: l, k => if a = k then some b else aget l k
def adel : List Pr → Int → List Pr
  | [], _ => []
  | (a, b) :: l, k => if a = k then adel l k else (a, b) :: adel l k
def aput (l : List Pr) (k v : Int) : List Pr := (k, v) :: adel l k
theorem aget_cons (a b : Int) (l : List Pr) (k : Int) : aget ((a, b) :: l) k = if a = k then some b else aget l k := rfl
theorem aget_del_same (l : List Pr) (k : Int) : aget (adel l k) k = none := by
  induction l with
  | nil => rfl
  | cons p l ih =>
    obtain ⟨a, b⟩ := p
    rw [adel]
    split
    · exact ih
    · next h => rw [aget_cons, if_neg h]; exact ih
theorem aget_del_other (l : List Pr) {k x : Int} (h : x ≠ k) : aget (adel l k) x = aget l x := by
  induction l with
  | nil => rfl
  | cons p l ih =>
    obtain ⟨a, b⟩ := p
    rw [adel, aget_cons]
    split
    · next e => rw [if_neg (fun e' => h (e'.symm.trans e)), ih]
    · rw [aget_cons, ih]
theorem aget_put_same (l : List Pr) (k v : Int) : aget (aput l k v) k = some v := by rw [aput, aget_cons, if_pos rfl]
theorem aget_put_other (l : List Pr) {k x : Int} (v : Int) (h : x ≠ k) : aget (aput l k v) x = aget l x := by rw [aput, aget_cons, if_neg (fun e => h e.symm), aget_del_other l h]
theorem adel_len (l : List Pr) (k : Int) : (adel l k).length ≤ l.length := by
  induction l with
  | nil => exact Nat.le_refl _
  | cons p l ih =>
    obtain ⟨a, b⟩ := p
    rw [adel]
    split
    · rw [List.length_cons]; omega
    · rw [List.length_cons, List.length_cons]; omega
theorem adel_lt {l : List Pr} {k v : Int} (h : aget l k = some v) : (adel l k).length < l.length := by
  induction l with
  | nil => cases h
  | cons p l ih =>
    obtain ⟨a, b⟩ := p
    rw [adel]
    rw [aget_cons] at h
    split
    · next e => have := adel_len l k; rw [List.length_cons]; omega
    · next e => rw [if_neg e] at h; have := ih h; rw [List.length_cons, List.length_cons]; omega
theorem adel_none {l : List Pr} {k : Int} (h : aget l k = none) : adel l k = l := by
  induction l with
  | nil => rfl
  | cons p l ih =>
    obtain ⟨a, b⟩ := p
    rw [aget_cons] at h
    rw [adel]
    split
    · next e => rw [if_pos e] at h; cases h
    · next e => rw [if_neg e] at h; rw [ih h]
/-- No key stands twice. -/
def Once : List Pr → Prop
  | [] => True
  | (a, _) :: l => aget l a = none ∧ Once l
theorem Once.del {l : List Pr} (h : Once l) (k : Int) : Once (adel l k) := by
  induction l with
  | nil => trivial
  | cons p l ih =>
    obtain ⟨a, b⟩ := p
    rw [adel]
    split
    · exact ih h.2
    · next e => exact ⟨by rw [aget_del_other l e]; exact h.1, ih h.2⟩
theorem Once.put {l : List Pr} (h : Once l) (k v : Int) : Once (aput l k v) := ⟨aget_del_same l k, h.del k⟩
theorem adel_len_some {l : List Pr} {k v : Int} (ho : Once l) (h : aget l k = some v) : (adel l k).length + 1 = l.length := by
  induction l with
  | nil => cases h
  | cons p l ih =>
    obtain ⟨a, b⟩ := p
    rw [adel]
    rw [aget_cons] at h
    split
    · next e => subst e; rw [adel_none ho.1, List.length_cons]
    · next e => rw [if_neg e] at h; have := ih ho.2 h; rw [List.length_cons, List.length_cons]; omega
theorem aput_len {l : List Pr} (ho : Once l) (k v : Int) : (aput l k v).length = if (aget l k).isSome = true then l.length else l.length + 1 := by
  rw [aput, List.length_cons]
  cases h : aget l k with
  | none => rw [adel_none h]; rfl
  | some x => have := adel_len_some ho h; simp; omega
theorem aput_le (l : List Pr) (k v : Int) : (aput l k v).length ≤ l.length + 1 := by rw [aput, List.length_cons]; have := adel_len l k; omega

/-- May these be done at once? -/
def mayL : List Pr → List Pr → Bool
  | [], _ => true
  | (t, s) :: l, al => if t < 0 then false else if s < 0 then false else if (aget al t).getD 0 ≠ 0 then false else mayL l (aput al t 1)
def mayM (ms : List Pr) : Bool := if 64 < ms.length then false else mayL ms []
def w64 (x : Int) : Int := IntKind.i64.wrap x
def bldM : List Pr → List Pr → List Pr → List Pr × List Pr
  | [], al, rl => (al, rl)
  | (t, s) :: l, al, rl => if t = s then bldM l al rl else bldM l (aput al t s) (aput rl s (w64 ((aget rl s).getD 0 + 1)))
/-- The two maps and what was put out. -/
abbrev Ds := List Pr × List Pr × List Pr
def drainM : Nat → List Pr → List Pr → List Pr → Int → Ds
  | 0, al, rl, ol, _ => (al, rl, ol)
  | n + 1, al, rl, ol, to => match aget al to with
    | none => (al, rl, ol)
    | some s => if 0 < (aget rl to).getD 0 then (al, rl, ol) else drainM n (adel al to) (aput rl s (w64 ((aget rl s).getD 0 - 1))) (ol ++ [(to, s)]) s
def drainAll : List Pr → Ds → Ds
  | [], d => d
  | (t, _) :: l, d => drainAll l (drainM (d.1.length + 1) d.1 d.2.1 d.2.2 t)
def innerM : Nat → List Pr → List Pr → Int → Int → Int → Option (List Pr × List Pr)
  | 0, _, _, _, _, _ => none
  | n + 1, al, ol, to, first, spare =>
    if (aget al to).getD 0 = first then some (adel al to, ol ++ [(to, spare)]) else innerM n (adel al to) (ol ++ [(to, (aget al to).getD 0)]) ((aget al to).getD 0) first spare
def ringsM : List Pr → List Pr → List Pr → Int → Option (List Pr)
  | [], _, ol, _ => some ol
  | (t, _) :: l, al, ol, spare => match aget al t with
    | none => ringsM l al ol spare
    | some _ => match innerM 65 al (ol ++ [(spare, t)]) t t spare with
      | none => none
      | some (al', ol') => ringsM l al' ol' spare
def shufM (ms : List Pr) (spare : Int) : Option (List Pr) :=
  let b := bldM ms [] []
  let d := drainAll ms (b.1, b.2, [])
  ringsM ms d.1 d.2.2 spare
/-- Does one of them touch the spare place? -/
def touches (ms : List Pr) (spare : Int) : Bool := ms.any (fun m => decide (m.1 = spare) || decide (m.2 = spare))
/-- What Order answers; none: it does not come to an end. -/
def orderM (ms : List Pr) (spare : Int) : Option (List Pr × Bool) :=
  if mayM ms = false then some ([], false) else if spare < 0 then some ([], false) else if touches ms spare = true then some ([], false)
  else (shufM ms spare).map (fun l => (l, true))
end Go.Proofs.Ytheapamlhoogaaa.Mv
