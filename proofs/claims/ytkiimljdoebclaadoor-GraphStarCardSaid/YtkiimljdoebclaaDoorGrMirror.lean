/- Who calls whom, as lists: what the program's functions answer. Each step is checked; where something would be out of its bounds there is none. -/
import Derived.Test.YtkiimljdoebclaaDoorGrRise
namespace Go.Proofs.YtkiimljdoebclaaDoor.Gm
open Go Go.Proofs.YtkiimljdoebclaaDoor
set_option linter.unusedVariables false
set_option linter.unusedSimpArgs false

/-- A place in a row: in it, or none. -/
def ix (n : Nat) (i : Int) : Option Nat := match i with
  | .ofNat k => if k < n then some k else none
  | .negSucc _ => none
theorem ix_some {n k : Nat} {i : Int} : ix n i = some k ↔ i = (k : Int) ∧ k < n := by
  unfold ix
  cases i with
  | ofNat j =>
    by_cases h : j < n
    · simp only [if_pos h, Option.some.injEq, Int.ofNat_eq_natCast]
      constructor
      · intro e; omega
      · intro e; omega
    · simp only [if_neg h, Int.ofNat_eq_natCast]
      constructor
      · intro e; cases e
      · intro e; omega
  | negSucc j =>
    constructor
    · intro e; cases e
    · intro e; have := e.1; omega
structure Fdr where
  when : List Int
  low : List Int
  part : List Int
  op : List Int
  came : Nat
  parts : List (List Int)
def lastAt (l : List Int) (v : Int) : Nat → Option Nat
  | 0 => none
  | k + 1 => if l[k]? = some v then some k else lastAt l v k
/-- One that is called was come to. -/
def stepM (vis : Fdr → Int → Option Fdr) (n v : Nat) (s : Fdr) (z : Int) : Option Fdr :=
  (ix n z).bind fun w => (s.when[w]?).bind fun x =>
    if x = 0 then (vis s z).bind fun s1 => (s1.low[v]?).bind fun a => (s1.low[w]?).bind fun b => some { s1 with low := s1.low.set v (min a b) }
    else (s.part[w]?).bind fun y => if y < 0 then (s.low[v]?).bind fun a => some { s with low := s.low.set v (min a x) } else some s
def stepsM (vis : Fdr → Int → Option Fdr) (n v : Nat) : List Int → Fdr → Option Fdr
  | [], s => some s
  | z :: t, s => (stepM vis n v s z).bind (stepsM vis n v t)
/-- The set's functions are told their set. -/
def tellM (n : Nat) (k : Int) : List Int → List Int → Option (List Int)
  | [], p => some p
  | z :: t, p => (ix n z).bind fun w => tellM n k t (p.set w k)
/-- A set is told, if v leads back to none ahead of it. -/
def endM (n v : Nat) (s : Fdr) : Option Fdr :=
  (s.low[v]?).bind fun a => (s.when[v]?).bind fun b =>
    if a < b then some s else
      (lastAt s.op (v : Int) s.op.length).bind fun A =>
        if (s.op.drop A).length ≤ 12 ∧ s.parts.length ≤ 999999 then
          (tellM n (s.parts.length : Int) (s.op.drop A) s.part).bind fun p => some { s with part := p, op := s.op.take A, parts := s.parts ++ [isort (s.op.drop A)] }
        else none
def visitM (n : Nat) (cs : List (List Int)) : Nat → Fdr → Int → Option Fdr
  | 0, _, _ => none
  | fuel + 1, s, z => (ix n z).bind fun v =>
    if s.came ≤ 999999 ∧ s.op.length ≤ 999999 then
      (cs[v]?).bind fun row =>
        (stepsM (visitM n cs fuel) n v row { s with came := s.came + 1, when := s.when.set v (s.came + 1 : Nat), low := s.low.set v (s.came + 1 : Nat), op := s.op ++ [z] }).bind (endM n v)
    else none
def findsM (n : Nat) (cs : List (List Int)) (fuel : Nat) : List Nat → Fdr → Option Fdr
  | [], s => some s
  | i :: t, s => (s.when[i]?).bind fun x => if x = 0 then (visitM n cs fuel s i).bind (findsM n cs fuel t) else findsM n cs fuel t s
def fd0 (n : Nat) : Fdr := ⟨List.replicate n 0, List.replicate n 0, List.replicate n (-1), [], 0, []⟩
def finderM (n : Nat) (cs : List (List Int)) (fuel : Nat) : Option Fdr := findsM n cs fuel (List.range n) (fd0 n)
/-- Each once, in their order. -/
def addM : List Int → List Int → List Int
  | acc, [] => acc
  | acc, z :: t => addM (if z ∈ acc then acc else acc ++ [z]) t
def rowM (l : List Int) : List Int := isort (addM [] l)
def callsM (nm : List (List Int)) : List (List Int) := nm.map rowM
/-! Parts. -/
structure Ws where
  callers : List (List Int)
  waits : List Int
  seen : List (Int × Int)
def edgeM (s : Fdr) (n k : Nat) (W : Ws) (z : Int) : Option Ws :=
  (ix n z).bind fun w => (s.part[w]?).bind fun c =>
    if (kget W.seen c).getD 0 ≠ 0 then some W else
      (ix W.callers.length c).bind fun cn => (W.callers[cn]?).bind fun row => (W.waits[k]?).bind fun x =>
        if row.length ≤ 999999 ∧ 0 ≤ x ∧ x ≤ 999999 ∧ W.seen.length ≤ 999999 then
          some ⟨W.callers.set cn (row ++ [(k : Int)]), W.waits.set k (x + 1), kput W.seen c 1⟩ else none
def edgesM (s : Fdr) (n k : Nat) : List Int → Ws → Option Ws
  | [], W => some W
  | z :: t, W => (edgeM s n k W z).bind (edgesM s n k t)
def vsM (s : Fdr) (cs : List (List Int)) (n k : Nat) : List Int → Ws → Option Ws
  | [], W => some W
  | z :: t, W => (ix n z).bind fun v => (cs[v]?).bind fun row => (edgesM s n k row W).bind (vsM s cs n k t)
def psM (s : Fdr) (cs : List (List Int)) (n : Nat) : Nat → List (List Int) → Ws → Option Ws
  | _, [], W => some W
  | k, p :: t, W => (vsM s cs n k p { W with seen := [((k : Int), 1)] }).bind (psM s cs n (k + 1) t)
/-! What is ready: a heap. -/
/-- The one at j goes up to where it belongs. -/
def upM : Nat → List Int → Nat → Option (List Int)
  | 0, _, _ => none
  | fuel + 1, q, j => if (j - 1) / 2 = j then some q else (q[j]?).bind fun x => (q[(j - 1) / 2]?).bind fun y =>
      if x < y then upM fuel ((q.set ((j - 1) / 2) x).set j y) ((j - 1) / 2) else some q
/-- The one at i goes down to where it belongs, among the first n. -/
def downM : Nat → List Int → Nat → Nat → Option (List Int)
  | 0, _, _, _ => none
  | fuel + 1, q, n, i => if n ≤ 2 * i + 1 then some q else (q[2 * i + 1]?).bind fun a => (q[i]?).bind fun x =>
      if 2 * i + 1 + 1 < n then (q[2 * i + 1 + 1]?).bind fun b =>
        if b < a then (if b < x then downM fuel ((q.set i b).set (2 * i + 1 + 1) x) n (2 * i + 1 + 1) else some q)
        else if a < x then downM fuel ((q.set i a).set (2 * i + 1) x) n (2 * i + 1) else some q
      else if a < x then downM fuel ((q.set i a).set (2 * i + 1) x) n (2 * i + 1) else some q
def pushM (q : List Int) (z : Int) : Option (List Int) := if q.length ≤ 999999 then upM 40 (q ++ [z]) q.length else none
/-- The least one, and what is left. -/
def popM (q : List Int) : Option (Int × List Int) := match q.length with
  | 0 => none
  | n + 1 => if n ≤ 999999 then (q[0]?).bind fun x => (q[n]?).bind fun y => (downM 40 ((q.set 0 y).set n x) n 0).bind fun q2 => (q2[n]?).bind fun z => some (z, q2.take n) else none
def firstM (s : Fdr) (W : Ws) : Nat → List (List Int) → List Int → Option (List Int)
  | _, [], q => some q
  | k, p :: t, q => (W.waits[k]?).bind fun x => if x = 0 then (p[0]?).bind fun z => (pushM q z).bind (firstM s W (k + 1) t) else firstM s W (k + 1) t q
def freeM (s : Fdr) : List Int → List Int × List Int → Option (List Int × List Int)
  | [], a => some a
  | c :: t, a => (ix a.1.length c).bind fun cn => (a.1[cn]?).bind fun x =>
      if -999999 ≤ x ∧ x ≤ 999999 then
        if x - 1 = 0 then (s.parts[cn]?).bind fun p => (p[0]?).bind fun z => (pushM a.2 z).bind fun q => freeM s t (a.1.set cn (x - 1), q)
        else freeM s t (a.1.set cn (x - 1), a.2)
      else none
def goM (s : Fdr) (n : Nat) (callers : List (List Int)) : Nat → List Int → List Int → List (List Int) → Option (List (List Int))
  | 0, _, _, _ => none
  | fuel + 1, waits, q, out => match q with
    | [] => some out
    | q0 :: qt => (popM (q0 :: qt)).bind fun zr => (ix n zr.1).bind fun v => (s.part[v]?).bind fun k => (ix s.parts.length k).bind fun kn => (s.parts[kn]?).bind fun p => (callers[kn]?).bind fun row =>
        if out.length ≤ 999999 then (freeM s row (waits, zr.2)).bind fun a => goM s n callers fuel a.1 a.2 (out ++ [p]) else none
def okParts (l : List (List Int)) : Bool := decide (l.length ≤ 1000000) && l.all (fun p => decide (p.length ≤ 1000000) && p.all (fun z => decide (0 ≤ z) && decide (z ≤ 1000000)))
theorem okParts_out {l : List (List Int)} (h : okParts l = true) : l.length ≤ 1000000 ∧ ∀ p ∈ l, p.length ≤ 1000000 ∧ ∀ z ∈ p, 0 ≤ z ∧ z ≤ 1000000 := by
  unfold okParts at h
  simp only [Bool.and_eq_true, decide_eq_true_eq, List.all_eq_true] at h
  exact ⟨h.1, fun p hp => ⟨(h.2 p hp).1, fun z hz => (h.2 p hp).2 z hz⟩⟩
def partsM (n : Nat) (cs : List (List Int)) (fuel : Nat) : Option (List (List Int)) :=
  (finderM n cs fuel).bind fun s => if okParts s.parts = false then none else
    (psM s cs n 0 s.parts ⟨List.replicate s.parts.length [], List.replicate s.parts.length 0, []⟩).bind fun W =>
      (firstM s W 0 s.parts []).bind fun q => goM s n W.callers fuel W.waits q []
/-! Cyclic. -/
def cycM (s : Fdr) (cs : List (List Int)) : List Nat → List Int → Option (List Int)
  | [], out => some out
  | v :: t, out => (s.part[v]?).bind fun k => (ix s.parts.length k).bind fun kn => (s.parts[kn]?).bind fun p => (cs[v]?).bind fun row =>
      if out.length ≤ 999999 then cycM s cs t (if 1 < p.length ∨ (v : Int) ∈ row then out ++ [(v : Int)] else out) else none
def cyclicM (n : Nat) (cs : List (List Int)) (fuel : Nat) : Option (List Int) := (finderM n cs fuel).bind fun s => if okParts s.parts = false then none else cycM s cs (List.range n) []
/-! Reach. -/
def reachM (n : Nat) (nm fs : List (List Int)) : Nat → List Int → List (Int × Int) → Option (List (Int × Int))
  | 0, _, _ => none
  | fuel + 1, todo, al => match todo.getLast? with
    | none => some al
    | some z => if (kget al z).getD 0 ≠ 0 then reachM n nm fs fuel todo.dropLast al else
      (ix n z).bind fun v => (nm[v]?).bind fun a => (fs[v]?).bind fun b =>
        if todo.length + a.length + b.length ≤ 999999 ∧ al.length ≤ 999999 then reachM n nm fs fuel (todo.dropLast ++ a ++ b) (kput al z 1) else none
/-! Rings. -/
def ringC (many back : Nat) : List (List Int) := (List.range many).map fun f => [((if f + 1 = many then back else f + 1 : Nat) : Int)]
def wantM (many back : Nat) : List (List Int) := ((List.range (many - back)).map fun i => ((back + i : Nat) : Int)) :: (List.range back).map fun i => [((back - 1 - i : Nat) : Int)]
def ringOk (many back : Nat) : Bool :=
  decide (callsM (ringC many back) = ringC many back) && decide (partsM many (ringC many back) 40 = some (wantM many back)) && decide (cyclicM many (ringC many back) 40 = some ((List.range (many - back)).map fun i => ((back + i : Nat) : Int))) &&
  (match reachM many (ringC many back) (List.replicate many []) 40 [0] [] with | some al => decide (al.length = many) && decide (isort (keys al) = (List.range many).map fun i => ((i : Nat) : Int)) | none => false)
theorem rings_ok : ((List.range 12).all fun m => (List.range (m + 1)).all fun b => ringOk (m + 1) b) = true := by kernel_rfl
theorem ring_ok {many back : Nat} (h1 : 0 < many) (h2 : many ≤ 12) (h3 : back < many) : ringOk many back = true := by
  have h := List.all_eq_true.1 rings_ok (many - 1) (List.mem_range.2 (by omega))
  rw [show many - 1 + 1 = many by omega] at h
  exact List.all_eq_true.1 h back (List.mem_range.2 h3)
end Go.Proofs.YtkiimljdoebclaaDoor.Gm
