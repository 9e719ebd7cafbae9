/- Maps of any kind of key and element that a call makes: laws over lists of pairs. -/
import Derived.Test.YtkiimljdoebclaaDoorProg
import Derived.WalkKit
import Derived.WalkSpells
import Derived.WalkLawsBesides
import Derived.RowKit3
import Derived.Handy
import Derived.Lib.Hide
import Derived.OneCell
import Derived.IntWalk
import Derived.KernelRfl
import Derived.Maps.OwnSet
import Derived.Maps.OwnOps
import Derived.Maps.Views
namespace Go.Proofs.YtkiimljdoebclaaDoor
open Go.RowKit Go.Maps
set_option linter.unusedVariables false
set_option linter.unusedSectionVars false

section
variable {κ ε : Type} [DecidableEq κ]
def kget : List (κ × ε) → κ → Option ε
  | [], _ => none
  | (a, b) :: l, k => if a = k then some b else kget l k
def kdel : List (κ × ε) → κ → List (κ × ε)
  | [], _ => []
  | (a, b) :: l, k => if a = k then kdel l k else (a, b) :: kdel l k
def kput (l : List (κ × ε)) (k : κ) (v : ε) : List (κ × ε) := (k, v) :: kdel l k
theorem kget_cons (a : κ) (b : ε) (l : List (κ × ε)) (k : κ) : kget ((a, b) :: l) k = if a = k then some b else kget l k := rfl
theorem kget_del_same (l : List (κ × ε)) (k : κ) : kget (kdel l k) k = none := by
  induction l with
  | nil => rfl
  | cons p l ih =>
    obtain ⟨a, b⟩ := p
    rw [kdel]
    split
    · exact ih
    · next h => rw [kget_cons, if_neg h]; exact ih
theorem kget_del_other (l : List (κ × ε)) {k x : κ} (h : x ≠ k) : kget (kdel l k) x = kget l x := by
  induction l with
  | nil => rfl
  | cons p l ih =>
    obtain ⟨a, b⟩ := p
    rw [kdel, kget_cons]
    split
    · next e => rw [if_neg (fun e' => h (e'.symm.trans e)), ih]
    · rw [kget_cons, ih]
theorem kget_put_same (l : List (κ × ε)) (k : κ) (v : ε) : kget (kput l k v) k = some v := by rw [kput, kget_cons, if_pos rfl]
theorem kget_put_other (l : List (κ × ε)) {k x : κ} (v : ε) (h : x ≠ k) : kget (kput l k v) x = kget l x := by rw [kput, kget_cons, if_neg (fun e => h e.symm), kget_del_other l h]
theorem kdel_len (l : List (κ × ε)) (k : κ) : (kdel l k).length ≤ l.length := by
  induction l with
  | nil => exact Nat.le_refl _
  | cons p l ih =>
    obtain ⟨a, b⟩ := p
    rw [kdel]
    split
    · rw [List.length_cons]; omega
    · rw [List.length_cons, List.length_cons]; omega
theorem kdel_none {l : List (κ × ε)} {k : κ} (h : kget l k = none) : kdel l k = l := by
  induction l with
  | nil => rfl
  | cons p l ih =>
    obtain ⟨a, b⟩ := p
    rw [kget_cons] at h
    rw [kdel]
    split
    · next e => rw [if_pos e] at h; cases h
    · next e => rw [if_neg e] at h; rw [ih h]
def KOnce : List (κ × ε) → Prop
  | [] => True
  | (a, _) :: l => kget l a = none ∧ KOnce l
theorem KOnce.del {l : List (κ × ε)} (h : KOnce l) (k : κ) : KOnce (kdel l k) := by
  induction l with
  | nil => trivial
  | cons p l ih =>
    obtain ⟨a, b⟩ := p
    rw [kdel]
    split
    · exact ih h.2
    · next e => exact ⟨by rw [kget_del_other l e]; exact h.1, ih h.2⟩
theorem KOnce.put {l : List (κ × ε)} (h : KOnce l) (k : κ) (v : ε) : KOnce (kput l k v) := ⟨kget_del_same l k, h.del k⟩
theorem kdel_len_some {l : List (κ × ε)} {k : κ} {v : ε} (ho : KOnce l) (h : kget l k = some v) : (kdel l k).length + 1 = l.length := by
  induction l with
  | nil => cases h
  | cons p l ih =>
    obtain ⟨a, b⟩ := p
    rw [kdel]
    rw [kget_cons] at h
    split
    · next e => subst e; rw [kdel_none ho.1, List.length_cons]
    · next e => rw [if_neg e] at h; have := ih ho.2 h; rw [List.length_cons, List.length_cons]; omega
theorem kput_len {l : List (κ × ε)} (ho : KOnce l) (k : κ) (v : ε) : (kput l k v).length = if (kget l k).isSome = true then l.length else l.length + 1 := by
  rw [kput, List.length_cons]
  cases h : kget l k with
  | none => rw [kdel_none h]; rfl
  | some x => have := kdel_len_some ho h; simp; omega
theorem kput_le (l : List (κ × ε)) (k : κ) (v : ε) : (kput l k v).length ≤ l.length + 1 := by rw [kput, List.length_cons]; have := kdel_len l k; omega
end
/-- What there is to know of a map's type: its keys, its elements. -/
structure ML (P : Program) (κ ε : Type) where
  tm : TypeId
  tk : TypeId
  te : TypeId
  keyed : Keyed P tk
  und : P.underlying tm = some (.map tk te)
  kv : κ → Value
  kl : κ → Lit
  kok : κ → Prop
  hkey : ∀ k, kok k → keyOf P tk (kv k) = some (kl k)
  kvinj : ∀ a b, kv a = kv b → a = b
  R : Value → Option (DataW Unit × List MemPlace)
  ev : ε → Value
  ed : ε → DataW Unit
  eok : ε → Prop
  hR : ∀ x, eok x → R (ev x) = some (ed x, [])
  hinv : ∀ v x ps, R v = some (ed x, ps) → v = ev x
  z : ε
  zok : eok z
  hz : ∀ w : World, (zeroValue te).run P w = .ok (ev z) w
section
variable {κ ε : Type} [DecidableEq κ] {P : Program} (M : ML P κ ε)
theorem ML.kne {a b : κ} (ha : M.kok a) (hb : M.kok b) (h : a ≠ b) : M.kl a ≠ M.kl b := fun e => h (M.kvinj _ _ (M.keyed.inj (M.hkey a ha) (by rw [e]; exact M.hkey b hb)))
theorem ML.kkey {a : κ} (ha : M.kok a) : WideAt.IsKeyLit (M.kl a) := M.keyed.key (M.hkey a ha)
/-- Block b is a map that reads as the list al. -/
structure MapK (w : World) (b : Nat) (al : List (κ × ε)) : Prop where
  once : KOnce al
  kok : ∀ k v, kget al k = some v → M.kok k ∧ M.eok v
  ex : ∃ (n : Nat) (D : DataW Unit), w.ownsMap P M.tk M.R b n D ∧ Tidy D ∧ Maps.size D = al.length ∧ ∀ k, M.kok k → has D (M.kl k) = (kget al k).isSome ∧ D.atKey (M.kl k) (M.ed M.z) = M.ed ((kget al k).getD M.z)
variable {M} {w w' : World} {b : Nat} {al : List (κ × ε)}
theorem MapK.made (w : World) : MapK M (w.alloc (.map #[] 0)) w.heap.size [] :=
  ⟨trivial, (fun k v h => by cases h), 0, _, World.ownsMap_made _ _ _ _, tidy_empty, rfl, fun k _ => ⟨rfl, rfl⟩⟩
theorem MapK.kept {row : Option Nat} (h : MapK M w b al) (hg : w.grownBy w' row) (hne : some b ≠ row) : MapK M w' b al := by
  obtain ⟨n, D, h1, h2⟩ := h.ex
  exact ⟨h.once, h.kok, n, D, h1.kept hg hne, h2⟩
theorem MapK.alloc (h : MapK M w b al) (o : Obj) : MapK M (w.alloc o) b al := h.kept (World.grownBy_alloc w o none) (by simp)
theorem MapK.setCell (h : MapK M w b al) {p : Addr} (hp : b ≠ p.block) (u : Value) : MapK M (w.setCell p u) b al := by
  obtain ⟨n, D, h1, h2⟩ := h.ex
  exact ⟨h.once, h.kok, n, D, h1.setCell hp u, h2⟩
theorem MapK.lt (h : MapK M w b al) : b < w.heap.size := by
  obtain ⟨n, D, h1, h2⟩ := h.ex
  exact h1.lt
theorem MapK.block (h : MapK M w b al) (hb : w'.heap[b]? = w.heap[b]?) : MapK M w' b al := by
  obtain ⟨n, D, ⟨es, clock, k1, k2⟩, h2⟩ := h.ex
  exact ⟨h.once, h.kok, n, D, ⟨es, clock, hb.trans k1, k2⟩, h2⟩
theorem MapK.below (h : MapK M w b al) (hb : Below w.heap.size w w') : MapK M w' b al := h.block (hb.block b h.lt)
theorem MapK.drewN (h : MapK M w b al) (n : Nat) : MapK M (w.drewN n) b al := h.block rfl
theorem MapK.size_own {n : Nat} {D : DataW Unit} (h : w.ownsMap P M.tk M.R b n D) : w.ownsMap P M.tk M.R b (Maps.size D) D := by
  obtain ⟨es, clock, hb, F, hs, rfl⟩ := h
  refine ⟨es, clock, hb, F, ?_, rfl⟩
  have e1 : Maps.size (DataW.map ((es.toList.map (WideElems.rg P M.tk M.R)).foldr DataW.insert [])) = es.size := by simp [Maps.size, length_sorted]
  rw [e1]; exact Nat.le_refl _
/-- 'm[k]'. -/
theorem MapK.look (h : MapK M w b al) {k : κ} (hk : M.kok k) : (Instr.lookup M.tm (.map (some b)) (M.kv k) false).run P w = .ok (M.ev ((kget al k).getD M.z)) w := by
  obtain ⟨n, D, h1, h2, h3, h4⟩ := h.ex
  obtain ⟨v, ps, hrun, hv⟩ := h1.lookup M.keyed M.und (M.hz w) (M.hR M.z M.zok) (M.hkey k hk)
  rw [(h4 k hk).2] at hv
  rw [hrun, M.hinv _ _ _ hv]
/-- 'v, ok := m[k]'. -/
theorem MapK.lookok (h : MapK M w b al) {k : κ} (hk : M.kok k) : (Instr.lookup M.tm (.map (some b)) (M.kv k) true).run P w = .ok (.tuple #[M.ev ((kget al k).getD M.z), .bool (kget al k).isSome]) w := by
  obtain ⟨n, D, h1, h2, h3, h4⟩ := h.ex
  obtain ⟨v, ps, hrun, hv⟩ := h1.look_ok M.keyed M.und (M.hz w) (M.hR M.z M.zok) (M.hkey k hk)
  rw [(h4 k hk).2] at hv
  rw [hrun, (h4 k hk).1, M.hinv _ _ _ hv]
/-- 'm[k] = v': some world. -/
theorem MapK.put (h : MapK M w b al) (hn : al.length < maxLen) {k : κ} {y : ε} (hk : M.kok k) (hy : M.eok y) : ∃ w', (Instr.mapUpdate M.tm (.map (some b)) (M.kv k) (M.ev y)).run P w = .ok () w' ∧ MapK M w' b (kput al k y) ∧ w.mapTurned w' b := by
  obtain ⟨n, D, h1, h2, h3, h4⟩ := h.ex
  have h1' := MapK.size_own h1
  rw [h3] at h1'
  obtain ⟨w', hrun, g1, g2⟩ := h1'.store M.keyed M.und hn (M.hkey k hk) (M.hR y hy)
  refine ⟨w', hrun, ⟨h.once.put k y, fun q z hz => ?_, _, _, g1, h2.put (k := M.kl k) (M.kkey hk) _, ?_, fun q hq => ?_⟩, g2⟩
  · by_cases e : q = k
    · subst e; rw [kget_put_same] at hz; injection hz with hz; subst hz; exact ⟨hk, hy⟩
    · rw [kget_put_other _ _ e] at hz; exact h.kok q z hz
  · rw [size_put h2, (h4 k hk).1, kput_len h.once, h3]
  · by_cases e : q = k
    · subst e; rw [kget_put_same, has_put_same (k := M.kl q) h2.isMap (M.kkey hk), atKey_put_same (k := M.kl q) h2.isMap (M.kkey hk)]; exact ⟨rfl, rfl⟩
    · rw [kget_put_other _ _ e, has_put_other (M.kne hq hk e), atKey_put_other (M.kne hq hk e)]; exact h4 q hq
/-- 'delete(m, k)': some world. -/
theorem MapK.drop (h : MapK M w b al) {k : κ} (hk : M.kok k) (ty : TypeId) : ∃ w', (Builtin.delete_ #[M.tm, M.tk] ty #[.map (some b), M.kv k]).run P w = .ok (.tuple #[]) w' ∧ MapK M w' b (kdel al k) ∧ w.mapTurned w' b := by
  obtain ⟨n, D, h1, h2, h3, h4⟩ := h.ex
  obtain ⟨w', hrun, g1, g2⟩ := h1.drop M.keyed M.und (M.hkey k hk) ty
  refine ⟨w', hrun, ⟨h.once.del k, fun q z hz => ?_, _, _, g1, h2.del _, ?_, fun q hq => ?_⟩, g2⟩
  · by_cases e : q = k
    · subst e; rw [kget_del_same] at hz; cases hz
    · rw [kget_del_other _ e] at hz; exact h.kok q z hz
  · have := size_del (k := M.kl k) h2
    rw [(h4 k hk).1, h3] at this
    cases hq : kget al k with
    | none => rw [hq] at this; rw [kdel_none hq]; simpa using this
    | some z => rw [hq] at this; have := kdel_len_some h.once hq; simp at *; omega
  · by_cases e : q = k
    · subst e; rw [kget_del_same, has_del_same, atKey_del_same]; exact ⟨rfl, rfl⟩
    · rw [kget_del_other _ e, has_del_other (M.kne hq hk e), atKey_del_other (M.kne hq hk e)]; exact h4 q hq
end
end Go.Proofs.YtkiimljdoebclaaDoor
