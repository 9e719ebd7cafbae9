/- Sets of registers as numbers; what is live, as the least answer. -/
import Derived.Test.YtpjilcfmcbapcaaDoorIrP
import Derived.Laws.BitsAllLaws
import Derived.Laws.Shifts
import Derived.Test.YtpjilcfmcbapcaaDoorIrRow
namespace Go.Proofs.YtpjilcfmcbapcaaDoor
open Go.RowKit
set_option linter.unusedVariables false
set_option linter.unusedSimpArgs false

def addB (X r : Nat) : Nat := X ||| 2 ^ r
def dropB (X r : Nat) : Nat := X ^^^ (X &&& 2 ^ r)
theorem tb_add (X r j : Nat) : (addB X r).testBit j = (X.testBit j || decide (r = j)) := by
  unfold addB; rw [Nat.testBit_or, Nat.testBit_two_pow]
theorem tb_drop (X r j : Nat) : (dropB X r).testBit j = (X.testBit j && !decide (r = j)) := by
  unfold dropB; rw [Nat.testBit_xor, Nat.testBit_and, Nat.testBit_two_pow]
  cases X.testBit j <;> cases decide (r = j) <;> rfl
def Sub (X Y : Nat) : Prop := ∀ j, X.testBit j = true → Y.testBit j = true
theorem Sub.refl (X : Nat) : Sub X X := fun _ h => h
theorem Sub.trans {X Y Z : Nat} (h : Sub X Y) (g : Sub Y Z) : Sub X Z := fun j hj => g j (h j hj)
theorem Sub.antisymm {X Y : Nat} (h : Sub X Y) (g : Sub Y X) : X = Y := Nat.eq_of_testBit_eq (fun j => by
  cases hx : X.testBit j with
  | true => exact (h j hx).symm
  | false => cases hy : Y.testBit j with
    | true => rw [g j hy] at hx; cases hx
    | false => rfl)
theorem sub_or_left (X Y : Nat) : Sub X (X ||| Y) := fun j h => by rw [Nat.testBit_or, h]; rfl
theorem sub_or_right (X Y : Nat) : Sub Y (X ||| Y) := fun j h => by rw [Nat.testBit_or, h, Bool.or_true]
theorem Sub.or {X Y Z : Nat} (h : Sub X Z) (g : Sub Y Z) : Sub (X ||| Y) Z := fun j hj => by
  rw [Nat.testBit_or, Bool.or_eq_true] at hj
  exact hj.elim (h j) (g j)
theorem Sub.or_eq {X Y : Nat} (h : Sub Y X) : X ||| Y = X := (Sub.or (Sub.refl X) h).antisymm (sub_or_left X Y)
theorem Sub.le {X Y : Nat} (h : Sub X Y) : X ≤ Y := by
  have e : Y ||| X = Y := h.or_eq
  calc X ≤ Y ||| X := Nat.right_le_or
    _ = Y := e
theorem zero_sub (X : Nat) : Sub 0 X := fun j h => by simp at h
theorem addB_lt {X r R : Nat} (h : X < 2 ^ R) (hr : r < R) : addB X r < 2 ^ R := Nat.or_lt_two_pow h (Nat.pow_lt_pow_right (by decide) hr)
theorem dropB_sub (X r : Nat) : Sub (dropB X r) X := fun j h => by rw [tb_drop, Bool.and_eq_true] at h; exact h.1
theorem dropB_lt {X r R : Nat} (h : X < 2 ^ R) : dropB X r < 2 ^ R := Nat.lt_of_le_of_lt (dropB_sub X r).le h
theorem out_bit {X R j : Nat} (h : X < 2 ^ R) (hj : R ≤ j) : X.testBit j = false :=
  Nat.testBit_lt_two_pow (Nat.lt_of_lt_of_le h (Nat.pow_le_pow_right (by decide) hj))
theorem ext_below {X Y R : Nat} (hX : X < 2 ^ R) (hY : Y < 2 ^ R) (h : ∀ j, j < R → X.testBit j = Y.testBit j) : X = Y :=
  Nat.eq_of_testBit_eq (fun j => by
    by_cases hj : j < R
    · exact h j hj
    · rw [out_bit hX (by omega), out_bit hY (by omega)])
/-! One instruction, and a row of them. -/
def defI (x : Ix) : Int := if writesI x.op x.d then x.d else -1
def usesX (X : Nat) (l : List Int) : Nat := l.foldl (fun X r => addB X r.toNat) X
def dropD (X : Nat) (d : Int) : Nat := if 0 ≤ d then dropB X d.toNat else X
def backI (X : Nat) (x : Ix) : Nat := usesX (dropD X (defI x)) x.uses
def backs (l : List Ix) (X : Nat) : Nat := l.foldr (fun x X => backI X x) X
theorem tb_uses (l : List Int) : ∀ (X j : Nat), (usesX X l).testBit j = (X.testBit j || l.any (fun r => decide (r.toNat = j))) := by
  induction l with
  | nil => intro X j; simp [usesX]
  | cons r t ih => intro X j; show (usesX (addB X r.toNat) t).testBit j = _; rw [ih, tb_add, List.any_cons, Bool.or_assoc]
theorem usesX_app (X : Nat) (l m : List Int) : usesX X (l ++ m) = usesX (usesX X l) m := by unfold usesX; rw [List.foldl_append]
theorem tb_dropD (X : Nat) (d : Int) (j : Nat) : (dropD X d).testBit j = (X.testBit j && !(decide (0 ≤ d) && decide (d.toNat = j))) := by
  unfold dropD
  by_cases h : 0 ≤ d
  · rw [if_pos h, tb_drop, decide_eq_true h, Bool.true_and]
  · rw [if_neg h, decide_eq_false h, Bool.false_and]; simp
theorem tb_back (X : Nat) (x : Ix) (j : Nat) : (backI X x).testBit j = ((X.testBit j && !(decide (0 ≤ defI x) && decide ((defI x).toNat = j))) || x.uses.any (fun r => decide (r.toNat = j))) := by
  unfold backI; rw [tb_uses, tb_dropD]
theorem backI_mono {X Y : Nat} (h : Sub X Y) (x : Ix) : Sub (backI X x) (backI Y x) := fun j hj => by
  rw [tb_back] at *
  rw [Bool.or_eq_true, Bool.and_eq_true] at hj
  rcases hj with ⟨h1, h2⟩ | h3
  · rw [h j h1, h2]; rfl
  · rw [h3, Bool.or_true]
theorem backs_mono (l : List Ix) {X Y : Nat} (h : Sub X Y) : Sub (backs l X) (backs l Y) := by
  induction l with
  | nil => exact h
  | cons x t ih => exact backI_mono ih x
theorem backs_drop {l : List Ix} {k : Nat} {x : Ix} (h : l[k]? = some x) (X : Nat) : backs (l.drop k) X = backI (backs (l.drop (k + 1)) X) x := by
  obtain ⟨h1, h2⟩ := List.getElem?_eq_some_iff.1 h
  rw [List.drop_eq_getElem_cons h1, h2]; rfl
/-- All registers that an instruction names are below R. -/
def Fit (R : Nat) (x : Ix) : Prop := (∀ r ∈ x.uses, 0 ≤ r ∧ r.toNat < R) ∧ (0 ≤ defI x → (defI x).toNat < R)
theorem usesX_lt {R : Nat} (l : List Int) : ∀ {X : Nat}, X < 2 ^ R → (∀ r ∈ l, 0 ≤ r ∧ r.toNat < R) → usesX X l < 2 ^ R := by
  induction l with
  | nil => intro X h _; exact h
  | cons r t ih => intro X h g; exact ih (addB_lt h (g r (List.mem_cons_self ..)).2) (fun z hz => g z (List.mem_cons_of_mem _ hz))
theorem dropD_lt {R X : Nat} (h : X < 2 ^ R) (d : Int) : dropD X d < 2 ^ R := by
  unfold dropD; split
  · exact dropB_lt h
  · exact h
theorem backI_lt {R X : Nat} {x : Ix} (h : X < 2 ^ R) (hx : Fit R x) : backI X x < 2 ^ R := usesX_lt _ (dropD_lt h _) hx.1
theorem backs_lt {R X : Nat} {l : List Ix} (h : X < 2 ^ R) (hl : ∀ x ∈ l, Fit R x) : backs l X < 2 ^ R := by
  induction l with
  | nil => exact h
  | cons x t ih => exact backI_lt (ih (fun y hy => hl y (List.mem_cons_of_mem _ hy))) (hl x (List.mem_cons_self ..))
/-! Blocks. -/
def toI (x : Ix) : List Int := if x.op = 14 ∨ x.op = 15 ∨ x.op = 16 then x.to.l else []
def lastTo (l : List Ix) : List Int := match l.getLast? with
  | none => []
  | some x => toI x
def blk (bl : List (List Ix)) (b : Nat) : List Ix := bl.getD b []
/-- G holds, behind each block, what is live at the beginning of each that it leads to. -/
def Post (bl : List (List Ix)) (G : Nat → Nat) : Prop := ∀ (p c : Nat), p < bl.length → c < bl.length → (c : Int) ∈ lastTo (blk bl p) → Sub (backs (blk bl c) (G c)) (G p)
structure Least (bl : List (List Ix)) (O : Nat → Nat) : Prop where
  post : Post bl O
  least : ∀ G, Post bl G → ∀ b, b < bl.length → Sub (O b) (G b)
theorem Least.uniq {bl : List (List Ix)} {O O' : Nat → Nat} (h : Least bl O) (g : Least bl O') {b : Nat} (hb : b < bl.length) : O b = O' b :=
  (h.least _ g.post b hb).antisymm (g.least _ h.post b hb)
/-- How many pure instructions of a row write what is not read later. -/
def deadRow (X : Nat) : List Ix → Nat
  | [] => 0
  | x :: t => (if pureI x.op x.sub && !(backs t X).testBit x.d.toNat then 1 else 0) + deadRow X t
theorem deadRow_drop {l : List Ix} {k : Nat} {x : Ix} (h : l[k]? = some x) (X : Nat) : deadRow X (l.drop k) = (if pureI x.op x.sub && !(backs (l.drop (k + 1)) X).testBit x.d.toNat then 1 else 0) + deadRow X (l.drop (k + 1)) := by
  obtain ⟨h1, h2⟩ := List.getElem?_eq_some_iff.1 h
  rw [List.drop_eq_getElem_cons h1, h2]; rfl
theorem deadRow_le (X : Nat) (l : List Ix) : deadRow X l ≤ l.length := by
  induction l with
  | nil => exact Nat.le_refl _
  | cons x t ih => show _ + _ ≤ t.length + 1; split <;> omega
/-- All of them. -/
def deadAll (O : Nat → Nat) (bl : List (List Ix)) (n : Nat) : Nat := ((List.range n).map (fun b => deadRow (O b) (bl.getD b []))).sum
/-- A set's registers, rising. -/
def listB (X R : Nat) : List Int := ((List.range R).filter X.testBit).map Int.ofNat
end Go.Proofs.YtpjilcfmcbapcaaDoor
/- The work list: what holds while it is gone through. -/
namespace Go.Proofs.YtpjilcfmcbapcaaDoor
open Go.RowKit
set_option linter.unusedVariables false
set_option linter.unusedSimpArgs false

def upd {α : Type} (f : Nat → α) (i : Nat) (v : α) : Nat → α := fun b => if b = i then v else f b
theorem upd_same {α : Type} (f : Nat → α) (i : Nat) (v : α) : upd f i v i = v := if_pos rfl
theorem upd_ne {α : Type} (f : Nat → α) {i b : Nat} (v : α) (h : b ≠ i) : upd f i v b = f b := if_neg h
/-- A sum, and one of it turned. -/
def mu (f : Nat → Nat) : Nat → Nat
  | 0 => 0
  | n + 1 => mu f n + f n
theorem mu_out (f : Nat → Nat) (p v : Nat) : ∀ n, n ≤ p → mu (upd f p v) n = mu f n
  | 0, _ => rfl
  | n + 1, h => by unfold mu; rw [mu_out f p v n (by omega), upd_ne f v (by omega)]
theorem mu_upd (f : Nat → Nat) (p v : Nat) : ∀ n, p < n → mu (upd f p v) n + f p = mu f n + v
  | 0, h => by omega
  | n + 1, h => by
    unfold mu
    by_cases e : n = p
    · subst e; rw [mu_out f n v n (Nat.le_refl _), upd_same]; omega
    · rw [upd_ne f v e]; have := mu_upd f p v n (by omega); omega
theorem nodup_le : ∀ (n : Nat) (l : List Nat), l.Nodup → (∀ x ∈ l, x < n) → l.length ≤ n
  | 0, l, _, h => by
    cases l with
    | nil => exact Nat.le_refl _
    | cons x t => exact absurd (h x (List.mem_cons_self ..)) (by omega)
  | n + 1, l, hn, h => by
    by_cases hm : n ∈ l
    · have h1 := nodup_le n (l.erase n) (hn.erase n) (fun x hx => by
        have h2 := (hn.mem_erase_iff).1 hx
        have := h x h2.2
        omega)
      rw [List.length_erase_of_mem hm] at h1
      omega
    · have h1 := nodup_le n l hn (fun x hx => by
        have := h x hx
        have : x ≠ n := fun e => hm (e ▸ hx)
        omega)
      omega
section
variable {bl : List (List Ix)} {S : Nat} {O I : Nat → Nat} {wl : List Nat}
/-- What holds ahead of each round. -/
structure WInv (bl : List (List Ix)) (S : Nat) (O I : Nat → Nat) (wl : List Nat) : Prop where
  sound : ∀ G, Post bl G → ∀ p, p < bl.length → Sub (O p) (G p)
  done : ∀ c, c < bl.length → c ∉ wl → I c = backs (blk bl c) (O c) ∧ ∀ p, p < bl.length → (c : Int) ∈ lastTo (blk bl p) → Sub (backs (blk bl c) (O c)) (O p)
  nd : wl.Nodup
  lt : ∀ b ∈ wl, b < bl.length
  bd : ∀ p, p < bl.length → O p < 2 ^ S ∧ I p < 2 ^ S
/-- Within one: b's beginning is Y, ps have been joined. -/
structure RInv (bl : List (List Ix)) (S : Nat) (O I : Nat → Nat) (wl : List Nat) (b Y Ob : Nat) (ps : List Int) : Prop where
  sound : ∀ G, Post bl G → ∀ p, p < bl.length → Sub (O p) (G p)
  done : ∀ c, c < bl.length → c ≠ b → c ∉ wl → I c = backs (blk bl c) (O c) ∧ ∀ p, p < bl.length → (c : Int) ∈ lastTo (blk bl p) → Sub (backs (blk bl c) (O c)) (O p)
  self : b ∉ wl → O b = Ob ∧ ∀ p ∈ ps, Sub Y (O p.toNat)
  nd : wl.Nodup
  lt : ∀ c ∈ wl, c < bl.length
  bd : ∀ p, p < bl.length → O p < 2 ^ S ∧ I p < 2 ^ S
  ib : I b = Y
  yb : Y = backs (blk bl b) Ob
  ys : ∀ G, Post bl G → ∀ p, p < bl.length → (b : Int) ∈ lastTo (blk bl p) → Sub Y (G p)
  blt : b < bl.length
  yl : Y < 2 ^ S
theorem WInv.start (bl : List (List Ix)) (S : Nat) (wl : List Nat) (hw : ∀ c, c < bl.length → c ∈ wl) (nd : wl.Nodup) (lt : ∀ b ∈ wl, b < bl.length) : WInv bl S (fun _ => 0) (fun _ => 0) wl :=
  ⟨fun _ _ _ _ => zero_sub _, fun c hc hn => absurd (hw c hc) hn, nd, lt, fun _ _ => ⟨Nat.pow_pos (by decide), Nat.pow_pos (by decide)⟩⟩
theorem WInv.pop {b : Nat} (h : WInv bl S O I (wl ++ [b])) (hY : backs (blk bl b) (O b) < 2 ^ S) : RInv bl S O (upd I b (backs (blk bl b) (O b))) wl b (backs (blk bl b) (O b)) (O b) [] := by
  have hb := h.lt b (by simp)
  refine ⟨h.sound, fun c hc hcb hn => ?_, fun _ => ⟨rfl, fun p hp => by cases hp⟩, (List.nodup_append.1 h.nd).1, fun c hc => h.lt c (by simp [hc]), fun p hp => ⟨(h.bd p hp).1, ?_⟩, upd_same _ _ _, rfl, fun G hG p hp he => ?_, hb, hY⟩
  · rw [upd_ne _ _ hcb]
    exact h.done c hc (by simp [hn, hcb])
  · by_cases e : p = b
    · subst e; rw [upd_same]; exact hY
    · rw [upd_ne _ _ e]; exact (h.bd p hp).2
  · exact (backs_mono _ (h.sound G hG b hb)).trans (hG p b hp hb he)
theorem RInv.join {b Y Ob p : Nat} {ps : List Int} (h : RInv bl S O I wl b Y Ob ps) (hp : p < bl.length) (he : (b : Int) ∈ lastTo (blk bl p)) (wl' : List Nat) (hw : wl' = if O p ||| Y ≠ O p ∧ p ∉ wl then wl ++ [p] else wl) :
    RInv bl S (upd O p (O p ||| Y)) I wl' b Y Ob (ps ++ [(p : Int)]) := by
  have hsub : ∀ c, c ∉ wl' → c ∉ wl := fun c hc hm => hc (by rw [hw]; split <;> simp [hm])
  have hch : ∀ c, c ∉ wl' → upd O p (O p ||| Y) c = O c := fun c hc => by
    by_cases e : c = p
    · subst e
      rw [upd_same]
      by_cases h1 : O c ||| Y ≠ O c
      · have h2 := hsub c hc
        rw [hw, if_pos ⟨h1, h2⟩] at hc
        exact absurd (by simp) hc
      · exact Decidable.not_not.1 h1
    · rw [upd_ne _ _ e]
  have hgr : ∀ c, Sub (O c) (upd O p (O p ||| Y) c) := fun c => by
    by_cases e : c = p
    · subst e; rw [upd_same]; exact sub_or_left _ _
    · rw [upd_ne _ _ e]; exact Sub.refl _
  refine ⟨fun G hG c hc => ?_, fun c hc hcb hn => ?_, fun hn => ?_, ?_, fun c hc => ?_, fun c hc => ⟨?_, (h.bd c hc).2⟩, h.ib, h.yb, h.ys, h.blt, h.yl⟩
  · by_cases e : c = p
    · subst e; rw [upd_same]; exact (h.sound G hG c hc).or (h.ys G hG c hc he)
    · rw [upd_ne _ _ e]; exact h.sound G hG c hc
  · rw [hch c hn]
    obtain ⟨h1, h2⟩ := h.done c hc hcb (hsub c hn)
    exact ⟨h1, fun q hq hqe => (h2 q hq hqe).trans (hgr q)⟩
  · obtain ⟨h1, h2⟩ := h.self (hsub b hn)
    refine ⟨by rw [hch b hn]; exact h1, fun q hq => ?_⟩
    rw [List.mem_append, List.mem_singleton] at hq
    rcases hq with hq | rfl
    · exact (h2 q hq).trans (hgr _)
    · show Sub Y (upd O p (O p ||| Y) p); rw [upd_same]; exact sub_or_right _ _
  · rw [hw]
    split
    · rename_i hh
      rw [List.nodup_append]
      exact ⟨h.nd, by simp, fun a ha c hc e => by rw [List.mem_singleton] at hc; subst hc; subst e; exact hh.2 ha⟩
    · exact h.nd
  · rw [hw] at hc
    split at hc
    · rw [List.mem_append, List.mem_singleton] at hc
      rcases hc with hc | rfl
      · exact h.lt c hc
      · exact hp
    · exact h.lt c hc
  · by_cases e : c = p
    · subst e; rw [upd_same]; exact Nat.or_lt_two_pow (h.bd c hc).1 h.yl
    · rw [upd_ne _ _ e]; exact (h.bd c hc).1
theorem RInv.fin {b Y Ob : Nat} {ps : List Int} (h : RInv bl S O I wl b Y Ob ps) (hps : ∀ p, p < bl.length → (b : Int) ∈ lastTo (blk bl p) → (p : Int) ∈ ps) : WInv bl S O I wl :=
  ⟨h.sound, fun c hc hn => by
    by_cases e : c = b
    · subst e
      obtain ⟨h1, h2⟩ := h.self hn
      rw [h1, h.ib, ← h.yb]
      exact ⟨rfl, fun p hp he => h2 _ (hps p hp he)⟩
    · exact h.done c hc e hn, h.nd, h.lt, h.bd⟩
theorem WInv.least (h : WInv bl S O I []) : Least bl O ∧ ∀ c, c < bl.length → I c = backs (blk bl c) (O c) :=
  ⟨⟨fun p c hp hc he => (h.done c hc (by simp)).2 p hp he, h.sound⟩, fun c hc => (h.done c hc (by simp)).1⟩
/-- What goes down from round to round. -/
def cost (S n : Nat) (O : Nat → Nat) (wl : List Nat) : Nat := mu (fun b => 2 ^ S - O b) n * (n + 1) + wl.length
theorem cost_join (S n : Nat) (O : Nat → Nat) (wl wl' : List Nat) (p Y : Nat) (hp : p < n) (hl : O p ||| Y < 2 ^ S) (hw : wl' = if O p ||| Y ≠ O p ∧ p ∉ wl then wl ++ [p] else wl) : cost S n (upd O p (O p ||| Y)) wl' ≤ cost S n O wl := by
  have hle : O p ≤ O p ||| Y := (sub_or_left _ _).le
  have e : (fun b => 2 ^ S - upd O p (O p ||| Y) b) = upd (fun b => 2 ^ S - O b) p (2 ^ S - (O p ||| Y)) := by
    funext b
    by_cases e : b = p
    · subst e; rw [upd_same, upd_same]
    · rw [upd_ne _ _ e, upd_ne _ _ e]
  have h1 := mu_upd (fun b => 2 ^ S - O b) p (2 ^ S - (O p ||| Y)) n hp
  unfold cost
  rw [e, hw]
  generalize 2 ^ S = P at *
  generalize mu (upd (fun b => P - O b) p (P - (O p ||| Y))) n = m1 at *
  generalize mu (fun b => P - O b) n = m0 at *
  split
  · rename_i hh
    have hlt : m1 + 1 ≤ m0 := by have := hh.1; omega
    rw [List.length_append, List.length_singleton]
    have h2 : (m1 + 1) * (n + 1) ≤ m0 * (n + 1) := Nat.mul_le_mul_right _ hlt
    rw [Nat.add_mul] at h2
    omega
  · have h2 : m1 * (n + 1) ≤ m0 * (n + 1) := Nat.mul_le_mul_right _ (by omega)
    omega
end
end Go.Proofs.YtpjilcfmcbapcaaDoor
/- Sets of registers as rows of words. -/
namespace Go.Proofs.YtpjilcfmcbapcaaDoor
open Go.RowKit
set_option linter.unusedVariables false
set_option linter.unusedSimpArgs false

def wordAt (X k : Nat) : Nat := (X >>> (64 * k)) % 2 ^ 64
def ws (X W : Nat) : List Value := (List.range W).map (fun k => .int .u64 (wordAt X k : Nat))
theorem tb_word (X k j : Nat) : (wordAt X k).testBit j = (decide (j < 64) && X.testBit (64 * k + j)) := by
  unfold wordAt; rw [Nat.testBit_mod_two_pow, Nat.testBit_shiftRight]
theorem word_lt (X k : Nat) : wordAt X k < 18446744073709551616 := Nat.mod_lt _ (by decide)
theorem ws_len (X W : Nat) : (ws X W).length = W := by unfold ws; rw [List.length_map, List.length_range]
theorem ws_get {X W k : Nat} (h : k < W) : (ws X W)[k]? = some (.int .u64 (wordAt X k : Nat)) := by
  unfold ws; rw [List.getElem?_map, List.getElem?_range h]; rfl
theorem ws_one (X W : Nat) : ∀ v ∈ ws X W, v.oneCell' = true := by
  intro v hv; unfold ws at hv; rw [List.mem_map] at hv; obtain ⟨k, _, rfl⟩ := hv; rfl
theorem word_ext {X k : Nat} {v : Nat} (hv : v < 2 ^ 64) (h : ∀ j, j < 64 → v.testBit j = X.testBit (64 * k + j)) : v = wordAt X k :=
  ext_below hv (word_lt X k) (fun j hj => by rw [h j hj, tb_word, decide_eq_true hj, Bool.true_and])
theorem ws_set {X Y W k : Nat} (h : ∀ j, j / 64 ≠ k → Y.testBit j = X.testBit j) : (ws X W).set k (.int .u64 (wordAt Y k : Nat)) = ws Y W := by
  refine List.ext_getElem? fun i => ?_
  rw [List.getElem?_set, ws_len]
  by_cases hi : i < W
  · by_cases hk : k = i
    · subst hk; rw [if_pos rfl, if_pos hi, ws_get hi]
    · rw [if_neg hk, ws_get hi, ws_get hi]
      have : wordAt X i = wordAt Y i := word_ext (word_lt X i) (fun j hj => by
        rw [tb_word, decide_eq_true hj, Bool.true_and]
        exact (h _ (by omega)).symm)
      rw [this]
  · have e1 : (ws X W)[i]? = none := List.getElem?_eq_none (by rw [ws_len]; omega)
    have e2 : (ws Y W)[i]? = none := List.getElem?_eq_none (by rw [ws_len]; omega)
    rw [e1, e2]
    by_cases hk : k = i
    · rw [if_pos hk, if_neg (by omega)]
    · rw [if_neg hk]
theorem ws_zero (W : Nat) : ws 0 W = List.replicate W (.int .u64 0) := by
  refine List.ext_getElem? fun i => ?_
  by_cases hi : i < W
  · rw [ws_get hi, List.getElem?_replicate, if_pos hi]
    have : wordAt 0 i = 0 := by unfold wordAt; rw [Nat.zero_shiftRight]
    rw [this]; rfl
  · rw [List.getElem?_eq_none (by rw [ws_len]; omega), List.getElem?_eq_none (by rw [List.length_replicate]; omega)]
/-- A word with a bit more. -/
theorem word_add (X r : Nat) : wordAt X (r / 64) ||| 2 ^ (r % 64) = wordAt (addB X r) (r / 64) :=
  word_ext (Nat.or_lt_two_pow (word_lt X _) (Nat.pow_lt_pow_right (by decide) (Nat.mod_lt _ (by decide)))) (fun j hj => by
    rw [Nat.testBit_or, tb_word, decide_eq_true hj, Bool.true_and, Nat.testBit_two_pow, tb_add]
    congr 1
    exact decide_eq_decide.2 (by omega))
theorem word_drop (X r : Nat) : wordAt X (r / 64) &&& (18446744073709551615 - 2 ^ (r % 64)) = wordAt (dropB X r) (r / 64) :=
  word_ext (Nat.and_lt_two_pow _ (by have : 18446744073709551615 - 2 ^ (r % 64) ≤ 18446744073709551615 := Nat.sub_le _ _; omega)) (fun j hj => by
    have hp : 2 ^ (r % 64) < 2 ^ 64 := Nat.pow_lt_pow_right (by decide) (Nat.mod_lt _ (by decide))
    have e : 18446744073709551615 - 2 ^ (r % 64) = 2 ^ 64 - (2 ^ (r % 64) + 1) := by omega
    rw [Nat.testBit_and, e, Nat.testBit_two_pow_sub_succ hp, tb_word, decide_eq_true hj, Bool.true_and, Bool.true_and, Nat.testBit_two_pow, tb_drop]
    congr 2
    exact decide_eq_decide.2 (by omega))
theorem ws_add (X r W : Nat) : (ws X W).set (r / 64) (.int .u64 (wordAt (addB X r) (r / 64) : Nat)) = ws (addB X r) W :=
  ws_set (fun j hj => by rw [tb_add, decide_eq_false (fun e => hj (by omega)), Bool.or_false])
theorem ws_drop (X r W : Nat) : (ws X W).set (r / 64) (.int .u64 (wordAt (dropB X r) (r / 64) : Nat)) = ws (dropB X r) W :=
  ws_set (fun j hj => by rw [tb_drop, decide_eq_false (fun e => hj (by omega)), Bool.not_false, Bool.and_true])
theorem word_has (X r : Nat) : decide ((wordAt X (r / 64) / 2 ^ (r % 64)) % 2 = 1) = X.testBit r := by
  have h1 := tb_word X (r / 64) (r % 64)
  rw [decide_eq_true (Nat.mod_lt r (by decide)), Bool.true_and, show 64 * (r / 64) + r % 64 = r by omega, Nat.testBit_eq_decide_div_mod_eq] at h1
  exact h1
/-- Words of both. -/
theorem word_or (X Y k : Nat) : wordAt X k ||| wordAt Y k = wordAt (X ||| Y) k :=
  word_ext (Nat.or_lt_two_pow (word_lt X _) (word_lt Y _)) (fun j hj => by
    rw [Nat.testBit_or, tb_word, tb_word, decide_eq_true hj, Bool.true_and, Bool.true_and, Nat.testBit_or])
theorem shr_u64 (z j : Nat) (hj : j < 64) : Op.shift .shr .u64 (z : Int) .u64 (j : Int) = pure (.int .u64 ((z / 2 ^ j : Nat) : Int)) := by
  rw [shift_shr_any _ _ _ _ (by omega)]
  have e : min (j : Int).toNat IntKind.u64.bits = j := by show min (j : Int).toNat 64 = j; omega
  rw [e]; rfl
theorem shl_u64 (j : Nat) (hj : j < 64) : Op.shift .shl .u64 (1 : Int) .u64 (j : Int) = pure (.int .u64 ((2 ^ j : Nat) : Int)) := by
  rw [shift_shl_any _ _ _ _ (by omega)]
  have e : min (j : Int).toNat IntKind.u64.bits = j := by show min (j : Int).toNat 64 = j; omega
  have hp : 2 ^ j < 2 ^ 64 := Nat.pow_lt_pow_right (by decide) hj
  have hc : ((2 : Int) ^ j) = ((2 ^ j : Nat) : Int) := by rw [Int.natCast_pow]; rfl
  rw [e, hc]
  generalize 2 ^ j = P at hp
  congr 2
  rw [Int.one_mul, IntKind.wrap_u64]
  omega
theorem and63 (r : Nat) (hr : r < 18446744073709551616) : bits .and .u64 (r : Int) 63 = ((r % 64 : Nat) : Int) := by
  have := u64_and_nat r 63 hr (by decide)
  rw [show ((63 : Nat) : Int) = 63 from rfl] at this
  rw [this, show 63 = 2 ^ 6 - 1 from rfl, Nat.and_two_pow_sub_one_eq_mod]
theorem and1 (r : Nat) (hr : r < 18446744073709551616) : bits .and .u64 (r : Int) 1 = ((r % 2 : Nat) : Int) := by
  have := u64_and_nat r 1 hr (by decide)
  rw [show ((1 : Nat) : Int) = 1 from rfl] at this
  rw [this, show 1 = 2 ^ 1 - 1 from rfl, Nat.and_two_pow_sub_one_eq_mod]
end Go.Proofs.YtpjilcfmcbapcaaDoor
/- span.Set: New, Has, Add, Drop, join. -/
namespace Go.Proofs.YtpjilcfmcbapcaaDoor
open Go.RowKit
set_option linter.unusedVariables false
set_option linter.unusedSimpArgs false

theorem p64 (j : Nat) (hj : j < 64) : 2 ^ j < 18446744073709551616 := (Nat.pow_lt_pow_right (by decide) hj : 2 ^ j < 2 ^ 64)
/-- A block holds a set, in W words. -/
def WdAt (w : World) (g X W : Nat) : Prop := w.heap[g]? = some (.cells (ws X W).toArray 81 (0, 0))
abbrev wv (g W : Nat) : Value := .slice (some ⟨g, 0, none⟩) W W
theorem WdAt.cell {w : World} {g X W k : Nat} (h : WdAt w g X W) (hk : k < W) : w.cell? ⟨g, k, none⟩ = some (.int .u64 (wordAt X k : Nat)) := by
  rw [cell_of_row w g _ _ _ _ h, List.getElem?_toArray]; exact ws_get hk
theorem WdAt.frozen {w : World} {g X W : Nat} (h : WdAt w g X W) (k : Nat) : w.frozen? ⟨g, k, none⟩ = false := frozen_of_row w g k _ _ h
theorem WdAt.put {w : World} {g X Y W k : Nat} (h : WdAt w g X W) (e : (ws X W).set k (.int .u64 (wordAt Y k : Nat)) = ws Y W) : WdAt (w.setCell ⟨g, k, none⟩ (.int .u64 (wordAt Y k : Nat))) g Y W := by
  unfold WdAt
  rw [heap_setCell_same w g k _ _ _ h, ← e]; simp
theorem WdAt.lt {w : World} {g X W : Nat} (h : WdAt w g X W) : g < w.heap.size := (Array.getElem?_eq_some_iff.1 h).1
theorem WdAt.keep {S : Nat → Prop} {w w' : World} {g X W : Nat} (h : WdAt w g X W) (hk : Keeps S w w') (hS : ¬ S g) : WdAt w' g X W := (hk.block g h.lt hS).trans h
set_option maxHeartbeats 1600000 in
theorem shas_any (w : World) (g X W r : Nat) (h : WdAt w g X W) (hr : r < 64 * W) (hW : W ≤ 100000) :
    Calls Tryd.prog 28 #[wv g W, .int .i64 r] w fun e w' => e = .returned (.bool (X.testBit r)) ∧ w' = w := by
  have hc := h.cell (k := r / 64) (by omega)
  have e1 := and63 r (by omega)
  have hz := word_lt X (r / 64)
  have e2 := shr_u64 (wordAt X (r / 64)) (r % 64) (by omega)
  have e3 := and1 (wordAt X (r / 64) / 2 ^ (r % 64)) (Nat.lt_of_le_of_lt (Nat.div_le_self _ _) hz)
  have hb := word_has X r
  generalize wordAt X (r / 64) = z at *
  generalize z / 2 ^ (r % 64) = y at *
  have i0 : (0 : Int) ≤ (r : Int) / 64 := by omega
  have i1 : (r : Int) / 64 < (W : Int) := by omega
  have i2 : ((r : Int) / 64).toNat = r / 64 := by omega
  have e4 : (((y % 2 : Nat) : Int) == 1) = X.testBit r := by rw [← hb]; exact decide_eq_decide.2 (by omega)
  generalize hm : r % 64 = m at *
  generalize hp : y % 2 = p at *
  clear hz hb hm hp
  go_enter Tryd.func28, Tryd.ntmps28
  go_wp2_with fail
  go_returns
  exact ⟨rfl, rfl⟩
set_option maxHeartbeats 1600000 in
theorem sadd_any (w : World) (g X W r : Nat) (h : WdAt w g X W) (hr : r < 64 * W) (hW : W ≤ 100000) :
    Calls Tryd.prog 46 #[wv g W, .int .i64 r] w fun e w' => e = .returned (.tuple #[]) ∧ WdAt w' g (addB X r) W ∧ Keeps (fun q => q = g) w w' := by
  have hc := h.cell (k := r / 64) (by omega)
  have hf := h.frozen (r / 64)
  have e1 := and63 r (by omega)
  have hz := word_lt X (r / 64)
  have e2 := shl_u64 (r % 64) (by omega)
  have e3 := u64_or_nat (wordAt X (r / 64)) (2 ^ (r % 64)) hz (p64 _ (by omega))
  have HP := Lib.hid (h.put (ws_add X r W))
  rw [word_add] at e3
  generalize wordAt X (r / 64) = z at *
  generalize wordAt (addB X r) (r / 64) = y at *
  generalize 2 ^ (r % 64) = q at *
  have i0 : (0 : Int) ≤ (r : Int) / 64 := by omega
  have i1 : (r : Int) / 64 < (W : Int) := by omega
  have i2 : ((r : Int) / 64).toNat = r / 64 := by omega
  generalize hm : r % 64 = m at *
  clear hz hm h
  go_enter Tryd.func46, Tryd.ntmps46
  go_wp2_with fail
  go_returns
  exact ⟨rfl, HP.out, (Keeps.refl (fun q => q = g) w).setCell (.inl rfl) _⟩
set_option maxHeartbeats 1600000 in
theorem sdrop_any (w : World) (g X W r : Nat) (h : WdAt w g X W) (hr : r < 64 * W) (hW : W ≤ 100000) :
    Calls Tryd.prog 44 #[wv g W, .int .i64 r] w fun e w' => e = .returned (.tuple #[]) ∧ WdAt w' g (dropB X r) W ∧ Keeps (fun q => q = g) w w' := by
  have hc := h.cell (k := r / 64) (by omega)
  have hf := h.frozen (r / 64)
  have e1 := and63 r (by omega)
  have hz := word_lt X (r / 64)
  have e2 := shl_u64 (r % 64) (by omega)
  have e3 := u64_andNot_nat (wordAt X (r / 64)) (2 ^ (r % 64)) hz (p64 _ (by omega))
  have HP := Lib.hid (h.put (ws_drop X r W))
  rw [word_drop] at e3
  generalize wordAt X (r / 64) = z at *
  generalize wordAt (dropB X r) (r / 64) = y at *
  generalize 2 ^ (r % 64) = q at *
  have i0 : (0 : Int) ≤ (r : Int) / 64 := by omega
  have i1 : (r : Int) / 64 < (W : Int) := by omega
  have i2 : ((r : Int) / 64).toNat = r / 64 := by omega
  generalize hm : r % 64 = m at *
  clear hz hm h
  go_enter Tryd.func44, Tryd.ntmps44
  go_wp2_with fail
  go_returns
  exact ⟨rfl, HP.out, (Keeps.refl (fun q => q = g) w).setCell (.inl rfl) _⟩
theorem infoU : (Tryd.prog.info? 81).map (fun i => (i.zero, i.size, i.bytes)) = some (some (.int .u64 0), 1, 8) := by kernel_rfl
/-- How many words a set of registers below R takes. -/
def wordsOf (R : Nat) : Nat := (R + 63) / 64
theorem own_full {w : World} {B g n : Nat} {e : TypeId} {xs : List Value} (h : w.ownsRow B e 1 (.slice (some ⟨g, 0, none⟩) n n) n xs) : w.heap[g]? = some (.cells xs.toArray e (0, 0)) := by
  rcases h.2 with ⟨h1, _⟩ | ⟨g', cap, cur, h1, _, h3, _, _, h4, h5⟩
  · cases h1
  · injection h1 with e1 e2 e3
    injection e1 with e1
    injection e1 with e1 _ _
    subst e1; subst e3
    have : cur = xs.toArray := by rw [← h5, List.take_of_length_le (by simp [h4])]
    rw [h3, this]
set_option maxHeartbeats 1600000 in
theorem snew_any (w : World) (R : Nat) (hR : R ≤ 100000) :
    Calls Tryd.prog 41 #[.int .i64 R] w fun e w' => e = .returned (wv w.heap.size (wordsOf R)) ∧ WdAt w' w.heap.size 0 (wordsOf R) ∧ Keeps No w w' := by
  obtain ⟨i1, hi1, z1, z2, z3⟩ := info_parts infoU
  have HIS := Lib.hid (And.intro hi1 (And.intro z1 (And.intro z2 z3)))
  clear hi1 z1 z2 z3
  have em : max (R : Int) 0 = (R : Int) := by omega
  have e2 : ((R : Int) + 63).tdiv 64 = ((wordsOf R : Nat) : Int) := by rw [Int.tdiv_eq_ediv_of_nonneg (by omega)]; unfold wordsOf; omega
  have hw : wordsOf R ≤ 100000 := by unfold wordsOf; omega
  generalize wordsOf R = W at *
  have HB : Hid (w.heap.size ≤ w.heap.size) := Lib.hid (Nat.le_refl _)
  go_enter Tryd.func41, Tryd.ntmps41
  go_wp2_with (at_make; refine wpList_make_full _ rfl _ _ 66 rfl w.heap.size 81 i1 _ 1 Tryd.underlying66 HIS.out.1 HIS.out.2.1 HIS.out.2.2.1 .i64 .i64 (W : Int) (W : Int) W rfl rfl rfl rfl (by rw [HIS.out.2.2.2]; omega) (by unfold maxLen; omega) HB.out ?_)
  intro w2 ho2 hg2
  have HW : Hid (WdAt w2 w.heap.size 0 W) := Lib.hid (by
    have h := ho2
    rw [toList_madeCells_one] at h
    unfold WdAt
    rw [own_full h, ws_zero])
  have HK : Hid (Keeps No w w2) := Lib.hid ((Keeps.refl _ _).grown hg2 (fun q e => by cases e))
  clear ho2 hg2
  go_wp2_with fail
  go_returns
  exact ⟨rfl, HW.out, HK.out⟩
theorem mix_word {X Y W i : Nat} {row : List Value} (h : row = (ws (X ||| Y) W).take i ++ (ws X W).drop i) (hi : i < W) :
    row.set i (.int .u64 (wordAt (X ||| Y) i : Nat)) = (ws (X ||| Y) W).take (i + 1) ++ (ws X W).drop (i + 1) := by
  subst h
  have l1 : ((ws (X ||| Y) W).take i).length = i := by rw [List.length_take, ws_len]; omega
  rw [List.set_append_right _ _ (by omega), l1, Nat.sub_self]
  obtain ⟨h1, h2⟩ := List.getElem?_eq_some_iff.1 (ws_get (X := X) hi)
  obtain ⟨h3, h4⟩ := List.getElem?_eq_some_iff.1 (ws_get (X := X ||| Y) hi)
  rw [List.drop_eq_getElem_cons h1, List.set_cons_zero, List.take_succ_eq_append_getElem h3, h4, List.append_assoc]; rfl
theorem more_iff {X Y W : Nat} (hX : X < 2 ^ (64 * W)) (hY : Y < 2 ^ (64 * W)) : (∀ k, k < W → (wordAt Y k &&& (18446744073709551615 - wordAt X k)) = 0) ↔ X ||| Y = X := by
  have bit : ∀ k j, k < W → j < 64 → (wordAt Y k &&& (18446744073709551615 - wordAt X k)).testBit j = (Y.testBit (64 * k + j) && !X.testBit (64 * k + j)) := fun k j hk hj => by
    have e : 18446744073709551615 - wordAt X k = 2 ^ 64 - (wordAt X k + 1) := by omega
    rw [Nat.testBit_and, e, Nat.testBit_two_pow_sub_succ (word_lt X k), tb_word, tb_word, decide_eq_true hj]
    simp
  constructor
  · intro h
    refine Sub.or_eq fun j hj => ?_
    by_cases hjW : j < 64 * W
    · have h1 := bit (j / 64) (j % 64) (by omega) (by omega)
      rw [h _ (by omega), Nat.zero_testBit, show 64 * (j / 64) + j % 64 = j by omega, hj, Bool.true_and] at h1
      cases hx : X.testBit j with
      | true => rfl
      | false => rw [hx] at h1; cases h1
    · rw [out_bit hY (by omega)] at hj; cases hj
  · intro h k hk
    refine Nat.eq_of_testBit_eq fun j => ?_
    rw [Nat.zero_testBit]
    by_cases hj : j < 64
    · rw [bit k j hk hj]
      cases hy : Y.testBit (64 * k + j) with
      | false => rfl
      | true =>
        have := sub_or_right X Y _ hy
        rw [h] at this
        rw [this]; rfl
    · rw [Nat.testBit_and, tb_word, decide_eq_false hj]; rfl
set_option maxHeartbeats 3200000 in
theorem sjoin_any (w : World) (g q X Y W : Nat) (h : WdAt w g X W) (h2 : WdAt w q Y W) (hne : q ≠ g) (hW : W ≤ 100000) (hX : X < 2 ^ (64 * W)) (hY : Y < 2 ^ (64 * W)) :
    Calls Tryd.prog 56 #[wv g W, wv q W] w fun e w' => e = .returned (.bool (decide (X ||| Y ≠ X))) ∧ WdAt w' g (X ||| Y) W ∧ Keeps (fun k => k = g) w w' := by
  have HH := Lib.hid h
  have HQ := Lib.hid h2
  clear h h2
  go_enter Tryd.func56, Tryd.ntmps56
  go_wp2_with fail
  go_loopg [5, 10] W (fun k v m wr => ∃ i mm : Nat, v = .int .u64 (mm : Int) ∧ mm < 18446744073709551616 ∧ m = .int .i64 (i : Int) ∧ i ≤ W ∧ k = W - i ∧ Hid (mm = 0 ↔ ∀ k, k < i → (wordAt Y k &&& (18446744073709551615 - wordAt X k)) = 0) ∧ Hid (wr.heap[g]? = some (.cells ((ws (X ||| Y) W).take i ++ (ws X W).drop i).toArray 81 (0, 0))) ∧ Hid (Keeps (fun k => k = g) w wr))
  case atStart => exact ⟨0, 0, rfl, by decide, rfl, Nat.zero_le _, rfl, Lib.hid ⟨fun _ k hk => absurd hk (by omega), fun _ => rfl⟩, Lib.hid HH.out, Lib.hid (Keeps.refl _ _)⟩
  case round =>
    obtain ⟨i, mm, rfl, hmm, rfl, hi, hg, HM, HR, HK⟩ := hrel
    by_cases hlt : i < W
    · have hlt' : (i : Int) < (W : Int) := by omega
      have i0 : (0 : Int) ≤ (i : Int) := by omega
      have hx := word_lt X i
      have hy := word_lt Y i
      have hcg : wr.cell? ⟨g, i, none⟩ = some (.int .u64 (wordAt X i : Nat)) := by
        rw [cell_of_row wr g _ _ _ _ HR.out, List.getElem?_toArray, List.getElem?_append_right (by rw [List.length_take, ws_len]; omega), List.getElem?_drop, List.length_take, ws_len, show i + (i - min i W) = i by omega]
        exact ws_get hlt
      have hfg : wr.frozen? ⟨g, i, none⟩ = false := frozen_of_row wr g i _ _ HR.out
      have hcq : wr.cell? ⟨q, i, none⟩ = some (.int .u64 (wordAt Y i : Nat)) := HK.out.cell (HQ.out.cell hlt) hne
      have ea := u64_andNot_nat (wordAt Y i) (wordAt X i) hy hx
      have hd : wordAt Y i &&& (18446744073709551615 - wordAt X i) < 18446744073709551616 := Nat.lt_of_le_of_lt Nat.and_le_left hy
      have eo := u64_or_nat mm (wordAt Y i &&& (18446744073709551615 - wordAt X i)) hmm hd
      have ex := u64_or_nat (wordAt X i) (wordAt Y i) hx hy
      rw [word_or] at ex
      have HR2 : Hid ((wr.setCell ⟨g, i, none⟩ (.int .u64 (wordAt (X ||| Y) i : Nat))).heap[g]? = some (.cells ((ws (X ||| Y) W).take (i + 1) ++ (ws X W).drop (i + 1)).toArray 81 (0, 0))) := Lib.hid (by
        rw [heap_setCell_same wr g i _ _ _ HR.out, ← mix_word rfl hlt]; simp)
      have HM2 : Hid ((mm ||| (wordAt Y i &&& (18446744073709551615 - wordAt X i))) = 0 ↔ ∀ k, k < i + 1 → (wordAt Y k &&& (18446744073709551615 - wordAt X k)) = 0) := Lib.hid (by
        rw [Nat.or_eq_zero_iff, HM.out]
        exact ⟨fun h k hk => by
          by_cases e : k = i
          · subst e; exact h.2
          · exact h.1 k (by omega), fun h => ⟨fun k hk => h k (by omega), h i (by omega)⟩⟩)
      have hd2 : mm ||| (wordAt Y i &&& (18446744073709551615 - wordAt X i)) < 18446744073709551616 := Nat.or_lt_two_pow (n := 64) hmm hd
      have HK2 : Hid (Keeps (fun k => k = g) w (wr.setCell ⟨g, i, none⟩ (.int .u64 (wordAt (X ||| Y) i : Nat)))) := Lib.hid (HK.out.setCell (.inl rfl) _)
      generalize wordAt (X ||| Y) i = z at *
      generalize wordAt Y i &&& (18446744073709551615 - wordAt X i) = d at *
      generalize mm ||| d = d2 at *
      generalize wordAt X i = x at *
      generalize wordAt Y i = y at *
      clear hx hy hd HM HK HR hX hY
      go_wp2_with fail
      go_roundg (W - (i + 1))
      case rel => exact ⟨i + 1, d2, rfl, hd2, by go_num, by omega, rfl, HM2, HR2, HK2⟩
      case measure => omega
    · obtain rfl : i = W := by omega
      have hlt' : ¬ (i : Int) < (i : Int) := by omega
      have HF : Hid (((mm : Int) != 0) = !decide (X ||| Y = X)) := Lib.hid (by
        have := HM.out.trans (more_iff hX hY)
        show (!((mm : Int) == 0)) = _
        congr 1
        exact decide_eq_decide.2 (by rw [← this]; omega))
      go_wp2_with fail
      go_returns
      refine ⟨rb rfl HF.out, ?_, HK.out⟩
      have h := HR.out
      rw [List.take_of_length_le (by rw [ws_len]; omega), List.drop_eq_nil_of_le (by rw [ws_len]; omega), List.append_nil] at h
      exact h
end Go.Proofs.YtpjilcfmcbapcaaDoor
/- The lowest bit of a word; what a set's registers are, word by word. -/
namespace Go.Proofs.YtpjilcfmcbapcaaDoor
open Go.RowKit
set_option linter.unusedVariables false
set_option linter.unusedSimpArgs false

def dbt : List Nat := [0, 1, 56, 2, 57, 49, 28, 3, 61, 58, 42, 50, 38, 29, 17, 4, 62, 47, 59, 36, 45, 43, 51, 22, 53, 39, 33, 30, 24, 18, 12, 5, 63, 55, 48, 27, 60, 41, 37, 16, 46, 35, 44, 21, 52, 32, 23, 11, 54, 26, 40, 15, 34, 20, 31, 10, 25, 14, 19, 9, 13, 8, 7, 6]
structure LaidT (w : World) : Prop where
  blk : 0 < w.heap.size
  cell : ∀ (k v : Nat), dbt[k]? = some v → w.cell? ⟨0, k, none⟩ = some (.int .u8 (v : Int))
theorem LaidT.keep {S : Nat → Prop} {w w' : World} (h : LaidT w) (hk : Keeps S w w') (hS : ¬ S 0) : LaidT w' :=
  ⟨Nat.lt_of_lt_of_le h.blk hk.size, fun k v hv => hk.cell (h.cell k v hv) hS⟩
theorem odd_part : ∀ (v : Nat), v ≠ 0 → ∃ t q, v = 2 ^ t * (2 * q + 1) := by
  intro v
  induction v using Nat.strongRecOn with
  | ind v ih =>
    intro h
    by_cases ho : v % 2 = 1
    · exact ⟨0, v / 2, by rw [Nat.pow_zero, Nat.one_mul]; omega⟩
    · obtain ⟨t, q, e⟩ := ih (v / 2) (by omega) (by omega)
      refine ⟨t + 1, q, ?_⟩
      have hv : v = 2 * (v / 2) := by omega
      rw [Nat.pow_succ, Nat.mul_comm (2 ^ t) 2, Nat.mul_assoc, ← e]
      exact hv
theorem tb_mul (t m j : Nat) : (2 ^ t * m).testBit j = (decide (t ≤ j) && m.testBit (j - t)) := Nat.testBit_two_pow_mul ..
theorem odd_zero (q : Nat) : (2 * q + 1).testBit 0 = true := by rw [Nat.testBit_zero]; simp
theorem odd_succ (q i : Nat) : (2 * q + 1).testBit (i + 1) = q.testBit i := by rw [Nat.testBit_succ]; congr 1; omega
theorem odd_lt {t q : Nat} (h : 2 ^ t * (2 * q + 1) < 2 ^ 64) : t < 64 := by
  by_cases ht : t < 64
  · exact ht
  · have h1 : 2 ^ 64 ≤ 2 ^ t := Nat.pow_le_pow_right (by decide) (by omega)
    have h2 : 2 ^ t ≤ 2 ^ t * (2 * q + 1) := Nat.le_mul_of_pos_right _ (by omega)
    omega
theorem and_neg {t q : Nat} (h : 2 ^ t * (2 * q + 1) < 2 ^ 64) : 2 ^ t * (2 * q + 1) &&& (18446744073709551616 - 2 ^ t * (2 * q + 1)) = 2 ^ t := by
  have ht := odd_lt h
  have e64 : (18446744073709551616 : Nat) = 2 ^ t * 2 ^ (64 - t) := by rw [← Nat.pow_add, show t + (64 - t) = 64 by omega]
  obtain ⟨m, hm⟩ : ∃ m, 64 - t = m + 1 := ⟨63 - t, by omega⟩
  have hq : 2 * q + 1 < 2 ^ (m + 1) := by
    rw [hm] at e64
    have h3 : 2 ^ t * (2 * q + 1) < 2 ^ t * 2 ^ (m + 1) := by rw [← e64]; exact h
    exact Nat.lt_of_mul_lt_mul_left h3
  have hq2 : q < 2 ^ m := by rw [Nat.pow_succ] at hq; omega
  have e : 18446744073709551616 - 2 ^ t * (2 * q + 1) = 2 ^ t * (2 * (2 ^ m - (q + 1)) + 1) := by
    rw [e64, hm, ← Nat.mul_sub]
    congr 1
    rw [Nat.pow_succ] at *; omega
  rw [e]
  refine Nat.eq_of_testBit_eq fun j => ?_
  rw [Nat.testBit_and, tb_mul, tb_mul, Nat.testBit_two_pow]
  by_cases hj : t ≤ j
  · rw [decide_eq_true hj, Bool.true_and, Bool.true_and]
    cases hd : j - t with
    | zero => rw [odd_zero, odd_zero, decide_eq_true (by omega)]; rfl
    | succ i =>
      rw [odd_succ, odd_succ, Nat.testBit_two_pow_sub_succ hq2, decide_eq_false (show ¬ t = j by omega)]
      cases q.testBit i <;> simp
  · rw [decide_eq_false hj, decide_eq_false (by omega)]; rfl
theorem tb_pred (t q j : Nat) : (2 ^ t * (2 * q + 1) &&& (2 ^ t * (2 * q + 1) - 1)).testBit j = ((2 ^ t * (2 * q + 1)).testBit j && !decide (t = j)) := by
  have hp : 0 < 2 ^ t := Nat.pow_pos (by decide)
  have e : 2 ^ t * (2 * q + 1) - 1 = 2 ^ t * (2 * q) + (2 ^ t - 1) := by rw [Nat.mul_add, Nat.mul_one]; omega
  rw [Nat.testBit_and, e, Nat.testBit_two_pow_mul_add _ (by omega), tb_mul]
  by_cases hj : t ≤ j
  · rw [decide_eq_true hj, Bool.true_and, if_neg (by omega)]
    cases hd : j - t with
    | zero => rw [odd_zero, decide_eq_true (by omega), Nat.testBit_zero]; simp
    | succ i => rw [odd_succ, decide_eq_false (by omega), Nat.testBit_succ, show 2 * q / 2 = q by omega]; simp
  · rw [decide_eq_false hj]; rfl
/-- The bits of a word, rising. -/
def bitsL (v : Nat) : List Nat := (List.range 64).filter v.testBit
theorem bits_step {t q : Nat} (h : 2 ^ t * (2 * q + 1) < 2 ^ 64) : bitsL (2 ^ t * (2 * q + 1)) = t :: bitsL (2 ^ t * (2 * q + 1) &&& (2 ^ t * (2 * q + 1) - 1)) := by
  have ht := odd_lt h
  obtain ⟨m, hm⟩ : ∃ m, 64 - t = m + 1 := ⟨63 - t, by omega⟩
  have hr : List.range 64 = List.range' 0 t ++ (t :: List.range' (t + 1) m) := by
    rw [List.range_eq_range', ← List.range'_succ, show (64 : Nat) = t + (m + 1) by omega, ← List.range'_append_1, Nat.zero_add]
  unfold bitsL
  rw [hr, List.filter_append, List.filter_append, List.filter_cons, List.filter_cons]
  have z : ∀ (v : Nat), (∀ j, j < t → v.testBit j = false) → (List.range' 0 t).filter v.testBit = [] := fun v hv => by
    rw [List.filter_eq_nil_iff]
    intro j hj
    rw [List.mem_range'_1] at hj
    rw [hv j (by omega)]; simp
  have hv : ∀ j, j < t → (2 ^ t * (2 * q + 1)).testBit j = false := fun j hj => by rw [tb_mul, decide_eq_false (by omega), Bool.false_and]
  have ht1 : (2 ^ t * (2 * q + 1)).testBit t = true := by rw [tb_mul, decide_eq_true (Nat.le_refl t), Nat.sub_self, odd_zero]; rfl
  rw [z _ hv, z _ (fun j hj => by rw [tb_pred, hv j hj, Bool.false_and]), if_pos ht1, if_neg (by rw [tb_pred, ht1]; simp), List.nil_append, List.nil_append]
  congr 1
  refine List.filter_congr fun j hj => ?_
  rw [List.mem_range'_1] at hj
  rw [tb_pred, decide_eq_false (by omega)]; simp
theorem bits_zero : bitsL 0 = [] := by decide
def bitsAt (k v : Nat) : List Int := (bitsL v).map (fun j => ((64 * k + j : Nat) : Int))
theorem listB_word (X k : Nat) : listB X (64 * (k + 1)) = listB X (64 * k) ++ bitsAt k (wordAt X k) := by
  unfold listB bitsAt bitsL
  rw [show 64 * (k + 1) = 64 * k + 64 by omega, List.range_add, List.filter_append, List.map_append, List.filter_map, List.map_map]
  congr 1
  have : (List.range 64).filter (X.testBit ∘ fun x => 64 * k + x) = (List.range 64).filter (wordAt X k).testBit := by
    refine List.filter_congr fun j hj => ?_
    rw [List.mem_range] at hj
    rw [tb_word, decide_eq_true hj, Bool.true_and]; rfl
  rw [this]; rfl
theorem listB_more {X R : Nat} (h : X < 2 ^ R) (S : Nat) (hS : R ≤ S) : listB X S = listB X R := by
  obtain ⟨d, rfl⟩ : ∃ d, S = R + d := ⟨S - R, by omega⟩
  unfold listB
  rw [List.range_add, List.filter_append, List.map_append]
  have : ((List.range d).map (fun x => R + x)).filter X.testBit = [] := by
    rw [List.filter_eq_nil_iff]
    intro j hj
    rw [List.mem_map] at hj
    obtain ⟨i, _, rfl⟩ := hj
    rw [out_bit h (by omega)]; simp
  rw [this]; simp
theorem listB_len (X R : Nat) : (listB X R).length ≤ R := by
  unfold listB; rw [List.length_map]
  exact Nat.le_trans (List.length_filter_le _ _) (by rw [List.length_range]; exact Nat.le_refl _)
theorem dbt_all : ∀ t, t < 64 → dbt[(2 ^ t * 285870213051353865) % 18446744073709551616 / 2 ^ 58]? = some t := by decide
theorem tz_math (t q : Nat) (h : 2 ^ t * (2 * q + 1) < 2 ^ 64) : ∃ m k p : Nat, dbt[k]? = some t ∧ k < 64 ∧ bits .and .u64 ((2 ^ t * (2 * q + 1) : Nat) : Int) ((18446744073709551616 - 2 ^ t * (2 * q + 1) : Nat) : Int) = (p : Int) ∧ IntKind.u64.wrap ((p : Int) * 285870213051353865) = (m : Int) ∧ Op.shift .shr .u64 (m : Int) .u64 58 = pure (.int .u64 (k : Int)) := by
  have ht := odd_lt h
  have hv0 : 0 < 2 ^ t * (2 * q + 1) := Nat.mul_pos (Nat.pow_pos (by decide)) (by omega)
  have e2 := u64_and_nat (2 ^ t * (2 * q + 1)) (18446744073709551616 - 2 ^ t * (2 * q + 1)) h (Nat.sub_lt (by decide) hv0)
  rw [and_neg h] at e2
  refine ⟨2 ^ t * 285870213051353865 % 18446744073709551616, 2 ^ t * 285870213051353865 % 18446744073709551616 / 2 ^ 58, 2 ^ t, dbt_all t ht, ?_, e2, ?_, shr_u64 _ 58 (by decide)⟩
  · exact Nat.div_lt_of_lt_mul (Nat.lt_of_lt_of_le (Nat.mod_lt _ (by decide)) (by decide))
  · generalize 2 ^ t = p
    rw [IntKind.wrap_u64]
    omega
set_option maxHeartbeats 1600000 in
theorem tz_any (w : World) (hw : LaidT w) (t q : Nat) (h : 2 ^ t * (2 * q + 1) < 2 ^ 64) :
    Calls Tryd.prog 61 #[.int .u64 ((2 ^ t * (2 * q + 1) : Nat) : Int)] w fun e w' => e = .returned (.int .i64 t) ∧ w' = w := by
  obtain ⟨m, k, p, hd, hk, e2, e3, e4⟩ := tz_math t q h
  have hv0 : 0 < 2 ^ t * (2 * q + 1) := Nat.mul_pos (Nat.pow_pos (by decide)) (by omega)
  have hc := hw.cell _ _ hd
  have ht := odd_lt h
  generalize 2 ^ t * (2 * q + 1) = v at *
  have e0 : ((v : Int) == 0) = false := beq_eq_false_iff_ne.2 (by omega)
  have e1 : IntKind.u64.wrap (-(v : Int)) = ((18446744073709551616 - v : Nat) : Int) := by rw [IntKind.wrap_u64]; omega
  have i1 : (k : Int) < 64 := by omega
  have i0 : (0 : Int) ≤ (k : Int) := by omega
  generalize 18446744073709551616 - v = u at *
  clear hd hv0 hw h
  go_enter Tryd.func61, Tryd.ntmps61
  go_wp2_with fail
  go_returns
  exact ⟨rfl, rfl⟩
end Go.Proofs.YtpjilcfmcbapcaaDoor
/- span.Set: Each, List. -/
namespace Go.Proofs.YtpjilcfmcbapcaaDoor
open Go.RowKit
set_option linter.unusedVariables false
set_option linter.unusedSimpArgs false

theorem bitsAt_step {t q : Nat} (k : Nat) (h : 2 ^ t * (2 * q + 1) < 2 ^ 64) : bitsAt k (2 ^ t * (2 * q + 1)) = ((64 * k + t : Nat) : Int) :: bitsAt k (2 ^ t * (2 * q + 1) &&& (2 ^ t * (2 * q + 1) - 1)) := by
  unfold bitsAt; rw [bits_step h]; rfl
set_option maxHeartbeats 3200000 in
/-- Each register of a set is shown, rising. -/
theorem each_any (w : World) (F : FuncId) (caps : Array Value) (g X W : Nat) (J : List Int → World → Prop) (hF : ∀ (as' : Array Value) (W1 : World), (callFunc F as').run Tryd.prog W1 = .ok (.enter F as') W1) (hW : W ≤ 100000) (hX : J [] w) (hJW : ∀ l w1, J l w1 → WdAt w1 g X W ∧ LaidT w1)
    (hcall : ∀ (l : List Int) (r : Nat) (w1 : World), J l w1 → X.testBit r = true → r < 64 * W → l.length < 64 * W → Calls Tryd.prog F (#[.int .i64 (r : Int)] ++ caps) w1 fun e w2 => e = .returned (.tuple #[]) ∧ J (l ++ [(r : Int)]) w2) :
    Calls Tryd.prog 47 #[wv g W, .func (.func F) #[] caps] w fun e w' => e = .returned (.tuple #[]) ∧ J (listB X (64 * W)) w' := by
  have HJ := Lib.hid hX
  have HW := Lib.hid hJW
  have HC := Lib.hid hcall
  clear hX hJW hcall
  go_enter Tryd.func47, Tryd.ntmps47
  go_wp2_with fail
  go_loopg [8] W (fun k m wr => ∃ i : Nat, m = .int .i64 (i : Int) ∧ i ≤ W ∧ k = W - i ∧ Hid (J (listB X (64 * i)) wr))
  case atStart => exact ⟨0, rfl, Nat.zero_le _, rfl, Lib.hid (by rw [Nat.mul_zero]; exact HJ.out)⟩
  case round =>
    obtain ⟨i, rfl, hi, hg, HR⟩ := hrel
    by_cases hlt : i < W
    · have hlt' : (i : Int) < (W : Int) := by omega
      have i0 : (0 : Int) ≤ (i : Int) := by omega
      have hc := (HW.out _ _ HR.out).1.cell hlt
      have HV : Hid (Sub (wordAt X i) (wordAt X i) ∧ listB X (64 * i) ++ bitsAt i (wordAt X i) = listB X (64 * (i + 1))) := Lib.hid ⟨Sub.refl _, (listB_word X i).symm⟩
      have hv0 := word_lt X i
      have HS : Hid (∀ v, Sub v (wordAt X i) → ∀ t, v.testBit t = true → X.testBit (64 * i + t) = true) := Lib.hid (fun v hv t h => by
        have h1 := hv t h
        rw [tb_word, Bool.and_eq_true] at h1
        exact h1.2)
      obtain ⟨l0, hl0⟩ : ∃ l, listB X (64 * i) = l := ⟨_, rfl⟩
      rw [hl0] at HR HV
      obtain ⟨v0, hv⟩ : ∃ v, wordAt X i = v := ⟨_, rfl⟩
      rw [hv] at hc HV hv0 HS
      clear hl0 hv
      go_wp2_with fail
      obtain ⟨wA, rfl⟩ : ∃ W', W' = wr := ⟨_, rfl⟩
      go_loopg [5] v0 (fun k m wr => ∃ v : Nat, ∃ l : List Int, m = .int .u64 (v : Int) ∧ v < 18446744073709551616 ∧ k = v ∧ Hid (Sub v v0 ∧ l ++ bitsAt i v = listB X (64 * (i + 1))) ∧ Hid (J l wr))
      case atStart => exact ⟨v0, l0, rfl, hv0, rfl, HV, HR⟩
      case round =>
        obtain ⟨v, l, rfl, hvl, hg2, HV2, HR2⟩ := hrel
        by_cases hz : v = 0
        · subst hz
          go_wp2_with fail
          go_roundg (W - (i + 1))
          case rel => exact ⟨i + 1, by go_num, by omega, rfl, Lib.hid (by
            have h := HV2.out.2
            rw [show bitsAt i 0 = [] by unfold bitsAt; rw [bits_zero]; rfl, List.append_nil] at h
            rw [← h]; exact HR2.out)⟩
          case measure => omega
        · obtain ⟨t, q, e⟩ := odd_part v hz
          have ht : t < 64 := by rw [e] at hvl; exact odd_lt hvl
          have hb1 : bitsAt i v = ((64 * i + t : Nat) : Int) :: bitsAt i (v &&& (v - 1)) := by rw [e] at hvl ⊢; exact bitsAt_step i hvl
          have htz := Lib.hid (fun (W1 : World) (h : LaidT W1) => tz_any W1 h t q (by rw [e] at hvl; exact hvl))
          rw [← e] at htz
          have hvt : v.testBit t = true := by rw [e, tb_mul, decide_eq_true (Nat.le_refl t), Nat.sub_self, odd_zero]; rfl
          have HT : Hid (X.testBit (64 * i + t) = true) := Lib.hid (HS.out v HV2.out.1 t hvt)
          have hle : v &&& (v - 1) ≤ v - 1 := Nat.and_le_right
          have e1 : IntKind.u64.wrap ((v : Int) - 1) = ((v - 1 : Nat) : Int) := by rw [IntKind.wrap_u64]; omega
          have e2 := u64_and_nat v (v - 1) hvl (by omega)
          have e3 : ((v : Int) != 0) = true := bne_iff_ne.2 (by omega)
          have HV3 : Hid (Sub (v &&& (v - 1)) v0 ∧ (l ++ [((64 * i + t : Nat) : Int)]) ++ bitsAt i (v &&& (v - 1)) = listB X (64 * (i + 1))) := Lib.hid ⟨fun j hj => HV2.out.1 j (by rw [Nat.testBit_and, Bool.and_eq_true] at hj; exact hj.1), by
            rw [List.append_assoc, List.singleton_append, ← hb1]; exact HV2.out.2⟩
          obtain ⟨v2, hv2⟩ : ∃ x, v &&& (v - 1) = x := ⟨_, rfl⟩
          rw [hv2] at hle e2 HV3
          obtain ⟨v1, hv1⟩ : ∃ x, v - 1 = x := ⟨_, rfl⟩
          rw [hv1] at hle e1 e2
          have hlt2 : v2 < v := by omega
          obtain ⟨r, hr⟩ : ∃ r, 64 * i + t = r := ⟨_, rfl⟩
          rw [hr] at HT HV3
          have HL : l.length < 64 * W := by
            have h := congrArg List.length HV3.out.2
            have h2 := listB_len X (64 * (i + 1))
            rw [List.length_append, List.length_append, List.length_singleton] at h
            omega
          have HCC := Lib.hid (HC.out l r _ HR2.out HT.out (by omega) HL)
          clear HL
          have en : (64 : Int) * (i : Int) + (t : Int) = (r : Int) := by omega
          clear hr
          clear hv2 hv1 hle hb1 e hvt HV2 HV
          have HTL := (HW.out _ _ HR2.out).2
          have HTL2 := Lib.hid HTL
          clear HTL
          go_wp2_with fail
          refine (htz.out _ HTL2.out).mono ?_
          rintro e w1 ⟨rfl, rfl⟩
          go_wp2_with fail
          refine Calls.mono HCC.out ?_
          rintro e w2 ⟨rfl, hj2⟩
          have HJ2 := Lib.hid hj2
          clear hj2 HCC HTL2 HR2
          go_wp2_with fail
          go_roundg v2
          case rel => exact ⟨v2, l ++ [(r : Int)], rfl, by omega, rfl, HV3, HJ2⟩
          case measure => omega
    · obtain rfl : i = W := by omega
      have hlt' : ¬ (i : Int) < (i : Int) := by omega
      go_wp2_with fail
      go_returns
      exact ⟨rfl, HR.out⟩
/-- What List's cell holds. -/
structure LJ (w : World) (c : Nat) (l : List Int) (w1 : World) : Prop where
  ex : ∃ v, w1.heap[c]? = some (.cells #[v] 22 (0, 0)) ∧ w1.ownsRow (c + 1) 3 1 v l.length (irow l)
  k : Keeps No w w1
theorem own_lo {w : World} {B z n : Nat} {e : TypeId} {v : Value} {xs : List Value} (h : w.ownsRow B e z v n xs) : ∀ q, v.ownBlock = some q → B ≤ q := by
  intro q hq
  rcases h.2 with ⟨rfl, _⟩ | ⟨g, cap, cur, rfl, hB, _⟩
  · cases hq
  · injection hq with hq; subst hq; exact hB
theorem own_far0 {w : World} {B z n : Nat} {e : TypeId} {v : Value} {xs : List Value} (h : w.ownsRow B e z v n xs) {c : Nat} (hc : c < B) : v.ownBlock ≠ some c := fun e => by
  have := own_lo h c e; omega
set_option maxHeartbeats 1600000 in
theorem list1_any (w : World) (c : Nat) (hc : w.heap.size ≤ c) (l : List Int) (r : Nat) (w1 : World) (h : LJ w c l w1) (hl : l.length ≤ 999999) :
    Calls Tryd.prog 48 (#[.int .i64 (r : Int)] ++ #[.pointer (some ⟨c, 0, none⟩)]) w1 fun e w2 => e = .returned (.tuple #[]) ∧ LJ w c (l ++ [(r : Int)]) w2 := by
  obtain ⟨⟨v, hv, ho⟩, hk⟩ := h
  have hcv : w1.cell? ⟨c, 0, none⟩ = some v := by rw [cell_of_row w1 c 0 _ _ _ hv]; rfl
  have hcs : c < w1.heap.size := (Array.getElem?_eq_some_iff.1 hv).1
  have HV := Lib.hid hv
  have HO := Lib.hid ho
  have HK := Lib.hid hk
  clear hv ho hk
  have hcf : w1.frozen? ⟨c, 0, none⟩ = false := frozen_of_row w1 c 0 _ _ HV.out
  change Calls Tryd.prog 48 #[.int .i64 (r : Int), .pointer (some ⟨c, 0, none⟩)] w1 _
  go_enter Tryd.func48, Tryd.ntmps48
  go_wp2_with (at_builtin; refine wpList_appI _ rfl (.tmp 3) (.tmp 5) 22 rfl Tryd.underlying22 (c + 1) v l.length l (r : Int) w1.heap.size rfl (HO.out.alloc _) rfl (heap_alloc_new _ _) (by omega) (by simp; omega) ?_)
  intro g2 cap2 w2 ho2 hg2
  have hvo : v.ownBlock ≠ some c := own_far0 HO.out (by omega)
  have hk2 : Keeps (fun q => v.ownBlock = some q) w1 w2 := ((Keeps.refl _ _).alloc _).grown hg2 (fun q e => .inl e)
  have hr2 : w2.heap[c]? = some (.cells #[v] 22 (0, 0)) := (hk2.block c hcs hvo).trans HV.out
  have c2 : w2.cell? ⟨c, 0, none⟩ = some v := by rw [cell_of_row w2 c 0 _ _ _ hr2]; rfl
  have f2 : w2.frozen? ⟨c, 0, none⟩ = false := frozen_of_row w2 c 0 _ _ hr2
  have HJ : Hid (LJ w c (l ++ [(r : Int)]) (w2.setCell ⟨c, 0, none⟩ (.slice (some ⟨g2, 0, none⟩) (l.length + 1) cap2))) := Lib.hid ⟨⟨_, by
      rw [heap_setCell_same w2 c 0 _ _ _ hr2]; rfl, by
      rw [List.length_append, List.length_singleton]
      have hb := own_lo ho2
      exact own_kept ho2 (fun q hq => Below.heap_setCell _ _ _ _ (fun e => by
        have := hb q hq; simp only at e; omega))⟩,
    (HK.out.trans hk2 (fun k hk e => own_far0 HO.out (Nat.lt_succ_of_lt (Nat.lt_of_lt_of_le hk hc)) e)).setCell (.inr hc) _⟩
  clear ho2 hg2 hk2 hr2
  go_wp2_with fail
  go_returns
  exact ⟨rfl, HJ.out⟩
set_option maxHeartbeats 3200000 in
theorem list_any (w : World) (g X W : Nat) (hW : W ≤ 10000) (h : WdAt w g X W) (ht : LaidT w) :
    Calls Tryd.prog 31 #[wv g W] w fun e w' => ∃ v, e = .returned v ∧ Own w w' v (listB X (64 * W)) := by
  have HH := Lib.hid h
  have HT := Lib.hid ht
  clear h ht
  have HE := Lib.hid (each_any (w.alloc (.cells #[.slice none 0 0] 22)) 48 #[.pointer (some ⟨w.heap.size, 0, none⟩)] g X W (LJ w w.heap.size) (fun _ _ => rfl) (by omega)
    ⟨⟨_, heap_alloc_new _ _, World.ownsRow_nil _ _ _ _⟩, (Keeps.refl _ _).alloc _⟩ (fun l w1 hj => ⟨HH.out.keep hj.k (fun e => e), HT.out.keep hj.k (fun e => e)⟩)
    (fun l r w1 hj _ _ hl => list1_any w _ (Nat.le_refl _) l r w1 hj (by omega)))
  go_enter Tryd.func31, Tryd.ntmps31
  go_wp2_with fail
  refine HE.out.mono ?_
  rintro e w1 ⟨rfl, ⟨v, hv, ho⟩, hk⟩
  have hcv : w1.cell? ⟨w.heap.size, 0, none⟩ = some v := by rw [cell_of_row w1 _ 0 _ _ _ hv]; rfl
  have HO := Lib.hid ho
  have HK := Lib.hid hk
  clear ho hk hv
  go_wp2_with fail
  go_returns
  exact ⟨v, rfl, own_mono HO.out (by omega), HK.out⟩
end Go.Proofs.YtpjilcfmcbapcaaDoor
