/- A world that is another one but for some blocks ('Keeps'), and worlds of such a class. -/
import Derived.Test.YtkiimljdoebclaaDoorBase
import Derived.Deep.QuietTactic
import Derived.Laws.OwnMore
import Derived.Laws.Tables
namespace Go.Proofs.YtkiimljdoebclaaDoor
open Go.RowKit
set_option linter.unusedVariables false
set_option linter.unusedSimpArgs false

/-- w' is w, but for blocks of S, and new ones. -/
structure Keeps (S : Nat → Prop) (w w' : World) : Prop where
  os : w'.os = w.os
  tape : w'.tape = w.tape
  output : w'.output = w.output
  size : w.heap.size ≤ w'.heap.size
  block : ∀ k, k < w.heap.size → ¬ S k → w'.heap[k]? = w.heap[k]?
section
variable {S T : Nat → Prop} {a b c : World}
theorem Keeps.refl (S : Nat → Prop) (w : World) : Keeps S w w := ⟨rfl, rfl, rfl, Nat.le_refl _, fun _ _ _ => rfl⟩
theorem Keeps.mono (h : Keeps S a b) (hs : ∀ k, k < a.heap.size → S k → T k) : Keeps T a b := ⟨h.os, h.tape, h.output, h.size, fun k hk hn => h.block k hk (fun e => hn (hs k hk e))⟩
theorem Keeps.trans (h : Keeps S a b) (g : Keeps T b c) (hs : ∀ k, k < a.heap.size → T k → S k) : Keeps S a c :=
  ⟨g.os.trans h.os, g.tape.trans h.tape, g.output.trans h.output, Nat.le_trans h.size g.size, fun k hk hn => (g.block k (Nat.lt_of_lt_of_le hk h.size) (fun e => hn (hs k hk e))).trans (h.block k hk hn)⟩
theorem Keeps.alloc (h : Keeps S a b) (o : Obj) : Keeps S a (b.alloc o) :=
  ⟨h.os, h.tape, h.output, by have := h.size; simp; omega, fun k hk hn => (Below.heap_alloc b o k (Nat.lt_of_lt_of_le hk h.size)).trans (h.block k hk hn)⟩
theorem Keeps.setCell (h : Keeps S a b) {p : Addr} (hp : S p.block ∨ a.heap.size ≤ p.block) (u : Value) : Keeps S a (b.setCell p u) :=
  ⟨h.os, h.tape, h.output, by have := h.size; simpa [World.setCell] using this, fun k hk hn => (Below.heap_setCell _ _ _ _ (fun e => by subst e; rcases hp with hp | hp; exact hn hp; omega)).trans (h.block k hk hn)⟩
theorem Keeps.drew (h : Keeps S a b) : Keeps S a b.drew := ⟨h.os, h.tape, h.output, h.size, h.block⟩
theorem Keeps.drewN (h : Keeps S a b) (n : Nat) : Keeps S a (b.drewN n) := ⟨h.os, h.tape, h.output, h.size, h.block⟩
theorem Keeps.below (h : Keeps S a b) {B : Nat} (hB : B ≤ a.heap.size) (hs : ∀ k, S k → B ≤ k) : Below B a b :=
  ⟨h.os, h.tape, h.output, h.size, fun k hk => h.block k (by omega) (fun e => by have := hs k e; omega)⟩
end
/-- Nothing. -/
abbrev No : Nat → Prop := fun _ => False
structure KW (w0 : World) where
  W : World
  h : Keeps No w0 W
section
variable {w0 : World}
theorem KW.cell (u : KW w0) {p : Addr} {v : Value} (h : w0.cell? p = some v) : u.W.cell? p = some v := by
  have hb := u.h.block p.block (World.block_lt_of_cell? w0 p h) (fun e => e)
  unfold World.cell? at h ⊢
  rw [hb]; exact h
theorem KW.frozen (u : KW w0) {p : Addr} (hp : p.block < w0.heap.size) (h : w0.frozen? p = false) : u.W.frozen? p = false := by
  have hb := u.h.block p.block hp (fun e => e)
  unfold World.frozen? at h ⊢
  rw [hb]; exact h
def KW.of (w0 : World) : KW w0 := ⟨w0, Keeps.refl _ _⟩
theorem kw_call (u : KW w0) {F : FuncId} {args : Array Value} {v : Value}
    (h : Calls Tryd.prog F args u.W fun e w' => e = .returned v ∧ Keeps No u.W w') : Calls Tryd.prog F args u.W fun e w'' => e = .returned v ∧ ∃ m : KW w0, w'' = m.W :=
  h.mono fun e w' ⟨he, hg⟩ => ⟨he, ⟨w', u.h.trans hg (fun _ _ e => e)⟩, rfl⟩
theorem wp_region_class {P : Program} {C : World → Prop} {id : Nat} {Q : Exit → Act → World → Prop} {a : Act} {w : World} {l : List Oper} (hm : P.follows .mixedOrders = true) (hB : Region.lexB .any l.toArray = true) (hC : C { w with drawn := w.drawn + 1 })
    (h : wpQuiet P l.toArray C (fun a' => ∀ w', C w' → Q .normal a' w') l a) : (Code.region id l.toArray true).wp P Q a w :=
  wp_region_quiet hm hB hC h
theorem kw_region {P : Program} {id : Nat} {Q : Exit → Act → World → Prop} {a : Act} {w : World} {l : List Oper} (hm : P.follows .mixedOrders = true) (hB : Region.lexB .any l.toArray = true)
    (h : wpQuiet P l.toArray (fun W => ∃ u : KW w, W = u.W) (fun a' => ∀ w', (∃ u : KW w, w' = u.W) → Q .normal a' w') l a) : (Code.region id l.toArray true).wp P Q a w :=
  wp_region_class hm hB ⟨⟨w.drew, (Keeps.refl _ _).drew⟩, rfl⟩ h
end
theorem Keeps.cell {S : Nat → Prop} {a b : World} (hg : Keeps S a b) {p : Addr} {v : Value} (h : a.cell? p = some v) (hp : ¬ S p.block) : b.cell? p = some v := by
  have hb := hg.block p.block (World.block_lt_of_cell? a p h) hp
  unfold World.cell? at h ⊢; rw [hb]; exact h
theorem Keeps.cell0 {a b : World} (hg : Keeps No a b) {p : Addr} {v : Value} (h : a.cell? p = some v) : b.cell? p = some v := hg.cell h (fun e => e)
theorem Keeps.grown {S : Nat → Prop} {a b c : World} {row : Option Nat} (h : Keeps S a b) (hg : b.grownBy c row) (hrow : ∀ q, row = some q → S q ∨ a.heap.size ≤ q) : Keeps S a c :=
  ⟨hg.os.trans h.os, hg.tape.trans h.tape, hg.output.trans h.output, Nat.le_trans h.size hg.size, fun k hk hn => (hg.block k (Nat.lt_of_lt_of_le hk h.size) (fun e => by rcases hrow k e.symm with e | e; exact hn e; omega)).trans (h.block k hk hn)⟩
theorem Keeps.setRow {a w : World} {S : Nat → Prop} (h : Keeps S a w) {g : Nat} (hg : S g ∨ a.heap.size ≤ g) (cs : Array Value) : Keeps S a (w.setRow g cs) :=
  ⟨h.os, h.tape, h.output, by simpa using h.size, fun k hk hr => (setRow_other _ _ _ _ (fun e => by subst e; rcases hg with e | e; exact hr e; omega)).trans (h.block k hk hr)⟩
theorem Keeps.of_below {a b : World} (h : Below a.heap.size a b) : Keeps No a b := ⟨h.os, h.tape, h.output, h.size, fun k hk _ => h.block k hk⟩
theorem Keeps.of_gr {a b : World} (h : Gr a b) : Keeps No a b := Keeps.of_below h.b
theorem own_form {w : World} {B : Nat} {e : TypeId} {z n : Nat} {v : Value} {xs : List Value} (h : w.ownsRow B e z v n xs) : ∃ aa ca, v = .slice aa n ca ∧ (0 < n → ∃ g, aa = some ⟨g, 0, none⟩) := by
  rcases h.2 with ⟨h1, h2⟩ | ⟨g, cap, cur, h1, _⟩
  · exact ⟨none, 0, by rw [h2]; exact h1, fun h => by omega⟩
  · exact ⟨_, _, h1, fun _ => ⟨g, rfl⟩⟩
theorem own_kept {w w' : World} {B : Nat} {e : TypeId} {z n : Nat} {v : Value} {xs : List Value} (h : w.ownsRow B e z v n xs) (hk : ∀ q, v.ownBlock = some q → w'.heap[q]? = w.heap[q]?) : w'.ownsRow B e z v n xs := by
  refine ⟨h.1, ?_⟩
  rcases h.2 with h2 | ⟨g, cap, cur, h1, h2, h3, h4⟩
  · exact .inl h2
  · exact .inr ⟨g, cap, cur, h1, h2, (hk g (by rw [h1]; rfl)).trans h3, h4⟩
theorem own_mono {w : World} {base base' : Nat} {e : TypeId} {size : Nat} {v : Value} {n : Nat} {xs : List Value} (h : w.ownsRow base e size v n xs) (hb : base' ≤ base) : w.ownsRow base' e size v n xs :=
  ⟨h.1, h.2.imp id fun ⟨g, cap, cur, h1, h2, h3⟩ => ⟨g, cap, cur, h1, Nat.le_trans hb h2, h3⟩⟩
/-- A world that is w0 but for blocks of S, and new ones. -/
structure KS (S : Nat → Prop) (w0 : World) where
  W : World
  h : Keeps S w0 W
theorem KS.cell {S : Nat → Prop} {w0 : World} (u : KS S w0) {p : Addr} {v : Value} (h : w0.cell? p = some v) (hp : ¬ S p.block) : u.W.cell? p = some v := u.h.cell h hp
end Go.Proofs.YtkiimljdoebclaaDoor
