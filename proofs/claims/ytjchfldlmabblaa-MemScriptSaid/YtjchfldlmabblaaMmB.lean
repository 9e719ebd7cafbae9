/- The memory as a law sees it: what is seen of it, and what is none of it. -/
import Derived.Test.YtjchfldlmabblaaMmMemB
import Derived.Test.YtjchfldlmabblaaMmMemD
namespace Go.Proofs.Ytjchfldlmabblaa
open Go.RowKit Go.Maps
set_option linter.unusedVariables false

/-- A memory at m of which V is seen, which has made n blocks, all behind w0, none of which is one of X. -/
structure MemB (w0 w : World) (m : Nat) (V : View) (n : Nat) (X : Nat → Prop) : Prop where
  ex : ∃ S, MemAs w m S ∧ S.view = V ∧ S.made = n ∧ (∀ a, S.has a → w0.heap.size ≤ a ∧ ¬ X a)
  m0 : w0.heap.size ≤ m
  mX : ¬ X m
  XL : ∀ a, X a → a < w.heap.size
  below : Below w0.heap.size w0 w
section
variable {w0 w w' : World} {m n : Nat} {V : View} {X Y : Nat → Prop}
theorem Keeps.to_below {w0 a b : World} {S : Nat → Prop} (h : Below w0.heap.size w0 a) (k : Keeps S a b) (hS : ∀ q, S q → w0.heap.size ≤ q) : Below w0.heap.size w0 b :=
  h.trans ⟨k.os, k.tape, k.output, k.size, fun q hq => k.block q (by have := h.size; omega) (fun e => by have := hS q e; omega)⟩
theorem MemB.keep (h : MemB w0 w m V n X) (hk : Keeps No w w') (hY : ∀ a, Y a → X a ∨ (w.heap.size ≤ a ∧ a < w'.heap.size)) : MemB w0 w' m V n Y := by
  obtain ⟨S, hm, hv, hn, hs⟩ := h.ex
  refine ⟨⟨S, hm.no hk, hv, hn, fun a ha => ⟨(hs a ha).1, fun y => ?_⟩⟩, h.m0, fun y => ?_, fun a y => ?_, Keeps.to_below h.below hk (fun _ e => e.elim)⟩
  · rcases hY a y with e | e
    · exact (hs a ha).2 e
    · have := hm.st.lt ha; omega
  · rcases hY _ y with e | e
    · exact h.mX e
    · have := hm.lt; omega
  · rcases hY a y with e | e
    · exact Nat.lt_of_lt_of_le (h.XL a e) hk.size
    · exact e.2
theorem MemB.no (h : MemB w0 w m V n X) (hk : Keeps No w w') : MemB w0 w' m V n X := h.keep hk (fun a e => .inl e)
/-- Others write in their own blocks. -/
theorem MemB.others {F : Nat → Prop} (h : MemB w0 w m V n X) (hk : Keeps F w w') (hF : ∀ a, a < w.heap.size → F a → X a ∧ w0.heap.size ≤ a) (hY : ∀ a, Y a → X a ∨ (w.heap.size ≤ a ∧ a < w'.heap.size)) : MemB w0 w' m V n Y := by
  obtain ⟨S, hm, hv, hn, hs⟩ := h.ex
  have hb : ∀ a, a < w.heap.size → ¬ X a → w'.heap[a]? = w.heap[a]? := fun a ha hx => hk.block a ha (fun e => hx (hF a ha e).1)
  refine ⟨⟨S, ⟨(hb _ hm.lt h.mX).trans hm.a, hm.st.block (fun a ha => hb a (hm.st.lt ha) (hs a ha).2), hm.out⟩, hv, hn, fun a ha => ⟨(hs a ha).1, fun y => ?_⟩⟩, h.m0, fun y => ?_, fun a y => ?_, ?_⟩
  · rcases hY a y with e | e
    · exact (hs a ha).2 e
    · have := hm.st.lt ha; omega
  · rcases hY _ y with e | e
    · exact h.mX e
    · have := hm.lt; omega
  · rcases hY a y with e | e
    · exact Nat.lt_of_lt_of_le (h.XL a e) hk.size
    · exact e.2
  · exact h.below.trans ⟨hk.os, hk.tape, hk.output, hk.size, fun k hk' => hk.block k (Nat.lt_of_lt_of_le hk' h.below.size) (fun e => by have := (hF k (Nat.lt_of_lt_of_le hk' h.below.size) e).2; omega)⟩
theorem MemB.wrote {S S' : Sd} {V' : View} {n' : Nat} (h : MemB w0 w m V n X) (hm : MemAs w m S) (hs : ∀ a, S.has a → w0.heap.size ≤ a ∧ ¬ X a) (hm' : MemAs w' m S') (hv : S'.view = V') (hn : S'.made = n') (ha : ∀ a, S'.has a → S.has a ∨ w.heap.size ≤ a) (hk : Keeps S.has w w') :
    MemB w0 w' m V' n' X ∧ Keeps (fun a => ¬ X a ∧ w0.heap.size ≤ a) w w' := by
  refine ⟨⟨⟨S', hm', hv, hn, fun a e => ?_⟩, h.m0, h.mX, fun a e => Nat.lt_of_lt_of_le (h.XL a e) hk.size, Keeps.to_below h.below hk (fun q e => (hs q e).1)⟩, hk.mono (fun a _ e => ⟨(hs a e).2, (hs a e).1⟩)⟩
  rcases ha a e with e | e
  · exact hs a e
  · exact ⟨Nat.le_trans h.below.size e, fun x => by have := h.XL a x; omega⟩
end
section
variable {w0 w : World} {m n : Nat} {V : View} {X : Nat → Prop}
theorem mem_b (w : World) (X : Nat → Prop) (hX : ∀ a, X a → a < w.heap.size) :
    Calls Try.prog 7 #[] w fun e w' => ∃ m, e = .returned (.pointer (some ⟨m, 0, none⟩)) ∧ MemB w w' m (fun _ => none) 0 X ∧ Keeps No w w' :=
  (mnew_any w).mono fun e w' ⟨m, S, he, hm, hn, hv, hs, hg, hk⟩ => ⟨m, he, ⟨⟨S, hm, hv, hn, fun a ha => ⟨hs a ha, fun x => by have := hX a x; have := hs a ha; omega⟩⟩, hg, fun x => by have := hX m x; omega, fun a x => Nat.lt_of_lt_of_le (hX a x) hk.size, hk.below (Nat.le_refl _) (fun _ e => e.elim)⟩, hk⟩
theorem read_b (p : Vl) (t : ByteArray) (r : Vl × Bool) (hr : readV V p t = r) (h : MemB w0 w m V n X) (hp : vlOk p) (ht : t.size ≤ maxLen) :
    Calls Try.prog 16 #[.pointer (some ⟨m, 0, none⟩), va p, .string t] w fun e w' => e = .returned (.tuple #[va r.1, .bool r.2]) ∧ MemB w0 w' m V n X ∧ Keeps No w w' := by
  obtain ⟨S, hm, rfl, hn, hs⟩ := h.ex
  rw [← hr]
  exact (mread_any m S p t w hm hp ht).mono fun e w' ⟨he, hk⟩ => ⟨he, h.no hk, hk⟩
theorem move_b (p : Vl) (k : Int) (r : Vl × Bool) (hr : moveV V p k = r) (h : MemB w0 w m V n X) (hp : vlOk p) :
    Calls Try.prog 18 #[.pointer (some ⟨m, 0, none⟩), va p, .int .i64 k] w fun e w' => e = .returned (.tuple #[va r.1, .bool r.2]) ∧ MemB w0 w' m V n X ∧ Keeps No w w' := by
  obtain ⟨S, hm, rfl, hn, hs⟩ := h.ex
  rw [← hr]
  exact (mmove_any m S p k w hm hp).mono fun e w' ⟨he, hk⟩ => ⟨he, h.no hk, hk⟩
theorem less_b (p q : Vl) (r : Bool × Bool) (hr : lessV V p q = r) (h : MemB w0 w m V n X) (hp : vlOk p) (hq : vlOk q) :
    Calls Try.prog 20 #[.pointer (some ⟨m, 0, none⟩), va p, va q] w fun e w' => e = .returned (.tuple #[.bool r.1, .bool r.2]) ∧ MemB w0 w' m V n X ∧ Keeps No w w' := by
  obtain ⟨S, hm, rfl, hn, hs⟩ := h.ex
  rw [← hr]
  exact (mless_any m S p q w hm hp hq).mono fun e w' ⟨he, hk⟩ => ⟨he, h.no hk, hk⟩
theorem equal_b (p q : Vl) (r : Bool × Bool) (hr : equalV V p q = r) (h : MemB w0 w m V n X) (hp : vlOk p) (hq : vlOk q) :
    Calls Try.prog 22 #[.pointer (some ⟨m, 0, none⟩), va p, va q] w fun e w' => e = .returned (.tuple #[.bool r.1, .bool r.2]) ∧ MemB w0 w' m V n X ∧ Keeps No w w' := by
  obtain ⟨S, hm, rfl, hn, hs⟩ := h.ex
  rw [← hr]
  exact (mequal_any m S p q w hm hp hq).mono fun e w' ⟨he, hk⟩ => ⟨he, h.no hk, hk⟩
theorem dist_b (p q : Vl) (r : Int × Bool) (hr : distV V p q = r) (h : MemB w0 w m V n X) (hp : vlOk p) (hq : vlOk q) :
    Calls Try.prog 24 #[.pointer (some ⟨m, 0, none⟩), va p, va q] w fun e w' => e = .returned (.tuple #[.int .i64 r.1, .bool r.2]) ∧ MemB w0 w' m V n X ∧ Keeps No w w' := by
  obtain ⟨S, hm, rfl, hn, hs⟩ := h.ex
  rw [← hr]
  exact (mdist_any m S p q w hm hp hq).mono fun e w' ⟨he, hk⟩ => ⟨he, h.no hk, hk⟩
def sizeV (V : View) (b : Int) : Int := ((V b).map fun d => d.size).getD 0
theorem size_b (b r : Int) (hr : sizeV V b = r) (h : MemB w0 w m V n X) (hb : I64 b) :
    Calls Try.prog 27 #[.pointer (some ⟨m, 0, none⟩), .int .i64 b] w fun e w' => e = .returned (.int .i64 r) ∧ MemB w0 w' m V n X ∧ Keeps No w w' := by
  obtain ⟨S, hm, rfl, hn, hs⟩ := h.ex
  rw [← hr]
  exact (msize_any m S b w hm hb).mono fun e w' ⟨he, hk⟩ => ⟨he, h.no hk, hk⟩
theorem end_b (b : Int) (V' : View) (hV : delV V b = V') (h : MemB w0 w m V n X) (hb : I64 b) :
    Calls Try.prog 11 #[.pointer (some ⟨m, 0, none⟩), .int .i64 b] w fun e w' => e = .returned (.tuple #[]) ∧ MemB w0 w' m V' n X ∧ Keeps (fun a => ¬ X a ∧ w0.heap.size ≤ a) w w' := by
  obtain ⟨S, hm, rfl, hn, hs⟩ := h.ex
  rw [← hV]
  exact (mend_any m S b w hm hb).mono fun e w' ⟨he, S', hW⟩ => ⟨he, h.wrote hm hs (hm.wrote hW) hW.v (hW.made.trans hn) hW.has hW.k⟩
theorem write_b (p : Vl) (t : ByteArray) (x : Vl) (r : Bool) (V' : View) (hr : (cellV V p t).isSome = r) (hV : writeV V p t x = V') (h : MemB w0 w m V n X) (hp : vlOk p) (ht : t.size ≤ maxLen) :
    Calls Try.prog 13 #[.pointer (some ⟨m, 0, none⟩), va p, .string t, va x] w fun e w' => e = .returned (.bool r) ∧ MemB w0 w' m V' n X ∧ Keeps (fun a => ¬ X a ∧ w0.heap.size ≤ a) w w' := by
  obtain ⟨S, hm, rfl, hn, hs⟩ := h.ex
  rw [← hV, ← hr]
  exact (mwrite_any m S p t x w hm hp ht).mono fun e w' ⟨he, S', hW⟩ => ⟨he, h.wrote hm hs (hm.wrote hW) hW.v (hW.made.trans hn) hW.has hW.k⟩
theorem add_b (z R : Int) (hR : (n : Int) + 1 = R) (a : Option Addr) (k cap : Nat) (l : List Ck) (V' : View) (hV : setV V ((n : Int) + 1) (newV z (addM l [] [])) = V') (h : MemB w0 w m V n X) (hz : I64 z) (hl : CellsIn w a k l) (hk : k ≤ 1000) (hn : n < 1000000) :
    Calls Try.prog 9 #[.pointer (some ⟨m, 0, none⟩), .int .i64 z, .slice a k cap] w fun e w' => e = .returned (.int .i64 R) ∧ MemB w0 w' m V' (n + 1) X ∧ Keeps (fun a => ¬ X a ∧ w0.heap.size ≤ a) w w' := by
  obtain ⟨S, hm, rfl, rfl, hs⟩ := h.ex
  rw [← hV, ← hR]
  exact (madd_any m S z a k cap l w hm hz hl hk hn).mono fun e w' ⟨he, S', hW⟩ => ⟨he, h.wrote hm hs (hm.made hW) hW.v hW.made (fun a ha => by rcases hW.has a ha with e | e | e; exact .inl e; exact e.elim; exact .inr e) hW.k⟩
end
end Go.Proofs.Ytjchfldlmabblaa
