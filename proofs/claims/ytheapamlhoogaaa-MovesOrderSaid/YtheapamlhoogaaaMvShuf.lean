/- shuffle.Order: its contract, by what it makes. -/
import Derived.Test.YtheapamlhoogaaaMvDrain
namespace Go.Proofs.Ytheapamlhoogaaa
open Go.RowKit Go.Maps
set_option linter.unusedVariables false

/-- A move is appended, at the operation. -/
theorem wpList_app1 (w : World) {ops : Array Oper} {rest : List Oper} {o : Oper} {a : Act} {Q : Exit → Act → World → Prop} (hgd : o.guard = none) (s x : Operand) (t e : TypeId)
    (ho : o.op = .call { callee := .builtin .append, args := #[s, x], argTypes := #[t, t] }) (ht : Try.prog.underlying t = some (.slice e)) (hinf : (Try.prog.info? e).map (fun i => (i.zero, i.size, i.bytes)) = some (some (.agg #[.int .i64 0, .int .i64 0]), 2, 16))
    (B : Nat) (v : Value) (n : Nat) (l : List Mv.Pr) (T S : Int) (q : Nat) (hs : a.eval s = v) (hown : w.ownsRow B e 2 v n (mrow l)) (hx : a.eval x = .slice (some ⟨q, 0, none⟩) 1 1) (hq : w.heap[q]? = some (.cells #[.int .i64 T, .int .i64 S] e (0, 0)))
    (hn : n ≤ 1000000) (hB : B ≤ w.heap.size) (H : Nat) (hH : w.heap.size = H)
    (h : ∀ g cap w', w'.ownsRow B e 2 (.slice (some ⟨g, 0, none⟩) (n + 1) cap) (n + 1) (mrow l ++ [.int .i64 T, .int .i64 S]) → w.grownBy w' v.ownBlock → (v.ownBlock = some g ∨ g = H) → wpList Try.prog ops Q rest (a.put o.dst (.slice (some ⟨g, 0, none⟩) (n + 1) cap)) w') : wpList Try.prog ops Q (o :: rest) a w := by
  obtain ⟨i0, hi, hz0, hz1, hz2⟩ := info_parts hinf
  refine wpList_append_lies w hgd s x t ho B e i0 (.agg #[.int .i64 0, .int .i64 0]) 2 16 ht hi hz0 hz1 hz2 rfl (by decide) v n (mrow l) hs hown ⟨q, 0, none⟩ 1 1 [.int .i64 T, .int .i64 S] hx rfl ?_ ?_ (by decide) (by unfold maxLen; omega) (by omega) hB H hH (fun g cap w' k1 k2 k3 _ => h g cap w' k1 k2 k3)
  · intro j u hj
    match j, hj with
    | 0, hj => simp at hj; subst hj; simp [Addr.add, World.cell?, hq]
    | 1, hj => simp at hj; subst hj; simp [Addr.add, World.cell?, hq]
  · intro u hu; simp at hu; rcases hu with rfl | rfl <;> rfl
/-- The two maps alone. -/
structure Mp (B : Nat) (w0 : World) (al rl : List Mv.Pr) (wr : World) : Prop where
  f : wr.heap[B + 1]? = some (.cells #[.map (some B)] 44 (0, 0))
  r : wr.heap[B + 3]? = some (.cells #[.map (some (B + 2))] 44 (0, 0))
  mf : MapAs wr B al
  mr : MapAs wr (B + 2) rl
  below : Below B w0 wr
section
variable {B po q : Nat} {w0 wr w1 : World} {v v' : Value} {al rl ol al' : List Mv.Pr} {T S : Int}
theorem Mp.lt (h : Mp B w0 al rl wr) : B + 3 < wr.heap.size := (Array.getElem?_eq_some_iff.1 h.r).1
theorem Mp.facts (h : Mp B w0 al rl wr) : wr.cell? ⟨B + 1, 0, none⟩ = some (.map (some B)) ∧ wr.cell? ⟨B + 3, 0, none⟩ = some (.map (some (B + 2))) := by
  refine ⟨?_, ?_⟩ <;> simp [World.cell?, h.f, h.r]
theorem Mp.alloc (h : Mp B w0 al rl wr) (o : Obj) : Mp B w0 al rl (wr.alloc o) := by
  have hl := h.lt
  exact ⟨(Below.heap_alloc _ _ _ (by omega)).trans h.f, (Below.heap_alloc _ _ _ (by omega)).trans h.r, h.mf.alloc o, h.mr.alloc o, h.below.alloc (by omega) o⟩
theorem Mp.putF (h : Mp B w0 al rl wr) (hm : MapAs w1 B al') (hg : wr.grownBy w1 (some B)) : Mp B w0 al' rl w1 := by
  have hl := h.lt
  exact ⟨(hg.block _ (by omega) (fun e => by injection e; omega)).trans h.f, (hg.block _ (by omega) (fun e => by injection e; omega)).trans h.r, hm, h.mr.kept hg (fun e => by injection e; omega), h.below.grown hg (by omega) (fun q e => by cases e; exact Nat.le_refl _)⟩
theorem Mp.putR (h : Mp B w0 al rl wr) (hm : MapAs w1 (B + 2) al') (hg : wr.grownBy w1 (some (B + 2))) : Mp B w0 al al' w1 := by
  have hl := h.lt
  exact ⟨(hg.block _ (by omega) (fun e => by injection e; omega)).trans h.f, (hg.block _ (by omega) (fun e => by injection e; omega)).trans h.r, h.mf.kept hg (fun e => by injection e; omega), hm, h.below.grown hg (by omega) (fun q e => by cases e; omega)⟩
theorem Mp.made (w : World) : Mp w.heap.size w [] [] ((((w.alloc (.map #[] 0)).alloc (.cells #[.map (some w.heap.size)] 44)).alloc (.map #[] 0)).alloc (.cells #[.map (some (w.heap.size + 2))] 44)) := by
  have z1 : (w.alloc (.map #[] 0)).heap.size = w.heap.size + 1 := heap_two _ _
  have z2 : ((w.alloc (.map #[] 0)).alloc (.cells #[.map (some w.heap.size)] 44)).heap.size = w.heap.size + 2 := by rw [heap_two, heap_two]
  have z3 : (((w.alloc (.map #[] 0)).alloc (.cells #[.map (some w.heap.size)] 44)).alloc (.map #[] 0)).heap.size = w.heap.size + 3 := by rw [heap_two, heap_two, heap_two]
  have a1 := heap_alloc_new (w.alloc (.map #[] 0)) (.cells #[.map (some w.heap.size)] 44)
  have a3 := heap_alloc_new (((w.alloc (.map #[] 0)).alloc (.cells #[.map (some w.heap.size)] 44)).alloc (.map #[] 0)) (.cells #[.map (some (w.heap.size + 2))] 44)
  have a2 := MapAs.made ((w.alloc (.map #[] 0)).alloc (.cells #[.map (some w.heap.size)] 44))
  rw [z1] at a1
  rw [z2] at a2
  rw [z3] at a3
  refine ⟨?_, a3, (((MapAs.made w).alloc _).alloc _).alloc _, a2.alloc _, ((((Below.refl _ _).alloc (Nat.le_refl _) _).alloc (by omega) _).alloc (by omega) _).alloc (by omega) _⟩
  exact (Below.heap_alloc _ _ _ (by omega)).trans ((Below.heap_alloc _ _ _ (by omega)).trans a1)
theorem Mp.st (h : Mp B w0 al rl wr) : St B w0 wr.heap.size (.slice none 0 0) al rl [] (wr.alloc (.cells #[.slice none 0 0] 41)) := by
  have a := h.alloc (.cells #[.slice none 0 0] 41)
  have hl := h.lt
  exact ⟨a.f, a.r, heap_alloc_new wr _, a.mf, a.mr, World.ownsRow_nil _ _ _ _, by omega, a.below, fun t ht => by cases ht⟩
/-- .. and a move in a block of its own. -/
structure StM (B : Nat) (w0 : World) (po : Nat) (v : Value) (al rl ol : List Mv.Pr) (q : Nat) (T S : Int) (wr : World) : Prop where
  s : St B w0 po v al rl ol wr
  m : wr.heap[q]? = some (.cells #[.int .i64 T, .int .i64 S] 42 (0, 0))
  ne : v.ownBlock ≠ some q
  q4 : B + 4 ≤ q
  qp : q ≠ po
theorem StM.lt (h : StM B w0 po v al rl ol q T S wr) : q < wr.heap.size := (Array.getElem?_eq_some_iff.1 h.m).1
theorem StM.facts (h : StM B w0 po v al rl ol q T S wr) : wr.cell? ⟨q, 0, none⟩ = some (.int .i64 T) ∧ wr.cell? ⟨q, 1, none⟩ = some (.int .i64 S) := by
  refine ⟨?_, ?_⟩ <;> simp [World.cell?, h.m]
theorem St.withM (h : St B w0 po v al rl ol wr) (T S : Int) : StM B w0 po v al rl ol wr.heap.size T S (wr.alloc (.cells #[.int .i64 T, .int .i64 S] 42)) :=
  ⟨h.alloc _, heap_alloc_new wr _, fun e => by have := (h.own.lt _ e).2; omega, by have := h.lt; omega, by have := h.lt; omega⟩
theorem StM.alloc (h : StM B w0 po v al rl ol q T S wr) (o : Obj) : StM B w0 po v al rl ol q T S (wr.alloc o) := ⟨h.s.alloc o, (Below.heap_alloc _ _ _ h.lt).trans h.m, h.ne, h.q4, h.qp⟩
theorem StM.putF (h : StM B w0 po v al rl ol q T S wr) (hm : MapAs w1 B al') (hg : wr.grownBy w1 (some B)) : StM B w0 po v al' rl ol q T S w1 :=
  ⟨h.s.putF hm hg, (hg.block _ h.lt (fun e => by injection e with e; have := h.q4; omega)).trans h.m, h.ne, h.q4, h.qp⟩
theorem StM.app {o : Obj} {t : Mv.Pr} {g n cap : Nat} (h : StM B w0 po v al rl ol q T S wr) (hg : (wr.alloc o).grownBy w1 v.ownBlock) (hown : w1.ownsRow (B + 4) 42 2 (.slice (some ⟨g, 0, none⟩) n cap) (ol.length + 1) (mrow ol ++ [.int .i64 t.1, .int .i64 t.2])) (ht : I64 t.1 ∧ I64 t.2)
    (hat : v.ownBlock = some g ∨ g = wr.heap.size + 1) :
    StM B w0 po (.slice (some ⟨g, 0, none⟩) n cap) al rl (ol ++ [t]) q T S (w1.setCell ⟨po, 0, none⟩ (.slice (some ⟨g, 0, none⟩) n cap)) ∧ w1.cell? ⟨po, 0, none⟩ = some v ∧ w1.frozen? ⟨po, 0, none⟩ = false := by
  obtain ⟨k1, k2, k3⟩ := h.s.app hg hown ht
  have a := h.alloc o
  refine ⟨⟨k1, (Below.heap_setCell _ _ _ _ (by have := h.qp; show q ≠ po; exact this)).trans ((hg.block _ a.lt (fun e => h.ne e.symm)).trans a.m), ?_, h.q4, h.qp⟩, k2, k3⟩
  intro e
  have e' : g = q := by injection e
  rcases hat with hat | hat
  · exact h.ne (by rw [hat, e'])
  · have := h.lt; omega
end
end Go.Proofs.Ytheapamlhoogaaa
