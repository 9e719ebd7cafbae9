/- Two memories side by side, the program's and the document's. -/
import Derived.Test.YtjchfldlmabblaaMmRefK
import Derived.Test.YtjchfldlmabblaaMmActs
import Derived.Test.YtjchfldlmabblaaMmRefF
namespace Go.Proofs.Ytjchfldlmabblaa
open Go.RowKit Go.Maps
set_option linter.unusedVariables false
set_option linter.unusedSimpArgs false

/-- The program's at m, of which V is seen, n blocks made; the document's at r, of which U is seen, of k blocks; L: what is of neither. -/
structure Two (w0 w : World) (m r : Nat) (V : View) (n : Nat) (U : View) (k : Nat) (L : Nat → Prop) : Prop where
  ex : ∃ R : Rd, R.r = r ∧ RefAs w0.heap.size w R ∧ R.view = U ∧ R.bs.length = k ∧ (∀ a, R.has a → ¬ L a) ∧ MemB w0 w m V n (fun a => R.has a ∨ L a)
section
variable {w0 w w' : World} {m r n k : Nat} {V U : View} {L Y : Nat → Prop}
theorem Two.below (h : Two w0 w m r V n U k L) : Below w0.heap.size w0 w := by obtain ⟨R, _, _, _, _, _, hm⟩ := h.ex; exact hm.below
theorem Two.keep (h : Two w0 w m r V n U k L) (hk : Keeps No w w') (hY : ∀ a, Y a → L a ∨ (w.heap.size ≤ a ∧ a < w'.heap.size)) : Two w0 w' m r V n U k Y := by
  obtain ⟨R, h1, h2, h3, h4, h5, h6⟩ := h.ex
  refine ⟨R, h1, h2.no hk, h3, h4, fun a ha hy => ?_, h6.keep hk (fun a ha => ?_)⟩
  · rcases hY a hy with e | e
    · exact h5 a ha e
    · have := (h2.lt ha).2; omega
  · rcases ha with ha | ha
    · exact .inl (.inl ha)
    · rcases hY a ha with e | e
      · exact .inl (.inr e)
      · exact .inr e
theorem Two.no (h : Two w0 w m r V n U k L) (hk : Keeps No w w') : Two w0 w' m r V n U k L := h.keep hk (fun a e => .inl e)
/-- A law writes its own blocks. -/
theorem Two.own {F : Nat → Prop} (h : Two w0 w m r V n U k L) (hk : Keeps F w w') (hF : ∀ a, a < w.heap.size → F a → L a ∧ w0.heap.size ≤ a) (hY : ∀ a, Y a → L a ∨ (w.heap.size ≤ a ∧ a < w'.heap.size)) : Two w0 w' m r V n U k Y := by
  obtain ⟨R, h1, h2, h3, h4, h5, h6⟩ := h.ex
  refine ⟨R, h1, h2.block (fun q hq => hk.block q (h2.lt hq).2 (fun e => h5 q hq (hF q (h2.lt hq).2 e).1)), h3, h4, fun a ha hy => ?_, h6.others hk (fun a ha e => ⟨.inr (hF a ha e).1, (hF a ha e).2⟩) (fun a ha => ?_)⟩
  · rcases hY a hy with e | e
    · exact h5 a ha e
    · have := (h2.lt ha).2; omega
  · rcases ha with ha | ha
    · exact .inl (.inl ha)
    · rcases hY a ha with e | e
      · exact .inl (.inr e)
      · exact .inr e
/-- What a call on either leaves of the law's own. -/
abbrev Kp (w0 : World) (L : Nat → Prop) (w w' : World) : Prop := Keeps (fun a => ¬ L a ∧ w0.heap.size ≤ a) w w'
theorem Two.mem (h : Two w0 w m r V n U k L) {V' : View} {n' : Nat} (hX : ∀ X : Nat → Prop, MemB w0 w m V n X → MemB w0 w' m V' n' X ∧ Keeps (fun a => ¬ X a ∧ w0.heap.size ≤ a) w w') : Two w0 w' m r V' n' U k L ∧ Kp w0 L w w' := by
  obtain ⟨R, h1, h2, h3, h4, h5, h6⟩ := h.ex
  obtain ⟨g1, g2⟩ := hX _ h6
  exact ⟨⟨R, h1, h2.kept g2 (fun a ha e => e.1 (.inl ha)), h3, h4, h5, g1⟩, g2.mono (fun a _ e => ⟨fun hl => e.1 (.inr hl), e.2⟩)⟩
theorem Two.rdone (h : Two w0 w m r V n U k L) (hL : ∀ a, L a → a < w.heap.size) {R R' : Rd} {U' : View} {k' : Nat} (hr : R.r = r) (h2 : RefAs w0.heap.size w R) (h5 : ∀ a, R.has a → ¬ L a) (h6 : MemB w0 w m V n (fun a => R.has a ∨ L a)) (hd : RDone w0.heap.size w R U' k' w' R') : Two w0 w' m r V n U' k' L ∧ Kp w0 L w w' := by
  refine ⟨⟨R', hd.r.trans hr, hd.st, hd.v, hd.n, fun a ha hl => ?_, h6.others hd.k (fun a _ e => ⟨.inl e, (h2.lt e).1⟩) (fun a ha => ?_)⟩, hd.k.mono (fun a _ e => ⟨h5 a e, (h2.lt e).1⟩)⟩
  · rcases hd.has a ha with e | e
    · exact h5 a e hl
    · have := hL a hl; omega
  · rcases ha with ha | ha
    · rcases hd.has a ha with e | e
      · exact .inl (.inl e)
      · exact .inr ⟨e, (hd.st.lt ha).2⟩
    · exact .inl (.inr ha)
theorem Two.lt (h : Two w0 w m r V n U k L) : ∀ a, L a → a < w.heap.size := by
  obtain ⟨R, _, _, _, _, _, h6⟩ := h.ex
  exact fun a ha => h6.XL a (.inr ha)
end
section
variable {w0 w : World} {m r n k : Nat} {V U : View} {L : Nat → Prop}
theorem tread (h : Two w0 w m r V n U k L) (p : Vl) (t : ByteArray) (v : Vl × Bool) (hv : readV V p t = v) (hp : vlOk p) (ht : t.size ≤ maxLen) :
    Calls Try.prog 16 #[.pointer (some ⟨m, 0, none⟩), va p, .string t] w fun e w' => e = .returned (.tuple #[va v.1, .bool v.2]) ∧ Keeps No w w' := by
  obtain ⟨R, _, _, _, _, _, h6⟩ := h.ex
  exact (read_b p t v hv h6 hp ht).mono fun e w' ⟨a, _, b⟩ => ⟨a, b⟩
theorem tmove (h : Two w0 w m r V n U k L) (p : Vl) (j : Int) (v : Vl × Bool) (hv : moveV V p j = v) (hp : vlOk p) :
    Calls Try.prog 18 #[.pointer (some ⟨m, 0, none⟩), va p, .int .i64 j] w fun e w' => e = .returned (.tuple #[va v.1, .bool v.2]) ∧ Keeps No w w' := by
  obtain ⟨R, _, _, _, _, _, h6⟩ := h.ex
  exact (move_b p j v hv h6 hp).mono fun e w' ⟨a, _, b⟩ => ⟨a, b⟩
theorem tless (h : Two w0 w m r V n U k L) (p q : Vl) (v : Bool × Bool) (hv : lessV V p q = v) (hp : vlOk p) (hq : vlOk q) :
    Calls Try.prog 20 #[.pointer (some ⟨m, 0, none⟩), va p, va q] w fun e w' => e = .returned (.tuple #[.bool v.1, .bool v.2]) ∧ Keeps No w w' := by
  obtain ⟨R, _, _, _, _, _, h6⟩ := h.ex
  exact (less_b p q v hv h6 hp hq).mono fun e w' ⟨a, _, b⟩ => ⟨a, b⟩
theorem tequal (h : Two w0 w m r V n U k L) (p q : Vl) (v : Bool × Bool) (hv : equalV V p q = v) (hp : vlOk p) (hq : vlOk q) :
    Calls Try.prog 22 #[.pointer (some ⟨m, 0, none⟩), va p, va q] w fun e w' => e = .returned (.tuple #[.bool v.1, .bool v.2]) ∧ Keeps No w w' := by
  obtain ⟨R, _, _, _, _, _, h6⟩ := h.ex
  exact (equal_b p q v hv h6 hp hq).mono fun e w' ⟨a, _, b⟩ => ⟨a, b⟩
theorem tdist (h : Two w0 w m r V n U k L) (p q : Vl) (v : Int × Bool) (hv : distV V p q = v) (hp : vlOk p) (hq : vlOk q) :
    Calls Try.prog 24 #[.pointer (some ⟨m, 0, none⟩), va p, va q] w fun e w' => e = .returned (.tuple #[.int .i64 v.1, .bool v.2]) ∧ Keeps No w w' := by
  obtain ⟨R, _, _, _, _, _, h6⟩ := h.ex
  exact (dist_b p q v hv h6 hp hq).mono fun e w' ⟨a, _, b⟩ => ⟨a, b⟩
theorem tsize (h : Two w0 w m r V n U k L) (b z : Int) (hz : sizeV V b = z) (hb : I64 b) :
    Calls Try.prog 27 #[.pointer (some ⟨m, 0, none⟩), .int .i64 b] w fun e w' => e = .returned (.int .i64 z) ∧ Keeps No w w' := by
  obtain ⟨R, _, _, _, _, _, h6⟩ := h.ex
  exact (size_b b z hz h6 hb).mono fun e w' ⟨a, _, b⟩ => ⟨a, b⟩
theorem tread' (h : Two w0 w m r V n U k L) (p : Vl) (t : ByteArray) (v : Vl × Bool) (hv : readV U p t = v) :
    Calls Try.prog 17 #[.pointer (some ⟨r, 0, none⟩), va p, .string t] w fun e w' => e = .returned (.tuple #[va v.1, .bool v.2]) ∧ Keeps No w w' := by
  obtain ⟨R, rfl, h2, rfl, _, _, _⟩ := h.ex
  rw [← hv]; exact rread_any _ R p t w h2
theorem tmove' (h : Two w0 w m r V n U k L) (p : Vl) (j : Int) (v : Vl × Bool) (hv : moveV U p j = v) (hp : vlOk p) (hj : I64 j) :
    Calls Try.prog 19 #[.pointer (some ⟨r, 0, none⟩), va p, .int .i64 j] w fun e w' => e = .returned (.tuple #[va v.1, .bool v.2]) ∧ Keeps No w w' := by
  obtain ⟨R, rfl, h2, rfl, _, _, _⟩ := h.ex
  rw [← hv]; exact rmove_any _ R p j w h2 hp hj
theorem tless' (h : Two w0 w m r V n U k L) (p q : Vl) (v : Bool × Bool) (hv : lessV U p q = v) :
    Calls Try.prog 21 #[.pointer (some ⟨r, 0, none⟩), va p, va q] w fun e w' => e = .returned (.tuple #[.bool v.1, .bool v.2]) ∧ Keeps No w w' := by
  obtain ⟨R, rfl, h2, rfl, _, _, _⟩ := h.ex
  rw [← hv]; exact rless_any _ R p q w h2
theorem tequal' (h : Two w0 w m r V n U k L) (p q : Vl) (v : Bool × Bool) (hv : equalV U p q = v) :
    Calls Try.prog 23 #[.pointer (some ⟨r, 0, none⟩), va p, va q] w fun e w' => e = .returned (.tuple #[.bool v.1, .bool v.2]) ∧ Keeps No w w' := by
  obtain ⟨R, rfl, h2, rfl, _, _, _⟩ := h.ex
  rw [← hv]; exact requal_any _ R p q w h2
theorem tdist' (h : Two w0 w m r V n U k L) (p q : Vl) (v : Int × Bool) (hv : distV U p q = v) :
    Calls Try.prog 25 #[.pointer (some ⟨r, 0, none⟩), va p, va q] w fun e w' => e = .returned (.tuple #[.int .i64 v.1, .bool v.2]) ∧ Keeps No w w' := by
  obtain ⟨R, rfl, h2, rfl, _, _, _⟩ := h.ex
  rw [← hv]; exact rdist_any _ R p q w h2
theorem tthere' (h : Two w0 w m r V n U k L) (b : Int) (X : Bool) (hX : (U b).isSome = X) :
    Calls Try.prog 26 #[.pointer (some ⟨r, 0, none⟩), .int .i64 b] w fun e w' => e = .returned (.bool X) ∧ Keeps No w w' := by
  obtain ⟨R, rfl, h2, rfl, _, _, _⟩ := h.ex
  refine rthere_k _ R b X ?_ w w h2 (Keeps.refl _ _)
  rw [← hX]; unfold Rd.view; cases R.at b <;> rfl
/-- A block that is there, in memory. -/
theorem Two.at_ (h : Two w0 w m r V n U k L) {b : Int} {d : Bv} (hd : U b = some d) : ∃ (g i cap len : Nat), b = (i : Int) ∧ i < len ∧ w.cell? ⟨r, 0, none⟩ = some (.slice (some ⟨g, 0, none⟩) len cap) ∧ w.cell? ⟨g, i * 4, none⟩ = some (.int .i64 d.size) := by
  obtain ⟨R, rfl, h2, rfl, _, _, _⟩ := h.ex
  unfold Rd.view at hd
  cases hA : R.at b with
  | none => rw [hA] at hd; cases hd
  | some e =>
    rw [hA] at hd
    injection hd with hd
    subst hd
    obtain ⟨i, hi, _, hil, he, _⟩ := at_pos hA
    exact ⟨R.g, i, R.cap, R.bs.length, hi, hil, h2.c0, (h2.c he).1⟩
theorem tend (h : Two w0 w m r V n U k L) (b : Int) (V' : View) (hV : delV V b = V') (hb : I64 b) :
    Calls Try.prog 11 #[.pointer (some ⟨m, 0, none⟩), .int .i64 b] w fun e w' => e = .returned (.tuple #[]) ∧ Two w0 w' m r V' n U k L ∧ Kp w0 L w w' := by
  obtain ⟨R, h1, h2, h3, h4, h5, h6⟩ := h.ex
  refine (end_b b V' hV h6 hb).mono fun e w' ⟨a, g1, g2⟩ => ⟨a, ⟨R, h1, h2.kept g2 (fun a ha e => e.1 (.inl ha)), h3, h4, h5, g1⟩, g2.mono (fun a _ e => ⟨fun hl => e.1 (.inr hl), e.2⟩)⟩
theorem twrite (h : Two w0 w m r V n U k L) (p : Vl) (t : ByteArray) (x : Vl) (v : Bool) (V' : View) (hv : (cellV V p t).isSome = v) (hV : writeV V p t x = V') (hp : vlOk p) (ht : t.size ≤ maxLen) :
    Calls Try.prog 13 #[.pointer (some ⟨m, 0, none⟩), va p, .string t, va x] w fun e w' => e = .returned (.bool v) ∧ Two w0 w' m r V' n U k L ∧ Kp w0 L w w' := by
  obtain ⟨R, h1, h2, h3, h4, h5, h6⟩ := h.ex
  refine (write_b p t x v V' hv hV h6 hp ht).mono fun e w' ⟨a, g1, g2⟩ => ⟨a, ⟨R, h1, h2.kept g2 (fun a ha e => e.1 (.inl ha)), h3, h4, h5, g1⟩, g2.mono (fun a _ e => ⟨fun hl => e.1 (.inr hl), e.2⟩)⟩
theorem tadd (h : Two w0 w m r V n U k L) (z Z : Int) (hZ : (n : Int) + 1 = Z) (a : Option Addr) (j cap : Nat) (l : List Ck) (V' : View) (hV : setV V ((n : Int) + 1) (newV z (addM l [] [])) = V') (hz : I64 z) (hl : CellsIn w a j l) (hj : j ≤ 1000) (hn : n < 1000000) :
    Calls Try.prog 9 #[.pointer (some ⟨m, 0, none⟩), .int .i64 z, .slice a j cap] w fun e w' => e = .returned (.int .i64 Z) ∧ Two w0 w' m r V' (n + 1) U k L ∧ Kp w0 L w w' := by
  obtain ⟨R, h1, h2, h3, h4, h5, h6⟩ := h.ex
  refine (add_b z Z hZ a j cap l V' hV h6 hz hl hj hn).mono fun e w' ⟨a, g1, g2⟩ => ⟨a, ⟨R, h1, h2.kept g2 (fun a ha e => e.1 (.inl ha)), h3, h4, h5, g1⟩, g2.mono (fun a _ e => ⟨fun hl => e.1 (.inr hl), e.2⟩)⟩
theorem tend' (h : Two w0 w m r V n U k L) (b : Int) (U' : View) (hU : delV U b = U') :
    Calls Try.prog 12 #[.pointer (some ⟨r, 0, none⟩), .int .i64 b] w fun e w' => e = .returned (.tuple #[]) ∧ Two w0 w' m r V n U' k L ∧ Kp w0 L w w' := by
  have hL := h.lt
  have h0 := h
  obtain ⟨R, rfl, h2, rfl, rfl, h5, h6⟩ := h.ex
  rw [← hU]
  exact (rended_any _ R b w h2).mono fun e w' ⟨a, R', hd⟩ => ⟨a, h0.rdone hL rfl h2 h5 h6 hd⟩
theorem twrite' (h : Two w0 w m r V n U k L) (p : Vl) (t : ByteArray) (x : Vl) (v : Bool) (U' : View) (hv : (cellV U p t).isSome = v) (hU : writeV U p t x = U') :
    Calls Try.prog 14 #[.pointer (some ⟨r, 0, none⟩), va p, .string t, va x] w fun e w' => e = .returned (.bool v) ∧ Two w0 w' m r V n U' k L ∧ Kp w0 L w w' := by
  have hL := h.lt
  have h0 := h
  obtain ⟨R, rfl, h2, rfl, rfl, h5, h6⟩ := h.ex
  rw [← hU, ← hv]
  exact (rwrite_any _ R p t x w h2).mono fun e w' ⟨a, R', hd⟩ => ⟨a, h0.rdone hL rfl h2 h5 h6 hd⟩
theorem tadd' (h : Two w0 w m r V n U k L) (z Z : Int) (hZ : (k : Int) = Z) (a : Option Addr) (j cap : Nat) (l : List Ck) (U' : View) (hU : setV U (k : Int) (newV z (addM l [] [])) = U') (hz : I64 z) (hl : CellsIn w a j l) (hj : j ≤ 500) (hk : k < 1000) :
    Calls Try.prog 10 #[.pointer (some ⟨r, 0, none⟩), .int .i64 z, .slice a j cap] w fun e w' => e = .returned (.int .i64 Z) ∧ Two w0 w' m r V n U' (k + 1) L ∧ Kp w0 L w w' := by
  rw [← hZ]
  have hL := h.lt
  have h0 := h
  obtain ⟨R, rfl, h2, rfl, rfl, h5, h6⟩ := h.ex
  rw [← hU]
  exact (radd_any _ R z a j cap l w h2 hl hj hz hk).mono fun e w' ⟨a, R', hd⟩ => ⟨a, h0.rdone hL rfl h2 h5 h6 hd⟩
theorem tnew (h : MemB w0 w m V n (fun _ => False)) :
    Calls Try.prog 8 #[] w fun e w' => ∃ r, e = .returned (.pointer (some ⟨r, 0, none⟩)) ∧ Two w0 w' m r V n (fun _ => none) 1 (fun _ => False) ∧ Keeps No w w' := by
  refine (rnew_any w).mono ?_
  rintro e w' ⟨R, he, h1, h2, h3, h4, h5⟩
  refine ⟨R.r, he, ⟨R, rfl, ?_, h2, h3, fun a _ e => e, h.keep h5 (fun a ha => ?_)⟩, h5⟩
  · have hs := h.below.size
    refine ⟨h1.a, own_mono h1.o hs, fun i d hd => ?_, h1.n, Nat.le_trans hs h1.rB, h1.ts, h1.tb⟩
    have := h1.b i d hd
    exact ⟨own_mono this.co hs, own_mono this.vo hs, this.len, this.cl, this.ck, this.up, this.zl⟩
  · rcases ha with ha | ha
    · exact .inr ⟨h4 a ha, (h1.lt ha).2⟩
    · exact ha.elim
set_option maxRecDepth 100000 in
theorem of_m (p : Vl) (w : World) : Calls Try.prog 15 #[va p] w fun e w' => e = .returned (va p) ∧ Keeps No w w' := by
  obtain ⟨pk, pn, pb, po⟩ := p
  go_enter Try.func15, Try.ntmps15
  go_wp2_with fail
  have hc : ∀ j : Nat, ((w.alloc (.cells #[.int .i64 pk, .int .i64 pn, .int .i64 pb, .int .i64 po] 30)).alloc (.cells #[.int .i64 pk, .int .i64 pn, .int .i64 pb, .int .i64 po] 42)).cell? ⟨w.heap.size + 1, j, none⟩ = #[Value.int .i64 pk, .int .i64 pn, .int .i64 pb, .int .i64 po][j]? := fun j => by rw [World.cell?_alloc_at _ _ _ _ (by simp)]
  refine bodyPost_ret (v := .agg #[.int .i64 pk, .int .i64 pn, .int .i64 pb, .int .i64 po]) ?_ ?_ ⟨rfl, (by repeat (first | with_reducible exact Keeps.refl _ _ | with_reducible refine Keeps.alloc ?_ _ | with_reducible refine Keeps.drewN ?_ _ | with_reducible refine Keeps.drew ?_ | with_reducible refine Keeps.setCell ?_ (.inr (by simp)) _ | with_reducible refine Keeps.setRow ?_ (by simp) _))⟩
  · simp [results, Try.results15, go_sem, hc]
  · rfl
end
end Go.Proofs.Ytjchfldlmabblaa
