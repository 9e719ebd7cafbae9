/- The store of blocks: what it is in memory. -/
import Derived.Test.YtjchfldlmabblaaMmKinds
import Derived.BigQuiet
import Derived.Deep.QuietTactic
namespace Go.Proofs.Ytjchfldlmabblaa
open Go.RowKit Go.Maps
set_option linter.unusedVariables false

/-- w' is w, but for blocks of S, and new ones. -/
structure Keeps (S : Nat → Prop) (w w' : World) : Prop where
  os : w'.os = w.os
  tape : w'.tape = w.tape
  output : w'.output = w.output
  size : w.heap.size ≤ w'.heap.size
  block : ∀ k, k < w.heap.size → ¬ S k → w'.heap[k]? = w.heap[k]?
section
variable {S T : Nat → Prop} {a b c : World}
theorem Keeps.refl (S : Nat → Prop) (w : World) : Keeps S w w := ⟨rfl, rfl, rfl, Nat.le_refl _, fun _ _ _ => rfl⟩
theorem Keeps.mono (h : Keeps S a b) (hs : ∀ k, k < a.heap.size → S k → T k) : Keeps T a b := ⟨h.os, h.tape, h.output, h.size, fun k hk hn => h.block k hk (fun e => hn (hs k hk e))⟩
theorem Keeps.trans (h : Keeps S a b) (g : Keeps T b c) (hs : ∀ k, k < a.heap.size → T k → S k) : Keeps S a c :=
  ⟨g.os.trans h.os, g.tape.trans h.tape, g.output.trans h.output, Nat.le_trans h.size g.size, fun k hk hn => (g.block k (Nat.lt_of_lt_of_le hk h.size) (fun e => hn (hs k hk e))).trans (h.block k hk hn)⟩
theorem Keeps.alloc (h : Keeps S a b) (o : Obj) : Keeps S a (b.alloc o) :=
  ⟨h.os, h.tape, h.output, by have := h.size; simp; omega, fun k hk hn => (Below.heap_alloc b o k (Nat.lt_of_lt_of_le hk h.size)).trans (h.block k hk hn)⟩
theorem Keeps.setCell (h : Keeps S a b) {p : Addr} (hp : S p.block ∨ a.heap.size ≤ p.block) (u : Value) : Keeps S a (b.setCell p u) :=
  ⟨h.os, h.tape, h.output, by have := h.size; simpa [World.setCell] using this, fun k hk hn => (Below.heap_setCell _ _ _ _ (fun e => by subst e; rcases hp with hp | hp; exact hn hp; omega)).trans (h.block k hk hn)⟩
theorem Keeps.turned (h : Keeps S a b) {q : Nat} (hg : b.mapTurned c q) (hp : S q ∨ a.heap.size ≤ q) : Keeps S a c :=
  h.trans (T := fun k => k = q) ⟨hg.grown.os, hg.grown.tape, hg.grown.output, hg.grown.size, fun k hk hn => hg.grown.block k hk (fun e => hn (by injection e))⟩ (fun k hk e => by subst e; rcases hp with hp | hp; exact hp; omega)
theorem Keeps.drew (h : Keeps S a b) : Keeps S a b.drew := ⟨h.os, h.tape, h.output, h.size, h.block⟩
theorem Keeps.drewN (h : Keeps S a b) (n : Nat) : Keeps S a (b.drewN n) := ⟨h.os, h.tape, h.output, h.size, h.block⟩
theorem Keeps.below (h : Keeps S a b) {B : Nat} (hB : B ≤ a.heap.size) (hs : ∀ k, S k → B ≤ k) : Below B a b :=
  ⟨h.os, h.tape, h.output, h.size, fun k hk => h.block k (by omega) (fun e => by have := hs k e; omega)⟩
end
/-- Nothing. -/
abbrev No : Nat → Prop := fun _ => False
/-- A block: where it is, what it has. -/
structure Bk where
  kb : Nat
  lm : Nat
  hm : Option Nat
  size : Int
  cl : List (Ck × Int)
  wr : Bool
  f : Ck
  one : Vl
  held : List (Ck × Vl)
def Bk.cells (d : Bk) : Array Value :=
  #[.int .i64 d.size, .iface 76 (.agg #[.map (some d.lm)]), .bool d.wr, .int .i64 d.f.1, .string d.f.2, .int .i64 d.one.k, .int .i64 d.one.n, .int .i64 d.one.b, .int .i64 d.one.o, .map d.hm]
structure BlkAs (w : World) (d : Bk) : Prop where
  a : w.heap[d.kb]? = some (.cells d.cells 99 (0, 0))
  l : MapK mapCI w d.lm d.cl
  hn : d.hm = none → d.held = []
  hs : ∀ m, d.hm = some m → MapK mapCV w m d.held
  sz : 1 ≤ d.size ∧ d.size ≤ 9223372036854775807
  cll : d.cl.length ≤ 1000000
  sub : ∀ k, (kget d.held k).isSome = true → (kget d.cl k).isSome = true
  fo : d.wr = true → ckOk d.f
def Bk.has (d : Bk) (a : Nat) : Prop := a = d.kb ∨ a = d.lm ∨ d.hm = some a
theorem BlkAs.kept {w w' : World} {d : Bk} (h : BlkAs w d) (hb : ∀ a, d.has a → w'.heap[a]? = w.heap[a]?) : BlkAs w' d :=
  ⟨(hb _ (.inl rfl)).trans h.a, h.l.block (hb _ (.inr (.inl rfl))), h.hn, fun m e => (h.hs m e).block (hb _ (.inr (.inr e))), h.sz, h.cll, h.sub, h.fo⟩
theorem kget_sub {κ α β : Type} [DecidableEq κ] : ∀ (a : List (κ × α)) (b : List (κ × β)), KOnce a → KOnce b → (∀ k, (kget a k).isSome = true → (kget b k).isSome = true) → a.length ≤ b.length
  | [], b, _, _, _ => Nat.zero_le _
  | (x, y) :: a, b, ha, hb, h => by
    have hx := h x (by rw [kget_cons, if_pos rfl]; rfl)
    cases hz : kget b x with
    | none => rw [hz] at hx; cases hx
    | some z =>
      have hl := kdel_len_some hb hz
      have := kget_sub a (kdel b x) ha.2 (hb.del x) (fun k hk => by
        by_cases e : k = x
        · subst e; rw [ha.1] at hk; cases hk
        · rw [kget_del_other b e]; exact h k (by rw [kget_cons, if_neg (fun e' => e e'.symm)]; exact hk))
      simp; omega
theorem BlkAs.hl {w : World} {d : Bk} (h : BlkAs w d) : d.held.length ≤ 1000000 := by
  cases hm : d.hm with
  | none => rw [h.hn hm]; exact Nat.zero_le _
  | some m => exact Nat.le_trans (kget_sub _ _ (h.hs m hm).once h.l.once h.sub) h.cll
theorem BlkAs.lt {w : World} {d : Bk} (h : BlkAs w d) {a : Nat} (ha : d.has a) : a < w.heap.size := by
  rcases ha with rfl | rfl | e
  · exact (Array.getElem?_eq_some_iff.1 h.a).1
  · exact h.l.lt
  · exact (h.hs a e).lt
/-- A store: where it is, what it has; whose each place is. -/
structure Sd where
  s : Nat
  bm : Nat
  made : Nat
  bs : List (Int × Bk)
  tag : Nat → Int × Nat
def ptrs (l : List (Int × Bk)) : List (Int × Option Nat) := l.map fun p => (p.1, some p.2.kb)
theorem kget_ptrs (l : List (Int × Bk)) (k : Int) : kget (ptrs l) k = (kget l k).map fun d => some d.kb := by
  induction l with
  | nil => rfl
  | cons p l ih =>
    obtain ⟨x, d⟩ := p
    show kget ((x, some d.kb) :: ptrs l) k = _
    rw [kget_cons, kget_cons, ih]
    split <;> rfl
theorem kdel_ptrs (l : List (Int × Bk)) (k : Int) : kdel (ptrs l) k = ptrs (kdel l k) := by
  induction l with
  | nil => rfl
  | cons p l ih =>
    obtain ⟨x, d⟩ := p
    show kdel ((x, some d.kb) :: ptrs l) k = _
    rw [kdel, kdel, ih]
    split <;> rfl
theorem kput_ptrs (l : List (Int × Bk)) (k : Int) (d : Bk) : kput (ptrs l) k (some d.kb) = ptrs (kput l k d) := by
  rw [kput, kdel_ptrs]; rfl
def Sd.has (S : Sd) (a : Nat) : Prop := a = S.s ∨ a = S.bm ∨ ∃ k d, kget S.bs k = some d ∧ d.has a
structure StoreAs (w : World) (S : Sd) : Prop where
  a : w.heap[S.s]? = some (.cells #[.map (some S.bm), .int .i64 (S.made : Int)] 91 (0, 0))
  m : MapK mapIP w S.bm (ptrs S.bs)
  b : ∀ k d, kget S.bs k = some d → BlkAs w d ∧ 1 ≤ k ∧ k ≤ S.made
  mb : S.made ≤ 1000000
  ml : S.bs.length ≤ S.made
  ts : S.tag S.s = (0, 0) ∧ S.tag S.bm = (0, 1)
  tb : ∀ k d, kget S.bs k = some d → S.tag d.kb = (k, 2) ∧ S.tag d.lm = (k, 3) ∧ ∀ m, d.hm = some m → S.tag m = (k, 4)
section
variable {w w' : World} {S : Sd}
theorem StoreAs.lt (h : StoreAs w S) {a : Nat} (ha : S.has a) : a < w.heap.size := by
  rcases ha with rfl | rfl | ⟨k, d, h1, h2⟩
  · exact (Array.getElem?_eq_some_iff.1 h.a).1
  · exact h.m.lt
  · exact (h.b k d h1).1.lt h2
theorem StoreAs.block (h : StoreAs w S) (hb : ∀ a, S.has a → w'.heap[a]? = w.heap[a]?) : StoreAs w' S :=
  ⟨(hb _ (.inl rfl)).trans h.a, h.m.block (hb _ (.inr (.inl rfl))), fun k d e => ⟨(h.b k d e).1.kept (fun a ha => hb a (.inr (.inr ⟨k, d, e, ha⟩))), (h.b k d e).2⟩, h.mb, h.ml, h.ts, h.tb⟩
theorem StoreAs.kept {F : Nat → Prop} (h : StoreAs w S) (hk : Keeps F w w') (hF : ∀ a, S.has a → ¬ F a) : StoreAs w' S := h.block (fun a ha => hk.block a (h.lt ha) (hF a ha))
theorem StoreAs.no (h : StoreAs w S) (hk : Keeps No w w') : StoreAs w' S := h.kept hk (fun _ _ e => e)
theorem StoreAs.c0 (h : StoreAs w S) : w.cell? ⟨S.s, 0, none⟩ = some (.map (some S.bm)) := by simp [World.cell?, h.a]
theorem StoreAs.c1 (h : StoreAs w S) : w.cell? ⟨S.s, 1, none⟩ = some (.int .i64 (S.made : Int)) := by simp [World.cell?, h.a]
theorem StoreAs.f (h : StoreAs w S) (o : Nat) : w.frozen? ⟨S.s, o, none⟩ = false := by simp [World.frozen?, h.a]
/-- 's.blocks[k]'. -/
theorem StoreAs.look (h : StoreAs w S) {k : Int} (hk : I64 k) : (Instr.lookup 89 (.map (some S.bm)) (.int .i64 k) false).run Try.prog w = .ok (ptrV ((kget S.bs k).map fun d => d.kb)) w := by
  have e := h.m.look (M := mapIP) (k := k) hk
  rw [kget_ptrs] at e
  refine Eq.trans e ?_
  cases kget S.bs k <;> rfl
end
section
variable {w : World} {d : Bk}
theorem BlkAs.c (h : BlkAs w d) : w.cell? ⟨d.kb, 0, none⟩ = some (.int .i64 d.size) ∧ w.cell? ⟨d.kb, 1, none⟩ = some (.iface 76 (.agg #[.map (some d.lm)])) ∧ w.cell? ⟨d.kb, 2, none⟩ = some (.bool d.wr) ∧ w.cell? ⟨d.kb, 3, none⟩ = some (.int .i64 d.f.1) ∧ w.cell? ⟨d.kb, 4, none⟩ = some (.string d.f.2) ∧
    w.cell? ⟨d.kb, 5, none⟩ = some (.int .i64 d.one.k) ∧ w.cell? ⟨d.kb, 6, none⟩ = some (.int .i64 d.one.n) ∧ w.cell? ⟨d.kb, 7, none⟩ = some (.int .i64 d.one.b) ∧ w.cell? ⟨d.kb, 8, none⟩ = some (.int .i64 d.one.o) ∧ w.cell? ⟨d.kb, 9, none⟩ = some (.map d.hm) ∧ ∀ o, w.frozen? ⟨d.kb, o, none⟩ = false := by
  refine ⟨?_, ?_, ?_, ?_, ?_, ?_, ?_, ?_, ?_, ?_, fun o => ?_⟩ <;> simp [World.cell?, World.frozen?, h.a, Bk.cells]
end
theorem BlkAs.no {w w' : World} {d : Bk} (h : BlkAs w d) (hk : Keeps No w w') : BlkAs w' d := h.kept (fun a ha => hk.block a (h.lt ha) (fun e => e))
/-- A value as an argument. -/
abbrev va (x : Vl) : Value := .agg #[.int .i64 x.k, .int .i64 x.n, .int .i64 x.b, .int .i64 x.o]
theorem look_cell {w : World} {b : Nat} {al : List (Ck × Int)} {o : Int} {t : ByteArray} (h : MapK mapCI w b al) (hk : ckOk (o, t)) : (Instr.lookup 74 (.map (some b)) (.agg #[.int .i64 o, .string t]) true).run Try.prog w = .ok (.tuple #[.int .i64 ((kget al (o, t)).getD 0), .bool (kget al (o, t)).isSome]) w := h.lookok (M := mapCI) (k := (o, t)) hk
theorem look_held {w : World} {b : Nat} {al : List (Ck × Vl)} {o : Int} {t : ByteArray} (h : MapK mapCV w b al) (hk : ckOk (o, t)) : (Instr.lookup 97 (.map (some b)) (.agg #[.int .i64 o, .string t]) true).run Try.prog w = .ok (.tuple #[va ((kget al (o, t)).getD ⟨0, 0, 0, 0⟩), .bool (kget al (o, t)).isSome]) w := h.lookok (M := mapCV) (k := (o, t)) hk
theorem look_int {w : World} {b : Nat} {al : List (Int × Int)} {o : Int} (h : MapK mapII w b al) (hk : I64 o) : (Instr.lookup 77 (.map (some b)) (.int .i64 o) false).run Try.prog w = .ok (.int .i64 ((kget al o).getD 0)) w := h.look (M := mapII) (k := o) hk
/-- 'm[k] = v', at the operation. -/
theorem wpList_putK {κ ε : Type} [DecidableEq κ] (M : ML Try.prog κ ε) (w : World) {ops : Array Oper} {rest : List Oper} {o : Oper} {a : Act} {Q : Exit → Act → World → Prop}
    (hg : o.guard = none) (m x v : Operand) (hop : o.op = Op.mapUpdate M.tm m x v) (b : Nat) (al : List (κ × ε)) (k : κ) (y : ε)
    (hm : a.eval m = .map (some b)) (h : MapK M w b al) (hn : al.length < maxLen) (hx : a.eval x = M.kv k) (hv : a.eval v = M.ev y) (hk : M.kok k) (hy : M.eok y)
    (hK : ∀ w', MapK M w' b (kput al k y) → w.mapTurned w' b → wpList Try.prog ops Q rest (a.put o.dst undef) w') :
    wpList Try.prog ops Q (o :: rest) a w := by
  refine wpList_plain hg fun K' hK' => ?_
  obtain ⟨w', hrun, r1, r2⟩ := h.put hn hk hy
  unfold Oper.wp
  simp [execOp, hop, hm, hx, hv, hrun, Result.andThen]
  exact hK' _ _ (hK w' r1 r2)
/-- 'delete(m, k)', at the operation. -/
theorem wpList_delK {κ ε : Type} [DecidableEq κ] (M : ML Try.prog κ ε) (w : World) {ops : Array Oper} {rest : List Oper} {o : Oper} {a : Act} {Q : Exit → Act → World → Prop}
    (hg : o.guard = none) (m x : Operand) (hop : o.op = Op.call { callee := Callee.builtin Builtin.delete, args := #[m, x], argTypes := #[M.tm, M.tk] }) (b : Nat) (al : List (κ × ε)) (k : κ)
    (hm : a.eval m = .map (some b)) (h : MapK M w b al) (hx : a.eval x = M.kv k) (hk : M.kok k)
    (hK : ∀ w', MapK M w' b (kdel al k) → w.mapTurned w' b → wpList Try.prog ops Q rest (a.put o.dst (.tuple #[])) w') :
    wpList Try.prog ops Q (o :: rest) a w := by
  refine wpList_plain hg fun K' hK' => ?_
  obtain ⟨w', hrun, r1, r2⟩ := h.drop hk o.type
  unfold Oper.wp
  simp [execOp, hop, resolve, invoke, builtin, hm, hx, hrun, Result.andThen]
  exact hK' _ _ (hK w' r1 r2)
/-- A world that has grown from another one, none of whose blocks was written. -/
structure KW (w0 : World) where
  W : World
  h : Keeps No w0 W
section
variable {w0 : World}
theorem KW.cell (u : KW w0) {p : Addr} {v : Value} (h : w0.cell? p = some v) : u.W.cell? p = some v := by
  have hb := u.h.block p.block (block_lt_of_cell h) (fun e => e)
  unfold World.cell? at h ⊢
  rw [hb]; exact h
theorem KW.frozen (u : KW w0) {p : Addr} (hp : p.block < w0.heap.size) (h : w0.frozen? p = false) : u.W.frozen? p = false := by
  have hb := u.h.block p.block hp (fun e => e)
  unfold World.frozen? at h ⊢
  rw [hb]; exact h
def KW.of (w0 : World) : KW w0 := ⟨w0, Keeps.refl _ _⟩
theorem kw_call (u : KW w0) {F : FuncId} {args : Array Value} {v : Value}
    (h : Calls Try.prog F args u.W fun e w' => e = .returned v ∧ Keeps No u.W w') : Calls Try.prog F args u.W fun e w'' => e = .returned v ∧ ∃ m : KW w0, w'' = m.W :=
  h.mono fun e w' ⟨he, hg⟩ => ⟨he, ⟨w', u.h.trans hg (fun _ _ e => e)⟩, rfl⟩
theorem wp_region_class {P : Program} {C : World → Prop} {id : Nat} {Q : Exit → Act → World → Prop} {a : Act} {w : World} {l : List Oper} (hm : P.follows .mixedOrders = true) (hB : Region.lexB .any l.toArray = true) (hC : C { w with drawn := w.drawn + 1 })
    (h : wpQuiet P l.toArray C (fun a' => ∀ w', C w' → Q .normal a' w') l a) : (Code.region id l.toArray true).wp P Q a w :=
  wp_region_quiet hm hB hC h
theorem kw_region {P : Program} {id : Nat} {Q : Exit → Act → World → Prop} {a : Act} {w : World} {l : List Oper} (hm : P.follows .mixedOrders = true) (hB : Region.lexB .any l.toArray = true)
    (h : wpQuiet P l.toArray (fun W => ∃ u : KW w, W = u.W) (fun a' => ∀ w', (∃ u : KW w, w' = u.W) → Q .normal a' w') l a) : (Code.region id l.toArray true).wp P Q a w :=
  wp_region_class hm hB ⟨⟨w.drew, (Keeps.refl _ _).drew⟩, rfl⟩ h
end
end Go.Proofs.Ytjchfldlmabblaa
