/- Copies of programs, with globals too. -/
import Derived.Test.YtbfjmhfhhlncjaaDoorIrSameR
import Derived.Test.YtbfjmhfhhlncjaaDoorMix
namespace Go.Proofs.YtbfjmhfhhlncjaaDoor
open Go.RowKit
set_option linter.unusedVariables false
set_option linter.unusedSimpArgs false

theorem infoPc : (Tryd.prog.info? 51).map (fun i => (i.zero, i.size, i.bytes)) = some (some (.agg #[.int .i64 0, .int .i64 0, .int .i64 0, .int .i64 0]), 4, 32) := by kernel_rfl
theorem infoGl : (Tryd.prog.info? 49).map (fun i => (i.zero, i.size, i.bytes)) = some (some (.agg #[.string ⟨#[]⟩, .int .i64 0, .slice none 0 0]), 3, 48) := by kernel_rfl
theorem px_len (x : Px) : x.cells.length = 4 := rfl
theorem gx_len (x : Gx) : x.cells.length = 3 := rfl
theorem px_one : ∀ (l : List Px), ∀ u ∈ l.flatMap Px.cells, u.oneCell' = true := by
  intro l u hu
  obtain ⟨x, _, hx⟩ := List.mem_flatMap.1 hu
  unfold Px.cells at hx; simp at hx
  rcases hx with rfl | rfl | rfl | rfl <;> rfl
theorem gx_one (x : Gx) : ∀ u ∈ x.cells, u.oneCell' = true := by
  intro u hu; unfold Gx.cells at hu; simp at hu
  rcases hu with rfl | rfl | rfl <;> rfl
theorem px_self (x : Px) : x.same x = true := by unfold Px.same; simp
theorem px_selfs : ∀ l : List Px, sameRow Px.same l l = true := by
  intro l
  unfold sameRow
  rw [Bool.and_eq_true]
  refine ⟨by simp, List.all_eq_true.2 fun q hq => ?_⟩
  induction l with
  | nil => cases hq
  | cons a t ih =>
    simp only [List.zip_cons_cons, List.mem_cons] at hq
    rcases hq with rfl | h
    · exact px_self a
    · exact ih h
theorem gx_same (x : Gx) (pa : Option Addr) (pc : Nat) : x.same ⟨x.name, x.size, pa, x.pn, pc, x.pl⟩ = true := by unfold Gx.same; simp [px_selfs]
/-- Pieces that are appended to nothing. -/
theorem wpList_appPc (w : World) {ops : Array Oper} {rest : List Oper} {o : Oper} {a : Act} {Q : Exit → Act → World → Prop} (hgd : o.guard = none) (s x : Operand)
    (ho : o.op = .call { callee := .builtin .append, args := #[s, x], argTypes := #[47, 47] })
    (n c : Nat) (l : List Px) (sa : Option Addr) (hs : a.eval s = .slice none 0 0) (hx : a.eval x = .slice sa n c) (hn : n ≤ 1000000) (hat : PcAt w sa n c l)
    (h : ∀ va cap w', w'.ownsRow w.heap.size 51 4 (.slice va n cap) n (l.flatMap Px.cells) → Keeps No w w' → wpList Tryd.prog ops Q rest (a.put o.dst (.slice va n cap)) w') : wpList Tryd.prog ops Q (o :: rest) a w := by
  by_cases h0 : n = 0
  · subst h0
    obtain rfl : l = [] := List.eq_nil_of_length_eq_zero hat.len
    exact wpList_app0 w hgd s x _ 51 ho Tryd.underlying47 infoPc w.heap.size (.slice none 0 0) 0 [] (World.ownsRow_nil _ _ _ _) hs sa c hx (h none 0 w (World.ownsRow_nil _ _ _ _) (Keeps.refl _ _))
  · obtain ⟨b, off, rfl, hc⟩ := hat.at_ (by omega)
    obtain ⟨i0, hi, hz0, hz1, hz2⟩ := info_parts infoPc
    have hmx : 0 + n ≤ maxLen := by unfold maxLen; omega
    have hby : (0 + n) * 32 ≤ 140737488355328 := by omega
    refine wpList_append_lies w hgd s x _ ho w.heap.size 51 i0 _ 4 32 Tryd.underlying47 hi hz0 hz1 hz2 rfl (by decide) _ 0 [] hs (World.ownsRow_nil _ _ _ _) ⟨b, off, none⟩ n c (l.flatMap Px.cells) hx (by rw [flat_len Px.cells 4 px_len, hat.len]) (fun j u hu => ?_) (px_one l) (by omega) hmx hby (Nat.le_refl _) _ rfl (fun g' cap w' k1 k2 k3 _ => ?_)
    · obtain ⟨z, hz, hv⟩ := flat_of Px.cells 4 px_len (by decide) l j u hu
      have e : (⟨b, off, none⟩ : Addr).add j = ⟨b, off + j, none⟩ := by unfold Addr.add; split <;> simp_all
      rw [e]
      have := hc (j / 4) z hz (j % 4) u hv
      rw [Nat.add_assoc] at this
      rw [show j / 4 * 4 + j % 4 = j by omega] at this
      exact this
    · rw [Nat.zero_add] at k1 ⊢
      exact h _ cap w' (by simpa using k1) ((Keeps.refl No w).grown k2 (fun q e => by cases e))
structure GxB (g : Gx) : Prop where
  name : g.name.size ≤ maxLen
  size : I64 g.size
  ok : ∀ p ∈ g.pl, I64 p.at_ ∧ I64 p.bytes ∧ I64 p.func ∧ I64 p.n
structure OGx (w : World) (B : Nat) (x : Gx) : Prop where
  o : w.ownsRow B 51 4 (.slice x.pa x.pn x.pc) x.pn (x.pl.flatMap Px.cells)
  len : x.pl.length = x.pn
theorem OGx.low {w w' : World} {B : Nat} {x : Gx} (h : OGx w B x) (hk : Keeps (fun q => q < B) w w') : OGx w' B x := ⟨low_row h.o hk, h.len⟩
theorem OGx.no {w w' : World} {B : Nat} {x : Gx} (h : OGx w B x) (hk : Keeps No w w') : OGx w' B x := ⟨keeps_row h.o hk (fun _ _ e => e), h.len⟩
theorem OGx.mono {w : World} {B B' : Nat} {x : Gx} (h : OGx w B x) (hb : B' ≤ B) : OGx w B' x := ⟨own_mono h.o hb, h.len⟩
theorem OGx.keep {w w' : World} {B : Nat} {x : Gx} {S : Nat → Prop} (h : OGx w B x) (hk : Keeps S w w') (hS : ∀ q, S q → ∃ cs e, w.heap[q]? = some (.cells cs e (0, 0)) ∧ e ≠ 51) : OGx w' B x :=
  ⟨keeps_row h.o hk (fun q hq hs => by obtain ⟨cs, e, hc, h1⟩ := hS q hs; exact own_ne h.o hc h1 hq), h.len⟩
theorem OGx.at_ {w : World} {B : Nat} {x : Gx} (h : OGx w B x) (hb : GxB x) : GxOk w x := by
  refine ⟨hb.name, hb.size, h.len, ?_, hb.ok, fun hn => ?_⟩
  · rcases h.o.2 with ⟨e, h0⟩ | ⟨g, cap, cur, e, _, _, h1, h2, _⟩
    · injection e with _ _ e; rw [e, h0]; exact ⟨Nat.le_refl _, Nat.zero_le _⟩
    · injection e with _ _ e; rw [e]; exact ⟨h1, h2⟩
  · have ho := h.o
    obtain ⟨aa, ca, e, hg⟩ := own_form ho
    obtain ⟨g, rfl⟩ := hg hn
    injection e with e1 e2 e3
    refine ⟨g, 0, e1, fun k b hbk j v hj => ?_⟩
    have hk : k < x.pn := by rw [← h.len]; exact (List.getElem?_eq_some_iff.1 hbk).1
    have hj4 : j < 4 := (List.getElem?_eq_some_iff.1 hj).1
    rw [Nat.zero_add]
    rw [e1] at ho
    exact (ho.cellAt _ (by omega)).trans (flat_get Px.cells 4 px_len x.pl k b hbk j v hj)
theorem GxOk.gxb {w : World} {g : Gx} (h : GxOk w g) : GxB g := ⟨h.name, h.size, h.ok⟩
/-- A program in memory of one's own. -/
structure OPg (w : World) (B : Nat) (y : Pg) : Prop where
  main : I64 y.main
  g : w.ownsRow B 49 3 (.slice y.ga y.gn y.gc) y.gn (y.gl.flatMap Gx.cells)
  glen : y.gl.length = y.gn
  gok : ∀ x ∈ y.gl, GxB x ∧ OGx w B x
  f : w.ownsRow B 42 6 (.slice y.fa y.fn y.fc) y.fn (y.fl.flatMap Fx.cells)
  flen : y.fl.length = y.fn
  fok : ∀ x ∈ y.fl, SmallFx x ∧ FxB x ∧ OFx w B x
theorem OPg.low {w w' : World} {B : Nat} {y : Pg} (h : OPg w B y) (hk : Keeps (fun q => q < B) w w') : OPg w' B y :=
  ⟨h.main, low_row h.g hk, h.glen, fun x hx => ⟨(h.gok x hx).1, (h.gok x hx).2.low hk⟩, low_row h.f hk, h.flen, fun x hx => ⟨(h.fok x hx).1, (h.fok x hx).2.1, (h.fok x hx).2.2.low hk⟩⟩
theorem OPg.no {w w' : World} {B : Nat} {y : Pg} (h : OPg w B y) (hk : Keeps No w w') : OPg w' B y := h.low (hk.mono (fun _ _ e => e.elim))
theorem OPg.mono {w : World} {B B' : Nat} {y : Pg} (h : OPg w B y) (hb : B' ≤ B) : OPg w B' y :=
  ⟨h.main, own_mono h.g hb, h.glen, fun x hx => ⟨(h.gok x hx).1, (h.gok x hx).2.mono hb⟩, own_mono h.f hb, h.flen, fun x hx => ⟨(h.fok x hx).1, (h.fok x hx).2.1, (h.fok x hx).2.2.mono hb⟩⟩
theorem own_cap {w : World} {B z n m c : Nat} {e : TypeId} {va : Option Addr} {xs : List Value} (h : w.ownsRow B e z (.slice va m c) n xs) : m ≤ c ∧ c ≤ maxLen := by
  rcases h.2 with ⟨e, h0⟩ | ⟨g, cap, cur, e, _, _, h1, h2, _⟩
  · injection e with _ e1 e2; subst e1; subst e2; exact ⟨Nat.le_refl _, Nat.zero_le _⟩
  · injection e with _ e1 e2; subst e1; subst e2; exact ⟨h1, h2⟩
theorem own_flat {α : Type} {w : World} {B m n c : Nat} {e : TypeId} {va : Option Addr} (f : α → List Value) (hm : ∀ x, (f x).length = m) {l : List α} (h : w.ownsRow B e m (.slice va n c) n (l.flatMap f)) (hl : l.length = n) (hn : 0 < n) :
    ∃ b off, va = some ⟨b, off, none⟩ ∧ ∀ (k : Nat) (x : α), l[k]? = some x → ∀ (j : Nat) (v : Value), (f x)[j]? = some v → w.cell? ⟨b, off + k * m + j, none⟩ = some v := by
  obtain ⟨aa, ca, e, hg⟩ := own_form h
  obtain ⟨g, rfl⟩ := hg hn
  injection e with e1 e2 e3
  subst e1
  refine ⟨g, 0, rfl, fun k x hx j v hj => ?_⟩
  have hk : k < n := by rw [← hl]; exact (List.getElem?_eq_some_iff.1 hx).1
  have hjm : j < m := by have := (List.getElem?_eq_some_iff.1 hj).1; rw [hm] at this; exact this
  have hlt : k * m + j < n * m := by
    have : (k + 1) * m ≤ n * m := Nat.mul_le_mul_right _ hk
    rw [Nat.add_mul, Nat.one_mul] at this
    omega
  rw [Nat.zero_add]
  exact (h.cellAt _ hlt).trans (flat_get f m hm l k x hx j v hj)
theorem OPg.at_ {w : World} {B : Nat} {y : Pg} (h : OPg w B y) : PgOk w y :=
  ⟨h.main, h.glen, own_cap h.g, fun x hx => (h.gok x hx).2.at_ (h.gok x hx).1, fun hn => own_flat Gx.cells gx_len h.g h.glen hn, h.flen, own_cap h.f, fun x hx => (h.fok x hx).2.2.at_ (h.fok x hx).2.1, fun hn => own_flat Fx.cells fx_len h.f h.flen hn⟩
def CopyPg (p : Pg) (w : World) (e : Ending) (w' : World) : Prop := ∃ y : Pg, e = .returned (pv y) ∧ y.main = p.main ∧ sameRow Gx.same p.gl y.gl = true ∧ sameRow Fx.same p.fl y.fl = true ∧ OPg w' w.heap.size y ∧ Keeps No w w'
end Go.Proofs.YtbfjmhfhhlncjaaDoor
/- walk.CopyProg, of any program. -/
namespace Go.Proofs.YtbfjmhfhhlncjaaDoor
open Go.RowKit
set_option linter.unusedVariables false
set_option linter.unusedSimpArgs false

/-- Globals in memory of one's own. -/
structure GG (w : World) (B : Nat) (v : Value) (n : Nat) (l : List Gx) : Prop where
  o : w.ownsRow B 49 3 v n (l.flatMap Gx.cells)
  ok : ∀ y ∈ l, GxB y ∧ OGx w B y
theorem GG.no {w w' : World} {B n : Nat} {v : Value} {l : List Gx} (h : GG w B v n l) (hk : Keeps No w w') : GG w' B v n l := ⟨keeps_row h.o hk (fun _ _ e => e), fun y hy => ⟨(h.ok y hy).1, (h.ok y hy).2.no hk⟩⟩
theorem GG.keep {w w' : World} {B n : Nat} {v : Value} {l : List Gx} {S : Nat → Prop} (h : GG w B v n l) (hk : Keeps S w w') (hS : ∀ q, S q → ∃ cs e, w.heap[q]? = some (.cells cs e (0, 0)) ∧ e ≠ 51 ∧ e ≠ 49) : GG w' B v n l :=
  ⟨keeps_row h.o hk (fun q hq hs => by obtain ⟨cs, e, hc, _, h1⟩ := hS q hs; exact own_ne h.o hc h1 hq), fun y hy => ⟨(h.ok y hy).1, (h.ok y hy).2.keep hk (fun q hs => by obtain ⟨cs, e, hc, h1, _⟩ := hS q hs; exact ⟨cs, e, hc, h1⟩)⟩⟩
set_option maxRecDepth 100000 in
set_option maxHeartbeats 12800000 in
theorem copyProg_any (p : Pg) (w : World) (hp : PgOk w p) (hgn : p.gn ≤ 100000) (hgs : ∀ g ∈ p.gl, g.pn ≤ 1000000) (hn : p.fn ≤ 100000) (hs : ∀ f ∈ p.fl, SmallFx f) : Calls Tryd.prog 32 #[pv p] w (CopyPg p w) := by
  have HP := Lib.hid hp
  have HS := Lib.hid hs
  have HGS := Lib.hid hgs
  have hgcap := hp.gcap
  have hcap := hp.fcap
  have hm := hp.main
  unfold maxLen at hcap hgcap
  obtain ⟨ga, hga⟩ : ∃ q, p.ga = q := ⟨_, rfl⟩
  obtain ⟨gn, hgn'⟩ : ∃ q, p.gn = q := ⟨_, rfl⟩
  obtain ⟨gc, hgc⟩ : ∃ q, p.gc = q := ⟨_, rfl⟩
  obtain ⟨fa, hfa⟩ : ∃ q, p.fa = q := ⟨_, rfl⟩
  obtain ⟨fn, hfn⟩ : ∃ q, p.fn = q := ⟨_, rfl⟩
  obtain ⟨fc, hfc⟩ : ∃ q, p.fc = q := ⟨_, rfl⟩
  obtain ⟨mn, hmn⟩ : ∃ q, p.main = q := ⟨_, rfl⟩
  unfold pv
  rw [hga, hgn', hgc, hfa, hfn, hfc, hmn]
  rw [hfn, hfc] at hcap
  rw [hgn', hgc] at hgcap
  rw [hgn'] at hgn
  rw [hfn] at hn
  have HPP := Lib.hid (And.intro hfa (And.intro hfn (And.intro hmn hm)))
  have HPG := Lib.hid (And.intro hga hgn')
  obtain ⟨tg, hi', hz0', hz1', hz2'⟩ := info_parts infoGl
  have HIG := Lib.hid (And.intro hi' (And.intro hz0' (And.intro hz1' hz2')))
  clear hi' hz0' hz1' hz2' hgs
  obtain ⟨ti, hi, hz0, hz1, hz2⟩ := info_parts infoF
  have HI := Lib.hid (And.intro hi (And.intro hz0 (And.intro hz1 hz2)))
  obtain ⟨B0, hB0⟩ : ∃ q, w.heap.size = q := ⟨_, rfl⟩
  have HB0 := Lib.hid hB0
  clear hp hs hga hgc hgn' hfa hfn hfc hmn hm hi hz0 hz1 hz2
  go_enter Tryd.func32, Tryd.ntmps32
  go_wp2_with fail
  obtain ⟨w1, hw1⟩ : ∃ W, (((w.alloc (.cells #[.slice ga gn gc, .slice fa fn fc, .int .i64 mn] 36)).alloc (.cells #[.slice none 0 0, .slice none 0 0, .int .i64 0] 36)).alloc (.cells #[.slice none 0 0, .slice none 0 0, .int .i64 mn] 36)) = W := ⟨_, rfl⟩
  have hk1 : Keeps No w w1 := by rw [← hw1]; exact (((Keeps.refl No w).alloc _).alloc _).alloc _
  have hr0 : w1.heap[B0]? = some (.cells #[.slice ga gn gc, .slice fa fn fc, .int .i64 mn] 36 (0, 0)) := by
    rw [← hw1, ← HB0.out, Below.heap_alloc _ _ _ (by simp; omega), Below.heap_alloc _ _ _ (by simp)]; exact heap_alloc_new _ _
  have hr1 : w1.heap[B0 + 1]? = some (.cells #[.slice none 0 0, .slice none 0 0, .int .i64 0] 36 (0, 0)) := by
    rw [← hw1, ← HB0.out, Below.heap_alloc _ _ _ (by simp)]
    exact (by simpa using heap_alloc_new (w.alloc (.cells #[.slice ga gn gc, .slice fa fn fc, .int .i64 mn] 36)) (.cells #[.slice none 0 0, .slice none 0 0, .int .i64 0] 36))
  have hr2 : w1.heap[B0 + 2]? = some (.cells #[.slice none 0 0, .slice none 0 0, .int .i64 mn] 36 (0, 0)) := by
    rw [← hw1, ← HB0.out]
    exact (by simpa using heap_alloc_new ((w.alloc (.cells #[.slice ga gn gc, .slice fa fn fc, .int .i64 mn] 36)).alloc (.cells #[.slice none 0 0, .slice none 0 0, .int .i64 0] 36)) (.cells #[.slice none 0 0, .slice none 0 0, .int .i64 mn] 36))
  rw [hw1]
  have HK1 := Lib.hid hk1
  have HR := Lib.hid (And.intro hr0 (And.intro hr1 hr2))
  have c1 : w1.cell? ⟨B0, 1, none⟩ = some (.slice fa fn fc) := by rw [cell_of_row w1 B0 1 _ _ _ hr0]; rfl
  clear hw1 hk1 hr0 hr1 hr2
  have HA : Hid (∀ (W : World), Keeps No w W → ∀ (i : Nat), i < gn → ∃ xb xo, ∃ z : Gx, p.gl[i]? = some z ∧ ga = some ⟨xb, xo, none⟩ ∧ W.cell? ⟨xb, xo + i * 3, none⟩ = some (.string z.name) ∧ W.cell? ⟨xb, xo + i * 3 + 1, none⟩ = some (.int .i64 z.size) ∧ W.cell? ⟨xb, xo + i * 3 + 2, none⟩ = some (.slice z.pa z.pn z.pc) ∧ GxOk w z) := Lib.hid (fun W hk i hi => by
    obtain ⟨b, off, e, hc⟩ := HP.out.gat (by rw [HPG.out.2]; omega)
    obtain ⟨z, hz⟩ : ∃ z, p.gl[i]? = some z := ⟨_, List.getElem?_eq_getElem (by rw [HP.out.glen, HPG.out.2]; exact hi)⟩
    exact ⟨b, off, z, hz, HPG.out.1.symm.trans e, hk.cell0 (hc i z hz 0 _ rfl), hk.cell0 (hc i z hz 1 _ rfl), hk.cell0 (hc i z hz 2 _ rfl), HP.out.gok z (List.mem_of_getElem? hz)⟩)
  go_loopg [14] gn (fun gg v wr => ∃ (i : Nat) (gs : List Gx) (va : Option Addr) (ca : Nat), v = .int .i64 (i : Int) ∧ i ≤ gn ∧ gg = gn - i ∧ wr.cell? ⟨B0, 1, none⟩ = some (.slice fa fn fc) ∧ Hid (gs.length = i ∧ sameRow Gx.same (p.gl.take i) gs = true ∧ (∀ y ∈ gs, GxB y ∧ OGx wr B0 y)) ∧ Hid (wr.ownsRow B0 49 3 (.slice va i ca) i (gs.flatMap Gx.cells)) ∧ Hid (Keeps No w wr) ∧ Hid (wr.heap[B0]? = some (.cells #[.slice ga gn gc, .slice fa fn fc, .int .i64 mn] 36 (0, 0)) ∧ wr.heap[B0 + 1]? = some (.cells #[.slice none 0 0, .slice none 0 0, .int .i64 0] 36 (0, 0)) ∧ wr.heap[B0 + 2]? = some (.cells #[.slice va i ca, .slice none 0 0, .int .i64 mn] 36 (0, 0))))
  case atStart => exact ⟨0, [], none, 0, rfl, Nat.zero_le _, rfl, c1, Lib.hid ⟨rfl, rfl, fun y hy => by cases hy⟩, Lib.hid (World.ownsRow_nil _ _ _ _), HK1, HR⟩
  case round =>
    obtain ⟨i, gs, va, ca, rfl, hi, hgk, c1', HGS', HOG, HK, HRR⟩ := hrel
    clear c1
    by_cases hlt : i < gn
    · have hlt' : (i : Int) < (gn : Int) := by omega
      have ip0 : (0 : Int) ≤ (i : Int) := by omega
      obtain ⟨xb, xo, z, hz, rfl, x0, x1, x2, hzo⟩ := HA.out wr HK.out i hlt
      have HZ := Lib.hid hz
      have HZO := Lib.hid hzo
      clear hz hzo c1'
      have hka : Keeps No w (wr.alloc (.cells #[.string z.name, .int .i64 z.size, .slice z.pa z.pn z.pc] 49)) := HK.out.alloc _
      have HKA := Lib.hid hka
      have HPC : Hid (PcAt (wr.alloc (.cells #[.string z.name, .int .i64 z.size, .slice z.pa z.pn z.pc] 49)) z.pa z.pn z.pc z.pl) := Lib.hid (PcAt.no ⟨HZO.out.len, HZO.out.cap, HZO.out.at_⟩ hka)
      have HZN : Hid (z.pn ≤ 1000000) := Lib.hid (HGS.out z (List.mem_of_getElem? HZ.out))
      clear hka
      go_wp2_with (first | (at_builtin; refine wpList_appPc _ rfl _ _ rfl z.pn z.pc z.pl z.pa rfl rfl HZN.out HPC.out ?_))
      intro vp cp w5 ho5 hk5
      obtain ⟨gx, hgx⟩ : ∃ q, wr.heap.size = q := ⟨_, rfl⟩
      have hlt5 : B0 + 2 < gx := by rw [← hgx]; exact (Array.getElem?_eq_some_iff.1 HRR.out.2.2).1
      have hw5 : ∀ q, q < gx → w5.heap[q]? = wr.heap[q]? := fun q hq => by rw [hk5.block q (by simp; omega) (fun e => e), Below.heap_alloc _ _ _ (by omega)]
      have hrx : w5.heap[gx]? = some (.cells #[.string z.name, .int .i64 z.size, .slice z.pa z.pn z.pc] 49 (0, 0)) := by
        rw [hk5.block gx (by simp; omega) (fun e => e), ← hgx]; exact heap_alloc_new _ _
      have hs5 : gx + 1 ≤ w5.heap.size := by have := hk5.size; simp at this; omega
      have hkr5 : Keeps No wr w5 := ((Keeps.refl No wr).alloc _).trans hk5 (fun _ _ e => e)
      have HKR5 := Lib.hid hkr5
      have HK5 : Hid (Keeps No w w5) := Lib.hid (HK.out.trans hkr5 (fun _ _ e => e))
      have HOP : Hid (w5.ownsRow (gx + 1) 51 4 (.slice vp z.pn cp) z.pn (z.pl.flatMap Px.cells)) := Lib.hid (by rw [← hgx]; simpa using ho5)
      have HRX := Lib.hid hrx
      have HW5 := Lib.hid hw5
      have HS5 := Lib.hid hs5
      simp only [hgx]
      have k2 : w5.cell? ⟨gx, 2, none⟩ = some (.slice z.pa z.pn z.pc) := by rw [cell_of_row w5 gx 2 _ _ _ hrx]; rfl
      have k1 : w5.cell? ⟨gx, 1, none⟩ = some (.int .i64 z.size) := by rw [cell_of_row w5 gx 1 _ _ _ hrx]; rfl
      have k0 : w5.cell? ⟨gx, 0, none⟩ = some (.string z.name) := by rw [cell_of_row w5 gx 0 _ _ _ hrx]; rfl
      have f2 : w5.frozen? ⟨gx, 2, none⟩ = false := frozen_of_row w5 gx 2 _ _ hrx
      have d0 : w5.cell? ⟨B0 + 1 + 1, 0, none⟩ = some (.slice va i ca) := by rw [show B0 + 1 + 1 = B0 + 2 from rfl, cell_of_row w5 _ 0 _ _ _ ((hw5 _ hlt5).trans HRR.out.2.2)]; rfl
      have hnx : ¬ (B0 + 1 + 1 = gx) := by omega
      have hnx' : ¬ (gx = B0 + 1 + 1) := by omega
      obtain ⟨w6, hw6⟩ : ∃ W, w5.setCell ⟨gx, 2, none⟩ (.slice vp z.pn cp) = W := ⟨_, rfl⟩
      have hk6 : Keeps (fun q => q = gx) w5 w6 := by rw [← hw6]; exact (Keeps.refl (fun q => q = gx) w5).setCell (.inl rfl) _
      have hs6 : w6.heap.size = w5.heap.size := by rw [← hw6]; simp [World.setCell]
      have hnog : ∀ q, (Value.slice va i ca).ownBlock = some q → ¬ q = gx := fun q hq e => by have := (HOG.out.lt q hq).2; omega
      have HNOG := Lib.hid hnog
      have HO6 := Lib.hid (keeps_row (keeps_row HOG.out hkr5 (fun _ _ e => e)) hk6 hnog)
      have HOA : Hid (∀ o : Obj, ((w5.setCell ⟨gx, 2, none⟩ (.slice vp z.pn cp)).alloc o).ownsRow B0 49 3 (.slice va i ca) i (gs.flatMap Gx.cells)) := Lib.hid (fun o => by rw [hw6]; exact HO6.out.alloc o)
      have HOP6 : Hid (OGx w6 B0 (Gx.mk z.name z.size vp z.pn cp z.pl)) := Lib.hid ⟨own_mono (keeps_row HOP.out hk6 (fun q hq e => by have := (HOP.out.lt q hq).1; omega)) (by omega), HZO.out.len⟩
      have hcx : ∀ q, q = gx → ∃ cs e, w5.heap[q]? = some (.cells cs e (0, 0)) ∧ e ≠ 51 := fun q e => by subst e; exact ⟨_, _, HRX.out, by decide⟩
      have HG6 : Hid (gs.length = i ∧ sameRow Gx.same (p.gl.take i) gs = true ∧ (∀ y ∈ gs, GxB y ∧ OGx w6 B0 y)) := Lib.hid ⟨HGS'.out.1, HGS'.out.2.1, fun y hy => ⟨(HGS'.out.2.2 y hy).1, (((HGS'.out.2.2 y hy).2.no hkr5).keep hk6 hcx)⟩⟩
      have HP6 : Hid (∀ q, q < gx → w6.heap[q]? = wr.heap[q]?) := Lib.hid (fun q hq => (hk6.block q (by omega) (by omega)).trans (hw5 q hq))
      have HK6 : Hid (Keeps No w w6) := Lib.hid (by
        have h : Keeps (fun q => q = gx) w5 w6 := hk6
        exact HK5.out.trans h (fun q hq e => by have := HK.out.size; omega))
      have hnw : ∀ (j : Nat) u, (Gx.cells (Gx.mk z.name z.size vp z.pn cp z.pl))[j]? = some u → ((w5.setCell ⟨gx, 2, none⟩ (.slice vp z.pn cp)).alloc (.cells #[.string z.name, .int .i64 z.size, .slice vp z.pn cp] 49)).cell? ((⟨w5.heap.size, 0, none⟩ : Addr).add j) = some u := fun j u hu => by
        rw [hw6, ← hs6]; exact news_one w6 _ 49 j u hu
      have HNW := Lib.hid hnw
      have HBB : Hid (∀ o : Obj, B0 ≤ ((w5.setCell ⟨gx, 2, none⟩ (.slice vp z.pn cp)).alloc o).heap.size) := Lib.hid (fun o => by rw [hw6]; simp; omega)
      have HMX : Hid (i + 1 ≤ maxLen) := Lib.hid (by unfold maxLen; omega)
      have HON := Lib.hid (gx_one (Gx.mk z.name z.size vp z.pn cp z.pl))
      have HW6 := Lib.hid hw6
      have HS6 := Lib.hid hs6
      clear ho5 hk5 hrx hw5 hkr5 x0 x1 x2 hs5 hgx hw6 hk6 hs6 hnog hcx hnw
      go_wp2_with (first | (at_builtin; refine wpList_append_lies _ rfl (.tmp 23) (.tmp 25) 33 rfl B0 49 tg _ 3 48 Tryd.underlying33 HIG.out.1 HIG.out.2.1 HIG.out.2.2.1 HIG.out.2.2.2 rfl (by decide) (.slice va i ca) i (gs.flatMap Gx.cells) rfl (HOA.out _) ⟨w5.heap.size, 0, none⟩ 1 1 (Gx.cells (Gx.mk z.name z.size vp z.pn cp z.pl)) rfl rfl HNW.out HON.out (by decide) HMX.out (by omega) (HBB.out _) _ rfl ?_))
      intro g8 c8 w8 ho8 hg8 _ _
      rw [HW6.out] at hg8
      obtain ⟨wA, hwA⟩ : ∃ W, w6.alloc (.cells #[.string z.name, .int .i64 z.size, .slice vp z.pn cp] 49) = W := ⟨_, rfl⟩
      rw [hwA] at hg8
      have hkA : Keeps No w6 wA := by rw [← hwA]; exact (Keeps.refl _ _).alloc _
      have hOA : wA.ownsRow B0 49 3 (.slice va i ca) i (gs.flatMap Gx.cells) := by rw [← hwA]; exact HO6.out.alloc _
      have hk8 : Keeps (fun q => (Value.slice va i ca).ownBlock = some q) wA w8 := (Keeps.refl _ _).grown hg8 (fun q e => .inl e)
      have hc8 : ∀ q, (Value.slice va i ca).ownBlock = some q → ∃ cs e, wA.heap[q]? = some (.cells cs e (0, 0)) ∧ e ≠ 51 := fun q e => by
        rcases hOA.2 with ⟨e2, _⟩ | ⟨g', cap, cur, e2, _, hh, _⟩
        · rw [e2] at e; simp [Value.ownBlock] at e
        · rw [e2] at e; simp [Value.ownBlock] at e; subst e; exact ⟨cur, _, hh, by decide⟩
      have hP8 : ∀ (k : Nat) (cs : Array Value), k < gx → wr.heap[k]? = some (.cells cs 36 (0, 0)) → w8.heap[k]? = some (.cells cs 36 (0, 0)) := fun k cs hk hc => by
        have h6 := (HP6.out k hk).trans hc
        have hl := (Array.getElem?_eq_some_iff.1 h6).1
        have hA : wA.heap[k]? = some (.cells cs 36 (0, 0)) := (hkA.block k hl (fun e => e)).trans h6
        rw [hk8.block k (Array.getElem?_eq_some_iff.1 hA).1 (own_ne hOA hA (by decide))]; exact hA
      have hR8 : w8.heap[B0]? = some (.cells #[.slice (some ⟨xb, xo, none⟩) gn gc, .slice fa fn fc, .int .i64 mn] 36 (0, 0)) ∧ w8.heap[B0 + 1]? = some (.cells #[.slice none 0 0, .slice none 0 0, .int .i64 0] 36 (0, 0)) ∧ w8.heap[B0 + 2]? = some (.cells #[.slice va i ca, .slice none 0 0, .int .i64 mn] 36 (0, 0)) := ⟨hP8 _ _ (by omega) HRR.out.1, hP8 _ _ (by omega) HRR.out.2.1, hP8 _ _ (by omega) HRR.out.2.2⟩
      have HR8 := Lib.hid hR8
      have HO8 : Hid (w8.ownsRow B0 49 3 (.slice (some ⟨g8, 0, none⟩) (i + 1) c8) (i + 1) ((gs ++ [(Gx.mk z.name z.size vp z.pn cp z.pl)]).flatMap Gx.cells)) := Lib.hid (by rw [List.flatMap_append]; simpa using ho8)
      have HK8 : Hid (Keeps No w w8) := Lib.hid ((HK6.out.trans hkA (fun _ _ e => e)).trans hk8 (fun q hq e => by have := (hOA.lt q e).1; rw [HB0.out] at hq; omega))
      have HG8 : Hid ((gs ++ [(Gx.mk z.name z.size vp z.pn cp z.pl)]).length = i + 1 ∧ sameRow Gx.same (p.gl.take (i + 1)) (gs ++ [(Gx.mk z.name z.size vp z.pn cp z.pl)]) = true ∧ (∀ t ∈ gs ++ [(Gx.mk z.name z.size vp z.pn cp z.pl)], GxB t ∧ OGx w8 B0 t)) := Lib.hid ⟨by simp [HG6.out.1], row_snoc _ HZ.out HG6.out.1 HG6.out.2.1 (gx_same z vp cp), fun t ht => by
        rcases List.mem_append.1 ht with h | h
        · have := HG6.out.2.2 t h; exact ⟨this.1, (this.2.no hkA).keep hk8 hc8⟩
        · obtain rfl : t = (Gx.mk z.name z.size vp z.pn cp z.pl) := by simpa using h
          exact ⟨⟨HZO.out.name, HZO.out.size, HZO.out.ok⟩, (HOP6.out.no hkA).keep hk8 hc8⟩⟩
      have s1 : w8.cell? ⟨B0 + 1 + 1, 0, none⟩ = some (.slice va i ca) := by rw [show B0 + 1 + 1 = B0 + 2 from rfl, cell_of_row w8 _ 0 _ _ _ hR8.2.2]; rfl
      have s2 : w8.frozen? ⟨B0 + 1 + 1, 0, none⟩ = false := frozen_of_row w8 _ 0 _ _ hR8.2.2
      clear k0 k1 k2 f2 d0 ho8 hg8 hwA hkA hOA hk8 hc8 hP8 hR8
      have hk9 : Keeps (fun q => q = B0 + 2) w8 (w8.setCell ⟨B0 + 1 + 1, 0, none⟩ (.slice (some ⟨g8, 0, none⟩) (i + 1) c8)) := (Keeps.refl (fun q => q = B0 + 2) w8).setCell (.inl rfl) _
      have hc9 : ∀ q, q = B0 + 2 → ∃ cs e, w8.heap[q]? = some (.cells cs e (0, 0)) ∧ e ≠ 51 := fun q e => by subst e; exact ⟨_, _, HR8.out.2.2, by decide⟩
      have hr9 : (w8.setCell ⟨B0 + 1 + 1, 0, none⟩ (.slice (some ⟨g8, 0, none⟩) (i + 1) c8)).heap[B0 + 2]? = some (.cells #[.slice (some ⟨g8, 0, none⟩) (i + 1) c8, .slice none 0 0, .int .i64 mn] 36 (0, 0)) := by rw [show B0 + 1 + 1 = B0 + 2 from rfl, heap_setCell_same w8 (B0 + 2) 0 _ _ _ HR8.out.2.2]; rfl
      have HR9 : Hid ((w8.setCell ⟨B0 + 1 + 1, 0, none⟩ (.slice (some ⟨g8, 0, none⟩) (i + 1) c8)).heap[B0]? = some (.cells #[.slice (some ⟨xb, xo, none⟩) gn gc, .slice fa fn fc, .int .i64 mn] 36 (0, 0)) ∧ (w8.setCell ⟨B0 + 1 + 1, 0, none⟩ (.slice (some ⟨g8, 0, none⟩) (i + 1) c8)).heap[B0 + 1]? = some (.cells #[.slice none 0 0, .slice none 0 0, .int .i64 0] 36 (0, 0)) ∧ (w8.setCell ⟨B0 + 1 + 1, 0, none⟩ (.slice (some ⟨g8, 0, none⟩) (i + 1) c8)).heap[B0 + 2]? = some (.cells #[.slice (some ⟨g8, 0, none⟩) (i + 1) c8, .slice none 0 0, .int .i64 mn] 36 (0, 0))) := Lib.hid ⟨(hk9.block _ (Array.getElem?_eq_some_iff.1 HR8.out.1).1 (by omega)).trans HR8.out.1, (hk9.block _ (Array.getElem?_eq_some_iff.1 HR8.out.2.1).1 (by omega)).trans HR8.out.2.1, hr9⟩
      have HO9 := Lib.hid (keeps_row HO8.out hk9 (fun q hq e => by subst e; exact own_ne HO8.out HR8.out.2.2 (by decide) hq))
      have HK9 : Hid (Keeps No w (w8.setCell ⟨B0 + 1 + 1, 0, none⟩ (.slice (some ⟨g8, 0, none⟩) (i + 1) c8))) := Lib.hid (HK8.out.setCell (.inr (by rw [HB0.out]; simp only; omega)) _)
      have HG9 : Hid ((gs ++ [(Gx.mk z.name z.size vp z.pn cp z.pl)]).length = i + 1 ∧ sameRow Gx.same (p.gl.take (i + 1)) (gs ++ [(Gx.mk z.name z.size vp z.pn cp z.pl)]) = true ∧ (∀ t ∈ gs ++ [(Gx.mk z.name z.size vp z.pn cp z.pl)], GxB t ∧ OGx (w8.setCell ⟨B0 + 1 + 1, 0, none⟩ (.slice (some ⟨g8, 0, none⟩) (i + 1) c8)) B0 t)) := Lib.hid ⟨HG8.out.1, HG8.out.2.1, fun t ht => ⟨(HG8.out.2.2 t ht).1, (HG8.out.2.2 t ht).2.keep hk9 hc9⟩⟩
      have HC9 : Hid ((w8.setCell ⟨B0 + 1 + 1, 0, none⟩ (.slice (some ⟨g8, 0, none⟩) (i + 1) c8)).cell? ⟨B0, 1, none⟩ = some (.slice fa fn fc)) := Lib.hid (by rw [cell_of_row _ _ 1 _ _ _ HR9.out.1]; rfl)
      clear hk9 hc9 hr9
      go_wp2_with fail
      go_roundg (gn - (i + 1))
      case rel => exact ⟨i + 1, gs ++ [(Gx.mk z.name z.size vp z.pn cp z.pl)], some ⟨g8, 0, none⟩, c8, by go_num, by omega, rfl, HC9.out, HG9, HO9, HK9, HR9⟩
      case measure => omega
    · obtain rfl : gn = i := by omega
      have hlt' : ¬ (gn : Int) < (gn : Int) := by omega
      go_wp2_with fail
      clear hlt' hgk
      obtain ⟨gva, hgva⟩ : ∃ q, va = q := ⟨_, rfl⟩
      obtain ⟨gca, hgca⟩ : ∃ q, ca = q := ⟨_, rfl⟩
      rw [hgva, hgca] at HOG HRR
      clear hgva hgca
      go_loopg [32] fn (fun gg v wr => ∃ (i : Nat) (ys : List Fx) (va : Option Addr) (ca : Nat), v = .int .i64 (i : Int) ∧ i ≤ fn ∧ gg = fn - i ∧ Hid (ys.length = i ∧ sameRow Fx.same (p.fl.take i) ys = true ∧ (∀ y ∈ ys, SmallFx y ∧ FxB y ∧ OFx wr B0 y)) ∧ Hid (wr.ownsRow B0 42 6 (.slice va i ca) i (ys.flatMap Fx.cells)) ∧ Hid (Keeps No w wr) ∧ Hid (wr.heap[B0]? = some (.cells #[.slice ga gn gc, .slice fa fn fc, .int .i64 mn] 36 (0, 0)) ∧ wr.heap[B0 + 1]? = some (.cells #[.slice none 0 0, .slice none 0 0, .int .i64 0] 36 (0, 0)) ∧ wr.heap[B0 + 2]? = some (.cells #[.slice gva gn gca, .slice va i ca, .int .i64 mn] 36 (0, 0))) ∧ Hid (GG wr B0 (.slice gva gn gca) gn gs))
      case atStart => exact ⟨0, [], none, 0, rfl, Nat.zero_le _, rfl, Lib.hid ⟨rfl, rfl, fun y hy => by cases hy⟩, Lib.hid (World.ownsRow_nil _ _ _ _), HK, HRR, Lib.hid ⟨HOG.out, HGS'.out.2.2⟩⟩
      clear HK HRR HOG c1'
      case round =>
        obtain ⟨i, ys, va, ca, rfl, hi, hgk, HYS, HOW, HK, HRR, HGG⟩ := hrel
        by_cases hlt : i < fn
        · have hlt' : (i : Int) < (fn : Int) := by omega
          have ip0 : (0 : Int) ≤ (i : Int) := by omega
          obtain ⟨xb, xo, z, hz, hza, hzt, hzo⟩ := Pg.fget HP.out (i := i) (by rw [HPP.out.2.1]; exact hlt)
          obtain rfl := HPP.out.1.symm.trans hza
          have x0 := HK.out.cell0 (hzt 0 _ rfl)
          have x1 := HK.out.cell0 (hzt 1 _ rfl)
          have x2 := HK.out.cell0 (hzt 2 _ rfl)
          have x3 := HK.out.cell0 (hzt 3 _ rfl)
          have x4 := HK.out.cell0 (hzt 4 _ rfl)
          have x5 := HK.out.cell0 (hzt 5 _ rfl)
          rw [Nat.add_zero] at x0
          have HC := Lib.hid (fun (W : World) (hk : Keeps No w W) => copyFn_any z W (hzo.no hk) (HS.out z (List.mem_of_getElem? hz)))
          have HZ := Lib.hid hz
          clear hz hza hzt hzo
          go_wp2_with fail
          obtain ⟨gx, hgx⟩ : ∃ q, wr.heap.size = q := ⟨_, rfl⟩
          obtain ⟨wx, hwx⟩ : ∃ W, wr.alloc (.cells #[.string z.name, .int .i64 z.params, .int .i64 z.regs, z.slots.v, .slice z.ba z.bn z.bc, .bool z.value] 42) = W := ⟨_, rfl⟩
          have hkx : Keeps No wr wx := by rw [← hwx]; exact (Keeps.refl _ _).alloc _
          have hrx : wx.heap[gx]? = some (.cells #[.string z.name, .int .i64 z.params, .int .i64 z.regs, z.slots.v, .slice z.ba z.bn z.bc, .bool z.value] 42 (0, 0)) := by rw [← hwx, ← hgx]; exact heap_alloc_new _ _
          have HOX := Lib.hid (keeps_row HOW.out hkx (fun _ _ e => e))
          have HGX := Lib.hid (HGG.out.no hkx)
          have HKX := Lib.hid (HK.out.trans hkx (fun _ _ e => e))
          have HYX : Hid (ys.length = i ∧ sameRow Fx.same (p.fl.take i) ys = true ∧ (∀ y ∈ ys, SmallFx y ∧ FxB y ∧ OFx wx B0 y)) := Lib.hid ⟨HYS.out.1, HYS.out.2.1, fun y hy => ⟨(HYS.out.2.2 y hy).1, (HYS.out.2.2 y hy).2.1, (HYS.out.2.2 y hy).2.2.no hkx⟩⟩
          have HRX : Hid (wx.heap[B0]? = some (.cells #[.slice ga gn gc, .slice (some ⟨xb, xo, none⟩) fn fc, .int .i64 mn] 36 (0, 0)) ∧ wx.heap[B0 + 1]? = some (.cells #[.slice none 0 0, .slice none 0 0, .int .i64 0] 36 (0, 0)) ∧ wx.heap[B0 + 2]? = some (.cells #[.slice gva gn gca, .slice va i ca, .int .i64 mn] 36 (0, 0))) := Lib.hid ⟨(hkx.block _ (Array.getElem?_eq_some_iff.1 HRR.out.1).1 (fun e => e)).trans HRR.out.1, (hkx.block _ (Array.getElem?_eq_some_iff.1 HRR.out.2.1).1 (fun e => e)).trans HRR.out.2.1, (hkx.block _ (Array.getElem?_eq_some_iff.1 HRR.out.2.2).1 (fun e => e)).trans HRR.out.2.2⟩
          have hsx : wx.heap.size = gx + 1 := by rw [← hwx, ← hgx]; simp
          have hvg : (Value.slice va i ca).ownBlock ≠ some gx := fun e => by have := (HOW.out.lt gx e).2; omega
          have hvo : (Value.slice va i ca).ownBlock ≠ some (B0 + 2) := own_ne HOX.out HRX.out.2.2 (by decide)
          have hxf : x0 = x0 := rfl
          simp only [Sl.v] at hwx
          rw [hwx]
          simp only [hgx]
          clear x0 x1 x2 x3 x4 x5 hxf
          have e1 : ∀ u : KS (fun q => (Value.slice va i ca).ownBlock = some q) wx, u.W.cell? ⟨B0 + 1 + 1, 1, none⟩ = some (.slice va i ca) := fun u => u.cell (by rw [show B0 + 1 + 1 = B0 + 2 from rfl, cell_of_row wx _ 1 _ _ _ HRX.out.2.2]; rfl) hvo
          have g0 : ∀ u : KS (fun q => (Value.slice va i ca).ownBlock = some q) wx, u.W.cell? ⟨gx, 0, none⟩ = some (.string z.name) := fun u => u.cell (by rw [cell_of_row wx gx 0 _ _ _ hrx]; rfl) hvg
          have g1 : ∀ u : KS (fun q => (Value.slice va i ca).ownBlock = some q) wx, u.W.cell? ⟨gx, 1, none⟩ = some (.int .i64 z.params) := fun u => u.cell (by rw [cell_of_row wx gx 1 _ _ _ hrx]; rfl) hvg
          have g2 : ∀ u : KS (fun q => (Value.slice va i ca).ownBlock = some q) wx, u.W.cell? ⟨gx, 2, none⟩ = some (.int .i64 z.regs) := fun u => u.cell (by rw [cell_of_row wx gx 2 _ _ _ hrx]; rfl) hvg
          have g3 : ∀ u : KS (fun q => (Value.slice va i ca).ownBlock = some q) wx, u.W.cell? ⟨gx, 3, none⟩ = some z.slots.v := fun u => u.cell (by rw [cell_of_row wx gx 3 _ _ _ hrx]; rfl) hvg
          have g4 : ∀ u : KS (fun q => (Value.slice va i ca).ownBlock = some q) wx, u.W.cell? ⟨gx, 4, none⟩ = some (.slice z.ba z.bn z.bc) := fun u => u.cell (by rw [cell_of_row wx gx 4 _ _ _ hrx]; rfl) hvg
          have g5 : ∀ u : KS (fun q => (Value.slice va i ca).ownBlock = some q) wx, u.W.cell? ⟨gx, 5, none⟩ = some (.bool z.value) := fun u => u.cell (by rw [cell_of_row wx gx 5 _ _ _ hrx]; rfl) hvg
          have hne : Nonempty (KS (fun q => (Value.slice va i ca).ownBlock = some q) wx) := ⟨⟨wx, Keeps.refl _ _⟩⟩
          clear hkx hrx hwx hvg hvo hgx
          refine Mix.wp_region_mix (fun W => ∃ u : KS (fun q => (Value.slice va i ca).ownBlock = some q) wx, W = u.W) [7] (by kernel_rfl) ?_
          have HKD : Hid (Keeps (fun q => (Value.slice va i ca).ownBlock = some q) wx wx.drew) := Lib.hid ((Keeps.refl _ wx).drew)
          have HKN : Hid (Keeps No wx wx.drew) := Lib.hid ((Keeps.refl _ wx).drew)
          generalize wx.drew = wd at HKD HKN ⊢
          refine Mix.mix_seg 0 3 5 (by kernel_rfl) (by kernel_rfl) rfl rfl ⟨⟨wd, HKD.out⟩, rfl⟩ ?_
          simp only [List.drop_succ_cons, List.drop_zero, List.take_succ_cons, List.take_zero]
          repeat (go_big_quiet_step (fail))
          refine wpQuiet_nil ?_
          clear e1 g0 g1 g2 g3 g4 g5 hne
          refine Mix.mix_one 3 4 (by kernel_rfl) rfl rfl ?_
          simp only [List.drop_succ_cons, List.drop_zero, List.take_succ_cons, List.take_zero]
          go_wp2_with fail
          refine (HC.out wd (HKX.out.trans HKN.out (fun _ _ e => e))).mono ?_
          rintro e w4 ⟨y, rfl, hxy, hsy, hyb, hyO, hk4⟩
          have hk5 : Keeps No wx w4 := HKN.out.trans hk4 (fun _ _ e => e)
          have HK5 := Lib.hid hk5
          have HKW := Lib.hid (HKX.out.trans hk5 (fun _ _ e => e))
          have HO4 := Lib.hid (keeps_row HOX.out hk5 (fun _ _ e => e))
          have HGG4 := Lib.hid (HGX.out.no hk5)
          have HY4 : Hid (ys.length = i ∧ sameRow Fx.same (p.fl.take i) ys = true ∧ (∀ y ∈ ys, SmallFx y ∧ FxB y ∧ OFx w4 B0 y)) := Lib.hid ⟨HYX.out.1, HYX.out.2.1, fun y hy => ⟨(HYX.out.2.2 y hy).1, (HYX.out.2.2 y hy).2.1, (HYX.out.2.2 y hy).2.2.no hk5⟩⟩
          have HYY : Hid (z.same y = true ∧ SmallFx y ∧ FxB y ∧ OFx w4 B0 y) := Lib.hid ⟨hxy, hsy, hyb, hyO.mono (by have h1 := HKN.out.size; have h2 := HKX.out.size; rw [HB0.out] at h2; omega)⟩
          have HR4 : Hid (w4.heap[B0]? = some (.cells #[.slice ga gn gc, .slice (some ⟨xb, xo, none⟩) fn fc, .int .i64 mn] 36 (0, 0)) ∧ w4.heap[B0 + 1]? = some (.cells #[.slice none 0 0, .slice none 0 0, .int .i64 0] 36 (0, 0)) ∧ w4.heap[B0 + 2]? = some (.cells #[.slice gva gn gca, .slice va i ca, .int .i64 mn] 36 (0, 0))) := Lib.hid ⟨(hk5.block _ (Array.getElem?_eq_some_iff.1 HRX.out.1).1 (fun e => e)).trans HRX.out.1, (hk5.block _ (Array.getElem?_eq_some_iff.1 HRX.out.2.1).1 (fun e => e)).trans HRX.out.2.1, (hk5.block _ (Array.getElem?_eq_some_iff.1 HRX.out.2.2).1 (fun e => e)).trans HRX.out.2.2⟩
          clear hxy hsy hyb hyO hk4 hk5 HC
          go_wp2_with fail
          refine ⟨.inr ⟨⟨w4, HK5.out.mono (fun _ _ e => e.elim)⟩, rfl⟩, ?_⟩
          refine Mix.mix_one 4 3 (by kernel_rfl) rfl rfl ?_
          simp only [List.drop_succ_cons, List.drop_zero, List.take_succ_cons, List.take_zero]
          go_wp2_with fail
          refine ⟨.inr ⟨⟨_, (HK5.out.mono (fun _ _ e => e.elim)).alloc _⟩, rfl⟩, ?_⟩
          have HOA := Lib.hid (fun o : Obj => HO4.out.alloc o)
          have HNW := Lib.hid (news_one w4 y.cells 42)
          have HON := Lib.hid (fx_one1 y)
          have HBB : Hid (B0 ≤ w4.heap.size) := Lib.hid (by have := HKW.out.size; rw [HB0.out] at this; exact this)
          have HMX : Hid (i + 1 ≤ maxLen) := Lib.hid (by unfold maxLen; omega)
          refine Mix.mix_one 5 2 (by kernel_rfl) rfl rfl ?_
          simp only [List.drop_succ_cons, List.drop_zero, List.take_succ_cons, List.take_zero]
          refine wpList_append_lies _ rfl (.tmp 37) (.tmp 40) 34 rfl B0 42 ti _ 6 88 Tryd.underlying34 HI.out.1 HI.out.2.1 HI.out.2.2.1 HI.out.2.2.2 rfl (by decide) (.slice va i ca) i (ys.flatMap Fx.cells) rfl (HOA.out _) ⟨w4.heap.size, 0, none⟩ 1 1 y.cells rfl rfl HNW.out HON.out (by decide) HMX.out (by omega) (Nat.le_trans HBB.out (by simp)) _ rfl ?_
          intro g5 c5 w5 ho5 hg5 hl5 _
          have hka : Keeps No w4 (w4.alloc (.cells #[.string y.name, .int .i64 y.params, .int .i64 y.regs, y.slots.v, .slice y.ba y.bn y.bc, .bool y.value] 42)) := (Keeps.refl _ _).alloc _
          have hk6 : Keeps (fun q => (Value.slice va i ca).ownBlock = some q) (w4.alloc (.cells #[.string y.name, .int .i64 y.params, .int .i64 y.regs, y.slots.v, .slice y.ba y.bn y.bc, .bool y.value] 42)) w5 := (Keeps.refl _ _).grown hg5 (fun q e => .inl e)
          have hcell : ∀ q, (Value.slice va i ca).ownBlock = some q → ∃ cs e, (w4.alloc (.cells #[.string y.name, .int .i64 y.params, .int .i64 y.regs, y.slots.v, .slice y.ba y.bn y.bc, .bool y.value] 42)).heap[q]? = some (.cells cs e (0, 0)) ∧ e ≠ 3 ∧ e ≠ 2 ∧ e ≠ 27 ∧ e ≠ 45 := fun q e => by
            rcases (HOA.out (Obj.cells #[.string y.name, .int .i64 y.params, .int .i64 y.regs, y.slots.v, .slice y.ba y.bn y.bc, .bool y.value] 42)).2 with ⟨e2, _⟩ | ⟨g', cap, cur, e2, _, hh, _⟩
            · rw [e2] at e; simp [Value.ownBlock] at e
            · rw [e2] at e; simp [Value.ownBlock] at e; subst e; exact ⟨cur, _, hh, by decide, by decide, by decide, by decide⟩
          have hcellG : ∀ q, (Value.slice va i ca).ownBlock = some q → ∃ cs e, (w4.alloc (.cells #[.string y.name, .int .i64 y.params, .int .i64 y.regs, y.slots.v, .slice y.ba y.bn y.bc, .bool y.value] 42)).heap[q]? = some (.cells cs e (0, 0)) ∧ e ≠ 51 ∧ e ≠ 49 := fun q e => by
            rcases (HOA.out (Obj.cells #[.string y.name, .int .i64 y.params, .int .i64 y.regs, y.slots.v, .slice y.ba y.bn y.bc, .bool y.value] 42)).2 with ⟨e2, _⟩ | ⟨g', cap, cur, e2, _, hh, _⟩
            · rw [e2] at e; simp [Value.ownBlock] at e
            · rw [e2] at e; simp [Value.ownBlock] at e; subst e; exact ⟨cur, _, hh, by decide, by decide⟩
          have HGG5 := Lib.hid ((HGG4.out.no hka).keep hk6 hcellG)
          clear hcellG
          have hnp : ∀ (k : Nat), (∃ cs : Array Value, w4.heap[k]? = some (.cells cs 36 (0, 0))) → (Value.slice va i ca).ownBlock ≠ some k := fun k ⟨cs, hc⟩ => own_ne HO4.out hc (by decide)
          have hkeep : ∀ (k : Nat) (cs : Array Value), w4.heap[k]? = some (.cells cs 36 (0, 0)) → w5.heap[k]? = some (.cells cs 36 (0, 0)) := fun k cs hc => by
            have hl := (Array.getElem?_eq_some_iff.1 hc).1
            rw [hk6.block k (by simp; omega) (hnp k ⟨cs, hc⟩), Below.heap_alloc _ _ _ hl]; exact hc
          have HR5 : Hid (w5.heap[B0]? = some (.cells #[.slice ga gn gc, .slice (some ⟨xb, xo, none⟩) fn fc, .int .i64 mn] 36 (0, 0)) ∧ w5.heap[B0 + 1]? = some (.cells #[.slice none 0 0, .slice none 0 0, .int .i64 0] 36 (0, 0)) ∧ w5.heap[B0 + 2]? = some (.cells #[.slice gva gn gca, .slice va i ca, .int .i64 mn] 36 (0, 0))) := Lib.hid ⟨hkeep _ _ HR4.out.1, hkeep _ _ HR4.out.2.1, hkeep _ _ HR4.out.2.2⟩
          have HO5 : Hid (w5.ownsRow B0 42 6 (.slice (some ⟨g5, 0, none⟩) (i + 1) c5) (i + 1) ((ys ++ [y]).flatMap Fx.cells)) := Lib.hid (by rw [List.flatMap_append]; simpa using ho5)
          have HKC : Hid (Keeps (fun q => (Value.slice va i ca).ownBlock = some q) wx w5) := Lib.hid (((HK5.out.mono (fun _ _ e => e.elim)).trans hka (fun _ _ e => e.elim)).trans hk6 (fun _ _ e => e))
          have HKV : Hid (Keeps No w w5) := Lib.hid ((HKW.out.trans hka (fun _ _ e => e)).trans hk6 (fun q hq e => by have := (HO4.out.lt q e).1; rw [HB0.out] at hq; omega))
          have HY5 : Hid ((ys ++ [y]).length = i + 1 ∧ sameRow Fx.same (p.fl.take (i + 1)) (ys ++ [y]) = true ∧ (∀ t ∈ ys ++ [y], SmallFx t ∧ FxB t ∧ OFx w5 B0 t)) := Lib.hid ⟨by simp [HY4.out.1], row_snoc _ HZ.out HY4.out.1 HY4.out.2.1 HYY.out.1, fun t ht => by
            rcases List.mem_append.1 ht with h | h
            · have := HY4.out.2.2 t h; exact ⟨this.1, this.2.1, (this.2.2.no hka).keep hk6 hcell⟩
            · obtain rfl : t = y := by simpa using h
              exact ⟨HYY.out.2.1, HYY.out.2.2.1, (HYY.out.2.2.2.no hka).keep hk6 hcell⟩⟩
          clear ho5 hg5 hl5 hka hk6 hcell hnp hkeep
          go_wp2_with fail
          refine ⟨.inr ⟨⟨w5, HKC.out⟩, rfl⟩, ?_⟩
          refine Mix.mix_one 6 1 (by kernel_rfl) rfl rfl ?_
          simp only [List.drop_succ_cons, List.drop_zero, List.take_succ_cons, List.take_zero]
          go_wp2_with fail
          refine ⟨.inr ⟨⟨w5, HKC.out⟩, rfl⟩, ?_⟩
          have s1 : w5.cell? ⟨B0 + 2, 1, none⟩ = some (.slice va i ca) := by rw [cell_of_row w5 _ 1 _ _ _ HR5.out.2.2]; rfl
          have s2 : w5.frozen? ⟨B0 + 2, 1, none⟩ = false := frozen_of_row w5 _ 1 _ _ HR5.out.2.2
          refine Mix.mix_one 7 0 (by kernel_rfl) rfl rfl ?_
          simp only [List.drop_succ_cons, List.drop_zero, List.take_succ_cons, List.take_zero]
          go_wp2_with fail
          refine ⟨.inl ⟨rfl, rfl⟩, ?_⟩
          refine Mix.mix_end (by kernel_rfl) ?_
          have hr6 : (w5.setCell ⟨B0 + 2, 1, none⟩ (.slice (some ⟨g5, 0, none⟩) (i + 1) c5)).heap[B0 + 2]? = some (.cells #[.slice gva gn gca, .slice (some ⟨g5, 0, none⟩) (i + 1) c5, .int .i64 mn] 36 (0, 0)) := by rw [heap_setCell_same w5 (B0 + 2) 1 _ _ _ HR5.out.2.2]; rfl
          have hk7 : Keeps (fun q => q = B0 + 2) w5 (w5.setCell ⟨B0 + 2, 1, none⟩ (.slice (some ⟨g5, 0, none⟩) (i + 1) c5)) := (Keeps.refl (fun q => q = B0 + 2) w5).setCell (.inl rfl) _
          have hcell : ∀ q, q = B0 + 2 → ∃ cs e, w5.heap[q]? = some (.cells cs e (0, 0)) ∧ e ≠ 3 ∧ e ≠ 2 ∧ e ≠ 27 ∧ e ≠ 45 := fun q e => by subst e; exact ⟨_, _, HR5.out.2.2, by decide, by decide, by decide, by decide⟩
          have HR6 : Hid ((w5.setCell ⟨B0 + 2, 1, none⟩ (.slice (some ⟨g5, 0, none⟩) (i + 1) c5)).heap[B0]? = some (.cells #[.slice ga gn gc, .slice (some ⟨xb, xo, none⟩) fn fc, .int .i64 mn] 36 (0, 0)) ∧ (w5.setCell ⟨B0 + 2, 1, none⟩ (.slice (some ⟨g5, 0, none⟩) (i + 1) c5)).heap[B0 + 1]? = some (.cells #[.slice none 0 0, .slice none 0 0, .int .i64 0] 36 (0, 0)) ∧ (w5.setCell ⟨B0 + 2, 1, none⟩ (.slice (some ⟨g5, 0, none⟩) (i + 1) c5)).heap[B0 + 2]? = some (.cells #[.slice gva gn gca, .slice (some ⟨g5, 0, none⟩) (i + 1) c5, .int .i64 mn] 36 (0, 0))) := Lib.hid ⟨(hk7.block _ (Array.getElem?_eq_some_iff.1 HR5.out.1).1 (by omega)).trans HR5.out.1, (hk7.block _ (Array.getElem?_eq_some_iff.1 HR5.out.2.1).1 (by omega)).trans HR5.out.2.1, hr6⟩
          have HO6 := Lib.hid (keeps_row HO5.out hk7 (fun q hq e => by subst e; exact own_ne HO5.out HR5.out.2.2 (by decide) hq))
          have HK6 : Hid (Keeps No w (w5.setCell ⟨B0 + 2, 1, none⟩ (.slice (some ⟨g5, 0, none⟩) (i + 1) c5))) := Lib.hid (HKV.out.setCell (.inr (by rw [HB0.out]; simp only; omega)) _)
          have HY6 : Hid ((ys ++ [y]).length = i + 1 ∧ sameRow Fx.same (p.fl.take (i + 1)) (ys ++ [y]) = true ∧ (∀ t ∈ ys ++ [y], SmallFx t ∧ FxB t ∧ OFx (w5.setCell ⟨B0 + 2, 1, none⟩ (.slice (some ⟨g5, 0, none⟩) (i + 1) c5)) B0 t)) := Lib.hid ⟨HY5.out.1, HY5.out.2.1, fun t ht => ⟨(HY5.out.2.2 t ht).1, (HY5.out.2.2 t ht).2.1, (HY5.out.2.2 t ht).2.2.keep hk7 hcell⟩⟩
          have HGG6 := Lib.hid (HGG5.out.keep hk7 (fun q e => by subst e; exact ⟨_, _, HR5.out.2.2, by decide, by decide⟩))
          clear hr6 hk7 hcell s1 s2
          go_wp2_with fail
          go_roundg (fn - (i + 1))
          case rel => exact ⟨i + 1, ys ++ [y], some ⟨g5, 0, none⟩, c5, by go_num, by omega, rfl, HY6, HO6, HK6, HR6, HGG6⟩
          case measure => omega
        · obtain rfl : i = fn := by omega
          have hlt' : ¬ (i : Int) < (i : Int) := by omega
          have d0 : wr.cell? ⟨B0 + 2, 0, none⟩ = some (.slice gva gn gca) := by rw [cell_of_row wr _ 0 _ _ _ HRR.out.2.2]; rfl
          have d1 : wr.cell? ⟨B0 + 2, 1, none⟩ = some (.slice va i ca) := by rw [cell_of_row wr _ 1 _ _ _ HRR.out.2.2]; rfl
          have d2 : wr.cell? ⟨B0 + 2, 2, none⟩ = some (.int .i64 mn) := by rw [cell_of_row wr _ 2 _ _ _ HRR.out.2.2]; rfl
          go_wp2_with (first | (refine wpList_store_row rfl _ _ _ rfl (B0 + 1) #[.slice gva gn gca, .slice va i ca, .int .i64 mn] rfl rfl _ _ HRR.out.2.1 infoPgS rfl (by simp [Value.oneCell']) ?_))
          obtain ⟨w9, hw9⟩ : ∃ W, wr.setRow (B0 + 1) #[.slice gva gn gca, .slice va i ca, .int .i64 mn] = W := ⟨_, rfl⟩
          have hr9 : w9.heap[B0 + 1]? = some (.cells #[.slice gva gn gca, .slice va i ca, .int .i64 mn] 36 (0, 0)) := by rw [← hw9]; exact setRow_heap wr (B0 + 1) _ _ _ _ HRR.out.2.1
          have hk9 : Keeps (fun q => q = B0 + 1) wr w9 := by rw [← hw9]; exact (Keeps.refl (fun q => q = B0 + 1) wr).setRow (.inl rfl) _
          have hkw : Keeps No w w9 := HK.out.trans hk9 (fun q hq e => by rw [HB0.out] at hq; omega)
          have hrc : ∀ j, w9.cell? ⟨B0 + 1, j, none⟩ = (#[.slice gva gn gca, .slice va i ca, .int .i64 mn] : Array Value)[j]? := fun j => cell_of_row w9 _ j _ _ _ hr9
          have hcell : ∀ q, q = B0 + 1 → ∃ cs e, wr.heap[q]? = some (.cells cs e (0, 0)) ∧ e ≠ 3 ∧ e ≠ 2 ∧ e ≠ 27 ∧ e ≠ 45 := fun q e => by subst e; exact ⟨_, _, HRR.out.2.1, by decide, by decide, by decide, by decide⟩
          have ho9 := keeps_row HOW.out hk9 (fun q hq e => by obtain ⟨cs, e2, hc, _⟩ := hcell q e; subst e; exact own_ne HOW.out HRR.out.2.1 (by decide) hq)
          rw [hw9]
          refine bodyPost_ret (v := .agg #[.slice gva gn gca, .slice va i ca, .int .i64 mn]) ?_ ?_ ?_
          · simp [results, Tryd.results32, go_sem, hrc]
          · rfl
          · unfold CopyPg
            have hsl : ys.length = i := HYS.out.1
            have hG9 : GG w9 B0 (.slice gva gn gca) gn gs := HGG.out.keep hk9 (fun q e => by subst e; exact ⟨_, _, HRR.out.2.1, by decide, by decide⟩)
            refine ⟨⟨gva, gn, gca, gs, va, i, ca, ys, mn⟩, rfl, HPP.out.2.2.1.symm, ?_, ?_, ?_, hkw⟩
            · have h := HGS'.out.2.1
              rw [List.take_of_length_le (by have := HP.out.glen; have := HPG.out.2; omega)] at h
              exact h
            · have h := HYS.out.2.1
              rw [List.take_of_length_le (by have := HP.out.flen; have := HPP.out.2.1; omega)] at h
              exact h
            · rw [HB0.out]
              exact ⟨by rw [← HPP.out.2.2.1]; exact HPP.out.2.2.2, hG9.o, HGS'.out.1, hG9.ok, ho9, hsl, fun y hy => ⟨(HYS.out.2.2 y hy).1, (HYS.out.2.2 y hy).2.1, (HYS.out.2.2 y hy).2.2.keep hk9 hcell⟩⟩
end Go.Proofs.YtbfjmhfhhlncjaaDoor
/- ir.Copy, of any program. -/
namespace Go.Proofs.YtbfjmhfhhlncjaaDoor
open Go.RowKit
set_option linter.unusedVariables false
set_option linter.unusedSimpArgs false

set_option maxRecDepth 100000 in
set_option maxHeartbeats 3200000 in
theorem copy_any (p : Pg) (w : World) (hp : PgOk w p) (hgn : p.gn ≤ 100000) (hgs : ∀ g ∈ p.gl, g.pn ≤ 1000000) (hn : p.fn ≤ 100000) (hs : ∀ f ∈ p.fl, SmallFx f) : Calls Tryd.prog 16 #[pv p] w (CopyPg p w) := by
  have HC := Lib.hid (fun (W : World) (hk : Keeps No w W) => copyProg_any p W (hp.no hk) hgn hgs hn hs)
  clear hp hgn hgs hn hs
  go_enter Tryd.func16, Tryd.ntmps16
  go_wp2_with fail
  have hka : Keeps No w ((w.alloc (.cells #[.slice p.ga p.gn p.gc, .slice p.fa p.fn p.fc, .int .i64 p.main] 36)).alloc (.cells #[.slice none 0 0, .slice none 0 0, .int .i64 0] 36)) := ((Keeps.refl No w).alloc _).alloc _
  refine (HC.out _ hka).mono ?_
  rintro e w1 ⟨y, rfl, hm, hsm, hg, hok, hk⟩
  obtain ⟨B0, hB0⟩ : ∃ q, w.heap.size = q := ⟨_, rfl⟩
  have hr : w1.heap[B0 + 1]? = some (.cells #[.slice none 0 0, .slice none 0 0, .int .i64 0] 36 (0, 0)) := by
    rw [hk.block (B0 + 1) (by simp; omega) (fun e => e), ← hB0]
    exact (by simpa using heap_alloc_new (w.alloc (.cells #[.slice p.ga p.gn p.gc, .slice p.fa p.fn p.fc, .int .i64 p.main] 36)) (.cells #[.slice none 0 0, .slice none 0 0, .int .i64 0] 36))
  have HR := Lib.hid hr
  have HK := Lib.hid (hka.trans hk (fun _ _ e => e))
  have HB := Lib.hid hB0
  have HY := Lib.hid (And.intro hm (And.intro hsm (And.intro hg hok)))
  simp only [hB0]
  have s0 : w1.cell? ⟨B0 + 1, 0, none⟩ = some (.slice none 0 0) := by rw [cell_of_row w1 _ 0 _ _ _ hr]; rfl
  clear hr hk hka hB0 hm hsm hg hok HC
  go_wp2_with (first | (refine wpList_store_row rfl _ _ _ rfl (B0 + 1) #[.slice y.ga y.gn y.gc, .slice y.fa y.fn y.fc, .int .i64 y.main] rfl rfl _ _ HR.out infoPgS rfl (by simp [Value.oneCell']) ?_))
  obtain ⟨w9, hw9⟩ : ∃ W, w1.setRow (B0 + 1) #[.slice y.ga y.gn y.gc, .slice y.fa y.fn y.fc, .int .i64 y.main] = W := ⟨_, rfl⟩
  have hr9 : w9.heap[B0 + 1]? = some (.cells #[.slice y.ga y.gn y.gc, .slice y.fa y.fn y.fc, .int .i64 y.main] 36 (0, 0)) := by rw [← hw9]; exact setRow_heap w1 (B0 + 1) _ _ _ _ HR.out
  have hrc : ∀ j, w9.cell? ⟨B0 + 1, j, none⟩ = (#[.slice y.ga y.gn y.gc, .slice y.fa y.fn y.fc, .int .i64 y.main] : Array Value)[j]? := fun j => cell_of_row w9 _ j _ _ _ hr9
  have hk9 : Keeps (fun q => q = B0 + 1) w1 w9 := by rw [← hw9]; exact (Keeps.refl (fun q => q = B0 + 1) w1).setRow (.inl rfl) _
  rw [hw9]
  refine bodyPost_ret (v := .agg #[.slice y.ga y.gn y.gc, .slice y.fa y.fn y.fc, .int .i64 y.main]) ?_ ?_ ?_
  · simp [results, Tryd.results16, go_sem, hrc]
  · rfl
  · unfold CopyPg
    refine ⟨y, rfl, HY.out.1, HY.out.2.1, HY.out.2.2.1, ?_, HK.out.trans hk9 (fun q hq e => by rw [HB.out] at hq; omega)⟩
    have h1 := HY.out.2.2.2
    refine (h1.low (hk9.mono (fun q _ e => by have := HB.out; simp; omega))).mono (by simp; omega)
end Go.Proofs.YtbfjmhfhhlncjaaDoor
