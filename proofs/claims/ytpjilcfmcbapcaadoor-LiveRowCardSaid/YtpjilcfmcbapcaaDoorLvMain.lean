/- span.reckon: what lies in memory while the work list is gone through. -/
import Derived.Test.YtpjilcfmcbapcaaDoorLvInit
import Derived.Laws.CopyOwn
namespace Go.Proofs.YtpjilcfmcbapcaaDoor
open Go.RowKit
set_option linter.unusedVariables false
set_option linter.unusedSimpArgs false

/-- What is not written any more. -/
structure FX (w0 w : World) (n W M GI GO GB Bw fb fo : Nat) (gi go : Nat → Nat) (vs : Nat → Value) (L : Nat → List Int) : Prop where
  k : Keeps No w0 w
  m : w.heap[M]? = some (.cells #[.slice (some ⟨GI, 0, none⟩) n n, .slice (some ⟨GO, 0, none⟩) n n, .pointer (some ⟨fb, fo, none⟩), .bool false] 61 (0, 0))
  hi : w.heap[GI]? = some (.cells (slotRow n n gi W).toArray 66 (0, 0))
  ho : w.heap[GO]? = some (.cells (slotRow n n go W).toArray 66 (0, 0))
  hb : w.heap[GB]? = some (.cells (vrow n vs).toArray 22 (0, 0))
  r : BRows w0.heap.size w n vs L
  t : LaidT w
  tb : 0 < w0.heap.size
  lm : w0.heap.size ≤ M
  bw : ∀ c q, c < n → (vs c).ownBlock = some q → q < Bw
  lw : w0.heap.size ≤ Bw
/-- What may be written: sets, flags, and the list's own row. -/
def MayW (w0 w : World) (Bw q : Nat) : Prop := w0.heap.size ≤ q ∧ ∃ cs ty, w.heap[q]? = some (.cells cs ty (0, 0)) ∧ (ty = 81 ∨ ty = 4 ∨ (ty = 3 ∧ Bw ≤ q))
section
variable {w0 w w' : World} {n W M GI GO GB Bw fb fo : Nat} {gi go : Nat → Nat} {vs : Nat → Value} {L : Nat → List Int}
theorem MayW.ne {q k : Nat} {cs : Array Value} {ty : TypeId} (h : MayW w0 w Bw q) (hk : w.heap[k]? = some (.cells cs ty (0, 0))) (h1 : ty ≠ 81) (h2 : ty ≠ 4) (h3 : ty ≠ 3) : q ≠ k := by
  obtain ⟨_, cs2, ty2, e, ht⟩ := h
  refine type_ne e hk (fun e2 => ?_)
  rcases ht with ht | ht | ⟨ht, _⟩
  · exact h1 (e2.symm.trans ht)
  · exact h2 (e2.symm.trans ht)
  · exact h3 (e2.symm.trans ht)
theorem FX.keep {S : Nat → Prop} (h : FX w0 w n W M GI GO GB Bw fb fo gi go vs L) (hk : Keeps S w w') (hS : ∀ q, q < w.heap.size → S q → MayW w0 w Bw q) : FX w0 w' n W M GI GO GB Bw fb fo gi go vs L := by
  have l : ∀ {k : Nat} {cs : Array Value} {ty : TypeId}, w.heap[k]? = some (.cells cs ty (0, 0)) → ty ≠ 81 → ty ≠ 4 → ty ≠ 3 → w'.heap[k]? = some (.cells cs ty (0, 0)) := fun {k : Nat} {cs : Array Value} {ty : TypeId} hh h1 h2 h3 =>
    (hk.block k (Array.getElem?_eq_some_iff.1 hh).1 (fun e => (hS k (Array.getElem?_eq_some_iff.1 hh).1 e).ne hh h1 h2 h3 rfl)).trans hh
  refine ⟨h.k.trans hk (fun q hq e => by have := (hS q (Nat.lt_of_lt_of_le hq h.k.size) e).1; omega), l h.m (by decide) (by decide) (by decide), l h.hi (by decide) (by decide) (by decide), l h.ho (by decide) (by decide) (by decide), l h.hb (by decide) (by decide) (by decide),
    ⟨fun c hc => own_kept (h.r.own c hc) (fun q hq => hk.block q (own_ltb (h.r.own c hc) hq) (fun e => ?_)), h.r.dis⟩, h.t.keep (S := S) hk (fun e => ?_), h.tb, h.lm, h.bw, h.lw⟩
  · obtain ⟨_, cs, ty, e1, e2⟩ := hS q (own_ltb (h.r.own c hc) hq) e
    obtain ⟨cs2, e3⟩ := own_typ (h.r.own c hc) hq
    rw [e1] at e3
    injection e3 with e3
    injection e3 with _ e3 _
    have hb := h.bw c q hc hq
    rcases e2 with e2 | e2 | ⟨_, e2⟩
    · rw [e3] at e2; exact absurd e2 (by decide)
    · rw [e3] at e2; exact absurd e2 (by decide)
    · omega
  · have h1 := (hS _ h.t.blk e).1
    have h2 := h.tb
    omega
theorem FX.of {w1 : World} {f : Fx} {R : Nat} (h : InitS w0 w1 f fb fo R n M GI GO GB W n n 0 gi go vs L) (ht : LaidT w0) (hk : Keeps No w1 w) (hB : w1.heap.size = Bw) : FX w0 w n W M GI GO GB Bw fb fo gi go vs L := by
  have l : ∀ {k o}, w1.heap[k]? = some o → w.heap[k]? = some o := fun {k o} h => (hk.block k (Array.getElem?_eq_some_iff.1 h).1 (fun e => e)).trans h
  exact ⟨h.k.trans hk (fun _ _ e => e), l h.m, l h.hi, l h.ho, l h.hb, h.r.keep hk (fun _ _ _ _ e => e), ht.keep (h.k.trans hk (fun _ _ e => e)) (fun e => e), ht.blk, h.lm, fun c q hc hq => by rw [← hB]; exact own_ltb (h.r.own c hc) hq, by rw [← hB]; exact h.k.size⟩
end
theorem own_take {w : World} {B z n g cap : Nat} {e : TypeId} {xs : List Value} (h : w.ownsRow B e z (.slice (some ⟨g, 0, none⟩) n cap) n xs) (m : Nat) (hm : m ≤ n) : w.ownsRow B e z (.slice (some ⟨g, 0, none⟩) m cap) m (xs.take (m * z)) := by
  rcases h.2 with ⟨e1, _⟩ | ⟨g', cap', cur, e1, hB, hg, h1, h2, h3, h4⟩
  · cases e1
  · injection e1 with e1 _ e2
    injection e1 with e1
    injection e1 with e1 _ _
    subst e1; subst e2
    have hl := h.1
    have hmz : m * z ≤ n * z := Nat.mul_le_mul_right z hm
    refine ⟨by rw [List.length_take, hl]; exact Nat.min_eq_left hmz, .inr ⟨g, cap, cur, rfl, hB, hg, by omega, h2, h3, ?_⟩⟩
    rw [← h4, List.take_take, Nat.min_eq_left hmz]
def ints (l : List Nat) : List Int := l.map Int.ofNat
theorem ints_len (l : List Nat) : (ints l).length = l.length := by unfold ints; rw [List.length_map]
theorem ints_app (l m : List Nat) : ints (l ++ m) = ints l ++ ints m := by unfold ints; rw [List.map_append]
/-- All that lies there, ahead of each round. -/
structure MS (w0 w : World) (n W M GI GO GB GT GN Bw fb fo : Nat) (gi go : Nat → Nat) (vs : Nat → Value) (L : Nat → List Int) (I O : Nat → Nat) (X : Nat) (wl fl : List Nat) (vw : Value) : Prop where
  fx : FX w0 w n W M GI GO GB Bw fb fo gi go vs L
  q : Sets w W n gi go I O
  ls : ∀ b, b < n → w0.heap.size ≤ gi b ∧ w0.heap.size ≤ go b
  nn : ∀ b, b < n → gi b ≠ GN ∧ go b ≠ GN
  now : WdAt w GN X W
  ln : w0.heap.size ≤ GN
  gt : w.heap[GT]? = some (.cells (vrow n (fun b => .bool (decide (b ∈ fl)))).toArray 4 (0, 0))
  lt : w0.heap.size ≤ GT
  wt : w.ownsRow Bw 3 1 vw wl.length (irow (ints wl))
section
variable {w0 w w' : World} {n W M GI GO GB GT GN Bw fb fo : Nat} {gi go : Nat → Nat} {vs : Nat → Value} {L : Nat → List Int} {I O : Nat → Nat} {X : Nat} {wl fl : List Nat} {vw : Value}
theorem own_keep {S : Nat → Prop} {B : Nat} {v : Value} {k : Nat} {xs : List Value} {e : TypeId} (h : w.ownsRow B e 1 v k xs) (hk : Keeps S w w') (hS : ∀ q, S q → v.ownBlock ≠ some q) : w'.ownsRow B e 1 v k xs :=
  own_kept h (fun q hq => hk.block q (own_ltb h hq) (fun e => hS q e hq))
/-- A set is written. -/
theorem MS.set {g Z Y : Nat} (h : MS w0 w n W M GI GO GB GT GN Bw fb fo gi go vs L I O X wl fl vw) (hg : WdAt w g Z W) (hg0 : w0.heap.size ≤ g) (hk : Keeps (fun q => q = g) w w') :
    FX w0 w' n W M GI GO GB Bw fb fo gi go vs L ∧ w'.heap[GT]? = some (.cells (vrow n (fun b => .bool (decide (b ∈ fl)))).toArray 4 (0, 0)) ∧ w'.ownsRow Bw 3 1 vw wl.length (irow (ints wl)) :=
  ⟨h.fx.keep hk (fun q _ e => by subst e; exact ⟨hg0, _, _, hg, .inl rfl⟩), (hk.block GT (Array.getElem?_eq_some_iff.1 h.gt).1 (type_ne h.gt hg (by decide))).trans h.gt,
    own_keep h.wt hk (fun q e hq => by subst e; obtain ⟨cs, hcs⟩ := own_typ h.wt hq; exact type_ne hg hcs (by decide) rfl)⟩
theorem MS.setN {Y : Nat} (h : MS w0 w n W M GI GO GB GT GN Bw fb fo gi go vs L I O X wl fl vw) (hk : Keeps (fun q => q = GN) w w') (hs : WdAt w' GN Y W) : MS w0 w' n W M GI GO GB GT GN Bw fb fo gi go vs L I O Y wl fl vw := by
  obtain ⟨a, b, c⟩ := h.set (Y := Y) h.now h.ln hk
  exact ⟨a, h.q.keep hk (fun b hb => h.nn b hb), h.ls, h.nn, hs, h.ln, b, h.lt, c⟩
theorem MS.setI {p Y : Nat} (h : MS w0 w n W M GI GO GB GT GN Bw fb fo gi go vs L I O X wl fl vw) (hp : p < n) (hk : Keeps (fun q => q = gi p) w w') (hs : WdAt w' (gi p) Y W) : MS w0 w' n W M GI GO GB GT GN Bw fb fo gi go vs L (upd I p Y) O X wl fl vw := by
  obtain ⟨a, b, c⟩ := h.set (Y := Y) (h.q.di p hp) (h.ls p hp).1 hk
  exact ⟨a, h.q.setI hp hk hs, h.ls, h.nn, h.now.keep hk (fun e => (h.nn p hp).1 e.symm), h.ln, b, h.lt, c⟩
theorem MS.setO {p Y : Nat} (h : MS w0 w n W M GI GO GB GT GN Bw fb fo gi go vs L I O X wl fl vw) (hp : p < n) (hk : Keeps (fun q => q = go p) w w') (hs : WdAt w' (go p) Y W) : MS w0 w' n W M GI GO GB GT GN Bw fb fo gi go vs L I (upd O p Y) X wl fl vw := by
  obtain ⟨a, b, c⟩ := h.set (Y := Y) (h.q.dq p hp) (h.ls p hp).2 hk
  exact ⟨a, h.q.setO hp hk hs, h.ls, h.nn, h.now.keep hk (fun e => (h.nn p hp).2 e.symm), h.ln, b, h.lt, c⟩
/-- A flag is written. -/
theorem MS.flag {p : Nat} {fl' : List Nat} {v : Bool} (h : MS w0 w n W M GI GO GB GT GN Bw fb fo gi go vs L I O X wl fl vw) (hp : p < n) (hv : ∀ b, decide (b ∈ fl') = if b = p then v else decide (b ∈ fl)) : MS w0 (w.setCell ⟨GT, p, none⟩ (.bool v)) n W M GI GO GB GT GN Bw fb fo gi go vs L I O X wl fl' vw := by
  have hk : Keeps (fun q => q = GT) w (w.setCell ⟨GT, p, none⟩ (.bool v)) := (Keeps.refl (fun q => q = GT) w).setCell (.inl rfl) _
  refine ⟨h.fx.keep hk (fun q _ e => by subst e; exact ⟨h.lt, _, _, h.gt, .inr (.inl rfl)⟩), h.q.keep hk (fun b hb => ⟨type_ne (h.q.di b hb) h.gt (by decide), type_ne (h.q.dq b hb) h.gt (by decide)⟩), h.ls, h.nn, h.now.keep hk (type_ne h.now h.gt (by decide)), h.ln, ?_, h.lt,
    own_keep h.wt hk (fun q e hq => by subst e; obtain ⟨cs, hcs⟩ := own_typ h.wt hq; exact type_ne h.gt hcs (by decide) rfl)⟩
  rw [heap_setCell_same w GT p _ _ _ h.gt]
  have e : (vrow n (fun b => Value.bool (decide (b ∈ fl)))).set p (.bool v) = vrow n (fun b => Value.bool (decide (b ∈ fl'))) := by
    rw [vrow_set _ _ hp]
    congr 1
    funext b
    rw [hv b]
    unfold upd
    split <;> rfl
  rw [← e]; simp
/-- The list's row is another one. -/
theorem MS.list {wl' : List Nat} {vw' : Value} (h : MS w0 w n W M GI GO GB GT GN Bw fb fo gi go vs L I O X wl fl vw) (ho : w.ownsRow Bw 3 1 vw' wl'.length (irow (ints wl'))) : MS w0 w n W M GI GO GB GT GN Bw fb fo gi go vs L I O X wl' fl vw' :=
  ⟨h.fx, h.q, h.ls, h.nn, h.now, h.ln, h.gt, h.lt, ho⟩
theorem MS.push {wl' : List Nat} {vw' : Value} (h : MS w0 w n W M GI GO GB GT GN Bw fb fo gi go vs L I O X wl fl vw) (hk : Keeps (fun q => vw.ownBlock = some q) w w') (ho : w'.ownsRow Bw 3 1 vw' wl'.length (irow (ints wl'))) : MS w0 w' n W M GI GO GB GT GN Bw fb fo gi go vs L I O X wl' fl vw' := by
  have nS : ∀ {k : Nat} {cs : Array Value} {ty : TypeId}, w.heap[k]? = some (.cells cs ty (0, 0)) → ty ≠ 3 → ¬ (vw.ownBlock = some k) := fun {k : Nat} {cs : Array Value} {ty : TypeId} hh h1 e => by
    obtain ⟨cs2, h2⟩ := own_typ h.wt e
    exact type_ne hh h2 h1 rfl
  exact ⟨h.fx.keep hk (fun q _ e => by obtain ⟨cs2, h2⟩ := own_typ h.wt e; have hb := own_lo h.wt q e; exact ⟨Nat.le_trans h.fx.lw hb, _, _, h2, .inr (.inr ⟨rfl, hb⟩)⟩), h.q.keep hk (fun b hb => ⟨nS (h.q.di b hb) (by decide), nS (h.q.dq b hb) (by decide)⟩), h.ls, h.nn, h.now.keep hk (nS h.now (by decide)), h.ln,
    (hk.block GT (Array.getElem?_eq_some_iff.1 h.gt).1 (nS h.gt (by decide))).trans h.gt, h.lt, ho⟩
/-- New blocks alone. -/
theorem MS.no (h : MS w0 w n W M GI GO GB GT GN Bw fb fo gi go vs L I O X wl fl vw) (hk : Keeps No w w') : MS w0 w' n W M GI GO GB GT GN Bw fb fo gi go vs L I O X wl fl vw :=
  ⟨h.fx.keep hk (fun _ _ e => e.elim), h.q.keep hk (fun _ _ => ⟨fun e => e, fun e => e⟩), h.ls, h.nn, h.now.keep hk (fun e => e), h.ln, (hk.block GT (Array.getElem?_eq_some_iff.1 h.gt).1 (fun e => e)).trans h.gt, h.lt, own_keep h.wt hk (fun _ e => e.elim)⟩
end
theorem sizeU : (Tryd.prog.info? 81).map (·.size) = some 1 := by kernel_rfl
/-- One set copied over another one, at the operation. -/
theorem wpList_copyS (w : World) {ops : Array Oper} {rest : List Oper} {o : Oper} {a : Act} {Q : Exit → Act → World → Prop} (hgd : o.guard = none) (d s : Operand)
    (ho : o.op = .call { callee := .builtin .copy, args := #[d, s], argTypes := #[66, 66] }) (g q X Y W : Nat) (hd : a.eval d = wv g W) (hs : a.eval s = wv q W) (hX : WdAt w g X W) (hY : WdAt w q Y W)
    (h : ∀ w', WdAt w' g Y W → Keeps (fun k => k = g) w w' → wpList Tryd.prog ops Q rest (a.put o.dst (.int .i64 W)) w') : wpList Tryd.prog ops Q (o :: rest) a w := by
  have hl : (ws Y W).length = W := ws_len _ _
  refine wpList_copy_own hgd d s _ _ ho 81 Tryd.underlying66 sizeU g 0 W W ⟨q, 0, none⟩ W W hd hs (ws X W).toArray 81 hX (ws Y W) (by rw [hl]; exact (Nat.min_self _).symm) (fun j v hj => ?_) (by rw [hl]; simp [ws_len]) (ws_one _ _) ?_
  · have e : (⟨q, 0, none⟩ : Addr).add j = ⟨q, j, none⟩ := by unfold Addr.add; split <;> simp_all
    rw [e, cell_of_row w q j _ _ _ hY, List.getElem?_toArray]; exact hj
  · have e : (List.take 0 (ws X W).toArray.toList ++ (ws Y W ++ List.drop (0 + (ws Y W).length) (ws X W).toArray.toList)).toArray = (ws Y W).toArray := by
      rw [hl, Nat.zero_add, List.drop_eq_nil_of_le (by simp [ws_len])]; simp
    rw [e, hl]
    exact h _ (setRow_heap w g _ _ _ _ hX) ((Keeps.refl (fun k => k = g) w).setRow (.inl rfl) _)
end Go.Proofs.YtpjilcfmcbapcaaDoor
