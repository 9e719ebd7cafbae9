/- Parts: callers and waits, in memory. -/
import Derived.Test.YtkiimljdoebclaaDoorGrHeaps
namespace Go.Proofs.YtkiimljdoebclaaDoor
open Go.RowKit Gm Go.Maps
set_option linter.unusedVariables false
set_option linter.unusedSimpArgs false

structure PW (w1 w : World) (CB WB K : Nat) (cl : List (List Int)) (wt : List Int) : Prop where
  kp : Keeps No w1 w
  lo : w1.heap.size ≤ CB ∧ w1.heap.size ≤ WB
  cb : ∃ vs : List Value, w.heap[CB]? = some (.cells vs.toArray 28 (0, 0)) ∧ vs.length = K ∧ (∀ (i : Nat) (l : List Int), cl[i]? = some l → ∃ u, vs[i]? = some u ∧ w.ownsRow w1.heap.size 3 1 u l.length (irow l) ∧ ∀ q, u.ownBlock = some q → q ≠ WB) ∧
    ∀ (i j : Nat) (u v : Value) (q : Nat), vs[i]? = some u → vs[j]? = some v → i ≠ j → u.ownBlock = some q → v.ownBlock ≠ some q
  wb : RowAt w WB wt
  len : cl.length = K ∧ wt.length = K
section
variable {w1 w w' : World} {CB WB K : Nat} {cl : List (List Int)} {wt : List Int}
theorem PW.no (h : PW w1 w CB WB K cl wt) (hk : Keeps No w w') : PW w1 w' CB WB K cl wt := by
  obtain ⟨vs, v1, v2, v3, v4⟩ := h.cb
  refine ⟨h.kp.trans hk (fun _ _ e => e), h.lo, ⟨vs, (hk.block _ (Array.getElem?_eq_some_iff.1 v1).1 (fun e => e)).trans v1, v2, fun i l hl => ?_, v4⟩, h.wb.keep hk (fun e => e), h.len⟩
  obtain ⟨u, u1, u2, u3⟩ := v3 i l hl
  exact ⟨u, u1, own_kept u2 (fun q hq => hk.block q (ownG_lt u2 q hq) (fun e => e)), u3⟩
theorem PW.wait (h : PW w1 w CB WB K cl wt) (i : Nat) (z : Int) : PW w1 (w.setCell ⟨WB, i, none⟩ (.int .i64 z)) CB WB K cl (wt.set i z) := by
  have hk := setC w ⟨WB, i, none⟩ (.int .i64 z)
  obtain ⟨vs, v1, v2, v3, v4⟩ := h.cb
  refine ⟨h.kp.trans hk (fun q hq e => by have := h.lo; simp only at e; omega), h.lo, ⟨vs, (hk.block _ (Array.getElem?_eq_some_iff.1 v1).1 (fun e => ne_type v1 h.wb (by decide) e)).trans v1, v2, fun j l hl => ?_, v4⟩, h.wb.set i z, ⟨h.len.1, by rw [List.length_set]; exact h.len.2⟩⟩
  obtain ⟨u, u1, u2, u3⟩ := v3 j l hl
  exact ⟨u, u1, own_kept u2 (fun q hq => hk.block q (ownG_lt u2 q hq) (u3 q hq)), u3⟩
/-- What is no row of cells may be written. -/
theorem PW.keep {S : Nat → Prop} (h : PW w1 w CB WB K cl wt) (hk : Keeps S w w') (h1 : ∀ q, S q → w1.heap.size ≤ q) (h2 : ∀ q, S q → ∀ cs t f, w.heap[q]? ≠ some (.cells cs t f)) : PW w1 w' CB WB K cl wt := by
  obtain ⟨vs, v1, v2, v3, v4⟩ := h.cb
  refine ⟨h.kp.trans hk (fun q hq e => by have := h1 q e; omega), h.lo, ⟨vs, (hk.block _ (Array.getElem?_eq_some_iff.1 v1).1 (fun e => h2 _ e _ _ _ v1)).trans v1, v2, fun i l hl => ?_, v4⟩, h.wb.keep hk (fun e => h2 _ e _ _ _ h.wb), h.len⟩
  obtain ⟨u, u1, u2, u3⟩ := v3 i l hl
  exact ⟨u, u1, own_kept u2 (fun q hq => hk.block q (ownG_lt u2 q hq) (fun e => by obtain ⟨cs, hc⟩ := own_typ u2 hq; exact h2 _ e _ _ _ hc)), u3⟩
/-- A row's value, and what is known of it. -/
theorem PW.row (h : PW w1 w CB WB K cl wt) {c : Nat} {l : List Int} (hl : cl[c]? = some l) : ∃ ua uc, w.cell? ⟨CB, c, none⟩ = some (.slice ua l.length uc) ∧ w.ownsRow w1.heap.size 3 1 (.slice ua l.length uc) l.length (irow l) ∧ w.frozen? ⟨CB, c, none⟩ = false := by
  obtain ⟨vs, v1, v2, v3, v4⟩ := h.cb
  obtain ⟨u, u1, u2, u3⟩ := v3 c l hl
  obtain ⟨ua, uc, rfl, _⟩ := own_form u2
  exact ⟨ua, uc, by rw [cell_of_row w CB c _ _ _ v1, List.getElem?_toArray]; exact u1, u2, frozen_of_row w CB c _ _ v1⟩
theorem PW.push {c g' cap : Nat} {ua : Option Addr} {uc : Nat} {l : List Int} {z : Int} (h : PW w1 w CB WB K cl wt) (hl : cl[c]? = some l) (hcv : w.cell? ⟨CB, c, none⟩ = some (.slice ua l.length uc)) (hk : Keeps (fun q => (Value.slice ua l.length uc).ownBlock = some q) w w')
    (ho : w'.ownsRow w1.heap.size 3 1 (.slice (some ⟨g', 0, none⟩) (l.length + 1) cap) (l.length + 1) (irow (l ++ [z]))) (hg : (Value.slice ua l.length uc).ownBlock = some g' ∨ w.heap.size ≤ g') :
    PW w1 (w'.setCell ⟨CB, c, none⟩ (.slice (some ⟨g', 0, none⟩) (l.length + 1) cap)) CB WB K (cl.set c (l ++ [z])) wt := by
  obtain ⟨vs, v1, v2, v3, v4⟩ := h.cb
  obtain ⟨u, u1, u2, u3⟩ := v3 c l hl
  obtain rfl : u = .slice ua l.length uc := by
    rw [cell_of_row w CB c _ _ _ v1, List.getElem?_toArray, u1] at hcv
    injection hcv
  have hck : c < K := by rw [← v2]; exact (List.getElem?_eq_some_iff.1 u1).1
  have hlo : ∀ q, (Value.slice ua l.length uc).ownBlock = some q → w1.heap.size ≤ q := fun q e => ownG_lo u2 q e
  have hCB : ∀ q, (Value.slice ua l.length uc).ownBlock = some q → q ≠ CB := fun q e e2 => by
    obtain ⟨cs, hc⟩ := own_typ u2 e
    exact ne_type v1 hc (by decide) e2.symm
  have hCW : CB ≠ WB := ne_type v1 h.wb (by decide)
  have v1' := (hk.block CB (Array.getElem?_eq_some_iff.1 v1).1 (fun e => hCB CB e rfl)).trans v1
  have hk2 := setC w' ⟨CB, c, none⟩ (.slice (some ⟨g', 0, none⟩) (l.length + 1) cap)
  have hgW : g' ≠ WB := fun e => by
    rcases hg with hg | hg
    · exact u3 g' hg e
    · have := h.wb.lt; omega
  have kk : ∀ q, q < w.heap.size → (∃ cs, w.heap[q]? = some (.cells cs 3 (0, 0))) → (Value.slice ua l.length uc).ownBlock ≠ some q → (w'.setCell ⟨CB, c, none⟩ (.slice (some ⟨g', 0, none⟩) (l.length + 1) cap)).heap[q]? = w.heap[q]? := fun q h1 ⟨cs, hc⟩ h2 =>
    (hk2.block q (Nat.lt_of_lt_of_le h1 hk.size) (fun e => ne_type v1 hc (by decide) e.symm)).trans (hk.block q h1 h2)
  refine ⟨(h.kp.trans hk (fun q hq e => by have := hlo q e; omega)).trans hk2 (fun q hq e => by have := h.lo; simp only at e; omega), h.lo, ⟨vs.set c (.slice (some ⟨g', 0, none⟩) (l.length + 1) cap), ?_, by simp [v2], fun i l2 hl2 => ?_, fun i j u v q hu hv hij e1 e2 => ?_⟩, (kk WB h.wb.lt ⟨_, h.wb⟩ (fun e => u3 WB e rfl)).trans h.wb, ⟨by rw [List.length_set]; exact h.len.1, h.len.2⟩⟩
  · rw [heap_setCell_same w' CB c _ _ _ v1']; simp
  · by_cases hic : c = i
    · subst hic
      rw [List.getElem?_set_self (by rw [h.len.1]; exact hck)] at hl2
      obtain rfl : l ++ [z] = l2 := by injection hl2
      have hll : (l ++ [z]).length = l.length + 1 := by simp
      have ho2 := own_kept ho (fun q hq => hk2.block q (ownG_lt ho q hq) (fun e => by
        obtain ⟨cs, hc⟩ := own_typ ho hq
        exact ne_type v1' hc (by decide) e.symm))
      refine ⟨_, by rw [List.getElem?_set_self (by omega)], by rw [hll]; exact ho2, fun q hq e => ?_⟩
      have e1 : g' = q := by injection hq
      exact hgW (e1.trans e)
    · rw [List.getElem?_set_ne hic] at hl2
      obtain ⟨y, y1, y2, y3⟩ := v3 i l2 hl2
      exact ⟨y, by rw [List.getElem?_set_ne hic]; exact y1, own_kept y2 (fun q hq => kk q (ownG_lt y2 q hq) (own_typ y2 hq) (v4 i c y _ q y1 u1 (fun e => hic e.symm) hq)), y3⟩
  · have old : ∀ (k : Nat) (x : Value), (vs.set c (.slice (some ⟨g', 0, none⟩) (l.length + 1) cap))[k]? = some x → (k = c ∧ x = .slice (some ⟨g', 0, none⟩) (l.length + 1) cap) ∨ (k ≠ c ∧ vs[k]? = some x) := fun k x hx => by
      by_cases hk : c = k
      · subst hk; rw [List.getElem?_set_self (by omega)] at hx; injection hx with hx; exact .inl ⟨rfl, hx.symm⟩
      · rw [List.getElem?_set_ne hk] at hx; exact .inr ⟨fun e => hk e.symm, hx⟩
    have far : ∀ (k : Nat) (x : Value), k ≠ c → vs[k]? = some x → x.ownBlock ≠ some g' := fun k x hk hx e => by
      rcases hg with hg | hg
      · exact v4 k c x _ g' hx u1 hk e hg
      · have hkl : k < cl.length := by rw [h.len.1, ← v2]; exact (List.getElem?_eq_some_iff.1 hx).1
        obtain ⟨y, y1, y2, _⟩ := v3 k cl[k] (List.getElem?_eq_getElem hkl)
        rw [hx] at y1
        injection y1 with y1
        subst y1
        have := ownG_lt y2 g' e
        omega
    rcases old i u hu with ⟨a1, a2⟩ | ⟨a1, a2⟩
    · rcases old j v hv with ⟨b1, b2⟩ | ⟨b1, b2⟩
      · exact hij (a1.trans b1.symm)
      · subst a2
        have e3 : g' = q := by injection e1
        exact far j v b1 b2 (by rw [e3]; exact e2)
    · rcases old j v hv with ⟨b1, b2⟩ | ⟨b1, b2⟩
      · subst b2
        have e3 : g' = q := by injection e2
        exact far i u a1 a2 (by rw [e3]; exact e1)
      · exact v4 i j u v q a2 b2 hij e1 e2
end
/-- The finder's sets, as a slice of slices. -/
theorem FD.sets {w0 w : World} {R W L P n : Nat} {ca : Option Addr} {cc : Nat} {s : Fdr} {oa : Option Addr} {oc : Nat} {qa : Option Addr} {qc : Nat} (h : FD w0 w R W L P n ca cc s oa oc qa qc) (hb : okParts s.parts = true) : ∃ S, LsAt w qa s.parts.length qc S ∧ S.map Sl.l = s.parts := by
  obtain ⟨h0, hb⟩ := okParts_out hb
  obtain ⟨vs, v1, v2⟩ := h.qs.ex
  have hl : LL w0.heap.size w (.slice qa s.parts.length qc) s.parts := ⟨⟨vs, v1, fun i l hl => by obtain ⟨u, u1, u2, _⟩ := v2 i l hl; exact ⟨u, u1, u2⟩⟩⟩
  obtain ⟨a, n1, cap, S, e1, e2, e3⟩ := hl.at_ (fun l hl => ⟨(hb l hl).1, fun z hz => by have := (hb l hl).2 z hz; unfold I64; omega⟩)
  injection e1 with e4 e5 e6
  subst e4 e5 e6
  exact ⟨S, e2, e3⟩
/-- An entry of a map literal. -/
theorem wpList_insK {κ ε : Type} [DecidableEq κ] (M : ML Tryd.prog κ ε) (w : World) {ops : Array Oper} {rest : List Oper} {o : Oper} {a : Act} {Q : Exit → Act → World → Prop}
    (hg : o.guard = none) (m x v : Operand) (hop : o.op = Op.insert M.tm m x v) (b : Nat) (al : List (κ × ε)) (k : κ) (y : ε)
    (hm : a.eval m = .map (some b)) (h : MapK M w b al) (hn : al.length < maxLen) (hx : a.eval x = M.kv k) (hv : a.eval v = M.ev y) (hk : M.kok k) (hy : M.eok y)
    (hK : ∀ w', MapK M w' b (kput al k y) → w.mapTurned w' b → wpList Tryd.prog ops Q rest (a.put o.dst undef) w') :
    wpList Tryd.prog ops Q (o :: rest) a w := by
  refine wpList_plain hg fun K' hK' => ?_
  obtain ⟨w', hrun, r1, r2⟩ := h.put hn hk hy
  unfold Oper.wp
  simp [execOp, hop, hm, hx, hv, hrun, Result.andThen]
  exact hK' _ _ (hK w' r1 r2)
theorem MapK.ne {κ ε : Type} [DecidableEq κ] {M : ML Tryd.prog κ ε} {w : World} {m q : Nat} {al : List (κ × ε)} {cs : Array Value} {t : TypeId} {f : Nat × Nat} (h : MapK M w m al) (hq : w.heap[q]? = some (.cells cs t f)) : m ≠ q := fun e => by
  obtain ⟨n, D, ⟨es, clock, k1, k2⟩, h2⟩ := h.ex
  subst e
  rw [hq] at k1
  cases k1
theorem MapK.keep {κ ε : Type} [DecidableEq κ] {M : ML Tryd.prog κ ε} {w w' : World} {m : Nat} {al : List (κ × ε)} {S : Nat → Prop} (h : MapK M w m al) (hk : Keeps S w w') (hS : ¬ S m) : MapK M w' m al := h.block (hk.block m h.lt hS)
/-- The sets are told, one behind the other. -/
structure GC (w4 wE w : World) (WB NB : Nat) (wt q : List Int) (out : List (List Int)) (ha : Option Addr) (hc : Nat) (ov : Value) : Prop where
  kp : Keeps (fun x => x = WB) wE w
  rw_ : RowAt w WB wt
  hq : HQ w wE.heap.size NB q ha hc
  ob : ∃ vso : List Value, w.ownsRow wE.heap.size 28 1 ov out.length vso ∧ ∀ (i : Nat) (l : List Int), out[i]? = some l → ∃ s : Sl, vso[i]? = some s.v ∧ s.l = l ∧ s.n = l.length ∧ SlAt w4 s ∧ s.n ≤ 1000000
section
variable {w4 wE w w' : World} {WB NB : Nat} {wt q : List Int} {out : List (List Int)} {ha : Option Addr} {hc : Nat} {ov : Value}
theorem GC.no (h : GC w4 wE w WB NB wt q out ha hc ov) (hk : Keeps No w w') : GC w4 wE w' WB NB wt q out ha hc ov := by
  obtain ⟨vso, o1, o2⟩ := h.ob
  exact ⟨h.kp.trans hk (fun _ _ e => e.elim), h.rw_.keep hk (fun e => e), h.hq.keep hk (fun e => e) (fun _ _ e => e), ⟨vso, own_kept o1 (fun x hx => hk.block x (ownG_lt o1 x hx) (fun e => e)), o2⟩⟩
theorem GC.heap {q' : List Int} {ha' : Option Addr} {hc' : Nat} (h : GC w4 wE w WB NB wt q out ha hc ov) (hWB : WB < wE.heap.size) (hNB : wE.heap.size ≤ NB) (hk : Keeps (fun x => x = NB ∨ (Value.slice ha q.length hc).ownBlock = some x) w w') (hq : HQ w' wE.heap.size NB q' ha' hc') : GC w4 wE w' WB NB wt q' out ha' hc' ov := by
  obtain ⟨vso, o1, o2⟩ := h.ob
  have hlo : ∀ x, (Value.slice ha q.length hc).ownBlock = some x → wE.heap.size ≤ x := fun x e => ownG_lo h.hq.own x e
  refine ⟨h.kp.trans hk (fun x hx e => ?_), h.rw_.keep hk (fun e => ?_), hq, ⟨vso, own_kept o1 (fun x hx => hk.block x (ownG_lt o1 x hx) (fun e => ?_)), o2⟩⟩
  · rcases e with e | e
    · omega
    · have := hlo x e; omega
  · rcases e with e | e
    · omega
    · have := hlo WB e; omega
  · obtain ⟨cs, hcs⟩ := own_typ o1 hx
    rcases e with e | e
    · subst e; exact ne_type h.hq.row hcs (by decide) rfl
    · obtain ⟨cs2, hcs2⟩ := own_typ h.hq.own e
      exact ne_type hcs2 hcs (by decide) rfl
theorem GC.wait (h : GC w4 wE w WB NB wt q out ha hc ov) (hWB : WB < wE.heap.size) (i : Nat) (z : Int) : GC w4 wE (w.setCell ⟨WB, i, none⟩ (.int .i64 z)) WB NB (wt.set i z) q out ha hc ov := by
  have hk := setC w ⟨WB, i, none⟩ (.int .i64 z)
  obtain ⟨vso, o1, o2⟩ := h.ob
  refine ⟨h.kp.trans hk (fun x hx e => e), h.rw_.set i z, h.hq.keep hk (fun e => ne_type h.hq.row h.rw_ (by decide) e) (fun x hx e => ?_), ⟨vso, own_kept o1 (fun x hx => hk.block x (ownG_lt o1 x hx) (fun e => ?_)), o2⟩⟩
  · have := ownG_lo h.hq.own x hx; simp only at e; omega
  · have := ownG_lo o1 x hx; simp only at e; omega
theorem GC.told {g' cap : Nat} {s : Sl} {l : List Int} (h : GC w4 wE w WB NB wt q out ha hc ov) (vso : List Value) (o1 : w.ownsRow wE.heap.size 28 1 ov out.length vso) (o2 : ∀ (i : Nat) (l : List Int), out[i]? = some l → ∃ s : Sl, vso[i]? = some s.v ∧ s.l = l ∧ s.n = l.length ∧ SlAt w4 s ∧ s.n ≤ 1000000)
    (hWB : WB < wE.heap.size) (hk : Keeps (fun x => ov.ownBlock = some x) w w') (ho : w'.ownsRow wE.heap.size 28 1 (.slice (some ⟨g', 0, none⟩) (out.length + 1) cap) (out.length + 1) (vso ++ [s.v])) (hs : s.l = l ∧ s.n = l.length ∧ SlAt w4 s ∧ s.n ≤ 1000000) :
    GC w4 wE w' WB NB wt q (out ++ [l]) ha hc (.slice (some ⟨g', 0, none⟩) (out.length + 1) cap) := by
  have hlo : ∀ x, ov.ownBlock = some x → wE.heap.size ≤ x := fun x e => ownG_lo o1 x e
  have hty : ∀ x, ov.ownBlock = some x → ∃ cs, w.heap[x]? = some (.cells cs 28 (0, 0)) := fun x e => own_typ o1 e
  refine ⟨h.kp.trans hk (fun x hx e => by have := hlo x e; omega), h.rw_.keep hk (fun e => by have := hlo WB e; omega), h.hq.keep hk (fun e => ?_) (fun x hx e => ?_), ⟨vso ++ [s.v], by rw [List.length_append, List.length_singleton]; exact ho, fun i l2 hl => ?_⟩⟩
  · obtain ⟨cs, hcs⟩ := hty NB e; exact ne_type h.hq.row hcs (by decide) rfl
  · obtain ⟨cs, hcs⟩ := hty x e
    obtain ⟨cs2, hcs2⟩ := own_typ h.hq.own hx
    exact ne_type hcs2 hcs (by decide) rfl
  · have hvl : vso.length = out.length := by have := o1.1; omega
    by_cases hi : i < out.length
    · rw [List.getElem?_append_left hi] at hl
      obtain ⟨y, y1, y2⟩ := o2 i l2 hl
      exact ⟨y, by rw [List.getElem?_append_left (by omega)]; exact y1, y2⟩
    · have hi2 : i = out.length := by have := (List.getElem?_eq_some_iff.1 hl).1; simp at this; omega
      subst hi2
      rw [List.getElem?_append_right (Nat.le_refl _), Nat.sub_self] at hl
      obtain rfl : l = l2 := by simpa using hl
      exact ⟨s, by rw [List.getElem?_append_right (by omega), hvl, Nat.sub_self]; rfl, hs⟩
/-- What is answered. -/
theorem GC.lists (h : GC w4 wE w WB NB wt q out ha hc ov) (hk : Keeps No w4 w) : ∃ a k cap, ov = .slice a k cap ∧ ∃ S, LsAt w a k cap S ∧ S.map Sl.l = out := by
  obtain ⟨vso, o1, o2⟩ := h.ob
  have pick : ∀ i : Nat, ∃ s : Sl, ∀ l, out[i]? = some l → vso[i]? = some s.v ∧ s.l = l ∧ s.n = l.length ∧ SlAt w4 s ∧ s.n ≤ 1000000 := fun i => by
    cases hl : out[i]? with
    | none => exact ⟨⟨none, 0, 0, []⟩, fun l e => by cases e⟩
    | some l =>
      obtain ⟨s, e1⟩ := o2 i l hl
      exact ⟨s, fun l' e => by injection e with e; subst e; exact e1⟩
  obtain ⟨F, hF⟩ := Classical.axiomOfChoice pick
  have hmap : ((List.range out.length).map F).map Sl.l = out := by
    refine List.ext_getElem? fun i => ?_
    rw [List.map_map, List.getElem?_map]
    by_cases hi : i < out.length
    · rw [List.getElem?_range hi, List.getElem?_eq_getElem hi]
      have := (hF i out[i] (List.getElem?_eq_getElem hi)).2.1
      simp [this]
    · rw [List.getElem?_eq_none (by simp; omega), List.getElem?_eq_none (by omega)]; rfl
  have hgo : ∀ (i : Nat) (s : Sl), ((List.range out.length).map F)[i]? = some s → vso[i]? = some s.v ∧ SlAt w s ∧ s.n ≤ 1000000 := fun i s hs => by
    have hi : i < out.length := by have := (List.getElem?_eq_some_iff.1 hs).1; simpa using this
    rw [List.getElem?_map, List.getElem?_range hi] at hs
    injection hs with hs
    obtain ⟨f1, f2, f3, f4, f5⟩ := hF i out[i] (List.getElem?_eq_getElem hi)
    subst hs
    exact ⟨f1, f4.no hk, f5⟩
  rcases o1.2 with ⟨e1, e2⟩ | ⟨g, cap, cur, e1, e2, e3, e4, e5, e6, e7⟩
  · refine ⟨none, 0, 0, e1, (List.range out.length).map F, ⟨by simp [e2], ⟨Nat.le_refl _, Nat.zero_le _⟩, fun i s hs => ?_⟩, hmap⟩
    have := (List.getElem?_eq_some_iff.1 hs).1
    simp [e2] at this
  · subst e1
    refine ⟨some ⟨g, 0, none⟩, out.length, cap, rfl, (List.range out.length).map F, ⟨by simp, ⟨e4, e5⟩, fun i s hs => ?_⟩, hmap⟩
    obtain ⟨f1, f2, f3⟩ := hgo i s hs
    refine ⟨g, 0, rfl, ?_, f2, f3⟩
    rw [Nat.zero_add, World.ownsRow.cellAt o1 i (by have := (List.getElem?_eq_some_iff.1 hs).1; simp at this; omega)]
    exact f1
end
theorem own_cell {w : World} {B n : Nat} {v : Value} {l : List Int} (h : w.ownsRow B 3 1 v n (irow l)) {i : Nat} {z : Int} (hz : l[i]? = some z) : ∃ g cap, v = .slice (some ⟨g, 0, none⟩) n cap ∧ w.cell? ⟨g, i, none⟩ = some (.int .i64 z) ∧ n ≤ cap ∧ cap ≤ maxLen := by
  have hi := (List.getElem?_eq_some_iff.1 hz).1
  have hl : l.length = n := by have := h.1; unfold irow at this; rw [List.length_map] at this; omega
  rcases h.2 with ⟨h1, h2⟩ | ⟨g, cap, cur, h1, h2, h3, h4, h5, _⟩
  · omega
  · subst h1
    exact ⟨g, cap, rfl, by rw [World.ownsRow.cellAt h i (by omega)]; exact irow_get hz, h4, h5⟩
end Go.Proofs.YtkiimljdoebclaaDoor
