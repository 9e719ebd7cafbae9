/- The document's memory: Write, End. -/
import Derived.Test.YtjchfldlmabblaaMmRefH
namespace Go.Proofs.Ytjchfldlmabblaa
open Go.RowKit Go.Maps
set_option linter.unusedVariables false
set_option linter.unusedSimpArgs false

theorem brow_set {l : List Rb} {i : Nat} {d d' : Rb} (h : l[i]? = some d) (e : d'.cells = d.cells) : brow (l.set i d') = brow l := by
  induction l generalizing i with
  | nil => rfl
  | cons a l ih =>
    cases i with
    | zero => injection h with h; subst h; unfold brow; rw [List.set_cons_zero, List.flatMap_cons, List.flatMap_cons, e]
    | succ i => have := ih (i := i) h; unfold brow at *; rw [List.set_cons_succ, List.flatMap_cons, List.flatMap_cons, this]
theorem flat4_set {α : Type} (f : α → List Value) (hf : ∀ x, (f x).length = 4) {l : List α} {i : Nat} {d : α} (h : l[i]? = some d) {a b c e : Value} {d' : α} (hd : f d' = [a, b, c, e]) :
    ((((l.flatMap f).set (i * 4) a).set (i * 4 + 1) b).set (i * 4 + 2) c).set (i * 4 + 3) e = (l.set i d').flatMap f := by
  induction l generalizing i with
  | nil => cases h
  | cons x l ih =>
    obtain ⟨p, q, r, s, hx⟩ : ∃ p q r s, f x = [p, q, r, s] := by
      have := hf x
      match hfx : f x, this with
      | [p, q, r, s], _ => exact ⟨p, q, r, s, rfl⟩
    rw [List.flatMap_cons, hx]
    cases i with
    | zero => rw [List.set_cons_zero, List.flatMap_cons, hd]; rfl
    | succ i =>
      rw [List.set_cons_succ, List.flatMap_cons, hx, ← ih (i := i) h, show (i + 1) * 4 = i * 4 + 4 by omega]
      rfl
theorem vrow_set {l : List Vl} {k : Nat} {y x : Vl} (h : l[k]? = some y) :
    ((((vrow l).set (k * 4) (.int .i64 x.k)).set (k * 4 + 1) (.int .i64 x.n)).set (k * 4 + 2) (.int .i64 x.b)).set (k * 4 + 3) (.int .i64 x.o) = vrow (l.set k x) := flat4_set _ (fun _ => rfl) h rfl
theorem brow_set4 {l : List Rb} {k : Nat} {y x : Rb} (h : l[k]? = some y) :
    ((((brow l).set (k * 4) (.int .i64 x.z)).set (k * 4 + 1) x.cs).set (k * 4 + 2) x.vs).set (k * 4 + 3) (.bool x.on) = brow (l.set k x) := flat4_set _ (fun _ => rfl) h rfl
section
variable {B : Nat} {w w' : World} {R : Rd} {i : Nat} {d d' : Rb}
theorem RefAs.put (h : RefAs B w R) (hi : R.bs[i]? = some d) (ha : w'.heap[R.r]? = w.heap[R.r]?) (ho : w'.ownsRow B 59 4 R.sl R.bs.length (brow (R.bs.set i d'))) (hd : RbAs B w' d')
    (hoth : ∀ j e, j ≠ i → R.bs[j]? = some e → ∀ q, e.own q → w'.heap[q]? = w.heap[q]?) (h1 : ∀ q, d'.cs.ownBlock = some q → d.cs.ownBlock = some q) (h2 : ∀ q, d'.vs.ownBlock = some q → d.vs.ownBlock = some q) :
    RefAs B w' { R with bs := R.bs.set i d' } := by
  have hil := (List.getElem?_eq_some_iff.1 hi).1
  have hget : ∀ j e, (R.bs.set i d')[j]? = some e → (j = i ∧ e = d') ∨ (j ≠ i ∧ R.bs[j]? = some e) := fun j e he => by
    by_cases hj : j = i
    · subst hj; rw [List.getElem?_set_self hil] at he; injection he with he; exact .inl ⟨rfl, he.symm⟩
    · rw [List.getElem?_set_ne (Ne.symm hj)] at he; exact .inr ⟨hj, he⟩
  refine ⟨?_, ?_, fun j e he => ?_, by simpa using h.n, h.rB, h.ts, fun j e he => ?_⟩
  · show w'.heap[R.r]? = some (.cells #[.slice (some ⟨R.g, 0, none⟩) (R.bs.set i d').length R.cap] _ _)
    rw [List.length_set]; exact ha.trans h.a
  · show w'.ownsRow B _ 4 (.slice (some ⟨R.g, 0, none⟩) (R.bs.set i d').length R.cap) (R.bs.set i d').length _
    rw [List.length_set]; exact ho
  · rcases hget j e he with ⟨rfl, rfl⟩ | ⟨hj, he'⟩
    · exact hd
    · exact (h.b j e he').kept (fun q hq => hoth j e hj he' q hq)
  · rcases hget j e he with ⟨rfl, rfl⟩ | ⟨hj, he'⟩
    · obtain ⟨t1, t2⟩ := h.tb j d hi
      exact ⟨fun q hq => t1 q (h1 q hq), fun q hq => t2 q (h2 q hq)⟩
    · exact h.tb j e he'
theorem at_put (hi : R.bs[i]? = some d) (h1 : 1 ≤ i) (b : Int) : ({ R with bs := R.bs.set i d' } : Rd).at b = if b = (i : Int) then (if d'.on = true then some d' else none) else R.at b := by
  have hil := (List.getElem?_eq_some_iff.1 hi).1
  unfold Rd.at
  by_cases hb : b = (i : Int)
  · subst hb
    rw [if_pos rfl, if_pos (by omega)]
    show ((R.bs.set i d')[(i : Int).toNat]?).filter _ = _
    rw [show ((i : Int)).toNat = i by omega, List.getElem?_set_self hil, Option.filter_some]
  · rw [if_neg hb]
    by_cases hb1 : 1 ≤ b
    · rw [if_pos hb1, if_pos hb1]
      show ((R.bs.set i d')[b.toNat]?).filter _ = _
      rw [List.getElem?_set_ne (by omega)]
    · rw [if_neg hb1, if_neg hb1]
/-- Each of R's blocks is one that is told by its tag. -/
theorem RefAs.vs_other (h : RefAs B w R) (hi : R.bs[i]? = some d) {a : Nat} (ha : d.vs.ownBlock = some a) : R.r ≠ a ∧ R.g ≠ a ∧ (∀ q, d.cs.ownBlock = some q → q ≠ a) ∧ (∀ j e, j ≠ i → R.bs[j]? = some e → ∀ q, e.own q → q ≠ a) := by
  have t := (h.tb i d hi).2 a ha
  refine ⟨fun e => ?_, fun e => ?_, fun q hq e => ?_, fun j e hj he q hq hqa => ?_⟩
  · rw [← e, h.ts.1] at t; simp at t
  · rw [← e, h.ts.2] at t; simp at t
  · have := (h.tb i d hi).1 q hq; rw [e, t] at this; simp at this
  · rcases hq with hq | hq
    · have := (h.tb j e he).1 q hq; rw [hqa, t] at this; simp at this
    · have := (h.tb j e he).2 q hq; rw [hqa, t] at this; simp at this; exact hj this.symm
theorem RefAs.g_other (h : RefAs B w R) : R.r ≠ R.g ∧ (∀ (j : Nat) (e : Rb), R.bs[j]? = some e → ∀ q, e.own q → q ≠ R.g) := by
  have t := h.ts.2
  refine ⟨fun e => ?_, fun j e he q hq hqa => ?_⟩
  · rw [← e, h.ts.1] at t; simp at t
  · rcases hq with hq | hq
    · have := (h.tb j e he).1 q hq; rw [hqa, t] at this; simp at this
    · have := (h.tb j e he).2 q hq; rw [hqa, t] at this; simp at this
end
abbrev four (w : World) (a k : Nat) (x y z u : Value) : World := (((w.setCell ⟨a, k * 4, none⟩ x).setCell ⟨a, k * 4 + 1, none⟩ y).setCell ⟨a, k * 4 + 2, none⟩ z).setCell ⟨a, k * 4 + 3, none⟩ u
theorem four_other (w : World) (a k : Nat) (x y z u : Value) {q : Nat} (hq : q ≠ a) : (four w a k x y z u).heap[q]? = w.heap[q]? := by
  unfold four; simp [World.setCell, Array.getElem?_modify, Ne.symm hq]
theorem four_size (w : World) (a k : Nat) (x y z u : Value) : (four w a k x y z u).heap.size = w.heap.size := by unfold four; simp [World.setCell]
theorem four_row {w : World} {B : Nat} {e : TypeId} {a k n cap : Nat} {xs : List Value} (h : w.ownsRow B e 4 (.slice (some ⟨a, 0, none⟩) n cap) n xs) (x y z u : Value) :
    (four w a k x y z u).ownsRow B e 4 (.slice (some ⟨a, 0, none⟩) n cap) n ((((xs.set (k * 4) x).set (k * 4 + 1) y).set (k * 4 + 2) z).set (k * 4 + 3) u) :=
  ((((h.stored _ x).1.stored _ y).1.stored _ z).1.stored _ u).1
theorem Keeps.four {S : Nat → Prop} {a w : World} (h : Keeps S a w) {q k : Nat} (hq : S q ∨ a.heap.size ≤ q) (x y z u : Value) : Keeps S a (four w q k x y z u) :=
  (((h.setCell (p := ⟨q, k * 4, none⟩) hq x).setCell (p := ⟨q, k * 4 + 1, none⟩) hq y).setCell (p := ⟨q, k * 4 + 2, none⟩) hq z).setCell (p := ⟨q, k * 4 + 3, none⟩) hq u
/-- What a call on the document's memory leaves. -/
structure RDone (B : Nat) (w : World) (R : Rd) (V : View) (n : Nat) (w' : World) (R' : Rd) : Prop where
  st : RefAs B w' R'
  r : R'.r = R.r
  v : R'.view = V
  n : R'.bs.length = n
  has : ∀ a, R'.has a → R.has a ∨ w.heap.size ≤ a
  k : Keeps R.has w w'
theorem wrote_r {B : Nat} {w W : World} {R : Rd} (h : RefAs B W R) (hk : Keeps No w W) (hR : ∀ a, R.has a → a < w.heap.size) {p : Vl} {t : ByteArray} {i k : Nat} {d : Rb} {v : Vl} (x : Vl) (hb : p.b = (i : Int)) (hi : R.bs[i]? = some d) (ho : d.on = true) (h1 : 1 ≤ i) (hc : d.c[k]? = some (p.o, t)) (hv : d.v[k]? = some v) {a : Nat} (ha : d.vp = some ⟨a, 0, none⟩) (h9 : cellV R.view p t = some d.view) :
    RDone B w R (writeV R.view p t x) R.bs.length (four W a k (.int .i64 x.k) (.int .i64 x.n) (.int .i64 x.b) (.int .i64 x.o)) { R with bs := R.bs.set i { d with v := d.v.set k x } } := by
  have hd := h.b i d hi
  have hvs : d.vs = .slice (some ⟨a, 0, none⟩) d.v.length d.vc := by show Value.slice d.vp _ _ = _; rw [ha]
  have hown : d.vs.ownBlock = some a := by rw [hvs]; rfl
  obtain ⟨o1, o2, o3, o4⟩ := h.vs_other hi hown
  have hvs' : (⟨d.on, d.z, d.ca, d.cc, d.c, d.vp, d.vc, d.v.set k x⟩ : Rb).vs = d.vs := by show Value.slice d.vp (d.v.set k x).length _ = _; rw [List.length_set]
  have hce : (⟨d.on, d.z, d.ca, d.cc, d.c, d.vp, d.vc, d.v.set k x⟩ : Rb).cells = d.cells := by unfold Rb.cells; rw [hvs']
  refine ⟨h.put hi (four_other _ _ _ _ _ _ _ o1) ?_ ?_ (fun j e hj he q hq => four_other _ _ _ _ _ _ _ (o4 j e hj he q hq)) (fun q hq => hq) (fun q hq => by rw [hvs'] at hq; exact hq), rfl, ?_, by simp, ?_, (hk.mono (fun _ _ e => e.elim)).four (.inl (.inr (.inr ⟨i, d, hi, .inr hown⟩))) _ _ _ _⟩
  · rw [brow_set hi hce]
    exact own_kept h.o (fun q e => four_other _ _ _ _ _ _ _ (by injection e with e; subst e; exact o2))
  · refine ⟨own_kept hd.co (fun q e => four_other _ _ _ _ _ _ _ (o3 q e)), ?_, by simpa using hd.len, hd.cl, hd.ck, hd.up, hd.zl⟩
    rw [hvs']
    have := hd.vo
    rw [hvs] at this ⊢
    rw [show (⟨d.on, d.z, d.ca, d.cc, d.c, d.vp, d.vc, d.v.set k x⟩ : Rb).v.length = d.v.length from List.length_set, ← vrow_set hv]
    exact four_row this _ _ _ _
  · funext b
    rw [show writeV R.view p t x b = if b = p.b then some (d.view.put (p.o, t) x) else R.view b by unfold writeV; rw [h9]]
    show (Rd.at _ b).map Rb.view = _
    rw [at_put hi h1]
    by_cases e : b = (i : Int)
    · rw [if_pos e, if_pos (show b = p.b by rw [hb]; exact e), if_pos ho, Option.map_some]
      refine congrArg some ?_
      unfold Rb.view Bv.put
      refine congrArg (Bv.mk _ _) (funext fun z => ?_)
      exact getv_set hd.up hc hd.len z
    · rw [if_neg e, if_neg (show ¬ b = p.b by rw [hb]; exact e)]; rfl
  · rintro q (rfl | rfl | ⟨j, e, he, hq⟩)
    · exact .inl (.inl rfl)
    · exact .inl (.inr (.inl rfl))
    · have hil := (List.getElem?_eq_some_iff.1 hi).1
      by_cases hj : j = i
      · subst hj
        have he' : (R.bs.set j _)[j]? = some e := he
        rw [List.getElem?_set_self hil] at he'; injection he' with he'; subst he'
        refine .inl (.inr (.inr ⟨j, d, hi, ?_⟩))
        rcases hq with hq | hq
        · exact .inl hq
        · rw [hvs'] at hq; exact .inr hq
      · have he' : (R.bs.set i _)[j]? = some e := he
        rw [List.getElem?_set_ne (Ne.symm hj)] at he'
        exact .inl (.inr (.inr ⟨j, e, he', hq⟩))
theorem RDone.same {B : Nat} {w w' : World} {R : Rd} (h : RefAs B w R) (hk : Keeps No w w') : RDone B w R R.view R.bs.length w' R :=
  ⟨h.no hk, rfl, rfl, rfl, fun a e => .inl e, hk.mono (fun _ _ e => e.elim)⟩
theorem RDone.drew {B : Nat} {w w' : World} {R R' : Rd} {V : View} {n : Nat} (h : RDone B w R V n w' R') : RDone B w R V n w'.drew R' :=
  ⟨h.st.no (Keeps.refl _ _).drew, h.r, h.v, h.n, h.has, h.k.drew⟩
set_option maxRecDepth 100000 in
set_option maxHeartbeats 3200000 in
theorem rwrite_any (B : Nat) (R : Rd) (x : Vl) (t : ByteArray) (y : Vl) (w : World) (h : RefAs B w R) :
    Calls Try.prog 14 #[.pointer (some ⟨R.r, 0, none⟩), va x, .string t, va y] w fun e w' => e = .returned (.bool (cellV R.view x t).isSome) ∧ ∃ R', RDone B w R (writeV R.view x t y) R.bs.length w' R' := by
  have HP := Lib.hid (fun W => @two_prm 42 w x y W)
  cases found h x t with
  | no h1 h2 =>
    rw [h2, show writeV R.view x t y = R.view by unfold writeV; rw [h2]]
    have HF := Lib.hid (fun W hk => rfind_as B R x t (-1) h1 w W h hk)
    have HS := Lib.hid (fun W hk => @RDone.same B w W R h hk)
    clear h h1 h2
    obtain ⟨k, n, b, o⟩ := x
    obtain ⟨yk, yn, yb, yo⟩ := y
    go_enter Try.func14, Try.ntmps14
    go_wp2_with fail
    refine (HF.out _ (by repeat (first | with_reducible exact Keeps.refl _ _ | with_reducible refine Keeps.alloc ?_ _ | with_reducible refine Keeps.drewN ?_ _ | with_reducible refine Keeps.drew ?_ | with_reducible refine Keeps.setCell ?_ (.inr (by simp)) _ | with_reducible refine Keeps.setRow ?_ (by simp) _))).mono ?_
    rintro e w1 ⟨rfl, hg1⟩
    obtain ⟨⟨a1, a2, a3, a4⟩, _, HK1, fz⟩ := HP.out _ hg1
    clear hg1
    go_wp2_with fail
    go_returns
    exact ⟨rfl, _, HS.out _ HK1.out⟩
  | yes i k d v h1 h2 h3 h4 h5 h6 h7 h8 h9 h10 =>
    rw [h9]
    have HF := Lib.hid (fun W hk => rfind_as B R x t (k : Int) h8 w W h hk)
    have HC0 := Lib.hid (fun W (hk : Keeps No w W) => (h.no hk).c0)
    have HC : Hid (∀ W, Keeps No w W → W.cell? ⟨R.g, i * 4 + 2, none⟩ = some (.slice d.vp d.v.length d.vc)) := Lib.hid (fun W hk => ((h.no hk).c h3).2.2.1)
    have HV := Lib.hid (fun W (hk : Keeps No w W) => vrow_at ((h.no hk).b i d h3) h7)
    have HS := Lib.hid (fun W (hk : Keeps No w W) a (ha : d.vp = some ⟨a, 0, none⟩) => wrote_r (h.no hk) hk (fun a ha => (h.lt ha).2) y h2 h3 h4 h5 h6 h7 ha h9)
    have hkl : (k : Int) < (d.v.length : Int) := by have := (List.getElem?_eq_some_iff.1 h7).1; omega
    have k0 : (0 : Int) ≤ (k : Int) := by omega
    have hil : (i : Int) < (R.bs.length : Int) := by have := (List.getElem?_eq_some_iff.1 h3).1; omega
    have i0 : (0 : Int) ≤ (i : Int) := by omega
    clear h h4 h5 h6 h7 h8 h9 h10 h3
    obtain ⟨kk, n, b, o⟩ := x
    simp only at h1 h2
    subst h1 h2
    obtain ⟨vk, vn, vb, vo⟩ := v
    obtain ⟨yk, yn, yb, yo⟩ := y
    simp only at HV HS
    go_enter Try.func14, Try.ntmps14
    go_wp2_with fail
    refine (HF.out _ (by repeat (first | with_reducible exact Keeps.refl _ _ | with_reducible refine Keeps.alloc ?_ _ | with_reducible refine Keeps.drewN ?_ _ | with_reducible refine Keeps.drew ?_ | with_reducible refine Keeps.setCell ?_ (.inr (by simp)) _ | with_reducible refine Keeps.setRow ?_ (by simp) _))).mono ?_
    rintro e w1 ⟨rfl, hg1⟩
    have HG1 := Lib.hid hg1
    clear hg1
    go_wp2_with fail
    obtain ⟨⟨a1, a2, a3, a4⟩, ⟨b1, b2, b3, b4⟩, HK3, fz⟩ := HP.out _ HG1.out
    have c0 := HC0.out _ HK3.out
    have c1 := HC.out _ HK3.out
    obtain ⟨a, ha, ⟨e1, e2, e3, e4⟩, fa⟩ := HV.out _ HK3.out
    have HS1 := Lib.hid (HS.out _ HK3.out a ha)
    clear HS
    rw [ha] at c1
    go_still_tail 12, (by kernel_rfl)
    change wpList _ _ _ _ _ w1.drew
    go_wp2_with fail
    go_returns
    exact ⟨rfl, _, HS1.out.drew⟩
/-- No block. -/
abbrev rb0 : Rb := ⟨false, 0, none, 0, [], none, 0, []⟩
theorem ended_r {B : Nat} {w W : World} {R : Rd} (h : RefAs B W R) (hk : Keeps No w W) {i : Nat} {d : Rb} (hi : R.bs[i]? = some d) (h1 : 1 ≤ i) :
    RDone B w R (delV R.view (i : Int)) R.bs.length (four W R.g i (.int .i64 0) (.slice none 0 0) (.slice none 0 0) (.bool false)) { R with bs := R.bs.set i rb0 } := by
  obtain ⟨o1, o2⟩ := h.g_other
  refine ⟨h.put hi (four_other _ _ _ _ _ _ _ o1) ?_ ?_ (fun j e hj he q hq => four_other _ _ _ _ _ _ _ (o2 j e he q hq)) (fun q hq => by cases hq) (fun q hq => by cases hq), rfl, ?_, by simp, ?_, (hk.mono (fun _ _ e => e.elim)).four (.inl (.inr (.inl rfl))) _ _ _ _⟩
  · rw [← brow_set4 (x := rb0) hi]
    exact four_row h.o _ _ _ _
  · exact ⟨World.ownsRow_nil _ _ _ _, World.ownsRow_nil _ _ _ _, rfl, Nat.zero_le _, (fun t ht => by cases ht), List.Pairwise.nil, by decide⟩
  · funext b
    show (Rd.at _ b).map Rb.view = _
    rw [at_put hi h1]
    unfold delV
    by_cases e : b = (i : Int)
    · rw [if_pos e, if_pos e]; rfl
    · rw [if_neg e, if_neg e]; rfl
  · rintro q (rfl | rfl | ⟨j, e, he, hq⟩)
    · exact .inl (.inl rfl)
    · exact .inl (.inr (.inl rfl))
    · have hil := (List.getElem?_eq_some_iff.1 hi).1
      by_cases hj : j = i
      · subst hj
        have he' : (R.bs.set j _)[j]? = some e := he
        rw [List.getElem?_set_self hil] at he'; injection he' with he'; subst he'
        rcases hq with hq | hq <;> cases hq
      · have he' : (R.bs.set i _)[j]? = some e := he
        rw [List.getElem?_set_ne (Ne.symm hj)] at he'
        exact .inl (.inr (.inr ⟨j, e, he', hq⟩))
theorem RefAs.gf {B : Nat} {w : World} {R : Rd} (h : RefAs B w R) (o : Nat) : w.frozen? ⟨R.g, o, none⟩ = false := h.o.frozenAt o
set_option maxRecDepth 100000 in
set_option maxHeartbeats 3200000 in
theorem rended_any (B : Nat) (R : Rd) (b : Int) (w : World) (h : RefAs B w R) :
    Calls Try.prog 12 #[.pointer (some ⟨R.r, 0, none⟩), .int .i64 b] w fun e w' => e = .returned (.tuple #[]) ∧ ∃ R', RDone B w R (delV R.view b) R.bs.length w' R' := by
  cases hA : R.at b with
  | none =>
    rw [show delV R.view b = R.view by unfold delV; funext x; by_cases e : x = b; (rw [if_pos e, e]; unfold Rd.view; rw [hA]; rfl); rw [if_neg e]]
    have HT := Lib.hid (fun W hk => rthere_k B R b false (by rw [hA]; rfl) w W h hk)
    have HS := Lib.hid (fun W hk => @RDone.same B w W R h hk)
    clear h hA
    go_enter Try.func12, Try.ntmps12
    go_wp2_with fail
    refine (HT.out _ (by repeat (first | with_reducible exact Keeps.refl _ _ | with_reducible refine Keeps.alloc ?_ _ | with_reducible refine Keeps.drewN ?_ _ | with_reducible refine Keeps.drew ?_ | with_reducible refine Keeps.setCell ?_ (.inr (by simp)) _ | with_reducible refine Keeps.setRow ?_ (by simp) _))).mono ?_
    rintro e w1 ⟨rfl, hg1⟩
    have HK1 := Lib.hid hg1
    clear hg1
    go_wp2_with fail
    go_returns
    exact ⟨rfl, _, HS.out _ HK1.out⟩
  | some d =>
    obtain ⟨i, rfl, hi1, hi2, hd, ho⟩ := at_pos hA
    have hi' : (i : Int) < (R.bs.length : Int) := by omega
    have i0 : (0 : Int) ≤ (i : Int) := by omega
    have HT := Lib.hid (fun W hk => rthere_k B R i true (by rw [hA]; rfl) w W h hk)
    have HC0 := Lib.hid (fun W (hk : Keeps No w W) => (h.no hk).c0)
    have HC := Lib.hid (fun W (hk : Keeps No w W) => (h.no hk).c hd)
    have HF := Lib.hid (fun W (hk : Keeps No w W) => (h.no hk).gf)
    have HS := Lib.hid (fun W (hk : Keeps No w W) => ended_r (h.no hk) hk hd hi1)
    clear h hA hd ho
    go_enter Try.func12, Try.ntmps12
    go_wp2_with fail
    refine (HT.out _ (by repeat (first | with_reducible exact Keeps.refl _ _ | with_reducible refine Keeps.alloc ?_ _ | with_reducible refine Keeps.drewN ?_ _ | with_reducible refine Keeps.drew ?_ | with_reducible refine Keeps.setCell ?_ (.inr (by simp)) _ | with_reducible refine Keeps.setRow ?_ (by simp) _))).mono ?_
    rintro e w1 ⟨rfl, hg1⟩
    have HK1 := Lib.hid hg1
    have c0 := HC0.out _ HK1.out
    obtain ⟨e1, e2, e3, e4⟩ := HC.out _ HK1.out
    have hf := HF.out _ HK1.out
    clear hg1
    go_wp2_with fail
    go_returns
    exact ⟨rfl, _, HS.out _ HK1.out⟩
end Go.Proofs.Ytjchfldlmabblaa
