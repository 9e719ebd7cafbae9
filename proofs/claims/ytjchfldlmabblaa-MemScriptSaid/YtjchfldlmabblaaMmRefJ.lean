/- The document's memory: rows of cells into which one is laid; New. -/
import Derived.Test.YtjchfldlmabblaaMmRefI
namespace Go.Proofs.Ytjchfldlmabblaa
open Go.RowKit Go.Maps
set_option linter.unusedVariables false
set_option linter.unusedSimpArgs false

def insAt (c : List Ck) (k : Nat) (x : Ck) : List Ck := c.take k ++ [x] ++ c.drop k
theorem insAt_len (c : List Ck) {k : Nat} (x : Ck) (hk : k ≤ c.length) : (insAt c k x).length = c.length + 1 := by
  unfold insAt; simp; omega
theorem insAt_mem {c : List Ck} {k : Nat} {x y : Ck} : y ∈ insAt c k x ↔ y ∈ c ∨ y = x := by
  unfold insAt
  have h := List.take_append_drop k c
  constructor
  · intro hy
    simp only [List.append_assoc, List.mem_append, List.mem_singleton] at hy
    rcases hy with hy | hy | hy
    · exact .inl (List.mem_of_mem_take hy)
    · exact .inr hy
    · exact .inl (List.mem_of_mem_drop hy)
  · rintro (hy | rfl)
    · rw [← h] at hy
      simp only [List.append_assoc, List.mem_append, List.mem_singleton] at hy ⊢
      rcases hy with hy | hy
      · exact .inl hy
      · exact .inr (.inr hy)
    · simp
theorem insAt_up {c : List Ck} {k : Nat} {x : Ck} (h : c.Pairwise (fun a b => a.1 < b.1)) (hk : k ≤ c.length) (h1 : ∀ (j : Nat) (y : Ck), j < k → c[j]? = some y → y.1 < x.1) (h2 : ∀ (j : Nat) (y : Ck), k ≤ j → c[j]? = some y → x.1 < y.1) :
    (insAt c k x).Pairwise (fun a b => a.1 < b.1) := by
  unfold insAt
  have hs : (c.take k ++ c.drop k).Pairwise (fun a b => a.1 < b.1) := by rw [List.take_append_drop]; exact h
  rw [List.pairwise_append] at hs
  rw [List.append_assoc, List.pairwise_append]
  refine ⟨hs.1, ?_, ?_⟩
  · rw [List.singleton_append, List.pairwise_cons]
    refine ⟨fun y hy => ?_, hs.2.1⟩
    obtain ⟨j, hj⟩ := List.getElem?_of_mem hy
    rw [List.getElem?_drop] at hj
    exact h2 (k + j) y (by omega) hj
  · intro a ha b hb
    simp only [List.singleton_append, List.mem_cons] at hb
    rcases hb with rfl | hb
    · obtain ⟨j, hj⟩ := List.getElem?_of_mem ha
      have hjk : j < k := by have := (List.getElem?_eq_some_iff.1 hj).1; simp at this; omega
      rw [List.getElem?_take, if_pos hjk] at hj
      exact h1 j a hjk hj
    · exact hs.2.2 a ha b hb
theorem crow_app (a b : List Ck) : crow (a ++ b) = crow a ++ crow b := by unfold crow; rw [List.flatMap_append]
theorem crow_ins (c : List Ck) (k : Nat) (x : Ck) : crow (insAt c k x) = (crow (c.take k) ++ [.int .i64 x.1, .string x.2]) ++ crow (c.drop k) := by
  unfold insAt; rw [crow_app, crow_app]; rfl
theorem crow_take (c : List Ck) (k : Nat) : crow (c.take k) = (crow c).take (k * 2) := by
  induction c generalizing k with
  | nil => simp [crow]
  | cons a c ih =>
    cases k with
    | zero => simp [crow]
    | succ k => rw [List.take_succ_cons, show (k + 1) * 2 = k * 2 + 2 by omega]; have := ih k; unfold crow at *; rw [List.flatMap_cons, List.flatMap_cons, this]; rfl
theorem crow_drop (c : List Ck) (k : Nat) : crow (c.drop k) = (crow c).drop (k * 2) := by
  induction c generalizing k with
  | nil => simp [crow]
  | cons a c ih =>
    cases k with
    | zero => simp
    | succ k => rw [List.drop_succ_cons, show (k + 1) * 2 = k * 2 + 2 by omega]; have := ih k; unfold crow at *; rw [List.flatMap_cons, this]; rfl
/-- What has been laid into a row, and what a memory has made of it. -/
structure Rel (c : List Ck) (pl : List (Int × Int)) (cl : List (Ck × Int)) : Prop where
  h : ∀ x, hasc c x = (kget cl x).isSome
  p : ∀ o, (kget pl o).getD 0 ≠ 0 ↔ ∃ x ∈ c, x.1 = o
theorem hasc_iff {c : List Ck} {x : Ck} : hasc c x = true ↔ x ∈ c := by unfold hasc; simp
theorem rel_nil : Rel [] [] [] := ⟨fun _ => rfl, fun o => ⟨fun h => absurd rfl h, fun ⟨x, h, _⟩ => by cases h⟩⟩
theorem Rel.ins {c : List Ck} {pl : List (Int × Int)} {cl : List (Ck × Int)} (h : Rel c pl cl) (k : Nat) (x : Ck) : Rel (insAt c k x) (kput pl x.1 1) (kput cl x 1) := by
  refine ⟨fun y => ?_, fun o => ?_⟩
  · by_cases e : y = x
    · subst e
      rw [kget_put_same, hasc_iff.2 (insAt_mem.2 (.inr rfl))]; rfl
    · rw [kget_put_other _ _ e, ← h.h y, Bool.eq_iff_iff, hasc_iff, hasc_iff, insAt_mem]
      exact ⟨fun hh => hh.resolve_right e, .inl⟩
  · by_cases e : o = x.1
    · subst e
      rw [kget_put_same]
      exact ⟨fun _ => ⟨x, insAt_mem.2 (.inr rfl), rfl⟩, fun _ => by decide⟩
    · rw [kget_put_other _ _ e, h.p o]
      constructor
      · rintro ⟨y, hy, rfl⟩; exact ⟨y, insAt_mem.2 (.inl hy), rfl⟩
      · rintro ⟨y, hy, rfl⟩
        rcases insAt_mem.1 hy with hy | rfl
        · exact ⟨y, hy, rfl⟩
        · exact absurd rfl e
theorem drop_ck {l : List Ck} {i : Nat} {t : Ck} (h : l[i]? = some t) : l.drop i = t :: l.drop (i + 1) := by
  obtain ⟨h1, h2⟩ := List.getElem?_eq_some_iff.1 h
  rw [List.drop_eq_getElem_cons h1, h2]
theorem addM_step {l : List Ck} {i : Nat} {x : Ck} (hx : l[i]? = some x) (pl : List (Int × Int)) (cl : List (Ck × Int)) : addM (l.drop i) pl cl = if (kget pl x.1).getD 0 = 0 then addM (l.drop (i + 1)) (kput pl x.1 1) (kput cl x 1) else addM (l.drop (i + 1)) pl cl := by
  rw [drop_ck hx]; rfl
theorem brow_snoc (l : List Rb) (d : Rb) : brow (l ++ [d]) = brow l ++ d.cells := by unfold brow; rw [List.flatMap_append]; simp
theorem Keeps.grown {S : Nat → Prop} {a b c : World} {row : Option Nat} (h : Keeps S a b) (hg : b.grownBy c row) (hrow : ∀ q, row = some q → S q ∨ a.heap.size ≤ q) : Keeps S a c :=
  ⟨hg.os.trans h.os, hg.tape.trans h.tape, hg.output.trans h.output, Nat.le_trans h.size hg.size, fun k hk hn => (hg.block k (Nat.lt_of_lt_of_le hk h.size) (fun e => by rcases hrow k e.symm with e | e; exact hn e; omega)).trans (h.block k hk hn)⟩
theorem own_mono {w : World} {base base' : Nat} {e : TypeId} {size : Nat} {v : Value} {n : Nat} {xs : List Value} (h : w.ownsRow base e size v n xs) (hb : base' ≤ base) : w.ownsRow base' e size v n xs :=
  ⟨h.1, h.2.imp id fun ⟨g, cap, cur, h1, h2, h3⟩ => ⟨g, cap, cur, h1, Nat.le_trans hb h2, h3⟩⟩
theorem getv_zero (c : List Ck) (n : Nat) (x : Ck) : getv c (List.replicate n v0) x = v0 := by
  induction c generalizing n with
  | nil => simp [getv]
  | cons y c ih =>
    cases n with
    | zero => rfl
    | succ n => rw [List.replicate_succ]; unfold getv; split; rfl; exact ih n
/-- One block more. -/
theorem added_r {B : Nat} {w W W' w7 : World} {R : Rd} (h : RefAs B w R) (hk : Keeps No w W) (hk' : Keeps No W W') {d : Rb} (hd : RbAs w.heap.size W d) (hon : d.on = true) (hne : ∀ a, d.cs.ownBlock = some a → d.vs.ownBlock ≠ some a) (hl : R.bs.length < 1000)
    {g cap : Nat} (hg : W'.grownBy w7 (some R.g)) (ho : w7.ownsRow B 59 4 (.slice (some ⟨g, 0, none⟩) (R.bs.length + 1) cap) (R.bs.length + 1) (brow R.bs ++ d.cells)) (hgg : R.g = g ∨ W.heap.size ≤ g) :
    ∃ R', RDone B w R (setV R.view (R.bs.length : Int) d.view) (R.bs.length + 1) (w7.setCell ⟨R.r, 0, none⟩ (.slice (some ⟨g, 0, none⟩) (R.bs.length + 1) cap)) R' := by
  obtain ⟨o1, o2⟩ := h.g_other
  have hrw := (h.lt (.inl rfl)).2
  have hgw := (h.lt (.inr (.inl rfl))).2
  have hBw : B ≤ w.heap.size := Nat.le_of_lt (Nat.lt_of_le_of_lt h.rB hrw)
  have hWw := hk.size
  have hrg : R.r ≠ g := fun e => by rcases hgg with q | q; exact o1 (by omega); omega
  have hdl : ∀ a, d.own a → w.heap.size ≤ a ∧ a < W.heap.size := fun a ha => hd.lt ha
  have old : ∀ q, q < W.heap.size → q ≠ R.g → w7.heap[q]? = W.heap[q]? := fun q hq hn => (hg.block q (Nat.lt_of_lt_of_le hq hk'.size) (fun e => hn (by injection e))).trans (hk'.block q hq (fun e => e))
  have new : ∀ q, q ≠ R.r → (w7.setCell ⟨R.r, 0, none⟩ (.slice (some ⟨g, 0, none⟩) (R.bs.length + 1) cap)).heap[q]? = w7.heap[q]? := fun q hq => Below.heap_setCell _ _ _ _ (fun e => hq e)
  have hget : ∀ i e, (R.bs ++ [d])[i]? = some e → (i < R.bs.length ∧ R.bs[i]? = some e) ∨ (i = R.bs.length ∧ e = d) := fun i e he => by
    rcases Nat.lt_trichotomy i R.bs.length with hi | hi | hi
    · rw [List.getElem?_append_left hi] at he; exact .inl ⟨hi, he⟩
    · subst hi; rw [List.getElem?_append_right (Nat.le_refl _)] at he; simp at he; exact .inr ⟨rfl, he.symm⟩
    · have := (List.getElem?_eq_some_iff.1 he).1; simp at this; omega
  have hol : ∀ (i : Nat) (e : Rb), R.bs[i]? = some e → ∀ q, e.own q → q < w.heap.size ∧ q ≠ R.r ∧ q ≠ R.g ∧ q ≠ g := fun i e he q hq => by
    have q1 := (h.lt (.inr (.inr ⟨i, e, he, hq⟩))).2
    have q2 := o2 i e he q hq
    refine ⟨q1, fun e' => ?_, q2, fun e' => by rcases hgg with g1 | g1; exact q2 (by omega); omega⟩
    rcases hq with hq | hq
    · have := (h.tb i e he).1 q hq; rw [e', h.ts.1] at this; simp at this
    · have := (h.tb i e he).2 q hq; rw [e', h.ts.1] at this; simp at this
  have sl : ∀ (b : Rb) q, b.own q → b.cs.ownBlock = some q ∨ b.vs.ownBlock = some q := fun b q hq => hq
  refine ⟨⟨R.r, g, cap, R.bs ++ [d], fun a => if d.cs.ownBlock = some a then (R.bs.length + 1, 2) else if d.vs.ownBlock = some a then (R.bs.length + 1, 3) else if a = g then (0, 1) else R.tag a⟩, ⟨?_, ?_, fun i e he => ?_, by simp; omega, h.rB, ⟨?_, ?_⟩, fun i e he => ?_⟩, rfl, ?_, by simp, ?_, ?_⟩
  · have e : w7.heap[R.r]? = some (.cells #[R.sl] 62 (0, 0)) := (old _ (by omega) o1).trans ((hk.block _ hrw (fun e => e)).trans h.a)
    show (w7.setCell ⟨R.r, 0, none⟩ _).heap[R.r]? = some (.cells #[.slice (some ⟨g, 0, none⟩) (R.bs ++ [d]).length cap] _ _)
    simp [World.setCell, Array.getElem?_modify, e]
  · show (w7.setCell _ _).ownsRow B _ 4 (.slice (some ⟨g, 0, none⟩) (R.bs ++ [d]).length cap) (R.bs ++ [d]).length (brow (R.bs ++ [d]))
    rw [brow_snoc, List.length_append, List.length_singleton]
    exact own_kept ho (fun q e => new q (fun e' => by injection e with e; exact hrg (e'.symm.trans e.symm)))
  · rcases hget i e he with ⟨hi, he'⟩ | ⟨rfl, rfl⟩
    · refine (h.b i e he').kept (fun q hq => ?_)
      obtain ⟨q1, q2, q3, _⟩ := hol i e he' q hq
      exact (new q q2).trans ((old q (by omega) q3).trans (hk.block q q1 (fun e => e)))
    · have := hd.kept (w' := w7.setCell ⟨R.r, 0, none⟩ (.slice (some ⟨g, 0, none⟩) (R.bs.length + 1) cap)) (fun q hq => (new q (by have := (hdl q hq).1; omega)).trans (old q (hdl q hq).2 (by have := (hdl q hq).1; omega)))
      exact ⟨own_mono this.co hBw, own_mono this.vo hBw, this.len, this.cl, this.ck, this.up, this.zl⟩
  · show (if d.cs.ownBlock = some R.r then _ else _) = _
    rw [if_neg (fun e => by have := (hdl R.r (.inl e)).1; omega), if_neg (fun e => by have := (hdl R.r (.inr e)).1; omega), if_neg hrg]; exact h.ts.1
  · show (if d.cs.ownBlock = some g then _ else _) = _
    have hng : ∀ q, d.own q → q ≠ g := fun q hq e => by have := hdl q hq; rcases hgg with g1 | g1 <;> omega
    rw [if_neg (fun e => hng g (.inl e) rfl), if_neg (fun e => hng g (.inr e) rfl), if_pos rfl]
  · rcases hget i e he with ⟨hi, he'⟩ | ⟨rfl, rfl⟩
    · obtain ⟨t1, t2⟩ := h.tb i e he'
      have nn : ∀ q, e.own q → ((if d.cs.ownBlock = some q then (R.bs.length + 1, 2) else if d.vs.ownBlock = some q then (R.bs.length + 1, 3) else if q = g then (0, 1) else R.tag q) : Nat × Nat) = R.tag q := fun q hq => by
        obtain ⟨q1, _, _, q4⟩ := hol i e he' q hq
        rw [if_neg (fun e => by have := (hdl _ (.inl e)).1; omega), if_neg (fun e => by have := (hdl _ (.inr e)).1; omega), if_neg q4]
      exact ⟨fun a ha => (nn a (.inl ha)).trans (t1 a ha), fun a ha => (nn a (.inr ha)).trans (t2 a ha)⟩
    · refine ⟨fun a ha => if_pos ha, fun a ha => ?_⟩
      show (if e.cs.ownBlock = some a then _ else _) = _
      rw [if_neg (fun e => hne a e ha), if_pos ha]
  · funext b
    show (Rd.at _ b).map Rb.view = setV R.view _ _ b
    unfold setV
    by_cases hb : b = (R.bs.length : Int)
    · rw [if_pos hb]
      unfold Rd.at
      have hn := h.n.1
      rw [if_pos (by omega)]
      show Option.map Rb.view (((R.bs ++ [d])[b.toNat]?).filter _) = _
      rw [show b.toNat = R.bs.length by omega, List.getElem?_append_right (Nat.le_refl _)]
      simp
      exact ⟨d, ⟨rfl, hon⟩, rfl⟩
    · rw [if_neg hb]
      show _ = (Rd.at R b).map Rb.view
      refine congrArg _ ?_
      unfold Rd.at
      by_cases h1 : 1 ≤ b
      · rw [if_pos h1, if_pos h1]
        refine congrArg (fun o => Option.filter (fun (d : Rb) => d.on) o) ?_
        show (R.bs ++ [d])[b.toNat]? = R.bs[b.toNat]?
        rcases Nat.lt_or_ge b.toNat R.bs.length with hi | hi
        · exact List.getElem?_append_left hi
        · rw [List.getElem?_eq_none (by simp; omega), List.getElem?_eq_none hi]
      · rw [if_neg h1, if_neg h1]
  · rintro a (rfl | rfl | ⟨i, e, he, ha⟩)
    · exact .inl (.inl rfl)
    · rcases hgg with e | e
      · exact .inl (.inr (.inl e.symm))
      · exact .inr (Nat.le_trans hWw e)
    · rcases hget i e he with ⟨hi, he'⟩ | ⟨rfl, rfl⟩
      · exact .inl (.inr (.inr ⟨i, e, he', ha⟩))
      · exact .inr (hdl a ha).1
  · have k1 : Keeps R.has w W' := (hk.mono (T := R.has) (fun _ _ e => e.elim)).trans hk' (fun _ _ e => e.elim)
    exact (k1.grown hg (fun q e => .inl (by injection e with e; subst e; exact .inr (.inl rfl)))).setCell (.inl (.inl rfl)) _
set_option maxRecDepth 100000 in
set_option maxHeartbeats 1600000 in
theorem rnew_any (w : World) :
    Calls Try.prog 8 #[] w fun e w' => ∃ R : Rd, e = .returned (.pointer (some ⟨R.r, 0, none⟩)) ∧ RefAs w.heap.size w' R ∧ R.view = (fun _ => none) ∧ R.bs.length = 1 ∧ (∀ a, R.has a → w.heap.size ≤ a) ∧ Keeps No w w' := by
  go_enter Try.func8, Try.ntmps8
  go_wp2_with fail
  go_returns
  have e1 : ((w.alloc (.cells #[.int .i64 0, .slice none 0 0, .slice none 0 0, .bool false] 59)).alloc (.cells #[.slice (some ⟨w.heap.size, 0, none⟩) 1 1] 62)).heap[w.heap.size + 1]? = some (.cells #[.slice (some ⟨w.heap.size, 0, none⟩) 1 1] 62 (0, 0)) := by
    have e := heap_alloc_new (w.alloc (.cells #[.int .i64 0, .slice none 0 0, .slice none 0 0, .bool false] 59)) (.cells #[.slice (some ⟨w.heap.size, 0, none⟩) 1 1] 62)
    rw [heap_two] at e; exact e
  have hget : ∀ (i : Nat) (d : Rb), [rb0][i]? = some d → i = 0 ∧ d = rb0 := fun i d h => by
    match i, h with
    | 0, h => injection h with h; exact ⟨rfl, h.symm⟩
  refine ⟨⟨w.heap.size + 1, w.heap.size, 1, [rb0], fun a => if a = w.heap.size + 1 then (0, 0) else (0, 1)⟩, rfl, ⟨e1, ?_, fun i d h => ?_, ⟨Nat.le_refl _, (show 1 ≤ 1000 by decide)⟩, by show w.heap.size ≤ w.heap.size + 1; omega, ⟨if_pos rfl, if_neg (by show w.heap.size ≠ w.heap.size + 1; omega)⟩, fun i d h => ?_⟩, ?_, rfl, ?_, (by repeat (first | with_reducible exact Keeps.refl _ _ | with_reducible refine Keeps.alloc ?_ _ | with_reducible refine Keeps.drewN ?_ _ | with_reducible refine Keeps.drew ?_ | with_reducible refine Keeps.setCell ?_ (.inr (by simp)) _ | with_reducible refine Keeps.setRow ?_ (by simp) _))⟩
  · exact (World.ownsRow_lit (base := w.heap.size) (size := 4) w #[.int .i64 0, .slice none 0 0, .slice none 0 0, .bool false] 1 (Nat.le_refl _) (by decide) rfl).alloc _
  · obtain ⟨rfl, rfl⟩ := hget i d h
    exact ⟨World.ownsRow_nil _ _ _ _, World.ownsRow_nil _ _ _ _, rfl, Nat.zero_le _, (fun t ht => by cases ht), List.Pairwise.nil, by decide⟩
  · obtain ⟨rfl, rfl⟩ := hget i d h
    exact ⟨(fun a h => by cases h), (fun a h => by cases h)⟩
  · funext b
    show (Rd.at _ b).map Rb.view = none
    cases hA : Rd.at _ b with
    | none => rfl
    | some d =>
      obtain ⟨i, _, h1, h2, _⟩ := at_pos hA
      have h2' : i < 1 := h2
      omega
  · rintro a (rfl | rfl | ⟨i, d, h, ha⟩)
    · show w.heap.size ≤ w.heap.size + 1; omega
    · exact Nat.le_refl _
    · obtain ⟨rfl, rfl⟩ := hget i d h
      rcases ha with ha | ha <;> cases ha
end Go.Proofs.Ytjchfldlmabblaa
