/- span.reckon: what holds while the blocks are gone over. -/
import Derived.Test.YtpjilcfmcbapcaaDoorLvMem
import Derived.Test.YtpjilcfmcbapcaaDoorMix
import Derived.Deep.DeepCutAuto
namespace Go.Proofs.YtpjilcfmcbapcaaDoor
open Go.RowKit
set_option linter.unusedVariables false
set_option linter.unusedSimpArgs false

/-- What is live, in memory. -/
structure Lv (w0 w : World) (M fb fo n W : Nat) (I O : Nat → Nat) : Prop where
  ex : ∃ GI GO gi go, w.heap[M]? = some (.cells #[.slice (some ⟨GI, 0, none⟩) n n, .slice (some ⟨GO, 0, none⟩) n n, .pointer (some ⟨fb, fo, none⟩), .bool false] 61 (0, 0)) ∧
    w.heap[GI]? = some (.cells (slotRow n n gi W).toArray 66 (0, 0)) ∧ w.heap[GO]? = some (.cells (slotRow n n go W).toArray 66 (0, 0)) ∧ Sets w W n gi go I O ∧
    (∀ b, b < n → w0.heap.size ≤ gi b ∧ w0.heap.size ≤ go b)
  lo : w0.heap.size ≤ M
theorem made_at {v0 w' : World} {n : Nat} {T : TypeId} {z : Value} (ho : w'.ownsRow v0.heap.size T 1 (.slice (some ⟨v0.heap.size, 0, none⟩) n n) n (madeCells #[z] n).toList) (hg : v0.grownBy w' none) :
    w'.heap[v0.heap.size]? = some (.cells (List.replicate n z).toArray T (0, 0)) ∧ Keeps No v0 w' ∧ v0.heap.size < w'.heap.size := by
  have h := ho
  rw [toList_madeCells_one] at h
  have e := own_full h
  exact ⟨e, (Keeps.refl _ _).grown hg (fun q e => by cases e), (Array.getElem?_eq_some_iff.1 e).1⟩
theorem infoSet : (Tryd.prog.info? 66).map (fun i => (i.zero, i.size, i.bytes)) = some (some (.slice none 0 0), 1, 24) := by kernel_rfl
theorem infoSI : (Tryd.prog.info? 22).map (fun i => (i.zero, i.size, i.bytes)) = some (some (.slice none 0 0), 1, 24) := by kernel_rfl
theorem infoBo : (Tryd.prog.info? 4).map (fun i => (i.zero, i.size, i.bytes)) = some (some (.bool false), 1, 1) := by kernel_rfl
/-- What holds while the blocks are gone over: i of them, and t of what block i leads to. -/
structure InitS (w0 w : World) (f : Fx) (fb fo R n M GI GO GB W s i t : Nat) (gi go : Nat → Nat) (vs : Nat → Value) (L : Nat → List Int) : Prop where
  k : Keeps No w0 w
  m : w.heap[M]? = some (.cells #[.slice (some ⟨GI, 0, none⟩) n n, .slice (some ⟨GO, 0, none⟩) n n, .pointer (some ⟨fb, fo, none⟩), .bool false] 61 (0, 0))
  hi : w.heap[GI]? = some (.cells (slotRow n s gi W).toArray 66 (0, 0))
  ho : w.heap[GO]? = some (.cells (slotRow n s go W).toArray 66 (0, 0))
  hb : w.heap[GB]? = some (.cells (vrow n vs).toArray 22 (0, 0))
  q : Sets w W s gi go (fun _ => 0) (fun _ => 0)
  r : BRows w0.heap.size w n vs L
  lm : w0.heap.size ≤ M
  li : w0.heap.size ≤ GI
  lo : w0.heap.size ≤ GO
  lb : w0.heap.size ≤ GB
  ne : GI ≠ GO
  ls : ∀ b, b < s → w0.heap.size ≤ gi b ∧ w0.heap.size ≤ go b
  e : ∀ c, c < n → ∀ z, z ∈ L c ↔ ∃ p : Nat, z = (p : Int) ∧ ((p < i ∧ (c : Int) ∈ lastTo (blk (bls f) p)) ∨ (p = i ∧ (c : Int) ∈ (lastTo (blk (bls f) i)).take t))
  len : ∀ c, c < n → (L c).length ≤ 100 * i + t
theorem own_typ {w : World} {B z n : Nat} {e : TypeId} {v : Value} {xs : List Value} (h : w.ownsRow B e z v n xs) {q : Nat} (hq : v.ownBlock = some q) : ∃ cs, w.heap[q]? = some (.cells cs e (0, 0)) := by
  rcases h.2 with ⟨rfl, _⟩ | ⟨g, cap, cur, rfl, _, hg, _⟩
  · cases hq
  · injection hq with hq; subst hq; exact ⟨cur, hg⟩
theorem InitS.slot {w0 w v2 : World} {f : Fx} {fb fo R n M GI GO GB W i p q : Nat} {gi go : Nat → Nat} {vs : Nat → Value} {L : Nat → List Int} (h : InitS w0 w f fb fo R n M GI GO GB W i i 0 gi go vs L) (hi : i < n) (hk : Keeps No w v2) (hp : w.heap.size ≤ p) (hq : w.heap.size ≤ q) (hpq : p ≠ q)
    (sp : WdAt v2 p 0 W) (sq : WdAt v2 q 0 W) : InitS w0 ((v2.setCell ⟨GI, i, none⟩ (wv p W)).setCell ⟨GO, i, none⟩ (wv q W)) f fb fo R n M GI GO GB W (i + 1) i 0 (upd gi i p) (upd go i q) vs L := by
  have l : ∀ {k o}, w.heap[k]? = some o → v2.heap[k]? = some o := fun {k o} h => (hk.block k (Array.getElem?_eq_some_iff.1 h).1 (fun e => e)).trans h
  have hk4 : Keeps (fun k => k = GI ∨ k = GO) w ((v2.setCell ⟨GI, i, none⟩ (wv p W)).setCell ⟨GO, i, none⟩ (wv q W)) := ((hk.mono (T := fun k => k = GI ∨ k = GO) (fun _ _ e => e.elim)).setCell (.inl (.inl rfl)) _).setCell (.inl (.inr rfl)) _
  have nS : ∀ {k : Nat} {cs : Array Value} {ty : TypeId}, w.heap[k]? = some (.cells cs ty (0, 0)) → ty ≠ 66 → ¬ (k = GI ∨ k = GO) := fun {k : Nat} {cs : Array Value} {ty : TypeId} hh ht e => by
    rcases e with e | e
    · exact type_ne hh h.hi ht e
    · exact type_ne hh h.ho ht e
  have lGI := (Array.getElem?_eq_some_iff.1 h.hi).1
  have lGO := (Array.getElem?_eq_some_iff.1 h.ho).1
  have g1 : (v2.setCell ⟨GI, i, none⟩ (wv p W)).heap[GI]? = some (.cells (slotRow n (i + 1) (upd gi i p) W).toArray 66 (0, 0)) := by
    rw [heap_setCell_same v2 GI i _ _ _ (l h.hi), ← slotRow_set gi W hi]; simp
  refine ⟨h.k.trans hk4 (fun k hk e => by have := h.li; have := h.lo; rcases e with e | e <;> omega), (hk4.block M (Array.getElem?_eq_some_iff.1 h.m).1 (nS h.m (by decide))).trans h.m, ?_, ?_, (hk4.block GB (Array.getElem?_eq_some_iff.1 h.hb).1 (nS h.hb (by decide))).trans h.hb,
    h.q.snoc (fun k hk2 ⟨b, hb, e⟩ => hk4.block k hk2 (fun e2 => by
      rcases e with e | e
      · exact nS (h.q.di b hb) (by decide) (by rw [← e]; exact e2)
      · exact nS (h.q.dq b hb) (by decide) (by rw [← e]; exact e2))) hp hq hpq ?_ ?_ rfl rfl,
    h.r.keep hk4 (fun c k hc e => by obtain ⟨cs, hcs⟩ := own_typ (h.r.own c hc) e; exact nS hcs (by decide)), h.lm, h.li, h.lo, h.lb, h.ne, fun b hb => ?_, h.e, h.len⟩
  · exact (Below.heap_setCell _ _ _ _ h.ne).trans g1
  · have g2 : (v2.setCell ⟨GI, i, none⟩ (wv p W)).heap[GO]? = some (.cells (slotRow n i go W).toArray 66 (0, 0)) := (Below.heap_setCell _ _ _ _ h.ne.symm).trans (l h.ho)
    rw [heap_setCell_same _ GO i _ _ _ g2, ← slotRow_set go W hi]; simp
  · exact (Below.heap_setCell _ _ _ _ (by simp only; omega)).trans ((Below.heap_setCell _ _ _ _ (by simp only; omega)).trans sp)
  · exact (Below.heap_setCell _ _ _ _ (by simp only; omega)).trans ((Below.heap_setCell _ _ _ _ (by simp only; omega)).trans sq)
  · by_cases e : b = i
    · subst e; rw [upd_same, upd_same]; exact ⟨Nat.le_trans h.k.size hp, Nat.le_trans h.k.size hq⟩
    · rw [upd_ne _ _ e, upd_ne _ _ e]; exact h.ls b (by omega)
/-- One edge more. -/
theorem InitS.edge {w0 w w2 : World} {f : Fx} {fb fo R n M GI GO GB W i t c g' cap : Nat} {gi go : Nat → Nat} {vs : Nat → Value} {L : Nat → List Int} (h : InitS w0 w f fb fo R n M GI GO GB W (i + 1) i t gi go vs L) (hc : c < n) (ht : (lastTo (blk (bls f) i))[t]? = some (c : Int))
    (ho : w2.ownsRow w0.heap.size 3 1 (.slice (some ⟨g', 0, none⟩) ((L c).length + 1) cap) ((L c).length + 1) (irow (L c ++ [(i : Int)]))) (hk : Keeps (fun q => (vs c).ownBlock = some q) w w2) (hg : (vs c).ownBlock = some g' ∨ w.heap.size ≤ g') :
    InitS w0 (w2.setCell ⟨GB, c, none⟩ (.slice (some ⟨g', 0, none⟩) ((L c).length + 1) cap)) f fb fo R n M GI GO GB W (i + 1) i (t + 1) gi go (upd vs c (.slice (some ⟨g', 0, none⟩) ((L c).length + 1) cap)) (upd L c (L c ++ [(i : Int)])) := by
  have nS : ∀ {k : Nat} {cs : Array Value} {ty : TypeId}, w.heap[k]? = some (.cells cs ty (0, 0)) → ty ≠ 3 → ¬ ((vs c).ownBlock = some k) := fun {k : Nat} {cs : Array Value} {ty : TypeId} hh hty e => by
    obtain ⟨cs2, h2⟩ := own_typ (h.r.own c hc) e
    exact type_ne hh h2 hty rfl
  have l : ∀ {k : Nat} {cs : Array Value} {ty : TypeId}, w.heap[k]? = some (.cells cs ty (0, 0)) → ty ≠ 3 → w2.heap[k]? = some (.cells cs ty (0, 0)) := fun {k : Nat} {cs : Array Value} {ty : TypeId} hh hty => (hk.block k (Array.getElem?_eq_some_iff.1 hh).1 (nS hh hty)).trans hh
  have r2 := h.r.app hc rfl ho hk hg
  have b2 := l h.hb (by decide)
  have hk3 : Keeps (fun q => q = GB) w2 (w2.setCell ⟨GB, c, none⟩ (.slice (some ⟨g', 0, none⟩) ((L c).length + 1) cap)) := (Keeps.refl (fun q => q = GB) w2).setCell (.inl rfl) _
  have l3 : ∀ {k : Nat} {cs : Array Value} {ty : TypeId}, w.heap[k]? = some (.cells cs ty (0, 0)) → ty ≠ 3 → ty ≠ 22 → (w2.setCell ⟨GB, c, none⟩ (.slice (some ⟨g', 0, none⟩) ((L c).length + 1) cap)).heap[k]? = some (.cells cs ty (0, 0)) := fun {k : Nat} {cs : Array Value} {ty : TypeId} hh h1 h2 =>
    (hk3.block k (Array.getElem?_eq_some_iff.1 (l hh h1)).1 (type_ne (l hh h1) b2 h2)).trans (l hh h1)
  refine ⟨(h.k.trans hk (fun k hk2 e => by have := own_lo (h.r.own c hc) k e; omega)).setCell (.inr h.lb) _, l3 h.m (by decide) (by decide), l3 h.hi (by decide) (by decide), l3 h.ho (by decide) (by decide), ?_,
    ⟨fun b hb => l3 (h.q.di b hb) (by decide) (by decide), fun b hb => l3 (h.q.dq b hb) (by decide) (by decide), h.q.ii, h.q.oo, h.q.io⟩,
    r2.keep hk3 (fun a q ha e => ?_), h.lm, h.li, h.lo, h.lb, h.ne, h.ls, fun d hd z => ?_, fun d hd => ?_⟩
  · rw [heap_setCell_same _ GB c _ _ _ b2, ← vrow_set vs _ hc]; simp
  · obtain ⟨cs, hcs⟩ := own_typ (r2.own a ha) e
    exact type_ne hcs b2 (by decide)
  · have htk : (lastTo (blk (bls f) i)).take (t + 1) = (lastTo (blk (bls f) i)).take t ++ [(c : Int)] := by
      obtain ⟨h1, h2⟩ := List.getElem?_eq_some_iff.1 ht
      rw [List.take_succ_eq_append_getElem h1, h2]
    rw [htk]
    by_cases e : d = c
    · subst e
      rw [upd_same, List.mem_append, h.e d hd z, List.mem_singleton]
      constructor
      · rintro (⟨p, hp, h1⟩ | rfl)
        · exact ⟨p, hp, h1.imp id (fun h => ⟨h.1, List.mem_append_left _ h.2⟩)⟩
        · exact ⟨i, rfl, .inr ⟨rfl, by simp⟩⟩
      · rintro ⟨p, hp, h1 | ⟨rfl, h2⟩⟩
        · exact .inl ⟨p, hp, .inl h1⟩
        · exact .inr hp
    · rw [upd_ne _ _ e, h.e d hd z]
      constructor
      · rintro ⟨p, hp, h1⟩
        exact ⟨p, hp, h1.imp id (fun h => ⟨h.1, List.mem_append_left _ h.2⟩)⟩
      · rintro ⟨p, hp, h1 | ⟨rfl, h2⟩⟩
        · exact ⟨p, hp, .inl h1⟩
        · rw [List.mem_append, List.mem_singleton] at h2
          rcases h2 with h2 | h2
          · exact ⟨p, hp, .inr ⟨rfl, h2⟩⟩
          · exact absurd (Int.ofNat.inj h2) e
  · by_cases e : d = c
    · subst e; rw [upd_same, List.length_append, List.length_singleton]; have := h.len d hd; omega
    · rw [upd_ne _ _ e]; have := h.len d hd; omega
theorem InitS.next {w0 w : World} {f : Fx} {fb fo R n M GI GO GB W i t : Nat} {gi go : Nat → Nat} {vs : Nat → Value} {L : Nat → List Int} (h : InitS w0 w f fb fo R n M GI GO GB W (i + 1) i t gi go vs L) (ht : t = (lastTo (blk (bls f) i)).length) (hl : t ≤ 100) :
    InitS w0 w f fb fo R n M GI GO GB W (i + 1) (i + 1) 0 gi go vs L :=
  ⟨h.k, h.m, h.hi, h.ho, h.hb, h.q, h.r, h.lm, h.li, h.lo, h.lb, h.ne, h.ls, fun c hc z => (h.e c hc z).trans (by
    rw [List.take_of_length_le (by omega), List.take_zero]
    constructor
    · rintro ⟨p, hp, ⟨h1, h2⟩ | ⟨rfl, h2⟩⟩
      · exact ⟨p, hp, .inl ⟨by omega, h2⟩⟩
      · exact ⟨p, hp, .inl ⟨by omega, h2⟩⟩
    · rintro ⟨p, hp, ⟨h1, h2⟩ | ⟨_, h2⟩⟩
      · by_cases e : p = i
        · subst e; exact ⟨p, hp, .inr ⟨rfl, h2⟩⟩
        · exact ⟨p, hp, .inl ⟨by omega, h2⟩⟩
      · cases h2), fun c hc => by have := h.len c hc; omega⟩
theorem wto_sl (x : Ix) (b off : Nat) (w : World) (h : x.at_ w b off) : Calls Tryd.prog 55 #[.pointer (some ⟨b, off, none⟩)] w fun e w' => w' = w ∧ ∃ s : Sl, e = .returned s.v ∧ s.l = toI x ∧ ∀ W, IxOk W x → SlAt W s := by
  refine (wto_any x b off w h).mono ?_
  rintro e w' ⟨rfl, ⟨rfl, ht⟩ | ⟨rfl, ht⟩⟩
  · exact ⟨rfl, x.to, rfl, ht.symm, fun W hx => hx.to⟩
  · exact ⟨rfl, ⟨none, 0, 0, []⟩, rfl, ht.symm, fun W _ => ⟨rfl, ⟨Nat.le_refl _, Nat.zero_le _⟩, (fun z hz => by cases hz), fun h => absurd h (by decide)⟩⟩
end Go.Proofs.YtpjilcfmcbapcaaDoor
