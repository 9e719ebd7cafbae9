/- What lies in memory while the work list is gone through; walk.To. -/
import Derived.Test.YtpjilcfmcbapcaaDoorLvSets
import Derived.Test.YtpjilcfmcbapcaaDoorLvBack
import Derived.Test.YtpjilcfmcbapcaaDoorLvForm
import Derived.Test.YtpjilcfmcbapcaaDoorMix
import Derived.Deep.DeepCutAuto
import Derived.Laws.CopyOwn
namespace Go.Proofs.YtpjilcfmcbapcaaDoor
open Go.RowKit
set_option linter.unusedVariables false
set_option linter.unusedSimpArgs false

theorem wpList_appIl (w : World) {ops : Array Oper} {rest : List Oper} {o : Oper} {a : Act} {Q : Exit → Act → World → Prop} (hgd : o.guard = none) (s x : Operand) (t : TypeId)
    (ho : o.op = .call { callee := .builtin .append, args := #[s, x], argTypes := #[t, t] }) (ht : Tryd.prog.underlying t = some (.slice 3))
    (B : Nat) (v : Value) (n : Nat) (l1 : List Int) (z : Int) (q : Nat) (hs : a.eval s = v) (hown : w.ownsRow B 3 1 v n (irow l1)) (hx : a.eval x = .slice (some ⟨q, 0, none⟩) 1 1) (hq : w.heap[q]? = some (.cells #[.int .i64 z] 3 (0, 0)))
    (hn : n ≤ 999999) (hB : B ≤ w.heap.size)
    (h : ∀ g' cap w', w'.ownsRow B 3 1 (.slice (some ⟨g', 0, none⟩) (n + 1) cap) (n + 1) (irow (l1 ++ [z])) → w.grownBy w' v.ownBlock → (v.ownBlock = some g' ∨ w.heap.size ≤ g') → wpList Tryd.prog ops Q rest (a.put o.dst (.slice (some ⟨g', 0, none⟩) (n + 1) cap)) w') : wpList Tryd.prog ops Q (o :: rest) a w := by
  obtain ⟨i0, hi, hz0, hz1, hz2⟩ := info_parts infoI
  refine wpList_append_lies w hgd s x t ho B 3 i0 (.int .i64 0) 1 8 ht hi hz0 hz1 hz2 rfl (by decide) v n (irow l1) hs hown ⟨q, 0, none⟩ 1 1 [.int .i64 z] hx rfl (fun j u hu => ?_) (fun u hu => by simp at hu; subst hu; rfl) (by decide) (by unfold maxLen; omega) (by omega) hB _ rfl (fun g' cap w' k1 k2 k3 _ => h g' cap w' (by rw [irow_app]; exact k1) k2 (k3.imp id (fun e => by omega)))
  cases j with
  | zero => obtain rfl : Value.int .i64 z = u := by simpa using hu
            have e : (⟨q, 0, none⟩ : Addr).add 0 = ⟨q, 0, none⟩ := by unfold Addr.add; split <;> simp_all
            rw [e]; unfold World.cell?; simp only; rw [hq]; rfl
  | succ j => cases hu
/-- Of two blocks of different types none is the other. -/
theorem type_ne {w : World} {a b : Nat} {ca cb : Array Value} {ta tb : TypeId} {fa fb : Nat × Nat} (ha : w.heap[a]? = some (.cells ca ta fa)) (hb : w.heap[b]? = some (.cells cb tb fb)) (h : ta ≠ tb) : a ≠ b := fun e => by
  subst e; rw [ha] at hb; injection hb with hb; injection hb with _ e2 _; exact h e2
set_option maxHeartbeats 1600000 in
theorem wto_any (x : Ix) (b off : Nat) (w : World) (h : x.at_ w b off) : Calls Tryd.prog 55 #[.pointer (some ⟨b, off, none⟩)] w fun e w' => w' = w ∧ ((e = .returned x.to.v ∧ toI x = x.to.l) ∨ (e = .returned (.slice none 0 0) ∧ toI x = [])) := by
  have c0 := h 0 _ rfl
  have c9 := h 9 _ rfl
  rw [Nat.add_zero] at c0
  have HT : Hid (toI x = if x.op = 14 ∨ x.op = 15 ∨ x.op = 16 then x.to.l else []) := Lib.hid rfl
  clear h
  by_cases h14 : x.op = 14
  · rw [h14] at c0
    go_enter Tryd.func55, Tryd.ntmps55
    go_wp2_with fail
    go_returns
    exact ⟨rfl, .inl ⟨rfl, by rw [HT.out, if_pos (.inl h14)]⟩⟩
  by_cases h15 : x.op = 15
  · rw [h15] at c0
    go_enter Tryd.func55, Tryd.ntmps55
    go_wp2_with fail
    go_returns
    exact ⟨rfl, .inl ⟨rfl, by rw [HT.out, if_pos (.inr (.inl h15))]⟩⟩
  by_cases h16 : x.op = 16
  · rw [h16] at c0
    go_enter Tryd.func55, Tryd.ntmps55
    go_wp2_with fail
    go_returns
    exact ⟨rfl, .inl ⟨rfl, by rw [HT.out, if_pos (.inr (.inr h16))]⟩⟩
  · have e1 : (x.op == 14) = false := beq_eq_false_iff_ne.2 h14
    have e2 : (x.op == 15) = false := beq_eq_false_iff_ne.2 h15
    have e3 : (x.op == 16) = false := beq_eq_false_iff_ne.2 h16
    have HN : Hid (¬ (x.op = 14 ∨ x.op = 15 ∨ x.op = 16)) := Lib.hid (fun h => by rcases h with h | h | h <;> contradiction)
    clear h14 h15 h16
    go_enter Tryd.func55, Tryd.ntmps55
    go_wp2_with fail
    go_returns
    exact ⟨rfl, .inr ⟨rfl, by rw [HT.out, if_neg HN.out]⟩⟩
/-- The sets at each block's beginning, and behind its end. -/
structure Sets (w : World) (W n : Nat) (gi go I O : Nat → Nat) : Prop where
  di : ∀ b, b < n → WdAt w (gi b) (I b) W
  dq : ∀ b, b < n → WdAt w (go b) (O b) W
  ii : ∀ b c, b < n → c < n → gi b = gi c → b = c
  oo : ∀ b c, b < n → c < n → go b = go c → b = c
  io : ∀ b c, b < n → c < n → gi b ≠ go c
theorem Sets.keep {S : Nat → Prop} {w w' : World} {W n : Nat} {gi go I O : Nat → Nat} (h : Sets w W n gi go I O) (hk : Keeps S w w') (hS : ∀ b, b < n → ¬ S (gi b) ∧ ¬ S (go b)) : Sets w' W n gi go I O :=
  ⟨fun b hb => (h.di b hb).keep hk (hS b hb).1, fun b hb => (h.dq b hb).keep hk (hS b hb).2, h.ii, h.oo, h.io⟩
theorem Sets.setO {w w' : World} {W n : Nat} {gi go I O : Nat → Nat} (h : Sets w W n gi go I O) {p Y : Nat} (hp : p < n) (hk : Keeps (fun q => q = go p) w w') (hs : WdAt w' (go p) Y W) : Sets w' W n gi go I (upd O p Y) :=
  ⟨fun b hb => (h.di b hb).keep hk (h.io b p hb hp), fun b hb => by
    by_cases e : b = p
    · subst e; rw [upd_same]; exact hs
    · rw [upd_ne _ _ e]; exact (h.dq b hb).keep hk (fun e2 => e (h.oo b p hb hp e2)), h.ii, h.oo, h.io⟩
theorem Sets.setI {w w' : World} {W n : Nat} {gi go I O : Nat → Nat} (h : Sets w W n gi go I O) {p Y : Nat} (hp : p < n) (hk : Keeps (fun q => q = gi p) w w') (hs : WdAt w' (gi p) Y W) : Sets w' W n gi go (upd I p Y) O :=
  ⟨fun b hb => by
    by_cases e : b = p
    · subst e; rw [upd_same]; exact hs
    · rw [upd_ne _ _ e]; exact (h.di b hb).keep hk (fun e2 => e (h.ii b p hb hp e2)), fun b hb => (h.dq b hb).keep hk (fun e => h.io p b hp hb e.symm), h.ii, h.oo, h.io⟩
/-- One block's sets more, in new blocks. -/
theorem Sets.snoc {w w' : World} {W i p q : Nat} {gi go I O : Nat → Nat} (h : Sets w W i gi go I O) (hk : ∀ k, k < w.heap.size → (∃ b, b < i ∧ (k = gi b ∨ k = go b)) → w'.heap[k]? = w.heap[k]?) (hp : w.heap.size ≤ p) (hq : w.heap.size ≤ q) (hpq : p ≠ q) (sp : WdAt w' p 0 W) (sq : WdAt w' q 0 W) (hI : I i = 0) (hO : O i = 0) : Sets w' W (i + 1) (upd gi i p) (upd go i q) I O := by
  have li : ∀ b, b < i → gi b < w.heap.size := fun b hb => (h.di b hb).lt
  have lo : ∀ b, b < i → go b < w.heap.size := fun b hb => (h.dq b hb).lt
  refine ⟨fun b hb => ?_, fun b hb => ?_, fun b c hb hc e => ?_, fun b c hb hc e => ?_, fun b c hb hc => ?_⟩
  · by_cases eb : b = i
    · subst eb; rw [upd_same, hI]; exact sp
    · rw [upd_ne _ _ eb]; exact (hk _ (li b (by omega)) ⟨b, by omega, .inl rfl⟩).trans (h.di b (by omega))
  · by_cases eb : b = i
    · subst eb; rw [upd_same, hO]; exact sq
    · rw [upd_ne _ _ eb]; exact (hk _ (lo b (by omega)) ⟨b, by omega, .inr rfl⟩).trans (h.dq b (by omega))
  · by_cases eb : b = i <;> by_cases ec : c = i
    · omega
    · rw [eb, upd_same, upd_ne _ _ ec] at e; have := li c (by omega); omega
    · rw [ec, upd_same, upd_ne _ _ eb] at e; have := li b (by omega); omega
    · rw [upd_ne _ _ eb, upd_ne _ _ ec] at e; exact h.ii b c (by omega) (by omega) e
  · by_cases eb : b = i <;> by_cases ec : c = i
    · omega
    · rw [eb, upd_same, upd_ne _ _ ec] at e; have := lo c (by omega); omega
    · rw [ec, upd_same, upd_ne _ _ eb] at e; have := lo b (by omega); omega
    · rw [upd_ne _ _ eb, upd_ne _ _ ec] at e; exact h.oo b c (by omega) (by omega) e
  · by_cases eb : b = i <;> by_cases ec : c = i
    · rw [eb, ec, upd_same, upd_same]; exact hpq
    · rw [eb, upd_same, upd_ne _ _ ec]; have := lo c (by omega); omega
    · rw [ec, upd_same, upd_ne _ _ eb]; have := li b (by omega); omega
    · rw [upd_ne _ _ eb, upd_ne _ _ ec]; exact h.io b c (by omega) (by omega)
/-- A row of sets, the first i made. -/
def slotRow (n i : Nat) (gi : Nat → Nat) (W : Nat) : List Value := (List.range n).map (fun b => if b < i then wv (gi b) W else .slice none 0 0)
theorem slotRow_len (n i : Nat) (gi : Nat → Nat) (W : Nat) : (slotRow n i gi W).length = n := by unfold slotRow; rw [List.length_map, List.length_range]
theorem slotRow_get {n i b : Nat} (gi : Nat → Nat) (W : Nat) (hb : b < n) (hi : b < i) : (slotRow n i gi W)[b]? = some (wv (gi b) W) := by
  unfold slotRow; rw [List.getElem?_map, List.getElem?_range hb]; simp [hi]
theorem slotRow_set {n i p : Nat} (gi : Nat → Nat) (W : Nat) (hi : i < n) : (slotRow n i gi W).set i (wv p W) = slotRow n (i + 1) (upd gi i p) W := by
  refine List.ext_getElem? fun b => ?_
  rw [List.getElem?_set, slotRow_len]
  unfold slotRow
  by_cases hb : b < n
  · rw [List.getElem?_map, List.getElem?_map, List.getElem?_range hb]
    by_cases e : i = b
    · subst e; rw [if_pos rfl, if_pos hb]; simp [upd_same]
    · rw [if_neg e]
      simp only [Option.map_some]
      by_cases h1 : b < i
      · rw [if_pos h1, if_pos (by omega), upd_ne _ _ (by omega)]
      · rw [if_neg h1, if_neg (by omega)]
  · rw [if_neg (by omega), List.getElem?_eq_none (by simp; omega), List.getElem?_eq_none (by simp; omega)]
theorem slotRow_zero (n : Nat) (gi : Nat → Nat) (W : Nat) : slotRow n 0 gi W = List.replicate n (.slice none 0 0) := by
  refine List.ext_getElem? fun b => ?_
  unfold slotRow
  by_cases hb : b < n
  · rw [List.getElem?_map, List.getElem?_range hb, List.getElem?_replicate, if_pos hb]; simp
  · rw [List.getElem?_eq_none (by simp; omega), List.getElem?_eq_none (by simp; omega)]
/-- Rows of numbers, none of which shares a block with another one. -/
structure BRows (B0 : Nat) (w : World) (n : Nat) (vs : Nat → Value) (L : Nat → List Int) : Prop where
  own : ∀ c, c < n → w.ownsRow B0 3 1 (vs c) (L c).length (irow (L c))
  dis : ∀ c d q, c < n → d < n → c ≠ d → (vs c).ownBlock = some q → (vs d).ownBlock ≠ some q
theorem own_ltb {w : World} {B z n : Nat} {e : TypeId} {v : Value} {xs : List Value} (h : w.ownsRow B e z v n xs) {q : Nat} (hq : v.ownBlock = some q) : q < w.heap.size := (h.lt q hq).2
theorem BRows.keep {S : Nat → Prop} {B0 n : Nat} {w w' : World} {vs : Nat → Value} {L : Nat → List Int} (h : BRows B0 w n vs L) (hk : Keeps S w w') (hS : ∀ c q, c < n → (vs c).ownBlock = some q → ¬ S q) : BRows B0 w' n vs L :=
  ⟨fun c hc => own_kept (h.own c hc) (fun q hq => hk.block q (own_ltb (h.own c hc) hq) (hS c q hc hq)), h.dis⟩
theorem BRows.app {B0 n c : Nat} {w w' : World} {vs : Nat → Value} {L : Nat → List Int} (h : BRows B0 w n vs L) (hc : c < n) {v' : Value} {z : Int} {g' cap : Nat} (hv : v' = .slice (some ⟨g', 0, none⟩) ((L c).length + 1) cap) (ho : w'.ownsRow B0 3 1 v' ((L c).length + 1) (irow (L c ++ [z]))) (hk : Keeps (fun q => (vs c).ownBlock = some q) w w') (hg : (vs c).ownBlock = some g' ∨ w.heap.size ≤ g') : BRows B0 w' n (upd vs c v') (upd L c (L c ++ [z])) := by
  have hb : v'.ownBlock = some g' := by rw [hv]; rfl
  refine ⟨fun d hd => ?_, fun a b q ha hb' hab e1 e2 => ?_⟩
  · by_cases e : d = c
    · subst e; rw [upd_same, upd_same, List.length_append, List.length_singleton]; exact ho
    · rw [upd_ne _ _ e, upd_ne _ _ e]
      exact own_kept (h.own d hd) (fun q hq => hk.block q (own_ltb (h.own d hd) hq) (h.dis d c q hd hc e hq))
  · by_cases ea : a = c
    · subst ea
      rw [upd_same, hb] at e1
      injection e1 with e1
      subst e1
      rw [upd_ne _ _ (fun e => hab e.symm)] at e2
      rcases hg with hg | hg
      · exact h.dis a b g' hc hb' hab hg e2
      · have := own_ltb (h.own b hb') e2; omega
    · rw [upd_ne _ _ ea] at e1
      by_cases eb : b = c
      · subst eb
        rw [upd_same, hb] at e2
        injection e2 with e2
        subst e2
        rcases hg with hg | hg
        · exact h.dis a b g' ha hc hab e1 hg
        · have := own_ltb (h.own a ha) e1; omega
      · rw [upd_ne _ _ eb] at e2
        exact h.dis a b q ha hb' hab e1 e2
def vrow (n : Nat) (vs : Nat → Value) : List Value := (List.range n).map vs
theorem vrow_len (n : Nat) (vs : Nat → Value) : (vrow n vs).length = n := by unfold vrow; rw [List.length_map, List.length_range]
theorem vrow_get {n b : Nat} (vs : Nat → Value) (hb : b < n) : (vrow n vs)[b]? = some (vs b) := by unfold vrow; rw [List.getElem?_map, List.getElem?_range hb]; rfl
theorem vrow_set {n c : Nat} (vs : Nat → Value) (v : Value) (hc : c < n) : (vrow n vs).set c v = vrow n (upd vs c v) := by
  refine List.ext_getElem? fun b => ?_
  rw [List.getElem?_set, vrow_len]
  by_cases hb : b < n
  · rw [vrow_get _ hb, vrow_get _ hb]
    by_cases e : c = b
    · subst e; rw [if_pos rfl, if_pos hb, upd_same]
    · rw [if_neg e, upd_ne _ _ (fun e2 => e e2.symm)]
  · rw [if_neg (by omega), List.getElem?_eq_none (by rw [vrow_len]; omega), List.getElem?_eq_none (by rw [vrow_len]; omega)]
theorem vrow_const (n : Nat) (v : Value) : vrow n (fun _ => v) = List.replicate n v := by
  refine List.ext_getElem? fun b => ?_
  by_cases hb : b < n
  · rw [vrow_get _ hb, List.getElem?_replicate, if_pos hb]
  · rw [List.getElem?_eq_none (by rw [vrow_len]; omega), List.getElem?_eq_none (by simp; omega)]
end Go.Proofs.YtpjilcfmcbapcaaDoor
/- span.reckon: what holds while the blocks are gone over. -/
namespace Go.Proofs.YtpjilcfmcbapcaaDoor
open Go.RowKit
set_option linter.unusedVariables false
set_option linter.unusedSimpArgs false

/-- What is live, in memory. -/
structure Lv (w0 w : World) (M fb fo n W : Nat) (I O : Nat → Nat) : Prop where
  ex : ∃ GI GO gi go, w.heap[M]? = some (.cells #[.slice (some ⟨GI, 0, none⟩) n n, .slice (some ⟨GO, 0, none⟩) n n, .pointer (some ⟨fb, fo, none⟩), .bool false] 61 (0, 0)) ∧
    w.heap[GI]? = some (.cells (slotRow n n gi W).toArray 66 (0, 0)) ∧ w.heap[GO]? = some (.cells (slotRow n n go W).toArray 66 (0, 0)) ∧ Sets w W n gi go I O ∧
    (∀ b, b < n → w0.heap.size ≤ gi b ∧ w0.heap.size ≤ go b)
  lo : w0.heap.size ≤ M
theorem made_at {v0 w' : World} {n : Nat} {T : TypeId} {z : Value} (ho : w'.ownsRow v0.heap.size T 1 (.slice (some ⟨v0.heap.size, 0, none⟩) n n) n (madeCells #[z] n).toList) (hg : v0.grownBy w' none) :
    w'.heap[v0.heap.size]? = some (.cells (List.replicate n z).toArray T (0, 0)) ∧ Keeps No v0 w' ∧ v0.heap.size < w'.heap.size := by
  have h := ho
  rw [toList_madeCells_one] at h
  have e := own_full h
  exact ⟨e, (Keeps.refl _ _).grown hg (fun q e => by cases e), (Array.getElem?_eq_some_iff.1 e).1⟩
theorem infoSet : (Tryd.prog.info? 66).map (fun i => (i.zero, i.size, i.bytes)) = some (some (.slice none 0 0), 1, 24) := by kernel_rfl
theorem infoSI : (Tryd.prog.info? 22).map (fun i => (i.zero, i.size, i.bytes)) = some (some (.slice none 0 0), 1, 24) := by kernel_rfl
theorem infoBo : (Tryd.prog.info? 4).map (fun i => (i.zero, i.size, i.bytes)) = some (some (.bool false), 1, 1) := by kernel_rfl
/-- What holds while the blocks are gone over: i of them, and t of what block i leads to. -/
structure InitS (w0 w : World) (f : Fx) (fb fo R n M GI GO GB W s i t : Nat) (gi go : Nat → Nat) (vs : Nat → Value) (L : Nat → List Int) : Prop where
  k : Keeps No w0 w
  m : w.heap[M]? = some (.cells #[.slice (some ⟨GI, 0, none⟩) n n, .slice (some ⟨GO, 0, none⟩) n n, .pointer (some ⟨fb, fo, none⟩), .bool false] 61 (0, 0))
  hi : w.heap[GI]? = some (.cells (slotRow n s gi W).toArray 66 (0, 0))
  ho : w.heap[GO]? = some (.cells (slotRow n s go W).toArray 66 (0, 0))
  hb : w.heap[GB]? = some (.cells (vrow n vs).toArray 22 (0, 0))
  q : Sets w W s gi go (fun _ => 0) (fun _ => 0)
  r : BRows w0.heap.size w n vs L
  lm : w0.heap.size ≤ M
  li : w0.heap.size ≤ GI
  lo : w0.heap.size ≤ GO
  lb : w0.heap.size ≤ GB
  ne : GI ≠ GO
  ls : ∀ b, b < s → w0.heap.size ≤ gi b ∧ w0.heap.size ≤ go b
  e : ∀ c, c < n → ∀ z, z ∈ L c ↔ ∃ p : Nat, z = (p : Int) ∧ ((p < i ∧ (c : Int) ∈ lastTo (blk (bls f) p)) ∨ (p = i ∧ (c : Int) ∈ (lastTo (blk (bls f) i)).take t))
  len : ∀ c, c < n → (L c).length ≤ 100 * i + t
theorem own_typ {w : World} {B z n : Nat} {e : TypeId} {v : Value} {xs : List Value} (h : w.ownsRow B e z v n xs) {q : Nat} (hq : v.ownBlock = some q) : ∃ cs, w.heap[q]? = some (.cells cs e (0, 0)) := by
  rcases h.2 with ⟨rfl, _⟩ | ⟨g, cap, cur, rfl, _, hg, _⟩
  · cases hq
  · injection hq with hq; subst hq; exact ⟨cur, hg⟩
theorem InitS.slot {w0 w v2 : World} {f : Fx} {fb fo R n M GI GO GB W i p q : Nat} {gi go : Nat → Nat} {vs : Nat → Value} {L : Nat → List Int} (h : InitS w0 w f fb fo R n M GI GO GB W i i 0 gi go vs L) (hi : i < n) (hk : Keeps No w v2) (hp : w.heap.size ≤ p) (hq : w.heap.size ≤ q) (hpq : p ≠ q)
    (sp : WdAt v2 p 0 W) (sq : WdAt v2 q 0 W) : InitS w0 ((v2.setCell ⟨GI, i, none⟩ (wv p W)).setCell ⟨GO, i, none⟩ (wv q W)) f fb fo R n M GI GO GB W (i + 1) i 0 (upd gi i p) (upd go i q) vs L := by
  have l : ∀ {k o}, w.heap[k]? = some o → v2.heap[k]? = some o := fun {k o} h => (hk.block k (Array.getElem?_eq_some_iff.1 h).1 (fun e => e)).trans h
  have hk4 : Keeps (fun k => k = GI ∨ k = GO) w ((v2.setCell ⟨GI, i, none⟩ (wv p W)).setCell ⟨GO, i, none⟩ (wv q W)) := ((hk.mono (T := fun k => k = GI ∨ k = GO) (fun _ _ e => e.elim)).setCell (.inl (.inl rfl)) _).setCell (.inl (.inr rfl)) _
  have nS : ∀ {k : Nat} {cs : Array Value} {ty : TypeId}, w.heap[k]? = some (.cells cs ty (0, 0)) → ty ≠ 66 → ¬ (k = GI ∨ k = GO) := fun {k : Nat} {cs : Array Value} {ty : TypeId} hh ht e => by
    rcases e with e | e
    · exact type_ne hh h.hi ht e
    · exact type_ne hh h.ho ht e
  have lGI := (Array.getElem?_eq_some_iff.1 h.hi).1
  have lGO := (Array.getElem?_eq_some_iff.1 h.ho).1
  have g1 : (v2.setCell ⟨GI, i, none⟩ (wv p W)).heap[GI]? = some (.cells (slotRow n (i + 1) (upd gi i p) W).toArray 66 (0, 0)) := by
    rw [heap_setCell_same v2 GI i _ _ _ (l h.hi), ← slotRow_set gi W hi]; simp
  refine ⟨h.k.trans hk4 (fun k hk e => by have := h.li; have := h.lo; rcases e with e | e <;> omega), (hk4.block M (Array.getElem?_eq_some_iff.1 h.m).1 (nS h.m (by decide))).trans h.m, ?_, ?_, (hk4.block GB (Array.getElem?_eq_some_iff.1 h.hb).1 (nS h.hb (by decide))).trans h.hb,
    h.q.snoc (fun k hk2 ⟨b, hb, e⟩ => hk4.block k hk2 (fun e2 => by
      rcases e with e | e
      · exact nS (h.q.di b hb) (by decide) (by rw [← e]; exact e2)
      · exact nS (h.q.dq b hb) (by decide) (by rw [← e]; exact e2))) hp hq hpq ?_ ?_ rfl rfl,
    h.r.keep hk4 (fun c k hc e => by obtain ⟨cs, hcs⟩ := own_typ (h.r.own c hc) e; exact nS hcs (by decide)), h.lm, h.li, h.lo, h.lb, h.ne, fun b hb => ?_, h.e, h.len⟩
  · exact (Below.heap_setCell _ _ _ _ h.ne).trans g1
  · have g2 : (v2.setCell ⟨GI, i, none⟩ (wv p W)).heap[GO]? = some (.cells (slotRow n i go W).toArray 66 (0, 0)) := (Below.heap_setCell _ _ _ _ h.ne.symm).trans (l h.ho)
    rw [heap_setCell_same _ GO i _ _ _ g2, ← slotRow_set go W hi]; simp
  · exact (Below.heap_setCell _ _ _ _ (by simp only; omega)).trans ((Below.heap_setCell _ _ _ _ (by simp only; omega)).trans sp)
  · exact (Below.heap_setCell _ _ _ _ (by simp only; omega)).trans ((Below.heap_setCell _ _ _ _ (by simp only; omega)).trans sq)
  · by_cases e : b = i
    · subst e; rw [upd_same, upd_same]; exact ⟨Nat.le_trans h.k.size hp, Nat.le_trans h.k.size hq⟩
    · rw [upd_ne _ _ e, upd_ne _ _ e]; exact h.ls b (by omega)
/-- One edge more. -/
theorem InitS.edge {w0 w w2 : World} {f : Fx} {fb fo R n M GI GO GB W i t c g' cap : Nat} {gi go : Nat → Nat} {vs : Nat → Value} {L : Nat → List Int} (h : InitS w0 w f fb fo R n M GI GO GB W (i + 1) i t gi go vs L) (hc : c < n) (ht : (lastTo (blk (bls f) i))[t]? = some (c : Int))
    (ho : w2.ownsRow w0.heap.size 3 1 (.slice (some ⟨g', 0, none⟩) ((L c).length + 1) cap) ((L c).length + 1) (irow (L c ++ [(i : Int)]))) (hk : Keeps (fun q => (vs c).ownBlock = some q) w w2) (hg : (vs c).ownBlock = some g' ∨ w.heap.size ≤ g') :
    InitS w0 (w2.setCell ⟨GB, c, none⟩ (.slice (some ⟨g', 0, none⟩) ((L c).length + 1) cap)) f fb fo R n M GI GO GB W (i + 1) i (t + 1) gi go (upd vs c (.slice (some ⟨g', 0, none⟩) ((L c).length + 1) cap)) (upd L c (L c ++ [(i : Int)])) := by
  have nS : ∀ {k : Nat} {cs : Array Value} {ty : TypeId}, w.heap[k]? = some (.cells cs ty (0, 0)) → ty ≠ 3 → ¬ ((vs c).ownBlock = some k) := fun {k : Nat} {cs : Array Value} {ty : TypeId} hh hty e => by
    obtain ⟨cs2, h2⟩ := own_typ (h.r.own c hc) e
    exact type_ne hh h2 hty rfl
  have l : ∀ {k : Nat} {cs : Array Value} {ty : TypeId}, w.heap[k]? = some (.cells cs ty (0, 0)) → ty ≠ 3 → w2.heap[k]? = some (.cells cs ty (0, 0)) := fun {k : Nat} {cs : Array Value} {ty : TypeId} hh hty => (hk.block k (Array.getElem?_eq_some_iff.1 hh).1 (nS hh hty)).trans hh
  have r2 := h.r.app hc rfl ho hk hg
  have b2 := l h.hb (by decide)
  have hk3 : Keeps (fun q => q = GB) w2 (w2.setCell ⟨GB, c, none⟩ (.slice (some ⟨g', 0, none⟩) ((L c).length + 1) cap)) := (Keeps.refl (fun q => q = GB) w2).setCell (.inl rfl) _
  have l3 : ∀ {k : Nat} {cs : Array Value} {ty : TypeId}, w.heap[k]? = some (.cells cs ty (0, 0)) → ty ≠ 3 → ty ≠ 22 → (w2.setCell ⟨GB, c, none⟩ (.slice (some ⟨g', 0, none⟩) ((L c).length + 1) cap)).heap[k]? = some (.cells cs ty (0, 0)) := fun {k : Nat} {cs : Array Value} {ty : TypeId} hh h1 h2 =>
    (hk3.block k (Array.getElem?_eq_some_iff.1 (l hh h1)).1 (type_ne (l hh h1) b2 h2)).trans (l hh h1)
  refine ⟨(h.k.trans hk (fun k hk2 e => by have := own_lo (h.r.own c hc) k e; omega)).setCell (.inr h.lb) _, l3 h.m (by decide) (by decide), l3 h.hi (by decide) (by decide), l3 h.ho (by decide) (by decide), ?_,
    ⟨fun b hb => l3 (h.q.di b hb) (by decide) (by decide), fun b hb => l3 (h.q.dq b hb) (by decide) (by decide), h.q.ii, h.q.oo, h.q.io⟩,
    r2.keep hk3 (fun a q ha e => ?_), h.lm, h.li, h.lo, h.lb, h.ne, h.ls, fun d hd z => ?_, fun d hd => ?_⟩
  · rw [heap_setCell_same _ GB c _ _ _ b2, ← vrow_set vs _ hc]; simp
  · obtain ⟨cs, hcs⟩ := own_typ (r2.own a ha) e
    exact type_ne hcs b2 (by decide)
  · have htk : (lastTo (blk (bls f) i)).take (t + 1) = (lastTo (blk (bls f) i)).take t ++ [(c : Int)] := by
      obtain ⟨h1, h2⟩ := List.getElem?_eq_some_iff.1 ht
      rw [List.take_succ_eq_append_getElem h1, h2]
    rw [htk]
    by_cases e : d = c
    · subst e
      rw [upd_same, List.mem_append, h.e d hd z, List.mem_singleton]
      constructor
      · rintro (⟨p, hp, h1⟩ | rfl)
        · exact ⟨p, hp, h1.imp id (fun h => ⟨h.1, List.mem_append_left _ h.2⟩)⟩
        · exact ⟨i, rfl, .inr ⟨rfl, by simp⟩⟩
      · rintro ⟨p, hp, h1 | ⟨rfl, h2⟩⟩
        · exact .inl ⟨p, hp, .inl h1⟩
        · exact .inr hp
    · rw [upd_ne _ _ e, h.e d hd z]
      constructor
      · rintro ⟨p, hp, h1⟩
        exact ⟨p, hp, h1.imp id (fun h => ⟨h.1, List.mem_append_left _ h.2⟩)⟩
      · rintro ⟨p, hp, h1 | ⟨rfl, h2⟩⟩
        · exact ⟨p, hp, .inl h1⟩
        · rw [List.mem_append, List.mem_singleton] at h2
          rcases h2 with h2 | h2
          · exact ⟨p, hp, .inr ⟨rfl, h2⟩⟩
          · exact absurd (Int.ofNat.inj h2) e
  · by_cases e : d = c
    · subst e; rw [upd_same, List.length_append, List.length_singleton]; have := h.len d hd; omega
    · rw [upd_ne _ _ e]; have := h.len d hd; omega
theorem InitS.next {w0 w : World} {f : Fx} {fb fo R n M GI GO GB W i t : Nat} {gi go : Nat → Nat} {vs : Nat → Value} {L : Nat → List Int} (h : InitS w0 w f fb fo R n M GI GO GB W (i + 1) i t gi go vs L) (ht : t = (lastTo (blk (bls f) i)).length) (hl : t ≤ 100) :
    InitS w0 w f fb fo R n M GI GO GB W (i + 1) (i + 1) 0 gi go vs L :=
  ⟨h.k, h.m, h.hi, h.ho, h.hb, h.q, h.r, h.lm, h.li, h.lo, h.lb, h.ne, h.ls, fun c hc z => (h.e c hc z).trans (by
    rw [List.take_of_length_le (by omega), List.take_zero]
    constructor
    · rintro ⟨p, hp, ⟨h1, h2⟩ | ⟨rfl, h2⟩⟩
      · exact ⟨p, hp, .inl ⟨by omega, h2⟩⟩
      · exact ⟨p, hp, .inl ⟨by omega, h2⟩⟩
    · rintro ⟨p, hp, ⟨h1, h2⟩ | ⟨_, h2⟩⟩
      · by_cases e : p = i
        · subst e; exact ⟨p, hp, .inr ⟨rfl, h2⟩⟩
        · exact ⟨p, hp, .inl ⟨by omega, h2⟩⟩
      · cases h2), fun c hc => by have := h.len c hc; omega⟩
theorem wto_sl (x : Ix) (b off : Nat) (w : World) (h : x.at_ w b off) : Calls Tryd.prog 55 #[.pointer (some ⟨b, off, none⟩)] w fun e w' => w' = w ∧ ∃ s : Sl, e = .returned s.v ∧ s.l = toI x ∧ ∀ W, IxOk W x → SlAt W s := by
  refine (wto_any x b off w h).mono ?_
  rintro e w' ⟨rfl, ⟨rfl, ht⟩ | ⟨rfl, ht⟩⟩
  · exact ⟨rfl, x.to, rfl, ht.symm, fun W hx => hx.to⟩
  · exact ⟨rfl, ⟨none, 0, 0, []⟩, rfl, ht.symm, fun W _ => ⟨rfl, ⟨Nat.le_refl _, Nat.zero_le _⟩, (fun z hz => by cases hz), fun h => absurd h (by decide)⟩⟩
end Go.Proofs.YtpjilcfmcbapcaaDoor
/- span.reckon: what lies in memory while the work list is gone through. -/
namespace Go.Proofs.YtpjilcfmcbapcaaDoor
open Go.RowKit
set_option linter.unusedVariables false
set_option linter.unusedSimpArgs false

/-- What is not written any more. -/
structure FX (w0 w : World) (n W M GI GO GB Bw fb fo : Nat) (gi go : Nat → Nat) (vs : Nat → Value) (L : Nat → List Int) : Prop where
  k : Keeps No w0 w
  m : w.heap[M]? = some (.cells #[.slice (some ⟨GI, 0, none⟩) n n, .slice (some ⟨GO, 0, none⟩) n n, .pointer (some ⟨fb, fo, none⟩), .bool false] 61 (0, 0))
  hi : w.heap[GI]? = some (.cells (slotRow n n gi W).toArray 66 (0, 0))
  ho : w.heap[GO]? = some (.cells (slotRow n n go W).toArray 66 (0, 0))
  hb : w.heap[GB]? = some (.cells (vrow n vs).toArray 22 (0, 0))
  r : BRows w0.heap.size w n vs L
  t : LaidT w
  tb : 0 < w0.heap.size
  lm : w0.heap.size ≤ M
  bw : ∀ c q, c < n → (vs c).ownBlock = some q → q < Bw
  lw : w0.heap.size ≤ Bw
/-- What may be written: sets, flags, and the list's own row. -/
def MayW (w0 w : World) (Bw q : Nat) : Prop := w0.heap.size ≤ q ∧ ∃ cs ty, w.heap[q]? = some (.cells cs ty (0, 0)) ∧ (ty = 81 ∨ ty = 4 ∨ (ty = 3 ∧ Bw ≤ q))
section
variable {w0 w w' : World} {n W M GI GO GB Bw fb fo : Nat} {gi go : Nat → Nat} {vs : Nat → Value} {L : Nat → List Int}
theorem MayW.ne {q k : Nat} {cs : Array Value} {ty : TypeId} (h : MayW w0 w Bw q) (hk : w.heap[k]? = some (.cells cs ty (0, 0))) (h1 : ty ≠ 81) (h2 : ty ≠ 4) (h3 : ty ≠ 3) : q ≠ k := by
  obtain ⟨_, cs2, ty2, e, ht⟩ := h
  refine type_ne e hk (fun e2 => ?_)
  rcases ht with ht | ht | ⟨ht, _⟩
  · exact h1 (e2.symm.trans ht)
  · exact h2 (e2.symm.trans ht)
  · exact h3 (e2.symm.trans ht)
theorem FX.keep {S : Nat → Prop} (h : FX w0 w n W M GI GO GB Bw fb fo gi go vs L) (hk : Keeps S w w') (hS : ∀ q, q < w.heap.size → S q → MayW w0 w Bw q) : FX w0 w' n W M GI GO GB Bw fb fo gi go vs L := by
  have l : ∀ {k : Nat} {cs : Array Value} {ty : TypeId}, w.heap[k]? = some (.cells cs ty (0, 0)) → ty ≠ 81 → ty ≠ 4 → ty ≠ 3 → w'.heap[k]? = some (.cells cs ty (0, 0)) := fun {k : Nat} {cs : Array Value} {ty : TypeId} hh h1 h2 h3 =>
    (hk.block k (Array.getElem?_eq_some_iff.1 hh).1 (fun e => (hS k (Array.getElem?_eq_some_iff.1 hh).1 e).ne hh h1 h2 h3 rfl)).trans hh
  refine ⟨h.k.trans hk (fun q hq e => by have := (hS q (Nat.lt_of_lt_of_le hq h.k.size) e).1; omega), l h.m (by decide) (by decide) (by decide), l h.hi (by decide) (by decide) (by decide), l h.ho (by decide) (by decide) (by decide), l h.hb (by decide) (by decide) (by decide),
    ⟨fun c hc => own_kept (h.r.own c hc) (fun q hq => hk.block q (own_ltb (h.r.own c hc) hq) (fun e => ?_)), h.r.dis⟩, h.t.keep (S := S) hk (fun e => ?_), h.tb, h.lm, h.bw, h.lw⟩
  · obtain ⟨_, cs, ty, e1, e2⟩ := hS q (own_ltb (h.r.own c hc) hq) e
    obtain ⟨cs2, e3⟩ := own_typ (h.r.own c hc) hq
    rw [e1] at e3
    injection e3 with e3
    injection e3 with _ e3 _
    have hb := h.bw c q hc hq
    rcases e2 with e2 | e2 | ⟨_, e2⟩
    · rw [e3] at e2; exact absurd e2 (by decide)
    · rw [e3] at e2; exact absurd e2 (by decide)
    · omega
  · have h1 := (hS _ h.t.blk e).1
    have h2 := h.tb
    omega
theorem FX.of {w1 : World} {f : Fx} {R : Nat} (h : InitS w0 w1 f fb fo R n M GI GO GB W n n 0 gi go vs L) (ht : LaidT w0) (hk : Keeps No w1 w) (hB : w1.heap.size = Bw) : FX w0 w n W M GI GO GB Bw fb fo gi go vs L := by
  have l : ∀ {k o}, w1.heap[k]? = some o → w.heap[k]? = some o := fun {k o} h => (hk.block k (Array.getElem?_eq_some_iff.1 h).1 (fun e => e)).trans h
  exact ⟨h.k.trans hk (fun _ _ e => e), l h.m, l h.hi, l h.ho, l h.hb, h.r.keep hk (fun _ _ _ _ e => e), ht.keep (h.k.trans hk (fun _ _ e => e)) (fun e => e), ht.blk, h.lm, fun c q hc hq => by rw [← hB]; exact own_ltb (h.r.own c hc) hq, by rw [← hB]; exact h.k.size⟩
end
theorem own_take {w : World} {B z n g cap : Nat} {e : TypeId} {xs : List Value} (h : w.ownsRow B e z (.slice (some ⟨g, 0, none⟩) n cap) n xs) (m : Nat) (hm : m ≤ n) : w.ownsRow B e z (.slice (some ⟨g, 0, none⟩) m cap) m (xs.take (m * z)) := by
  rcases h.2 with ⟨e1, _⟩ | ⟨g', cap', cur, e1, hB, hg, h1, h2, h3, h4⟩
  · cases e1
  · injection e1 with e1 _ e2
    injection e1 with e1
    injection e1 with e1 _ _
    subst e1; subst e2
    have hl := h.1
    have hmz : m * z ≤ n * z := Nat.mul_le_mul_right z hm
    refine ⟨by rw [List.length_take, hl]; exact Nat.min_eq_left hmz, .inr ⟨g, cap, cur, rfl, hB, hg, by omega, h2, h3, ?_⟩⟩
    rw [← h4, List.take_take, Nat.min_eq_left hmz]
def ints (l : List Nat) : List Int := l.map Int.ofNat
theorem ints_len (l : List Nat) : (ints l).length = l.length := by unfold ints; rw [List.length_map]
theorem ints_app (l m : List Nat) : ints (l ++ m) = ints l ++ ints m := by unfold ints; rw [List.map_append]
/-- All that lies there, ahead of each round. -/
structure MS (w0 w : World) (n W M GI GO GB GT GN Bw fb fo : Nat) (gi go : Nat → Nat) (vs : Nat → Value) (L : Nat → List Int) (I O : Nat → Nat) (X : Nat) (wl fl : List Nat) (vw : Value) : Prop where
  fx : FX w0 w n W M GI GO GB Bw fb fo gi go vs L
  q : Sets w W n gi go I O
  ls : ∀ b, b < n → w0.heap.size ≤ gi b ∧ w0.heap.size ≤ go b
  nn : ∀ b, b < n → gi b ≠ GN ∧ go b ≠ GN
  now : WdAt w GN X W
  ln : w0.heap.size ≤ GN
  gt : w.heap[GT]? = some (.cells (vrow n (fun b => .bool (decide (b ∈ fl)))).toArray 4 (0, 0))
  lt : w0.heap.size ≤ GT
  wt : w.ownsRow Bw 3 1 vw wl.length (irow (ints wl))
section
variable {w0 w w' : World} {n W M GI GO GB GT GN Bw fb fo : Nat} {gi go : Nat → Nat} {vs : Nat → Value} {L : Nat → List Int} {I O : Nat → Nat} {X : Nat} {wl fl : List Nat} {vw : Value}
theorem own_keep {S : Nat → Prop} {B : Nat} {v : Value} {k : Nat} {xs : List Value} {e : TypeId} (h : w.ownsRow B e 1 v k xs) (hk : Keeps S w w') (hS : ∀ q, S q → v.ownBlock ≠ some q) : w'.ownsRow B e 1 v k xs :=
  own_kept h (fun q hq => hk.block q (own_ltb h hq) (fun e => hS q e hq))
/-- A set is written. -/
theorem MS.set {g Z Y : Nat} (h : MS w0 w n W M GI GO GB GT GN Bw fb fo gi go vs L I O X wl fl vw) (hg : WdAt w g Z W) (hg0 : w0.heap.size ≤ g) (hk : Keeps (fun q => q = g) w w') :
    FX w0 w' n W M GI GO GB Bw fb fo gi go vs L ∧ w'.heap[GT]? = some (.cells (vrow n (fun b => .bool (decide (b ∈ fl)))).toArray 4 (0, 0)) ∧ w'.ownsRow Bw 3 1 vw wl.length (irow (ints wl)) :=
  ⟨h.fx.keep hk (fun q _ e => by subst e; exact ⟨hg0, _, _, hg, .inl rfl⟩), (hk.block GT (Array.getElem?_eq_some_iff.1 h.gt).1 (type_ne h.gt hg (by decide))).trans h.gt,
    own_keep h.wt hk (fun q e hq => by subst e; obtain ⟨cs, hcs⟩ := own_typ h.wt hq; exact type_ne hg hcs (by decide) rfl)⟩
theorem MS.setN {Y : Nat} (h : MS w0 w n W M GI GO GB GT GN Bw fb fo gi go vs L I O X wl fl vw) (hk : Keeps (fun q => q = GN) w w') (hs : WdAt w' GN Y W) : MS w0 w' n W M GI GO GB GT GN Bw fb fo gi go vs L I O Y wl fl vw := by
  obtain ⟨a, b, c⟩ := h.set (Y := Y) h.now h.ln hk
  exact ⟨a, h.q.keep hk (fun b hb => h.nn b hb), h.ls, h.nn, hs, h.ln, b, h.lt, c⟩
theorem MS.setI {p Y : Nat} (h : MS w0 w n W M GI GO GB GT GN Bw fb fo gi go vs L I O X wl fl vw) (hp : p < n) (hk : Keeps (fun q => q = gi p) w w') (hs : WdAt w' (gi p) Y W) : MS w0 w' n W M GI GO GB GT GN Bw fb fo gi go vs L (upd I p Y) O X wl fl vw := by
  obtain ⟨a, b, c⟩ := h.set (Y := Y) (h.q.di p hp) (h.ls p hp).1 hk
  exact ⟨a, h.q.setI hp hk hs, h.ls, h.nn, h.now.keep hk (fun e => (h.nn p hp).1 e.symm), h.ln, b, h.lt, c⟩
theorem MS.setO {p Y : Nat} (h : MS w0 w n W M GI GO GB GT GN Bw fb fo gi go vs L I O X wl fl vw) (hp : p < n) (hk : Keeps (fun q => q = go p) w w') (hs : WdAt w' (go p) Y W) : MS w0 w' n W M GI GO GB GT GN Bw fb fo gi go vs L I (upd O p Y) X wl fl vw := by
  obtain ⟨a, b, c⟩ := h.set (Y := Y) (h.q.dq p hp) (h.ls p hp).2 hk
  exact ⟨a, h.q.setO hp hk hs, h.ls, h.nn, h.now.keep hk (fun e => (h.nn p hp).2 e.symm), h.ln, b, h.lt, c⟩
/-- A flag is written. -/
theorem MS.flag {p : Nat} {fl' : List Nat} {v : Bool} (h : MS w0 w n W M GI GO GB GT GN Bw fb fo gi go vs L I O X wl fl vw) (hp : p < n) (hv : ∀ b, decide (b ∈ fl') = if b = p then v else decide (b ∈ fl)) : MS w0 (w.setCell ⟨GT, p, none⟩ (.bool v)) n W M GI GO GB GT GN Bw fb fo gi go vs L I O X wl fl' vw := by
  have hk : Keeps (fun q => q = GT) w (w.setCell ⟨GT, p, none⟩ (.bool v)) := (Keeps.refl (fun q => q = GT) w).setCell (.inl rfl) _
  refine ⟨h.fx.keep hk (fun q _ e => by subst e; exact ⟨h.lt, _, _, h.gt, .inr (.inl rfl)⟩), h.q.keep hk (fun b hb => ⟨type_ne (h.q.di b hb) h.gt (by decide), type_ne (h.q.dq b hb) h.gt (by decide)⟩), h.ls, h.nn, h.now.keep hk (type_ne h.now h.gt (by decide)), h.ln, ?_, h.lt,
    own_keep h.wt hk (fun q e hq => by subst e; obtain ⟨cs, hcs⟩ := own_typ h.wt hq; exact type_ne h.gt hcs (by decide) rfl)⟩
  rw [heap_setCell_same w GT p _ _ _ h.gt]
  have e : (vrow n (fun b => Value.bool (decide (b ∈ fl)))).set p (.bool v) = vrow n (fun b => Value.bool (decide (b ∈ fl'))) := by
    rw [vrow_set _ _ hp]
    congr 1
    funext b
    rw [hv b]
    unfold upd
    split <;> rfl
  rw [← e]; simp
/-- The list's row is another one. -/
theorem MS.list {wl' : List Nat} {vw' : Value} (h : MS w0 w n W M GI GO GB GT GN Bw fb fo gi go vs L I O X wl fl vw) (ho : w.ownsRow Bw 3 1 vw' wl'.length (irow (ints wl'))) : MS w0 w n W M GI GO GB GT GN Bw fb fo gi go vs L I O X wl' fl vw' :=
  ⟨h.fx, h.q, h.ls, h.nn, h.now, h.ln, h.gt, h.lt, ho⟩
theorem MS.push {wl' : List Nat} {vw' : Value} (h : MS w0 w n W M GI GO GB GT GN Bw fb fo gi go vs L I O X wl fl vw) (hk : Keeps (fun q => vw.ownBlock = some q) w w') (ho : w'.ownsRow Bw 3 1 vw' wl'.length (irow (ints wl'))) : MS w0 w' n W M GI GO GB GT GN Bw fb fo gi go vs L I O X wl' fl vw' := by
  have nS : ∀ {k : Nat} {cs : Array Value} {ty : TypeId}, w.heap[k]? = some (.cells cs ty (0, 0)) → ty ≠ 3 → ¬ (vw.ownBlock = some k) := fun {k : Nat} {cs : Array Value} {ty : TypeId} hh h1 e => by
    obtain ⟨cs2, h2⟩ := own_typ h.wt e
    exact type_ne hh h2 h1 rfl
  exact ⟨h.fx.keep hk (fun q _ e => by obtain ⟨cs2, h2⟩ := own_typ h.wt e; have hb := own_lo h.wt q e; exact ⟨Nat.le_trans h.fx.lw hb, _, _, h2, .inr (.inr ⟨rfl, hb⟩)⟩), h.q.keep hk (fun b hb => ⟨nS (h.q.di b hb) (by decide), nS (h.q.dq b hb) (by decide)⟩), h.ls, h.nn, h.now.keep hk (nS h.now (by decide)), h.ln,
    (hk.block GT (Array.getElem?_eq_some_iff.1 h.gt).1 (nS h.gt (by decide))).trans h.gt, h.lt, ho⟩
/-- New blocks alone. -/
theorem MS.no (h : MS w0 w n W M GI GO GB GT GN Bw fb fo gi go vs L I O X wl fl vw) (hk : Keeps No w w') : MS w0 w' n W M GI GO GB GT GN Bw fb fo gi go vs L I O X wl fl vw :=
  ⟨h.fx.keep hk (fun _ _ e => e.elim), h.q.keep hk (fun _ _ => ⟨fun e => e, fun e => e⟩), h.ls, h.nn, h.now.keep hk (fun e => e), h.ln, (hk.block GT (Array.getElem?_eq_some_iff.1 h.gt).1 (fun e => e)).trans h.gt, h.lt, own_keep h.wt hk (fun _ e => e.elim)⟩
end
theorem sizeU : (Tryd.prog.info? 81).map (·.size) = some 1 := by kernel_rfl
/-- One set copied over another one, at the operation. -/
theorem wpList_copyS (w : World) {ops : Array Oper} {rest : List Oper} {o : Oper} {a : Act} {Q : Exit → Act → World → Prop} (hgd : o.guard = none) (d s : Operand)
    (ho : o.op = .call { callee := .builtin .copy, args := #[d, s], argTypes := #[66, 66] }) (g q X Y W : Nat) (hd : a.eval d = wv g W) (hs : a.eval s = wv q W) (hX : WdAt w g X W) (hY : WdAt w q Y W)
    (h : ∀ w', WdAt w' g Y W → Keeps (fun k => k = g) w w' → wpList Tryd.prog ops Q rest (a.put o.dst (.int .i64 W)) w') : wpList Tryd.prog ops Q (o :: rest) a w := by
  have hl : (ws Y W).length = W := ws_len _ _
  refine wpList_copy_own hgd d s _ _ ho 81 Tryd.underlying66 sizeU g 0 W W ⟨q, 0, none⟩ W W hd hs (ws X W).toArray 81 hX (ws Y W) (by rw [hl]; exact (Nat.min_self _).symm) (fun j v hj => ?_) (by rw [hl]; simp [ws_len]) (ws_one _ _) ?_
  · have e : (⟨q, 0, none⟩ : Addr).add j = ⟨q, j, none⟩ := by unfold Addr.add; split <;> simp_all
    rw [e, cell_of_row w q j _ _ _ hY, List.getElem?_toArray]; exact hj
  · have e : (List.take 0 (ws X W).toArray.toList ++ (ws Y W ++ List.drop (0 + (ws Y W).length) (ws X W).toArray.toList)).toArray = (ws Y W).toArray := by
      rw [hl, Nat.zero_add, List.drop_eq_nil_of_le (by simp [ws_len])]; simp
    rw [e, hl]
    exact h _ (setRow_heap w g _ _ _ _ hX) ((Keeps.refl (fun k => k = g) w).setRow (.inl rfl) _)
end Go.Proofs.YtpjilcfmcbapcaaDoor
