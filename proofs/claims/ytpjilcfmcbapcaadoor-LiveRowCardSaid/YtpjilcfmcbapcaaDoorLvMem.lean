/- What lies in memory while the work list is gone through; walk.To. -/
import Derived.Test.YtpjilcfmcbapcaaDoorLvInv
import Derived.Test.YtpjilcfmcbapcaaDoorLvBack
import Derived.Test.YtpjilcfmcbapcaaDoorLvForm
namespace Go.Proofs.YtpjilcfmcbapcaaDoor
open Go.RowKit
set_option linter.unusedVariables false
set_option linter.unusedSimpArgs false

theorem wpList_appIl (w : World) {ops : Array Oper} {rest : List Oper} {o : Oper} {a : Act} {Q : Exit → Act → World → Prop} (hgd : o.guard = none) (s x : Operand) (t : TypeId)
    (ho : o.op = .call { callee := .builtin .append, args := #[s, x], argTypes := #[t, t] }) (ht : Tryd.prog.underlying t = some (.slice 3))
    (B : Nat) (v : Value) (n : Nat) (l1 : List Int) (z : Int) (q : Nat) (hs : a.eval s = v) (hown : w.ownsRow B 3 1 v n (irow l1)) (hx : a.eval x = .slice (some ⟨q, 0, none⟩) 1 1) (hq : w.heap[q]? = some (.cells #[.int .i64 z] 3 (0, 0)))
    (hn : n ≤ 999999) (hB : B ≤ w.heap.size)
    (h : ∀ g' cap w', w'.ownsRow B 3 1 (.slice (some ⟨g', 0, none⟩) (n + 1) cap) (n + 1) (irow (l1 ++ [z])) → w.grownBy w' v.ownBlock → (v.ownBlock = some g' ∨ w.heap.size ≤ g') → wpList Tryd.prog ops Q rest (a.put o.dst (.slice (some ⟨g', 0, none⟩) (n + 1) cap)) w') : wpList Tryd.prog ops Q (o :: rest) a w := by
  obtain ⟨i0, hi, hz0, hz1, hz2⟩ := info_parts infoI
  refine wpList_append_lies w hgd s x t ho B 3 i0 (.int .i64 0) 1 8 ht hi hz0 hz1 hz2 rfl (by decide) v n (irow l1) hs hown ⟨q, 0, none⟩ 1 1 [.int .i64 z] hx rfl (fun j u hu => ?_) (fun u hu => by simp at hu; subst hu; rfl) (by decide) (by unfold maxLen; omega) (by omega) hB _ rfl (fun g' cap w' k1 k2 k3 _ => h g' cap w' (by rw [irow_app]; exact k1) k2 (k3.imp id (fun e => by omega)))
  cases j with
  | zero => obtain rfl : Value.int .i64 z = u := by simpa using hu
            have e : (⟨q, 0, none⟩ : Addr).add 0 = ⟨q, 0, none⟩ := by unfold Addr.add; split <;> simp_all
            rw [e]; unfold World.cell?; simp only; rw [hq]; rfl
  | succ j => cases hu
/-- Of two blocks of different types none is the other. -/
theorem type_ne {w : World} {a b : Nat} {ca cb : Array Value} {ta tb : TypeId} {fa fb : Nat × Nat} (ha : w.heap[a]? = some (.cells ca ta fa)) (hb : w.heap[b]? = some (.cells cb tb fb)) (h : ta ≠ tb) : a ≠ b := fun e => by
  subst e; rw [ha] at hb; injection hb with hb; injection hb with _ e2 _; exact h e2
set_option maxHeartbeats 1600000 in
theorem wto_any (x : Ix) (b off : Nat) (w : World) (h : x.at_ w b off) : Calls Tryd.prog 55 #[.pointer (some ⟨b, off, none⟩)] w fun e w' => w' = w ∧ ((e = .returned x.to.v ∧ toI x = x.to.l) ∨ (e = .returned (.slice none 0 0) ∧ toI x = [])) := by
  have c0 := h 0 _ rfl
  have c9 := h 9 _ rfl
  rw [Nat.add_zero] at c0
  have HT : Hid (toI x = if x.op = 14 ∨ x.op = 15 ∨ x.op = 16 then x.to.l else []) := Lib.hid rfl
  clear h
  by_cases h14 : x.op = 14
  · rw [h14] at c0
    go_enter Tryd.func55, Tryd.ntmps55
    go_wp2_with fail
    go_returns
    exact ⟨rfl, .inl ⟨rfl, by rw [HT.out, if_pos (.inl h14)]⟩⟩
  by_cases h15 : x.op = 15
  · rw [h15] at c0
    go_enter Tryd.func55, Tryd.ntmps55
    go_wp2_with fail
    go_returns
    exact ⟨rfl, .inl ⟨rfl, by rw [HT.out, if_pos (.inr (.inl h15))]⟩⟩
  by_cases h16 : x.op = 16
  · rw [h16] at c0
    go_enter Tryd.func55, Tryd.ntmps55
    go_wp2_with fail
    go_returns
    exact ⟨rfl, .inl ⟨rfl, by rw [HT.out, if_pos (.inr (.inr h16))]⟩⟩
  · have e1 : (x.op == 14) = false := beq_eq_false_iff_ne.2 h14
    have e2 : (x.op == 15) = false := beq_eq_false_iff_ne.2 h15
    have e3 : (x.op == 16) = false := beq_eq_false_iff_ne.2 h16
    have HN : Hid (¬ (x.op = 14 ∨ x.op = 15 ∨ x.op = 16)) := Lib.hid (fun h => by rcases h with h | h | h <;> contradiction)
    clear h14 h15 h16
    go_enter Tryd.func55, Tryd.ntmps55
    go_wp2_with fail
    go_returns
    exact ⟨rfl, .inr ⟨rfl, by rw [HT.out, if_neg HN.out]⟩⟩
/-- The sets at each block's beginning, and behind its end. -/
structure Sets (w : World) (W n : Nat) (gi go I O : Nat → Nat) : Prop where
  di : ∀ b, b < n → WdAt w (gi b) (I b) W
  dq : ∀ b, b < n → WdAt w (go b) (O b) W
  ii : ∀ b c, b < n → c < n → gi b = gi c → b = c
  oo : ∀ b c, b < n → c < n → go b = go c → b = c
  io : ∀ b c, b < n → c < n → gi b ≠ go c
theorem Sets.keep {S : Nat → Prop} {w w' : World} {W n : Nat} {gi go I O : Nat → Nat} (h : Sets w W n gi go I O) (hk : Keeps S w w') (hS : ∀ b, b < n → ¬ S (gi b) ∧ ¬ S (go b)) : Sets w' W n gi go I O :=
  ⟨fun b hb => (h.di b hb).keep hk (hS b hb).1, fun b hb => (h.dq b hb).keep hk (hS b hb).2, h.ii, h.oo, h.io⟩
theorem Sets.setO {w w' : World} {W n : Nat} {gi go I O : Nat → Nat} (h : Sets w W n gi go I O) {p Y : Nat} (hp : p < n) (hk : Keeps (fun q => q = go p) w w') (hs : WdAt w' (go p) Y W) : Sets w' W n gi go I (upd O p Y) :=
  ⟨fun b hb => (h.di b hb).keep hk (h.io b p hb hp), fun b hb => by
    by_cases e : b = p
    · subst e; rw [upd_same]; exact hs
    · rw [upd_ne _ _ e]; exact (h.dq b hb).keep hk (fun e2 => e (h.oo b p hb hp e2)), h.ii, h.oo, h.io⟩
theorem Sets.setI {w w' : World} {W n : Nat} {gi go I O : Nat → Nat} (h : Sets w W n gi go I O) {p Y : Nat} (hp : p < n) (hk : Keeps (fun q => q = gi p) w w') (hs : WdAt w' (gi p) Y W) : Sets w' W n gi go (upd I p Y) O :=
  ⟨fun b hb => by
    by_cases e : b = p
    · subst e; rw [upd_same]; exact hs
    · rw [upd_ne _ _ e]; exact (h.di b hb).keep hk (fun e2 => e (h.ii b p hb hp e2)), fun b hb => (h.dq b hb).keep hk (fun e => h.io p b hp hb e.symm), h.ii, h.oo, h.io⟩
/-- One block's sets more, in new blocks. -/
theorem Sets.snoc {w w' : World} {W i p q : Nat} {gi go I O : Nat → Nat} (h : Sets w W i gi go I O) (hk : ∀ k, k < w.heap.size → (∃ b, b < i ∧ (k = gi b ∨ k = go b)) → w'.heap[k]? = w.heap[k]?) (hp : w.heap.size ≤ p) (hq : w.heap.size ≤ q) (hpq : p ≠ q) (sp : WdAt w' p 0 W) (sq : WdAt w' q 0 W) (hI : I i = 0) (hO : O i = 0) : Sets w' W (i + 1) (upd gi i p) (upd go i q) I O := by
  have li : ∀ b, b < i → gi b < w.heap.size := fun b hb => (h.di b hb).lt
  have lo : ∀ b, b < i → go b < w.heap.size := fun b hb => (h.dq b hb).lt
  refine ⟨fun b hb => ?_, fun b hb => ?_, fun b c hb hc e => ?_, fun b c hb hc e => ?_, fun b c hb hc => ?_⟩
  · by_cases eb : b = i
    · subst eb; rw [upd_same, hI]; exact sp
    · rw [upd_ne _ _ eb]; exact (hk _ (li b (by omega)) ⟨b, by omega, .inl rfl⟩).trans (h.di b (by omega))
  · by_cases eb : b = i
    · subst eb; rw [upd_same, hO]; exact sq
    · rw [upd_ne _ _ eb]; exact (hk _ (lo b (by omega)) ⟨b, by omega, .inr rfl⟩).trans (h.dq b (by omega))
  · by_cases eb : b = i <;> by_cases ec : c = i
    · omega
    · rw [eb, upd_same, upd_ne _ _ ec] at e; have := li c (by omega); omega
    · rw [ec, upd_same, upd_ne _ _ eb] at e; have := li b (by omega); omega
    · rw [upd_ne _ _ eb, upd_ne _ _ ec] at e; exact h.ii b c (by omega) (by omega) e
  · by_cases eb : b = i <;> by_cases ec : c = i
    · omega
    · rw [eb, upd_same, upd_ne _ _ ec] at e; have := lo c (by omega); omega
    · rw [ec, upd_same, upd_ne _ _ eb] at e; have := lo b (by omega); omega
    · rw [upd_ne _ _ eb, upd_ne _ _ ec] at e; exact h.oo b c (by omega) (by omega) e
  · by_cases eb : b = i <;> by_cases ec : c = i
    · rw [eb, ec, upd_same, upd_same]; exact hpq
    · rw [eb, upd_same, upd_ne _ _ ec]; have := lo c (by omega); omega
    · rw [ec, upd_same, upd_ne _ _ eb]; have := li b (by omega); omega
    · rw [upd_ne _ _ eb, upd_ne _ _ ec]; exact h.io b c (by omega) (by omega)
/-- A row of sets, the first i made. -/
def slotRow (n i : Nat) (gi : Nat → Nat) (W : Nat) : List Value := (List.range n).map (fun b => if b < i then wv (gi b) W else .slice none 0 0)
theorem slotRow_len (n i : Nat) (gi : Nat → Nat) (W : Nat) : (slotRow n i gi W).length = n := by unfold slotRow; rw [List.length_map, List.length_range]
theorem slotRow_get {n i b : Nat} (gi : Nat → Nat) (W : Nat) (hb : b < n) (hi : b < i) : (slotRow n i gi W)[b]? = some (wv (gi b) W) := by
  unfold slotRow; rw [List.getElem?_map, List.getElem?_range hb]; simp [hi]
theorem slotRow_set {n i p : Nat} (gi : Nat → Nat) (W : Nat) (hi : i < n) : (slotRow n i gi W).set i (wv p W) = slotRow n (i + 1) (upd gi i p) W := by
  refine List.ext_getElem? fun b => ?_
  rw [List.getElem?_set, slotRow_len]
  unfold slotRow
  by_cases hb : b < n
  · rw [List.getElem?_map, List.getElem?_map, List.getElem?_range hb]
    by_cases e : i = b
    · subst e; rw [if_pos rfl, if_pos hb]; simp [upd_same]
    · rw [if_neg e]
      simp only [Option.map_some]
      by_cases h1 : b < i
      · rw [if_pos h1, if_pos (by omega), upd_ne _ _ (by omega)]
      · rw [if_neg h1, if_neg (by omega)]
  · rw [if_neg (by omega), List.getElem?_eq_none (by simp; omega), List.getElem?_eq_none (by simp; omega)]
theorem slotRow_zero (n : Nat) (gi : Nat → Nat) (W : Nat) : slotRow n 0 gi W = List.replicate n (.slice none 0 0) := by
  refine List.ext_getElem? fun b => ?_
  unfold slotRow
  by_cases hb : b < n
  · rw [List.getElem?_map, List.getElem?_range hb, List.getElem?_replicate, if_pos hb]; simp
  · rw [List.getElem?_eq_none (by simp; omega), List.getElem?_eq_none (by simp; omega)]
/-- Rows of numbers, none of which shares a block with another one. -/
structure BRows (B0 : Nat) (w : World) (n : Nat) (vs : Nat → Value) (L : Nat → List Int) : Prop where
  own : ∀ c, c < n → w.ownsRow B0 3 1 (vs c) (L c).length (irow (L c))
  dis : ∀ c d q, c < n → d < n → c ≠ d → (vs c).ownBlock = some q → (vs d).ownBlock ≠ some q
theorem own_ltb {w : World} {B z n : Nat} {e : TypeId} {v : Value} {xs : List Value} (h : w.ownsRow B e z v n xs) {q : Nat} (hq : v.ownBlock = some q) : q < w.heap.size := (h.lt q hq).2
theorem BRows.keep {S : Nat → Prop} {B0 n : Nat} {w w' : World} {vs : Nat → Value} {L : Nat → List Int} (h : BRows B0 w n vs L) (hk : Keeps S w w') (hS : ∀ c q, c < n → (vs c).ownBlock = some q → ¬ S q) : BRows B0 w' n vs L :=
  ⟨fun c hc => own_kept (h.own c hc) (fun q hq => hk.block q (own_ltb (h.own c hc) hq) (hS c q hc hq)), h.dis⟩
theorem BRows.app {B0 n c : Nat} {w w' : World} {vs : Nat → Value} {L : Nat → List Int} (h : BRows B0 w n vs L) (hc : c < n) {v' : Value} {z : Int} {g' cap : Nat} (hv : v' = .slice (some ⟨g', 0, none⟩) ((L c).length + 1) cap) (ho : w'.ownsRow B0 3 1 v' ((L c).length + 1) (irow (L c ++ [z]))) (hk : Keeps (fun q => (vs c).ownBlock = some q) w w') (hg : (vs c).ownBlock = some g' ∨ w.heap.size ≤ g') : BRows B0 w' n (upd vs c v') (upd L c (L c ++ [z])) := by
  have hb : v'.ownBlock = some g' := by rw [hv]; rfl
  refine ⟨fun d hd => ?_, fun a b q ha hb' hab e1 e2 => ?_⟩
  · by_cases e : d = c
    · subst e; rw [upd_same, upd_same, List.length_append, List.length_singleton]; exact ho
    · rw [upd_ne _ _ e, upd_ne _ _ e]
      exact own_kept (h.own d hd) (fun q hq => hk.block q (own_ltb (h.own d hd) hq) (h.dis d c q hd hc e hq))
  · by_cases ea : a = c
    · subst ea
      rw [upd_same, hb] at e1
      injection e1 with e1
      subst e1
      rw [upd_ne _ _ (fun e => hab e.symm)] at e2
      rcases hg with hg | hg
      · exact h.dis a b g' hc hb' hab hg e2
      · have := own_ltb (h.own b hb') e2; omega
    · rw [upd_ne _ _ ea] at e1
      by_cases eb : b = c
      · subst eb
        rw [upd_same, hb] at e2
        injection e2 with e2
        subst e2
        rcases hg with hg | hg
        · exact h.dis a b g' ha hc hab e1 hg
        · have := own_ltb (h.own a ha) e1; omega
      · rw [upd_ne _ _ eb] at e2
        exact h.dis a b q ha hb' hab e1 e2
def vrow (n : Nat) (vs : Nat → Value) : List Value := (List.range n).map vs
theorem vrow_len (n : Nat) (vs : Nat → Value) : (vrow n vs).length = n := by unfold vrow; rw [List.length_map, List.length_range]
theorem vrow_get {n b : Nat} (vs : Nat → Value) (hb : b < n) : (vrow n vs)[b]? = some (vs b) := by unfold vrow; rw [List.getElem?_map, List.getElem?_range hb]; rfl
theorem vrow_set {n c : Nat} (vs : Nat → Value) (v : Value) (hc : c < n) : (vrow n vs).set c v = vrow n (upd vs c v) := by
  refine List.ext_getElem? fun b => ?_
  rw [List.getElem?_set, vrow_len]
  by_cases hb : b < n
  · rw [vrow_get _ hb, vrow_get _ hb]
    by_cases e : c = b
    · subst e; rw [if_pos rfl, if_pos hb, upd_same]
    · rw [if_neg e, upd_ne _ _ (fun e2 => e e2.symm)]
  · rw [if_neg (by omega), List.getElem?_eq_none (by rw [vrow_len]; omega), List.getElem?_eq_none (by rw [vrow_len]; omega)]
theorem vrow_const (n : Nat) (v : Value) : vrow n (fun _ => v) = List.replicate n v := by
  refine List.ext_getElem? fun b => ?_
  by_cases hb : b < n
  · rw [vrow_get _ hb, List.getElem?_replicate, if_pos hb]
  · rw [List.getElem?_eq_none (by rw [vrow_len]; omega), List.getElem?_eq_none (by simp; omega)]
end Go.Proofs.YtpjilcfmcbapcaaDoor
