/- LiveRow: the numbers. -/
import Derived.Test.YtpjilcfmcbapcaaDoorLvLittle
namespace Go.Proofs.YtpjilcfmcbapcaaDoor
open Go.RowKit
set_option linter.unusedVariables false
set_option linter.unusedSimpArgs false

def bx (i a b : Nat) : Ix := ⟨3, 1, ((i + 2 : Nat) : Int), (a : Int), (b : Int), 0, 0, false, Sl0, Sl0, Sl0⟩
def rx (n : Nat) : Ix := ⟨17, 0, 0, ((n + 1 : Nat) : Int), 0, 0, 0, false, Sl0, Sl0, Sl0⟩
/-- The sums, told by pairs. -/
def bins (i : Nat) : List (Nat × Nat) → List Ix
  | [] => []
  | p :: t => bx i p.1 p.2 :: bins (i + 1) t
theorem bins_len : ∀ (i : Nat) (l : List (Nat × Nat)), (bins i l).length = l.length
  | _, [] => rfl
  | i, p :: t => by unfold bins; rw [List.length_cons, List.length_cons, bins_len]
theorem bins_get : ∀ (i : Nat) (l : List (Nat × Nat)) (k : Nat) (p : Nat × Nat), l[k]? = some p → (bins i l)[k]? = some (bx (i + k) p.1 p.2)
  | _, [], k, p, h => by cases h
  | i, q :: t, 0, p, h => by injection h with h; subst h; rfl
  | i, q :: t, k + 1, p, h => by
    show (bins (i + 1) t)[k]? = _
    rw [bins_get (i + 1) t k p h, show i + 1 + k = i + (k + 1) by omega]
theorem bins_snoc : ∀ (i : Nat) (l : List (Nat × Nat)) (p : Nat × Nat), bins i (l ++ [p]) = bins i l ++ [bx (i + l.length) p.1 p.2]
  | i, [], p => by show [bx i p.1 p.2] = [] ++ [bx (i + 0) p.1 p.2]; rw [Nat.add_zero]; rfl
  | i, q :: t, p => by
    show bx i q.1 q.2 :: bins (i + 1) (t ++ [p]) = _
    rw [bins_snoc (i + 1) t p, List.length_cons, show i + 1 + t.length = i + (t.length + 1) by omega]; rfl
/-- The whole row. -/
def code (l : List (Nat × Nat)) : List Ix := bins 0 l ++ [rx l.length]
theorem code_len (l : List (Nat × Nat)) : (code l).length = l.length + 1 := by unfold code; rw [List.length_append, bins_len]; rfl
theorem code_get {l : List (Nat × Nat)} {k : Nat} {p : Nat × Nat} (h : l[k]? = some p) : (code l)[k]? = some (bx k p.1 p.2) := by
  unfold code
  rw [List.getElem?_append_left (by rw [bins_len]; exact (List.getElem?_eq_some_iff.1 h).1), bins_get 0 l k p h, Nat.zero_add]
theorem code_last (l : List (Nat × Nat)) : (code l)[l.length]? = some (rx l.length) := by
  unfold code
  rw [List.getElem?_append_right (by rw [bins_len]; exact Nat.le_refl _), bins_len, Nat.sub_self]; rfl
/-- What is live ahead of the instructions from i on. -/
def XX (l : List (Nat × Nat)) (i : Nat) : Nat := backs ((code l).drop i) 0
theorem XX_step {l : List (Nat × Nat)} {i : Nat} {p : Nat × Nat} (h : l[i]? = some p) (j : Nat) : (XX l i).testBit j = (((XX l (i + 1)).testBit j && !decide (i + 2 = j)) || (decide (p.1 = j) || decide (p.2 = j))) := by
  unfold XX
  rw [backs_drop (code_get h), tb_back]
  have e1 : defI (bx i p.1 p.2) = ((i + 2 : Nat) : Int) := rfl
  have e2 : (bx i p.1 p.2).uses = [(p.1 : Int), (p.2 : Int)] := rfl
  rw [e1, e2, decide_eq_true (by omega : (0 : Int) ≤ ((i + 2 : Nat) : Int)), Bool.true_and, Int.toNat_natCast]
  simp
theorem XX_last (l : List (Nat × Nat)) (j : Nat) : (XX l l.length).testBit j = decide (l.length + 1 = j) := by
  unfold XX
  rw [backs_drop (code_last l), tb_back, List.drop_eq_nil_of_le (by rw [code_len]; exact Nat.le_refl _)]
  have e1 : defI (rx l.length) = -1 := rfl
  have e2 : (rx l.length).uses = [((l.length + 1 : Nat) : Int)] := rfl
  rw [e1, e2]
  simp [backs]
/-- Only registers of those ahead. -/
theorem XX_lt {l : List (Nat × Nat)} (hl : ∀ (k : Nat) (p : Nat × Nat), l[k]? = some p → p.1 < k + 2 ∧ p.2 < k + 2) : ∀ (d i : Nat), i + d = l.length → ∀ j, i + 2 ≤ j → (XX l i).testBit j = false
  | 0, i, e, j, hj => by
    rw [show i = l.length by omega, XX_last]
    exact decide_eq_false (by omega)
  | d + 1, i, e, j, hj => by
    obtain ⟨p, hp⟩ : ∃ p, l[i]? = some p := ⟨_, List.getElem?_eq_getElem (by omega)⟩
    have hb := hl i p hp
    rw [XX_step hp]
    by_cases e2 : i + 2 = j
    · rw [decide_eq_true e2, decide_eq_false (by omega : ¬ p.1 = j), decide_eq_false (by omega : ¬ p.2 = j)]; simp
    · rw [XX_lt hl d (i + 1) (by omega) j (by omega), decide_eq_false (by omega : ¬ p.1 = j), decide_eq_false (by omega : ¬ p.2 = j)]; rfl
/-- The needed ones, as the law keeps them. -/
def Nd (l : List (Nat × Nat)) : Nat → Nat
  | 0 => addB 0 (l.length + 1)
  | d + 1 => match l[l.length - (d + 1)]? with
    | none => Nd l d
    | some p => addB (addB (Nd l d) p.1) p.2
theorem Nd_step {l : List (Nat × Nat)} {i d : Nat} {p : Nat × Nat} (h : l[i]? = some p) (hd : i + (d + 1) = l.length) : Nd l (d + 1) = addB (addB (Nd l d) p.1) p.2 := by
  have e : l.length - (d + 1) = i := by omega
  show (match l[l.length - (d + 1)]? with | none => Nd l d | some p => addB (addB (Nd l d) p.1) p.2) = _
  rw [e, h]
theorem Nd_XX {l : List (Nat × Nat)} (hl : ∀ (k : Nat) (p : Nat × Nat), l[k]? = some p → p.1 < k + 2 ∧ p.2 < k + 2) : ∀ (d i : Nat), i + d = l.length → ∀ j, j < i + 2 → (Nd l d).testBit j = (XX l i).testBit j
  | 0, i, e, j, hj => by
    show (addB 0 (l.length + 1)).testBit j = _
    rw [show i = l.length by omega, XX_last, tb_add]; simp
  | d + 1, i, e, j, hj => by
    obtain ⟨p, hp⟩ : ∃ p, l[i]? = some p := ⟨_, List.getElem?_eq_getElem (by omega)⟩
    rw [Nd_step hp e, tb_add, tb_add, XX_step hp, Nd_XX hl d (i + 1) (by omega) j (by omega), decide_eq_false (by omega : ¬ i + 2 = j)]
    simp [Bool.or_assoc]
theorem Nd_lt {l : List (Nat × Nat)} (hl : ∀ (k : Nat) (p : Nat × Nat), l[k]? = some p → p.1 < k + 2 ∧ p.2 < k + 2) (hn : l.length ≤ 20) : ∀ (d i : Nat), i + d = l.length → Nd l d < 2 ^ 24
  | 0, i, e => addB_lt (by decide) (by omega)
  | d + 1, i, e => by
    obtain ⟨p, hp⟩ : ∃ p, l[i]? = some p := ⟨_, List.getElem?_eq_getElem (by omega)⟩
    have hb := hl i p hp
    rw [Nd_step hp e]
    exact addB_lt (addB_lt (Nd_lt hl hn d (i + 1) (by omega)) (by omega)) (by omega)
/-- How many the law counts. -/
def Dn (l : List (Nat × Nat)) (i : Nat) : Nat := deadRow 0 ((code l).drop i)
theorem Dn_last (l : List (Nat × Nat)) : Dn l l.length = 0 := by
  unfold Dn
  rw [deadRow_drop (code_last l), List.drop_eq_nil_of_le (by rw [code_len]; exact Nat.le_refl _)]; rfl
theorem Dn_step {l : List (Nat × Nat)} (hl : ∀ (k : Nat) (p : Nat × Nat), l[k]? = some p → p.1 < k + 2 ∧ p.2 < k + 2) {i d : Nat} {p : Nat × Nat} (h : l[i]? = some p) (hd : i + (d + 1) = l.length) : Dn l i = (if (Nd l d).testBit (i + 2) then 0 else 1) + Dn l (i + 1) := by
  unfold Dn
  rw [deadRow_drop (code_get h)]
  have e1 : pureI (bx i p.1 p.2).op (bx i p.1 p.2).sub = true := rfl
  have e2 : (bx i p.1 p.2).d.toNat = i + 2 := by show ((i + 2 : Nat) : Int).toNat = i + 2; omega
  rw [e1, e2, Bool.true_and, Nd_XX hl d (i + 1) (by omega) (i + 2) (by omega)]
  unfold XX
  cases (backs (List.drop (i + 1) (code l)) 0).testBit (i + 2) <;> rfl
theorem Dn_le (l : List (Nat × Nat)) (i : Nat) : Dn l i ≤ l.length + 1 := by
  unfold Dn
  have h := deadRow_le 0 ((code l).drop i)
  rw [List.length_drop, code_len] at h
  omega
/-- What the law wants at the beginning. -/
theorem want_eq {l : List (Nat × Nat)} (hl : ∀ (k : Nat) (p : Nat × Nat), l[k]? = some p → p.1 < k + 2 ∧ p.2 < k + 2) : listB (backs (code l) 0) 24 = ((List.range 2).filter (Nd l l.length).testBit).map Int.ofNat := by
  have h2 : backs (code l) 0 = XX l 0 := by unfold XX; rw [List.drop_zero]
  have hlt : XX l 0 < 2 ^ 2 := by
    refine Nat.lt_of_not_le (fun h => ?_)
    obtain ⟨j, hj, ht⟩ := Nat.exists_ge_and_testBit_of_ge_two_pow h
    rw [XX_lt hl l.length 0 (by omega) j (by omega)] at ht
    cases ht
  rw [h2, listB_more hlt 24 (by decide)]
  unfold listB
  congr 1
  refine List.filter_congr fun j hj => ?_
  rw [List.mem_range] at hj
  exact (Nd_XX hl l.length 0 (by omega) j (by omega)).symm
theorem code_bare {l : List (Nat × Nat)} (hl : ∀ (k : Nat) (p : Nat × Nat), l[k]? = some p → p.1 < k + 2 ∧ p.2 < k + 2) (hn : l.length ≤ 20) : ∀ x ∈ code l, Bare x := by
  intro x hx
  obtain ⟨k, hk⟩ := List.getElem?_of_mem hx
  have hkl := (List.getElem?_eq_some_iff.1 hk).1
  rw [code_len] at hkl
  by_cases h : k < l.length
  · obtain ⟨p, hp⟩ : ∃ p, l[k]? = some p := ⟨_, List.getElem?_eq_getElem h⟩
    have hb := hl k p hp
    rw [code_get hp] at hk
    injection hk with hk
    subst hk
    refine ⟨by unfold I64 bx; simp only; omega, by unfold I64 bx; simp only; omega, by unfold I64 bx; simp only; omega, by unfold I64 bx; simp only; omega, by unfold I64 bx; simp only; omega, by unfold I64 bx; simp only; omega, by unfold I64 bx; simp only; omega, rfl, rfl, rfl⟩
  · obtain rfl : k = l.length := by omega
    rw [code_last] at hk
    injection hk with hk
    subst hk
    refine ⟨by unfold I64 rx; simp only; omega, by unfold I64 rx; simp only; omega, by unfold I64 rx; simp only; omega, by unfold I64 rx; simp only; omega, by unfold I64 rx; simp only; omega, by unfold I64 rx; simp only; omega, by unfold I64 rx; simp only; omega, rfl, rfl, rfl⟩
def rfn (q g cap : Nat) (l : List (Nat × Nat)) : Fx := ofn q g cap 2 24 (code l)
theorem rfn_may {q g cap : Nat} {l : List (Nat × Nat)} (hl : ∀ (k : Nat) (p : Nat × Nat), l[k]? = some p → p.1 < k + 2 ∧ p.2 < k + 2) (hn : l.length ≤ 20) : (rfn q g cap l).may = true := by
  have hrow : formRow 24 1 (code l) = true := formRow_true 24 1 (code l) (fun k x hk => by
    have hkl := (List.getElem?_eq_some_iff.1 hk).1
    rw [code_len] at hkl
    rw [code_len]
    by_cases h : k < l.length
    · obtain ⟨p, hp⟩ : ∃ p, l[k]? = some p := ⟨_, List.getElem?_eq_getElem h⟩
      have hb := hl k p hp
      rw [code_get hp] at hk
      injection hk with hk
      subst hk
      rw [decide_eq_false (by omega : ¬ k + 1 = l.length + 1)]
      have r1 : hasReg 24 (p.1 : Int) = true := by unfold hasReg; simp; omega
      have r2 : hasReg 24 (p.2 : Int) = true := by unfold hasReg; simp; omega
      have r3 : hasReg 24 ((k + 2 : Nat) : Int) = true := by unfold hasReg; simp; omega
      show (decide ((1 : Int) ≤ 3) && decide ((3 : Int) < 22) && (endsI 3 == false) && (bx k p.1 p.2).regsOk 24 && (bx k p.1 p.2).leadsOk 1) = true
      have e1 : (bx k p.1 p.2).regsOk 24 = (!(true && !hasReg 24 (p.1 : Int)) && !(true && !hasReg 24 (p.2 : Int)) && !(true && !hasReg 24 ((k + 2 : Nat) : Int)) && (!false || ([] : List Int).all (hasReg 24))) := rfl
      rw [e1, r1, r2, r3]; rfl
    · obtain rfl : k = l.length := by omega
      rw [code_last] at hk
      injection hk with hk
      subst hk
      rw [decide_eq_true rfl]
      have r1 : hasReg 24 ((l.length + 1 : Nat) : Int) = true := by unfold hasReg; simp; omega
      show (decide ((1 : Int) ≤ 17) && decide ((17 : Int) < 22) && (endsI 17 == true) && (rx l.length).regsOk 24 && (rx l.length).leadsOk 1) = true
      have e0 : readsAI 17 ((l.length + 1 : Nat) : Int) = true := by
        unfold readsAI
        have : (((l.length + 1 : Nat) : Int) != -1) = true := bne_iff_ne.2 (by omega)
        rw [this]; rfl
      have e1 : (rx l.length).regsOk 24 = (!(readsAI 17 ((l.length + 1 : Nat) : Int) && !hasReg 24 ((l.length + 1 : Nat) : Int)) && !(false && !hasReg 24 0) && !(false && !hasReg 24 0) && (!false || ([] : List Int).all (hasReg 24))) := rfl
      rw [e1, e0, r1]; rfl)
  have hne : (code l).isEmpty = false := by
    unfold code
    cases bins 0 l <;> rfl
  show (decide ((0 : Int) ≤ 2) && (decide ((2 : Int) ≤ 6) && decide ((2 : Int) ≤ 24) && decide ((24 : Int) ≤ 100000) && true && ((!(code l).isEmpty && formRow 24 1 (code l)) && true))) = true
  rw [hrow, hne]; rfl
theorem rfn_to (l : List (Nat × Nat)) : lastTo (code l) = [] := by
  rw [lastTo_get (x := rx l.length) (by rw [code_len]; exact code_last l)]; rfl
/-- What the law wants of the registers below r. -/
def WL (X r : Nat) : List Int := ((List.range r).filter X.testBit).map Int.ofNat
theorem WL_snoc (X r : Nat) : WL X (r + 1) = if X.testBit r = true then WL X r ++ [(r : Int)] else WL X r := by
  unfold WL
  rw [List.range_succ, List.filter_append, List.map_append]
  cases h : X.testBit r with
  | true => rw [if_pos rfl, List.filter_cons_of_pos h]; rfl
  | false => rw [if_neg (by decide), List.filter_cons_of_neg (by rw [h]; decide)]; simp
theorem WL_len (X r : Nat) : (WL X r).length ≤ r := listB_len X r
theorem WL_bd (X r : Nat) (hr : r ≤ 1000000) : ∀ z ∈ WL X r, I64 z := listB_bd hr
end Go.Proofs.YtpjilcfmcbapcaaDoor
