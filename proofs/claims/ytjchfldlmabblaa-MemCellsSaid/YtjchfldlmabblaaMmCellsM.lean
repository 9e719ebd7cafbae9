/- Cells side by side, reckoned. -/
import Derived.Test.YtjchfldlmabblaaMmLow
namespace Go.Proofs.Ytjchfldlmabblaa
open Go.RowKit Go.Maps
set_option linter.unusedVariables false

/-- n cells of four bytes, from the i-th on. -/
def cellsF : Nat → Nat → List Ck
  | _, 0 => []
  | i, n + 1 => (4 * (i : Int), tI32) :: cellsF (i + 1) n
theorem cellsF_len : ∀ i n, (cellsF i n).length = n
  | _, 0 => rfl
  | i, n + 1 => by rw [cellsF, List.length_cons, cellsF_len]
theorem cellsF_get : ∀ i n j, j < n → (cellsF i n)[j]? = some (4 * ((i + j : Nat) : Int), tI32)
  | _, 0, _, h => by omega
  | i, n + 1, 0, _ => rfl
  | i, n + 1, j + 1, h => by
    rw [cellsF, List.getElem?_cons_succ, cellsF_get (i + 1) n j (by omega)]
    rw [show i + 1 + j = i + (j + 1) by omega]
theorem cellsF_snoc : ∀ i n, cellsF i (n + 1) = cellsF i n ++ [(4 * ((i + n : Nat) : Int), tI32)]
  | i, 0 => rfl
  | i, n + 1 => by
    rw [cellsF, cellsF_snoc (i + 1) n, cellsF]
    rw [show i + 1 + n = i + (n + 1) by omega]; rfl
theorem addM_cells : ∀ (n i : Nat) (pl : List (Int × Int)) (cl : List (Ck × Int)), (∀ j : Nat, i ≤ j → (kget pl (4 * (j : Int))).getD 0 = 0) → ∀ c : Ck, (kget (addM (cellsF i n) pl cl) c).isSome = true ↔ ((kget cl c).isSome = true ∨ ∃ j : Nat, i ≤ j ∧ j < i + n ∧ c = (4 * (j : Int), tI32))
  | 0, i, pl, cl, h, c => by
    show (kget cl c).isSome = true ↔ _
    constructor
    · exact .inl
    · rintro (h | ⟨j, h1, h2, _⟩)
      · exact h
      · omega
  | n + 1, i, pl, cl, h, c => by
    rw [cellsF, addM, if_pos (h i (Nat.le_refl _))]
    rw [addM_cells n (i + 1) _ _ (fun j hj => by rw [kget_put_other _ _ (by simp only; omega)]; exact h j (by omega)) c]
    by_cases hc : c = (4 * (i : Int), tI32)
    · subst hc
      rw [kget_put_same]
      exact ⟨fun _ => .inr ⟨i, Nat.le_refl _, by omega, rfl⟩, fun _ => .inl rfl⟩
    · rw [kget_put_other _ _ hc]
      constructor
      · rintro (h | ⟨j, h1, h2, h3⟩)
        · exact .inl h
        · exact .inr ⟨j, by omega, by omega, h3⟩
      · rintro (h | ⟨j, h1, h2, h3⟩)
        · exact .inl h
        · refine .inr ⟨j, ?_, by omega, h3⟩
          rcases Nat.lt_or_eq_of_le h1 with h | h
          · exact h
          · subst h; exact absurd h3 hc
def cellP (M : Nat) (c : Ck) : Bool := (kget (addM (cellsF 0 M) [] []) c).isSome
theorem cellP_iff (M : Nat) (c : Ck) : cellP M c = true ↔ ∃ j : Nat, j < M ∧ c = (4 * (j : Int), tI32) := by
  unfold cellP
  rw [addM_cells M 0 [] [] (fun j _ => rfl) c]
  constructor
  · rintro (h | ⟨j, _, h2, h3⟩)
    · cases h
    · exact ⟨j, by omega, h3⟩
  · rintro ⟨j, h2, h3⟩
    exact .inr ⟨j, Nat.zero_le _, by omega, h3⟩
def valL (La : Nat → Int) (c : Ck) : Vl := if c.2 = tI32 ∧ 0 ≤ c.1 ∧ c.1 % 4 = 0 ∧ 0 < La (c.1 / 4).toNat then ⟨1, La (c.1 / 4).toNat, 0, 0⟩ else v0
def VW (M : Nat) (La : Nat → Int) : View := fun x => if x = 1 then some ⟨if 4 * (M : Int) < 1 then 1 else 4 * (M : Int), cellP M, valL La⟩ else none
theorem vw_start (M : Nat) : setV (fun _ => none) 1 (newV (4 * (M : Int)) (addM (cellsF 0 M) [] [])) = VW M (fun _ => 0) := by
  funext x
  unfold setV VW newV
  split
  · refine congrArg some (get_ext rfl rfl ?_)
    funext c
    show v0 = valL (fun _ => 0) c
    unfold valL
    rw [if_neg (by simp)]
  · rfl
def updL (La : Nat → Int) (k : Nat) (v : Int) : Nat → Int := fun j => if j = k then v else La j
theorem vw_cell (M : Nat) (La : Nat → Int) (k : Nat) (hk : k < M) : cellV (VW M La) ⟨2, 0, 1, 4 * (k : Int)⟩ tI32 = some ⟨if 4 * (M : Int) < 1 then 1 else 4 * (M : Int), cellP M, valL La⟩ := by
  unfold cellV VW
  have e : cellP M (4 * (k : Int), tI32) = true := (cellP_iff M _).2 ⟨k, hk, rfl⟩
  simp [Option.filter, e]
theorem vw_write (M : Nat) (La : Nat → Int) (k : Nat) (hk : k < M) (v : Int) (hv : 0 < v) : writeV (VW M La) ⟨2, 0, 1, 4 * (k : Int)⟩ tI32 ⟨1, v, 0, 0⟩ = VW M (updL La k v) := by
  unfold writeV
  rw [vw_cell M La k hk]
  funext x
  show (if x = 1 then some (Bv.put _ (4 * (k : Int), tI32) ⟨1, v, 0, 0⟩) else VW M La x) = VW M (updL La k v) x
  unfold VW
  split
  · refine congrArg some (get_ext rfl rfl ?_)
    funext c
    show (if c = (4 * (k : Int), tI32) then (⟨1, v, 0, 0⟩ : Vl) else valL La c) = valL (updL La k v) c
    unfold valL updL
    obtain ⟨c1, c2⟩ := c
    by_cases hc : (c1, c2) = (4 * (k : Int), tI32)
    · rw [if_pos hc]
      injection hc with h1 h2
      subst h1 h2
      have e1 : (4 * (k : Int) / 4).toNat = k := by omega
      simp only [e1, if_pos]
      rw [if_pos ⟨trivial, by omega, by omega, hv⟩]
    · rw [if_neg hc]
      simp only
      by_cases h : c2 = tI32 ∧ 0 ≤ c1 ∧ c1 % 4 = 0
      · have hne : (c1 / 4).toNat ≠ k := fun e => hc (by rw [h.1]; refine Prod.ext ?_ rfl; simp only; omega)
        rw [if_neg hne]
      · rw [if_neg (fun e => h ⟨e.1, e.2.1, e.2.2.1⟩), if_neg (fun e => h ⟨e.1, e.2.1, e.2.2.1⟩)]
  · rfl
theorem vw_read (M : Nat) (La : Nat → Int) (k : Nat) (hk : k < M) : readV (VW M La) ⟨2, 0, 1, 4 * (k : Int)⟩ tI32 = if 0 < La k then (⟨1, La k, 0, 0⟩, true) else (v0, false) := by
  have e1 : (4 * (k : Int) / 4).toNat = k := by omega
  have hval : valL La (4 * (k : Int), tI32) = if 0 < La k then ⟨1, La k, 0, 0⟩ else v0 := by
    unfold valL
    simp only [e1]
    by_cases h : 0 < La k
    · rw [if_pos h, if_pos ⟨trivial, by omega, by omega, h⟩]
    · rw [if_neg h, if_neg (fun e => h e.2.2.2)]
  unfold readV
  rw [vw_cell M La k hk]
  show (if (valL La (4 * (k : Int), tI32)).k = 0 then (v0, false) else (valL La (4 * (k : Int), tI32), true)) = _
  rw [hval]
  by_cases h : 0 < La k
  · rw [if_pos h, if_pos h, if_neg (by simp)]
  · rw [if_neg h, if_neg h]; rfl
theorem vw_not (M : Nat) (La : Nat → Int) (o : Int) (t : ByteArray) (h : ¬ ∃ j : Nat, j < M ∧ (o, t) = (4 * (j : Int), tI32)) : readV (VW M La) ⟨2, 0, 1, o⟩ t = (v0, false) := by
  unfold readV cellV VW
  have e : cellP M (o, t) = false := by
    cases e : cellP M (o, t) with
    | false => rfl
    | true => exact absurd ((cellP_iff M _).1 e) h
  simp [Option.filter, e]
def tU32 : ByteArray := ⟨#[117, 51, 50]⟩
theorem vw_other (M : Nat) (La : Nat → Int) (k : Nat) : readV (VW M La) ⟨2, 0, 1, 4 * (k : Int)⟩ tU32 = (v0, false) :=
  vw_not M La _ _ (by rintro ⟨j, _, h⟩; injection h with _ h; exact absurd h (by decide))
theorem vw_beside (M : Nat) (La : Nat → Int) (k : Nat) : readV (VW M La) ⟨2, 0, 1, 4 * (k : Int) + 1⟩ tI32 = (v0, false) :=
  vw_not M La _ _ (by rintro ⟨j, _, h⟩; injection h with h _; omega)
theorem vw_end (M : Nat) (La : Nat → Int) : delV (VW M La) 1 = (fun _ => none) := by
  funext x
  unfold delV VW
  split <;> rfl
theorem vl3 (f : Int) (hf : 0 ≤ f) (hf2 : f ≤ 1000) : vlOk ⟨2, 0, 1, f⟩ := ⟨by unfold I64; simp, by unfold I64; simp, by unfold I64; simp, by unfold I64; simp; omega⟩
end Go.Proofs.Ytjchfldlmabblaa
