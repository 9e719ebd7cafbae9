/- The document's memory: Find. -/
import Derived.Test.YtjchfldlmabblaaMmRefE
import Derived.Deep.LoopGhost
namespace Go.Proofs.Ytjchfldlmabblaa
open Go.RowKit Go.Maps
set_option linter.unusedVariables false
set_option linter.unusedSimpArgs false

/-- Where a cell lies in a row, or -1. -/
def posOf : List Ck → Ck → Int
  | [], _ => -1
  | y :: c, x => if y = x then 0 else if posOf c x < 0 then -1 else posOf c x + 1
theorem posOf_lt (c : List Ck) (x : Ck) : -1 ≤ posOf c x ∧ posOf c x < c.length := by
  induction c with
  | nil => simp [posOf]
  | cons y c ih =>
    unfold posOf
    simp only [List.length_cons]
    split
    · omega
    · split <;> omega
theorem posOf_hit {c : List Ck} {x : Ck} {k : Nat} (h : c.Pairwise (fun a b => a.1 < b.1)) (hk : c[k]? = some x) : posOf c x = k := by
  induction c generalizing k with
  | nil => cases hk
  | cons y c ih =>
    rw [List.pairwise_cons] at h
    cases k with
    | zero => injection hk with hk; unfold posOf; rw [if_pos hk]; rfl
    | succ k =>
      have hk' : c[k]? = some x := hk
      have hy : y ≠ x := fun e => by have := h.1 x (List.mem_of_getElem? hk'); rw [e] at this; omega
      have := ih h.2 hk'
      unfold posOf
      rw [if_neg hy, this, if_neg (by omega)]; omega
theorem posOf_miss {c : List Ck} {x : Ck} (h : ∀ k : Nat, c[k]? ≠ some x) : posOf c x = -1 := by
  induction c with
  | nil => rfl
  | cons y c ih =>
    unfold posOf
    rw [if_neg (fun e => h 0 (by simp [e])), ih (fun k => h (k + 1)), if_pos (by omega)]
theorem up_lt {c : List Ck} (h : c.Pairwise (fun a b => a.1 < b.1)) {i j : Nat} {x y : Ck} (hi : c[i]? = some x) (hj : c[j]? = some y) (hij : i < j) : x.1 < y.1 := by
  obtain ⟨h1, e1⟩ := List.getElem?_eq_some_iff.1 hi
  obtain ⟨h2, e2⟩ := List.getElem?_eq_some_iff.1 hj
  have := List.pairwise_iff_getElem.1 h i j h1 h2 hij
  rw [e1, e2] at this; exact this
def Rd.pos (R : Rd) (p : Vl) (t : ByteArray) : Int := if p.k = 2 then ((R.at p.b).map fun d => posOf d.c (p.o, t)).getD (-1) else -1
theorem crow_at {w : World} {B : Nat} {d : Rb} (h : RbAs B w d) {i : Nat} {x : Ck} (hi : d.c[i]? = some x) : ∃ a, d.ca = some ⟨a, 0, none⟩ ∧ w.cell? ⟨a, i * 2, none⟩ = some (.int .i64 x.1) ∧ w.cell? ⟨a, i * 2 + 1, none⟩ = some (.string x.2) := by
  have hl : i < d.c.length := (List.getElem?_eq_some_iff.1 hi).1
  obtain ⟨aa, ca, he, hg⟩ := own_form h.co
  injection he with e1 e2 e3
  obtain ⟨g, hgg⟩ := hg (by omega)
  obtain ⟨r1, r2⟩ := crow_get d.c i x hi
  have hco := h.co
  rw [show d.cs = .slice (some ⟨g, 0, none⟩) d.c.length d.cc by show Value.slice d.ca _ _ = _; rw [e1, hgg]] at hco
  exact ⟨g, e1.trans hgg, (hco.cellAt (i * 2) (by omega)).trans r1, (hco.cellAt (i * 2 + 1) (by omega)).trans r2⟩
set_option maxRecDepth 100000 in
set_option maxHeartbeats 3200000 in
theorem rfind_any (B : Nat) (R : Rd) (x : Vl) (t : ByteArray) (w : World) (h : RefAs B w R) :
    Calls Try.prog 34 #[.pointer (some ⟨R.r, 0, none⟩), va x, .string t] w fun e w' => e = .returned (.int .i64 (R.pos x t)) ∧ Keeps No w w' := by
  obtain ⟨k, n, b, o⟩ := x
  have HP := Lib.hid (fun W => @one_prm 42 w ⟨k, n, b, o⟩ W)
  by_cases hk : k = 2
  · subst hk
    cases hA : R.at b with
    | none =>
      rw [show R.pos ⟨2, n, b, o⟩ t = -1 by unfold Rd.pos; rw [if_pos rfl]; simp only [hA]; rfl]
      have HT := Lib.hid (fun W hk => rthere_k B R b false (by rw [hA]; rfl) w W h hk)
      clear h hA
      go_enter Try.func34, Try.ntmps34
      go_wp2_with fail
      refine (HT.out _ (by repeat (first | with_reducible exact Keeps.refl _ _ | with_reducible refine Keeps.alloc ?_ _ | with_reducible refine Keeps.drewN ?_ _ | with_reducible refine Keeps.drew ?_ | with_reducible refine Keeps.setCell ?_ (.inr (by simp)) _ | with_reducible refine Keeps.setRow ?_ (by simp) _))).mono ?_
      rintro e w1 ⟨rfl, hg1⟩
      have HK1 := Lib.hid (r1_k w ⟨2, n, b, o⟩ hg1)
      clear hg1
      go_wp2_with fail
      go_returns
      exact ⟨rfl, HK1.out⟩
    | some d =>
      obtain ⟨i, rfl, hi1, hi2, hd, ho⟩ := at_pos hA
      have hi' : (i : Int) < (R.bs.length : Int) := by omega
      have i0 : (0 : Int) ≤ (i : Int) := by omega
      obtain ⟨X, hX⟩ : ∃ X, posOf d.c (o, t) = X := ⟨_, rfl⟩
      rw [show R.pos ⟨2, n, i, o⟩ t = X by unfold Rd.pos; rw [if_pos rfl]; simp only [hA]; exact hX]
      have HX := Lib.hid hX
      have HT := Lib.hid (fun W hk => rthere_k B R i true (by rw [hA]; rfl) w W h hk)
      have HC0 := Lib.hid (fun W (hk : Keeps No w W) => (h.no hk).c0)
      have HR := Lib.hid (fun W (hk : Keeps No w W) (i : Nat) (x : Ck) (hi : d.c[i]? = some x) => crow_at ((h.no hk).b _ d hd) hi)
      have HU := Lib.hid (h.b _ d hd).up
      have hcl := (h.b _ d hd).cl
      clear hA ho hX
      obtain ⟨N, hN⟩ : ∃ N, d.c.length = N := ⟨_, rfl⟩
      rw [hN] at hcl
      have HN := Lib.hid hN
      have HC : Hid (∀ W, Keeps No w W → W.cell? ⟨R.g, i * 4 + 1, none⟩ = some (.slice d.ca N d.cc)) := Lib.hid (fun W hk => by rw [← hN]; exact ((h.no hk).c hd).2.1)
      clear hN h hd
      go_enter Try.func34, Try.ntmps34
      go_wp2_with fail
      refine (HT.out _ (by repeat (first | with_reducible exact Keeps.refl _ _ | with_reducible refine Keeps.alloc ?_ _ | with_reducible refine Keeps.drewN ?_ _ | with_reducible refine Keeps.drew ?_ | with_reducible refine Keeps.setCell ?_ (.inr (by simp)) _ | with_reducible refine Keeps.setRow ?_ (by simp) _))).mono ?_
      rintro e w1 ⟨rfl, hg1⟩
      obtain ⟨a1, a2, a3, a4, HK1⟩ := HP.out _ hg1
      have c0 := HC0.out _ HK1.out
      have c1 := HC.out _ HK1.out
      clear hg1
      go_wp2_with fail
      go_quiet (fail)
      go_wp2_with fail
      clear a1 a2 a3 c0 c1
      go_loopg [8, 9] N (fun g v u wr => ∃ lo hi m : Nat, v = .int .i64 (lo : Int) ∧ u = .int .i64 (hi : Int) ∧ lo ≤ hi ∧ hi ≤ N ∧ g = hi - lo ∧ Hid (∀ (j : Nat) (y : Ck), j < lo → d.c[j]? = some y → y.1 < o) ∧ Hid (∀ (j : Nat) (y : Ck), hi ≤ j → d.c[j]? = some y → o ≤ y.1) ∧ w1.drewN m = wr)
      case atStart => exact ⟨0, N, _, rfl, rfl, Nat.zero_le _, Nat.le_refl _, rfl, Lib.hid (fun j y hj => by omega), Lib.hid (fun j y hj e => by have := (List.getElem?_eq_some_iff.1 e).1; have := HN.out; omega), rfl⟩
      case round =>
        obtain ⟨lo, hi, m, rfl, rfl, hlh, hhn, hg, HL, HH, rfl⟩ := hrel
        by_cases hlt : lo < hi
        · have hlt' : (lo : Int) < (hi : Int) := by omega
          have l0 : (0 : Int) ≤ (lo : Int) := by omega
          have h0 : (0 : Int) ≤ (hi : Int) := by omega
          have hh : (hi : Int) ≤ 1000 := by omega
          obtain ⟨M, hM⟩ : ∃ M, (lo + hi) / 2 = M := ⟨_, rfl⟩
          have hM1 : lo ≤ M := by omega
          have hM2 : M < hi := by omega
          have hMN : (M : Int) < (N : Int) := by omega
          have hM0 : (0 : Int) ≤ (M : Int) := by omega
          have hMz : ((lo : Int) + (hi : Int)) / 2 = (M : Int) := by omega
          have HM : Hid (M < d.c.length) := Lib.hid (by have := HN.out; omega)
          obtain ⟨y, hy⟩ : ∃ y, d.c[M]? = some y := ⟨_, List.getElem?_eq_getElem HM.out⟩
          obtain ⟨a, ha, r1, r2⟩ := HR.out _ HK1.out M y hy
          have HY := Lib.hid hy
          have a4' := a4
          clear hM hy
          rw [ha]
          obtain ⟨Y, S⟩ := y
          simp only at r1 r2
          by_cases hlo : Y < o
          · go_wp2_with fail
            go_quiet (fail)
            go_wp2_with fail
            clear hMz
            rw [← ha]
            go_roundg (hi - (M + 1))
            case rel => exact ⟨M + 1, hi, _, by go_num, rfl, by omega, hhn, rfl, Lib.hid (fun j y hj e => by
              rcases Nat.lt_or_ge j M with h | h
              · have := up_lt HU.out e HY.out h; simp only at this; omega
              · obtain rfl : j = M := by omega
                rw [HY.out] at e; injection e with e; rw [← e]; exact hlo), HH, rfl⟩
            case measure => omega
          · have hlo' : decide (Y < o) = false := decide_eq_false hlo
            go_wp2_with fail
            go_quiet (fail)
            go_wp2_with fail
            clear hMz
            rw [← ha]
            go_roundg (M - lo)
            case rel => exact ⟨lo, M, m + nq, rfl, rfl, by omega, by omega, rfl, HL, Lib.hid (fun j y hj e => by
              rcases Nat.lt_or_ge M j with h | h
              · have := up_lt HU.out HY.out e h; simp only at this; omega
              · obtain rfl : j = M := by omega
                rw [HY.out] at e; injection e with e; rw [← e]; simp only; omega), by rw [World.drewN_drewN]⟩
            case measure => omega
        · obtain rfl : lo = hi := by omega
          have hlt' : ¬ (lo : Int) < (lo : Int) := by omega
          have l0 : (0 : Int) ≤ (lo : Int) := by omega
          by_cases hN : lo < N
          · have hN' : (lo : Int) < (N : Int) := by omega
            have HM : Hid (lo < d.c.length) := Lib.hid (by have := HN.out; omega)
            obtain ⟨y, hy⟩ : ∃ y, d.c[lo]? = some y := ⟨_, List.getElem?_eq_getElem HM.out⟩
            obtain ⟨a, ha, r1, r2⟩ := HR.out _ HK1.out lo y hy
            have HY := Lib.hid hy
            clear hy
            rw [ha]
            obtain ⟨Y, S⟩ := y
            simp only at r1 r2
            have HMI : Hid (¬ (Y = o ∧ S = t) → X = -1) := Lib.hid (fun hne => by
              rw [← HX.out]
              refine posOf_miss (fun k e => ?_)
              rcases Nat.lt_trichotomy k lo with h | h | h
              · have := HL.out k _ h e; simp only at this; omega
              · subst h; rw [HY.out] at e; injection e with e; injection e with e1 e2; exact hne ⟨e1, e2⟩
              · have h1 := up_lt HU.out HY.out e h; have h2 := HH.out lo _ (Nat.le_refl _) HY.out; simp only at h1 h2; omega)
            by_cases hYo : Y = o
            · have hY1 : (Y == o) = true := beq_iff_eq.2 hYo
              by_cases hSt : S = t
              · have hS1 : (S.toList == t.toList) = true := by rw [hSt]; exact beq_self_eq_true _
                have HE : Hid ((lo : Int) = X) := Lib.hid (by rw [← HX.out]; exact (posOf_hit HU.out (by rw [HY.out, hYo, hSt])).symm)
                go_wp2_with fail
                go_quiet (fail)
                go_wp2_with fail
                go_returns
                exact ⟨ri rfl HE.out, (by repeat (first | with_reducible exact HK1.out | with_reducible refine Keeps.alloc ?_ _ | with_reducible refine Keeps.drewN ?_ _ | with_reducible refine Keeps.drew ?_ | with_reducible refine Keeps.setCell ?_ (.inr (by simp)) _ | with_reducible refine Keeps.setRow ?_ (by simp) _))⟩
              · have hS1 : (S.toList == t.toList) = false := str_ne _ _ hSt
                have HE : Hid (-1 = X) := Lib.hid (HMI.out (fun e => hSt e.2)).symm
                go_wp2_with fail
                go_quiet (fail)
                go_wp2_with fail
                go_returns
                exact ⟨ri rfl HE.out, (by repeat (first | with_reducible exact HK1.out | with_reducible refine Keeps.alloc ?_ _ | with_reducible refine Keeps.drewN ?_ _ | with_reducible refine Keeps.drew ?_ | with_reducible refine Keeps.setCell ?_ (.inr (by simp)) _ | with_reducible refine Keeps.setRow ?_ (by simp) _))⟩
            · have hY1 : (Y == o) = false := beq_eq_false_iff_ne.2 hYo
              have HE : Hid (-1 = X) := Lib.hid (HMI.out (fun e => hYo e.1)).symm
              go_wp2_with fail
              go_quiet (fail)
              go_wp2_with fail
              go_returns
              exact ⟨ri rfl HE.out, (by repeat (first | with_reducible exact HK1.out | with_reducible refine Keeps.alloc ?_ _ | with_reducible refine Keeps.drewN ?_ _ | with_reducible refine Keeps.drew ?_ | with_reducible refine Keeps.setCell ?_ (.inr (by simp)) _ | with_reducible refine Keeps.setRow ?_ (by simp) _))⟩
          · obtain rfl : lo = N := by omega
            have hN' : ¬ (lo : Int) < (lo : Int) := by omega
            have HE : Hid (-1 = X) := Lib.hid (by
              rw [← HX.out]
              refine (posOf_miss (fun k e => ?_)).symm
              have h1 := (List.getElem?_eq_some_iff.1 e).1
              have := HL.out k _ (by have := HN.out; omega) e; simp only at this; omega)
            go_wp2_with fail
            go_quiet (fail)
            go_wp2_with fail
            go_returns
            exact ⟨ri rfl HE.out, (by repeat (first | with_reducible exact HK1.out | with_reducible refine Keeps.alloc ?_ _ | with_reducible refine Keeps.drewN ?_ _ | with_reducible refine Keeps.drew ?_ | with_reducible refine Keeps.setCell ?_ (.inr (by simp)) _ | with_reducible refine Keeps.setRow ?_ (by simp) _))⟩
  · rw [show R.pos ⟨k, n, b, o⟩ t = -1 by unfold Rd.pos; rw [if_neg hk]]
    have hk1 : (k != 2) = true := bne_iff_ne.2 hk
    have hk2 : (k == 2) = false := beq_eq_false_iff_ne.2 hk
    clear h HP
    go_enter Try.func34, Try.ntmps34
    go_wp2_with fail
    go_returns
    exact ⟨rfl, (by repeat (first | with_reducible exact Keeps.refl _ _ | with_reducible refine Keeps.alloc ?_ _ | with_reducible refine Keeps.drewN ?_ _ | with_reducible refine Keeps.drew ?_ | with_reducible refine Keeps.setCell ?_ (.inr (by simp)) _ | with_reducible refine Keeps.setRow ?_ (by simp) _))⟩
end Go.Proofs.Ytjchfldlmabblaa
