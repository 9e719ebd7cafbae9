/- cmp.Less of two numbers. -/
import Derived.Test.YtkiimljdoebclaaDoorIrP
import Derived.Test.YtkiimljdoebclaaDoorIrRow
import Derived.Test.YtkiimljdoebclaaDoorIrLow
namespace Go.Proofs.YtkiimljdoebclaaDoor
open Go.RowKit
set_option linter.unusedVariables false
set_option linter.unusedSimpArgs false

theorem isnan_any (x : Int) (w : World) : Calls Tryd.prog 68 #[.int .i64 x] w fun e w' => e = .returned (.bool false) ∧ w' = w := by
  go_enter Tryd.func68, Tryd.ntmps68
  go_wp2_with fail
  go_returns
  exact ⟨rfl, rfl⟩
theorem less_any (x y : Int) (w : World) : Calls Tryd.prog 53 #[.int .i64 x, .int .i64 y] w fun e w' => e = .returned (.bool (decide (x < y))) ∧ w' = w := by
  go_enter Tryd.func53, Tryd.ntmps53
  go_wp2_with fail
  refine (isnan_any x w).mono ?_
  rintro e w1 ⟨rfl, rfl⟩
  go_wp2_with fail
  go_returns
  exact ⟨rfl, rfl⟩
end Go.Proofs.YtkiimljdoebclaaDoor
/- slices.Sort of at most twelve numbers. -/
namespace Go.Proofs.YtkiimljdoebclaaDoor
open Go.RowKit
set_option linter.unusedVariables false
set_option linter.unusedSimpArgs false

def Rising (l : List Int) : Prop := l.Pairwise (fun a b => a ≤ b)
def ins1 (x : Int) : List Int → List Int
  | [] => [x]
  | y :: t => if x ≤ y then x :: y :: t else y :: ins1 x t
def isort : List Int → List Int
  | [] => []
  | x :: t => ins1 x (isort t)
theorem ins1_perm (x : Int) (l : List Int) : (ins1 x l).Perm (x :: l) := by
  induction l with
  | nil => exact List.Perm.refl _
  | cons y t ih =>
    unfold ins1
    split
    · exact List.Perm.refl _
    · exact (ih.cons y).trans (List.Perm.swap x y t)
theorem isort_perm (l : List Int) : (isort l).Perm l := by
  induction l with
  | nil => exact List.Perm.refl _
  | cons y t ih => exact (ins1_perm y (isort t)).trans (ih.cons y)
theorem ins1_rising (x : Int) (l : List Int) (h : Rising l) : Rising (ins1 x l) := by
  induction l with
  | nil => exact List.pairwise_singleton _ _
  | cons y t ih =>
    obtain ⟨h1, h2⟩ := List.pairwise_cons.1 h
    unfold ins1
    split
    · rename_i hx
      exact List.pairwise_cons.2 ⟨fun b hb => by
        rcases List.mem_cons.1 hb with rfl | hb
        · exact hx
        · exact Int.le_trans hx (h1 b hb), h⟩
    · rename_i hx
      refine List.pairwise_cons.2 ⟨fun b hb => ?_, ih h2⟩
      rcases List.mem_cons.1 ((ins1_perm x t).mem_iff.1 hb) with rfl | hb
      · omega
      · exact h1 b hb
theorem isort_rising (l : List Int) : Rising (isort l) := by
  induction l with
  | nil => exact List.Pairwise.nil
  | cons y t ih => exact ins1_rising y _ ih
theorem rising_one {a b : List Int} (p : a.Perm b) (ha : Rising a) (hb : Rising b) : a = b :=
  List.Perm.eq_of_pairwise (le := fun a b => a ≤ b) (fun a b _ _ h1 h2 => Int.le_antisymm h1 h2) ha hb p
theorem isort_of {a b : List Int} (p : a.Perm b) (ha : Rising a) : a = isort b := rising_one (p.trans (isort_perm b).symm) ha (isort_rising b)
/-- One more stands where it belongs. -/
theorem rising_put {A S : List Int} {x : Int} (h : Rising (A ++ S)) (hx : ∀ b ∈ S, x ≤ b) (ha : A = [] ∨ ∃ A' a, A = A' ++ [a] ∧ a ≤ x) : Rising (A ++ x :: S) := by
  obtain ⟨h1, h2, h3⟩ := List.pairwise_append.1 h
  refine List.pairwise_append.2 ⟨h1, List.pairwise_cons.2 ⟨hx, h2⟩, fun a hA b hb => ?_⟩
  rcases List.mem_cons.1 hb with rfl | hb
  · rcases ha with rfl | ⟨A', y, rfl, hy⟩
    · cases hA
    · rcases List.mem_append.1 hA with hA | hA
      · exact Int.le_trans ((List.pairwise_append.1 h1).2.2 a hA y (by simp)) hy
      · obtain rfl : a = y := by simpa using hA
        exact hy
  · exact h3 a hA b hb
/-- A row of numbers that is turned, at block g. -/
structure RS (w0 w : World) (B g n cap : Nat) (l c : List Int) : Prop where
  kp : Keeps (fun q => q = g) w0 w
  own : w.ownsRow B 3 1 (.slice (some ⟨g, 0, none⟩) n cap) n (irow c)
  perm : c.Perm l
theorem RS.cell {w0 w : World} {B g n cap : Nat} {l c : List Int} (h : RS w0 w B g n cap l c) {j : Nat} {x : Int} (hx : c[j]? = some x) (hj : j < n) : w.cell? ⟨g, j, none⟩ = some (.int .i64 x) := by
  rw [World.ownsRow.cellAt h.own j (by omega)]; exact irow_get hx
theorem RS.drewN {w0 w : World} {B g n cap : Nat} {l c : List Int} (h : RS w0 w B g n cap l c) (k : Nat) : RS w0 (w.drewN k) B g n cap l c := ⟨h.kp.drewN k, h.own, h.perm⟩
theorem RS.frozen {w0 w : World} {B g n cap : Nat} {l c : List Int} (h : RS w0 w B g n cap l c) (j : Nat) : w.frozen? ⟨g, j, none⟩ = false := World.ownsRow.frozenAt h.own j
theorem RS.swap {w0 w : World} {B g n cap : Nat} {l A S : List Int} {a x : Int} {p q : Nat} (h : RS w0 w B g n cap l (A ++ a :: x :: S)) (hp : p = A.length + 1) (hq : q = A.length) :
    RS w0 ((w.setCell ⟨g, p, none⟩ (.int .i64 a)).setCell ⟨g, q, none⟩ (.int .i64 x)) B g n cap l (A ++ x :: a :: S) := by
  subst hp hq
  refine ⟨(h.kp.setCell (.inl rfl) _).setCell (.inl rfl) _, ?_, ?_⟩
  · have e := (World.ownsRow.stored (World.ownsRow.stored h.own (A.length + 1) (.int .i64 a)).1 A.length (.int .i64 x)).1
    have e2 : ((irow (A ++ a :: x :: S)).set (A.length + 1) (.int .i64 a)).set A.length (.int .i64 x) = irow (A ++ x :: a :: S) := by
      unfold irow
      rw [List.map_append, List.map_append, List.map_cons, List.map_cons, List.map_cons, List.map_cons]
      rw [List.set_append_right _ _ (by simp), List.set_append_right _ _ (by simp)]
      simp
    rw [e2] at e
    exact e
  · exact (((List.Perm.swap a x S)).append_left A |>.trans h.perm)
set_option maxRecDepth 100000 in
set_option maxHeartbeats 6400000 in
theorem inss_any (w : World) (B g n cap : Nat) (l : List Int) (h0 : 0 < n) (hn : n ≤ 1000000) (hc : n ≤ cap ∧ cap ≤ maxLen) (hown : w.ownsRow B 3 1 (.slice (some ⟨g, 0, none⟩) n cap) n (irow l)) :
    Calls Tryd.prog 47 #[.slice (some ⟨g, 0, none⟩) n cap, .int .i64 0, .int .i64 n] w fun e w' => e = .returned (.tuple #[]) ∧ w'.ownsRow B 3 1 (.slice (some ⟨g, 0, none⟩) n cap) n (irow (isort l)) ∧ Keeps (fun q => q = g) w w' := by
  have hlen : l.length = n := by have := hown.1; unfold irow at this; rw [List.length_map] at this; omega
  have HR0 : Hid (RS w w B g n cap l l) := Lib.hid ⟨Keeps.refl _ _, hown, List.Perm.refl _⟩
  have HLEN := Lib.hid hlen
  obtain ⟨hc1, hc2⟩ := hc
  unfold maxLen at hc2
  clear hown hlen
  go_enter Tryd.func47, Tryd.ntmps47
  go_wp2_with fail
  go_loopg [6] (n - 1) (fun k v wr => ∃ i : Nat, ∃ c : List Int, v = .int .i64 (i : Int) ∧ 1 ≤ i ∧ i ≤ n ∧ k = n - i ∧ Hid (RS w wr B g n cap l c ∧ Rising (c.take i)))
  case atStart => exact ⟨1, l, rfl, Nat.le_refl _, h0, rfl, Lib.hid ⟨HR0.out, by
    rcases l with _ | ⟨a, t⟩
    · exact List.Pairwise.nil
    · exact List.pairwise_singleton _ _⟩⟩
  case round =>
    obtain ⟨i, c, rfl, hi1, hi, hg, HC⟩ := hrel
    by_cases hlt : i < n
    · have hlt' : (i : Int) < (n : Int) := by omega
      have HCL : Hid (c.length = n) := Lib.hid (by rw [HC.out.1.perm.length_eq]; exact HLEN.out)
      obtain ⟨x, hx⟩ : ∃ x, c[i]? = some x := ⟨_, List.getElem?_eq_getElem (by rw [HCL.out]; exact hlt)⟩
      have HX : Hid (c = c.take i ++ x :: ([] ++ c.drop (i + 1)) ∧ (c.take i).length = i) := Lib.hid (by
        have h := HCL.out
        refine ⟨?_, by rw [List.length_take]; omega⟩
        rw [← (List.getElem?_eq_some_iff.1 hx).2, List.nil_append, ← List.drop_eq_getElem_cons, List.take_append_drop])
      clear hx
      obtain ⟨D, hD⟩ : ∃ D, c.drop (i + 1) = D := ⟨_, rfl⟩
      rw [hD] at HX
      clear hD
      go_wp2_with fail
      obtain ⟨wA, rfl⟩ : ∃ W, W = wr := ⟨_, rfl⟩
      go_loopg [7] i (fun k v wr => ∃ A S : List Int, v = .int .i64 (A.length : Int) ∧ A.length ≤ i ∧ k = A.length ∧ Hid (RS w wr B g n cap l (A ++ x :: (S ++ D)) ∧ Rising (A ++ S) ∧ (∀ b ∈ S, x ≤ b) ∧ (A ++ S).length = i))
      case atStart => exact ⟨c.take i, [], by rw [HX.out.2], by rw [HX.out.2]; exact Nat.le_refl _, HX.out.2.symm, Lib.hid ⟨by rw [← HX.out.1]; exact HC.out.1, by rw [List.append_nil]; exact HC.out.2, by simp, by simp [HX.out.2]⟩⟩
      case round =>
        obtain ⟨A, S, rfl, hA, hg2, HS⟩ := hrel
        rcases List.eq_nil_or_concat A with rfl | ⟨A', a, rfl⟩
        · have HN : Hid (RS w wr B g n cap l (([] ++ x :: S) ++ D) ∧ Rising ((([] ++ x :: S) ++ D).take (i + 1))) := Lib.hid (by
            obtain ⟨h1, h2, h3, h4⟩ := HS.out
            have e : ([] ++ x :: S).length = i + 1 := by simp at h4; simp [h4]
            rw [List.take_append_of_le_length (by omega), List.take_of_length_le (by omega)]
            exact ⟨h1, rising_put h2 h3 (.inl rfl)⟩)
          rw [show (([] : List Int).length : Int) = 0 from rfl]
          have hz : decide ((0 : Int) > 0) = false := rfl
          go_wp2_with fail
          go_quiet (fail)
          go_wp2_with fail
          go_roundg (n - (i + 1))
          case rel => exact ⟨i + 1, _, by go_num, by omega, by omega, rfl, Lib.hid ⟨⟨HN.out.1.kp.drewN nq, HN.out.1.own, HN.out.1.perm⟩, HN.out.2⟩⟩
          case measure => omega
        · obtain ⟨p, hp⟩ : ∃ p, A'.length = p := ⟨_, rfl⟩
          have hpl : (A'.concat a).length = p + 1 := by simp [hp]
          rw [hpl]
          rw [hpl] at hA
          have hi0 : (0 : Int) ≤ ((p + 1 : Nat) : Int) := by omega
          have hgt : ((p + 1 : Nat) : Int) > 0 := by omega
          have HSS : Hid (RS w wr B g n cap l (A' ++ a :: x :: (S ++ D)) ∧ Rising (A' ++ a :: S) ∧ (∀ b ∈ S, x ≤ b) ∧ A'.length + 1 + S.length = i) := Lib.hid (by
            obtain ⟨h1, h2, h3, h4⟩ := HS.out
            rw [List.concat_eq_append] at h1 h2 h4
            refine ⟨by simpa using h1, by simpa using h2, h3, by simp at h4; omega⟩)
          have cx : wr.cell? ⟨g, p + 1, none⟩ = some (.int .i64 x) := HSS.out.1.cell (by rw [List.getElem?_append_right (by omega), hp]; simp) (by omega)
          have ca : wr.cell? ⟨g, p, none⟩ = some (.int .i64 a) := HSS.out.1.cell (by rw [List.getElem?_append_right (by omega), hp]; simp) (by omega)
          have HP := Lib.hid hp
          have hgt2 : decide (((p + 1 : Nat) : Int) > 0) = true := decide_eq_true hgt
          have e1 : IntKind.i64.wrap (((p + 1 : Nat) : Int) - 1) = (p : Int) := by rw [IntKind.wrap_i64]; omega
          clear hp hpl
          go_wp2_with fail
          by_cases hxa : x < a
          · have hd : decide (x < a) = true := decide_eq_true hxa
            have HXA := Lib.hid hxa
            clear hxa
            go_quiet ((go_at_call 53; exact Calls.quiet_of_same (less_any _ _ _)))
            have HQ : Hid (RS w (wr.drewN nq) B g n cap l (A' ++ a :: x :: (S ++ D))) := Lib.hid ⟨HSS.out.1.kp.drewN nq, HSS.out.1.own, HSS.out.1.perm⟩
            generalize wr.drewN nq = w1 at HQ ⊢
            have dx : w1.cell? ⟨g, p + 1, none⟩ = some (.int .i64 x) := HQ.out.cell (by rw [List.getElem?_append_right (by have := HP.out; omega), HP.out]; simp) (by omega)
            have da : w1.cell? ⟨g, p, none⟩ = some (.int .i64 a) := HQ.out.cell (by rw [List.getElem?_append_right (by have := HP.out; omega), HP.out]; simp) (by omega)
            have fx := HQ.out.frozen (p + 1)
            have fa := HQ.out.frozen p
            clear cx ca
            go_wp2_with fail
            go_region
            go_wp2_with fail
            go_roundg p
            case rel => exact ⟨A', a :: S, by rw [HP.out], by have := HP.out; omega, HP.out.symm, Lib.hid ⟨(HQ.out.swap (by rw [HP.out]) HP.out.symm).drewN 1, HSS.out.2.1, fun b hb => by
              rcases List.mem_cons.1 hb with rfl | hb
              · have := HXA.out; omega
              · exact HSS.out.2.2.1 b hb, by have := HSS.out.2.2.2; rw [List.length_append, List.length_cons]; omega⟩⟩
            case measure => rw [hg2, List.length_concat, HP.out]; exact Nat.lt_succ_self p
          · have hd : decide (x < a) = false := decide_eq_false hxa
            have HXA := Lib.hid hxa
            clear hxa
            go_quiet ((go_at_call 53; exact Calls.quiet_of_same (less_any _ _ _)))
            have HN : Hid (RS w (wr.drewN nq) B g n cap l (((A' ++ [a]) ++ x :: S) ++ D) ∧ Rising ((((A' ++ [a]) ++ x :: S) ++ D).take (i + 1))) := Lib.hid (by
              obtain ⟨h1, h2, h3, h4⟩ := HSS.out
              have e : ((A' ++ [a]) ++ x :: S).length = i + 1 := by simp; omega
              rw [List.take_append_of_le_length (by omega), List.take_of_length_le (by omega)]
              have h1' := h1.drewN nq
              refine ⟨by simpa using h1', rising_put (by simpa using h2) h3 (.inr ⟨A', a, rfl, by have := HXA.out; omega⟩)⟩)
            generalize wr.drewN nq = w1 at HN ⊢
            go_wp2_with fail
            go_roundg (n - (i + 1))
            case rel => exact ⟨i + 1, _, by go_num, by omega, by omega, rfl, HN⟩
            case measure => omega
    · obtain rfl : i = n := by omega
      have hlt' : ¬ (i : Int) < (i : Int) := by omega
      have HE : Hid (c = isort l) := Lib.hid (by
        have h := HC.out
        rw [List.take_of_length_le (by rw [h.1.perm.length_eq, HLEN.out]; exact Nat.le_refl _)] at h
        exact isort_of h.1.perm h.2)
      go_wp2_with fail
      go_returns
      exact ⟨rfl, by rw [← HE.out]; exact HC.out.1.own, HC.out.1.kp⟩
set_option maxRecDepth 100000 in
theorem len64_any (n : Nat) (hn : n ≤ 12) (w : World) : Calls Tryd.prog 57 #[.int .u64 (n : Int)] w fun e w' => (∃ K, e = .returned (.int .i64 K)) ∧ w' = w := by
  have h : n = 0 ∨ n = 1 ∨ n = 2 ∨ n = 3 ∨ n = 4 ∨ n = 5 ∨ n = 6 ∨ n = 7 ∨ n = 8 ∨ n = 9 ∨ n = 10 ∨ n = 11 ∨ n = 12 := by omega
  rcases h with rfl | rfl | rfl | rfl | rfl | rfl | rfl | rfl | rfl | rfl | rfl | rfl | rfl
  all_goals
    go_enter Tryd.func57, Tryd.ntmps57
    go_wp2_with fail
    go_returns
    exact ⟨⟨_, rfl⟩, rfl⟩
theorem len_any (n : Nat) (hn : n ≤ 12) (w : World) : Calls Tryd.prog 43 #[.int .u64 (n : Int)] w fun e w' => (∃ K, e = .returned (.int .i64 K)) ∧ w' = w := by
  have H := Lib.hid (len64_any n hn w)
  have h1 : (n : Int) ≤ 12 := by omega
  have h0 : (0 : Int) ≤ (n : Int) := by omega
  go_enter Tryd.func43, Tryd.ntmps43
  go_wp2_with fail
  refine H.out.mono ?_
  rintro e w1 ⟨⟨K, rfl⟩, rfl⟩
  go_wp2_with fail
  go_returns
  exact ⟨⟨_, rfl⟩, rfl⟩
set_option maxRecDepth 100000 in
set_option maxHeartbeats 3200000 in
theorem pdq_any (w : World) (B n : Nat) (v : Value) (l : List Int) (K : Int) (hn : n ≤ 12) (hown : w.ownsRow B 3 1 v n (irow l)) :
    Calls Tryd.prog 42 #[v, .int .i64 0, .int .i64 n, .int .i64 K] w fun e w' => e = .returned (.tuple #[]) ∧ w'.ownsRow B 3 1 v n (irow (isort l)) ∧ Keeps (fun q => v.ownBlock = some q) w w' := by
  have hlen : l.length = n := by have := hown.1; unfold irow at this; rw [List.length_map] at this; omega
  have HI : Hid (Calls Tryd.prog 47 #[v, .int .i64 0, .int .i64 n] w fun e w' => e = .returned (.tuple #[]) ∧ w'.ownsRow B 3 1 v n (irow (isort l)) ∧ Keeps (fun q => v.ownBlock = some q) w w') := Lib.hid (by
    rcases hown.2 with ⟨h1, h2⟩ | ⟨g, cap, cur, h1, h2, h3, h4, h5, _⟩
    · subst h1
      have e : l = [] := by cases l with
        | nil => rfl
        | cons a t => simp at hlen; omega
      subst e h2
      have HO := Lib.hid hown
      clear hown hlen hn
      go_enter Tryd.func47, Tryd.ntmps47
      go_wp2_with fail
      go_loopg [6] 0 (fun k v wr => v = .int .i64 1 ∧ wr = w)
      case atStart => exact ⟨rfl, rfl⟩
      case round =>
        obtain ⟨rfl, rfl⟩ := hrel
        go_wp2_with fail
        go_returns
        exact ⟨rfl, HO.out, Keeps.refl _ _⟩
    · subst h1
      by_cases h0 : 0 < n
      · refine (inss_any w B g n cap l h0 (by omega) ⟨h4, h5⟩ hown).mono ?_
        rintro e w' ⟨k1, k2, k3⟩
        exact ⟨k1, k2, k3.mono (fun q _ e => by rw [e]; rfl)⟩
      · obtain rfl : n = 0 := by omega
        have e : l = [] := by cases l with
          | nil => rfl
          | cons a t => simp at hlen
        subst e
        have HO := Lib.hid hown
        clear hown hlen hn
        unfold maxLen at h5
        go_enter Tryd.func47, Tryd.ntmps47
        go_wp2_with fail
        go_loopg [6] 0 (fun k v wr => v = .int .i64 1 ∧ wr = w)
        case atStart => exact ⟨rfl, rfl⟩
        case round =>
          obtain ⟨rfl, rfl⟩ := hrel
          go_wp2_with fail
          go_returns
          exact ⟨rfl, HO.out, Keeps.refl _ _⟩)
  have h1 : (n : Int) ≤ 12 := by omega
  have h0 : (0 : Int) ≤ (n : Int) := by omega
  clear hown hlen
  go_enter Tryd.func42, Tryd.ntmps42
  go_wp2_with fail
  go_loopg [1, 2, 3] 0 (fun k x y z wr => x = .int .i64 0 ∧ y = .int .i64 n ∧ z = .int .i64 K ∧ wr = w)
  case atStart => exact ⟨rfl, rfl, rfl, rfl⟩
  case round =>
    obtain ⟨rfl, rfl, rfl, rfl⟩ := hrel
    go_wp2_with fail
    refine HI.out.mono ?_
    rintro e w1 ⟨rfl, h⟩
    have HH := Lib.hid h
    clear h HI
    go_wp2_with fail
    go_returns
    exact ⟨rfl, HH.out⟩
/-- A row of the call's own is sorted. -/
theorem sort_any (w : World) (B n : Nat) (v : Value) (l : List Int) (hn : n ≤ 12) (hown : w.ownsRow B 3 1 v n (irow l)) :
    Calls Tryd.prog 31 #[v] w fun e w' => e = .returned (.tuple #[]) ∧ w'.ownsRow B 3 1 v n (irow (isort l)) ∧ Keeps (fun q => v.ownBlock = some q) w w' := by
  have HL := Lib.hid (fun W => len_any n hn W)
  have HP := Lib.hid (fun (W : World) K h => pdq_any W B n v l K hn h)
  obtain ⟨aa, ca, rfl, _⟩ := own_form hown
  have hown' := Lib.hid hown
  have h1 : (n : Int) ≤ 12 := by omega
  have h0 : (0 : Int) ≤ (n : Int) := by omega
  clear hown
  go_enter Tryd.func31, Tryd.ntmps31
  go_wp2_with fail
  refine (HL.out _).mono ?_
  rintro e w1 ⟨⟨K, rfl⟩, rfl⟩
  go_wp2_with fail
  refine (HP.out _ K hown'.out).mono ?_
  rintro e w1 ⟨rfl, h⟩
  have HH := Lib.hid h
  clear h HL HP hown'
  go_wp2_with fail
  go_returns
  exact ⟨rfl, HH.out⟩
end Go.Proofs.YtkiimljdoebclaaDoor
