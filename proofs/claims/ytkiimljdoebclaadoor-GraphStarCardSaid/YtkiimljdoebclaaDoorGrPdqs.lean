/- Insertion sort of a part of a row. -/
import Derived.Test.YtkiimljdoebclaaDoorGrSorts
import Derived.Test.YtkiimljdoebclaaDoorGrEachs
namespace Go.Proofs.YtkiimljdoebclaaDoor
open Go.RowKit
set_option linter.unusedVariables false
set_option linter.unusedSimpArgs false

/-- A row whose middle is turned. -/
structure RR (w0 w : World) (B g n cap : Nat) (P D0 l c : List Int) : Prop where
  kp : Keeps (fun q => q = g) w0 w
  own : w.ownsRow B 3 1 (.slice (some ⟨g, 0, none⟩) n cap) n (irow (P ++ (c ++ D0)))
  perm : c.Perm l
theorem RR.cell {w0 w : World} {B g n cap : Nat} {P D0 l c : List Int} (h : RR w0 w B g n cap P D0 l c) {lo j : Nat} {x : Int} (hlo : P.length = lo) (hx : c[j]? = some x) : w.cell? ⟨g, lo + j, none⟩ = some (.int .i64 x) := by
  have hj := (List.getElem?_eq_some_iff.1 hx).1
  have hn : (P ++ (c ++ D0)).length = n := by have := h.own.1; unfold irow at this; rw [List.length_map] at this; omega
  simp only [List.length_append] at hn
  rw [World.ownsRow.cellAt h.own (lo + j) (by omega)]
  exact irow_get (by rw [List.getElem?_append_right (by omega), show lo + j - P.length = j by omega, List.getElem?_append_left hj]; exact hx)
theorem RR.drewN {w0 w : World} {B g n cap : Nat} {P D0 l c : List Int} (h : RR w0 w B g n cap P D0 l c) (k : Nat) : RR w0 (w.drewN k) B g n cap P D0 l c := ⟨h.kp.drewN k, h.own, h.perm⟩
theorem RR.frozen {w0 w : World} {B g n cap : Nat} {P D0 l c : List Int} (h : RR w0 w B g n cap P D0 l c) (j : Nat) : w.frozen? ⟨g, j, none⟩ = false := World.ownsRow.frozenAt h.own j
theorem RR.swap {w0 w : World} {B g n cap lo : Nat} {P D0 l A S : List Int} {a x : Int} {p q : Nat} (h : RR w0 w B g n cap P D0 l (A ++ a :: x :: S)) (hlo : P.length = lo) (hp : p = lo + (A.length + 1)) (hq : q = lo + A.length) :
    RR w0 ((w.setCell ⟨g, p, none⟩ (.int .i64 a)).setCell ⟨g, q, none⟩ (.int .i64 x)) B g n cap P D0 l (A ++ x :: a :: S) := by
  subst hp hq hlo
  have h' : RS w0 w B g n cap (P ++ (A ++ a :: x :: S ++ D0)) ((P ++ A) ++ a :: x :: (S ++ D0)) := ⟨h.kp, by have := h.own; simpa using this, by simp⟩
  have e := h'.swap (p := P.length + (A.length + 1)) (q := P.length + A.length) (by rw [List.length_append]; omega) (by rw [List.length_append])
  exact ⟨e.kp, by have := e.own; simpa using this, ((List.Perm.swap a x S).append_left A).trans h.perm⟩
set_option maxRecDepth 100000 in
set_option maxHeartbeats 6400000 in
theorem insr_any (w : World) (B g n cap lo m : Nat) (P D0 l : List Int) (hlo : P.length = lo) (hlen : l.length = m) (h0 : 0 < m) (hn : n ≤ 1000000) (hc : n ≤ cap ∧ cap ≤ maxLen) (hown : w.ownsRow B 3 1 (.slice (some ⟨g, 0, none⟩) n cap) n (irow (P ++ (l ++ D0)))) :
    Calls Tryd.prog 47 #[.slice (some ⟨g, 0, none⟩) n cap, .int .i64 (lo : Int), .int .i64 ((lo + m : Nat) : Int)] w fun e w' => e = .returned (.tuple #[]) ∧ w'.ownsRow B 3 1 (.slice (some ⟨g, 0, none⟩) n cap) n (irow (P ++ (isort l ++ D0))) ∧ Keeps (fun q => q = g) w w' := by
  have hall : lo + m ≤ n := by
    have h := hown.1
    unfold irow at h
    rw [List.length_map] at h
    simp only [List.length_append] at h
    omega
  have HLO := Lib.hid hlo
  have HR0 : Hid (RR w w B g n cap P D0 l l) := Lib.hid ⟨Keeps.refl _ _, hown, List.Perm.refl _⟩
  have HLEN := Lib.hid hlen
  obtain ⟨hc1, hc2⟩ := hc
  unfold maxLen at hc2
  have es : IntKind.i64.wrap ((lo : Int) + 1) = ((lo + 1 : Nat) : Int) := by rw [IntKind.wrap_i64]; omega
  clear hown hlen hlo
  go_enter Tryd.func47, Tryd.ntmps47
  go_wp2_with fail
  go_loopg [6] (m - 1) (fun k v wr => ∃ i : Nat, ∃ c : List Int, v = .int .i64 ((lo + i : Nat) : Int) ∧ 1 ≤ i ∧ i ≤ m ∧ k = m - i ∧ Hid (RR w wr B g n cap P D0 l c ∧ Rising (c.take i)))
  case atStart => exact ⟨1, l, rfl, Nat.le_refl _, h0, rfl, Lib.hid ⟨HR0.out, by
    rcases l with _ | ⟨a, t⟩
    · exact List.Pairwise.nil
    · exact List.pairwise_singleton _ _⟩⟩
  case round =>
    obtain ⟨i, c, rfl, hi1, hi, hg, HC⟩ := hrel
    by_cases hlt : i < m
    · have hlt' : ((lo + i : Nat) : Int) < ((lo + m : Nat) : Int) := by omega
      have HCL : Hid (c.length = m) := Lib.hid (by rw [HC.out.1.perm.length_eq]; exact HLEN.out)
      obtain ⟨x, hx⟩ : ∃ x, c[i]? = some x := ⟨_, List.getElem?_eq_getElem (by rw [HCL.out]; exact hlt)⟩
      have HX : Hid (c = c.take i ++ x :: ([] ++ c.drop (i + 1)) ∧ (c.take i).length = i) := Lib.hid (by
        have h := HCL.out
        refine ⟨?_, by rw [List.length_take]; omega⟩
        rw [← (List.getElem?_eq_some_iff.1 hx).2, List.nil_append, ← List.drop_eq_getElem_cons, List.take_append_drop])
      clear hx
      obtain ⟨D, hD⟩ : ∃ D, c.drop (i + 1) = D := ⟨_, rfl⟩
      rw [hD] at HX
      clear hD
      go_wp2_with fail
      obtain ⟨wA, rfl⟩ : ∃ W, W = wr := ⟨_, rfl⟩
      go_loopg [7] i (fun k v wr => ∃ A S : List Int, v = .int .i64 ((lo + A.length : Nat) : Int) ∧ A.length ≤ i ∧ k = A.length ∧ Hid (RR w wr B g n cap P D0 l (A ++ x :: (S ++ D)) ∧ Rising (A ++ S) ∧ (∀ b ∈ S, x ≤ b) ∧ (A ++ S).length = i))
      case atStart => exact ⟨c.take i, [], by rw [HX.out.2], by rw [HX.out.2]; exact Nat.le_refl _, HX.out.2.symm, Lib.hid ⟨by rw [← HX.out.1]; exact HC.out.1, by rw [List.append_nil]; exact HC.out.2, by simp, by simp [HX.out.2]⟩⟩
      case round =>
        obtain ⟨A, S, rfl, hA, hg2, HS⟩ := hrel
        rcases List.eq_nil_or_concat A with rfl | ⟨A', a, rfl⟩
        · have HN : Hid (RR w wr B g n cap P D0 l (([] ++ x :: S) ++ D) ∧ Rising ((([] ++ x :: S) ++ D).take (i + 1))) := Lib.hid (by
            obtain ⟨h1, h2, h3, h4⟩ := HS.out
            have e : ([] ++ x :: S).length = i + 1 := by simp at h4; simp [h4]
            rw [List.take_append_of_le_length (by omega), List.take_of_length_le (by omega)]
            exact ⟨h1, rising_put h2 h3 (.inl rfl)⟩)
          rw [show lo + ([] : List Int).length = lo from rfl]
          have hz : decide ((lo : Int) > (lo : Int)) = false := decide_eq_false (by omega)
          go_wp2_with fail
          go_quiet (fail)
          go_wp2_with fail
          go_roundg (m - (i + 1))
          case rel => exact ⟨i + 1, _, by go_num, by omega, by omega, rfl, Lib.hid ⟨⟨HN.out.1.kp.drewN nq, HN.out.1.own, HN.out.1.perm⟩, HN.out.2⟩⟩
          case measure => omega
        · obtain ⟨p, hp⟩ : ∃ p, A'.length = p := ⟨_, rfl⟩
          have hpl : (A'.concat a).length = p + 1 := by simp [hp]
          obtain ⟨J, hJ⟩ : ∃ J, lo + (p + 1) = J := ⟨_, rfl⟩
          obtain ⟨K, hK⟩ : ∃ K, lo + p = K := ⟨_, rfl⟩
          rw [hpl, hJ]
          rw [hpl] at hA
          have hi0 : (0 : Int) ≤ (J : Int) := by omega
          have hgt : (J : Int) > (lo : Int) := by omega
          have hpn : (J : Int) < (n : Int) := by omega
          have HSS : Hid (RR w wr B g n cap P D0 l (A' ++ a :: x :: (S ++ D)) ∧ Rising (A' ++ a :: S) ∧ (∀ b ∈ S, x ≤ b) ∧ A'.length + 1 + S.length = i) := Lib.hid (by
            obtain ⟨h1, h2, h3, h4⟩ := HS.out
            rw [List.concat_eq_append] at h1 h2 h4
            refine ⟨by simpa using h1, by simpa using h2, h3, by simp at h4; omega⟩)
          have cx : wr.cell? ⟨g, J, none⟩ = some (.int .i64 x) := by rw [← hJ]; exact HSS.out.1.cell HLO.out (by rw [List.getElem?_append_right (by omega), hp]; simp)
          have ca : wr.cell? ⟨g, K, none⟩ = some (.int .i64 a) := by rw [← hK]; exact HSS.out.1.cell HLO.out (by rw [List.getElem?_append_right (by omega), hp]; simp)
          have HP := Lib.hid hp
          have hgt2 : decide ((J : Int) > (lo : Int)) = true := decide_eq_true hgt
          have e1 : IntKind.i64.wrap ((J : Int) - 1) = (K : Int) := by rw [IntKind.wrap_i64]; omega
          clear hp hpl
          go_wp2_with fail
          by_cases hxa : x < a
          · have hd : decide (x < a) = true := decide_eq_true hxa
            have HXA := Lib.hid hxa
            clear hxa
            go_quiet ((go_at_call 53; exact Calls.quiet_of_same (less_any _ _ _)))
            have HQ : Hid (RR w (wr.drewN nq) B g n cap P D0 l (A' ++ a :: x :: (S ++ D))) := Lib.hid ⟨HSS.out.1.kp.drewN nq, HSS.out.1.own, HSS.out.1.perm⟩
            generalize wr.drewN nq = w1 at HQ ⊢
            have dx : w1.cell? ⟨g, J, none⟩ = some (.int .i64 x) := by rw [← hJ]; exact HQ.out.cell HLO.out (by rw [List.getElem?_append_right (by have := HP.out; omega), HP.out]; simp)
            have da : w1.cell? ⟨g, K, none⟩ = some (.int .i64 a) := by rw [← hK]; exact HQ.out.cell HLO.out (by rw [List.getElem?_append_right (by have := HP.out; omega), HP.out]; simp)
            have fx := HQ.out.frozen J
            have fa := HQ.out.frozen K
            clear cx ca
            go_wp2_with fail
            go_region
            go_wp2_with fail
            go_roundg p
            case rel => exact ⟨A', a :: S, by rw [HP.out, hK], by have := HP.out; omega, HP.out.symm, Lib.hid ⟨(HQ.out.swap HLO.out (by rw [HP.out]; omega) (by rw [HP.out]; omega)).drewN 1, HSS.out.2.1, fun b hb => by
              rcases List.mem_cons.1 hb with rfl | hb
              · have := HXA.out; omega
              · exact HSS.out.2.2.1 b hb, by have := HSS.out.2.2.2; rw [List.length_append, List.length_cons]; omega⟩⟩
            case measure => rw [hg2, List.length_concat, HP.out]; exact Nat.lt_succ_self p
          · have hd : decide (x < a) = false := decide_eq_false hxa
            have HXA := Lib.hid hxa
            clear hxa
            go_quiet ((go_at_call 53; exact Calls.quiet_of_same (less_any _ _ _)))
            have HN : Hid (RR w (wr.drewN nq) B g n cap P D0 l (((A' ++ [a]) ++ x :: S) ++ D) ∧ Rising ((((A' ++ [a]) ++ x :: S) ++ D).take (i + 1))) := Lib.hid (by
              obtain ⟨h1, h2, h3, h4⟩ := HSS.out
              have e : ((A' ++ [a]) ++ x :: S).length = i + 1 := by simp; omega
              rw [List.take_append_of_le_length (by omega), List.take_of_length_le (by omega)]
              have h1' := h1.drewN nq
              refine ⟨by simpa using h1', rising_put (by simpa using h2) h3 (.inr ⟨A', a, rfl, by have := HXA.out; omega⟩)⟩)
            generalize wr.drewN nq = w1 at HN ⊢
            go_wp2_with fail
            go_roundg (m - (i + 1))
            case rel => exact ⟨i + 1, _, by go_num, by omega, by omega, rfl, HN⟩
            case measure => omega
    · obtain rfl : i = m := by omega
      have hlt' : ¬ ((lo + i : Nat) : Int) < ((lo + i : Nat) : Int) := by omega
      have HE : Hid (c = isort l) := Lib.hid (by
        have h := HC.out
        rw [List.take_of_length_le (by rw [h.1.perm.length_eq, HLEN.out]; exact Nat.le_refl _)] at h
        exact isort_of h.1.perm h.2)
      go_wp2_with fail
      go_returns
      exact ⟨rfl, by rw [← HE.out]; exact HC.out.1.own, HC.out.1.kp⟩
/-- Nothing is sorted. -/
theorem ins0_any (w : World) (a : Option Addr) (n cap lo : Nat) (hlo : lo ≤ 1000000) : Calls Tryd.prog 47 #[.slice a n cap, .int .i64 (lo : Int), .int .i64 (lo : Int)] w fun e w' => e = .returned (.tuple #[]) ∧ w' = w := by
  have e1 : IntKind.i64.wrap ((lo : Int) + 1) = ((lo + 1 : Nat) : Int) := by rw [IntKind.wrap_i64]; omega
  have hlt : ¬ ((lo + 1 : Nat) : Int) < (lo : Int) := by omega
  have hd : decide (((lo + 1 : Nat) : Int) < (lo : Int)) = false := decide_eq_false hlt
  go_enter Tryd.func47, Tryd.ntmps47
  go_wp2_with fail
  go_loopg [6] 0 (fun k v wr => v = .int .i64 ((lo + 1 : Nat) : Int) ∧ wr = w)
  case atStart => exact ⟨rfl, rfl⟩
  case round =>
    obtain ⟨rfl, rfl⟩ := hrel
    go_wp2_with fail
    go_returns
    exact ⟨rfl, rfl⟩
end Go.Proofs.YtkiimljdoebclaaDoor
/- Partition of a row round a pivot. -/
namespace Go.Proofs.YtkiimljdoebclaaDoor
open Go.RowKit
set_option linter.unusedVariables false
set_option linter.unusedSimpArgs false

theorem RS.swapAt {w0 w : World} {B g n cap : Nat} {l c : List Int} {p q : Nat} {x y : Int} (h : RS w0 w B g n cap l c) (hp : c[p]? = some x) (hq : c[q]? = some y) :
    RS w0 ((w.setCell ⟨g, p, none⟩ (.int .i64 y)).setCell ⟨g, q, none⟩ (.int .i64 x)) B g n cap l ((c.set p y).set q x) := by
  obtain ⟨hp1, hp2⟩ := List.getElem?_eq_some_iff.1 hp
  obtain ⟨hq1, hq2⟩ := List.getElem?_eq_some_iff.1 hq
  refine ⟨(h.kp.setCell (.inl rfl) _).setCell (.inl rfl) _, ?_, ?_⟩
  · have e := (World.ownsRow.stored (World.ownsRow.stored h.own p (.int .i64 y)).1 q (.int .i64 x)).1
    have e2 : ((irow c).set p (.int .i64 y)).set q (.int .i64 x) = irow ((c.set p y).set q x) := by
      unfold irow
      rw [List.map_set, List.map_set]
    rw [e2] at e
    exact e
  · have e := List.set_set_perm hp1 hq1
    rw [hp2, hq2] at e
    exact e.trans h.perm
/-- What lies ahead of i is less than the pivot, what lies behind j is not. -/
structure PI (n : Nat) (p : Int) (c : List Int) (i j : Nat) : Prop where
  len : c.length = n
  head : c[0]? = some p
  i1 : 1 ≤ i
  ij : i ≤ j + 1
  jn : j < n
  lo : ∀ t z, 1 ≤ t → t < i → c[t]? = some z → z < p
  hi : ∀ t z, j < t → c[t]? = some z → p ≤ z
theorem PI.start {n : Nat} {p : Int} {c : List Int} (hl : c.length = n) (h0 : 0 < n) (hp : c[0]? = some p) : PI n p c 1 (n - 1) :=
  ⟨hl, hp, Nat.le_refl _, by omega, by omega, fun t z h1 h2 _ => by omega, fun t z h1 h2 => by
    have := (List.getElem?_eq_some_iff.1 h2).1; omega⟩
theorem PI.up {n i j : Nat} {p x : Int} {c : List Int} (h : PI n p c i j) (hij : i ≤ j) (hx : c[i]? = some x) (hxp : x < p) : PI n p c (i + 1) j :=
  ⟨h.len, h.head, by omega, by omega, h.jn, fun t z h1 h2 h3 => by
    by_cases e : t = i
    · subst e; rw [hx] at h3; cases h3; exact hxp
    · exact h.lo t z h1 (by omega) h3, h.hi⟩
theorem PI.down {n i j : Nat} {p y : Int} {c : List Int} (h : PI n p c i j) (hij : i ≤ j) (hy : c[j]? = some y) (hyp : p ≤ y) : PI n p c i (j - 1) :=
  ⟨h.len, h.head, h.i1, by omega, by have := h.jn; omega, h.lo, fun t z h1 h3 => by
    by_cases e : t = j
    · subst e; rw [hy] at h3; cases h3; omega
    · exact h.hi t z (by omega) h3⟩
theorem PI.lt {i j : Nat} {p x y : Int} {c : List Int} (hij : i ≤ j) (hx : c[i]? = some x) (hxp : p ≤ x) (hy : c[j]? = some y) (hyp : y < p) : i < j := by
  by_cases e : i = j
  · subst e; rw [hx] at hy; cases hy; exact absurd hyp (by omega)
  · omega
theorem PI.swap {n i j : Nat} {p x y : Int} {c : List Int} (h : PI n p c i j) (hij : i ≤ j) (hx : c[i]? = some x) (hxp : p ≤ x) (hy : c[j]? = some y) (hyp : y < p) : PI n p ((c.set i y).set j x) (i + 1) (j - 1) := by
  have hlt := PI.lt hij hx hxp hy hyp
  have hi1 := h.i1
  have hjn := h.jn
  have hlen := h.len
  refine ⟨by rw [List.length_set, List.length_set]; exact h.len, ?_, by omega, by omega, by omega, fun t z h1 h2 h3 => ?_, fun t z h1 h3 => ?_⟩
  · rw [List.getElem?_set_ne (by omega), List.getElem?_set_ne (by omega)]; exact h.head
  · rw [List.getElem?_set_ne (by omega)] at h3
    by_cases e : t = i
    · subst e; rw [List.getElem?_set_self (by omega)] at h3; cases h3; exact hyp
    · rw [List.getElem?_set_ne (by omega)] at h3; exact h.lo t z h1 (by omega) h3
  · by_cases e : t = j
    · subst e; rw [List.getElem?_set_self (by rw [List.length_set]; omega)] at h3; cases h3; omega
    · rw [List.getElem?_set_ne (by omega), List.getElem?_set_ne (by omega)] at h3; exact h.hi t z (by omega) h3
theorem PI.fin {n i j : Nat} {p y : Int} {c : List Int} (h : PI n p c i j) (hij : j < i) (hy : c[j]? = some y) :
    ∃ L R, (c.set j p).set 0 y = L ++ p :: R ∧ L.length = j ∧ (∀ z ∈ L, z ≤ p) ∧ (∀ z ∈ R, p ≤ z) := by
  have hjn := h.jn
  have hlen := h.len
  obtain ⟨d, hd⟩ : ∃ d, (c.set j p).set 0 y = d := ⟨_, rfl⟩
  have hdl : d.length = n := by rw [← hd, List.length_set, List.length_set]; exact hlen
  have hdj : d[j]? = some p := by
    rw [← hd]
    by_cases e : j = 0
    · subst e
      rw [h.head] at hy; cases hy
      rw [List.getElem?_set_self (by rw [List.length_set]; omega)]
    · rw [List.getElem?_set_ne (by omega), List.getElem?_set_self (by omega)]
  rw [hd]
  refine ⟨d.take j, d.drop (j + 1), ?_, by rw [List.length_take]; omega, fun z hz => ?_, fun z hz => ?_⟩
  · have hjd : j < d.length := by omega
    rw [← (List.getElem?_eq_some_iff.1 hdj).2, ← List.drop_eq_getElem_cons, List.take_append_drop]
  · obtain ⟨t, ht⟩ := List.mem_iff_getElem?.1 hz
    have htj : t < j := by
      have := (List.getElem?_eq_some_iff.1 ht).1
      rw [List.length_take] at this; omega
    rw [List.getElem?_take_of_lt htj, ← hd] at ht
    by_cases e : t = 0
    · subst e
      rw [List.getElem?_set_self (by rw [List.length_set]; omega)] at ht
      cases ht
      have := h.lo j y (by omega) hij hy
      omega
    · rw [List.getElem?_set_ne (by omega), List.getElem?_set_ne (by omega)] at ht
      have := h.lo t z (by omega) (by omega) ht
      omega
  · obtain ⟨t, ht⟩ := List.mem_iff_getElem?.1 hz
    rw [List.getElem?_drop, ← hd, List.getElem?_set_ne (by omega), List.getElem?_set_ne (by omega)] at ht
    exact h.hi _ z (by omega) ht
set_option maxRecDepth 100000 in
set_option maxHeartbeats 25600000 in
theorem part_any (w : World) (B g n cap r : Nat) (l : List Int) (h0 : 0 < n) (hr : r < n) (hn : n ≤ 1000000) (hc : n ≤ cap ∧ cap ≤ maxLen) (hown : w.ownsRow B 3 1 (.slice (some ⟨g, 0, none⟩) n cap) n (irow l)) :
    Calls Tryd.prog 55 #[.slice (some ⟨g, 0, none⟩) n cap, .int .i64 0, .int .i64 (n : Int), .int .i64 (r : Int)] w fun e w' => ∃ (m : Nat) (b : Bool) (L R : List Int) (p : Int), e = .returned (.tuple #[.int .i64 (m : Int), .bool b]) ∧ L.length = m ∧ (L ++ p :: R).Perm l ∧ (∀ z ∈ L, z ≤ p) ∧ (∀ z ∈ R, p ≤ z) ∧ w'.ownsRow B 3 1 (.slice (some ⟨g, 0, none⟩) n cap) n (irow (L ++ p :: R)) ∧ Keeps (fun q => q = g) w w' := by
  have hlen : l.length = n := by have := hown.1; unfold irow at this; rw [List.length_map] at this; omega
  obtain ⟨p, hp⟩ : ∃ p, l[r]? = some p := ⟨_, List.getElem?_eq_getElem (by omega)⟩
  obtain ⟨x0, hx0⟩ : ∃ p, l[0]? = some p := ⟨_, List.getElem?_eq_getElem (by omega)⟩
  have HR0 : Hid (RS w w B g n cap l l) := Lib.hid ⟨Keeps.refl _ _, hown, List.Perm.refl _⟩
  have HPI : Hid (∀ wx, RS w wx B g n cap l ((l.set 0 p).set r x0) → ∃ c, RS w wx B g n cap l c ∧ PI n p c 1 (n - 1)) := Lib.hid (fun wx h => ⟨_, h, by
    refine PI.start (by rw [List.length_set, List.length_set]; exact hlen) h0 ?_
    by_cases e : r = 0
    · subst e; rw [hx0] at hp; cases hp; rw [List.getElem?_set_self (by rw [List.length_set]; omega)]
    · rw [List.getElem?_set_ne (by omega), List.getElem?_set_self (by omega)]⟩)
  have HL := Lib.hid hlen
  have HX := Lib.hid (And.intro hp hx0)
  clear hp hx0 hown hlen
  obtain ⟨hc1, hc2⟩ := hc
  unfold maxLen at hc2
  have hr0 : (0 : Int) ≤ (r : Int) := by omega
  have hrn : (r : Int) < (n : Int) := by omega
  have h0n : (0 : Int) < (n : Int) := by omega
  have en : IntKind.i64.wrap ((n : Int) - 1) = ((n - 1 : Nat) : Int) := by rw [IntKind.wrap_i64]; omega
  obtain ⟨J0, hJ0⟩ : ∃ J0, n - 1 = J0 := ⟨_, rfl⟩
  rw [hJ0] at en HPI
  go_enter Tryd.func55, Tryd.ntmps55
  go_upto_region 1 with fail
  go_cut [] (fun wx => ∃ c, Hid (RS w wx B g n cap l c ∧ PI n p c 1 J0))
  case first =>
    by_cases hrr : r = 0
    · subst hrr
      have cx : w.cell? ⟨g, 0, none⟩ = some (.int .i64 x0) := HR0.out.cell HX.out.2 h0
      have fx := HR0.out.frozen 0
      have hpx : p = x0 := by have := HX.out; rw [this.2] at this; exact (Option.some.inj this.1).symm
      have HS := Lib.hid (HPI.out _ (HR0.out.swapAt HX.out.2 HX.out.1))
      clear hr0 hrn hr
      go_region
      go_wp2_with fail
      go_meet
      obtain ⟨c, h1, h2⟩ := HS.out
      rw [hpx] at h1
      exact ⟨c, Lib.hid ⟨h1.drewN 1, h2⟩⟩
    · have cx : w.cell? ⟨g, 0, none⟩ = some (.int .i64 x0) := HR0.out.cell HX.out.2 h0
      have cp : w.cell? ⟨g, r, none⟩ = some (.int .i64 p) := HR0.out.cell HX.out.1 hr
      have fx := HR0.out.frozen 0
      have fp := HR0.out.frozen r
      have HS := Lib.hid (HPI.out _ (HR0.out.swapAt HX.out.2 HX.out.1))
      go_region
      go_wp2_with fail
      go_meet
      obtain ⟨c, h1, h2⟩ := HS.out
      exact ⟨c, Lib.hid ⟨h1.drewN 1, h2⟩⟩
  case rest =>
    obtain ⟨c, HC⟩ := hcut
    clear HR0 HPI HL HX hr hr0 hrn
    go_wp2_with fail
    go_loopg [10] (n - 1) (fun k v wr => ∃ i : Nat, v = .int .i64 (i : Int) ∧ k = n - i ∧ 1 ≤ i ∧ 1 ≤ i ∧ i ≤ J0 + 1 ∧ Hid (RS w wr B g n cap l c ∧ PI n p c i J0))
    case atStart => exact ⟨1, rfl, rfl, Nat.le_refl _, Nat.le_refl _, by omega, HC⟩
    case round =>
      obtain ⟨i, rfl, hg, hi1, hi10, hij1, H1⟩ := hrel
      have hi0 : (0 : Int) ≤ (i : Int) := by omega
      have c0 : wr.cell? ⟨g, 0, none⟩ = some (.int .i64 p) := H1.out.1.cell H1.out.2.head h0
      have HJN : Hid (J0 < n ∧ c.length = n) := Lib.hid ⟨H1.out.2.jn, H1.out.2.len⟩
      go_upto_region 3 with fail
      go_cut [43] (fun v wx => ∃ b : Bool, v = .bool b ∧ Hid (RS w wx B g n cap l c ∧ (b = true → i ≤ J0 ∧ PI n p c (i + 1) J0) ∧ (b = false → J0 < i ∨ ∃ x, c[i]? = some x ∧ p ≤ x)))
      case first =>
        by_cases hij : i ≤ J0
        · have hin : (i : Int) < (n : Int) := by have := HJN.out.1; omega
          have hle : (i : Int) ≤ (J0 : Int) := by omega
          have hd1 : decide ((i : Int) ≤ (J0 : Int)) = true := decide_eq_true hle
          obtain ⟨x, hx⟩ : ∃ x, c[i]? = some x := ⟨_, List.getElem?_eq_getElem (by have := HJN.out; omega)⟩
          have ci : wr.cell? ⟨g, i, none⟩ = some (.int .i64 x) := H1.out.1.cell hx (by have := HJN.out.1; omega)
          have HX := Lib.hid hx
          clear hx
          by_cases hxp : x < p
          · have hd : decide (x < p) = true := decide_eq_true hxp
            have HXP := Lib.hid hxp
            clear hxp
            go_quiet ((go_at_call 53; exact Calls.quiet_of_same (less_any _ _ _)))
            go_wp2_with fail
            go_meet
            exact ⟨true, rfl, Lib.hid ⟨H1.out.1.drewN nq, fun _ => ⟨hij, H1.out.2.up hij HX.out HXP.out⟩, fun e => by cases e⟩⟩
          · have hd : decide (x < p) = false := decide_eq_false hxp
            have HXP : Hid (p ≤ x) := Lib.hid (by omega)
            clear hxp
            go_quiet ((go_at_call 53; exact Calls.quiet_of_same (less_any _ _ _)))
            go_wp2_with fail
            go_meet
            exact ⟨false, rfl, Lib.hid ⟨H1.out.1.drewN nq, (fun e => by cases e), fun _ => .inr ⟨x, HX.out, HXP.out⟩⟩⟩
        · have hle : ¬ (i : Int) ≤ (J0 : Int) := by omega
          have hd1 : decide ((i : Int) ≤ (J0 : Int)) = false := decide_eq_false hle
          go_quiet (fail)
          go_wp2_with fail
          go_meet
          exact ⟨false, rfl, Lib.hid ⟨H1.out.1.drewN nq, (fun e => by cases e), fun _ => .inl (by omega)⟩⟩
      case rest =>
        obtain ⟨b, rfl, H2⟩ := hcut
        clear c0
        cases b with
        | true =>
          obtain ⟨i1, hi2⟩ : ∃ i1, i + 1 = i1 := ⟨_, rfl⟩
          have H3 : Hid (RS w wc B g n cap l c ∧ PI n p c i1 J0) := Lib.hid ⟨H2.out.1, by rw [← hi2]; exact (H2.out.2.1 rfl).2⟩
          have hij : i ≤ J0 := (H2.out.2.1 rfl).1
          have e1 : IntKind.i64.wrap ((i : Int) + 1) = (i1 : Int) := by have := HJN.out.1; rw [IntKind.wrap_i64]; omega
          clear H1 H2
          go_wp2_with fail
          go_roundg (n - i1)
          case rel => exact ⟨i1, rfl, rfl, by omega, by omega, by omega, H3⟩
          case measure => have := HJN.out.1; omega
        | false =>
          have HW : Hid (RS w wc B g n cap l c ∧ PI n p c i J0 ∧ (J0 < i ∨ ∃ x, c[i]? = some x ∧ p ≤ x)) := Lib.hid ⟨H2.out.1, H1.out.2, H2.out.2.2 rfl⟩
          clear H1 H2 hg
          obtain ⟨wA1, rfl⟩ : ∃ W, W = wc := ⟨_, rfl⟩
          go_wp2_with fail
          go_loopg [11] J0 (fun k v wr => ∃ j : Nat, v = .int .i64 (j : Int) ∧ k = j ∧ i ≤ j + 1 ∧ j ≤ J0 ∧ Hid (RS w wr B g n cap l c ∧ PI n p c i j ∧ (j < i ∨ ∃ x, c[i]? = some x ∧ p ≤ x)))
          case atStart => exact ⟨J0, rfl, rfl, hij1, Nat.le_refl _, HW⟩
          case round =>
            obtain ⟨j, rfl, hg, hij2, hjj, H1⟩ := hrel
            have hj0 : (0 : Int) ≤ (j : Int) := by omega
            have c0 : wr.cell? ⟨g, 0, none⟩ = some (.int .i64 p) := H1.out.1.cell H1.out.2.1.head h0
            have HJM : Hid (j < n ∧ c.length = n) := Lib.hid ⟨H1.out.2.1.jn, H1.out.2.1.len⟩
            go_upto_region 5 with fail
            go_cut [60] (fun v wx => ∃ b : Bool, v = .bool b ∧ Hid (RS w wx B g n cap l c ∧ (b = true → i ≤ j ∧ PI n p c i (j - 1)) ∧ (b = false → j < i ∨ ∃ y, c[j]? = some y ∧ y < p)))
            case first =>
              by_cases hij : i ≤ j
              · have hjn : (j : Int) < (n : Int) := by have := HJM.out.1; omega
                have hle : (i : Int) ≤ (j : Int) := by omega
                have hd1 : decide ((i : Int) ≤ (j : Int)) = true := decide_eq_true hle
                obtain ⟨x, hx⟩ : ∃ x, c[j]? = some x := ⟨_, List.getElem?_eq_getElem (by have := HJM.out; omega)⟩
                have cj : wr.cell? ⟨g, j, none⟩ = some (.int .i64 x) := H1.out.1.cell hx HJM.out.1
                have HX := Lib.hid hx
                clear hx
                by_cases hxp : x < p
                · have hd : decide (x < p) = true := decide_eq_true hxp
                  have HXP := Lib.hid hxp
                  clear hxp
                  go_quiet ((go_at_call 53; exact Calls.quiet_of_same (less_any _ _ _)))
                  go_wp2_with fail
                  go_meet
                  exact ⟨false, rfl, Lib.hid ⟨H1.out.1.drewN nq, (fun e => by cases e), fun _ => .inr ⟨x, HX.out, HXP.out⟩⟩⟩
                · have hd : decide (x < p) = false := decide_eq_false hxp
                  have HXP : Hid (p ≤ x) := Lib.hid (by omega)
                  clear hxp
                  go_quiet ((go_at_call 53; exact Calls.quiet_of_same (less_any _ _ _)))
                  go_wp2_with fail
                  go_meet
                  exact ⟨true, rfl, Lib.hid ⟨H1.out.1.drewN nq, fun _ => ⟨hij, H1.out.2.1.down hij HX.out HXP.out⟩, fun e => by cases e⟩⟩
              · have hle : ¬ (i : Int) ≤ (j : Int) := by omega
                have hd1 : decide ((i : Int) ≤ (j : Int)) = false := decide_eq_false hle
                go_quiet (fail)
                go_wp2_with fail
                go_meet
                exact ⟨false, rfl, Lib.hid ⟨H1.out.1.drewN nq, (fun e => by cases e), fun _ => .inl (by omega)⟩⟩
            case rest =>
              obtain ⟨b, rfl, H2⟩ := hcut
              clear c0
              cases b with
              | true =>
                obtain ⟨j1, hj2⟩ : ∃ j1, j - 1 = j1 := ⟨_, rfl⟩
                have hij : i ≤ j := (H2.out.2.1 rfl).1
                have H3 : Hid (RS w wc B g n cap l c ∧ PI n p c i j1 ∧ (j1 < i ∨ ∃ x, c[i]? = some x ∧ p ≤ x)) := Lib.hid ⟨H2.out.1, by rw [← hj2]; exact (H2.out.2.1 rfl).2, H1.out.2.2.imp (fun e => by omega) id⟩
                have e1 : IntKind.i64.wrap ((j : Int) - 1) = (j1 : Int) := by have := HJM.out.1; rw [IntKind.wrap_i64]; omega
                clear H1 H2
                go_wp2_with fail
                go_roundg j1
                case rel => exact ⟨j1, rfl, rfl, by omega, by omega, H3⟩
                case measure => omega
              | false =>
                have HV : Hid (RS w wc B g n cap l c ∧ PI n p c i j ∧ (j < i ∨ (∃ x, c[i]? = some x ∧ p ≤ x) ∧ ∃ y, c[j]? = some y ∧ y < p)) := Lib.hid ⟨H2.out.1, H1.out.2.1, by
                  rcases H1.out.2.2 with e | e
                  · exact .inl e
                  · rcases H2.out.2.2 rfl with e2 | e2
                    · exact .inl e2
                    · exact .inr ⟨e, e2⟩⟩
                clear H1 H2 hg HW
                obtain ⟨wA2, rfl⟩ : ∃ W, W = wc := ⟨_, rfl⟩
                by_cases hgt : j < i
                · have hgt' : (i : Int) > (j : Int) := by omega
                  have hgd : decide ((i : Int) > (j : Int)) = true := decide_eq_true hgt'
                  go_wp2_with fail
                  obtain ⟨y, hy⟩ : ∃ y, c[j]? = some y := ⟨_, List.getElem?_eq_getElem (by have := HJM.out; omega)⟩
                  have HY := Lib.hid hy
                  clear hy
                  have c0 : wA2.cell? ⟨g, 0, none⟩ = some (.int .i64 p) := HV.out.1.cell HV.out.2.1.head h0
                  have f0 := HV.out.1.frozen 0
                  have hjn : (j : Int) < (n : Int) := by have := HJM.out.1; omega
                  have HE : Hid (∃ (L R : List Int) (p' : Int), L.length = j ∧ (L ++ p' :: R).Perm l ∧ (∀ z ∈ L, z ≤ p') ∧ (∀ z ∈ R, p' ≤ z) ∧ (((wA2.setCell ⟨g, j, none⟩ (.int .i64 p)).setCell ⟨g, 0, none⟩ (.int .i64 y)).drewN 1).ownsRow B 3 1 (.slice (some ⟨g, 0, none⟩) n cap) n (irow (L ++ p' :: R)) ∧ Keeps (fun q => q = g) w (((wA2.setCell ⟨g, j, none⟩ (.int .i64 p)).setCell ⟨g, 0, none⟩ (.int .i64 y)).drewN 1)) := Lib.hid (by
                    have h := (HV.out.1.swapAt HY.out HV.out.2.1.head).drewN 1
                    obtain ⟨L, R, e, h1, h2, h3⟩ := HV.out.2.1.fin hgt HY.out
                    rw [e] at h
                    exact ⟨L, R, p, h1, h.perm, h2, h3, h.own, h.kp⟩)
                  by_cases hjz : j = 0
                  · subst hjz
                    have hpy : y = p := by
                      have h1 := HV.out.2.1.head
                      rw [HY.out] at h1
                      exact Option.some.inj h1
                    subst hpy
                    clear hj0
                    go_region
                    go_wp2_with fail
                    go_returns
                    obtain ⟨L, R, p', h1, h2, h3, h4, h5, h6⟩ := HE.out
                    exact ⟨0, true, L, R, p', rfl, h1, h2, h3, h4, h5, h6⟩
                  · have cj : wA2.cell? ⟨g, j, none⟩ = some (.int .i64 y) := HV.out.1.cell HY.out HJM.out.1
                    have fj := HV.out.1.frozen j
                    go_region
                    go_wp2_with fail
                    go_returns
                    obtain ⟨L, R, p', h1, h2, h3, h4, h5, h6⟩ := HE.out
                    exact ⟨j, true, L, R, p', rfl, h1, h2, h3, h4, h5, h6⟩
                · have hgt' : ¬ (i : Int) > (j : Int) := by omega
                  have hgd : decide ((i : Int) > (j : Int)) = false := decide_eq_false hgt'
                  have hgt2 : ¬ (j : Int) < (i : Int) := by omega
                  have hgd2 : decide ((j : Int) < (i : Int)) = false := decide_eq_false hgt2
                  go_wp2_with fail
                  obtain ⟨x, y, hx, hxp, hy, hyp⟩ : ∃ x y, c[i]? = some x ∧ p ≤ x ∧ c[j]? = some y ∧ y < p := by
                    rcases HV.out.2.2 with e | ⟨⟨x, h1, h2⟩, y, h3, h4⟩
                    · exact absurd e hgt
                    · exact ⟨x, y, h1, h2, h3, h4⟩
                  have hijl : i < j := PI.lt (by omega) hx hxp hy hyp
                  obtain ⟨i2, hi2⟩ : ∃ k, i + 1 = k := ⟨_, rfl⟩
                  obtain ⟨j2, hj2⟩ : ∃ k, j - 1 = k := ⟨_, rfl⟩
                  have HS2 : Hid (RS w (((wA2.setCell ⟨g, i, none⟩ (.int .i64 y)).setCell ⟨g, j, none⟩ (.int .i64 x)).drewN 1) B g n cap l ((c.set i y).set j x) ∧ PI n p ((c.set i y).set j x) i2 j2) := Lib.hid ⟨(HV.out.1.swapAt hx hy).drewN 1, by rw [← hi2, ← hj2]; exact HV.out.2.1.swap (by omega) hx hxp hy hyp⟩
                  have cx : wA2.cell? ⟨g, i, none⟩ = some (.int .i64 x) := HV.out.1.cell hx (by have := HJM.out.1; omega)
                  have cy : wA2.cell? ⟨g, j, none⟩ = some (.int .i64 y) := HV.out.1.cell hy HJM.out.1
                  have fx := HV.out.1.frozen i
                  have fy := HV.out.1.frozen j
                  have hin : (i : Int) < (n : Int) := by have := HJM.out.1; omega
                  have hjn : (j : Int) < (n : Int) := by have := HJM.out.1; omega
                  have e1 : IntKind.i64.wrap ((i : Int) + 1) = (i2 : Int) := by have := HJM.out.1; rw [IntKind.wrap_i64]; omega
                  have e2 : IntKind.i64.wrap ((j : Int) - 1) = (j2 : Int) := by have := HJM.out.1; rw [IntKind.wrap_i64]; omega
                  obtain ⟨c2, hc2e⟩ : ∃ c2, (c.set i y).set j x = c2 := ⟨_, rfl⟩
                  rw [hc2e] at HS2
                  clear hc2e hx hxp hy hyp HV
                  go_region
                  go_wp2_with fail
                  go_loopg [10, 11] (j2 + 1 - i2) (fun k u v wr => ∃ (i j : Nat) (c : List Int), u = .int .i64 (i : Int) ∧ v = .int .i64 (j : Int) ∧ k = j + 1 - i ∧ 1 ≤ i ∧ i ≤ j + 1 ∧ Hid (RS w wr B g n cap l c ∧ PI n p c i j))
                  case atStart => exact ⟨i2, j2, c2, rfl, rfl, rfl, by omega, by omega, HS2⟩
                  case round =>
                    obtain ⟨i3, j3, c3, rfl, rfl, hg3, hi31, hij3, H3⟩ := hrel
                    go_wp2_with fail
                    go_loopg [10] (n - i3) (fun k v wr => ∃ i : Nat, v = .int .i64 (i : Int) ∧ k = n - i ∧ 1 ≤ i ∧ i3 ≤ i ∧ i ≤ j3 + 1 ∧ Hid (RS w wr B g n cap l c3 ∧ PI n p c3 i j3))
                    case atStart => exact ⟨i3, rfl, rfl, hi31, Nat.le_refl _, hij3, H3⟩
                    case round =>
                      obtain ⟨i, rfl, hg, hi1, hi10, hij1, H1⟩ := hrel
                      have hi0 : (0 : Int) ≤ (i : Int) := by omega
                      have c0 : wr.cell? ⟨g, 0, none⟩ = some (.int .i64 p) := H1.out.1.cell H1.out.2.head h0
                      have HJN : Hid (j3 < n ∧ c3.length = n) := Lib.hid ⟨H1.out.2.jn, H1.out.2.len⟩
                      go_upto_region 13 with fail
                      go_cut [112] (fun v wx => ∃ b : Bool, v = .bool b ∧ Hid (RS w wx B g n cap l c3 ∧ (b = true → i ≤ j3 ∧ PI n p c3 (i + 1) j3) ∧ (b = false → j3 < i ∨ ∃ x, c3[i]? = some x ∧ p ≤ x)))
                      case first =>
                        by_cases hij : i ≤ j3
                        · have hin : (i : Int) < (n : Int) := by have := HJN.out.1; omega
                          have hle : (i : Int) ≤ (j3 : Int) := by omega
                          have hd1 : decide ((i : Int) ≤ (j3 : Int)) = true := decide_eq_true hle
                          obtain ⟨x, hx⟩ : ∃ x, c3[i]? = some x := ⟨_, List.getElem?_eq_getElem (by have := HJN.out; omega)⟩
                          have ci : wr.cell? ⟨g, i, none⟩ = some (.int .i64 x) := H1.out.1.cell hx (by have := HJN.out.1; omega)
                          have HX := Lib.hid hx
                          clear hx
                          by_cases hxp : x < p
                          · have hd : decide (x < p) = true := decide_eq_true hxp
                            have HXP := Lib.hid hxp
                            clear hxp
                            go_quiet ((go_at_call 53; exact Calls.quiet_of_same (less_any _ _ _)))
                            go_wp2_with fail
                            go_meet
                            exact ⟨true, rfl, Lib.hid ⟨H1.out.1.drewN nq, fun _ => ⟨hij, H1.out.2.up hij HX.out HXP.out⟩, fun e => by cases e⟩⟩
                          · have hd : decide (x < p) = false := decide_eq_false hxp
                            have HXP : Hid (p ≤ x) := Lib.hid (by omega)
                            clear hxp
                            go_quiet ((go_at_call 53; exact Calls.quiet_of_same (less_any _ _ _)))
                            go_wp2_with fail
                            go_meet
                            exact ⟨false, rfl, Lib.hid ⟨H1.out.1.drewN nq, (fun e => by cases e), fun _ => .inr ⟨x, HX.out, HXP.out⟩⟩⟩
                        · have hle : ¬ (i : Int) ≤ (j3 : Int) := by omega
                          have hd1 : decide ((i : Int) ≤ (j3 : Int)) = false := decide_eq_false hle
                          go_quiet (fail)
                          go_wp2_with fail
                          go_meet
                          exact ⟨false, rfl, Lib.hid ⟨H1.out.1.drewN nq, (fun e => by cases e), fun _ => .inl (by omega)⟩⟩
                      case rest =>
                        obtain ⟨b, rfl, H2⟩ := hcut
                        clear c0
                        cases b with
                        | true =>
                          obtain ⟨i1, hi2⟩ : ∃ i1, i + 1 = i1 := ⟨_, rfl⟩
                          have H3 : Hid (RS w wc B g n cap l c3 ∧ PI n p c3 i1 j3) := Lib.hid ⟨H2.out.1, by rw [← hi2]; exact (H2.out.2.1 rfl).2⟩
                          have hij : i ≤ j3 := (H2.out.2.1 rfl).1
                          have e1 : IntKind.i64.wrap ((i : Int) + 1) = (i1 : Int) := by have := HJN.out.1; rw [IntKind.wrap_i64]; omega
                          clear H1 H2
                          go_wp2_with fail
                          go_roundg (n - i1)
                          case rel => exact ⟨i1, rfl, rfl, by omega, by omega, by omega, H3⟩
                          case measure => have := HJN.out.1; omega
                        | false =>
                          have HW : Hid (RS w wc B g n cap l c3 ∧ PI n p c3 i j3 ∧ (j3 < i ∨ ∃ x, c3[i]? = some x ∧ p ≤ x)) := Lib.hid ⟨H2.out.1, H1.out.2, H2.out.2.2 rfl⟩
                          clear H1 H2 hg
                          obtain ⟨wD1, rfl⟩ : ∃ W, W = wc := ⟨_, rfl⟩
                          go_wp2_with fail
                          go_loopg [11] j3 (fun k v wr => ∃ j : Nat, v = .int .i64 (j : Int) ∧ k = j ∧ i ≤ j + 1 ∧ j ≤ j3 ∧ Hid (RS w wr B g n cap l c3 ∧ PI n p c3 i j ∧ (j < i ∨ ∃ x, c3[i]? = some x ∧ p ≤ x)))
                          case atStart => exact ⟨j3, rfl, rfl, hij1, Nat.le_refl _, HW⟩
                          case round =>
                            obtain ⟨j, rfl, hg, hij2, hjj, H1⟩ := hrel
                            have hj0 : (0 : Int) ≤ (j : Int) := by omega
                            have c0 : wr.cell? ⟨g, 0, none⟩ = some (.int .i64 p) := H1.out.1.cell H1.out.2.1.head h0
                            have HJM : Hid (j < n ∧ c3.length = n) := Lib.hid ⟨H1.out.2.1.jn, H1.out.2.1.len⟩
                            go_upto_region 15 with fail
                            go_cut [129] (fun v wx => ∃ b : Bool, v = .bool b ∧ Hid (RS w wx B g n cap l c3 ∧ (b = true → i ≤ j ∧ PI n p c3 i (j - 1)) ∧ (b = false → j < i ∨ ∃ y, c3[j]? = some y ∧ y < p)))
                            case first =>
                              by_cases hij : i ≤ j
                              · have hjn : (j : Int) < (n : Int) := by have := HJM.out.1; omega
                                have hle : (i : Int) ≤ (j : Int) := by omega
                                have hd1 : decide ((i : Int) ≤ (j : Int)) = true := decide_eq_true hle
                                obtain ⟨x, hx⟩ : ∃ x, c3[j]? = some x := ⟨_, List.getElem?_eq_getElem (by have := HJM.out; omega)⟩
                                have cj : wr.cell? ⟨g, j, none⟩ = some (.int .i64 x) := H1.out.1.cell hx HJM.out.1
                                have HX := Lib.hid hx
                                clear hx
                                by_cases hxp : x < p
                                · have hd : decide (x < p) = true := decide_eq_true hxp
                                  have HXP := Lib.hid hxp
                                  clear hxp
                                  go_quiet ((go_at_call 53; exact Calls.quiet_of_same (less_any _ _ _)))
                                  go_wp2_with fail
                                  go_meet
                                  exact ⟨false, rfl, Lib.hid ⟨H1.out.1.drewN nq, (fun e => by cases e), fun _ => .inr ⟨x, HX.out, HXP.out⟩⟩⟩
                                · have hd : decide (x < p) = false := decide_eq_false hxp
                                  have HXP : Hid (p ≤ x) := Lib.hid (by omega)
                                  clear hxp
                                  go_quiet ((go_at_call 53; exact Calls.quiet_of_same (less_any _ _ _)))
                                  go_wp2_with fail
                                  go_meet
                                  exact ⟨true, rfl, Lib.hid ⟨H1.out.1.drewN nq, fun _ => ⟨hij, H1.out.2.1.down hij HX.out HXP.out⟩, fun e => by cases e⟩⟩
                              · have hle : ¬ (i : Int) ≤ (j : Int) := by omega
                                have hd1 : decide ((i : Int) ≤ (j : Int)) = false := decide_eq_false hle
                                go_quiet (fail)
                                go_wp2_with fail
                                go_meet
                                exact ⟨false, rfl, Lib.hid ⟨H1.out.1.drewN nq, (fun e => by cases e), fun _ => .inl (by omega)⟩⟩
                            case rest =>
                              obtain ⟨b, rfl, H2⟩ := hcut
                              clear c0
                              cases b with
                              | true =>
                                obtain ⟨j1, hj2⟩ : ∃ j1, j - 1 = j1 := ⟨_, rfl⟩
                                have hij : i ≤ j := (H2.out.2.1 rfl).1
                                have H3 : Hid (RS w wc B g n cap l c3 ∧ PI n p c3 i j1 ∧ (j1 < i ∨ ∃ x, c3[i]? = some x ∧ p ≤ x)) := Lib.hid ⟨H2.out.1, by rw [← hj2]; exact (H2.out.2.1 rfl).2, H1.out.2.2.imp (fun e => by omega) id⟩
                                have e1 : IntKind.i64.wrap ((j : Int) - 1) = (j1 : Int) := by have := HJM.out.1; rw [IntKind.wrap_i64]; omega
                                clear H1 H2
                                go_wp2_with fail
                                go_roundg j1
                                case rel => exact ⟨j1, rfl, rfl, by omega, by omega, H3⟩
                                case measure => omega
                              | false =>
                                have HV : Hid (RS w wc B g n cap l c3 ∧ PI n p c3 i j ∧ (j < i ∨ (∃ x, c3[i]? = some x ∧ p ≤ x) ∧ ∃ y, c3[j]? = some y ∧ y < p)) := Lib.hid ⟨H2.out.1, H1.out.2.1, by
                                  rcases H1.out.2.2 with e | e
                                  · exact .inl e
                                  · rcases H2.out.2.2 rfl with e2 | e2
                                    · exact .inl e2
                                    · exact .inr ⟨e, e2⟩⟩
                                clear H1 H2 hg HW
                                obtain ⟨wD2, rfl⟩ : ∃ W, W = wc := ⟨_, rfl⟩
                                by_cases hgt : j < i
                                · have hgt' : (i : Int) > (j : Int) := by omega
                                  have hgd : decide ((i : Int) > (j : Int)) = true := decide_eq_true hgt'
                                  go_wp2_with fail
                                  obtain ⟨y, hy⟩ : ∃ y, c3[j]? = some y := ⟨_, List.getElem?_eq_getElem (by have := HJM.out; omega)⟩
                                  have HY := Lib.hid hy
                                  clear hy
                                  have c0 : wD2.cell? ⟨g, 0, none⟩ = some (.int .i64 p) := HV.out.1.cell HV.out.2.1.head h0
                                  have f0 := HV.out.1.frozen 0
                                  have hjn : (j : Int) < (n : Int) := by have := HJM.out.1; omega
                                  have HE : Hid (∃ (L R : List Int) (p' : Int), L.length = j ∧ (L ++ p' :: R).Perm l ∧ (∀ z ∈ L, z ≤ p') ∧ (∀ z ∈ R, p' ≤ z) ∧ (((wD2.setCell ⟨g, j, none⟩ (.int .i64 p)).setCell ⟨g, 0, none⟩ (.int .i64 y)).drewN 1).ownsRow B 3 1 (.slice (some ⟨g, 0, none⟩) n cap) n (irow (L ++ p' :: R)) ∧ Keeps (fun q => q = g) w (((wD2.setCell ⟨g, j, none⟩ (.int .i64 p)).setCell ⟨g, 0, none⟩ (.int .i64 y)).drewN 1)) := Lib.hid (by
                                    have h := (HV.out.1.swapAt HY.out HV.out.2.1.head).drewN 1
                                    obtain ⟨L, R, e, h1, h2, h3⟩ := HV.out.2.1.fin hgt HY.out
                                    rw [e] at h
                                    exact ⟨L, R, p, h1, h.perm, h2, h3, h.own, h.kp⟩)
                                  by_cases hjz : j = 0
                                  · subst hjz
                                    have hpy : y = p := by
                                      have h1 := HV.out.2.1.head
                                      rw [HY.out] at h1
                                      exact Option.some.inj h1
                                    subst hpy
                                    clear hj0
                                    go_region
                                    go_wp2_with fail
                                    go_returns
                                    obtain ⟨L, R, p', h1, h2, h3, h4, h5, h6⟩ := HE.out
                                    exact ⟨0, false, L, R, p', rfl, h1, h2, h3, h4, h5, h6⟩
                                  · have cj : wD2.cell? ⟨g, j, none⟩ = some (.int .i64 y) := HV.out.1.cell HY.out HJM.out.1
                                    have fj := HV.out.1.frozen j
                                    go_region
                                    go_wp2_with fail
                                    go_returns
                                    obtain ⟨L, R, p', h1, h2, h3, h4, h5, h6⟩ := HE.out
                                    exact ⟨j, false, L, R, p', rfl, h1, h2, h3, h4, h5, h6⟩
                                · have hgt' : ¬ (i : Int) > (j : Int) := by omega
                                  have hgd : decide ((i : Int) > (j : Int)) = false := decide_eq_false hgt'
                                  have hgt2 : ¬ (j : Int) < (i : Int) := by omega
                                  have hgd2 : decide ((j : Int) < (i : Int)) = false := decide_eq_false hgt2
                                  go_wp2_with fail
                                  obtain ⟨x, y, hx, hxp, hy, hyp⟩ : ∃ x y, c3[i]? = some x ∧ p ≤ x ∧ c3[j]? = some y ∧ y < p := by
                                    rcases HV.out.2.2 with e | ⟨⟨x, h1, h2⟩, y, h3, h4⟩
                                    · exact absurd e hgt
                                    · exact ⟨x, y, h1, h2, h3, h4⟩
                                  have hijl : i < j := PI.lt (by omega) hx hxp hy hyp
                                  obtain ⟨i2, hi2⟩ : ∃ k, i + 1 = k := ⟨_, rfl⟩
                                  obtain ⟨j2, hj2⟩ : ∃ k, j - 1 = k := ⟨_, rfl⟩
                                  have HS2 : Hid (RS w (((wD2.setCell ⟨g, i, none⟩ (.int .i64 y)).setCell ⟨g, j, none⟩ (.int .i64 x)).drewN 1) B g n cap l ((c3.set i y).set j x) ∧ PI n p ((c3.set i y).set j x) i2 j2) := Lib.hid ⟨(HV.out.1.swapAt hx hy).drewN 1, by rw [← hi2, ← hj2]; exact HV.out.2.1.swap (by omega) hx hxp hy hyp⟩
                                  have cx : wD2.cell? ⟨g, i, none⟩ = some (.int .i64 x) := HV.out.1.cell hx (by have := HJM.out.1; omega)
                                  have cy : wD2.cell? ⟨g, j, none⟩ = some (.int .i64 y) := HV.out.1.cell hy HJM.out.1
                                  have fx := HV.out.1.frozen i
                                  have fy := HV.out.1.frozen j
                                  have hin : (i : Int) < (n : Int) := by have := HJM.out.1; omega
                                  have hjn : (j : Int) < (n : Int) := by have := HJM.out.1; omega
                                  have e1 : IntKind.i64.wrap ((i : Int) + 1) = (i2 : Int) := by have := HJM.out.1; rw [IntKind.wrap_i64]; omega
                                  have e2 : IntKind.i64.wrap ((j : Int) - 1) = (j2 : Int) := by have := HJM.out.1; rw [IntKind.wrap_i64]; omega
                                  obtain ⟨c2, hc2e⟩ : ∃ c2, (c3.set i y).set j x = c2 := ⟨_, rfl⟩
                                  rw [hc2e] at HS2
                                  clear hc2e hx hxp hy hyp HV
                                  go_region
                                  go_wp2_with fail
                                  go_roundg (j2 + 1 - i2)
                                  case rel => exact ⟨i2, j2, c2, rfl, rfl, rfl, by omega, by omega, HS2⟩
                                  case measure => omega
end Go.Proofs.YtkiimljdoebclaaDoor
/- slices.Sort of thirteen numbers: the pivot. -/
namespace Go.Proofs.YtkiimljdoebclaaDoor
open Go.RowKit
set_option linter.unusedVariables false
set_option linter.unusedSimpArgs false

/-- A counter of one's own. -/
def CtAt (w : World) (SB k : Nat) : Prop := w.heap[SB]? = some (.cells #[.int .i64 (k : Int)] 3 (0, 0))
/-- A row whose first n cells hold numbers. -/
structure NumAt (w : World) (g n cap : Nat) : Prop where
  cell : ∀ t, t < n → ∃ z : Int, w.cell? ⟨g, t, none⟩ = some (.int .i64 z)
  cap : n ≤ cap ∧ cap ≤ 9223372036854775807
theorem NumAt.keep {w w' : World} {g n cap SB : Nat} (h : NumAt w g n cap) (hk : Keeps (fun q => q = SB) w w') (hne : g ≠ SB) : NumAt w' g n cap :=
  ⟨fun t ht => by obtain ⟨z, hz⟩ := h.cell t ht; exact ⟨z, hk.cell hz hne⟩, h.cap⟩
set_option maxRecDepth 100000 in
set_option maxHeartbeats 6400000 in
theorem order2_any (w : World) (g n cap SB i j k : Nat) (h : NumAt w g n cap) (hi : i < n) (hj : j < n) (hs : CtAt w SB k) (hk : k ≤ 1000) :
    Calls Tryd.prog 74 #[.slice (some ⟨g, 0, none⟩) n cap, .int .i64 (i : Int), .int .i64 (j : Int), .pointer (some ⟨SB, 0, none⟩)] w fun e w' => ∃ a b k' : Nat, e = .returned (.tuple #[.int .i64 (a : Int), .int .i64 (b : Int)]) ∧ (a = i ∧ b = j ∨ a = j ∧ b = i) ∧ k' ≤ k + 1 ∧ CtAt w' SB k' ∧ Keeps (fun q => q = SB) w w' := by
  obtain ⟨x, ci⟩ := h.cell i hi
  obtain ⟨y, cj⟩ := h.cell j hj
  obtain ⟨hc1, hc2⟩ := h.cap
  have hi0 : (0 : Int) ≤ (i : Int) := by omega
  have hj0 : (0 : Int) ≤ (j : Int) := by omega
  have hin : (i : Int) < (n : Int) := by omega
  have hjn : (j : Int) < (n : Int) := by omega
  have HS := Lib.hid hs
  clear h hs
  go_enter Tryd.func74, Tryd.ntmps74
  go_wp2_with fail
  by_cases hyx : y < x
  · have hd : decide (y < x) = true := decide_eq_true hyx
    go_quiet ((go_at_call 53; exact Calls.quiet_of_same (less_any _ _ _)))
    have HS1 : Hid (CtAt (w.drewN nq) SB k) := Lib.hid HS.out
    have HK1 : Hid (Keeps (fun q => q = SB) w (w.drewN nq)) := Lib.hid ((Keeps.refl _ w).drewN nq)
    generalize w.drewN nq = w1 at HS1 HK1 ⊢
    have cs : w1.cell? ⟨SB, 0, none⟩ = some (.int .i64 (k : Int)) := by rw [cell_of_row w1 SB 0 _ _ _ HS1.out]; rfl
    have fs : w1.frozen? ⟨SB, 0, none⟩ = false := frozen_of_row w1 SB 0 _ _ HS1.out
    have e1 : IntKind.i64.wrap ((k : Int) + 1) = ((k + 1 : Nat) : Int) := by rw [IntKind.wrap_i64]; omega
    clear ci cj
    go_wp2_with fail
    go_returns
    exact ⟨j, i, k + 1, rfl, .inr ⟨rfl, rfl⟩, Nat.le_refl _, by unfold CtAt; rw [heap_setCell_same w1 SB 0 _ _ _ HS1.out]; rfl, HK1.out.setCell (.inl rfl) _⟩
  · have hd : decide (y < x) = false := decide_eq_false hyx
    go_quiet ((go_at_call 53; exact Calls.quiet_of_same (less_any _ _ _)))
    have HS1 : Hid (CtAt (w.drewN nq) SB k) := Lib.hid HS.out
    have HK1 : Hid (Keeps (fun q => q = SB) w (w.drewN nq)) := Lib.hid ((Keeps.refl _ w).drewN nq)
    generalize w.drewN nq = w1 at HS1 HK1 ⊢
    clear ci cj
    go_wp2_with fail
    go_returns
    exact ⟨i, j, rfl, .inl ⟨rfl, rfl⟩, k, by omega, HS1.out, HK1.out⟩
set_option maxRecDepth 100000 in
set_option maxHeartbeats 6400000 in
theorem median_any (w : World) (g n cap SB i j l k : Nat) (h : NumAt w g n cap) (hi : i < n) (hj : j < n) (hl : l < n) (hs : CtAt w SB k) (hk : k ≤ 900) (hne : g ≠ SB) :
    Calls Tryd.prog 67 #[.slice (some ⟨g, 0, none⟩) n cap, .int .i64 (i : Int), .int .i64 (j : Int), .int .i64 (l : Int), .pointer (some ⟨SB, 0, none⟩)] w fun e w' => ∃ r k' : Nat, e = .returned (.int .i64 (r : Int)) ∧ r < n ∧ k' ≤ k + 3 ∧ CtAt w' SB k' ∧ Keeps (fun q => q = SB) w w' := by
  have H := Lib.hid h
  have HO := Lib.hid (order2_any w g n cap SB i j k h hi hj hs (by omega))
  clear h hs
  go_enter Tryd.func67, Tryd.ntmps67
  go_wp2_with fail
  refine HO.out.mono ?_
  rintro e w1 ⟨a1, b1, k1, rfl, hab1, hk1, hs1, hkk1⟩
  have h1 := H.out.keep hkk1 hne
  have ha1 : a1 < n ∧ b1 < n := by omega
  have HO2 := Lib.hid (order2_any w1 g n cap SB b1 l k1 h1 ha1.2 hl hs1 (by omega))
  have HH1 := Lib.hid (And.intro h1 hkk1)
  clear hab1 hs1 hkk1 h1 HO
  go_wp2_with fail
  refine HO2.out.mono ?_
  rintro e w2 ⟨a2, b2, k2, rfl, hab2, hk2, hs2, hkk2⟩
  have h2 := HH1.out.1.keep hkk2 hne
  have ha2 : a2 < n ∧ b2 < n := by omega
  have HO3 := Lib.hid (order2_any w2 g n cap SB a1 a2 k2 h2 ha1.1 ha2.1 hs2 (by omega))
  have HH2 := Lib.hid (HH1.out.2.trans hkk2 (fun _ _ e => e))
  clear hab2 hs2 hkk2 h2 HO2 HH1
  go_wp2_with fail
  refine HO3.out.mono ?_
  rintro e w3 ⟨a3, b3, k3, rfl, hab3, hk3, hs3, hkk3⟩
  have HH3 := Lib.hid (And.intro hs3 (HH2.out.trans hkk3 (fun _ _ e => e)))
  have ha3 : b3 < n := by omega
  clear hab3 hs3 hkk3 HO3 HH2
  go_wp2_with fail
  go_returns
  exact ⟨b3, k3, rfl, ha3, by omega, HH3.out.1, HH3.out.2⟩
set_option maxRecDepth 100000 in
set_option maxHeartbeats 6400000 in
theorem choose_any (w : World) (g cap : Nat) (h : NumAt w g 13 cap) (hg : g < w.heap.size) :
    Calls Tryd.prog 50 #[.slice (some ⟨g, 0, none⟩) 13 cap, .int .i64 0, .int .i64 13] w fun e w' => ∃ r : Nat, ∃ z : Int, e = .returned (.tuple #[.int .i64 (r : Int), .int .i64 z]) ∧ r < 13 ∧ (z = 0 ∨ z = 1) ∧ Keeps No w w' := by
  have H := Lib.hid h
  clear h
  go_enter Tryd.func50, Tryd.ntmps50
  go_upto_region 3 with fail
  have hs1 : CtAt (w.alloc (.cells #[.int .i64 0] 3)) w.heap.size 0 := heap_alloc_new _ _
  have hk1 : Keeps No w (w.alloc (.cells #[.int .i64 0] 3)) := (Keeps.refl _ _).alloc _
  generalize w.alloc (.cells #[.int .i64 0] 3) = w1 at hs1 hk1 ⊢
  obtain ⟨SB, hSB⟩ : ∃ q, w.heap.size = q := ⟨_, rfl⟩
  rw [hSB] at hs1 ⊢
  have hne : g ≠ SB := by omega
  have HN1 : Hid (NumAt w1 g 13 cap) := Lib.hid ⟨fun t ht => by obtain ⟨z, hz⟩ := H.out.cell t ht; exact ⟨z, hk1.cell0 hz⟩, H.out.cap⟩
  have HM := Lib.hid (median_any w1 g 13 cap SB 3 6 9 0 HN1.out (by omega) (by omega) (by omega) hs1 (by omega) hne)
  have HK1 := Lib.hid hk1
  have HSB := Lib.hid hSB
  clear hs1 hk1 hSB
  go_wp2_with fail
  refine HM.out.mono ?_
  rintro e w2 ⟨r, k', rfl, hr, hk', hs2, hk2⟩
  have cs : w2.cell? ⟨SB, 0, none⟩ = some (.int .i64 (k' : Int)) := by rw [cell_of_row w2 SB 0 _ _ _ hs2]; rfl
  have HK2 : Hid (Keeps No w w2) := Lib.hid (HK1.out.trans hk2 (fun q hq e => by have := HSB.out; omega))
  clear hs2 hk2 HM HK1
  by_cases hz : k' = 0
  · have e0 : ((k' : Int) == 0) = true := beq_iff_eq.2 (by omega)
    go_wp2_with fail
    go_returns
    exact ⟨r, 1, rfl, hr, .inr rfl, HK2.out⟩
  · have e0 : ((k' : Int) == 0) = false := beq_eq_false_iff_ne.2 (by omega)
    have e12 : ((k' : Int) == 12) = false := beq_eq_false_iff_ne.2 (by omega)
    go_wp2_with fail
    go_returns
    exact ⟨r, 0, rfl, hr, .inl rfl, HK2.out⟩
theorem rising_more {l : List Int} {p : Nat} {x y : Int} (h : Rising (l.take (p + 1))) (hx : l[p + 1]? = some x) (hy : l[p]? = some y) (hyx : y ≤ x) : Rising (l.take (p + 2)) := by
  have e1 : l.take (p + 2) = l.take (p + 1) ++ [x] := by
    rw [List.take_add_one, hx]; rfl
  have e2 : l.take (p + 1) = l.take p ++ [y] := by
    rw [List.take_add_one, hy]; rfl
  rw [e1]
  have h' := rising_put (A := l.take (p + 1)) (S := []) (x := x) (by rw [List.append_nil]; exact h) (fun b hb => by cases hb) (.inr ⟨l.take p, y, e2, hyx⟩)
  exact h'
set_option maxRecDepth 100000 in
set_option maxHeartbeats 6400000 in
theorem partial_any (w : World) (B g n cap : Nat) (l : List Int) (h0 : 0 < n) (hn : n < 50) (hc : n ≤ cap ∧ cap ≤ maxLen) (hown : w.ownsRow B 3 1 (.slice (some ⟨g, 0, none⟩) n cap) n (irow l)) :
    Calls Tryd.prog 52 #[.slice (some ⟨g, 0, none⟩) n cap, .int .i64 0, .int .i64 (n : Int)] w fun e w' => ∃ b, e = .returned (.bool b) ∧ (b = true → Rising l) ∧ Keeps No w w' := by
  have hlen : l.length = n := by have := hown.1; unfold irow at this; rw [List.length_map] at this; omega
  have HR0 : Hid (RS w w B g n cap l l) := Lib.hid ⟨Keeps.refl _ _, hown, List.Perm.refl _⟩
  have HLEN := Lib.hid hlen
  obtain ⟨hc1, hc2⟩ := hc
  unfold maxLen at hc2
  have h50 : decide ((n : Int) < 50) = true := decide_eq_true (by omega)
  have hnn : (n : Int) < 50 := by omega
  have HR1 : Hid (Rising (l.take 1)) := Lib.hid (by
    rcases l with _ | ⟨a, t⟩
    · exact List.Pairwise.nil
    · exact List.pairwise_singleton _ _)
  clear hown hlen
  go_enter Tryd.func52, Tryd.ntmps52
  go_wp2_with fail
  go_loopg [7, 8] 0 (fun k x y wr => x = .int .i64 1 ∧ y = .int .i64 0 ∧ wr = w)
  case atStart => exact ⟨rfl, rfl, rfl⟩
  case round =>
    obtain ⟨rfl, rfl, rfl⟩ := hrel
    go_wp2_with fail
    obtain ⟨wA, hwA⟩ : ∃ W, W = wr := ⟨_, rfl⟩
    go_loopg [7] (n - 1) (fun k v w1 => ∃ p : Nat, v = .int .i64 ((p + 1 : Nat) : Int) ∧ p + 1 ≤ n ∧ k = n - (p + 1) ∧ Hid (RS wA w1 B g n cap l l) ∧ Hid (Keeps No wA w1) ∧ Hid (Rising (l.take (p + 1))))
    case atStart => exact ⟨0, rfl, by omega, rfl, by rw [hwA]; exact HR0, by rw [hwA]; exact Lib.hid (Keeps.refl _ _), HR1⟩
    case round =>
      obtain ⟨p, rfl, hp, hg2, HS, HK, HRp⟩ := hrel
      obtain ⟨J, hJ⟩ : ∃ J, p + 1 = J := ⟨_, rfl⟩
      have HJ := Lib.hid hJ
      rw [hJ] at hp hg2 HRp ⊢
      by_cases hlt : J < n
      · have hlt' : (J : Int) < (n : Int) := by omega
        have hd : decide ((J : Int) < (n : Int)) = true := decide_eq_true hlt'
        have j0 : (0 : Int) ≤ (J : Int) := by omega
        have p0 : (0 : Int) ≤ (p : Int) := by omega
        have pn : (p : Int) < (n : Int) := by omega
        obtain ⟨x, hx⟩ : ∃ x, l[J]? = some x := ⟨_, List.getElem?_eq_getElem (by rw [HLEN.out]; omega)⟩
        obtain ⟨y, hy⟩ : ∃ y, l[p]? = some y := ⟨_, List.getElem?_eq_getElem (by rw [HLEN.out]; omega)⟩
        have cx := HS.out.cell hx hlt
        have cy := HS.out.cell hy (by omega)
        have e1 : IntKind.i64.wrap ((J : Int) - 1) = (p : Int) := by rw [IntKind.wrap_i64]; omega
        have HXY := Lib.hid (And.intro hx hy)
        clear hx hy hJ
        by_cases hxy : x < y
        · have hdl : decide (x < y) = true := decide_eq_true hxy
          have hne : ((J : Int) == (n : Int)) = false := beq_eq_false_iff_ne.2 (by omega)
          clear hxy
          go_wp2_with fail
          go_quiet ((go_at_call 53; exact Calls.quiet_of_same (less_any _ _ _)))
          have HK2 := Lib.hid (HK.out.drewN nq)
          generalize wr.drewN nq = w2 at HK2 ⊢
          clear cx cy
          go_wp2_with fail
          go_returns
          exact ⟨false, rfl, (fun e => nomatch e), by rw [← hwA]; exact HK2.out⟩
        · have hdl : decide (x < y) = false := decide_eq_false hxy
          have HRN : Hid (Rising (l.take (p + 2))) := Lib.hid (rising_more (by rw [HJ.out]; exact HRp.out) (by rw [HJ.out]; exact HXY.out.1) HXY.out.2 (by omega))
          clear hxy
          go_wp2_with fail
          go_quiet ((go_at_call 53; exact Calls.quiet_of_same (less_any _ _ _)))
          have HK2 := Lib.hid (HK.out.drewN nq)
          have HS2 := Lib.hid (HS.out.drewN nq)
          generalize wr.drewN nq = w2 at HK2 HS2 ⊢
          clear cx cy
          go_wp2_with fail
          go_roundg (n - (J + 1))
          case rel => exact ⟨J, by go_num, by omega, rfl, HS2, HK2, by rw [← HJ.out]; exact HRN⟩
          case measure => omega
      · obtain rfl : J = n := by omega
        have hd : decide ((J : Int) < (J : Int)) = false := decide_eq_false (by omega)
        have hee : ((J : Int) == (J : Int)) = true := beq_iff_eq.2 rfl
        clear hJ
        go_wp2_with fail
        go_quiet (fail)
        have HK2 := Lib.hid (HK.out.drewN nq)
        generalize wr.drewN nq = w2 at HK2 ⊢
        have HRL : Hid (Rising l) := Lib.hid (by
          have h := HRp.out
          rw [List.take_of_length_le (by rw [HLEN.out]; exact Nat.le_refl _)] at h
          exact h)
        go_wp2_with fail
        go_returns
        exact ⟨true, rfl, fun _ => HRL.out, by rw [← hwA]; exact HK2.out⟩
end Go.Proofs.YtkiimljdoebclaaDoor
/- pdqsort of a part of at most twelve numbers. -/
namespace Go.Proofs.YtkiimljdoebclaaDoor
open Go.RowKit
set_option linter.unusedVariables false
set_option linter.unusedSimpArgs false

theorem insr_all (w : World) (B g n cap lo m : Nat) (P D0 l : List Int) (hlo : P.length = lo) (hlen : l.length = m) (hn : n ≤ 1000000) (hc : n ≤ cap ∧ cap ≤ maxLen) (hown : w.ownsRow B 3 1 (.slice (some ⟨g, 0, none⟩) n cap) n (irow (P ++ (l ++ D0)))) :
    Calls Tryd.prog 47 #[.slice (some ⟨g, 0, none⟩) n cap, .int .i64 (lo : Int), .int .i64 ((lo + m : Nat) : Int)] w fun e w' => e = .returned (.tuple #[]) ∧ w'.ownsRow B 3 1 (.slice (some ⟨g, 0, none⟩) n cap) n (irow (P ++ (isort l ++ D0))) ∧ Keeps (fun q => q = g) w w' := by
  by_cases h0 : 0 < m
  · exact insr_any w B g n cap lo m P D0 l hlo hlen h0 hn hc hown
  · obtain rfl : m = 0 := by omega
    obtain rfl := List.length_eq_zero_iff.1 hlen
    have hl : lo ≤ 1000000 := by
      have h := hown.1
      unfold irow at h
      rw [List.length_map] at h
      simp only [List.length_append] at h
      omega
    refine (ins0_any w _ n cap lo hl).mono ?_
    rintro e w' ⟨rfl, rfl⟩
    exact ⟨rfl, hown, Keeps.refl _ _⟩
set_option maxRecDepth 100000 in
set_option maxHeartbeats 3200000 in
theorem pdqs_any (w : World) (B g n cap lo m : Nat) (P D0 l : List Int) (K : Int) (hlo : P.length = lo) (hlen : l.length = m) (hm : m ≤ 12) (hn : n ≤ 1000000) (hc : n ≤ cap ∧ cap ≤ maxLen) (hown : w.ownsRow B 3 1 (.slice (some ⟨g, 0, none⟩) n cap) n (irow (P ++ (l ++ D0)))) :
    Calls Tryd.prog 42 #[.slice (some ⟨g, 0, none⟩) n cap, .int .i64 (lo : Int), .int .i64 ((lo + m : Nat) : Int), .int .i64 K] w fun e w' => e = .returned (.tuple #[]) ∧ w'.ownsRow B 3 1 (.slice (some ⟨g, 0, none⟩) n cap) n (irow (P ++ (isort l ++ D0))) ∧ Keeps (fun q => q = g) w w' := by
  have HI := Lib.hid (insr_all w B g n cap lo m P D0 l hlo hlen hn hc hown)
  have hl : lo + m ≤ 1000000 := by
    have h := hown.1
    unfold irow at h
    rw [List.length_map] at h
    simp only [List.length_append] at h
    omega
  obtain ⟨hi, hhi⟩ : ∃ hi, lo + m = hi := ⟨_, rfl⟩
  rw [hhi] at HI ⊢
  have e1 : IntKind.i64.wrap ((hi : Int) - (lo : Int)) = (m : Int) := by rw [IntKind.wrap_i64]; omega
  have h1 : (m : Int) ≤ 12 := by omega
  have hd : decide ((m : Int) ≤ 12) = true := decide_eq_true h1
  clear hown hlen hlo hc hhi
  go_enter Tryd.func42, Tryd.ntmps42
  go_wp2_with fail
  go_loopg [1, 2, 3] 0 (fun k x y z wr => x = .int .i64 (lo : Int) ∧ y = .int .i64 (hi : Int) ∧ z = .int .i64 K ∧ wr = w)
  case atStart => exact ⟨rfl, rfl, rfl, rfl⟩
  case round =>
    obtain ⟨rfl, rfl, rfl, rfl⟩ := hrel
    go_wp2_with fail
    refine HI.out.mono ?_
    rintro e w1 ⟨rfl, h⟩
    have HH := Lib.hid h
    clear h HI
    go_wp2_with fail
    go_returns
    exact ⟨rfl, HH.out⟩
theorem isort_part {L R : List Int} {p : Int} (h1 : ∀ z ∈ L, z ≤ p) (h2 : ∀ z ∈ R, p ≤ z) : isort (L ++ p :: R) = isort L ++ p :: isort R := by
  have hp : (isort L ++ p :: isort R).Perm (L ++ p :: R) := (isort_perm L).append ((isort_perm R).cons p)
  refine (isort_of hp ?_).symm
  refine List.pairwise_append.2 ⟨isort_rising L, List.pairwise_cons.2 ⟨fun b hb => h2 b ((isort_perm R).mem_iff.1 hb), isort_rising R⟩, fun a ha b hb => ?_⟩
  have ha' := h1 a ((isort_perm L).mem_iff.1 ha)
  rcases List.mem_cons.1 hb with rfl | hb
  · exact ha'
  · exact Int.le_trans ha' (h2 b ((isort_perm R).mem_iff.1 hb))
end Go.Proofs.YtkiimljdoebclaaDoor
/- slices.Sort of at most thirteen numbers. -/
namespace Go.Proofs.YtkiimljdoebclaaDoor
open Go.RowKit
set_option linter.unusedVariables false
set_option linter.unusedSimpArgs false

set_option maxRecDepth 100000 in
theorem len64_13 (w : World) : Calls Tryd.prog 57 #[.int .u64 13] w fun e w' => e = .returned (.int .i64 4) ∧ w' = w := by
  go_enter Tryd.func57, Tryd.ntmps57
  go_wp2_with fail
  go_returns
  exact ⟨by kernel_rfl, rfl⟩
theorem len_13 (w : World) : Calls Tryd.prog 43 #[.int .u64 13] w fun e w' => e = .returned (.int .i64 4) ∧ w' = w := by
  have H := Lib.hid (len64_13 w)
  go_enter Tryd.func43, Tryd.ntmps43
  go_wp2_with fail
  refine H.out.mono ?_
  rintro e w1 ⟨rfl, rfl⟩
  go_wp2_with fail
  go_returns
  exact ⟨rfl, rfl⟩
/-- What is left to sort between what stands already. -/
structure PS13 (w0 w : World) (B g cap : Nat) (l : List Int) (a m : Nat) (c : List Int) : Prop where
  kp : Keeps (fun q => q = g) w0 w
  st : ∃ P D0, P.length = a ∧ c.length = m ∧ w.ownsRow B 3 1 (.slice (some ⟨g, 0, none⟩) 13 cap) 13 (irow (P ++ (c ++ D0))) ∧ P ++ (isort c ++ D0) = isort l
theorem isort_perm_eq {a b : List Int} (h : a.Perm b) : isort a = isort b := isort_of ((isort_perm a).trans h) (isort_rising a)
set_option maxRecDepth 100000 in
set_option maxHeartbeats 12800000 in
theorem pdq13_any (w : World) (B g cap : Nat) (l : List Int) (hc : 13 ≤ cap ∧ cap ≤ maxLen) (hg : g < w.heap.size) (hown : w.ownsRow B 3 1 (.slice (some ⟨g, 0, none⟩) 13 cap) 13 (irow l)) :
    Calls Tryd.prog 42 #[.slice (some ⟨g, 0, none⟩) 13 cap, .int .i64 0, .int .i64 13, .int .i64 4] w fun e w' => e = .returned (.tuple #[]) ∧ w'.ownsRow B 3 1 (.slice (some ⟨g, 0, none⟩) 13 cap) 13 (irow (isort l)) ∧ Keeps (fun q => q = g) w w' := by
  have hlen : l.length = 13 := by have := hown.1; unfold irow at this; rw [List.length_map] at this; exact this
  have HN : Hid (NumAt w g 13 cap) := Lib.hid ⟨fun t ht => by
    obtain ⟨z, hz⟩ : ∃ z, l[t]? = some z := ⟨_, List.getElem?_eq_getElem (by omega)⟩
    exact ⟨z, by rw [World.ownsRow.cellAt hown t ht]; exact irow_get hz⟩, by have := hc.2; unfold maxLen at this; exact ⟨hc.1, by omega⟩⟩
  have HO := Lib.hid hown
  have HC := Lib.hid hc
  have HG := Lib.hid hg
  have HLEN := Lib.hid hlen
  clear hown hc hg hlen
  go_enter Tryd.func42, Tryd.ntmps42
  go_wp2_with fail
  go_loopg [1, 2, 3, 8, 9] 1 (fun k x y z v8 v9 wr => z = .int .i64 4 ∧ (k = 1 ∧ x = .int .i64 0 ∧ y = .int .i64 13 ∧ v8 = .bool true ∧ v9 = .bool true ∧ w = wr ∨ k = 0 ∧ ∃ (a m : Nat) (c : List Int), x = .int .i64 (a : Int) ∧ y = .int .i64 ((a + m : Nat) : Int) ∧ (a + m ≤ 13 ∧ m ≤ 12) ∧ Hid (PS13 w wr B g cap l a m c)))
  case atStart => exact ⟨rfl, .inl ⟨rfl, rfl, rfl, rfl, rfl, rfl⟩⟩
  case round =>
    obtain ⟨rfl, ⟨rfl, rfl, rfl, rfl, rfl, rfl⟩ | ⟨rfl, a, m, c, rfl, rfl, ⟨ha, hm⟩, HS⟩⟩ := hrel
    · have HCH := Lib.hid (choose_any w g cap HN.out HG.out)
      go_wp2_with fail
      refine HCH.out.mono ?_
      rintro e w1 ⟨r, z, rfl, hr, hz, hk⟩
      have HR := Lib.hid hr
      have HO1 : Hid (w1.ownsRow B 3 1 (.slice (some ⟨g, 0, none⟩) 13 cap) 13 (irow l)) := Lib.hid (own_kept HO.out (fun q hq => hk.block q (by cases hq; exact HG.out) (fun h => h)))
      have HK1 : Hid (Keeps (fun q => q = g) w w1) := Lib.hid (hk.mono (fun q _ h => h.elim))
      have HPA := Lib.hid (partial_any w1 B g 13 cap l (by omega) (by omega) HC.out (by
        have := HO1.out
        exact this))
      clear hr hk HCH HN HO
      have hz2 : (z == 2) = false := by rcases hz with rfl | rfl <;> rfl
      go_upto_if 68 with fail
      go_cut [] (fun wx => Hid (Keeps No w1 wx))
      case first =>
        rcases hz with rfl | rfl
        · go_wp2_with fail
          go_meet
          exact Lib.hid (Keeps.refl _ _)
        · go_wp2_with fail
          refine HPA.out.mono ?_
          rintro e w2 ⟨b, rfl, hb, hk⟩
          have HK2 := Lib.hid hk
          cases b with
          | true =>
            have HE : Hid (isort l = l) := Lib.hid (isort_of (List.Perm.refl _) (hb rfl)).symm
            clear hb hk
            go_wp2_with fail
            go_returns
            exact ⟨rfl, by rw [HE.out]; exact own_kept HO1.out (fun q hq => HK2.out.block q (ownG_lt HO1.out q hq) (fun e => e)), HK1.out.trans HK2.out (fun q _ e => e.elim)⟩
          | false =>
            clear hb hk
            go_wp2_with fail
            go_meet
            exact HK2
      case rest =>
        have HO2 := Lib.hid (own_kept HO1.out (fun q hq => hcut.out.block q (ownG_lt HO1.out q hq) (fun e => e)))
        have HK2 := Lib.hid (HK1.out.trans hcut.out (fun q _ e => e.elim))
        clear hcut HPA HO1 HK1 hz hz2
        go_wp2_with fail
        go_quiet (fail)
        have HK3 := Lib.hid (HK2.out.drewN nq)
        have HO3 : Hid ((wc.drewN nq).ownsRow B 3 1 (.slice (some ⟨g, 0, none⟩) 13 cap) 13 (irow l)) := HO2
        generalize wc.drewN nq = w4 at HK3 HO3 ⊢
        clear HK2 HO2
        have HPT := Lib.hid (part_any w4 B g 13 cap r l (by omega) HR.out (by omega) HC.out HO3.out)
        go_wp2_with fail
        refine HPT.out.mono ?_
        rintro e w5 ⟨m, pb, L, R, p, rfl, hL, hperm, h1, h2, hown, hk⟩
        have hlen : m + 1 + R.length = 13 := by
          have := hperm.length_eq
          rw [HLEN.out, List.length_append, List.length_cons, hL] at this
          omega
        obtain ⟨q, hq⟩ : ∃ q, R.length = q := ⟨_, rfl⟩
        rw [hq] at hlen
        have HE : Hid (isort L ++ p :: isort R = isort l) := Lib.hid (by rw [← isort_part h1 h2]; exact isort_perm_eq hperm)
        have HKK := Lib.hid (HK3.out.trans hk (fun q _ e => e))
        have HOO := Lib.hid hown
        have HLQ := Lib.hid (And.intro hL hq)
        clear hk hown hperm h1 h2 hL hq HPT HK3 HO3
        have em : IntKind.i64.wrap ((m : Int) - 0) = (m : Int) := by rw [IntKind.wrap_i64]; omega
        have eq : IntKind.i64.wrap (13 - (m : Int)) = ((q + 1 : Nat) : Int) := by rw [IntKind.wrap_i64]; omega
        have em1 : IntKind.i64.wrap ((m : Int) + 1) = ((m + 1 : Nat) : Int) := by rw [IntKind.wrap_i64]; omega
        by_cases hmq : m < q + 1
        · have hmI : (m : Int) < ((q + 1 : Nat) : Int) := by omega
          have hmd : decide ((m : Int) < ((q + 1 : Nat) : Int)) = true := decide_eq_true hmI
          have HQ1 : Hid (Calls Tryd.prog 42 #[.slice (some ⟨g, 0, none⟩) 13 cap, .int .i64 0, .int .i64 (m : Int), .int .i64 4] w5 fun e w' => e = .returned (.tuple #[]) ∧ w'.ownsRow B 3 1 (.slice (some ⟨g, 0, none⟩) 13 cap) 13 (irow (isort L ++ p :: R)) ∧ Keeps (fun q => q = g) w5 w') := Lib.hid (by
            have h := pdqs_any w5 B g 13 cap 0 m [] (p :: R) L 4 rfl HLQ.out.1 (by omega) (by omega) HC.out HOO.out
            rw [Nat.zero_add] at h
            exact h)
          go_wp2_with fail
          refine HQ1.out.mono ?_
          rintro e w6 ⟨rfl, hown6, hk6⟩
          have HS6 : Hid (PS13 w w6 B g cap l (m + 1) q R) := Lib.hid ⟨HKK.out.trans hk6 (fun _ _ e => e), isort L ++ [p], [], by rw [List.length_append, (isort_perm L).length_eq, HLQ.out.1]; rfl, HLQ.out.2, by simpa using hown6, by rw [← HE.out]; simp⟩
          clear hown6 hk6 HQ1
          go_wp2_with fail
          go_roundg 0
          case rel => exact ⟨rfl, .inr ⟨rfl, m + 1, q, R, rfl, by rw [hlen]; rfl, by omega, HS6⟩⟩
          case measure => omega
        · have hmI : ¬ (m : Int) < ((q + 1 : Nat) : Int) := by omega
          have hmd : decide ((m : Int) < ((q + 1 : Nat) : Int)) = false := decide_eq_false hmI
          have HQ1 : Hid (Calls Tryd.prog 42 #[.slice (some ⟨g, 0, none⟩) 13 cap, .int .i64 ((m + 1 : Nat) : Int), .int .i64 13, .int .i64 4] w5 fun e w' => e = .returned (.tuple #[]) ∧ w'.ownsRow B 3 1 (.slice (some ⟨g, 0, none⟩) 13 cap) 13 (irow (L ++ p :: isort R)) ∧ Keeps (fun q => q = g) w5 w') := Lib.hid (by
            have h := pdqs_any w5 B g 13 cap (m + 1) q (L ++ [p]) [] R 4 (by rw [List.length_append, HLQ.out.1]; rfl) HLQ.out.2 (by omega) (by omega) HC.out (by simpa using HOO.out)
            rw [hlen] at h
            simpa using h)
          go_wp2_with fail
          refine HQ1.out.mono ?_
          rintro e w6 ⟨rfl, hown6, hk6⟩
          have HS6 : Hid (PS13 w w6 B g cap l 0 m L) := Lib.hid ⟨HKK.out.trans hk6 (fun _ _ e => e), [], p :: isort R, rfl, HLQ.out.1, hown6, HE.out⟩
          clear hown6 hk6 HQ1
          go_wp2_with fail
          go_roundg 0
          case rel => exact ⟨rfl, .inr ⟨rfl, 0, m, L, rfl, by rw [Nat.zero_add], by omega, HS6⟩⟩
          case measure => omega
    · obtain ⟨P, D0, hP, hc1, hown, hfin⟩ := HS.out.st
      obtain ⟨hi, hhi⟩ : ∃ hi, a + m = hi := ⟨_, rfl⟩
      have HI : Hid (Calls Tryd.prog 47 #[.slice (some ⟨g, 0, none⟩) 13 cap, .int .i64 (a : Int), .int .i64 (hi : Int)] wr fun e w' => e = .returned (.tuple #[]) ∧ w'.ownsRow B 3 1 (.slice (some ⟨g, 0, none⟩) 13 cap) 13 (irow (isort l)) ∧ Keeps (fun q => q = g) wr w') := Lib.hid (by
        have h := insr_all wr B g 13 cap a m P D0 c hP hc1 (by omega) HC.out hown
        rw [hhi, hfin] at h
        exact h)
      have HK := Lib.hid HS.out.kp
      rw [hhi] at ha ⊢
      have e1 : IntKind.i64.wrap ((hi : Int) - (a : Int)) = (m : Int) := by rw [IntKind.wrap_i64]; omega
      have h1 : (m : Int) ≤ 12 := by omega
      have hd : decide ((m : Int) ≤ 12) = true := decide_eq_true h1
      clear hP hc1 hown hfin HS hhi HN HO
      go_wp2_with fail
      refine HI.out.mono ?_
      rintro e w1 ⟨rfl, h, hk⟩
      have HH := Lib.hid h
      have HKK := Lib.hid (HK.out.trans hk (fun _ _ e => e))
      clear h hk HI
      go_wp2_with fail
      go_returns
      exact ⟨rfl, HH.out, HKK.out⟩
/-- A row of the call's own, of at most thirteen numbers, is sorted. -/
theorem sort_more (w : World) (B n : Nat) (v : Value) (l : List Int) (hn : n ≤ 13) (hown : w.ownsRow B 3 1 v n (irow l)) :
    Calls Tryd.prog 31 #[v] w fun e w' => e = .returned (.tuple #[]) ∧ w'.ownsRow B 3 1 v n (irow (isort l)) ∧ Keeps (fun q => v.ownBlock = some q) w w' := by
  by_cases h12 : n ≤ 12
  · exact sort_any w B n v l h12 hown
  · obtain rfl : n = 13 := by omega
    rcases hown.2 with ⟨_, h2⟩ | ⟨g, cap, cur, rfl, h2, h3, h4, h5, _⟩
    · omega
    · have HP := Lib.hid (pdq13_any w B g cap l ⟨h4, h5⟩ (Array.getElem?_eq_some_iff.1 h3).1 hown)
      have HL := Lib.hid (len_13)
      clear hown h2 h3 h4 h5
      go_enter Tryd.func31, Tryd.ntmps31
      go_wp2_with fail
      refine (HL.out _).mono ?_
      rintro e w1 ⟨rfl, rfl⟩
      go_wp2_with fail
      refine HP.out.mono ?_
      rintro e w1 ⟨rfl, h, hk⟩
      have HH := Lib.hid (And.intro h hk)
      clear h hk HL HP
      go_wp2_with fail
      go_returns
      exact ⟨rfl, HH.out.1, HH.out.2.mono (fun q _ e => by rw [e]; rfl)⟩
end Go.Proofs.YtkiimljdoebclaaDoor
