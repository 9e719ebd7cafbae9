/- Pointers held against one another: Less, Distance, Move, sure, Equal. -/
import Derived.Test.YtjchfldlmabblaaMmStoreA
namespace Go.Proofs.Ytjchfldlmabblaa
open Go.RowKit Go.Maps
set_option linter.unusedVariables false

theorem within_as (S : Sd) (p q : Vl) (X : Bool) (hX : withinV S.view p q = X) (hp : vlOk p) (hq : vlOk q) (w W : World) (h : StoreAs w S) (hk : Keeps No w W) :
    Calls Try.prog 47 #[.pointer (some ⟨S.s, 0, none⟩), va p, va q] W fun e w' => e = .returned (.bool X) ∧ Keeps No W w' := by
  rw [← hX]; exact within_any S p q W (h.no hk) hp hq
set_option maxHeartbeats 800000 in
theorem less_any (S : Sd) (p q : Vl) (w : World) (h : StoreAs w S) (hp : vlOk p) (hq : vlOk q) :
    Calls Try.prog 37 #[.pointer (some ⟨S.s, 0, none⟩), va p, va q] w fun e w' => e = .returned (.tuple #[.bool (lessV S.view p q).1, .bool (lessV S.view p q).2]) ∧ Keeps No w w' := by
  obtain ⟨X, hX⟩ : ∃ X, withinV S.view p q = X := ⟨_, rfl⟩
  have HA := Lib.hid (fun W hk => within_as S p q X hX hp hq w W h hk)
  have HP := Lib.hid (fun W => @two_params w p q W)
  cases X with
  | false =>
    rw [show lessV S.view p q = (false, false) by unfold lessV; rw [hX]; rfl]
    clear h hX hp hq
    obtain ⟨pk, pn, pb, po⟩ := p
    obtain ⟨qk, qn, qb, qo⟩ := q
    go_enter Try.func37, Try.ntmps37
    go_wp2_with fail
    refine (HA.out _ (by repeat (first | with_reducible exact Keeps.refl _ _ | with_reducible refine Keeps.alloc ?_ _ | with_reducible refine Keeps.drewN ?_ _ | with_reducible refine Keeps.drew ?_ | with_reducible refine Keeps.setCell ?_ (.inr (by simp)) _ | with_reducible refine Keeps.setRow ?_ (by simp) _))).mono ?_
    rintro e w1 ⟨rfl, hg1⟩
    obtain ⟨⟨a1, a2, a3, a4⟩, ⟨b1, b2, b3, b4⟩, HK1, _⟩ := HP.out w1 hg1
    clear hg1
    go_wp2_with fail
    go_returns
    exact ⟨rfl, HK1.out⟩
  | true =>
    rw [show lessV S.view p q = (decide (p.o < q.o), true) by unfold lessV; rw [hX]; rfl]
    clear h hX hp hq
    obtain ⟨pk, pn, pb, po⟩ := p
    obtain ⟨qk, qn, qb, qo⟩ := q
    go_enter Try.func37, Try.ntmps37
    go_wp2_with fail
    refine (HA.out _ (by repeat (first | with_reducible exact Keeps.refl _ _ | with_reducible refine Keeps.alloc ?_ _ | with_reducible refine Keeps.drewN ?_ _ | with_reducible refine Keeps.drew ?_ | with_reducible refine Keeps.setCell ?_ (.inr (by simp)) _ | with_reducible refine Keeps.setRow ?_ (by simp) _))).mono ?_
    rintro e w1 ⟨rfl, hg1⟩
    obtain ⟨⟨a1, a2, a3, a4⟩, ⟨b1, b2, b3, b4⟩, HK1, _⟩ := HP.out w1 hg1
    clear hg1
    go_wp2_with fail
    go_returns
    exact ⟨rfl, HK1.out⟩
set_option maxHeartbeats 800000 in
theorem dist_any (S : Sd) (p q : Vl) (w : World) (h : StoreAs w S) (hp : vlOk p) (hq : vlOk q) :
    Calls Try.prog 42 #[.pointer (some ⟨S.s, 0, none⟩), va p, va q] w fun e w' => e = .returned (.tuple #[.int .i64 (distV S.view p q).1, .bool (distV S.view p q).2]) ∧ Keeps No w w' := by
  obtain ⟨X, hX⟩ : ∃ X, withinV S.view p q = X := ⟨_, rfl⟩
  have HA := Lib.hid (fun W hk => within_as S p q X hX hp hq w W h hk)
  have HP := Lib.hid (fun W => @two_params w p q W)
  cases X with
  | false =>
    rw [show distV S.view p q = (0, false) by unfold distV; rw [hX]; rfl]
    clear h hX hp hq
    obtain ⟨pk, pn, pb, po⟩ := p
    obtain ⟨qk, qn, qb, qo⟩ := q
    go_enter Try.func42, Try.ntmps42
    go_wp2_with fail
    refine (HA.out _ (by repeat (first | with_reducible exact Keeps.refl _ _ | with_reducible refine Keeps.alloc ?_ _ | with_reducible refine Keeps.drewN ?_ _ | with_reducible refine Keeps.drew ?_ | with_reducible refine Keeps.setCell ?_ (.inr (by simp)) _ | with_reducible refine Keeps.setRow ?_ (by simp) _))).mono ?_
    rintro e w1 ⟨rfl, hg1⟩
    obtain ⟨⟨a1, a2, a3, a4⟩, ⟨b1, b2, b3, b4⟩, HK1, _⟩ := HP.out w1 hg1
    clear hg1
    go_wp2_with fail
    go_returns
    exact ⟨rfl, HK1.out⟩
  | true =>
    rw [show distV S.view p q = (w64 (p.o - q.o), true) by unfold distV; rw [hX]; rfl]
    clear h hX hp hq
    obtain ⟨pk, pn, pb, po⟩ := p
    obtain ⟨qk, qn, qb, qo⟩ := q
    go_enter Try.func42, Try.ntmps42
    go_wp2_with fail
    refine (HA.out _ (by repeat (first | with_reducible exact Keeps.refl _ _ | with_reducible refine Keeps.alloc ?_ _ | with_reducible refine Keeps.drewN ?_ _ | with_reducible refine Keeps.drew ?_ | with_reducible refine Keeps.setCell ?_ (.inr (by simp)) _ | with_reducible refine Keeps.setRow ?_ (by simp) _))).mono ?_
    rintro e w1 ⟨rfl, hg1⟩
    obtain ⟨⟨a1, a2, a3, a4⟩, ⟨b1, b2, b3, b4⟩, HK1, _⟩ := HP.out w1 hg1
    clear hg1
    go_wp2_with fail
    go_returns
    exact ⟨rfl, HK1.out⟩
theorem spans_as (S : Sd) (d : Bk) (k : Int) (o : Int) (V : Bool) (hV : spanV d.view o = V) (w : World) (h : StoreAs w S) (hd : kget S.bs k = some d) (W : World) (hk : Keeps No w W) :
    Calls Try.prog 46 #[.pointer (some ⟨d.kb, 0, none⟩), .int .i64 o] W fun e w' => e = .returned (.bool V) ∧ w' = W := by
  rw [← hV]; exact spans_any d o W ((h.b k d hd).1.no hk)
set_option maxHeartbeats 800000 in
theorem move_any (S : Sd) (p : Vl) (n : Int) (w : World) (h : StoreAs w S) (hp : vlOk p) :
    Calls Try.prog 36 #[.pointer (some ⟨S.s, 0, none⟩), va p, .int .i64 n] w fun e w' => e = .returned (.tuple #[va (moveV S.view p n).1, .bool (moveV S.view p n).2]) ∧ Keeps No w w' := by
  obtain ⟨A, hA⟩ : ∃ A, S.at p = A := ⟨_, rfl⟩
  have HA := Lib.hid (fun W hk => at_as S p A hA hp w W h hk)
  have HP := Lib.hid (fun W => @two_params w p v0 W)
  cases A with
  | none =>
    rw [show moveV S.view p n = (v0, false) by unfold moveV; rw [at_none hA]]
    clear h hA hp
    obtain ⟨pk, pn, pb, po⟩ := p
    go_enter Try.func36, Try.ntmps36
    go_wp2_with fail
    refine (HA.out _ (by repeat (first | with_reducible exact Keeps.refl _ _ | with_reducible refine Keeps.alloc ?_ _ | with_reducible refine Keeps.drewN ?_ _ | with_reducible refine Keeps.drew ?_ | with_reducible refine Keeps.setCell ?_ (.inr (by simp)) _ | with_reducible refine Keeps.setRow ?_ (by simp) _))).mono ?_
    rintro e w1 ⟨rfl, hg1⟩
    obtain ⟨⟨a1, a2, a3, a4⟩, _, HK1, _⟩ := HP.out w1 hg1
    have HR := Lib.hid (row_of2 hg1)
    clear hg1
    simp only [ptrV]
    go_wp2_with fail
    rw [set4 HR.out]
    have hrc := row_cell w1 _ #[.int .i64 0, .int .i64 0, .int .i64 0, .int .i64 0] HR.out
    refine bodyPost_ret (v := .tuple #[.agg #[.int .i64 0, .int .i64 0, .int .i64 0, .int .i64 0], .bool false]) ?_ ?_ ⟨rfl, (by repeat (first | with_reducible exact HK1.out | with_reducible refine Keeps.alloc ?_ _ | with_reducible refine Keeps.drewN ?_ _ | with_reducible refine Keeps.drew ?_ | with_reducible refine Keeps.setCell ?_ (.inr (by simp)) _ | with_reducible refine Keeps.setRow ?_ (by simp) _))⟩
    · simp [results, Try.results36, go_sem, hrc]
    · rfl
  | some A =>
    obtain ⟨d, hd, rfl, hat, hsp⟩ := at_some hA
    obtain ⟨T, hT⟩ : ∃ T, w64 (p.o + n) = T := ⟨_, rfl⟩
    obtain ⟨V, hV⟩ : ∃ V, spanV d.view T = V := ⟨_, rfl⟩
    have HV := Lib.hid (fun W hk => spans_as S d p.b T V hV w h hd W hk)
    have hT2 : wrap64 (p.o + n) = T := hT
    cases V with
    | false =>
      rw [show moveV S.view p n = (v0, false) by unfold moveV; rw [hat]; simp only; rw [hT, hV]; rfl]
      clear h hA hp hT hV hd hat hsp
      obtain ⟨pk, pn, pb, po⟩ := p
      simp only at hT2
      go_enter Try.func36, Try.ntmps36
      go_wp2_with fail
      refine (HA.out _ (by repeat (first | with_reducible exact Keeps.refl _ _ | with_reducible refine Keeps.alloc ?_ _ | with_reducible refine Keeps.drewN ?_ _ | with_reducible refine Keeps.drew ?_ | with_reducible refine Keeps.setCell ?_ (.inr (by simp)) _ | with_reducible refine Keeps.setRow ?_ (by simp) _))).mono ?_
      rintro e w1 ⟨rfl, hg1⟩
      obtain ⟨⟨a1, a2, a3, a4⟩, _, HK1, _⟩ := HP.out w1 hg1
      have HR := Lib.hid (row_of2 hg1)
      clear hg1
      simp only [ptrV]
      go_wp2_with fail
      refine (HV.out _ HK1.out).mono ?_
      rintro e w2 ⟨rfl, rfl⟩
      go_wp2_with fail
      rw [set4 HR.out]
      have hrc := row_cell w2 _ #[.int .i64 0, .int .i64 0, .int .i64 0, .int .i64 0] HR.out
      refine bodyPost_ret (v := .tuple #[.agg #[.int .i64 0, .int .i64 0, .int .i64 0, .int .i64 0], .bool false]) ?_ ?_ ⟨rfl, (by repeat (first | with_reducible exact HK1.out | with_reducible refine Keeps.alloc ?_ _ | with_reducible refine Keeps.drewN ?_ _ | with_reducible refine Keeps.drew ?_ | with_reducible refine Keeps.setCell ?_ (.inr (by simp)) _ | with_reducible refine Keeps.setRow ?_ (by simp) _))⟩
      · simp [results, Try.results36, go_sem, hrc]
      · rfl
    | true =>
      rw [show moveV S.view p n = (⟨2, 0, p.b, T⟩, true) by unfold moveV; rw [hat]; simp only; rw [hT, hV]; rfl]
      clear h hA hp hT hV hd hat hsp
      obtain ⟨pk, pn, pb, po⟩ := p
      simp only at hT2
      go_enter Try.func36, Try.ntmps36
      go_wp2_with fail
      refine (HA.out _ (by repeat (first | with_reducible exact Keeps.refl _ _ | with_reducible refine Keeps.alloc ?_ _ | with_reducible refine Keeps.drewN ?_ _ | with_reducible refine Keeps.drew ?_ | with_reducible refine Keeps.setCell ?_ (.inr (by simp)) _ | with_reducible refine Keeps.setRow ?_ (by simp) _))).mono ?_
      rintro e w1 ⟨rfl, hg1⟩
      obtain ⟨⟨a1, a2, a3, a4⟩, _, HK1, _⟩ := HP.out w1 hg1
      have HR := Lib.hid (row_of2 hg1)
      clear hg1
      simp only [ptrV]
      go_wp2_with fail
      refine (HV.out _ HK1.out).mono ?_
      rintro e w2 ⟨rfl, rfl⟩
      go_wp2_with fail
      rw [set4 HR.out]
      have hrc := row_cell w2 _ #[.int .i64 2, .int .i64 0, .int .i64 pb, .int .i64 T] HR.out
      refine bodyPost_ret (v := .tuple #[.agg #[.int .i64 2, .int .i64 0, .int .i64 pb, .int .i64 T], .bool true]) ?_ ?_ ⟨rfl, (by repeat (first | with_reducible exact HK1.out | with_reducible refine Keeps.alloc ?_ _ | with_reducible refine Keeps.drewN ?_ _ | with_reducible refine Keeps.drew ?_ | with_reducible refine Keeps.setCell ?_ (.inr (by simp)) _ | with_reducible refine Keeps.setRow ?_ (by simp) _))⟩
      · simp [results, Try.results36, go_sem, hrc]
      · rfl
abbrev p1 (w : World) (p : Vl) : World := w.alloc (.cells #[.int .i64 p.k, .int .i64 p.n, .int .i64 p.b, .int .i64 p.o] 80)
theorem p1_k (w : World) (p : Vl) {W : World} (h : Keeps No (p1 w p) W) : Keeps No w W := ((Keeps.refl _ _).alloc _).tr h
abbrev p2 (w : World) (p q : Vl) : World := (w.alloc (.cells #[.int .i64 p.k, .int .i64 p.n, .int .i64 p.b, .int .i64 p.o] 80)).alloc (.cells #[.int .i64 q.k, .int .i64 q.n, .int .i64 q.b, .int .i64 q.o] 80)
theorem p2_k (w : World) (p q : Vl) {W : World} (h : Keeps No (p2 w p q) W) : Keeps No w W := (((Keeps.refl _ _).alloc _).alloc _).tr h
end Go.Proofs.Ytjchfldlmabblaa
