/- Slices of slices of numbers: LsAt, LL, SameLists. (cut_gen.py: out of live's texts.) -/
import Derived.Test.YtkiimljdoebclaaDoorIrRow
import Derived.Test.YtkiimljdoebclaaDoorIrLow
namespace Go.Proofs.YtkiimljdoebclaaDoor
open Go.RowKit
set_option linter.unusedVariables false
set_option linter.unusedSimpArgs false

theorem infoSI : (Tryd.prog.info? 28).map (fun i => (i.zero, i.size, i.bytes)) = some (some (.slice none 0 0), 1, 24) := by kernel_rfl
/-- Rows of numbers, in a row of the call's own. -/
structure LL (B : Nat) (w : World) (v : Value) (ls : List (List Int)) : Prop where
  ex : ∃ vs : List Value, w.ownsRow B 28 1 v ls.length vs ∧ ∀ (i : Nat) (l : List Int), ls[i]? = some l → ∃ u, vs[i]? = some u ∧ w.ownsRow B 3 1 u l.length (irow l)
theorem wpList_appV (w : World) {ops : Array Oper} {rest : List Oper} {o : Oper} {a : Act} {Q : Exit → Act → World → Prop} (hgd : o.guard = none) (s x : Operand) (t : TypeId)
    (ho : o.op = .call { callee := .builtin .append, args := #[s, x], argTypes := #[t, t] }) (ht : Tryd.prog.underlying t = some (.slice 28))
    (B : Nat) (v : Value) (n : Nat) (xs : List Value) (u : Value) (q : Nat) (hs : a.eval s = v) (hown : w.ownsRow B 28 1 v n xs) (hx : a.eval x = .slice (some ⟨q, 0, none⟩) 1 1) (hq : w.heap[q]? = some (.cells #[u] 28 (0, 0))) (hu : u.oneCell' = true)
    (hn : n ≤ 999999) (hB : B ≤ w.heap.size)
    (h : ∀ g' cap w', w'.ownsRow B 28 1 (.slice (some ⟨g', 0, none⟩) (n + 1) cap) (n + 1) (xs ++ [u]) → w.grownBy w' v.ownBlock → wpList Tryd.prog ops Q rest (a.put o.dst (.slice (some ⟨g', 0, none⟩) (n + 1) cap)) w') : wpList Tryd.prog ops Q (o :: rest) a w := by
  obtain ⟨i0, hi, hz0, hz1, hz2⟩ := info_parts infoSI
  refine wpList_append_lies w hgd s x t ho B 28 i0 (.slice none 0 0) 1 24 ht hi hz0 hz1 hz2 rfl (by decide) v n xs hs hown ⟨q, 0, none⟩ 1 1 [u] hx rfl (fun j y hy => ?_) (fun y hy => by simp at hy; subst hy; exact hu) (by decide) (by unfold maxLen; omega) (by omega) hB _ rfl (fun g' cap w' k1 k2 k3 _ => h g' cap w' k1 k2)
  cases j with
  | zero => obtain rfl : u = y := by simpa using hy
            have e : (⟨q, 0, none⟩ : Addr).add 0 = ⟨q, 0, none⟩ := by unfold Addr.add; split <;> simp_all
            rw [e]; unfold World.cell?; simp only; rw [hq]; rfl
  | succ j => cases hy
/-- A slice of slices of numbers. -/
structure LsAt (w : World) (a : Option Addr) (n cap : Nat) (S : List Sl) : Prop where
  len : S.length = n
  cap : n ≤ cap ∧ cap ≤ maxLen
  at_ : ∀ (i : Nat) (s : Sl), S[i]? = some s → ∃ b off, a = some ⟨b, off, none⟩ ∧ w.cell? ⟨b, off + i, none⟩ = some s.v ∧ SlAt w s ∧ s.n ≤ 1000000
theorem LsAt.no {w w' : World} {a : Option Addr} {n cap : Nat} {S : List Sl} (h : LsAt w a n cap S) (hk : Keeps No w w') : LsAt w' a n cap S :=
  ⟨h.len, h.cap, fun i s hs => by obtain ⟨b, off, e, h1, h2, h3⟩ := h.at_ i s hs; exact ⟨b, off, e, hk.cell0 h1, h2.no hk, h3⟩⟩
theorem own_sl {w : World} {B : Nat} {v : Value} {l : List Int} (h : w.ownsRow B 3 1 v l.length (irow l)) (hb : ∀ z ∈ l, I64 z) : ∃ s : Sl, s.v = v ∧ s.l = l ∧ s.n = l.length ∧ SlAt w s := by
  rcases h.2 with ⟨h1, h2⟩ | ⟨g, cap, cur, h1, h2, h3, h4, h5, h6, h7⟩
  · exact ⟨⟨none, 0, 0, l⟩, by rw [h1, Sl.v], rfl, h2.symm, ⟨by simpa using h2, ⟨Nat.le_refl _, Nat.zero_le _⟩, hb, fun h => absurd h (Nat.lt_irrefl 0)⟩⟩
  · subst h1
    refine ⟨⟨some ⟨g, 0, none⟩, l.length, cap, l⟩, rfl, rfl, rfl, ⟨rfl, ⟨h4, h5⟩, hb, fun _ => ⟨g, 0, rfl, fun i z hz => ?_⟩⟩⟩
    rw [Nat.zero_add, World.ownsRow.cellAt h i (by have h1 : i < l.length := (List.getElem?_eq_some_iff.1 hz).1; omega)]
    exact irow_get hz
/-- Rows of the call's own are such a slice. -/
theorem LL.at_ {B : Nat} {w : World} {v : Value} {ls : List (List Int)} (h : LL B w v ls) (hb : ∀ l ∈ ls, l.length ≤ 1000000 ∧ ∀ z ∈ l, I64 z) : ∃ a n cap S, v = .slice a n cap ∧ LsAt w a n cap S ∧ S.map Sl.l = ls := by
  obtain ⟨vs, h1, h2⟩ := h.ex
  have pick : ∀ i : Nat, ∃ s : Sl, ∀ l, ls[i]? = some l → vs[i]? = some s.v ∧ s.l = l ∧ s.n = l.length ∧ SlAt w s := fun i => by
    cases hl : ls[i]? with
    | none => exact ⟨⟨none, 0, 0, []⟩, fun l e => by cases e⟩
    | some l =>
      obtain ⟨u, h3, h4⟩ := h2 i l hl
      obtain ⟨s, e1, e2, e3, e4⟩ := own_sl h4 (hb l (List.mem_of_getElem? hl)).2
      exact ⟨s, fun l' e => by injection e with e; subst e; exact ⟨by rw [h3, e1], e2, e3, e4⟩⟩
  obtain ⟨F, hF⟩ := Classical.axiomOfChoice pick
  have hlen : ((List.range ls.length).map F).length = ls.length := by simp
  have hget : ∀ (i : Nat) (s : Sl), ((List.range ls.length).map F)[i]? = some s → ∃ l, ls[i]? = some l ∧ s = F i := fun i s hs => by
    have hi : i < ls.length := by have := (List.getElem?_eq_some_iff.1 hs).1; simpa using this
    rw [List.getElem?_map, List.getElem?_range hi] at hs
    injection hs with hs
    exact ⟨ls[i], List.getElem?_eq_getElem hi, hs.symm⟩
  have hmap : ((List.range ls.length).map F).map Sl.l = ls := by
    refine List.ext_getElem? fun i => ?_
    rw [List.map_map, List.getElem?_map]
    by_cases hi : i < ls.length
    · rw [List.getElem?_range hi, List.getElem?_eq_getElem hi]
      have := (hF i ls[i] (List.getElem?_eq_getElem hi)).2.1
      simp [this]
    · rw [List.getElem?_eq_none (by simp; omega), List.getElem?_eq_none (by omega)]; rfl
  rcases h1.2 with ⟨e1, e2⟩ | ⟨g, cap, cur, e1, e2, e3, e4, e5, e6, e7⟩
  · refine ⟨none, 0, 0, (List.range ls.length).map F, e1, ⟨by rw [hlen]; exact e2, ⟨Nat.le_refl _, Nat.zero_le _⟩, fun i s hs => ?_⟩, hmap⟩
    have hi := (List.getElem?_eq_some_iff.1 hs).1
    rw [hlen, e2] at hi
    omega
  · subst e1
    refine ⟨some ⟨g, 0, none⟩, ls.length, cap, (List.range ls.length).map F, rfl, ⟨hlen, ⟨e4, e5⟩, fun i s hs => ?_⟩, hmap⟩
    obtain ⟨l, hl, rfl⟩ := hget i s hs
    obtain ⟨f1, f2, f3, f4⟩ := hF i l hl
    refine ⟨g, 0, rfl, ?_, f4, by rw [f3]; exact (hb l (List.mem_of_getElem? hl)).1⟩
    rw [Nat.zero_add, World.ownsRow.cellAt h1 i (by have := (List.getElem?_eq_some_iff.1 hl).1; omega)]
    exact f1
set_option maxRecDepth 100000 in
set_option maxHeartbeats 6400000 in
theorem same_lists (a1 a2 : Option Addr) (n1 n2 c1 c2 : Nat) (S1 S2 : List Sl) (w : World) (h1 : LsAt w a1 n1 c1 S1) (h2 : LsAt w a2 n2 c2 S2) (hn : n1 ≤ 1000000) :
    Calls Tryd.prog 7 #[.slice a1 n1 c1, .slice a2 n2 c2] w fun e w' => e = .returned (.bool (decide (S1.map Sl.l = S2.map Sl.l))) ∧ Keeps No w w' := by
  obtain ⟨X, hX⟩ : ∃ X, decide (S1.map Sl.l = S2.map Sl.l) = X := ⟨_, rfl⟩
  rw [hX]
  have HX := Lib.hid hX
  have H1 := Lib.hid h1
  have H2 := Lib.hid h2
  have hc1 := h1.cap
  have hc2 := h2.cap
  unfold maxLen at hc1 hc2
  clear hX h1 h2
  by_cases hnn : n1 = n2
  · subst hnn
    have e1 : ((n1 : Int) != (n1 : Int)) = false := by simp
    go_enter Tryd.func7, Tryd.ntmps7
    go_wp2_with fail
    go_loopg [5] n1 (fun g v wr => ∃ i : Nat, v = .int .i64 (i : Int) ∧ i ≤ n1 ∧ g = n1 - i ∧ Hid ((S1.map Sl.l).take i = (S2.map Sl.l).take i) ∧ Hid (Keeps No w wr))
    case atStart => exact ⟨0, rfl, Nat.zero_le _, rfl, Lib.hid rfl, Lib.hid (Keeps.refl _ _)⟩
    case round =>
      obtain ⟨i, rfl, hi, hg, HE, HK⟩ := hrel
      by_cases hlt : i < n1
      · have hlt' : (i : Int) < (n1 : Int) := by omega
        have i0 : (0 : Int) ≤ (i : Int) := by omega
        obtain ⟨s, hs⟩ : ∃ s, S1[i]? = some s := ⟨_, List.getElem?_eq_getElem (by rw [H1.out.len]; exact hlt)⟩
        obtain ⟨t, ht⟩ : ∃ t, S2[i]? = some t := ⟨_, List.getElem?_eq_getElem (by rw [H2.out.len]; exact hlt)⟩
        obtain ⟨b1, o1, ea1, k1, ss, sn⟩ := H1.out.at_ i s hs
        obtain ⟨b2, o2, ea2, k2, st, tn⟩ := H2.out.at_ i t ht
        subst ea1 ea2
        have HSS := Lib.hid (And.intro hs ht)
        obtain ⟨sa, sn', sc, sl⟩ := s
        obtain ⟨ta, tn', tc, tl⟩ := t
        have HCC := Lib.hid (fun (W1 : World) (hk : Keeps No wr W1) => same_ints ⟨sa, sn', sc, sl⟩ ⟨ta, tn', tc, tl⟩ W1 (ss.no (HK.out.trans hk (fun _ _ e => e))) (st.no (HK.out.trans hk (fun _ _ e => e))) sn)
        obtain ⟨Y, hY⟩ : ∃ Y, decide (sl = tl) = Y := ⟨_, rfl⟩
        have HCK : Hid (∀ (W1 : World), Keeps No wr W1 → Calls Tryd.prog 9 #[.slice sa sn' sc, .slice ta tn' tc] W1 fun e w' => e = .returned (.bool Y) ∧ Keeps No W1 w') := Lib.hid (fun W1 hk => (HCC.out W1 hk).mono (fun e w' h => by
          obtain ⟨h1, m, h2⟩ := h
          exact ⟨by rw [h1, ← hY], by rw [← h2]; exact (Keeps.refl _ _).drewN m⟩))
        have HY := Lib.hid hY
        have p1 : ∀ u : KW wr, u.W.cell? ⟨b1, o1 + i, none⟩ = some (.slice sa sn' sc) := fun u => u.cell (HK.out.cell0 k1)
        have p2 : ∀ u : KW wr, u.W.cell? ⟨b2, o2 + i, none⟩ = some (.slice ta tn' tc) := fun u => u.cell (HK.out.cell0 k2)
        have hne : Nonempty (KW wr) := ⟨KW.of _⟩
        clear hs ht ss st sn tn k1 k2 hY HCC
        go_wp2_with fail
        refine wp_region_class (C := fun W => ∃ u : KW wr, W = u.W) (by kernel_rfl) (by kernel_rfl) ⟨⟨World.drew _, (Keeps.refl _ _).drew⟩, rfl⟩ ?_
        repeat (go_big_quiet_step (first | (go_at_call 9; with_reducible refine kw_call _ (HCK.out _ (KW.h _)))))
        refine wpQuiet_nil ?_
        rintro _ ⟨T, rfl⟩
        have hk3 := T.h
        obtain ⟨w3, hw3⟩ : ∃ W, T.W = W := ⟨_, rfl⟩
        rw [hw3] at hk3 ⊢
        have HK3 : Hid (Keeps No w w3) := Lib.hid (HK.out.trans hk3 (fun _ _ e => e))
        clear hw3 p1 p2 hne hk3 T HCK
        cases Y with
        | true =>
          have HE2 : Hid ((S1.map Sl.l).take (i + 1) = (S2.map Sl.l).take (i + 1)) := Lib.hid (by
            have e := of_decide_eq_true HY.out
            obtain ⟨h1, h2⟩ := List.getElem?_eq_some_iff.1 HSS.out.1
            obtain ⟨h3, h4⟩ := List.getElem?_eq_some_iff.1 HSS.out.2
            rw [List.take_succ_eq_append_getElem (by simpa using h1), List.take_succ_eq_append_getElem (by simpa using h3), HE.out, List.getElem_map, List.getElem_map, h2, h4]
            simp [e])
          go_wp2_with fail
          go_roundg (n1 - (i + 1))
          case rel => exact ⟨i + 1, by go_num, by omega, rfl, HE2, HK3⟩
          case measure => omega
        | false =>
          have HF : Hid (X = false) := Lib.hid (by
            rw [← HX.out]
            refine decide_eq_false (fun e => ?_)
            have h := congrArg (fun l => l[i]?) e
            simp only [List.getElem?_map, HSS.out.1, HSS.out.2, Option.map_some, Option.some.injEq] at h
            exact absurd h (of_decide_eq_false HY.out))
          go_wp2_with fail
          go_returns
          exact ⟨rb rfl HF.out.symm, HK3.out⟩
      · obtain rfl : i = n1 := by omega
        have hlt' : ¬ (i : Int) < (i : Int) := by omega
        have HF : Hid (X = true) := Lib.hid (by
          rw [← HX.out]
          refine decide_eq_true ?_
          have h := HE.out
          rw [List.take_of_length_le (by rw [List.length_map, H1.out.len]; exact Nat.le_refl _), List.take_of_length_le (by rw [List.length_map, H2.out.len]; exact Nat.le_refl _)] at h
          exact h)
        go_wp2_with fail
        go_returns
        exact ⟨rb rfl HF.out.symm, HK.out⟩
  · have e1 : ((n1 : Int) != (n2 : Int)) = true := by rw [bne_iff_ne]; omega
    have HF : Hid (X = false) := Lib.hid (by
      rw [← HX.out]
      refine decide_eq_false (fun e => hnn ?_)
      have h := congrArg List.length e
      rw [List.length_map, List.length_map, H1.out.len, H2.out.len] at h
      exact h)
    clear hnn
    go_enter Tryd.func7, Tryd.ntmps7
    go_wp2_with fail
    go_returns
    exact ⟨rb rfl HF.out.symm, Keeps.refl _ _⟩
end Go.Proofs.YtkiimljdoebclaaDoor
