/- The document's answers on moves: Free, May, Least. -/
import Derived.Test.YtheapamlhoogaaaMvRefA
namespace Go.Proofs.Ytheapamlhoogaaa
open Go.RowKit Go.Maps
set_option linter.unusedVariables false

theorem touch_at {l : List Mv.Pr} {i : Nat} {t : Mv.Pr} (h : l[i]? = some t) (x : Int) : Mv.touches (l.drop i) x = (decide (t.1 = x) || decide (t.2 = x) || Mv.touches (l.drop (i + 1)) x) := by
  rw [drop_at h]; rfl
set_option maxRecDepth 100000 in
set_option maxHeartbeats 2000000 in
theorem rfree_any (a : Option Addr) (n cap : Nat) (l : List Mv.Pr) (x : Int) (w : World) (hM : Movs w a n l) (hn : n ≤ 1000000) :
    Calls Try.prog 11 #[.slice a n cap, .int .i64 x] w fun e w' => e = .returned (.bool (!Mv.touches l x && decide (0 ≤ x))) ∧ ∃ m, w.drewN m = w' := by
  obtain ⟨X, hX⟩ : ∃ X, Mv.touches l x = X := ⟨_, rfl⟩
  rw [hX]
  have HX := Lib.hid hX
  have HR := Lib.hid hM
  clear hX hM
  go_enter Try.func11, Try.ntmps11
  go_wp2_with fail
  go_loopg [5] n (fun g v wr => ∃ i m : Nat, v = .int .i64 (i : Int) ∧ i ≤ n ∧ g = n - i ∧ Hid (Mv.touches (l.drop i) x = X) ∧ w.drewN m = wr)
  case atStart => exact ⟨0, 0, rfl, Nat.zero_le _, rfl, HX, rfl⟩
  case round =>
    clear HX
    obtain ⟨i, m, rfl, hi, hg, HX, rfl⟩ := hrel
    by_cases hlt : i < n
    · have hlt' : (i : Int) < (n : Int) := by omega
      have i0 : (0 : Int) ≤ (i : Int) := by omega
      obtain ⟨t, b, off, ht, rfl, k1, k2, _, _⟩ := HR.out.get hlt
      have HX2 : Hid ((decide (t.1 = x) || decide (t.2 = x) || Mv.touches (l.drop (i + 1)) x) = X) := Lib.hid (by rw [← touch_at ht]; exact HX.out)
      obtain ⟨T, S⟩ := t
      simp only at k1 k2 HX2
      clear ht HX
      by_cases hx : T = x
      · have HX3 : Hid (X = true) := Lib.hid (by rw [← HX2.out]; simp [hx])
        have hx1 : (T == x) = true := beq_iff_eq.2 hx
        clear HX2
        go_wp2_with fail
        try go_quiet (fail)
        go_wp2_with fail
        go_returns
        exact ⟨rb rfl (by rw [HX3.out]; rfl), _, rfl⟩
      · have hx1 : (T == x) = false := beq_eq_false_iff_ne.2 hx
        by_cases hs : S = x
        · have HX3 : Hid (X = true) := Lib.hid (by rw [← HX2.out]; simp [hs])
          have hx2 : (S == x) = true := beq_iff_eq.2 hs
          clear HX2
          go_wp2_with fail
          try go_quiet (fail)
          go_wp2_with fail
          go_returns
          exact ⟨rb rfl (by rw [HX3.out]; rfl), _, rfl⟩
        · have HX3 : Hid (Mv.touches (l.drop (i + 1)) x = X) := Lib.hid (by rw [← HX2.out]; simp [hx, hs])
          have hx2 : (S == x) = false := beq_eq_false_iff_ne.2 hs
          clear HX2
          go_wp2_with fail
          try go_quiet (fail)
          go_wp2_with fail
          go_roundg (n - (i + 1))
          case rel => exact ⟨i + 1, _, by go_num, by omega, rfl, HX3, rfl⟩
          case measure => omega
    · obtain rfl : i = n := by omega
      have hlt' : ¬ (i : Int) < (i : Int) := by omega
      have HX3 : Hid (X = false) := Lib.hid (by have := HX.out; rw [List.drop_of_length_le (by rw [HR.out.len]; exact Nat.le_refl _)] at this; exact this.symm)
      clear HX
      go_wp2_with fail
      go_returns
      exact ⟨rb rfl (by rw [HX3.out]; rfl), _, rfl⟩
theorem nodup_get : ∀ (l : List Mv.Pr), (∀ (k j : Nat) (t u : Mv.Pr), k < j → l[k]? = some t → l[j]? = some u → t.1 ≠ u.1) → (l.map (·.1)).Nodup
  | [], _ => List.nodup_nil
  | p :: l, h => by
    rw [List.map_cons, List.nodup_cons]
    refine ⟨fun hm => ?_, nodup_get l (fun k j t u hk h1 h2 => h (k + 1) (j + 1) t u (by omega) h1 h2)⟩
    obtain ⟨q, hq, e⟩ := List.mem_map.1 hm
    obtain ⟨j, hj⟩ := List.getElem?_of_mem hq
    exact h 0 (j + 1) p q (by omega) rfl hj e.symm
theorem get_nodup {l : List Mv.Pr} (h : (l.map (·.1)).Nodup) {k j : Nat} {t u : Mv.Pr} (hk : k < j) (h1 : l[k]? = some t) (h2 : l[j]? = some u) : t.1 ≠ u.1 := by
  induction l generalizing k j with
  | nil => cases h1
  | cons p l ih =>
    rw [List.map_cons, List.nodup_cons] at h
    cases j with
    | zero => omega
    | succ j =>
      cases k with
      | zero =>
        injection h1 with h1
        subst h1
        intro e
        exact h.1 (List.mem_map.2 ⟨u, List.mem_of_getElem? h2, e.symm⟩)
      | succ k => exact ih h.2 (by omega) h1 h2
set_option maxRecDepth 100000 in
set_option maxHeartbeats 2000000 in
theorem rmay_any (a : Option Addr) (n cap : Nat) (l : List Mv.Pr) (w : World) (hM : Movs w a n l) (hn : n ≤ 1000000) :
    Calls Try.prog 9 #[.slice a n cap] w fun e w' => e = .returned (.bool (Mv.mayM l)) ∧ ∃ m, w.drewN m = w' := by
  obtain ⟨X, hX⟩ : ∃ X, Mv.mayM l = X := ⟨_, rfl⟩
  rw [hX]
  have HX : Hid (X = true ↔ ((∀ t s, (t, s) ∈ l → 0 ≤ t ∧ 0 ≤ s) ∧ (l.map (·.1)).Nodup ∧ l.length ≤ 64)) := Lib.hid (by rw [← hX]; exact Mv.mayM_iff l)
  have HR := Lib.hid hM
  clear hX hM
  have hf : X ≠ true → X = false := fun h => by cases X <;> simp_all
  have HF := Lib.hid hf
  clear hf
  go_enter Try.func9, Try.ntmps9
  go_wp2_with fail
  go_loopg [3] n (fun g v wr => ∃ i m : Nat, v = .int .i64 (i : Int) ∧ i ≤ n ∧ g = n - i ∧ Hid (∀ (j : Nat) (t : Mv.Pr), j < i → l[j]? = some t → 0 ≤ t.1 ∧ 0 ≤ t.2) ∧ Hid (∀ (k j : Nat) (t u : Mv.Pr), k < j → j < i → l[k]? = some t → l[j]? = some u → t.1 ≠ u.1) ∧ w.drewN m = wr)
  case atStart => exact ⟨0, 0, rfl, Nat.zero_le _, rfl, Lib.hid (fun j t h => by omega), Lib.hid (fun k j t u h h' => by omega), rfl⟩
  case round =>
    obtain ⟨i, m, rfl, hi, hg, H1, H2, rfl⟩ := hrel
    by_cases hlt : i < n
    · have hlt' : (i : Int) < (n : Int) := by omega
      have i0 : (0 : Int) ≤ (i : Int) := by omega
      obtain ⟨t, b, off, ht, rfl, k1, k2, _, _⟩ := HR.out.get hlt
      have HT := Lib.hid ht
      obtain ⟨T, S⟩ := t
      simp only at k1 k2
      clear ht
      by_cases hT : T < 0
      · have HX3 : Hid (X = false) := Lib.hid (HF.out (fun e => by have := ((HX.out.1 e).1 T S (List.mem_of_getElem? HT.out)).1; omega))
        go_wp2_with fail
        try go_quiet (fail)
        go_wp2_with fail
        go_returns
        exact ⟨rb rfl HX3.out.symm, _, rfl⟩
      · have hT1 : (T < 0) = False := eq_false hT
        have hT2 : decide (T < 0) = false := decide_eq_false hT
        by_cases hS : S < 0
        · have HX3 : Hid (X = false) := Lib.hid (HF.out (fun e => by have := ((HX.out.1 e).1 T S (List.mem_of_getElem? HT.out)).2; omega))
          go_wp2_with fail
          try go_quiet (fail)
          go_wp2_with fail
          go_returns
          exact ⟨rb rfl HX3.out.symm, _, rfl⟩
        · have hS1 : (S < 0) = False := eq_false hS
          have hS2 : decide (S < 0) = false := decide_eq_false hS
          go_wp2_with fail
          try go_quiet (fail)
          go_wp2_with fail
          go_loopg [4] i (fun g v wr => ∃ k2 m2 : Nat, v = .int .i64 (k2 : Int) ∧ k2 ≤ i ∧ g = i - k2 ∧ Hid (∀ (k' : Nat) (t : Mv.Pr), k' < k2 → l[k']? = some t → t.1 ≠ T) ∧ w.drewN m2 = wr)
          case atStart => exact ⟨0, _, rfl, Nat.zero_le _, rfl, Lib.hid (fun k' t h => by omega), rfl⟩
          case round =>
            obtain ⟨c, m2, rfl, hc, hgc, H3, rfl⟩ := hrel
            by_cases hlc : c < i
            · have hlc' : (c : Int) < (i : Int) := by omega
              have c0 : (0 : Int) ≤ (c : Int) := by omega
              have cn : (c : Int) < (n : Int) := by omega
              obtain ⟨t, b2, off2, ht2, hbb, j1, j2, _, _⟩ := HR.out.get (show c < n by omega)
              injection hbb with hbb
              injection hbb with hb1 hb2 _
              subst hb1 hb2
              have HT2 := Lib.hid ht2
              obtain ⟨T2, S2⟩ := t
              simp only at j1 j2
              clear ht2
              by_cases he : T2 = T
              · have he1 : (T2 == T) = true := beq_iff_eq.2 he
                have HX3 : Hid (X = false) := Lib.hid (HF.out (fun e => get_nodup (HX.out.1 e).2.1 hlc HT2.out HT.out he))
                go_wp2_with fail
                try go_quiet (fail)
                go_wp2_with fail
                go_returns
                exact ⟨rb rfl HX3.out.symm, m2 + nq, by rw [World.drewN_drewN]⟩
              · have he1 : (T2 == T) = false := beq_eq_false_iff_ne.2 he
                go_wp2_with fail
                try go_quiet (fail)
                go_wp2_with fail
                go_roundg (i - (c + 1))
                case rel =>
                  refine ⟨c + 1, _, by go_num, by omega, rfl, Lib.hid (fun k' t hk' ht => ?_), rfl⟩
                  by_cases e : k' = c
                  · subst e; rw [HT2.out] at ht; injection ht with ht; subst ht; exact he
                  · exact H3.out k' t (by omega) ht
                case measure => omega
            · obtain rfl : c = i := by omega
              have hlc' : ¬ (c : Int) < (c : Int) := by omega
              go_wp2_with fail
              go_roundg (n - (c + 1))
              case rel =>
                refine ⟨c + 1, _, by go_num, by omega, rfl, Lib.hid (fun j t hj ht => ?_), Lib.hid (fun k j t u hk hj h1 h2 => ?_), rfl⟩
                · by_cases e : j = c
                  · subst e; rw [HT.out] at ht; injection ht with ht; subst ht; simp only; omega
                  · exact H1.out j t (by omega) ht
                · by_cases e : j = c
                  · subst e; rw [HT.out] at h2; injection h2 with h2; subst h2; exact H3.out k t hk h1
                  · exact H2.out k j t u hk (by omega) h1 h2
              case measure => omega
    · obtain rfl : i = n := by omega
      have hlt' : ¬ (i : Int) < (i : Int) := by omega
      have HX3 : Hid (decide ((i : Int) ≤ 64) = X) := Lib.hid (by
        have hp : (∀ t s, (t, s) ∈ l → 0 ≤ t ∧ 0 ≤ s) := fun t s hm => by
          obtain ⟨j, hj⟩ := List.getElem?_of_mem hm
          have := (List.getElem?_eq_some_iff.1 hj).1
          rw [HR.out.len] at this
          exact H1.out j (t, s) this hj
        have hnd : (l.map (·.1)).Nodup := nodup_get l (fun k j t u hk h1 h2 => by
          have := (List.getElem?_eq_some_iff.1 h2).1
          rw [HR.out.len] at this
          exact H2.out k j t u hk this h1 h2)
        have hl := HR.out.len
        by_cases h : (i : Int) ≤ 64
        · rw [decide_eq_true h]; exact (HX.out.2 ⟨hp, hnd, by omega⟩).symm
        · rw [decide_eq_false h]; exact (HF.out (fun e => by have := (HX.out.1 e).2.2; omega)).symm)
      go_wp2_with fail
      go_returns
      exact ⟨rb rfl HX3.out, _, rfl⟩
end Go.Proofs.Ytheapamlhoogaaa
