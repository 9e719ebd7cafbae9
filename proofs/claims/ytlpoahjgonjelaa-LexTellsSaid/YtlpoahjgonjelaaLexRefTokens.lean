/- The document's Tokens: a whole text. -/
import Derived.Test.YtlpoahjgonjelaaLexRefOne
import Derived.Test.YtlpoahjgonjelaaLexTokens
namespace Go.Proofs.Ytlpoahjgonjelaa
open Go.RowKit
set_option linter.unusedVariables false

/-- What holds of the world in the document's loop. -/
structure RInv (w : World) (v : Value) (l : List Lx.Tk) (wr : World) : Prop where
  wrg : WrAt w.heap.size wr
  own : wr.ownsRow (w.heap.size + 1) 33 6 v l.length (Lx.rowOf l)
  below : Below w.heap.size w wr
section
variable {w wr w' : World} {v : Value} {l : List Lx.Tk}
theorem RInv.lt (h : RInv w v l wr) : w.heap.size < wr.heap.size := (Array.getElem?_eq_some_iff.1 h.wrg.a).1
theorem RInv.grow (h : RInv w v l wr) (k : wr.grownBy w' none) : RInv w v l w' :=
  ⟨⟨(k.block _ h.lt (by simp)).trans h.wrg.a⟩, h.own.kept k (by cases hv : v.ownBlock with
    | none => exact .inl rfl
    | some q => exact .inr (by simp)), h.below.grown k (by have := h.lt; omega) (fun q e => by cases e)⟩
theorem RInv.alloc (h : RInv w v l wr) (o : Obj) : RInv w v l (wr.alloc o) := h.grow (gn_alloc (gn_refl wr) o)
theorem RInv.ne (h : RInv w v l wr) {k : Nat} (hk : k < w.heap.size + 1 ∨ wr.heap.size ≤ k) : v.ownBlock ≠ some k := fun e => by have := h.own.lt k e; omega
theorem RInv.app {v' : Value} {w1 : World} {o : Obj} {t : Lx.Tk} (h : RInv w v l wr) (hg : (wr.alloc o).grownBy w1 v.ownBlock) (hown : w1.ownsRow (w.heap.size + 1) 33 6 v' (l.length + 1) (Lx.rowOf l ++ t.cells)) : RInv w v' (l ++ [t]) w1 := by
  have a := h.alloc o
  refine ⟨⟨(hg.block _ a.lt (fun e => h.ne (.inl (by omega)) e.symm)).trans a.wrg.a⟩, ?_, ?_⟩
  · rw [Lx.rowOf_snoc, List.length_append]; exact hown
  · exact a.below.grown hg (by have := a.lt; omega) (fun q e => by have := (h.own.lt q e).1; omega)
theorem RInv.form (h : RInv w v l wr) : ∃ a cap, v = .slice a l.length cap := by
  rcases h.own.2 with ⟨h1, h2⟩ | ⟨g, cap, cur, h1, _⟩
  · exact ⟨none, 0, by rw [h2]; exact h1⟩
  · exact ⟨_, _, h1⟩
end
set_option maxHeartbeats 1000000 in
theorem rtokens_long (s : ByteArray) (h : 20000 < s.size) (w : World) : Calls Try.prog 10 #[.string s] w (TokensPost w (Lx.tokensM s)) := by
  have hr : Lx.tokensM s = ⟨[], 6, 0⟩ := if_pos h
  have HR := Lib.hid hr
  have h' : (20000 : Int) < (s.size : Int) := by omega
  clear hr
  go_enter Try.func10, Try.ntmps10
  go_wp2_with fail
  refine bodyPost_ret (v := .tuple #[.slice none 0 0, .agg #[.int .i64 6, .int .i64 0]]) (by simp [results, Try.results10, go_sem]) rfl (post_bad HR.out ?_)
  repeat (first | exact Below.refl _ _ | with_reducible refine Below.drew ?_ | (with_reducible refine Below.alloc ?_ ?_ _; rotate_left; first | exact Nat.le_refl _ | (simp; done) | (simp; omega)) | (with_reducible refine Below.setCell ?_ ?_ _; rotate_left; first | exact Nat.le_refl _ | (simp; done) | (simp; omega)))

set_option maxRecDepth 100000 in
set_option maxHeartbeats 8000000 in
theorem rtokens_short (s : ByteArray) (hs : s.size ≤ 20000) (w : World) : Calls Try.prog 10 #[.string s] w (TokensPost w (Lx.tokensM s)) := by
  have HR : Hid (Lx.tokensM s = Lx.toksM s (s.size + 1) 0 []) := Lib.hid (if_neg (by omega))
  have hs' : ¬ (20000 : Int) < (s.size : Int) := by omega
  have hm : s.size ≤ 4611686018427387904 := by omega
  obtain ⟨i0, hi, hz0, hz1, hz2⟩ := info_parts infoT
  have I0 : Hid (RInv w (.slice none 0 0) [] (w.alloc (.cells #[.int .i64 0, .int .i64 0] 26))) := by
    refine ⟨⟨heap_alloc_new w _⟩, World.ownsRow_nil _ _ _ _, (Below.refl _ _).alloc (Nat.le_refl _) _⟩
  obtain ⟨⟨G0, B0⟩, hgap0⟩ : ∃ r, Lx.gap s s.size 0 = r := ⟨_, rfl⟩
  have HG0 := Lib.hid hgap0
  clear hgap0
  have HG00 : Hid (∀ w1, Calls Try.prog 18 #[.string s, .int .i64 0] w1 fun e w' => e = .returned (.tuple #[.int .i64 (G0 : Int), .bool B0]) ∧ w1 = w') := Lib.hid (fun w1 => rgap_as s 0 (by omega) hm G0 B0 HG0 w1)
  go_enter Try.func10, Try.ntmps10
  go_wp2_with fail
  refine (HG00.out _).mono ?_
  rintro e w1 ⟨rfl, rfl⟩
  go_wp2_with fail
  go_loopg [4, 5, 6] s.size (fun g v x y wr => ∃ (i f j : Nat) (b : Bool) (l : List Lx.Tk), x = .int .i64 (j : Int) ∧ y = .bool b ∧ i ≤ s.size ∧ g = s.size - i ∧ g < f ∧ l.length ≤ 6000 ∧ Hid (Lx.gap s s.size i = (j, b)) ∧ Hid (Lx.tokensM s = Lx.toksM s f i l) ∧ Hid (RInv w v l wr))
  case atStart => exact ⟨0, s.size + 1, G0, B0, [], rfl, rfl, Nat.zero_le _, rfl, by omega, by decide, HG0, HR, I0⟩
  case round =>
    obtain ⟨i, f, j, b, l, rfl, rfl, hi1, hg, hf, hl, HG, HE, T⟩ := hrel
    clear HR I0 HG0
    obtain ⟨f, rfl⟩ : ∃ f', f = f' + 1 := ⟨f - 1, by omega⟩
    have hgb := Lx.gap_bd (s := s) s.size i hi1
    rw [HG.out] at hgb
    obtain ⟨hgb1, hgb2⟩ := hgb
    simp only at hgb1 hgb2
    cases b
    · have HE2 := Lib.hid (HE.out.trans (Lx.toks_bad HG.out))
      obtain ⟨t0, t1, tf⟩ := T.out.wrg.cells
      clear HE
      go_wp2_with fail
      refine bodyPost_ret (v := .tuple #[.slice none 0 0, .agg #[.int .i64 3, .int .i64 (j : Int)]]) (by simp [results, Try.results10, go_sem, t0, t1]) rfl (post_bad HE2.out ?_)
      exact (T.out.below.setCell (Nat.le_refl _) _).setCell (Nat.le_refl _) _
    · by_cases hend : j = s.size
      · have HE2 := Lib.hid (HE.out.trans (Lx.toks_end HG.out hend))
        have hq : ¬ (j : Int) < (s.size : Int) := by omega
        obtain ⟨t0, t1, tf⟩ := T.out.wrg.cells
        clear HE hend
        go_wp2_with fail
        refine bodyPost_ret (v := .tuple #[u4, .agg #[.int .i64 0, .int .i64 0]]) (by simp [results, Try.results10, go_sem, t0, t1]) rfl ?_
        rw [HE2.out]
        have hb : Below w.heap.size w _ := (T.out.below.setCell (p := ⟨w.heap.size, 0, none⟩) (Nat.le_refl _) (.int .i64 0)).setCell (p := ⟨w.heap.size, 1, none⟩) (Nat.le_refl _) (.int .i64 0)
        exact ⟨_, rfl, World.ownsRow.mono (ownsRow_setCell_below (ownsRow_setCell_below T.out.own (by show w.heap.size < _; omega) _) (by show w.heap.size < _; omega) _) (by omega), hb⟩
      · have hlt : j < s.size := by omega
        have hq : (j : Int) < (s.size : Int) := by omega
        obtain ⟨r, hr⟩ : ∃ r, Lx.tokenM s j = r := ⟨_, rfl⟩
        have hbd := Lx.tokenM_bd hlt
        have hN := rone_any s j hlt hm
        rw [hr] at hbd hN
        have HRR := Lib.hid hr
        clear hr
        obtain ⟨C, E, K, X, V, H⟩ := r
        obtain ⟨hb1, hb2, hb3, hb4, hb5, hb6⟩ := hbd
        simp only at hb1 hb2 hb3 hb4 hb5 hb6
        have HN := Lib.hid hN
        clear hN
        go_wp2_with fail
        refine (HN.out _).mono ?_
        rintro e w2 ⟨k, a, t, x, n, h, rfl, hok, hgr⟩
        have T2 := Lib.hid (T.out.grow hgr)
        have HOK := Lib.hid hok
        clear HN hgr hok T
        by_cases hC : C = 0
        · subst hC
          by_cases h6 : l.length = 6000
          · have HE2 := Lib.hid (HE.out.trans (Lx.toks_many HG.out hend (by rw [HRR.out]) h6))
            obtain ⟨a4, cap4, hf4⟩ := T2.out.form
            rw [h6] at hf4
            have T3 := Lib.hid (T2.out.alloc (.cells #[.int .i64 k, .int .i64 a, .string t, .string x, .int .u64 n, .bool h] 33))
            obtain ⟨t0, t1, tf⟩ := T3.out.wrg.cells
            clear HE T2
            subst hf4
            go_wp2_with fail
            refine bodyPost_ret (v := .tuple #[.slice none 0 0, .agg #[.int .i64 6, .int .i64 (j : Int)]]) (by simp [results, Try.results10, go_sem, t0, t1]) rfl (post_bad HE2.out ?_)
            exact (T3.out.below.setCell (Nat.le_refl _) _).setCell (Nat.le_refl _) _
          · have HE2 := Lib.hid (HE.out.trans (Lx.toks_more HG.out hend (by rw [HRR.out]) h6))
            have hjE : j < E := hb1 rfl
            obtain ⟨rfl, rfl, rfl, rfl, rfl, rfl⟩ := HOK.out rfl
            obtain ⟨a4, cap4, hf4⟩ := T2.out.form
            have h6' : ((l.length : Int) == 6000) = false := beq_eq_false_iff_ne.2 (by omega)
            have T5 := Lib.hid (T2.out.alloc (.cells #[.int .i64 k, .int .i64 (j : Int), .string (s.extract j E), .string x, .int .u64 n, .bool h] 33))
            have HNE := Lib.hid (T2.out.ne (.inr (Nat.le_refl _)))
            clear HE hb1 HOK
            have hsz := T2.out.lt
            subst hf4
            obtain ⟨⟨G, B⟩, hgap⟩ : ∃ r, Lx.gap s s.size E = r := ⟨_, rfl⟩
            have HG2 := Lib.hid hgap
            have hxs : (j : Int) + ((E - j : Nat) : Int) = (E : Int) := by omega
            have hE9 : (E : Int) ≤ 20000 := by omega
            have hx9 : ((E - j : Nat) : Int) ≤ 20000 := by omega
            have HXS := Lib.hid hxs
            clear hgap hxs
            go_wp2_with (at_builtin; (refine wpList_append_own _ rfl _ _ 23 rfl (w.heap.size + 1) 33 i0 (.agg #[.int .i64 0, .int .i64 0, .string ⟨#[]⟩, .string ⟨#[]⟩, .int .u64 0, .bool false]) 6 64 Try.underlying23 hi hz0 hz1 hz2 rfl (by decide) _ _ _ rfl (T5.out.own.alloc _) ⟨_, 0, none⟩ 1 1 [.int .i64 k, .int .i64 (j : Int), .string (s.extract j E), .string x, .int .u64 n, .bool h] rfl rfl ?a1 ?b1 (by unfold maxLen; omega) (by omega) (by simp; omega) ?_))
            case a1 =>
              intro q u hq
              match q, hq with
              | 0, hq => simp at hq; subst hq; simp [Addr.add]
              | 1, hq => simp at hq; subst hq; simp [Addr.add]
              | 2, hq => simp at hq; subst hq; simp [Addr.add]
              | 3, hq => simp at hq; subst hq; simp [Addr.add]
              | 4, hq => simp at hq; subst hq; simp [Addr.add]
              | 5, hq => simp at hq; subst hq; simp [Addr.add]
            case b1 => intro u hu; simp at hu; rcases hu with rfl | rfl | rfl | rfl | rfl | rfl <;> rfl
            intro v' w4 hown' hgrow _
            have T6 := Lib.hid (T5.out.app (t := ⟨k, j, s.extract j E, x, n, h⟩) hgrow hown')
            have G6 : TokG w2.heap.size k (j : Int) (s.extract j E) x n h w4 := ⟨(hgrow.block _ (by simp; omega) (fun e => HNE.out e.symm)).trans ((Below.heap_alloc _ _ _ (by simp)).trans (heap_alloc_new w2 _))⟩
            have g2 := G6.cells.2.2.1
            clear hgrow hown' G6 hsz h6'
            have hxs := HXS.out
            go_wp2_with fail
            (with_reducible refine (rgap_as s E hb2 hm G B HG2 _).mono ?_)
            rintro e w5 ⟨rfl, rfl⟩
            clear hxs g2
            go_wp2_with fail
            go_roundg (s.size - E)
            case rel =>
              refine ⟨E, f, G, B, l ++ [⟨k, j, s.extract j E, x, n, h⟩], rfl, rfl, hb2, rfl, by omega, by rw [List.length_append]; simp; omega, HG2, ?_, T6⟩
              rw [HE2.out, HRR.out]; exact Lib.hid rfl
            case measure => omega
        · have HE2 := Lib.hid (HE.out.trans (Lx.toks_wrong HG.out hend (by rw [HRR.out]; exact hC)))
          rw [HRR.out] at HE2
          have q1 : (C == 0) = false := beq_eq_false_iff_ne.2 hC
          have q2 : (C != 0) = true := bne_iff_ne.2 hC
          have T3 := Lib.hid (T2.out.alloc (.cells #[.int .i64 k, .int .i64 a, .string t, .string x, .int .u64 n, .bool h] 33))
          obtain ⟨t0, t1, tf⟩ := T3.out.wrg.cells
          clear HE T2 hb1
          go_wp2_with fail
          refine bodyPost_ret (v := .tuple #[.slice none 0 0, .agg #[.int .i64 C, .int .i64 (j : Int)]]) (by simp [results, Try.results10, go_sem, t0, t1]) rfl (post_bad HE2.out ?_)
          exact (T3.out.below.setCell (Nat.le_refl _) _).setCell (Nat.le_refl _) _
end Go.Proofs.Ytlpoahjgonjelaa
