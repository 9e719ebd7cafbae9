/- The scanner's Tokens: a whole text. -/
import Derived.Test.YtlpoahjgonjelaaLexToken
import Derived.Test.YtlpoahjgonjelaaLexSkip
import Derived.Test.YtlpoahjgonjelaaLexM3
import Derived.Deep.DeepCutAuto
import Derived.Deep.Onto
namespace Go.Proofs.Ytlpoahjgonjelaa
open Go.RowKit
set_option linter.unusedVariables false

/-- The answer's own Wrong, as it was made. -/
structure WrAt (r : Nat) (w : World) : Prop where
  a : w.heap[r]? = some (.cells #[.int .i64 0, .int .i64 0] 26 (0, 0))
theorem WrAt.cells {r : Nat} {w : World} (h : WrAt r w) : w.cell? ⟨r, 0, none⟩ = some (.int .i64 0) ∧ w.cell? ⟨r, 1, none⟩ = some (.int .i64 0) ∧ (∀ o, w.frozen? ⟨r, o, none⟩ = false) := by
  refine ⟨?_, ?_, fun o => ?_⟩ <;> simp [World.cell?, World.frozen?, h.a]
theorem infoT : (Try.prog.info? 33).map (fun i => (i.zero, i.size, i.bytes)) = some (some (.agg #[.int .i64 0, .int .i64 0, .string ⟨#[]⟩, .string ⟨#[]⟩, .int .u64 0, .bool false]), 6, 64) := by kernel_rfl
/-- What holds of the world in Tokens' loop. -/
structure TInv (w : World) (s : ByteArray) (i : Nat) (v : Value) (l : List Lx.Tk) (wr : World) : Prop where
  sc : wr.heap[w.heap.size + 1]? = some (.cells #[.string s, .int .i64 (i : Int)] 43 (0, 0))
  wrg : WrAt w.heap.size wr
  own : wr.ownsRow (w.heap.size + 2) 33 6 v l.length (Lx.rowOf l)
  below : Below w.heap.size w wr
section
variable {w wr w' : World} {s : ByteArray} {i j : Nat} {v : Value} {l : List Lx.Tk}
theorem TInv.scn (h : TInv w s i v l wr) : Sc (w.heap.size + 1) s i wr wr := ⟨grown_refl _ _, h.sc⟩
theorem TInv.lt (h : TInv w s i v l wr) : w.heap.size + 1 < wr.heap.size := (Array.getElem?_eq_some_iff.1 h.sc).1
theorem TInv.ne (h : TInv w s i v l wr) {k : Nat} (hk : k < w.heap.size + 2) : v.ownBlock ≠ some k := fun e => by have := (h.own.lt k e).1; omega
theorem TInv.step (h : TInv w s i v l wr) (k : Sc (w.heap.size + 1) s j wr w') : TInv w s j v l w' :=
  ⟨k.a, ⟨(k.other (by have := h.lt; omega) (by omega)).trans h.wrg.a⟩, h.own.kept k.g (.inr (h.ne (by omega))),
    h.below.grown k.g (by have := h.lt; omega) (fun q e => by have : w.heap.size + 1 = q := by simpa using e
                                                              omega)⟩
theorem TInv.alloc (h : TInv w s i v l wr) (o : Obj) : TInv w s i v l (wr.alloc o) := h.step (h.scn.alloc o)
theorem TInv.drewN (h : TInv w s i v l wr) (n : Nat) : TInv w s i v l (wr.drewN n) := h.step (h.scn.drewN n)
theorem TInv.drew (h : TInv w s i v l wr) : TInv w s i v l wr.drew := h.step h.scn.drew
theorem TInv.setq (h : TInv w s i v l wr) {q : Nat} (hq : w.heap.size + 2 ≤ q) (hv : v.ownBlock ≠ some q) (o : Nat) (u : Value) : TInv w s i v l (wr.setCell ⟨q, o, none⟩ u) :=
  ⟨(Below.heap_setCell _ _ _ _ (by show w.heap.size + 1 ≠ q; omega)).trans h.sc, ⟨(Below.heap_setCell _ _ _ _ (by show w.heap.size ≠ q; omega)).trans h.wrg.a⟩,
    ownsRow_setCell_other h.own hv u, h.below.setCell (by show w.heap.size ≤ q; omega) u⟩
theorem TInv.app {v' : Value} {w1 : World} {o : Obj} {t : Lx.Tk} (h : TInv w s i v l wr) (hg : (wr.alloc o).grownBy w1 v.ownBlock) (hown : w1.ownsRow (w.heap.size + 2) 33 6 v' (l.length + 1) (Lx.rowOf l ++ t.cells)) : TInv w s i v' (l ++ [t]) w1 := by
  have a := h.alloc o
  refine ⟨(hg.block _ a.lt (fun e => h.ne (by omega) e.symm)).trans a.sc, ⟨(hg.block _ (by have := a.lt; omega) (fun e => h.ne (by omega) e.symm)).trans a.wrg.a⟩, ?_, ?_⟩
  · rw [Lx.rowOf_snoc, List.length_append]; exact hown
  · exact a.below.grown hg (by have := a.lt; omega) (fun q e => by have := (h.own.lt q e).1; omega)
theorem TInv.form (h : TInv w s i v l wr) : ∃ a cap, v = .slice a l.length cap := by
  rcases h.own.2 with ⟨h1, h2⟩ | ⟨g, cap, cur, h1, _⟩
  · exact ⟨none, 0, by rw [h2]; exact h1⟩
  · exact ⟨_, _, h1⟩
end
/-- What Tokens answers. -/
def TokensPost (w : World) (r : Lx.TkR) (e : Ending) (w' : World) : Prop :=
  ∃ v, e = .returned (.tuple #[v, .agg #[.int .i64 r.code, .int .i64 r.pos]]) ∧ w'.ownsRow w.heap.size 33 6 v r.l.length (Lx.rowOf r.l) ∧ Below w.heap.size w w'
theorem post_bad {w w' : World} {r : Lx.TkR} {c p : Int} (hr : r = ⟨[], c, p⟩) (hb : Below w.heap.size w w') : TokensPost w r (.returned (.tuple #[.slice none 0 0, .agg #[.int .i64 c, .int .i64 p]])) w' := by
  subst hr; exact ⟨_, rfl, World.ownsRow_nil _ _ _ _, hb⟩

set_option maxHeartbeats 1000000 in
theorem tokens_long (s : ByteArray) (h : 20000 < s.size) (w : World) : Calls Try.prog 9 #[.string s] w (TokensPost w (Lx.tokensM s)) := by
  have hr : Lx.tokensM s = ⟨[], 6, 0⟩ := if_pos h
  have HR := Lib.hid hr
  have h' : (20000 : Int) < (s.size : Int) := by omega
  clear hr
  go_enter Try.func9, Try.ntmps9
  go_wp2_with fail
  refine bodyPost_ret (v := .tuple #[.slice none 0 0, .agg #[.int .i64 6, .int .i64 0]]) (by simp [results, Try.results9, go_sem]) rfl (post_bad HR.out ?_)
  repeat (first | exact Below.refl _ _ | with_reducible refine Below.drew ?_ | (with_reducible refine Below.alloc ?_ ?_ _; rotate_left; first | exact Nat.le_refl _ | (simp; done) | (simp; omega)) | (with_reducible refine Below.setCell ?_ ?_ _; rotate_left; first | exact Nat.le_refl _ | (simp; done) | (simp; omega)))

set_option maxRecDepth 100000 in
set_option maxHeartbeats 8000000 in
theorem tokens_short (s : ByteArray) (hs : s.size ≤ 20000) (w : World) : Calls Try.prog 9 #[.string s] w (TokensPost w (Lx.tokensM s)) := by
  have HR : Hid (Lx.tokensM s = Lx.toksM s (s.size + 1) 0 []) := Lib.hid (if_neg (by omega))
  have hs' : ¬ (20000 : Int) < (s.size : Int) := by omega
  have hm : s.size ≤ 4611686018427387904 := by omega
  obtain ⟨i0, hi, hz0, hz1, hz2⟩ := info_parts infoT
  have I0 : Hid (TInv w s 0 (.slice none 0 0) [] ((w.alloc (.cells #[.int .i64 0, .int .i64 0] 26)).alloc (.cells #[.string s, .int .i64 0] 43))) := by
    refine ⟨?_, ⟨?_⟩, World.ownsRow_nil _ _ _ _, ((Below.refl _ _).alloc (Nat.le_refl _) _).alloc (by simp) _⟩
    · have := heap_alloc_new (w.alloc (.cells #[.int .i64 0, .int .i64 0] 26)) (.cells #[.string s, .int .i64 0] 43)
      rw [heap_two] at this; exact this
    · exact (Below.heap_alloc _ _ _ (by simp)).trans (heap_alloc_new w _)
  go_enter Try.func9, Try.ntmps9
  go_wp2_with fail
  go_loopg [4] s.size (fun g v wr => ∃ (i f : Nat) (l : List Lx.Tk), i ≤ s.size ∧ g = s.size - i ∧ g < f ∧ l.length ≤ 6000 ∧ Hid (Lx.tokensM s = Lx.toksM s f i l) ∧ Hid (TInv w s i v l wr))
  case atStart => exact ⟨0, s.size + 1, [], Nat.zero_le _, rfl, by omega, by decide, HR, I0⟩
  case round =>
    obtain ⟨i, f, l, hi1, hg, hf, hl, HE, T⟩ := hrel
    clear HR I0
    obtain ⟨f, rfl⟩ : ∃ f', f = f' + 1 := ⟨f - 1, by omega⟩
    obtain ⟨⟨g, b⟩, hgap⟩ : ∃ r, Lx.gap s s.size i = r := ⟨_, rfl⟩
    have hgb := Lx.gap_bd (s := s) s.size i hi1
    rw [hgap] at hgb
    have hN := skip_any (w.heap.size + 1) s i hi1 hm _ _ T.out.scn
    rw [hgap] at hN
    have HG := Lib.hid hgap
    clear hgap
    go_wp2_with fail
    refine hN.mono ?_
    rintro e w1 ⟨j, he, h1, hj⟩
    cases b
    · have he' : e = .returned (.tuple #[.int .i64 (g : Int), .bool false]) := he
      subst he'
      have T1 := Lib.hid (T.out.step h1)
      have HE2 := Lib.hid (HE.out.trans (Lx.toks_bad HG.out))
      clear he hN h1 hj HE
      obtain ⟨t0, t1, tf⟩ := T1.out.wrg.cells
      go_wp2_with fail
      refine bodyPost_ret (v := .tuple #[.slice none 0 0, .agg #[.int .i64 3, .int .i64 (g : Int)]]) (by simp [results, Try.results9, go_sem, t0, t1]) rfl (post_bad HE2.out ?_)
      exact (T1.out.below.setCell (Nat.le_refl _) _).setCell (Nat.le_refl _) _
    · have he' : e = .returned (.tuple #[.int .i64 0, .bool true]) := he
      subst he'
      obtain rfl : j = g := hj rfl
      have T1 := Lib.hid (T.out.step h1)
      clear he hN h1 hj T
      have d1 := T1.out.scn.c1
      by_cases hend : j = s.size
      · have HE2 := Lib.hid (HE.out.trans (Lx.toks_end HG.out hend))
        have hq : ((j : Int) == (s.size : Int)) = true := by rw [hend]; exact beq_self_eq_true _
        obtain ⟨t0, t1, tf⟩ := T1.out.wrg.cells
        clear HE hend
        go_wp2_with fail
        refine bodyPost_ret (v := .tuple #[u4, .agg #[.int .i64 0, .int .i64 0]]) (by simp [results, Try.results9, go_sem, t0, t1]) rfl ?_
        rw [HE2.out]
        have hb : Below w.heap.size w _ := (T1.out.below.setCell (p := ⟨w.heap.size, 0, none⟩) (Nat.le_refl _) (.int .i64 0)).setCell (p := ⟨w.heap.size, 1, none⟩) (Nat.le_refl _) (.int .i64 0)
        exact ⟨_, rfl, World.ownsRow.mono (ownsRow_setCell_below (ownsRow_setCell_below T1.out.own (by show w.heap.size < _; omega) _) (by show w.heap.size < _; omega) _) (by omega), hb⟩
      · have hlt : j < s.size := by omega
        have hq : ((j : Int) == (s.size : Int)) = false := beq_eq_false_iff_ne.2 (by omega)
        obtain ⟨r, hr⟩ : ∃ r, Lx.tokenM s j = r := ⟨_, rfl⟩
        have hbd := Lx.tokenM_bd hlt
        have hN := token_any (w.heap.size + 1) s j hgb.2 hm _ _ T1.out.scn
        rw [hr] at hbd hN
        have HRR := Lib.hid hr
        clear hr
        obtain ⟨C, E, K, X, V, H⟩ := r
        unfold RecPost at hN
        obtain ⟨hb1, hb2, hb3, hb4, hb5, hb6⟩ := hbd
        simp only at hb1 hb2 hb3 hb4 hb5 hb6 hN
        go_wp2_with fail
        refine hN.mono ?_
        rintro e w2 ⟨he, h1⟩
        unfold tokV at he
        subst he
        have T2 := Lib.hid (T1.out.step h1)
        clear hN h1 d1
        by_cases hC : C = 0
        · subst hC
          by_cases h6 : l.length = 6000
          · have HE2 := Lib.hid (HE.out.trans (Lx.toks_many HG.out hend (by rw [HRR.out]) h6))
            obtain ⟨a4, cap4, hf4⟩ := T2.out.form
            rw [h6] at hf4
            obtain ⟨t0, t1, tf⟩ := (T2.out.alloc (.cells #[.int .i64 K, .int .i64 0, .string ⟨#[]⟩, .string X, .int .u64 V, .bool H] 33)).wrg.cells
            have T3 := Lib.hid (T2.out.alloc (.cells #[.int .i64 K, .int .i64 0, .string ⟨#[]⟩, .string X, .int .u64 V, .bool H] 33))
            clear HE T1 T2
            subst hf4
            go_wp2_with fail
            refine bodyPost_ret (v := .tuple #[.slice none 0 0, .agg #[.int .i64 6, .int .i64 (j : Int)]]) (by simp [results, Try.results9, go_sem, t0, t1]) rfl (post_bad HE2.out ?_)
            exact (T3.out.below.setCell (Nat.le_refl _) _).setCell (Nat.le_refl _) _
          · have HE2 := Lib.hid (HE.out.trans (Lx.toks_more HG.out hend (by rw [HRR.out]) h6))
            have hjE : j < E := hb1 rfl
            obtain ⟨a4, cap4, hf4⟩ := T2.out.form
            have h6' : ((l.length : Int) == 6000) = false := beq_eq_false_iff_ne.2 (by omega)
            have hd : ∀ o : Obj, (w2.alloc o).cell? ⟨w.heap.size + 1, 1, none⟩ = some (.int .i64 (E : Int)) := fun o => (T2.out.alloc o).scn.c1
            clear HE T1 hb1
            subst hf4
            have hj1 : (j : Int) ≤ (E : Int) := by omega
            have hj2 : (E : Int) ≤ (s.size : Int) := by omega
            go_upto_region 16 with fail
            go_cut [] (fun wx => TInv w s E (.slice a4 l.length cap4) l wx ∧ TokG w2.heap.size K (j : Int) (s.extract j E) X V H wx)
            case first =>
              go_region
              all_goals (go_wp2_with fail; go_meet)
              all_goals exact ⟨(T2.out.alloc _).drew, ⟨heap_alloc_new w2 _⟩⟩
            case rest =>
              obtain ⟨T5, G5⟩ := hcut
              have T5 := Lib.hid T5
              obtain ⟨g0, g1, g2, g3, g4, g5, gf⟩ := G5.cells
              clear hd hj1 hj2 h6' G5
              have hsz := T5.out.lt
              go_wp2_with (at_builtin; refine wpList_append_own _ rfl _ _ 23 rfl (w.heap.size + 2) 33 i0 (.agg #[.int .i64 0, .int .i64 0, .string ⟨#[]⟩, .string ⟨#[]⟩, .int .u64 0, .bool false]) 6 64 Try.underlying23 hi hz0 hz1 hz2 rfl (by decide) _ _ _ rfl (T5.out.own.alloc _) ⟨_, 0, none⟩ 1 1 [.int .i64 K, .int .i64 (j : Int), .string (s.extract j E), .string X, .int .u64 V, .bool H] rfl rfl ?a1 ?b1 (by unfold maxLen; omega) (by omega) (by simp; omega) ?_)
              case a1 =>
                intro q u hq
                match q, hq with
                | 0, hq => simp at hq; subst hq; simp [Addr.add]
                | 1, hq => simp at hq; subst hq; simp [Addr.add]
                | 2, hq => simp at hq; subst hq; simp [Addr.add]
                | 3, hq => simp at hq; subst hq; simp [Addr.add]
                | 4, hq => simp at hq; subst hq; simp [Addr.add]
                | 5, hq => simp at hq; subst hq; simp [Addr.add]
              case b1 => intro u hu; simp at hu; rcases hu with rfl | rfl | rfl | rfl | rfl | rfl <;> rfl
              intro v' w4 hown' hgrow _
              have T6 := Lib.hid (T5.out.app (t := ⟨K, j, s.extract j E, X, V, H⟩) hgrow hown')
              clear hgrow hown' g0 g1 g2 g3 g4 g5 gf
              go_wp2
              go_roundg (s.size - E)
              case rel =>
                refine ⟨E, f, l ++ [⟨K, j, s.extract j E, X, V, H⟩], hb2, rfl, by omega, by rw [List.length_append]; simp; omega, ?_, T6⟩
                rw [HE2.out, HRR.out]; exact Lib.hid rfl
              case measure => omega
        · have HE2 := Lib.hid (HE.out.trans (Lx.toks_wrong HG.out hend (by rw [HRR.out]; exact hC)))
          rw [HRR.out] at HE2
          have q1 : (C == 0) = false := beq_eq_false_iff_ne.2 hC
          have q2 : (C != 0) = true := bne_iff_ne.2 hC
          have T3 := Lib.hid (T2.out.alloc (.cells #[.int .i64 K, .int .i64 0, .string ⟨#[]⟩, .string X, .int .u64 V, .bool H] 33))
          obtain ⟨t0, t1, tf⟩ := T3.out.wrg.cells
          clear HE T1 T2 hb1
          go_wp2_with fail
          refine bodyPost_ret (v := .tuple #[.slice none 0 0, .agg #[.int .i64 C, .int .i64 (j : Int)]]) (by simp [results, Try.results9, go_sem, t0, t1]) rfl (post_bad HE2.out ?_)
          exact (T3.out.below.setCell (Nat.le_refl _) _).setCell (Nat.le_refl _) _
end Go.Proofs.Ytlpoahjgonjelaa
