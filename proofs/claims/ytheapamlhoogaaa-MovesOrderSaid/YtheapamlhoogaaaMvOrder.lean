/- moves.Order: its contract, by what it makes. -/
import Derived.Test.YtheapamlhoogaaaMvShufW
namespace Go.Proofs.Ytheapamlhoogaaa
open Go.RowKit Go.Maps
set_option linter.unusedVariables false

theorem infoV : (Try.prog.info? 32).map (fun i => (i.zero, i.size, i.bytes)) = some (some (.agg #[.int .i64 0, .int .i64 0]), 2, 16) := by kernel_rfl
/-- What Order answers. -/
def OrdPost (w : World) (res : List Mv.Pr) (ok : Bool) (e : Ending) (w' : World) : Prop :=
  ∃ v, e = .returned (.tuple #[v, .bool ok]) ∧ w'.ownsRow w.heap.size 32 2 v res.length (mrow res) ∧ (∀ t ∈ res, I64 t.1 ∧ I64 t.2) ∧ res.length ≤ 10000 ∧ Below w.heap.size w w'
theorem ord_none {w w' : World} (hb : Below w.heap.size w w') : OrdPost w [] false (.returned (.tuple #[.slice none 0 0, .bool false])) w' :=
  ⟨_, rfl, World.ownsRow_nil _ _ _ _, (fun t ht => by cases ht), by decide, hb⟩
theorem touches_take {l : List Mv.Pr} {sp : Int} {i : Nat} {t : Mv.Pr} (ht : l[i]? = some t) : Mv.touches (l.take (i + 1)) sp = (Mv.touches (l.take i) sp || (decide (t.1 = sp) || decide (t.2 = sp))) := by
  rw [List.take_add_one, ht]; unfold Mv.touches; rw [List.any_append]; simp
theorem touches_in {l : List Mv.Pr} {sp : Int} {i : Nat} {t : Mv.Pr} (ht : l[i]? = some t) (h : t.1 = sp ∨ t.2 = sp) : Mv.touches l sp = true := by
  unfold Mv.touches; rw [List.any_eq_true]; exact ⟨t, List.mem_of_getElem? ht, by rcases h with h | h <;> simp [h]⟩
theorem mrow_take {l : List Mv.Pr} {i : Nat} {t : Mv.Pr} (ht : l[i]? = some t) : mrow (l.take (i + 1)) = mrow (l.take i) ++ [.int .i64 t.1, .int .i64 t.2] := by
  rw [List.take_add_one, ht]; exact mrow_snoc _ _
set_option maxRecDepth 100000 in
set_option maxHeartbeats 8000000 in
theorem order_any (a : Option Addr) (n cap : Nat) (l : List Mv.Pr) (sp : Int) (res : List Mv.Pr) (ok : Bool) (w : World) (hM : Movs w a n l) (hn : n ≤ 9223372036854775807) (hsp : I64 sp) (hres : Mv.orderM l sp = some (res, ok)) :
    Calls Try.prog 7 #[.slice a n cap, .int .i64 sp] w (OrdPost w res ok) := by
  obtain ⟨m, hm⟩ : ∃ m, Mv.mayM l = m := ⟨_, rfl⟩
  have HR := Lib.hid hM
  have HM := Lib.hid hm
  unfold Mv.orderM at hres
  rw [hm] at hres
  cases m
  · rw [if_pos rfl] at hres
    injection hres with hres
    injection hres with e1 e2
    subst e1 e2
    clear hm hM
    go_enter Try.func7, Try.ntmps7
    go_wp2_with fail
    refine (may_as a n cap l false HM w HR.out hn).mono ?_
    rintro e w1 ⟨rfl, hb1⟩
    have HB1 := Lib.hid hb1
    clear hb1
    go_wp2_with fail
    go_returns
    exact ord_none HB1.out
  · rw [if_neg (by decide)] at hres
    have hn64 : n ≤ 64 := by
      have h := hm
      unfold Mv.mayM at h
      rw [hM.len] at h
      split at h
      · cases h
      · omega
    by_cases hs0 : sp < 0
    · rw [if_pos hs0] at hres
      injection hres with hres
      injection hres with e1 e2
      subst e1 e2
      clear hm hM
      go_enter Try.func7, Try.ntmps7
      go_wp2_with fail
      refine (may_as a n cap l true HM w HR.out hn).mono ?_
      rintro e w1 ⟨rfl, hb1⟩
      have HB1 := Lib.hid hb1
      clear hb1
      go_wp2_with fail
      go_returns
      exact ord_none HB1.out
    · rw [if_neg hs0] at hres
      have HRES := Lib.hid hres
      clear hm hM hres
      go_enter Try.func7, Try.ntmps7
      go_wp2_with fail
      refine (may_as a n cap l true HM w HR.out hn).mono ?_
      rintro e w1 ⟨rfl, hb1⟩
      have HB1 := Lib.hid hb1
      clear hb1
      go_wp2_with fail
      go_loopg [6, 21] n (fun g x v wr => ∃ i : Nat, v = .int .i64 (i : Int) ∧ i ≤ n ∧ g = n - i ∧ Hid (Mv.touches (l.take i) sp = false) ∧ Hid (wr.ownsRow w.heap.size 42 2 x i (mrow (l.take i))) ∧ Hid (Below w.heap.size w wr))
      case atStart => exact ⟨0, rfl, Nat.zero_le _, rfl, Lib.hid rfl, Lib.hid (World.ownsRow_nil _ _ _ _), HB1⟩
      case round =>
        obtain ⟨i, rfl, hi, hg, HT, HO, HB⟩ := hrel
        clear HB1
        by_cases hlt : i < n
        · have hlt' : (i : Int) < (n : Int) := by omega
          have i0 : (0 : Int) ≤ (i : Int) := by omega
          obtain ⟨b, off, rfl, hc⟩ := HR.out.at_ (by omega)
          obtain ⟨t, ht⟩ : ∃ t, l[i]? = some t := ⟨_, List.getElem?_eq_getElem (by rw [HR.out.len]; exact hlt)⟩
          obtain ⟨k1, k2⟩ := movs_at HB.out hc ht
          have HT2 := Lib.hid (touches_take (sp := sp) ht)
          have HT3 := fun h => Lib.hid (touches_in (sp := sp) ht h)
          have HO2 := Lib.hid (mrow_take ht)
          obtain ⟨T, S⟩ := t
          simp only at k1 k2 HT2 HT3 HO2
          clear ht hc
          by_cases hT : T = sp
          · have HT4 := HT3 (.inl hT)
            have hT1 : (T == sp) = true := beq_iff_eq.2 hT
            have HE : Hid (res = [] ∧ ok = false) := Lib.hid (by have h := HRES.out; rw [HT4.out, if_pos rfl] at h; injection h with h; injection h with h1 h2; exact ⟨h1.symm, h2.symm⟩)
            obtain ⟨rfl, rfl⟩ := HE.out
            clear HT2 HT3 HT4 HE
            subst hT
            go_wp2_with fail
            go_returns
            exact ord_none (HB.out.alloc HB.out.size _)
          · by_cases hS : S = sp
            · have HT4 := HT3 (.inr hS)
              have hT1 : (T == sp) = false := beq_eq_false_iff_ne.2 hT
              have hT2 : (T != sp) = true := bne_iff_ne.2 hT
              have HE : Hid (res = [] ∧ ok = false) := Lib.hid (by have h := HRES.out; rw [HT4.out, if_pos rfl] at h; injection h with h; injection h with h1 h2; exact ⟨h1.symm, h2.symm⟩)
              obtain ⟨rfl, rfl⟩ := HE.out
              clear HT2 HT3 HT4 HE
              subst hS
              go_wp2_with fail
              go_returns
              exact ord_none (HB.out.alloc HB.out.size _)
            · have hT1 : (T == sp) = false := beq_eq_false_iff_ne.2 hT
              have hS1 : (S == sp) = false := beq_eq_false_iff_ne.2 hS
              have HT5 : Hid (Mv.touches (l.take (i + 1)) sp = false) := Lib.hid (by rw [HT2.out, HT.out]; simp [hT, hS])
              have hsz := HB.out.size
              have hO1 := HO.out.alloc (.cells #[.int .i64 T, .int .i64 S] 32)
              have hBA := HB.out.alloc HB.out.size (.cells #[.int .i64 T, .int .i64 S] 32)
              have m1 := heap_alloc_new wr (.cells #[.int .i64 T, .int .i64 S] 32)
              have z1 := heap_two wr (.cells #[.int .i64 T, .int .i64 S] 32)
              obtain ⟨W1, hW1⟩ : ∃ W1, wr.alloc (.cells #[.int .i64 T, .int .i64 S] 32) = W1 := ⟨_, rfl⟩
              rw [hW1] at hO1 hBA m1 z1
              obtain ⟨q, hq⟩ : ∃ q, wr.heap.size = q := ⟨_, rfl⟩
              rw [hq] at m1 z1
              have c1 : W1.cell? ⟨q, 0, none⟩ = some (.int .i64 T) := by simp [World.cell?, m1]
              have c2 : W1.cell? ⟨q, 1, none⟩ = some (.int .i64 S) := by simp [World.cell?, m1]
              have HO1 := Lib.hid hO1
              have HBA := Lib.hid hBA
              have HNE : Hid (∀ q, u6.ownBlock = some q → w.heap.size ≤ q) := Lib.hid (fun q e => (HO.out.lt q e).1)
              obtain ⟨aa, ca, hv6, _⟩ := own_form HO.out
              subst hv6
              have hsz3 := hBA.size
              clear HT2 HT3 hO1 hBA m1 z1
              go_wp2_with (at_builtin; refine wpList_app1 _ rfl _ _ 41 42 rfl Try.underlying41 infoM w.heap.size _ i (l.take i) T S W1.heap.size rfl (HO1.out.alloc _) rfl (heap_alloc_new _ _) (by omega) (by rw [heap_two]; omega) (W1.heap.size + 1) (heap_two _ _) ?_)
              intro g5 cap5 w5 hown hgrow _
              have HOW : Hid (w5.ownsRow w.heap.size 42 2 (.slice (some ⟨g5, 0, none⟩) (i + 1) cap5) (i + 1) (mrow (l.take (i + 1)))) := Lib.hid (by rw [HO2.out]; exact hown)
              have HBW : Hid (Below w.heap.size w w5) := Lib.hid ((HBA.out.alloc (by omega) _).grown hgrow (by rw [heap_two]; omega) HNE.out)
              clear hown hgrow k1 k2 c1 c2 hW1 hq
              go_wp2_with fail
              go_roundg (n - (i + 1))
              case rel => exact ⟨i + 1, by go_num, by omega, rfl, HT5, HOW, HBW⟩
              case measure => omega
        · obtain rfl : i = n := by omega
          have hlt' : ¬ (i : Int) < (i : Int) := by omega
          have htk : l.take i = l := List.take_of_length_le (by rw [HR.out.len]; exact Nat.le_refl _)
          have HE : Hid (Mv.shufM l sp = some res ∧ ok = true) := Lib.hid (by
            have h := HRES.out
            have hT := HT.out
            rw [htk] at hT
            rw [hT, if_neg (by decide)] at h
            cases hs : Mv.shufM l sp with
            | none => rw [hs] at h; cases h
            | some r => rw [hs] at h; injection h with h; injection h with h1 h2; rw [h1]; exact ⟨rfl, h2.symm⟩)
          obtain ⟨hsh, rfl⟩ := HE.out
          have HSH := Lib.hid hsh
          have HO1 : Hid (wr.ownsRow w.heap.size 42 2 u6 i (mrow l)) := Lib.hid (by have h := HO.out; rw [htk] at h; exact h)
          obtain ⟨aa, ca, hv6, _⟩ := own_form HO.out
          subst hv6
          have HMV : Hid (Movs wr aa i l) := Lib.hid (Movs.of_row HO1.out HR.out.len HR.out.bd)
          clear HE hsh htk HO HRES HT
          go_wp2_with fail
          refine (shuf_any aa i ca l sp res wr HMV.out hn64 hsp HSH.out).mono ?_
          rintro e2 w2 ⟨v2, rfl, hown2, hbd2, hln2, hb2⟩
          have HO2 := Lib.hid hown2
          have HD2 := Lib.hid hbd2
          have HB2 : Hid (Below w.heap.size w w2) := Lib.hid (HB.out.trans (hb2.mono HB.out.size))
          obtain ⟨a2, c2, hv2, h02⟩ := own_form hown2
          subst hv2
          have H02 := Lib.hid h02
          obtain ⟨N, hN⟩ : ∃ N, res.length = N := ⟨_, rfl⟩
          have HN := Lib.hid hN
          rw [hN] at HO2 H02 hln2 ⊢
          clear hown2 hbd2 hb2 h02 hN HMV HO1 HSH
          go_wp2_with fail
          go_loopg [9, 44] N (fun g x v wx => ∃ j : Nat, v = .int .i64 (j : Int) ∧ j ≤ N ∧ g = N - j ∧ Hid (wx.ownsRow w2.heap.size 32 2 x j (mrow (res.take j))) ∧ Hid (Below w2.heap.size w2 wx))
          case atStart => exact ⟨0, rfl, Nat.zero_le _, rfl, Lib.hid (World.ownsRow_nil _ _ _ _), Lib.hid (Below.refl _ _)⟩
          case round =>
            obtain ⟨j, rfl, hj, hgj, HO3, HB3⟩ := hrel
            by_cases hlj : j < N
            · have hlj' : (j : Int) < (N : Int) := by omega
              have j0 : (0 : Int) ≤ (j : Int) := by omega
              obtain ⟨g2, rfl⟩ := H02.out (by omega)
              obtain ⟨t, ht⟩ : ∃ t, res[j]? = some t := ⟨_, List.getElem?_eq_getElem (by rw [HN.out]; exact hlj)⟩
              have hown3 := own_to HO2.out HB3.out
              obtain ⟨r1, r2⟩ := mrow_get res j t ht
              have k1 := (hown3.cellAt (j * 2) (by omega)).trans r1
              have k2 := (hown3.cellAt (j * 2 + 1) (by omega)).trans r2
              have HO4 := Lib.hid (mrow_take ht)
              obtain ⟨T, S⟩ := t
              simp only at k1 k2 HO4
              have hsz := HB3.out.size
              have hsz2 := HB2.out.size
              have hO1 := HO3.out.alloc (.cells #[.int .i64 T, .int .i64 S] 42)
              have hBA := HB3.out.alloc HB3.out.size (.cells #[.int .i64 T, .int .i64 S] 42)
              have m1 := heap_alloc_new wr (.cells #[.int .i64 T, .int .i64 S] 42)
              have z1 := heap_two wr (.cells #[.int .i64 T, .int .i64 S] 42)
              obtain ⟨W1, hW1⟩ : ∃ W1, wr.alloc (.cells #[.int .i64 T, .int .i64 S] 42) = W1 := ⟨_, rfl⟩
              rw [hW1] at hO1 hBA m1 z1
              obtain ⟨q, hq⟩ : ∃ q, wr.heap.size = q := ⟨_, rfl⟩
              rw [hq] at m1 z1
              have c1 : W1.cell? ⟨q, 0, none⟩ = some (.int .i64 T) := by simp [World.cell?, m1]
              have c2 : W1.cell? ⟨q, 1, none⟩ = some (.int .i64 S) := by simp [World.cell?, m1]
              have HOO := Lib.hid hO1
              have HBA := Lib.hid hBA
              have HNE : Hid (∀ q, u9.ownBlock = some q → w2.heap.size ≤ q) := Lib.hid (fun q e => (HO3.out.lt q e).1)
              obtain ⟨aa9, ca9, hv9, _⟩ := own_form HO3.out
              subst hv9
              have hsz3 := hBA.size
              clear ht hown3 r1 r2 hO1 hBA m1 z1
              go_wp2_with (at_builtin; refine wpList_app1 _ rfl _ _ 22 32 rfl Try.underlying22 infoV w2.heap.size _ j (res.take j) T S W1.heap.size rfl (HOO.out.alloc _) rfl (heap_alloc_new _ _) (by omega) (by rw [heap_two]; omega) (W1.heap.size + 1) (heap_two _ _) ?_)
              intro g5 cap5 w5 hown hgrow _
              have HOW : Hid (w5.ownsRow w2.heap.size 32 2 (.slice (some ⟨g5, 0, none⟩) (j + 1) cap5) (j + 1) (mrow (res.take (j + 1)))) := Lib.hid (by rw [HO4.out]; exact hown)
              have HBW : Hid (Below w2.heap.size w2 w5) := Lib.hid ((HBA.out.alloc (by omega) _).grown hgrow (by rw [heap_two]; omega) HNE.out)
              clear hown hgrow k1 k2 c1 c2 hW1 hq
              go_wp2_with fail
              go_roundg (N - (j + 1))
              case rel => exact ⟨j + 1, by go_num, by omega, rfl, HOW, HBW⟩
              case measure => omega
            · obtain rfl : j = N := by omega
              have hlj' : ¬ (j : Int) < (j : Int) := by omega
              have HO4 : Hid (wr.ownsRow w2.heap.size 32 2 u9 j (mrow res)) := Lib.hid (by have h := HO3.out; rw [List.take_of_length_le (by rw [HN.out]; exact Nat.le_refl _)] at h; exact h)
              clear HO3
              go_wp2_with fail
              go_returns
              refine ⟨u9, rfl, ?_, HD2.out, by rw [HN.out]; exact hln2, HB2.out.trans (HB3.out.mono HB2.out.size)⟩
              rw [HN.out]; exact World.ownsRow.mono HO4.out HB2.out.size
end Go.Proofs.Ytheapamlhoogaaa
