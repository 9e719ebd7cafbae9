/- The document's answers on moves: Done. -/
import Derived.Test.YtheapamlhoogaaaMvRefD
import Derived.Laws.OwnMore
import Derived.Deep.AppendLies
import Derived.Deep.RegionLaw
namespace Go.Proofs.Ytheapamlhoogaaa
open Go.RowKit Go.Maps
set_option linter.unusedVariables false
set_option linter.unusedSimpArgs false

theorem bel_drewN {B : Nat} {a w : World} (h : Below B a w) (q : Nat) : Below B a (w.drewN q) := ⟨h.os, h.tape, h.output, h.size, h.block⟩
theorem hasR_bd : ∀ (l : List Mv.Pr) (x : Int), (∀ t ∈ l, I64 t.1 ∧ I64 t.2) → I64 x → I64 (Mv.hasR l x)
  | [], x, _, hx => hx
  | (a, b) :: l, x, h, hx => by
    rw [Mv.hasR]
    split
    · exact (h _ (List.mem_cons_self ..)).2
    · exact hasR_bd l x (fun t ht => h t (List.mem_cons_of_mem _ ht)) hx
theorem setR_len : ∀ (l : List Mv.Pr) (t v : Int), (Mv.setR l t v).length = l.length
  | [], _, _ => rfl
  | (a, b) :: l, t, v => by rw [Mv.setR, List.length_cons, List.length_cons, setR_len l]
theorem setR_app : ∀ (l r : List Mv.Pr) (t v : Int), Mv.setR (l ++ r) t v = Mv.setR l t v ++ Mv.setR r t v
  | [], _, _, _ => rfl
  | (a, b) :: l, r, t, v => by rw [List.cons_append, Mv.setR, Mv.setR, setR_app l, List.cons_append]
theorem anyR_app : ∀ (l r : List Mv.Pr) (t : Int), Mv.anyR (l ++ r) t = (Mv.anyR l t || Mv.anyR r t)
  | [], _, _ => by simp [Mv.anyR]
  | (a, b) :: l, r, t => by rw [List.cons_append, Mv.anyR, Mv.anyR, anyR_app l, Bool.or_assoc]
theorem set_none : ∀ (l : List Mv.Pr) (t v : Int), Mv.anyR l t = false → Mv.setR l t v = l
  | [], _, _, _ => rfl
  | (a, b) :: l, t, v, h => by
    rw [Mv.anyR, Bool.or_eq_false_iff, decide_eq_false_iff_not] at h
    rw [Mv.setR, if_neg h.1, set_none l t v h.2]
theorem setR_bd : ∀ (l : List Mv.Pr) (t v : Int), I64 v → (∀ x ∈ l, I64 x.1 ∧ I64 x.2) → ∀ x ∈ Mv.setR l t v, I64 x.1 ∧ I64 x.2
  | [], _, _, _, _, x, hx => by cases hx
  | (a, b) :: l, t, v, hv, h, x, hx => by
    rw [Mv.setR] at hx
    rcases List.mem_cons.1 hx with rfl | hx
    · refine ⟨(h _ (List.mem_cons_self ..)).1, ?_⟩
      show I64 (if a = t then v else b)
      split
      · exact hv
      · exact (h _ (List.mem_cons_self ..)).2
    · exact setR_bd l t v hv (fun y hy => h y (List.mem_cons_of_mem _ hy)) x hx
theorem mrow_app (l r : List Mv.Pr) : mrow (l ++ r) = mrow l ++ mrow r := by unfold mrow; rw [List.flatMap_append]
theorem mrow_cons (t : Mv.Pr) (r : List Mv.Pr) : mrow (t :: r) = .int .i64 t.1 :: .int .i64 t.2 :: mrow r := by unfold mrow; rw [List.flatMap_cons]; rfl
theorem mrow_put (l r : List Mv.Pr) (A B V : Int) (j : Nat) (hj : l.length = j) : (mrow (l ++ (A, B) :: r)).set (j * 2 + 1) (.int .i64 V) = mrow (l ++ (A, V) :: r) := by
  subst hj
  rw [mrow_app, mrow_app, mrow_cons, mrow_cons, List.set_append_right _ _ (by rw [mrow_len]; omega)]
  rw [mrow_len, show l.length * 2 + 1 - l.length * 2 = 1 by omega]
  rfl
/-- How far the loop over what is held has come. -/
def half (h : List Mv.Pr) (T V : Int) (j : Nat) : List Mv.Pr := Mv.setR (h.take j) T V ++ h.drop j
theorem half_len (h : List Mv.Pr) (T V : Int) (j : Nat) : (half h T V j).length = h.length := by
  unfold half; rw [List.length_append, setR_len, List.length_take, List.length_drop]; omega
theorem half_at {h : List Mv.Pr} {j : Nat} {A B : Int} (ht : h[j]? = some (A, B)) (T V : Int) : half h T V j = Mv.setR (h.take j) T V ++ (A, B) :: h.drop (j + 1) := by
  unfold half; rw [drop_at ht]
theorem half_next {h : List Mv.Pr} {j : Nat} {A B : Int} (ht : h[j]? = some (A, B)) (T V : Int) : half h T V (j + 1) = Mv.setR (h.take j) T V ++ (A, if A = T then V else B) :: h.drop (j + 1) := by
  unfold half
  rw [List.take_add_one, ht, Option.toList_some, setR_app, List.append_assoc]
  rfl
theorem half_bd {h : List Mv.Pr} {T V : Int} {j : Nat} (hv : I64 V) (hb : ∀ x ∈ h, I64 x.1 ∧ I64 x.2) : ∀ x ∈ half h T V j, I64 x.1 ∧ I64 x.2 := fun x hx => by
  rcases List.mem_append.1 hx with hx | hx
  · exact setR_bd _ T V hv (fun y hy => hb y (List.mem_of_mem_take hy)) x hx
  · exact hb x (List.mem_of_mem_drop hx)
theorem any_next {h : List Mv.Pr} {j : Nat} {A B : Int} (ht : h[j]? = some (A, B)) (T : Int) : Mv.anyR (h.take (j + 1)) T = (Mv.anyR (h.take j) T || decide (A = T)) := by
  rw [List.take_add_one, ht, Option.toList_some, anyR_app]
  simp [Mv.anyR]
set_option maxRecDepth 100000 in
set_option maxHeartbeats 4000000 in
theorem rdone_any (a : Option Addr) (n cap : Nat) (l : List Mv.Pr) (w : World) (hM : Movs w a n l) (hn : n ≤ 1000) :
    Calls Try.prog 13 #[.slice a n cap] w fun e w' => ∃ v, e = .returned v ∧ w'.ownsRow w.heap.size 36 2 v (Mv.doneG l []).length (mrow (Mv.doneG l [])) ∧ (∀ t ∈ Mv.doneG l [], I64 t.1 ∧ I64 t.2) ∧ (Mv.doneG l []).length ≤ n ∧ Below w.heap.size w w' := by
  obtain ⟨X, hX⟩ : ∃ X, Mv.doneG l [] = X := ⟨_, rfl⟩
  rw [hX]
  have HX := Lib.hid hX
  have HR := Lib.hid hM
  clear hM hX
  go_enter Try.func13, Try.ntmps13
  go_wp2_with fail
  go_loopg [3, 4] n (fun g x v wr => ∃ (i : Nat) (h : List Mv.Pr), v = .int .i64 (i : Int) ∧ i ≤ n ∧ g = n - i ∧ Hid (Mv.doneG (l.drop i) h = X) ∧ h.length ≤ i ∧ Hid (wr.ownsRow w.heap.size 36 2 x h.length (mrow h)) ∧ Hid (∀ t ∈ h, I64 t.1 ∧ I64 t.2) ∧ Hid (Below w.heap.size w wr))
  case atStart => exact ⟨0, [], rfl, Nat.zero_le _, rfl, HX, Nat.le_refl _, Lib.hid (World.ownsRow_nil _ _ _ _), Lib.hid (fun t h => by cases h), Lib.hid (Below.refl _ _)⟩
  case round =>
    clear HX
    obtain ⟨i, h, rfl, hi, hg, HX, hh, HO, HD, HB⟩ := hrel
    by_cases hlt : i < n
    · have hlt' : (i : Int) < (n : Int) := by omega
      have i0 : (0 : Int) ≤ (i : Int) := by omega
      obtain ⟨t, b, off, ht, rfl, k1, k2, ib1, ib2⟩ := HR.out.get hlt
      have z1 := k1
      have k1 := (HB.out.cell (p := ⟨b, _, none⟩) (block_lt_of_cell k1)).trans k1
      have k2 := (HB.out.cell (p := ⟨b, _, none⟩) (block_lt_of_cell k2)).trans k2
      have HX2 : Hid (Mv.doneG (l.drop (i + 1)) (Mv.stepR h t) = X) := Lib.hid (by rw [← HX.out, drop_at ht]; rfl)
      obtain ⟨T, S⟩ := t
      simp only at k1 k2 z1 ib1 ib2
      obtain ⟨aa, ca, hv5, h0⟩ := own_form HO.out
      subst hv5
      have HH := Lib.hid (Movs.of_row HO.out rfl HD.out)
      clear ht HX
      have HHB := Lib.hid (hasR_bd h S HD.out ib2)
      obtain ⟨V, hV⟩ : ∃ V, Mv.hasR h S = V := ⟨_, rfl⟩
      have hcall := rhas_any aa h.length ca h S wr HH.out (by omega)
      have HSTEP : Hid (Mv.stepR h (T, S) = if Mv.anyR h T = true then Mv.setR h T V else h ++ [(T, V)]) := Lib.hid (by rw [← hV]; rfl)
      have HVB := HHB.out
      rw [hV] at hcall HVB
      have HVB := Lib.hid HVB
      have HNE : Hid (∀ q, (Value.slice aa h.length ca).ownBlock = some q → w.heap.size ≤ q) := Lib.hid (fun q e => (HO.out.lt q e).1)
      clear hV HHB HH
      go_wp2_with fail
      refine hcall.mono ?_
      rintro e w1 ⟨rfl, rfl⟩
      clear hcall
      go_wp2_with fail
      go_loopg [6, 7] h.length (fun g2 f v2 w2 => ∃ j : Nat, v2 = .int .i64 (j : Int) ∧ j ≤ h.length ∧ g2 = h.length - j ∧ f = .bool (Mv.anyR (h.take j) T) ∧ Hid (w2.ownsRow w.heap.size 36 2 (.slice aa h.length ca) h.length (mrow (half h T V j))) ∧ Hid (Below w.heap.size w w2))
      case atStart => exact ⟨0, rfl, Nat.zero_le _, rfl, rfl, HO, HB⟩
      case round =>
        clear HB HO k1 k2
        obtain ⟨j, rfl, hj, hgj, rfl, HO, HB⟩ := hrel
        have k1 := (HB.out.cell (p := ⟨b, _, none⟩) (block_lt_of_cell z1)).trans z1
        by_cases hlj : j < h.length
        · have hlj' : (j : Int) < (h.length : Int) := by omega
          have j0 : (0 : Int) ≤ (j : Int) := by omega
          obtain ⟨⟨A, B⟩, ht⟩ : ∃ t, h[j]? = some t := ⟨_, List.getElem?_eq_getElem hlj⟩
          obtain ⟨g, rfl⟩ := h0 (by omega)
          have HM := Movs.of_row HO.out (half_len h T V j) (half_bd HVB.out HD.out)
          obtain ⟨b', off', e', hc⟩ := HM.at_ (by omega)
          obtain ⟨rfl, rfl⟩ : g = b' ∧ 0 = off' := by injection e' with e'; injection e' with e1 e2; exact ⟨e1, e2⟩
          have htt : (half h T V j)[j]? = some (A, B) := by
            rw [half_at ht, List.getElem?_append_right (by rw [setR_len, List.length_take]; omega), setR_len, List.length_take, Nat.min_eq_left hj, Nat.sub_self]; rfl
          obtain ⟨c1, c2⟩ := hc j _ htt
          obtain ⟨iA, iB⟩ := HD.out _ (List.mem_of_getElem? ht)
          have HN := Lib.hid (half_next ht T V)
          have HP := Lib.hid (half_at ht T V)
          have HAN := Lib.hid (any_next ht T)
          have HL := Lib.hid (show (Mv.setR (h.take j) T V).length = j by rw [setR_len, List.length_take]; omega)
          have hfz := HO.out.frozenAt (j * 2 + 1)
          simp only [Nat.zero_add] at c1 c2
          clear ht htt hc e' HM
          by_cases hAT : A = T
          · have h1 : (A == T) = true := beq_iff_eq.2 hAT
            go_wp2_with fail
            try go_quiet (fail)
            go_wp2_with fail
            have hown := (World.ownsRow.stored (w := wr.drewN nq) HO.out (j * 2 + 1) (.int .i64 V)).1
            have hgr := (World.ownsRow.stored (w := wr.drewN nq) HO.out (j * 2 + 1) (.int .i64 V)).2
            rw [show (mrow (half h T V j)).set (j * 2 + 1) (.int .i64 V) = mrow (half h T V (j + 1)) by rw [HP.out, mrow_put _ _ _ _ _ _ HL.out, HN.out, if_pos hAT]] at hown
            have HBW := Lib.hid ((bel_drewN HB.out nq).grown hgr HB.out.size (fun q e => HNE.out q e))
            have HOW := Lib.hid hown
            have HT := Lib.hid (show Mv.anyR (h.take (j + 1)) T = true by rw [HAN.out, decide_eq_true hAT, Bool.or_true])
            clear hown hgr HO HB
            go_roundg (h.length - (j + 1))
            case rel => exact ⟨j + 1, by go_num, by omega, rfl, by rw [HT.out], HOW, HBW⟩
            case measure => omega
          · have h1 : (A == T) = false := beq_eq_false_iff_ne.2 hAT
            go_wp2_with fail
            try go_quiet (fail)
            go_wp2_with fail
            have HOW : Hid ((wr.drewN nq).ownsRow w.heap.size 36 2 (.slice (some ⟨g, 0, none⟩) h.length ca) h.length (mrow (half h T V (j + 1)))) := Lib.hid (by rw [HN.out, if_neg hAT, ← HP.out]; exact HO.out)
            have HBW := Lib.hid (bel_drewN HB.out nq)
            have HT := Lib.hid (show Mv.anyR (h.take (j + 1)) T = Mv.anyR (h.take j) T by rw [HAN.out, decide_eq_false hAT, Bool.or_false])
            clear HO HB
            go_roundg (h.length - (j + 1))
            case rel => exact ⟨j + 1, by go_num, by omega, rfl, by rw [HT.out], HOW, HBW⟩
            case measure => omega
        · obtain rfl : j = h.length := by omega
          have hlj' : ¬ (h.length : Int) < (h.length : Int) := by omega
          have HTA : Hid (Mv.anyR (h.take h.length) T = Mv.anyR h T) := Lib.hid (by rw [List.take_length])
          have HOA : Hid (wr.ownsRow w.heap.size 36 2 (.slice aa h.length ca) h.length (mrow (Mv.setR h T V))) := Lib.hid (by have := HO.out; unfold half at this; rwa [List.take_length, List.drop_length, List.append_nil] at this)
          clear HO
          cases hf : Mv.anyR h T with
          | true =>
            have HX3 : Hid (Mv.doneG (l.drop (i + 1)) (Mv.setR h T V) = X) := Lib.hid (by have := HX2.out; rwa [HSTEP.out, if_pos hf] at this)
            have hF : Mv.anyR (h.take h.length) T = true := by rw [HTA.out, hf]
            have HLL := Lib.hid (setR_len h T V)
            have HDD := Lib.hid (setR_bd h T V HVB.out HD.out)
            clear HX2 HSTEP
            go_wp2_with fail
            go_roundg (n - (i + 1))
            case rel => exact ⟨i + 1, Mv.setR h T V, by go_num, by omega, rfl, HX3, by rw [HLL.out]; omega, by rw [HLL.out]; exact HOA, HDD, HB⟩
            case measure => omega
          | false =>
            have HX3 : Hid (Mv.doneG (l.drop (i + 1)) (h ++ [(T, V)]) = X) := Lib.hid (by have := HX2.out; rwa [HSTEP.out, if_neg (by rw [hf]; simp)] at this)
            have hF : Mv.anyR (h.take h.length) T = false := by rw [HTA.out, hf]
            have HO : Hid (wr.ownsRow w.heap.size 36 2 (.slice aa h.length ca) h.length (mrow h)) := Lib.hid (by have := HOA.out; rwa [set_none _ _ _ hf] at this)
            have HDD : Hid (∀ t ∈ h ++ [(T, V)], I64 t.1 ∧ I64 t.2) := Lib.hid (fun t ht => by
              rcases List.mem_append.1 ht with ht | ht
              · exact HD.out t ht
              · rw [List.mem_singleton.1 ht]; exact ⟨ib1, HVB.out⟩)
            have hsz := HB.out.size
            clear HX2 HSTEP HOA
            go_wp2_with (at_builtin; refine wpList_app1 _ rfl _ _ 26 36 rfl Try.underlying26 infoR w.heap.size _ h.length h T V wr.heap.size rfl (HO.out.alloc _) rfl (heap_alloc_new _ _) (by omega) (by rw [heap_two]; omega) (wr.heap.size + 1) (heap_two _ _) ?_)
            intro g5 cap5 w5 hown hgrow _
            have HOW : Hid (w5.ownsRow w.heap.size 36 2 (.slice (some ⟨g5, 0, none⟩) (h.length + 1) cap5) (h.length + 1) (mrow (h ++ [(T, V)]))) := Lib.hid (by rw [mrow_snoc]; exact hown)
            have HBW : Hid (Below w.heap.size w w5) := Lib.hid ((HB.out.alloc (by omega) _).grown hgrow (by rw [heap_two]; omega) HNE.out)
            clear hown hgrow HB HO
            go_wp2_with fail
            go_roundg (n - (i + 1))
            case rel => exact ⟨i + 1, h ++ [(T, V)], by go_num, by omega, rfl, HX3, by rw [List.length_append]; simp; omega, by rw [List.length_append]; exact HOW, HDD, HBW⟩
            case measure => omega
    · obtain rfl : i = n := by omega
      have hlt' : ¬ (i : Int) < (i : Int) := by omega
      have HX3 : Hid (h = X) := Lib.hid (by have := HX.out; rw [List.drop_of_length_le (by rw [HR.out.len]; exact Nat.le_refl _)] at this; exact this)
      clear HX
      go_wp2_with fail
      go_returns
      rw [← HX3.out]
      exact ⟨u3, rfl, HO.out, fun a b hm => HD.out (a, b) hm, hh, HB.out⟩
end Go.Proofs.Ytheapamlhoogaaa
