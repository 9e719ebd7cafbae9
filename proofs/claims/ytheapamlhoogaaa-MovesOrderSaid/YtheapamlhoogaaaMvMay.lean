/- May: whether moves may be done at once. -/
import Derived.Test.YtheapamlhoogaaaMvBase
namespace Go.Proofs.Ytheapamlhoogaaa
open Go.RowKit Go.Maps
set_option linter.unusedVariables false

theorem drop_at {l : List Mv.Pr} {i : Nat} {t : Mv.Pr} (h : l[i]? = some t) : l.drop i = t :: l.drop (i + 1) := by
  obtain ⟨hi, he⟩ := List.getElem?_eq_some_iff.1 h
  rw [List.drop_eq_getElem_cons hi, he]
set_option maxHeartbeats 2000000 in
theorem may_any (a : Option Addr) (n cap : Nat) (l : List Mv.Pr) (w : World) (hM : Movs w a n l) (hn : n ≤ 9223372036854775807) :
    Calls Try.prog 10 #[.slice a n cap] w fun e w' => e = .returned (.bool (Mv.mayM l)) ∧ Below w.heap.size w w' := by
  by_cases h64 : 64 < n
  · have HE : Hid (Mv.mayM l = false) := Lib.hid (by unfold Mv.mayM; rw [if_pos (by rw [hM.len]; exact h64)])
    have h64' : (64 : Int) < (n : Int) := by omega
    clear hM
    go_enter Try.func10, Try.ntmps10
    go_wp2_with fail
    go_returns
    exact ⟨rb rfl HE.out.symm, Below.refl _ _⟩
  · have h64' : ¬ (64 : Int) < (n : Int) := by omega
    have HE : Hid (Mv.mayM l = Mv.mayL l []) := Lib.hid (by unfold Mv.mayM; rw [if_neg (by rw [hM.len]; exact h64)])
    have HR := Lib.hid hM
    have hmm := @run_makeMap Try.prog
    clear hM
    go_enter Try.func10, Try.ntmps10
    go_wp2_with fail
    go_loopg [12] n (fun g v wr => ∃ (i : Nat) (al : List Mv.Pr), v = .int .i64 (i : Int) ∧ i ≤ n ∧ g = n - i ∧ Hid (Mv.mayM l = Mv.mayL (l.drop i) al) ∧ al.length ≤ i ∧ Hid (MapAs wr w.heap.size al) ∧ Hid (Below w.heap.size w wr))
    case atStart => exact ⟨0, [], rfl, Nat.zero_le _, rfl, HE, Nat.zero_le _, Lib.hid (MapAs.made w), Lib.hid ((Below.refl _ _).alloc (Nat.le_refl _) _)⟩
    case round =>
      obtain ⟨i, al, rfl, hi, hg, HX, hal, HA, HB⟩ := hrel
      clear HE
      by_cases hlt : i < n
      · obtain ⟨b, off, rfl, hc⟩ := HR.out.at_ (by omega)
        obtain ⟨t, ht⟩ : ∃ t, l[i]? = some t := ⟨_, List.getElem?_eq_getElem (by rw [HR.out.len]; exact hlt)⟩
        obtain ⟨b1, b2⟩ := HR.out.bd t (List.mem_of_getElem? ht)
        obtain ⟨c1, c2⟩ := hc i t ht
        have k1 := (HB.out.cell (p := ⟨b, _, none⟩) (block_lt_of_cell c1)).trans c1
        have k2 := (HB.out.cell (p := ⟨b, _, none⟩) (block_lt_of_cell c2)).trans c2
        obtain ⟨T, S⟩ := t
        have HX2 : Hid (Mv.mayM l = if T < 0 then false else if S < 0 then false else if (Mv.aget al T).getD 0 ≠ 0 then false else Mv.mayL (l.drop (i + 1)) (Mv.aput al T 1)) := Lib.hid (by rw [HX.out, drop_at ht]; rfl)
        simp only at b1 b2 k1 k2
        have hl : ∀ o, (Instr.lookup 44 (.map (some w.heap.size)) (.int .i64 T) false).run Try.prog (wr.alloc o) = .ok (.int .i64 ((Mv.aget al T).getD 0)) (wr.alloc o) := fun o => (HA.out.alloc o).look b1
        obtain ⟨C, hC⟩ : ∃ C, (Mv.aget al T).getD 0 = C := ⟨_, rfl⟩
        rw [hC] at HX2
        simp only [hC] at hl
        have hlt' : (i : Int) < (n : Int) := by omega
        have i0 : (0 : Int) ≤ (i : Int) := by omega
        clear c1 c2 hc ht HX hC
        by_cases h1 : T < 0
        · have HX3 : Hid (Mv.mayM l = false) := Lib.hid (by rw [HX2.out, if_pos h1])
          clear HX2
          go_wp2_with fail
          go_returns
          exact ⟨rb rfl HX3.out.symm, HB.out.alloc HB.out.size _⟩
        · by_cases h2 : S < 0
          · have HX3 : Hid (Mv.mayM l = false) := Lib.hid (by rw [HX2.out, if_neg h1, if_pos h2])
            clear HX2
            go_wp2_with fail
            go_returns
            exact ⟨rb rfl HX3.out.symm, HB.out.alloc HB.out.size _⟩
          · by_cases h3 : C = 0
            · have HX3 : Hid (Mv.mayM l = Mv.mayL (l.drop (i + 1)) (Mv.aput al T 1)) := Lib.hid (by rw [HX2.out, if_neg h1, if_neg h2, if_neg (by omega)])
              have HA2 := fun o => Lib.hid (HA.out.alloc o)
              have HB2 := fun o => Lib.hid (HB.out.alloc HB.out.size o)
              have hsz := HB.out.size
              have hap := Mv.aput_le al T 1
              clear HX2 HA HB
              subst h3
              go_wp2_with (first | (at_mapUpdate; refine wpList_put _ rfl _ _ _ rfl w.heap.size al T 1 rfl (HA2 _).out (by unfold maxLen; omega) rfl rfl b1 (by unfold I64; omega) ?_; intro w1 hA1 hg1) | fail)
              go_roundg (n - (i + 1))
              case rel => exact ⟨i + 1, _, by go_num, by omega, rfl, HX3, by omega, Lib.hid hA1, Lib.hid ((HB2 _).out.grown hg1 (by rw [heap_two]; omega) (fun j hj => by cases hj; exact Nat.le_refl _))⟩
              case measure => omega
            · have HX3 : Hid (Mv.mayM l = false) := Lib.hid (by rw [HX2.out, if_neg h1, if_neg h2, if_pos h3])
              have h3' : (C == 0) = false := beq_eq_false_iff_ne.2 h3
              have h3'' : (C != 0) = true := bne_iff_ne.2 h3
              clear HX2
              go_wp2_with fail
              go_returns
              exact ⟨rb rfl HX3.out.symm, HB.out.alloc HB.out.size _⟩
      · obtain rfl : i = n := by omega
        have HX3 : Hid (Mv.mayM l = true) := Lib.hid (by rw [HX.out, List.drop_of_length_le (by rw [HR.out.len]; exact Nat.le_refl _)]; rfl)
        have hlt' : ¬ (i : Int) < (i : Int) := by omega
        clear HX
        go_wp2_with fail
        go_returns
        exact ⟨rb rfl HX3.out.symm, HB.out⟩
theorem may_as (a : Option Addr) (n cap : Nat) (l : List Mv.Pr) (B : Bool) (HB : Hid (Mv.mayM l = B)) (w : World) (hM : Movs w a n l) (hn : n ≤ 9223372036854775807) :
    Calls Try.prog 10 #[.slice a n cap] w fun e w' => e = .returned (.bool B) ∧ Below w.heap.size w w' := by
  rw [← HB.out]; exact may_any a n cap l w hM hn
end Go.Proofs.Ytheapamlhoogaaa
