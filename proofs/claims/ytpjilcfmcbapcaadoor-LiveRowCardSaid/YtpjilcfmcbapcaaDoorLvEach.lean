/- span.Set: Each, List. -/
import Derived.Test.YtpjilcfmcbapcaaDoorLvTz
namespace Go.Proofs.YtpjilcfmcbapcaaDoor
open Go.RowKit
set_option linter.unusedVariables false
set_option linter.unusedSimpArgs false

theorem bitsAt_step {t q : Nat} (k : Nat) (h : 2 ^ t * (2 * q + 1) < 2 ^ 64) : bitsAt k (2 ^ t * (2 * q + 1)) = ((64 * k + t : Nat) : Int) :: bitsAt k (2 ^ t * (2 * q + 1) &&& (2 ^ t * (2 * q + 1) - 1)) := by
  unfold bitsAt; rw [bits_step h]; rfl
set_option maxHeartbeats 3200000 in
/-- Each register of a set is shown, rising. -/
theorem each_any (w : World) (F : FuncId) (caps : Array Value) (g X W : Nat) (J : List Int → World → Prop) (hF : ∀ (as' : Array Value) (W1 : World), (callFunc F as').run Tryd.prog W1 = .ok (.enter F as') W1) (hW : W ≤ 100000) (hX : J [] w) (hJW : ∀ l w1, J l w1 → WdAt w1 g X W ∧ LaidT w1)
    (hcall : ∀ (l : List Int) (r : Nat) (w1 : World), J l w1 → X.testBit r = true → r < 64 * W → l.length < 64 * W → Calls Tryd.prog F (#[.int .i64 (r : Int)] ++ caps) w1 fun e w2 => e = .returned (.tuple #[]) ∧ J (l ++ [(r : Int)]) w2) :
    Calls Tryd.prog 47 #[wv g W, .func (.func F) #[] caps] w fun e w' => e = .returned (.tuple #[]) ∧ J (listB X (64 * W)) w' := by
  have HJ := Lib.hid hX
  have HW := Lib.hid hJW
  have HC := Lib.hid hcall
  clear hX hJW hcall
  go_enter Tryd.func47, Tryd.ntmps47
  go_wp2_with fail
  go_loopg [8] W (fun k m wr => ∃ i : Nat, m = .int .i64 (i : Int) ∧ i ≤ W ∧ k = W - i ∧ Hid (J (listB X (64 * i)) wr))
  case atStart => exact ⟨0, rfl, Nat.zero_le _, rfl, Lib.hid (by rw [Nat.mul_zero]; exact HJ.out)⟩
  case round =>
    obtain ⟨i, rfl, hi, hg, HR⟩ := hrel
    by_cases hlt : i < W
    · have hlt' : (i : Int) < (W : Int) := by omega
      have i0 : (0 : Int) ≤ (i : Int) := by omega
      have hc := (HW.out _ _ HR.out).1.cell hlt
      have HV : Hid (Sub (wordAt X i) (wordAt X i) ∧ listB X (64 * i) ++ bitsAt i (wordAt X i) = listB X (64 * (i + 1))) := Lib.hid ⟨Sub.refl _, (listB_word X i).symm⟩
      have hv0 := word_lt X i
      have HS : Hid (∀ v, Sub v (wordAt X i) → ∀ t, v.testBit t = true → X.testBit (64 * i + t) = true) := Lib.hid (fun v hv t h => by
        have h1 := hv t h
        rw [tb_word, Bool.and_eq_true] at h1
        exact h1.2)
      obtain ⟨l0, hl0⟩ : ∃ l, listB X (64 * i) = l := ⟨_, rfl⟩
      rw [hl0] at HR HV
      obtain ⟨v0, hv⟩ : ∃ v, wordAt X i = v := ⟨_, rfl⟩
      rw [hv] at hc HV hv0 HS
      clear hl0 hv
      go_wp2_with fail
      obtain ⟨wA, rfl⟩ : ∃ W', W' = wr := ⟨_, rfl⟩
      go_loopg [5] v0 (fun k m wr => ∃ v : Nat, ∃ l : List Int, m = .int .u64 (v : Int) ∧ v < 18446744073709551616 ∧ k = v ∧ Hid (Sub v v0 ∧ l ++ bitsAt i v = listB X (64 * (i + 1))) ∧ Hid (J l wr))
      case atStart => exact ⟨v0, l0, rfl, hv0, rfl, HV, HR⟩
      case round =>
        obtain ⟨v, l, rfl, hvl, hg2, HV2, HR2⟩ := hrel
        by_cases hz : v = 0
        · subst hz
          go_wp2_with fail
          go_roundg (W - (i + 1))
          case rel => exact ⟨i + 1, by go_num, by omega, rfl, Lib.hid (by
            have h := HV2.out.2
            rw [show bitsAt i 0 = [] by unfold bitsAt; rw [bits_zero]; rfl, List.append_nil] at h
            rw [← h]; exact HR2.out)⟩
          case measure => omega
        · obtain ⟨t, q, e⟩ := odd_part v hz
          have ht : t < 64 := by rw [e] at hvl; exact odd_lt hvl
          have hb1 : bitsAt i v = ((64 * i + t : Nat) : Int) :: bitsAt i (v &&& (v - 1)) := by rw [e] at hvl ⊢; exact bitsAt_step i hvl
          have htz := Lib.hid (fun (W1 : World) (h : LaidT W1) => tz_any W1 h t q (by rw [e] at hvl; exact hvl))
          rw [← e] at htz
          have hvt : v.testBit t = true := by rw [e, tb_mul, decide_eq_true (Nat.le_refl t), Nat.sub_self, odd_zero]; rfl
          have HT : Hid (X.testBit (64 * i + t) = true) := Lib.hid (HS.out v HV2.out.1 t hvt)
          have hle : v &&& (v - 1) ≤ v - 1 := Nat.and_le_right
          have e1 : IntKind.u64.wrap ((v : Int) - 1) = ((v - 1 : Nat) : Int) := by rw [IntKind.wrap_u64]; omega
          have e2 := u64_and_nat v (v - 1) hvl (by omega)
          have e3 : ((v : Int) != 0) = true := bne_iff_ne.2 (by omega)
          have HV3 : Hid (Sub (v &&& (v - 1)) v0 ∧ (l ++ [((64 * i + t : Nat) : Int)]) ++ bitsAt i (v &&& (v - 1)) = listB X (64 * (i + 1))) := Lib.hid ⟨fun j hj => HV2.out.1 j (by rw [Nat.testBit_and, Bool.and_eq_true] at hj; exact hj.1), by
            rw [List.append_assoc, List.singleton_append, ← hb1]; exact HV2.out.2⟩
          obtain ⟨v2, hv2⟩ : ∃ x, v &&& (v - 1) = x := ⟨_, rfl⟩
          rw [hv2] at hle e2 HV3
          obtain ⟨v1, hv1⟩ : ∃ x, v - 1 = x := ⟨_, rfl⟩
          rw [hv1] at hle e1 e2
          have hlt2 : v2 < v := by omega
          obtain ⟨r, hr⟩ : ∃ r, 64 * i + t = r := ⟨_, rfl⟩
          rw [hr] at HT HV3
          have HL : l.length < 64 * W := by
            have h := congrArg List.length HV3.out.2
            have h2 := listB_len X (64 * (i + 1))
            rw [List.length_append, List.length_append, List.length_singleton] at h
            omega
          have HCC := Lib.hid (HC.out l r _ HR2.out HT.out (by omega) HL)
          clear HL
          have en : (64 : Int) * (i : Int) + (t : Int) = (r : Int) := by omega
          clear hr
          clear hv2 hv1 hle hb1 e hvt HV2 HV
          have HTL := (HW.out _ _ HR2.out).2
          have HTL2 := Lib.hid HTL
          clear HTL
          go_wp2_with fail
          refine (htz.out _ HTL2.out).mono ?_
          rintro e w1 ⟨rfl, rfl⟩
          go_wp2_with fail
          refine Calls.mono HCC.out ?_
          rintro e w2 ⟨rfl, hj2⟩
          have HJ2 := Lib.hid hj2
          clear hj2 HCC HTL2 HR2
          go_wp2_with fail
          go_roundg v2
          case rel => exact ⟨v2, l ++ [(r : Int)], rfl, by omega, rfl, HV3, HJ2⟩
          case measure => omega
    · obtain rfl : i = W := by omega
      have hlt' : ¬ (i : Int) < (i : Int) := by omega
      go_wp2_with fail
      go_returns
      exact ⟨rfl, HR.out⟩
/-- What List's cell holds. -/
structure LJ (w : World) (c : Nat) (l : List Int) (w1 : World) : Prop where
  ex : ∃ v, w1.heap[c]? = some (.cells #[v] 22 (0, 0)) ∧ w1.ownsRow (c + 1) 3 1 v l.length (irow l)
  k : Keeps No w w1
theorem own_lo {w : World} {B z n : Nat} {e : TypeId} {v : Value} {xs : List Value} (h : w.ownsRow B e z v n xs) : ∀ q, v.ownBlock = some q → B ≤ q := by
  intro q hq
  rcases h.2 with ⟨rfl, _⟩ | ⟨g, cap, cur, rfl, hB, _⟩
  · cases hq
  · injection hq with hq; subst hq; exact hB
theorem own_far0 {w : World} {B z n : Nat} {e : TypeId} {v : Value} {xs : List Value} (h : w.ownsRow B e z v n xs) {c : Nat} (hc : c < B) : v.ownBlock ≠ some c := fun e => by
  have := own_lo h c e; omega
set_option maxHeartbeats 1600000 in
theorem list1_any (w : World) (c : Nat) (hc : w.heap.size ≤ c) (l : List Int) (r : Nat) (w1 : World) (h : LJ w c l w1) (hl : l.length ≤ 999999) :
    Calls Tryd.prog 48 (#[.int .i64 (r : Int)] ++ #[.pointer (some ⟨c, 0, none⟩)]) w1 fun e w2 => e = .returned (.tuple #[]) ∧ LJ w c (l ++ [(r : Int)]) w2 := by
  obtain ⟨⟨v, hv, ho⟩, hk⟩ := h
  have hcv : w1.cell? ⟨c, 0, none⟩ = some v := by rw [cell_of_row w1 c 0 _ _ _ hv]; rfl
  have hcs : c < w1.heap.size := (Array.getElem?_eq_some_iff.1 hv).1
  have HV := Lib.hid hv
  have HO := Lib.hid ho
  have HK := Lib.hid hk
  clear hv ho hk
  have hcf : w1.frozen? ⟨c, 0, none⟩ = false := frozen_of_row w1 c 0 _ _ HV.out
  change Calls Tryd.prog 48 #[.int .i64 (r : Int), .pointer (some ⟨c, 0, none⟩)] w1 _
  go_enter Tryd.func48, Tryd.ntmps48
  go_wp2_with (at_builtin; refine wpList_appI _ rfl (.tmp 3) (.tmp 5) 22 rfl Tryd.underlying22 (c + 1) v l.length l (r : Int) w1.heap.size rfl (HO.out.alloc _) rfl (heap_alloc_new _ _) (by omega) (by simp; omega) ?_)
  intro g2 cap2 w2 ho2 hg2
  have hvo : v.ownBlock ≠ some c := own_far0 HO.out (by omega)
  have hk2 : Keeps (fun q => v.ownBlock = some q) w1 w2 := ((Keeps.refl _ _).alloc _).grown hg2 (fun q e => .inl e)
  have hr2 : w2.heap[c]? = some (.cells #[v] 22 (0, 0)) := (hk2.block c hcs hvo).trans HV.out
  have c2 : w2.cell? ⟨c, 0, none⟩ = some v := by rw [cell_of_row w2 c 0 _ _ _ hr2]; rfl
  have f2 : w2.frozen? ⟨c, 0, none⟩ = false := frozen_of_row w2 c 0 _ _ hr2
  have HJ : Hid (LJ w c (l ++ [(r : Int)]) (w2.setCell ⟨c, 0, none⟩ (.slice (some ⟨g2, 0, none⟩) (l.length + 1) cap2))) := Lib.hid ⟨⟨_, by
      rw [heap_setCell_same w2 c 0 _ _ _ hr2]; rfl, by
      rw [List.length_append, List.length_singleton]
      have hb := own_lo ho2
      exact own_kept ho2 (fun q hq => Below.heap_setCell _ _ _ _ (fun e => by
        have := hb q hq; simp only at e; omega))⟩,
    (HK.out.trans hk2 (fun k hk e => own_far0 HO.out (Nat.lt_succ_of_lt (Nat.lt_of_lt_of_le hk hc)) e)).setCell (.inr hc) _⟩
  clear ho2 hg2 hk2 hr2
  go_wp2_with fail
  go_returns
  exact ⟨rfl, HJ.out⟩
set_option maxHeartbeats 3200000 in
theorem list_any (w : World) (g X W : Nat) (hW : W ≤ 10000) (h : WdAt w g X W) (ht : LaidT w) :
    Calls Tryd.prog 31 #[wv g W] w fun e w' => ∃ v, e = .returned v ∧ Own w w' v (listB X (64 * W)) := by
  have HH := Lib.hid h
  have HT := Lib.hid ht
  clear h ht
  have HE := Lib.hid (each_any (w.alloc (.cells #[.slice none 0 0] 22)) 48 #[.pointer (some ⟨w.heap.size, 0, none⟩)] g X W (LJ w w.heap.size) (fun _ _ => rfl) (by omega)
    ⟨⟨_, heap_alloc_new _ _, World.ownsRow_nil _ _ _ _⟩, (Keeps.refl _ _).alloc _⟩ (fun l w1 hj => ⟨HH.out.keep hj.k (fun e => e), HT.out.keep hj.k (fun e => e)⟩)
    (fun l r w1 hj _ _ hl => list1_any w _ (Nat.le_refl _) l r w1 hj (by omega)))
  go_enter Tryd.func31, Tryd.ntmps31
  go_wp2_with fail
  refine HE.out.mono ?_
  rintro e w1 ⟨rfl, ⟨v, hv, ho⟩, hk⟩
  have hcv : w1.cell? ⟨w.heap.size, 0, none⟩ = some v := by rw [cell_of_row w1 _ 0 _ _ _ hv]; rfl
  have HO := Lib.hid ho
  have HK := Lib.hid hk
  clear ho hk hv
  go_wp2_with fail
  go_returns
  exact ⟨v, rfl, own_mono HO.out (by omega), HK.out⟩
end Go.Proofs.YtpjilcfmcbapcaaDoor
