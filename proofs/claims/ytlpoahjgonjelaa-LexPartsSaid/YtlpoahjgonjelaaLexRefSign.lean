/- The document's signs. -/
import Derived.Test.YtlpoahjgonjelaaLexRefWord
import Derived.Test.YtlpoahjgonjelaaLexSmall
import Derived.IntWalk
namespace Go.Proofs.Ytlpoahjgonjelaa
open Go.RowKit
set_option linter.unusedVariables false

def sl : List ByteArray := [⟨#[60, 60, 61]⟩, ⟨#[62, 62, 61]⟩, ⟨#[60, 60]⟩, ⟨#[62, 62]⟩, ⟨#[60, 61]⟩, ⟨#[62, 61]⟩, ⟨#[61, 61]⟩, ⟨#[33, 61]⟩, ⟨#[38, 38]⟩, ⟨#[124, 124]⟩, ⟨#[45, 62]⟩, ⟨#[43, 61]⟩, ⟨#[45, 61]⟩, ⟨#[42, 61]⟩, ⟨#[47, 61]⟩, ⟨#[37, 61]⟩, ⟨#[38, 61]⟩, ⟨#[124, 61]⟩, ⟨#[94, 61]⟩, ⟨#[43]⟩, ⟨#[45]⟩, ⟨#[42]⟩, ⟨#[47]⟩, ⟨#[37]⟩, ⟨#[38]⟩, ⟨#[124]⟩, ⟨#[94]⟩, ⟨#[126]⟩, ⟨#[33]⟩, ⟨#[60]⟩, ⟨#[62]⟩, ⟨#[61]⟩, ⟨#[40]⟩, ⟨#[41]⟩, ⟨#[91]⟩, ⟨#[93]⟩, ⟨#[123]⟩, ⟨#[125]⟩, ⟨#[44]⟩, ⟨#[59]⟩, ⟨#[58]⟩, ⟨#[63]⟩, ⟨#[46]⟩]
/-- Does this text stand there? -/
def matchB (s : ByteArray) (i : Nat) (a : ByteArray) : Bool := decide (i + a.size ≤ s.size) && ((s.extract i (i + a.size)).toList == a.toList)
def rsign (s : ByteArray) (i : Nat) : ByteArray := (sl.find? (matchB s i)).getD ⟨#[]⟩
theorem sl_len : sl.length = 43 := rfl
theorem sl_size : ∀ a ∈ sl, 1 ≤ a.size ∧ a.size ≤ 3 := by decide
theorem sl_getD {j : Nat} (h : j < sl.length) : sl.getD j ⟨#[]⟩ = sl[j] := by simp [List.getD, List.getElem?_eq_getElem h]
theorem sl_drop {k : Nat} (h : k < 43) : sl.drop k = sl.getD k ⟨#[]⟩ :: sl.drop (k + 1) := by
  rw [sl_getD (show k < sl.length from h)]; exact List.drop_eq_getElem_cons h
theorem sl_cell (w : World) (T : TypeId) {k : Nat} (hk : k < 43) : (w.alloc (.cells (sl.map Value.string).toArray T)).cell? ⟨w.heap.size, k, none⟩ = some (.string (sl.getD k ⟨#[]⟩)) := by
  have h : (sl.map Value.string).toArray[k]? = some (.string (sl.getD k ⟨#[]⟩)) := by
    have hl : k < sl.length := hk
    simp [List.getD, List.getElem?_eq_getElem hl]
  rw [World.cell?_alloc_at _ _ _ _ rfl]
  exact h
set_option maxRecDepth 100000 in
theorem signs_any (w : World) : Calls Try.prog 41 #[] w fun e w' => e = .returned (.slice (some ⟨w.heap.size, 0, none⟩) 43 43) ∧ w.alloc (.cells (sl.map Value.string).toArray 9) = w' := by
  go_enter Try.func41, Try.ntmps41
  go_wp2
  go_returns
  exact ⟨rfl, rfl⟩
set_option maxHeartbeats 2000000 in
theorem rsign_as (s : ByteArray) (i : Nat) (hi : i ≤ s.size) (hs : s.size ≤ 4611686018427387904) (S : ByteArray) (HS : Hid (rsign s i = S)) (w : World) : Calls Try.prog 35 #[.string s, .int .i64 (i : Int)] w fun e w' => e = .returned (.string S) ∧ ∃ n, (w.alloc (.cells (sl.map Value.string).toArray 9)).drewN n = w' := by
  go_enter Try.func35, Try.ntmps35
  go_wp2_with fail
  refine (signs_any w).mono ?_
  rintro e w1 ⟨rfl, rfl⟩
  obtain ⟨W, hW⟩ : ∃ W, W = w.alloc (.cells (sl.map Value.string).toArray 9) := ⟨_, rfl⟩
  have HW := Lib.hid hW
  rw [← hW]
  clear hW
  have HSF : Hid (S = (sl.find? (matchB s i)).getD ⟨#[]⟩) := Lib.hid HS.out.symm
  clear HS
  go_wp2_with fail
  go_loopg [6] 43 (fun g v wr => ∃ k n : Nat, v = .int .i64 (k : Int) ∧ k ≤ 43 ∧ g = 43 - k ∧ Hid (S = ((sl.drop k).find? (matchB s i)).getD ⟨#[]⟩) ∧ W.drewN n = wr)
  case atStart => exact ⟨0, 0, rfl, by omega, rfl, HSF, rfl⟩
  case round =>
    obtain ⟨k, n, rfl, hk, hg, HN, rfl⟩ := hrel
    clear HSF
    by_cases hlt : k < 43
    · have hlt' : (k : Int) < 43 := by omega
      have k0 : (0 : Int) ≤ (k : Int) := by omega
      obtain ⟨a, ha⟩ : ∃ a, sl.getD k ⟨#[]⟩ = a := ⟨_, rfl⟩
      have hz : 1 ≤ a.size ∧ a.size ≤ 3 := sl_size a (by rw [← ha, sl_getD (show k < sl.length from hlt)]; exact List.getElem_mem _)
      have hd := sl_drop hlt
      rw [ha] at hd
      have hc : W.cell? ⟨w.heap.size, k, none⟩ = some (.string a) := by rw [HW.out, sl_cell w _ hlt, ha]
      have HD := Lib.hid hd
      clear hd ha
      have HN1 : Hid (S = ((a :: sl.drop (k + 1)).find? (matchB s i)).getD ⟨#[]⟩) := by rw [← HD.out]; exact HN
      clear HN
      by_cases hf : i + a.size ≤ s.size
      · have f1 : (a.size : Int) ≤ (s.size : Int) - (i : Int) := by omega
        have f2 : (i : Int) + (a.size : Int) ≤ (s.size : Int) := by omega
        have f3 : (0 : Int) ≤ (i : Int) + (a.size : Int) := by omega
        have f4 : ((i : Int) + (a.size : Int)).toNat = i + a.size := by omega
        have f5 : IntKind.i64.wrap ((i : Int) + (a.size : Int)) = (i : Int) + (a.size : Int) := IntWalk.i64_in _ (by omega)
        have f6 : (i : Int) ≤ (i : Int) + (a.size : Int) := by omega
        by_cases he : (s.extract i (i + a.size)).toList = a.toList
        · have q1 : ((s.extract i (i + a.size)).toList == a.toList) = true := by rw [he]; exact beq_self_eq_true _
          have HT : Hid (S = a) := by
            rw [HN1.out, List.find?_cons_of_pos (by unfold matchB; rw [decide_eq_true hf, q1]; rfl)]; exact Lib.hid rfl
          clear he HN1
          go_wp2_with fail
          go_quiet (fail)
          go_wp2_with fail
          go_returns
          exact ⟨rs rfl HT.out.symm, _, by rw [HW.out]⟩
        · have q1 : ((s.extract i (i + a.size)).toList == a.toList) = false := beq_eq_false_iff_ne.2 he
          have HT : Hid (S = ((sl.drop (k + 1)).find? (matchB s i)).getD ⟨#[]⟩) := by
            rw [HN1.out, List.find?_cons_of_neg (by unfold matchB; rw [q1]; simp)]; exact Lib.hid rfl
          clear he HN1
          go_wp2_with fail
          go_quiet (fail)
          clear f5
          go_wp2_with fail
          go_roundg (gk - 1)
          case rel => exact ⟨k + 1, _, by go_num, by omega, by omega, HT, rfl⟩
          case measure => omega
      · have f1 : ¬ (a.size : Int) ≤ (s.size : Int) - (i : Int) := by omega
        have f1b : decide ((a.size : Int) ≤ (s.size : Int) - (i : Int)) = false := decide_eq_false f1
        have f5 : IntKind.i64.wrap ((s.size : Int) - (i : Int)) = (s.size : Int) - (i : Int) := IntWalk.i64_in _ (by omega)
        have HT : Hid (S = ((sl.drop (k + 1)).find? (matchB s i)).getD ⟨#[]⟩) := by
          rw [HN1.out, List.find?_cons_of_neg (by unfold matchB; rw [decide_eq_false hf]; simp)]; exact Lib.hid rfl
        clear HN1
        go_wp2_with fail
        go_quiet (fail)
        clear f5
        go_wp2_with fail
        go_roundg (gk - 1)
        case rel => exact ⟨k + 1, _, by go_num, by omega, by omega, HT, rfl⟩
        case measure => omega
    · obtain rfl : k = 43 := by omega
      have HT : Hid (S = ⟨#[]⟩) := HN
      clear HN
      go_wp2_with fail
      go_returns
      exact ⟨rs rfl HT.out.symm, _, by rw [HW.out]⟩
end Go.Proofs.Ytlpoahjgonjelaa
