/- The document's words. -/
import Derived.Test.YtlpoahjgonjelaaLexRef
import Derived.Test.YtlpoahjgonjelaaLexM2
import Derived.KernelRfl
namespace Go.Proofs.Ytlpoahjgonjelaa
open Go.RowKit
set_option linter.unusedVariables false

def wl : List ByteArray := [⟨#[118, 111, 105, 100]⟩, ⟨#[99, 104, 97, 114]⟩, ⟨#[115, 104, 111, 114, 116]⟩, ⟨#[105, 110, 116]⟩, ⟨#[108, 111, 110, 103]⟩, ⟨#[117, 110, 115, 105, 103, 110, 101, 100]⟩, ⟨#[115, 116, 114, 117, 99, 116]⟩, ⟨#[116, 121, 112, 101, 100, 101, 102]⟩,
  ⟨#[105, 102]⟩, ⟨#[101, 108, 115, 101]⟩, ⟨#[119, 104, 105, 108, 101]⟩, ⟨#[100, 111]⟩, ⟨#[102, 111, 114]⟩, ⟨#[115, 119, 105, 116, 99, 104]⟩, ⟨#[99, 97, 115, 101]⟩, ⟨#[100, 101, 102, 97, 117, 108, 116]⟩, ⟨#[98, 114, 101, 97, 107]⟩, ⟨#[99, 111, 110, 116, 105, 110, 117, 101]⟩, ⟨#[114, 101, 116, 117, 114, 110]⟩, ⟨#[103, 111, 116, 111]⟩, ⟨#[115, 105, 122, 101, 111, 102]⟩]
theorem wl_lists : wl.map ByteArray.toList = [[118, 111, 105, 100], [99, 104, 97, 114], [115, 104, 111, 114, 116], [105, 110, 116], [108, 111, 110, 103], [117, 110, 115, 105, 103, 110, 101, 100], [115, 116, 114, 117, 99, 116], [116, 121, 112, 101, 100, 101, 102],
  [105, 102], [101, 108, 115, 101], [119, 104, 105, 108, 101], [100, 111], [102, 111, 114], [115, 119, 105, 116, 99, 104], [99, 97, 115, 101], [100, 101, 102, 97, 117, 108, 116], [98, 114, 101, 97, 107], [99, 111, 110, 116, 105, 110, 117, 101], [114, 101, 116, 117, 114, 110], [103, 111, 116, 111], [115, 105, 122, 101, 111, 102]] := by kernel_rfl
theorem wordB_mem (t : ByteArray) : Lx.wordB t = true ↔ t.toList ∈ wl.map ByteArray.toList := by
  rw [wl_lists]; unfold Lx.wordB; simp; grind
theorem words_any (w : World) : Calls Try.prog 20 #[] w fun e w' => e = .returned (.slice (some ⟨w.heap.size, 0, none⟩) 21 21) ∧ w.alloc (.cells (wl.map Value.string).toArray 9) = w' := by
  go_enter Try.func20, Try.ntmps20
  go_wp2
  go_returns
  exact ⟨rfl, rfl⟩
theorem wl_cell (w : World) (T : TypeId) {k : Nat} (hk : k < 21) : (w.alloc (.cells (wl.map Value.string).toArray T)).cell? ⟨w.heap.size, k, none⟩ = some (.string (wl.getD k ⟨#[]⟩)) := by
  have h : (wl.map Value.string).toArray[k]? = some (.string (wl.getD k ⟨#[]⟩)) := by
    have hl : k < wl.length := hk
    simp [List.getD, List.getElem?_eq_getElem hl]
  rw [World.cell?_alloc_at _ _ _ _ rfl]
  exact h
theorem wl_getD {j : Nat} (h : j < wl.length) : wl.getD j ⟨#[]⟩ = wl[j] := by simp [List.getD, List.getElem?_eq_getElem h]
set_option maxHeartbeats 1000000 in
theorem rword_as (t : ByteArray) (B : Bool) (HB : Hid (Lx.wordB t = B)) (w : World) : Calls Try.prog 13 #[.string t] w fun e w' => e = .returned (.bool B) ∧ w.alloc (.cells (wl.map Value.string).toArray 9) = w' := by
  go_enter Try.func13, Try.ntmps13
  go_wp2_with fail
  refine (words_any w).mono ?_
  rintro e w1 ⟨rfl, rfl⟩
  obtain ⟨W, hW⟩ : ∃ W, W = w.alloc (.cells (wl.map Value.string).toArray 9) := ⟨_, rfl⟩
  have HW := Lib.hid hW
  rw [← hW]
  clear hW
  go_wp2_with fail
  go_loopg [4] 21 (fun g v wr => ∃ k : Nat, v = .int .i64 (k : Int) ∧ k ≤ 21 ∧ g = 21 - k ∧ Hid (∀ j, j < k → (wl.getD j ⟨#[]⟩).toList ≠ t.toList) ∧ W = wr)
  case atStart => exact ⟨0, rfl, by omega, rfl, fun j hj => absurd hj (by omega), rfl⟩
  case round =>
    obtain ⟨k, rfl, hk, hg, HN, rfl⟩ := hrel
    by_cases hlt : k < 21
    · have hlt' : (k : Int) < 21 := by omega
      have k0 : (0 : Int) ≤ (k : Int) := by omega
      obtain ⟨a, ha⟩ : ∃ a, wl.getD k ⟨#[]⟩ = a := ⟨_, rfl⟩
      have hc : W.cell? ⟨w.heap.size, k, none⟩ = some (.string a) := by rw [HW.out, wl_cell w _ hlt, ha]
      by_cases he : a.toList = t.toList
      · have q1 : (a.toList == t.toList) = true := by rw [he]; exact beq_self_eq_true _
        have HT : Hid (B = true) := by
          rw [← HB.out, wordB_mem, ← he, ← ha]
          have hl : k < wl.length := hlt
          exact List.mem_map.2 ⟨_, by rw [wl_getD hl]; exact List.getElem_mem hl, rfl⟩
        clear he ha
        go_wp2_with fail
        go_returns
        exact ⟨rb rfl HT.out.symm, HW.out.symm⟩
      · have q1 : (a.toList == t.toList) = false := beq_eq_false_iff_ne.2 he
        have HN2 : Hid (∀ j, j < k + 1 → (wl.getD j ⟨#[]⟩).toList ≠ t.toList) := fun j hj => by
          by_cases hjk : j = k
          · rw [hjk, ha]; exact he
          · exact HN.out j (by omega)
        clear he ha HN
        go_wp2_with fail
        go_roundg (gk - 1)
        case rel => exact ⟨k + 1, by go_num, by omega, by omega, HN2, rfl⟩
        case measure => omega
    · obtain rfl : k = 21 := by omega
      have HF : Hid (B = false) := by
        rw [← HB.out]
        cases hw : Lx.wordB t
        · exact Lib.hid rfl
        · rw [wordB_mem] at hw
          obtain ⟨x, hx, hxt⟩ := List.mem_map.1 hw
          obtain ⟨j, hj, hjx⟩ := List.mem_iff_getElem.1 hx
          exact absurd hxt (by rw [← hjx, ← wl_getD hj]; exact HN.out j hj)
      clear HN
      go_wp2_with fail
      go_returns
      exact ⟨rb rfl HF.out.symm, HW.out.symm⟩
end Go.Proofs.Ytlpoahjgonjelaa
