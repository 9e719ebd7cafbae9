/- Two lists of tokens that are the same: told so. -/
import Derived.Test.YtlpoahjgonjelaaLexAwake
import Derived.Deep.LoopGhost
namespace Go.Proofs.Ytlpoahjgonjelaa
open Go.RowKit
set_option linter.unusedVariables false

theorem row_len (l : List Lx.Tk) : (Lx.rowOf l).length = l.length * 6 := by
  induction l with
  | nil => rfl
  | cons t l ih => unfold Lx.rowOf at *; rw [List.flatMap_cons, List.length_append, ih]; simp [Lx.Tk.cells]; omega
theorem row_get (l : List Lx.Tk) (k o : Nat) (t : Lx.Tk) (h : l[k]? = some t) (ho : o < 6) : (Lx.rowOf l)[k * 6 + o]? = t.cells[o]? := by
  induction l generalizing k with
  | nil => simp at h
  | cons a l ih =>
    have e : Lx.rowOf (a :: l) = a.cells ++ Lx.rowOf l := by unfold Lx.rowOf; rw [List.flatMap_cons]
    have hl : a.cells.length = 6 := rfl
    rw [e]
    cases k with
    | zero => simp at h; subst h; rw [List.getElem?_append_left (by rw [hl]; omega)]; simp
    | succ k =>
      rw [List.getElem?_append_right (by rw [hl]; omega), hl]
      have : (k + 1) * 6 + o - 6 = k * 6 + o := by omega
      rw [this]
      exact ih k (by simpa using h)
/-- A token of a row, cell by cell. -/
theorem row_cells {w : World} {B g cap : Nat} {l : List Lx.Tk} {k : Nat} {t : Lx.Tk} (h : w.ownsRow B 33 6 (.slice (some ⟨g, 0, none⟩) l.length cap) l.length (Lx.rowOf l)) (ht : l[k]? = some t) :
    w.cell? ⟨g, k * 6, none⟩ = some (.int .i64 t.kind) ∧ w.cell? ⟨g, k * 6 + 1, none⟩ = some (.int .i64 (t.at_ : Int)) ∧ w.cell? ⟨g, k * 6 + 2, none⟩ = some (.string t.text) ∧ w.cell? ⟨g, k * 6 + 3, none⟩ = some (.string t.suf) ∧ w.cell? ⟨g, k * 6 + 4, none⟩ = some (.int .u64 t.num) ∧ w.cell? ⟨g, k * 6 + 5, none⟩ = some (.bool t.hex) := by
  have hk : k < l.length := (List.getElem?_eq_some_iff.1 ht).1
  have c := fun o (ho : o < 6) => (h.cellAt (k * 6 + o) (by omega)).trans (row_get l k o t ht ho)
  exact ⟨c 0 (by decide), c 1 (by decide), c 2 (by decide), c 3 (by decide), c 4 (by decide), c 5 (by decide)⟩
set_option maxHeartbeats 2000000 in
theorem same_true (l : List Lx.Tk) (B1 B2 : Nat) (va vb : Value) (w : World) (ha : w.ownsRow B1 33 6 va l.length (Lx.rowOf l)) (hb : w.ownsRow B2 33 6 vb l.length (Lx.rowOf l)) :
    Calls Try.prog 11 #[va, vb] w fun e w' => e = .returned (.bool true) ∧ ∃ n, w.drewN n = w' := by
  have fm : ∀ {v : Value} {B : Nat}, w.ownsRow B 33 6 v l.length (Lx.rowOf l) → ∃ a cap, v = .slice a l.length cap ∧ (0 < l.length → ∃ g, a = some ⟨g, 0, none⟩) := fun h => by
    rcases h.2 with ⟨h1, h2⟩ | ⟨g, cap, cur, h1, _⟩
    · exact ⟨none, 0, by rw [h2]; exact h1, fun h => by omega⟩
    · exact ⟨_, _, h1, fun _ => ⟨g, rfl⟩⟩
  obtain ⟨aa, ca, rfl, pa⟩ := fm ha
  obtain ⟨ab, cb, rfl, pb⟩ := fm hb
  have hl : l.length ≤ 9223372036854775807 := by
    rcases ha.2 with ⟨_, h2⟩ | ⟨_, cap, _, _, _, _, h1, h2, _⟩
    · omega
    · unfold maxLen at h2; omega
  have HA := Lib.hid ha
  have HB := Lib.hid hb
  have PA := Lib.hid pa
  have PB := Lib.hid pb
  clear ha hb pa pb fm
  obtain ⟨N, hN⟩ : ∃ N, l.length = N := ⟨_, rfl⟩
  rw [hN] at HA HB PA PB hl ⊢
  have HNN := Lib.hid hN
  clear hN
  go_enter Try.func11, Try.ntmps11
  go_wp2_with fail
  go_loopg [5] N (fun g v wr => ∃ k n : Nat, v = .int .i64 (k : Int) ∧ k ≤ N ∧ g = N - k ∧ w.drewN n = wr)
  case atStart => exact ⟨0, 0, rfl, by omega, rfl, rfl⟩
  case round =>
    obtain ⟨k, n, rfl, hk, hg, rfl⟩ := hrel
    by_cases hlt : k < N
    · obtain ⟨ga, rfl⟩ := PA.out (by omega)
      obtain ⟨gb, rfl⟩ := PB.out (by omega)
      obtain ⟨t, ht⟩ : ∃ t, l[k]? = some t := ⟨_, List.getElem?_eq_getElem (by rw [HNN.out]; exact hlt)⟩
      have HA2 := HA.out
      have HB2 := HB.out
      rw [← HNN.out] at HA2 HB2
      obtain ⟨a0, a1, a2, a3, a4, a5⟩ := row_cells HA2 ht
      obtain ⟨b0, b1, b2, b3, b4, b5⟩ := row_cells HB2 ht
      obtain ⟨K, at_, T, S, V, H⟩ := t
      simp only at a0 a1 a2 a3 a4 a5 b0 b1 b2 b3 b4 b5
      clear HA2 HB2 ht
      have hlt' : (k : Int) < (N : Int) := by omega
      have k0 : (0 : Int) ≤ (k : Int) := by omega
      go_wp2_with fail
      go_quiet (fail)
      go_wp2_with fail
      go_roundg (N - (k + 1))
      case rel => exact ⟨k + 1, _, by go_num, by omega, rfl, rfl⟩
      case measure => omega
    · have hlt' : ¬ (k : Int) < (N : Int) := by omega
      go_wp2_with fail
      go_returns
      exact ⟨rb rfl rfl, _, rfl⟩
theorem own_to {w w' : World} {B n z : Nat} {e : TypeId} {v : Value} {xs : List Value} (h : w.ownsRow B e z v n xs) (hb : Below w.heap.size w w') : w'.ownsRow B e z v n xs :=
  h.kept (row := none) ⟨hb.os, hb.tape, hb.output, hb.size, fun k hk _ => hb.block k hk⟩ (by cases hv : v.ownBlock with
    | none => exact .inl rfl
    | some q => exact .inr (by simp))
theorem below_drewN {B : Nat} {a w : World} (h : Below B a w) (n : Nat) : Below B a (w.drewN n) := ⟨h.os, h.tape, h.output, h.size, h.block⟩
end Go.Proofs.Ytlpoahjgonjelaa
