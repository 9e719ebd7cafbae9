/- The document's answers on moves: Has, from, Free, May. -/
import Derived.Test.YtheapamlhoogaaaMvLow
import Derived.Test.YtheapamlhoogaaaMvMathC
import Derived.BigQuiet
import Derived.Deep.QuietTactic
import Derived.Deep.LoopGhost
namespace Go.Proofs.Ytheapamlhoogaaa
open Go.RowKit Go.Maps
set_option linter.unusedVariables false

theorem hasR_at {l : List Mv.Pr} {i : Nat} {t : Mv.Pr} (h : l[i]? = some t) (x : Int) : Mv.hasR (l.drop i) x = if t.1 = x then t.2 else Mv.hasR (l.drop (i + 1)) x := by
  rw [drop_at h]; rfl
theorem Movs.drewN {w : World} {a : Option Addr} {n : Nat} {l : List Mv.Pr} (h : Movs w a n l) (m : Nat) : Movs (w.drewN m) a n l := ⟨h.len, h.bd, h.at_⟩
theorem Movs.get {w : World} {a : Option Addr} {n : Nat} {l : List Mv.Pr} (h : Movs w a n l) {i : Nat} (hi : i < n) : ∃ (t : Mv.Pr) (b off : Nat), l[i]? = some t ∧ a = some ⟨b, off, none⟩ ∧ w.cell? ⟨b, off + i * 2, none⟩ = some (.int .i64 t.1) ∧ w.cell? ⟨b, off + i * 2 + 1, none⟩ = some (.int .i64 t.2) ∧ I64 t.1 ∧ I64 t.2 := by
  obtain ⟨b, off, e, hc⟩ := h.at_ (by omega)
  obtain ⟨t, ht⟩ : ∃ t, l[i]? = some t := ⟨_, List.getElem?_eq_getElem (by rw [h.len]; exact hi)⟩
  exact ⟨t, b, off, ht, e, (hc i t ht).1, (hc i t ht).2, h.bd t (List.mem_of_getElem? ht)⟩
set_option maxRecDepth 100000 in
set_option maxHeartbeats 2000000 in
theorem rhas_any (a : Option Addr) (n cap : Nat) (l : List Mv.Pr) (x : Int) (w : World) (hM : Movs w a n l) (hn : n ≤ 1000000) :
    Calls Try.prog 14 #[.slice a n cap, .int .i64 x] w fun e w' => e = .returned (.int .i64 (Mv.hasR l x)) ∧ w' = w := by
  obtain ⟨X, hX⟩ : ∃ X, Mv.hasR l x = X := ⟨_, rfl⟩
  rw [hX]
  have HX := Lib.hid hX
  have HR := Lib.hid hM
  clear hX hM
  go_enter Try.func14, Try.ntmps14
  go_wp2_with fail
  go_loopg [5] n (fun g v wr => ∃ i : Nat, v = .int .i64 (i : Int) ∧ i ≤ n ∧ g = n - i ∧ Hid (Mv.hasR (l.drop i) x = X) ∧ wr = w)
  case atStart => exact ⟨0, rfl, Nat.zero_le _, rfl, HX, rfl⟩
  case round =>
    clear HX
    obtain ⟨i, rfl, hi, hg, HX, rfl⟩ := hrel
    by_cases hlt : i < n
    · have hlt' : (i : Int) < (n : Int) := by omega
      have i0 : (0 : Int) ≤ (i : Int) := by omega
      obtain ⟨t, b, off, ht, rfl, k1, k2, _, _⟩ := HR.out.get hlt
      have HX2 : Hid ((if t.1 = x then t.2 else Mv.hasR (l.drop (i + 1)) x) = X) := Lib.hid (by rw [← hasR_at ht]; exact HX.out)
      obtain ⟨T, S⟩ := t
      simp only at k1 k2 HX2
      clear ht HX
      by_cases hx : T = x
      · have HX3 : Hid (S = X) := Lib.hid (by have := HX2.out; rwa [if_pos hx] at this)
        have hx1 : (T == x) = true := beq_iff_eq.2 hx
        clear HX2
        go_wp2_with fail
        go_returns
        exact ⟨ri rfl HX3.out, rfl⟩
      · have HX3 : Hid (Mv.hasR (l.drop (i + 1)) x = X) := Lib.hid (by have := HX2.out; rwa [if_neg hx] at this)
        have hx1 : (T == x) = false := beq_eq_false_iff_ne.2 hx
        clear HX2
        go_wp2_with fail
        go_roundg (n - (i + 1))
        case rel => exact ⟨i + 1, by go_num, by omega, rfl, HX3, rfl⟩
        case measure => omega
    · obtain rfl : i = n := by omega
      have hlt' : ¬ (i : Int) < (i : Int) := by omega
      have HX3 : Hid (x = X) := Lib.hid (by have := HX.out; rwa [List.drop_of_length_le (by rw [HR.out.len]; exact Nat.le_refl _)] at this)
      clear HX
      go_wp2_with fail
      go_returns
      exact ⟨ri rfl HX3.out, rfl⟩
theorem fromR_at {l : List Mv.Pr} {i : Nat} {t : Mv.Pr} (h : l[i]? = some t) (x : Int) : Mv.fromR (l.drop i) x = if t.1 = x ∧ t.2 ≠ x then t.2 else Mv.fromR (l.drop (i + 1)) x := by
  rw [drop_at h]; rfl
set_option maxRecDepth 100000 in
set_option maxHeartbeats 2000000 in
theorem rfrom_any (a : Option Addr) (n cap : Nat) (l : List Mv.Pr) (x : Int) (w : World) (hM : Movs w a n l) (hn : n ≤ 1000000) :
    Calls Try.prog 17 #[.slice a n cap, .int .i64 x] w fun e w' => e = .returned (.int .i64 (Mv.fromR l x)) ∧ ∃ m, w.drewN m = w' := by
  obtain ⟨X, hX⟩ : ∃ X, Mv.fromR l x = X := ⟨_, rfl⟩
  rw [hX]
  have HX := Lib.hid hX
  have HR := Lib.hid hM
  clear hX hM
  go_enter Try.func17, Try.ntmps17
  go_wp2_with fail
  go_loopg [5] n (fun g v wr => ∃ i m : Nat, v = .int .i64 (i : Int) ∧ i ≤ n ∧ g = n - i ∧ Hid (Mv.fromR (l.drop i) x = X) ∧ w.drewN m = wr)
  case atStart => exact ⟨0, 0, rfl, Nat.zero_le _, rfl, HX, rfl⟩
  case round =>
    clear HX
    obtain ⟨i, m, rfl, hi, hg, HX, rfl⟩ := hrel
    by_cases hlt : i < n
    · have hlt' : (i : Int) < (n : Int) := by omega
      have i0 : (0 : Int) ≤ (i : Int) := by omega
      obtain ⟨t, b, off, ht, rfl, k1, k2, _, _⟩ := HR.out.get hlt
      have HX2 : Hid ((if t.1 = x ∧ t.2 ≠ x then t.2 else Mv.fromR (l.drop (i + 1)) x) = X) := Lib.hid (by rw [← fromR_at ht]; exact HX.out)
      obtain ⟨T, S⟩ := t
      simp only at k1 k2 HX2
      clear ht HX
      by_cases hx : T = x
      · by_cases hs : S = x
        · have HX3 : Hid (Mv.fromR (l.drop (i + 1)) x = X) := Lib.hid (by have := HX2.out; rwa [if_neg (fun e => e.2 hs)] at this)
          have hx1 : (T == x) = true := beq_iff_eq.2 hx
          have hx2 : (S != x) = false := by rw [bne_eq_false_iff_eq]; exact hs
          clear HX2
          go_wp2_with fail
          try go_quiet (fail)
          go_wp2_with fail
          go_roundg (n - (i + 1))
          case rel => exact ⟨i + 1, _, by go_num, by omega, rfl, HX3, rfl⟩
          case measure => omega
        · have HX3 : Hid (S = X) := Lib.hid (by have := HX2.out; rwa [if_pos ⟨hx, hs⟩] at this)
          have hx1 : (T == x) = true := beq_iff_eq.2 hx
          have hx2 : (S != x) = true := bne_iff_ne.2 hs
          have hx3 : (S == x) = false := beq_eq_false_iff_ne.2 hs
          clear HX2
          go_wp2_with fail
          try go_quiet (fail)
          go_wp2_with fail
          go_returns
          exact ⟨ri rfl HX3.out, _, rfl⟩
      · have HX3 : Hid (Mv.fromR (l.drop (i + 1)) x = X) := Lib.hid (by have := HX2.out; rwa [if_neg (fun e => hx e.1)] at this)
        have hx1 : (T == x) = false := beq_eq_false_iff_ne.2 hx
        clear HX2
        go_wp2_with fail
        try go_quiet (fail)
        go_wp2_with fail
        go_roundg (n - (i + 1))
        case rel => exact ⟨i + 1, _, by go_num, by omega, rfl, HX3, rfl⟩
        case measure => omega
    · obtain rfl : i = n := by omega
      have hlt' : ¬ (i : Int) < (i : Int) := by omega
      have HX3 : Hid (-1 = X) := Lib.hid (by have := HX.out; rwa [List.drop_of_length_le (by rw [HR.out.len]; exact Nat.le_refl _)] at this)
      clear HX
      go_wp2_with fail
      go_returns
      exact ⟨ri rfl HX3.out, _, rfl⟩
end Go.Proofs.Ytheapamlhoogaaa
