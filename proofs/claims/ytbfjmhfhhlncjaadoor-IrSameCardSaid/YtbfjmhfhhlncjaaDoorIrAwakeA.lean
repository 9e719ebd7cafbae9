/- The example's program is made; outcomes held against one another. -/
import Derived.Test.YtbfjmhfhhlncjaaDoorIrLittle
namespace Go.Proofs.YtbfjmhfhhlncjaaDoor
open Go.RowKit
set_option linter.unusedVariables false
set_option linter.unusedSimpArgs false

theorem alloc_at (w : World) (o : Obj) (k : Nat) (hk : w.heap.size = k) : (w.alloc o).heap[k]? = some o := by subst hk; exact heap_alloc_new _ _
def LittleTo (n : Int) (w : World) (e : Ending) (w' : World) : Prop := ∃ ib bb fb, e = .returned (pv (lpg n ib bb fb)) ∧ PgOk w' (lpg n ib bb fb) ∧ Keeps No w w'
set_option maxRecDepth 100000 in
set_option maxHeartbeats 6400000 in
theorem little_any (n : Int) (hn : I64 n) (w : World) : Calls Tryd.prog 24 #[.int .i64 n] w (LittleTo n w) := by
  have HN := Lib.hid hn
  obtain ⟨B0, hB0⟩ : ∃ q, w.heap.size = q := ⟨_, rfl⟩
  have HB0 := Lib.hid hB0
  clear hn hB0
  go_enter Tryd.func24, Tryd.ntmps24
  go_wp2_with fail
  have hk : Keeps No w ((((w.alloc (.cells #[.slice none 0 0, .slice (some ⟨w.heap.size + 1 + 1 + 1, 0, none⟩) 1 1, .int .i64 0] 36)).alloc (.cells ((lixs n).flatMap Ix.cells).toArray 27)).alloc (.cells #[.slice (some ⟨w.heap.size + 1, 0, none⟩) 3 3] 45)).alloc (.cells ((lfn n (w.heap.size + 1) (w.heap.size + 1 + 1)).cells).toArray 42)) := ((((Keeps.refl No w).alloc _).alloc _).alloc _).alloc _
  have hz0 : w.heap.size < (w.alloc (.cells #[.slice none 0 0, .slice (some ⟨w.heap.size + 1 + 1 + 1, 0, none⟩) 1 1, .int .i64 0] 36)).heap.size := by simp
  refine bodyPost_ret (v := .agg #[.slice none 0 0, .slice (some ⟨w.heap.size + 1 + 1 + 1, 0, none⟩) 1 1, .int .i64 0]) ?_ ?_ ?_
  · simp [results, Tryd.results24, go_sem]
  · rfl
  · refine ⟨w.heap.size + 1, w.heap.size + 1 + 1, w.heap.size + 1 + 1 + 1, rfl, lpg_ok n HN.out _ _ _ _ ?_ ?_ ?_, hk⟩
    · rw [Below.heap_alloc _ _ _ (by simp), Below.heap_alloc _ _ _ (by simp)]
      exact alloc_at _ _ _ (by simp)
    · rw [Below.heap_alloc _ _ _ (by simp)]
      exact alloc_at _ _ _ (by simp)
    · exact alloc_at _ _ _ (by simp)
/-- A slice of bytes. -/
structure BAt (w : World) (s : Sl) : Prop where
  len : s.l.length = s.n
  cap : s.n ≤ s.cap ∧ s.cap ≤ maxLen
  at_ : 0 < s.n → ∃ b off, s.a = some ⟨b, off, none⟩ ∧ ∀ (i : Nat) (z : Int), s.l[i]? = some z → w.cell? ⟨b, off + i, none⟩ = some (.int .u8 z)
theorem BAt.get {w : World} {s : Sl} (h : BAt w s) {i : Nat} (hi : i < s.n) : ∃ (b off : Nat) (z : Int), s.l[i]? = some z ∧ s.a = some ⟨b, off, none⟩ ∧ w.cell? ⟨b, off + i, none⟩ = some (.int .u8 z) := by
  obtain ⟨b, off, e, hc⟩ := h.at_ (by omega)
  obtain ⟨z, hz⟩ : ∃ z, s.l[i]? = some z := ⟨_, List.getElem?_eq_getElem (by rw [h.len]; exact hi)⟩
  exact ⟨b, off, z, hz, e, hc i z hz⟩
theorem BAt.no {w w' : World} {s : Sl} (h : BAt w s) (hk : Keeps No w w') : BAt w' s := ⟨h.len, h.cap, fun hn => by obtain ⟨b, off, e, hc⟩ := h.at_ hn; exact ⟨b, off, e, fun i z hz => hk.cell0 (hc i z hz)⟩⟩
theorem own_bytes {w : World} {B : Nat} {v : Value} {l : List Int} (h : w.ownsRow B 5 1 v l.length (brow l)) : ∃ s : Sl, s.v = v ∧ s.l = l ∧ BAt w s := by
  have ho := h
  obtain ⟨aa, ca, rfl, hg⟩ := own_form h
  refine ⟨⟨aa, l.length, ca, l⟩, rfl, rfl, rfl, ?_, fun hn => ?_⟩
  · rcases h.2 with ⟨e, h0⟩ | ⟨g, cap, cur, e, _, _, h1, h2, _⟩
    · injection e with _ _ e; subst e; exact ⟨by show l.length ≤ 0; omega, Nat.zero_le _⟩
    · injection e with _ _ e; subst e; exact ⟨h1, h2⟩
  · obtain ⟨g, rfl⟩ := hg hn
    refine ⟨g, 0, rfl, fun i z hz => ?_⟩
    have hi : i < l.length := (List.getElem?_eq_some_iff.1 hz).1
    rw [Nat.zero_add, ho.cellAt i (by omega)]
    unfold brow
    rw [List.getElem?_map, hz]; rfl
set_option maxRecDepth 100000 in
set_option maxHeartbeats 3200000 in
theorem same_bytes (s t : Sl) (w : World) (hs : BAt w s) (ht : BAt w t) (hn : s.n ≤ 1000000) :
    Calls Tryd.prog 44 #[s.v, t.v] w fun e w' => e = .returned (.bool (decide (s.l = t.l))) ∧ ∃ m, w.drewN m = w' := by
  obtain ⟨X, hX⟩ : ∃ X, decide (s.l = t.l) = X := ⟨_, rfl⟩
  rw [hX]
  have HX := Lib.hid hX
  have HS := Lib.hid hs
  have HT := Lib.hid ht
  have hcs := hs.cap
  have hct := ht.cap
  unfold maxLen at hcs hct
  clear hX hs ht
  obtain ⟨sa, sn, sc, sl⟩ := s
  obtain ⟨ta, tn, tc, tl⟩ := t
  simp only at hn hcs hct HX
  change Calls Tryd.prog 44 #[.slice sa sn sc, .slice ta tn tc] w _
  by_cases hnn : sn = tn
  · subst hnn
    have e1 : ((sn : Int) != (sn : Int)) = false := by simp
    go_enter Tryd.func44, Tryd.ntmps44
    go_wp2_with fail
    go_loopg [5] sn (fun g v wr => ∃ i m : Nat, v = .int .i64 (i : Int) ∧ i ≤ sn ∧ g = sn - i ∧ Hid (sl.take i = tl.take i) ∧ w.drewN m = wr)
    case atStart => exact ⟨0, 0, rfl, Nat.zero_le _, rfl, Lib.hid rfl, rfl⟩
    case round =>
      obtain ⟨i, m, rfl, hi, hg, HE, rfl⟩ := hrel
      by_cases hlt : i < sn
      · have hlt' : (i : Int) < (sn : Int) := by omega
        have i0 : (0 : Int) ≤ (i : Int) := by omega
        obtain ⟨b1, o1, z1, hz1, rfl, c1⟩ := HS.out.get hlt
        obtain ⟨b2, o2, z2, hz2, rfl, c2⟩ := HT.out.get hlt
        have HZ1 := Lib.hid hz1
        have HZ2 := Lib.hid hz2
        clear hz1 hz2
        by_cases hz : z1 = z2
        · have e2 : (z1 != z2) = false := by rw [hz]; simp
          have HZ := Lib.hid hz
          clear hz
          go_wp2_with fail
          go_quiet (fail)
          go_wp2_with fail
          go_roundg (sn - (i + 1))
          case rel => exact ⟨i + 1, m + nq, by go_num, by omega, rfl, Lib.hid (by
            obtain ⟨h1, h2⟩ := List.getElem?_eq_some_iff.1 HZ1.out
            obtain ⟨h3, h4⟩ := List.getElem?_eq_some_iff.1 HZ2.out
            rw [List.take_succ_eq_append_getElem h1, List.take_succ_eq_append_getElem h3, HE.out, h2, h4, HZ.out]), rfl⟩
          case measure => omega
        · have e2 : (z1 != z2) = true := bne_iff_ne.2 hz
          have HF : Hid (X = false) := Lib.hid (by
            rw [← HX.out]; exact decide_eq_false (fun e => hz (by have h := HZ1.out; rw [e] at h; have h2 := HZ2.out; simp only at h h2; rw [h] at h2; injection h2)))
          clear hz
          go_wp2_with fail
          go_quiet (fail)
          go_wp2_with fail
          go_returns
          exact ⟨rb rfl HF.out.symm, m + nq, by rw [World.drewN_drewN]⟩
      · obtain rfl : i = sn := by omega
        have hlt' : ¬ (i : Int) < (i : Int) := by omega
        have HF : Hid (X = true) := Lib.hid (by
          rw [← HX.out]; exact decide_eq_true (by have h := HE.out; rw [List.take_of_length_le (by have := HS.out.len; simp only at this; omega), List.take_of_length_le (by have := HT.out.len; simp only at this; omega)] at h; exact h))
        go_wp2_with fail
        go_returns
        exact ⟨rb rfl HF.out.symm, m, rfl⟩
  · have e1 : ((sn : Int) != (tn : Int)) = true := by rw [bne_iff_ne]; omega
    have HF : Hid (X = false) := Lib.hid (by
      rw [← HX.out]; exact decide_eq_false (fun e => hnn (by have h1 := HS.out.len; have h2 := HT.out.len; simp only at h1 h2; rw [e] at h1; omega)))
    clear hnn
    go_enter Tryd.func44, Tryd.ntmps44
    go_wp2_with fail
    go_returns
    exact ⟨rb rfl HF.out.symm, 0, rfl⟩

abbrev ov (k c : Int) (s : Sl) : Value := .agg #[.int .i64 k, .int .i64 c, s.v]
set_option maxRecDepth 100000 in
set_option maxHeartbeats 6400000 in
theorem same_outcome (k c k' c' : Int) (s t : Sl) (w : World) (hs : BAt w s) (ht : BAt w t) (hn : s.n ≤ 1000000) (hk : k = k') (hc : c = c') :
    Calls Tryd.prog 23 #[ov k c s, ov k' c' t] w fun e w' => e = .returned (.bool (decide (s.l = t.l))) ∧ Keeps No w w' := by
  have HC := Lib.hid (fun (W : World) (hk : Keeps No w W) => same_bytes s t W (hs.no hk) (ht.no hk) hn)
  obtain ⟨X, hX⟩ : ∃ X, decide (s.l = t.l) = X := ⟨_, rfl⟩
  rw [hX] at HC ⊢
  have u0 : (k == k') = true := beq_iff_eq.2 hk
  have u1 : (c == c') = true := beq_iff_eq.2 hc
  clear hs ht hn hk hc hX
  obtain ⟨sa, sn, sc, sl⟩ := s
  obtain ⟨ta, tn, tc, tl⟩ := t
  dsimp only [ov, Sl.v] at HC ⊢
  have hka : Keeps No w ((w.alloc (.cells #[.int .i64 k, .int .i64 c, .slice sa sn sc] 57)).alloc (.cells #[.int .i64 k', .int .i64 c', .slice ta tn tc] 57)) := ((Keeps.refl No w).alloc _).alloc _
  have HKA := Lib.hid hka
  clear hka
  go_enter Tryd.func23, Tryd.ntmps23
  go_wp2_with fail
  refine (HC.out _ HKA.out).mono ?_
  rintro e w1 ⟨rfl, m1, rfl⟩
  have HK1 := Lib.hid (HKA.out.drewN m1)
  go_wp2_with fail
  go_returns
  exact ⟨rfl, HK1.out⟩
/-- No program. -/
def pg0 : Pg := ⟨none, 0, 0, [], none, 0, 0, [], 0⟩
theorem pg0_ok (w : World) : PgOk w pg0 := ⟨i64s 0 (by decide), rfl, ⟨Nat.le_refl _, Nat.zero_le _⟩, (fun g hg => by cases hg), (fun h => absurd h (Nat.lt_irrefl 0)), rfl, ⟨Nat.le_refl _, Nat.zero_le _⟩, (fun g hg => by cases hg), (fun h => absurd h (Nat.lt_irrefl 0))⟩
theorem pg0_no : pg0.ok = false := rfl
end Go.Proofs.YtbfjmhfhhlncjaaDoor
