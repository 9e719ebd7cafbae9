/- The law IrIns returns true for every instruction. -/
import Derived.Test.YtbfjmhfhhlncjaaDoorIrAwake
import Derived.Test.YtbfjmhfhhlncjaaDoorIrUses
import Derived.Test.YtbfjmhfhhlncjaaDoorIrRefUses
namespace Go.Proofs.YtbfjmhfhhlncjaaDoor
open Go.RowKit
set_option linter.unusedVariables false
set_option linter.unusedSimpArgs false

theorem own_in {w : World} {B : Nat} {e : TypeId} {z n : Nat} {v : Value} {xs : List Value} (h : w.ownsRow B e z v n xs) {q : Nat} (hq : v.ownBlock = some q) : B ≤ q ∧ q < w.heap.size := by
  rcases h.2 with ⟨h1, h2⟩ | ⟨g, cap, cur, h1, h2, h3, h4⟩
  · rw [h1] at hq; cases hq
  · rw [h1] at hq
    obtain rfl : g = q := by injection hq
    exact ⟨h2, (Array.getElem?_eq_some_iff.1 h3).1⟩
theorem same_yes (s t : Sl) (w : World) (hs : SlAt w s) (ht : SlAt w t) (hn : s.n ≤ 1000000) (he : s.l = t.l) :
    Calls Tryd.prog 10 #[s.v, t.v] w fun e w' => e = .returned (.bool true) ∧ Keeps No w w' := by
  have h := same_ints s t w hs ht hn
  rw [decide_eq_true he] at h
  refine h.mono ?_
  rintro e w' ⟨rfl, m, rfl⟩
  exact ⟨rfl, (Keeps.refl _ _).drewN m⟩
theorem uses_len (x : Ix) {w : World} (hx : IxOk w x) (hn : x.args.n ≤ 20) : x.uses.length ≤ 100 := by
  have h1 := hx.args.len
  unfold Ix.uses
  repeat' split
  all_goals simp
  all_goals omega
theorem uses_bd (x : Ix) {w : World} (hx : IxOk w x) : ∀ z ∈ x.uses, I64 z := by
  intro z hz
  have h1 := hx.args.bd
  have h2 := hx.a
  have h3 := hx.b
  unfold Ix.uses at hz
  simp only [List.mem_append] at hz
  rcases hz with (hz | hz) | hz
  · split at hz
    · obtain rfl : z = x.a := by simpa using hz
      exact h2
    · cases hz
  · split at hz
    · obtain rfl : z = x.b := by simpa using hz
      exact h3
    · cases hz
  · split at hz
    · exact h1 z hz
    · cases hz
theorem uses_sl (x : Ix) (w : World) (hx : IxOk w x) (hn : x.args.n ≤ 20) :
    Calls Tryd.prog 9 #[ia x] w fun e w' => ∃ s : Sl, e = .returned s.v ∧ s.l = x.uses ∧ s.n ≤ 100 ∧ SlAt w' s ∧ w'.ownsRow w.heap.size 3 1 s.v s.l.length (irow s.l) ∧ Keeps No w w' := by
  refine (uses_any x w hx (by omega)).mono ?_
  rintro e w' ⟨v, rfl, ho⟩
  have hlen : x.uses.length ≤ 100 := uses_len x hx hn
  obtain ⟨s, rfl, hl, hs, _⟩ := ho.sl (by omega) (uses_bd x hx)
  exact ⟨s, rfl, hl, by rw [← hs.len, hl]; exact hlen, hs, by rw [hl]; exact ho.o, ho.k⟩
theorem ruses_sl (x : Ix) (w : World) (hx : IxOk w x) (hn : x.args.n ≤ 20) :
    Calls Tryd.prog 11 #[ia x] w fun e w' => ∃ s : Sl, e = .returned s.v ∧ s.l = x.uses ∧ SlAt w' s ∧ Keeps No w w' := by
  refine (ruses_any x w hx (by omega)).mono ?_
  rintro e w' ⟨v, rfl, ho⟩
  have hlen : x.uses.length ≤ 100 := uses_len x hx hn
  obtain ⟨s, rfl, hl, hs, _⟩ := ho.sl (by omega) (uses_bd x hx)
  exact ⟨s, rfl, hl, hs, ho.k⟩
set_option maxRecDepth 100000 in
set_option maxHeartbeats 25600000 in
theorem ins_law (x : Ix) (w : World) (hx : IxOk w x) (L : Laid w) : Calls Tryd.prog 3 #[ia x] w fun e w' => e = .returned (.bool true) ∧ Keeps No w w' := by
  have HL := Lib.hid L
  have HX := Lib.hid hx
  clear L hx
  obtain ⟨op, sub, d, a, bb, n, wb, ws, ⟨a1, n1, c1, l1⟩, ⟨a2, n2, c2, l2⟩, ⟨a3, n3, c3, l3⟩⟩ := x
  dsimp only [ia, Ix.cells, Sl.v]
  go_enter Tryd.func3, Tryd.ntmps3
  by_cases hlen : (20 : Int) < (n1 : Int)
  · go_wp2_with fail
    refine (awake_any _ ((HL.out).no ((Keeps.refl _ _).alloc _))).mono ?_
    rintro e w1 ⟨rfl, hk⟩
    go_wp2_with fail
    go_returns
    exact ⟨rb rfl rfl, ((Keeps.refl _ _).alloc _).trans hk (fun _ _ e => e)⟩
  obtain ⟨P1, hP1⟩ : ∃ q, w.heap.size = q := ⟨_, rfl⟩
  have HN : Hid (n1 ≤ 20) := Lib.hid (by omega)
  go_wp2_with fail
  refine (uses_sl ⟨op, sub, d, a, bb, n, wb, ws, ⟨a1, n1, c1, l1⟩, ⟨a2, n2, c2, l2⟩, ⟨a3, n3, c3, l3⟩⟩ _ (HX.out.no ((Keeps.refl _ _).alloc _)) HN.out).mono ?_
  rintro e w1 ⟨⟨sa, sn, sc, sl⟩, rfl, hsl, hsn, hsw, hso, hk⟩
  have hka : Keeps No w w1 := ((Keeps.refl _ _).alloc _).trans hk (fun _ _ e => e)
  have hp1 : w1.heap[P1]? = some (.cells #[.int .i64 op, .int .i64 sub, .int .i64 d, .int .i64 a, .int .i64 bb, .int .i64 n, .int .i64 wb, .bool ws, .slice a1 n1 c1, .slice a2 n2 c2, .slice a3 n3 c3] 27 (0, 0)) := by
    rw [hk.block P1 (by simp; omega) (fun e => e)]; exact alloc_at _ _ _ hP1
  have hPw : P1 < w1.heap.size := (Array.getElem?_eq_some_iff.1 hp1).1
  have HK1 := Lib.hid hka
  have HX1 := Lib.hid (HX.out.no hka)
  have HS1 := Lib.hid (And.intro hsl (And.intro hsn hsw))
  have HO1 : Hid (w1.ownsRow (P1 + 1) 3 1 (.slice sa sn sc) sl.length (irow sl)) := Lib.hid (by simpa [hP1] using hso)
  have HP1 := Lib.hid hp1
  have HF : Hid ((∀ u : KW w1, u.W.cell? ⟨P1, 0, none⟩ = some (.int .i64 op)) ∧ (∀ u : KW w1, u.W.cell? ⟨P1, 1, none⟩ = some (.int .i64 sub)) ∧ (∀ u : KW w1, u.W.cell? ⟨P1, 2, none⟩ = some (.int .i64 d)) ∧ (∀ u : KW w1, u.W.cell? ⟨P1, 3, none⟩ = some (.int .i64 a)) ∧ (∀ u : KW w1, u.W.cell? ⟨P1, 4, none⟩ = some (.int .i64 bb)) ∧ (∀ u : KW w1, u.W.cell? ⟨P1, 5, none⟩ = some (.int .i64 n)) ∧ (∀ u : KW w1, u.W.cell? ⟨P1, 6, none⟩ = some (.int .i64 wb)) ∧ (∀ u : KW w1, u.W.cell? ⟨P1, 7, none⟩ = some (.bool ws)) ∧ (∀ u : KW w1, u.W.cell? ⟨P1, 8, none⟩ = some (.slice a1 n1 c1)) ∧ (∀ u : KW w1, u.W.cell? ⟨P1, 9, none⟩ = some (.slice a2 n2 c2)) ∧ (∀ u : KW w1, u.W.cell? ⟨P1, 10, none⟩ = some (.slice a3 n3 c3))) := Lib.hid ⟨fun u => u.cell (by rw [cell_of_row w1 P1 0 _ _ _ hp1]; rfl), fun u => u.cell (by rw [cell_of_row w1 P1 1 _ _ _ hp1]; rfl), fun u => u.cell (by rw [cell_of_row w1 P1 2 _ _ _ hp1]; rfl), fun u => u.cell (by rw [cell_of_row w1 P1 3 _ _ _ hp1]; rfl), fun u => u.cell (by rw [cell_of_row w1 P1 4 _ _ _ hp1]; rfl), fun u => u.cell (by rw [cell_of_row w1 P1 5 _ _ _ hp1]; rfl), fun u => u.cell (by rw [cell_of_row w1 P1 6 _ _ _ hp1]; rfl), fun u => u.cell (by rw [cell_of_row w1 P1 7 _ _ _ hp1]; rfl), fun u => u.cell (by rw [cell_of_row w1 P1 8 _ _ _ hp1]; rfl), fun u => u.cell (by rw [cell_of_row w1 P1 9 _ _ _ hp1]; rfl), fun u => u.cell (by rw [cell_of_row w1 P1 10 _ _ _ hp1]; rfl)⟩
  clear hka hk hsl hsn hsw hso hp1 hPw
  dsimp only [Sl.v]
  go_wp2_with fail
  refine Mix.wp_region_mix (fun W => ∃ u : KW w1, W = u.W) [] (by kernel_rfl) ?_
  have HV0 : Hid (Keeps No w1 w1.drew) := Lib.hid ((Keeps.refl _ w1).drew)
  generalize w1.drew = v0 at HV0 ⊢
  have hne : Nonempty (KW w1) := ⟨KW.of _⟩
  have p0 := HF.out.1
  have p1 := HF.out.2.1
  have p2 := HF.out.2.2.1
  have p3 := HF.out.2.2.2.1
  have p4 := HF.out.2.2.2.2.1
  have p5 := HF.out.2.2.2.2.2.1
  have p6 := HF.out.2.2.2.2.2.2.1
  have p7 := HF.out.2.2.2.2.2.2.2.1
  have p8 := HF.out.2.2.2.2.2.2.2.2.1
  have p9 := HF.out.2.2.2.2.2.2.2.2.2.1
  have p10 := HF.out.2.2.2.2.2.2.2.2.2.2
  refine Mix.mix_seg 0 2 10 (by kernel_rfl) (by kernel_rfl) rfl rfl ⟨⟨_, HV0.out⟩, rfl⟩ ?_
  simp only [List.drop_succ_cons, List.drop_zero, List.take_succ_cons, List.take_zero]
  repeat (go_big_quiet_step (fail))
  refine wpQuiet_nil ?_
  clear hne p0 p1 p2 p3 p4 p5 p6 p7 p8 p9 p10
  refine Mix.mix_one 2 9 (by kernel_rfl) rfl rfl ?_
  simp only [List.drop_succ_cons, List.drop_zero, List.take_succ_cons, List.take_zero]
  go_wp2_with fail
  refine (ruses_sl ⟨op, sub, d, a, bb, n, wb, ws, ⟨a1, n1, c1, l1⟩, ⟨a2, n2, c2, l2⟩, ⟨a3, n3, c3, l3⟩⟩ v0 (HX1.out.no HV0.out) HN.out).mono ?_
  rintro e v1 ⟨⟨ta, tn, tc, tl⟩, rfl, htl, hts, hk⟩
  have HV1 := Lib.hid (HV0.out.trans hk (fun _ _ e => e))
  have HT := Lib.hid (And.intro htl hts)
  clear htl hts
  dsimp only [Sl.v]
  clear hk
  go_wp2_with fail
  refine ⟨.inr ⟨⟨v1, HV1.out⟩, rfl⟩, ?_⟩
  refine Mix.mix_one 3 8 (by kernel_rfl) rfl rfl ?_
  simp only [List.drop_succ_cons, List.drop_zero, List.take_succ_cons, List.take_zero]
  go_wp2_with fail
  refine (same_yes ⟨sa, sn, sc, sl⟩ ⟨ta, tn, tc, tl⟩ v1 (HS1.out.2.2.no HV1.out) HT.out.2 (Nat.le_trans HS1.out.2.1 (by decide)) (HS1.out.1.trans HT.out.1.symm)).mono ?_
  rintro e v2 ⟨rfl, hk⟩
  have HV2 := Lib.hid (HV1.out.trans hk (fun _ _ e => e))
  clear hk
  go_wp2_with fail
  refine ⟨.inr ⟨⟨v2, HV2.out⟩, rfl⟩, ?_⟩
  have hne : Nonempty (KW w1) := ⟨KW.of _⟩
  have p0 := HF.out.1
  have p1 := HF.out.2.1
  have p2 := HF.out.2.2.1
  have p3 := HF.out.2.2.2.1
  have p4 := HF.out.2.2.2.2.1
  have p5 := HF.out.2.2.2.2.2.1
  have p6 := HF.out.2.2.2.2.2.2.1
  have p7 := HF.out.2.2.2.2.2.2.2.1
  have p8 := HF.out.2.2.2.2.2.2.2.2.1
  have p9 := HF.out.2.2.2.2.2.2.2.2.2.1
  have p10 := HF.out.2.2.2.2.2.2.2.2.2.2
  refine Mix.mix_seg 4 2 6 (by kernel_rfl) (by kernel_rfl) rfl rfl ⟨⟨_, HV2.out⟩, rfl⟩ ?_
  simp only [List.drop_succ_cons, List.drop_zero, List.take_succ_cons, List.take_zero]
  repeat (go_big_quiet_step (fail))
  refine wpQuiet_nil ?_
  clear hne p0 p1 p2 p3 p4 p5 p6 p7 p8 p9 p10
  have hne : Nonempty (KW w1) := ⟨KW.of _⟩
  have p0 := HF.out.1
  have p1 := HF.out.2.1
  have p2 := HF.out.2.2.1
  have p3 := HF.out.2.2.2.1
  have p4 := HF.out.2.2.2.2.1
  have p5 := HF.out.2.2.2.2.2.1
  have p6 := HF.out.2.2.2.2.2.2.1
  have p7 := HF.out.2.2.2.2.2.2.2.1
  have p8 := HF.out.2.2.2.2.2.2.2.2.1
  have p9 := HF.out.2.2.2.2.2.2.2.2.2.1
  have p10 := HF.out.2.2.2.2.2.2.2.2.2.2
  refine Mix.mix_seg 7 1 5 (by kernel_rfl) (by kernel_rfl) rfl rfl ⟨⟨_, HV2.out⟩, rfl⟩ ?_
  simp only [List.drop_succ_cons, List.drop_zero, List.take_succ_cons, List.take_zero]
  repeat (go_big_quiet_step (fail))
  refine wpQuiet_nil ?_
  clear hne p0 p1 p2 p3 p4 p5 p6 p7 p8 p9 p10
  refine Mix.mix_one 6 4 (by kernel_rfl) rfl rfl ?_
  simp only [List.drop_succ_cons, List.drop_zero, List.take_succ_cons, List.take_zero]
  go_wp2_with fail
  refine (ipure_any ⟨op, sub, d, a, bb, n, wb, ws, ⟨a1, n1, c1, l1⟩, ⟨a2, n2, c2, l2⟩, ⟨a3, n3, c3, l3⟩⟩ v2).mono ?_
  rintro e v3 ⟨rfl, hk⟩
  have HV3 := Lib.hid (HV2.out.trans hk (fun _ _ e => e))
  clear hk
  go_wp2_with fail
  refine ⟨.inr ⟨⟨v3, HV3.out⟩, rfl⟩, ?_⟩
  refine Mix.mix_one 8 3 (by kernel_rfl) rfl rfl ?_
  simp only [List.drop_succ_cons, List.drop_zero, List.take_succ_cons, List.take_zero]
  go_wp2_with fail
  refine (rpure_any ⟨op, sub, d, a, bb, n, wb, ws, ⟨a1, n1, c1, l1⟩, ⟨a2, n2, c2, l2⟩, ⟨a3, n3, c3, l3⟩⟩ v3).mono ?_
  rintro e v4 ⟨rfl, hk⟩
  have HV4 := Lib.hid (HV3.out.trans hk (fun _ _ e => e))
  clear hk
  go_wp2_with fail
  refine ⟨.inr ⟨⟨v4, HV4.out⟩, rfl⟩, ?_⟩
  have hne : Nonempty (KW w1) := ⟨KW.of _⟩
  have p0 := HF.out.1
  have p1 := HF.out.2.1
  have p2 := HF.out.2.2.1
  have p3 := HF.out.2.2.2.1
  have p4 := HF.out.2.2.2.2.1
  have p5 := HF.out.2.2.2.2.2.1
  have p6 := HF.out.2.2.2.2.2.2.1
  have p7 := HF.out.2.2.2.2.2.2.2.1
  have p8 := HF.out.2.2.2.2.2.2.2.2.1
  have p9 := HF.out.2.2.2.2.2.2.2.2.2.1
  have p10 := HF.out.2.2.2.2.2.2.2.2.2.2
  refine Mix.mix_seg 9 3 0 (by kernel_rfl) (by kernel_rfl) rfl rfl ⟨⟨_, HV4.out⟩, rfl⟩ ?_
  simp only [List.drop_succ_cons, List.drop_zero, List.take_succ_cons, List.take_zero]
  repeat (go_big_quiet_step (fail))
  refine wpQuiet_nil ?_
  clear hne p0 p1 p2 p3 p4 p5 p6 p7 p8 p9 p10
  refine Mix.mix_end (by kernel_rfl) ?_
  have HW := Lib.hid HV4.out
  go_wp2_with fail
  refine (over_ints (P1 + 1) (.slice sa sn sc) sl _ ((own_kept HO1.out (fun q hq => HW.out.block q (own_in HO1.out hq).2 (fun e => e)))) (by have := HW.out.size; have := (Array.getElem?_eq_some_iff.1 HP1.out).1; omega) (by have h1 := HS1.out.2.1; have h2 := HS1.out.2.2.len; simp only at h1 h2; omega)).mono ?_
  rintro e w2 ⟨rfl, hk⟩
  have hkn : Keeps No w w2 := (HK1.out.trans HW.out (fun _ _ e => e)).trans hk (fun q hq e => by have := (own_in HO1.out e).1; omega)
  have hp2 : w2.heap[P1]? = some (.cells #[.int .i64 op, .int .i64 sub, .int .i64 d, .int .i64 a, .int .i64 bb, .int .i64 n, .int .i64 wb, .bool ws, .slice a1 n1 c1, .slice a2 n2 c2, .slice a3 n3 c3] 27 (0, 0)) := by
    have h := (Array.getElem?_eq_some_iff.1 HP1.out).1
    rw [hk.block P1 (by have := HW.out.size; omega) (fun e => by have := (own_in HO1.out e).1; omega), HW.out.block P1 h (fun e => e)]; exact HP1.out
  have HK2 := Lib.hid hkn
  have HX2 := Lib.hid (HX.out.no hkn)
  have HL2 := Lib.hid (HL.out.no hkn)
  have HF2 : Hid ((∀ u : KW w2, u.W.cell? ⟨P1, 0, none⟩ = some (.int .i64 op)) ∧ (∀ u : KW w2, u.W.cell? ⟨P1, 1, none⟩ = some (.int .i64 sub)) ∧ (∀ u : KW w2, u.W.cell? ⟨P1, 2, none⟩ = some (.int .i64 d)) ∧ (∀ u : KW w2, u.W.cell? ⟨P1, 3, none⟩ = some (.int .i64 a)) ∧ (∀ u : KW w2, u.W.cell? ⟨P1, 4, none⟩ = some (.int .i64 bb)) ∧ (∀ u : KW w2, u.W.cell? ⟨P1, 5, none⟩ = some (.int .i64 n)) ∧ (∀ u : KW w2, u.W.cell? ⟨P1, 6, none⟩ = some (.int .i64 wb)) ∧ (∀ u : KW w2, u.W.cell? ⟨P1, 7, none⟩ = some (.bool ws)) ∧ (∀ u : KW w2, u.W.cell? ⟨P1, 8, none⟩ = some (.slice a1 n1 c1)) ∧ (∀ u : KW w2, u.W.cell? ⟨P1, 9, none⟩ = some (.slice a2 n2 c2)) ∧ (∀ u : KW w2, u.W.cell? ⟨P1, 10, none⟩ = some (.slice a3 n3 c3))) := Lib.hid ⟨fun u => u.cell (by rw [cell_of_row w2 P1 0 _ _ _ hp2]; rfl), fun u => u.cell (by rw [cell_of_row w2 P1 1 _ _ _ hp2]; rfl), fun u => u.cell (by rw [cell_of_row w2 P1 2 _ _ _ hp2]; rfl), fun u => u.cell (by rw [cell_of_row w2 P1 3 _ _ _ hp2]; rfl), fun u => u.cell (by rw [cell_of_row w2 P1 4 _ _ _ hp2]; rfl), fun u => u.cell (by rw [cell_of_row w2 P1 5 _ _ _ hp2]; rfl), fun u => u.cell (by rw [cell_of_row w2 P1 6 _ _ _ hp2]; rfl), fun u => u.cell (by rw [cell_of_row w2 P1 7 _ _ _ hp2]; rfl), fun u => u.cell (by rw [cell_of_row w2 P1 8 _ _ _ hp2]; rfl), fun u => u.cell (by rw [cell_of_row w2 P1 9 _ _ _ hp2]; rfl), fun u => u.cell (by rw [cell_of_row w2 P1 10 _ _ _ hp2]; rfl)⟩
  clear hk hkn hp2 HF HV0 HV1 HV2 HV3 HV4 HT HO1 HS1
  go_wp2_with fail
  refine Mix.wp_region_mix (fun W => ∃ u : KW w2, W = u.W) [] (by kernel_rfl) ?_
  have HV0 : Hid (Keeps No w2 w2.drew) := Lib.hid ((Keeps.refl _ w2).drew)
  generalize w2.drew = u0 at HV0 ⊢
  have hne : Nonempty (KW w2) := ⟨KW.of _⟩
  have p0 := HF2.out.1
  have p1 := HF2.out.2.1
  have p2 := HF2.out.2.2.1
  have p3 := HF2.out.2.2.2.1
  have p4 := HF2.out.2.2.2.2.1
  have p5 := HF2.out.2.2.2.2.2.1
  have p6 := HF2.out.2.2.2.2.2.2.1
  have p7 := HF2.out.2.2.2.2.2.2.2.1
  have p8 := HF2.out.2.2.2.2.2.2.2.2.1
  have p9 := HF2.out.2.2.2.2.2.2.2.2.2.1
  have p10 := HF2.out.2.2.2.2.2.2.2.2.2.2
  refine Mix.mix_seg 0 2 10 (by kernel_rfl) (by kernel_rfl) rfl rfl ⟨⟨_, HV0.out⟩, rfl⟩ ?_
  simp only [List.drop_succ_cons, List.drop_zero, List.take_succ_cons, List.take_zero]
  repeat (go_big_quiet_step (fail))
  refine wpQuiet_nil ?_
  clear hne p0 p1 p2 p3 p4 p5 p6 p7 p8 p9 p10
  have hne : Nonempty (KW w2) := ⟨KW.of _⟩
  have p0 := HF2.out.1
  have p1 := HF2.out.2.1
  have p2 := HF2.out.2.2.1
  have p3 := HF2.out.2.2.2.1
  have p4 := HF2.out.2.2.2.2.1
  have p5 := HF2.out.2.2.2.2.2.1
  have p6 := HF2.out.2.2.2.2.2.2.1
  have p7 := HF2.out.2.2.2.2.2.2.2.1
  have p8 := HF2.out.2.2.2.2.2.2.2.2.1
  have p9 := HF2.out.2.2.2.2.2.2.2.2.2.1
  have p10 := HF2.out.2.2.2.2.2.2.2.2.2.2
  refine Mix.mix_seg 2 1 9 (by kernel_rfl) (by kernel_rfl) rfl rfl ⟨⟨_, HV0.out⟩, rfl⟩ ?_
  simp only [List.drop_succ_cons, List.drop_zero, List.take_succ_cons, List.take_zero]
  repeat (go_big_quiet_step (fail))
  refine wpQuiet_nil ?_
  clear hne p0 p1 p2 p3 p4 p5 p6 p7 p8 p9 p10
  have hne : Nonempty (KW w2) := ⟨KW.of _⟩
  have p0 := HF2.out.1
  have p1 := HF2.out.2.1
  have p2 := HF2.out.2.2.1
  have p3 := HF2.out.2.2.2.1
  have p4 := HF2.out.2.2.2.2.1
  have p5 := HF2.out.2.2.2.2.2.1
  have p6 := HF2.out.2.2.2.2.2.2.1
  have p7 := HF2.out.2.2.2.2.2.2.2.1
  have p8 := HF2.out.2.2.2.2.2.2.2.2.1
  have p9 := HF2.out.2.2.2.2.2.2.2.2.2.1
  have p10 := HF2.out.2.2.2.2.2.2.2.2.2.2
  refine Mix.mix_seg 4 1 8 (by kernel_rfl) (by kernel_rfl) rfl rfl ⟨⟨_, HV0.out⟩, rfl⟩ ?_
  simp only [List.drop_succ_cons, List.drop_zero, List.take_succ_cons, List.take_zero]
  repeat (go_big_quiet_step (fail))
  refine wpQuiet_nil ?_
  clear hne p0 p1 p2 p3 p4 p5 p6 p7 p8 p9 p10
  refine Mix.mix_one 3 7 (by kernel_rfl) rfl rfl ?_
  simp only [List.drop_succ_cons, List.drop_zero, List.take_succ_cons, List.take_zero]
  go_wp2_with fail
  refine (uses_sl ⟨op, sub, d, a, bb, n, wb, ws, ⟨a1, n1, c1, l1⟩, ⟨a2, n2, c2, l2⟩, ⟨a3, n3, c3, l3⟩⟩ u0 (HX2.out.no HV0.out) HN.out).mono ?_
  rintro e u1 ⟨⟨sa, sn, sc, sl⟩, rfl, hsl, hsn, hss, _, hk⟩
  have HV1 := Lib.hid (HV0.out.trans hk (fun _ _ e => e))
  have HS := Lib.hid (And.intro hsl (And.intro hsn hss))
  clear hsl hsn hss
  dsimp only [Sl.v]
  clear hk
  go_wp2_with fail
  refine ⟨.inr ⟨⟨u1, HV1.out⟩, rfl⟩, ?_⟩
  refine Mix.mix_one 5 6 (by kernel_rfl) rfl rfl ?_
  simp only [List.drop_succ_cons, List.drop_zero, List.take_succ_cons, List.take_zero]
  go_wp2_with fail
  refine (ruses_sl ⟨op, sub, d, a, bb, n, wb, ws, ⟨a1, n1, c1, l1⟩, ⟨a2, n2, c2, l2⟩, ⟨a3, n3, c3, l3⟩⟩ u1 (HX2.out.no HV1.out) HN.out).mono ?_
  rintro e u2 ⟨⟨ta, tn, tc, tl⟩, rfl, htl, hts, hk⟩
  have HV2 := Lib.hid (HV1.out.trans hk (fun _ _ e => e))
  have HT := Lib.hid (And.intro htl hts)
  have HSS := Lib.hid (HS.out.2.2.no hk)
  clear htl hts
  dsimp only [Sl.v]
  clear hk
  go_wp2_with fail
  refine ⟨.inr ⟨⟨u2, HV2.out⟩, rfl⟩, ?_⟩
  refine Mix.mix_one 6 5 (by kernel_rfl) rfl rfl ?_
  simp only [List.drop_succ_cons, List.drop_zero, List.take_succ_cons, List.take_zero]
  go_wp2_with fail
  refine (same_yes ⟨sa, sn, sc, sl⟩ ⟨ta, tn, tc, tl⟩ u2 HSS.out HT.out.2 (Nat.le_trans HS.out.2.1 (by decide)) (HS.out.1.trans HT.out.1.symm)).mono ?_
  rintro e u3 ⟨rfl, hk⟩
  have HV3 := Lib.hid (HV2.out.trans hk (fun _ _ e => e))
  clear hk
  go_wp2_with fail
  refine ⟨.inr ⟨⟨u3, HV3.out⟩, rfl⟩, ?_⟩
  have hne : Nonempty (KW w2) := ⟨KW.of _⟩
  have p0 := HF2.out.1
  have p1 := HF2.out.2.1
  have p2 := HF2.out.2.2.1
  have p3 := HF2.out.2.2.2.1
  have p4 := HF2.out.2.2.2.2.1
  have p5 := HF2.out.2.2.2.2.2.1
  have p6 := HF2.out.2.2.2.2.2.2.1
  have p7 := HF2.out.2.2.2.2.2.2.2.1
  have p8 := HF2.out.2.2.2.2.2.2.2.2.1
  have p9 := HF2.out.2.2.2.2.2.2.2.2.2.1
  have p10 := HF2.out.2.2.2.2.2.2.2.2.2.2
  refine Mix.mix_seg 7 2 3 (by kernel_rfl) (by kernel_rfl) rfl rfl ⟨⟨_, HV3.out⟩, rfl⟩ ?_
  simp only [List.drop_succ_cons, List.drop_zero, List.take_succ_cons, List.take_zero]
  repeat (go_big_quiet_step (fail))
  refine wpQuiet_nil ?_
  clear hne p0 p1 p2 p3 p4 p5 p6 p7 p8 p9 p10
  refine Mix.mix_one 9 2 (by kernel_rfl) rfl rfl ?_
  simp only [List.drop_succ_cons, List.drop_zero, List.take_succ_cons, List.take_zero]
  go_wp2_with fail
  refine (awake_any u3 (HL2.out.no HV3.out)).mono ?_
  rintro e u4 ⟨rfl, hk⟩
  have HV4 := Lib.hid (HV3.out.trans hk (fun _ _ e => e))
  clear hk
  go_wp2_with fail
  refine ⟨.inr ⟨⟨u4, HV4.out⟩, rfl⟩, ?_⟩
  have hne : Nonempty (KW w2) := ⟨KW.of _⟩
  have p0 := HF2.out.1
  have p1 := HF2.out.2.1
  have p2 := HF2.out.2.2.1
  have p3 := HF2.out.2.2.2.1
  have p4 := HF2.out.2.2.2.2.1
  have p5 := HF2.out.2.2.2.2.2.1
  have p6 := HF2.out.2.2.2.2.2.2.1
  have p7 := HF2.out.2.2.2.2.2.2.2.1
  have p8 := HF2.out.2.2.2.2.2.2.2.2.1
  have p9 := HF2.out.2.2.2.2.2.2.2.2.2.1
  have p10 := HF2.out.2.2.2.2.2.2.2.2.2.2
  refine Mix.mix_seg 10 2 0 (by kernel_rfl) (by kernel_rfl) rfl rfl ⟨⟨_, HV4.out⟩, rfl⟩ ?_
  simp only [List.drop_succ_cons, List.drop_zero, List.take_succ_cons, List.take_zero]
  repeat (go_big_quiet_step (fail))
  refine wpQuiet_nil ?_
  clear hne p0 p1 p2 p3 p4 p5 p6 p7 p8 p9 p10
  refine Mix.mix_end (by kernel_rfl) ?_
  go_wp2_with fail
  go_returns
  exact ⟨rb rfl rfl, HK2.out.trans HV4.out (fun _ _ e => e)⟩
end Go.Proofs.YtbfjmhfhhlncjaaDoor
