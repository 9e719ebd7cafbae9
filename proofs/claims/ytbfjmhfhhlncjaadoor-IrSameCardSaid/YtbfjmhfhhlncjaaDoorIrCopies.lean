/- Copies: what lies in memory of one's own. -/
import Derived.Test.YtbfjmhfhhlncjaaDoorIrRuns
import Derived.Test.YtbfjmhfhhlncjaaDoorIrMay
import Derived.Test.YtbfjmhfhhlncjaaDoorIrSameT
import Derived.Test.YtbfjmhfhhlncjaaDoorIrSameC
import Derived.OwnWalk
import Derived.Test.YtbfjmhfhhlncjaaDoorMix
namespace Go.Proofs.YtbfjmhfhhlncjaaDoor
open Go.RowKit
set_option linter.unusedVariables false
set_option linter.unusedSimpArgs false

/-- A row of one-cell values that is appended to nothing. -/
theorem wpList_appNil (w : World) {ops : Array Oper} {rest : List Oper} {o : Oper} {a : Act} {Q : Exit → Act → World → Prop} (hgd : o.guard = none) (s x : Operand) (t e : TypeId)
    (ho : o.op = .call { callee := .builtin .append, args := #[s, x], argTypes := #[t, t] }) (ht : Tryd.prog.underlying t = some (.slice e)) (hinf : (Tryd.prog.info? e).map (fun i => (i.zero, i.size, i.bytes)) = some (some (.int .i64 0), 1, 8))
    (n c : Nat) (l : List Int) (sa : Option Addr) (hs : a.eval s = .slice none 0 0) (hx : a.eval x = .slice sa n c) (hl : l.length = n) (hn : n ≤ 1000000)
    (hat : 0 < n → ∃ b off, sa = some ⟨b, off, none⟩ ∧ ∀ (j : Nat) z, l[j]? = some z → w.cell? ⟨b, off + j, none⟩ = some (.int .i64 z))
    (h : ∀ va cap w', w'.ownsRow w.heap.size e 1 (.slice va n cap) n (irow l) → Keeps No w w' → wpList Tryd.prog ops Q rest (a.put o.dst (.slice va n cap)) w') : wpList Tryd.prog ops Q (o :: rest) a w := by
  by_cases h0 : n = 0
  · subst h0
    obtain rfl : l = [] := List.eq_nil_of_length_eq_zero hl
    exact wpList_app0 w hgd s x t e ho ht hinf w.heap.size (.slice none 0 0) 0 [] (World.ownsRow_nil _ _ _ _) hs sa c hx (h none 0 w (World.ownsRow_nil _ _ _ _) (Keeps.refl _ _))
  · obtain ⟨b, off, rfl, hc⟩ := hat (by omega)
    obtain ⟨i0, hi, hz0, hz1, hz2⟩ := info_parts hinf
    have hmx : 0 + n ≤ maxLen := by unfold maxLen; omega
    have hby : (0 + n) * 8 ≤ 140737488355328 := by omega
    refine wpList_append_lies w hgd s x t ho w.heap.size e i0 (.int .i64 0) 1 8 ht hi hz0 hz1 hz2 rfl (by decide) _ 0 [] hs (World.ownsRow_nil _ _ _ _) ⟨b, off, none⟩ n c (irow l) hx (by rw [irow_len, hl, Nat.mul_one]) (fun j u hu => ?_) (irow_one l) (by omega) hmx hby (Nat.le_refl _) _ rfl (fun g' cap w' k1 k2 k3 _ => ?_)
    · obtain ⟨z, hz, rfl⟩ := irow_of hu
      have e : (⟨b, off, none⟩ : Addr).add j = ⟨b, off + j, none⟩ := by unfold Addr.add; split <;> simp_all
      rw [e]; exact hc j z hz
    · rw [Nat.zero_add] at k1 ⊢
      exact h _ cap w' (by simpa using k1) ((Keeps.refl No w).grown k2 (fun q e => by cases e))
/-- A row of numbers in memory of one's own, that reads as it should. -/
structure OSl (w : World) (B : Nat) (e : TypeId) (s : Sl) : Prop where
  o : w.ownsRow B e 1 s.v s.n (irow s.l)
  len : s.l.length = s.n
theorem OSl.at_ {w : World} {B : Nat} {e : TypeId} {s : Sl} (h : OSl w B e s) (hb : ∀ z ∈ s.l, I64 z) : SlAt w s := by
  refine ⟨h.len, ?_, hb, fun hn => ?_⟩
  · rcases h.o.2 with ⟨e, h0⟩ | ⟨g, cap, cur, e, _, _, h1, h2, _⟩
    · injection e with _ _ e; rw [e, h0]; exact ⟨Nat.le_refl _, Nat.zero_le _⟩
    · injection e with _ _ e; rw [e]; exact ⟨h1, h2⟩
  · have ho := h.o
    obtain ⟨aa, ca, e, hg⟩ := own_form ho
    obtain ⟨g, rfl⟩ := hg hn
    injection e with e1 e2 e3
    refine ⟨g, 0, e1, fun i z hz => ?_⟩
    have hi : i < s.n := by rw [← h.len]; exact (List.getElem?_eq_some_iff.1 hz).1
    rw [Nat.zero_add]
    unfold Sl.v at ho
    rw [e1] at ho
    exact (ho.cellAt i (by omega)).trans (irow_get hz)
structure OIx (w : World) (B : Nat) (x : Ix) : Prop where
  args : OSl w B 3 x.args
  tos : OSl w B 3 x.to
  cases_ : OSl w B 2 x.cases_
def SmallIx (x : Ix) : Prop := x.args.n ≤ 1000000 ∧ x.to.n ≤ 1000000 ∧ x.cases_.n ≤ 1000000
theorem OSl.keep {w w' : World} {B : Nat} {e : TypeId} {s : Sl} {S : Nat → Prop} (h : OSl w B e s) (hk : Keeps S w w') (hS : ∀ q, s.v.ownBlock = some q → ¬ S q) : OSl w' B e s := ⟨keeps_row h.o hk hS, h.len⟩
theorem OSl.no {w w' : World} {B : Nat} {e : TypeId} {s : Sl} (h : OSl w B e s) (hk : Keeps No w w') : OSl w' B e s := h.keep hk (fun _ _ e => e)
theorem OSl.mono {w : World} {B B' : Nat} {e : TypeId} {s : Sl} (h : OSl w B e s) (hb : B' ≤ B) : OSl w B' e s := ⟨own_mono h.o hb, h.len⟩
theorem infoIns : (Tryd.prog.info? 27).map (·.size) = some 11 := by kernel_rfl
/-- What a copy of an instruction leaves. -/
def CopyIx (x : Ix) (w : World) (e : Ending) (w' : World) : Prop := ∃ y : Ix, e = .returned (ia y) ∧ x.same y = true ∧ SmallIx y ∧ IxOk w' y ∧ OIx w' w.heap.size y ∧ Keeps No w w'
set_option maxRecDepth 100000 in
set_option maxHeartbeats 12800000 in
theorem copyIns_any (x : Ix) (w : World) (hx : IxOk w x) (hs : SmallIx x) : Calls Tryd.prog 86 #[ia x] w (CopyIx x w) := by
  have HX := Lib.hid hx
  have HS := Lib.hid hs
  have hs1 := hs.1
  have hs2 := hs.2.1
  have hs3 := hs.2.2
  obtain ⟨x', hx'⟩ : ∃ x', x = x' := ⟨_, rfl⟩
  have HXX := Lib.hid hx'
  obtain ⟨op, sub, d, a, bb, n, wb, ws, ⟨a1, n1, c1, l1⟩, ⟨a2, n2, c2, l2⟩, ⟨a3, n3, c3, l3⟩⟩ := x
  simp only at hs1 hs2 hs3
  rw [hx'] at HX HS ⊢
  rw [← hx']
  dsimp only [ia, Sl.v]
  rw [hx']
  have hX := HX.out
  rw [← hx'] at hX
  have HA1 := Lib.hid hX.args
  have HA2 := Lib.hid hX.to
  have HA3 := Lib.hid hX.cases_
  dsimp only at HA1 HA2 HA3
  clear hx hs hx' hX
  obtain ⟨B, hB⟩ : ∃ B, w.heap.size = B := ⟨_, rfl⟩
  have HB := Lib.hid hB
  have hat : ∀ (s : Sl) (W : World), SlAt w s → Keeps No w W → 0 < s.n → ∃ b off, s.a = some ⟨b, off, none⟩ ∧ ∀ (j : Nat) z, s.l[j]? = some z → W.cell? ⟨b, off + j, none⟩ = some (.int .i64 z) := fun s W h hk hn => by
    obtain ⟨b, off, e, hc⟩ := h.at_ hn
    exact ⟨b, off, e, fun j z hz => hk.cell0 (hc j z hz)⟩
  have HAT := Lib.hid hat
  clear hat hB
  go_enter Tryd.func86, Tryd.ntmps86
  go_wp2_with (at_builtin; refine wpList_appNil _ rfl _ (.tmp 4) 24 3 rfl Tryd.underlying24 infoI n1 c1 l1 a1 rfl rfl HA1.out.len hs1 (HAT.out _ _ HA1.out (((Keeps.refl No w).alloc _).alloc _)) ?_)
  intro va1 ca1 w1 ho1 hk1
  obtain ⟨g, hg⟩ : ∃ g, w.heap.size = g := ⟨_, rfl⟩
  have hr0 : w1.heap[g]? = some (.cells #[.int .i64 op, .int .i64 sub, .int .i64 d, .int .i64 a, .int .i64 bb, .int .i64 n, .int .i64 wb, .bool ws, .slice a1 n1 c1, .slice a2 n2 c2, .slice a3 n3 c3] 27 (0, 0)) := by
    rw [hk1.block g (by simp; omega) (fun e => e), Below.heap_alloc _ _ _ (by simp; omega), ← hg]; exact heap_alloc_new _ _
  have hq0 : w1.heap[g + 1]? = some (.cells #[.int .i64 0, .int .i64 0, .int .i64 0, .int .i64 0, .int .i64 0, .int .i64 0, .int .i64 0, .bool false, .slice none 0 0, .slice none 0 0, .slice none 0 0] 27 (0, 0)) := by
    rw [hk1.block (g + 1) (by simp; omega) (fun e => e), ← hg]
    exact (by simpa using heap_alloc_new (w.alloc (.cells #[.int .i64 op, .int .i64 sub, .int .i64 d, .int .i64 a, .int .i64 bb, .int .i64 n, .int .i64 wb, .bool ws, .slice a1 n1 c1, .slice a2 n2 c2, .slice a3 n3 c3] 27)) (.cells #[.int .i64 0, .int .i64 0, .int .i64 0, .int .i64 0, .int .i64 0, .int .i64 0, .int .i64 0, .bool false, .slice none 0 0, .slice none 0 0, .slice none 0 0] 27))
  simp only [hg] at ho1 ⊢
  have HR0 := Lib.hid hr0
  have HQ0 := Lib.hid hq0
  have HO1 := Lib.hid (own_mono ho1 (show g ≤ g + 1 + 1 by omega))
  have HN1 : Hid (∀ q, (Value.slice va1 n1 ca1).ownBlock = some q → g + 2 ≤ q) := Lib.hid (fun q hq => (ho1.lt q hq).1)
  have HK1 : Hid (Keeps No w w1) := Lib.hid ((((Keeps.refl No w).alloc _).alloc _).trans hk1 (fun _ _ e => e))
  have HG := Lib.hid hg
  have HSZ : Hid (g + 2 ≤ w1.heap.size) := Lib.hid (by have := hk1.size; simp at this; omega)
  have c7 : w1.cell? ⟨g, 8, none⟩ = some (.slice a1 n1 c1) := by rw [cell_of_row w1 g 8 _ _ _ hr0]; rfl
  have f7 : w1.frozen? ⟨g, 8, none⟩ = false := frozen_of_row w1 g 8 _ _ hr0
  clear hr0 hq0 ho1 hk1 hg
  have HRW1 : Hid ((w1.setCell ⟨g, 8, none⟩ (.slice va1 n1 ca1)).heap[g]? = some (.cells #[.int .i64 op, .int .i64 sub, .int .i64 d, .int .i64 a, .int .i64 bb, .int .i64 n, .int .i64 wb, .bool ws, .slice va1 n1 ca1, .slice a2 n2 c2, .slice a3 n3 c3] 27 (0, 0))) := Lib.hid (by rw [heap_setCell_same w1 g 8 _ _ _ HR0.out]; rfl)
  have HQW1 : Hid ((w1.setCell ⟨g, 8, none⟩ (.slice va1 n1 ca1)).heap[g + 1]? = some (.cells #[.int .i64 0, .int .i64 0, .int .i64 0, .int .i64 0, .int .i64 0, .int .i64 0, .int .i64 0, .bool false, .slice none 0 0, .slice none 0 0, .slice none 0 0] 27 (0, 0))) := Lib.hid (by rw [Below.heap_setCell _ _ _ _ (by simp)]; exact HQ0.out)
  have HKW1 := Lib.hid (HK1.out.setCell (p := ⟨g, 8, none⟩) (.inr (by rw [HG.out]; exact Nat.le_refl _)) (.slice va1 n1 ca1))
  have HOW11 := Lib.hid (own_far (p := ⟨g, 8, none⟩) HO1.out (fun e => by have := HN1.out g e; omega) (.slice va1 n1 ca1))
  have n7 : w1.cell? ⟨g, 9, none⟩ = some (.slice a2 n2 c2) := by rw [cell_of_row w1 g 9 _ _ _ HR0.out]; rfl
  go_wp2_with (first | (at_builtin; refine wpList_appNil _ rfl _ (.tmp 8) 24 3 rfl Tryd.underlying24 infoI n2 c2 l2 a2 rfl rfl HA2.out.len hs2 (HAT.out _ _ HA2.out HKW1.out) ?_))
  clear c7 f7 n7
  intro va2 ca2 w2 ho2 hk2
  have hs0 := HSZ.out
  have hr1 := (hk2.block g (by simp [World.setCell]; omega) (fun e => e)).trans HRW1.out
  have hq1 := (hk2.block (g + 1) (by simp [World.setCell]; omega) (fun e => e)).trans HQW1.out
  have HR1 := Lib.hid hr1
  have HQ1 := Lib.hid hq1
  have hgw : g + 2 ≤ (w1.setCell ⟨g, 8, none⟩ (.slice va1 n1 ca1)).heap.size := by simp [World.setCell]; omega
  have HO2 := Lib.hid (own_mono ho2 (show g ≤ _ by omega))
  have HN2 : Hid (∀ q, (Value.slice va2 n2 ca2).ownBlock = some q → g + 2 ≤ q) := Lib.hid (fun q hq => by have h := (ho2.lt q hq).1; have h2 := hgw; (try simp [World.setCell] at h); (try simp [World.setCell] at h2); omega)
  have HO21 := Lib.hid (keeps_row HOW11.out hk2 (fun _ _ e => e))
  have HK2 : Hid (Keeps No w w2) := Lib.hid (HKW1.out.trans hk2 (fun _ _ e => e))
  have HSZ : Hid (g + 2 ≤ w2.heap.size) := Lib.hid (Nat.le_trans hgw hk2.size)
  have c7 : w2.cell? ⟨g, 9, none⟩ = some (.slice a2 n2 c2) := by rw [cell_of_row w2 g 9 _ _ _ hr1]; rfl
  have f7 : w2.frozen? ⟨g, 9, none⟩ = false := frozen_of_row w2 g 9 _ _ hr1
  clear hr1 hq1 ho2 hk2 hgw hs0
  have HRW2 : Hid ((w2.setCell ⟨g, 9, none⟩ (.slice va2 n2 ca2)).heap[g]? = some (.cells #[.int .i64 op, .int .i64 sub, .int .i64 d, .int .i64 a, .int .i64 bb, .int .i64 n, .int .i64 wb, .bool ws, .slice va1 n1 ca1, .slice va2 n2 ca2, .slice a3 n3 c3] 27 (0, 0))) := Lib.hid (by rw [heap_setCell_same w2 g 9 _ _ _ HR1.out]; rfl)
  have HQW2 : Hid ((w2.setCell ⟨g, 9, none⟩ (.slice va2 n2 ca2)).heap[g + 1]? = some (.cells #[.int .i64 0, .int .i64 0, .int .i64 0, .int .i64 0, .int .i64 0, .int .i64 0, .int .i64 0, .bool false, .slice none 0 0, .slice none 0 0, .slice none 0 0] 27 (0, 0))) := Lib.hid (by rw [Below.heap_setCell _ _ _ _ (by simp)]; exact HQ1.out)
  have HKW2 := Lib.hid (HK2.out.setCell (p := ⟨g, 9, none⟩) (.inr (by rw [HG.out]; exact Nat.le_refl _)) (.slice va2 n2 ca2))
  have HOW21 := Lib.hid (own_far (p := ⟨g, 9, none⟩) HO21.out (fun e => by have := HN1.out g e; omega) (.slice va2 n2 ca2))
  have HOW22 := Lib.hid (own_far (p := ⟨g, 9, none⟩) HO2.out (fun e => by have := HN2.out g e; omega) (.slice va2 n2 ca2))
  have n7 : w2.cell? ⟨g, 10, none⟩ = some (.slice a3 n3 c3) := by rw [cell_of_row w2 g 10 _ _ _ HR1.out]; rfl
  go_wp2_with (first | (at_builtin; refine wpList_appNil _ rfl _ (.tmp 12) 25 2 rfl Tryd.underlying25 infoI64 n3 c3 l3 a3 rfl rfl HA3.out.len hs3 (HAT.out _ _ HA3.out HKW2.out) ?_))
  clear c7 f7 n7
  intro va3 ca3 w3 ho3 hk3
  have hs0 := HSZ.out
  have hr2 := (hk3.block g (by simp [World.setCell]; omega) (fun e => e)).trans HRW2.out
  have hq2 := (hk3.block (g + 1) (by simp [World.setCell]; omega) (fun e => e)).trans HQW2.out
  have HR2 := Lib.hid hr2
  have HQ2 := Lib.hid hq2
  have hgw : g + 2 ≤ (w2.setCell ⟨g, 9, none⟩ (.slice va2 n2 ca2)).heap.size := by simp [World.setCell]; omega
  have HO3 := Lib.hid (own_mono ho3 (show g ≤ _ by omega))
  have HN3 : Hid (∀ q, (Value.slice va3 n3 ca3).ownBlock = some q → g + 2 ≤ q) := Lib.hid (fun q hq => by have h := (ho3.lt q hq).1; have h2 := hgw; (try simp [World.setCell] at h); (try simp [World.setCell] at h2); omega)
  have HO31 := Lib.hid (keeps_row HOW21.out hk3 (fun _ _ e => e))
  have HO32 := Lib.hid (keeps_row HOW22.out hk3 (fun _ _ e => e))
  have HK3 : Hid (Keeps No w w3) := Lib.hid (HKW2.out.trans hk3 (fun _ _ e => e))
  have HSZ : Hid (g + 2 ≤ w3.heap.size) := Lib.hid (Nat.le_trans hgw hk3.size)
  have c7 : w3.cell? ⟨g, 10, none⟩ = some (.slice a3 n3 c3) := by rw [cell_of_row w3 g 10 _ _ _ hr2]; rfl
  have f7 : w3.frozen? ⟨g, 10, none⟩ = false := frozen_of_row w3 g 10 _ _ hr2
  clear hr2 hq2 ho3 hk3 hgw hs0
  have HRW3 : Hid ((w3.setCell ⟨g, 10, none⟩ (.slice va3 n3 ca3)).heap[g]? = some (.cells #[.int .i64 op, .int .i64 sub, .int .i64 d, .int .i64 a, .int .i64 bb, .int .i64 n, .int .i64 wb, .bool ws, .slice va1 n1 ca1, .slice va2 n2 ca2, .slice va3 n3 ca3] 27 (0, 0))) := Lib.hid (by rw [heap_setCell_same w3 g 10 _ _ _ HR2.out]; rfl)
  have HQW3 : Hid ((w3.setCell ⟨g, 10, none⟩ (.slice va3 n3 ca3)).heap[g + 1]? = some (.cells #[.int .i64 0, .int .i64 0, .int .i64 0, .int .i64 0, .int .i64 0, .int .i64 0, .int .i64 0, .bool false, .slice none 0 0, .slice none 0 0, .slice none 0 0] 27 (0, 0))) := Lib.hid (by rw [Below.heap_setCell _ _ _ _ (by simp)]; exact HQ2.out)
  have HKW3 := Lib.hid (HK3.out.setCell (p := ⟨g, 10, none⟩) (.inr (by rw [HG.out]; exact Nat.le_refl _)) (.slice va3 n3 ca3))
  have HOW31 := Lib.hid (own_far (p := ⟨g, 10, none⟩) HO31.out (fun e => by have := HN1.out g e; omega) (.slice va3 n3 ca3))
  have HOW32 := Lib.hid (own_far (p := ⟨g, 10, none⟩) HO32.out (fun e => by have := HN2.out g e; omega) (.slice va3 n3 ca3))
  have HOW33 := Lib.hid (own_far (p := ⟨g, 10, none⟩) HO3.out (fun e => by have := HN3.out g e; omega) (.slice va3 n3 ca3))
  obtain ⟨w4, hw4⟩ : ∃ W, w3.setCell ⟨g, 10, none⟩ (.slice va3 n3 ca3) = W := ⟨_, rfl⟩
  rw [hw4] at HRW3 HQW3 HKW3 HOW31 HOW32 HOW33
  have d0 : w4.cell? ⟨g, 0, none⟩ = some (.int .i64 op) := by rw [cell_of_row w4 g 0 _ _ _ HRW3.out]; rfl
  have d1 : w4.cell? ⟨g, 1, none⟩ = some (.int .i64 sub) := by rw [cell_of_row w4 g 1 _ _ _ HRW3.out]; rfl
  have d2 : w4.cell? ⟨g, 2, none⟩ = some (.int .i64 d) := by rw [cell_of_row w4 g 2 _ _ _ HRW3.out]; rfl
  have d3 : w4.cell? ⟨g, 3, none⟩ = some (.int .i64 a) := by rw [cell_of_row w4 g 3 _ _ _ HRW3.out]; rfl
  have d4 : w4.cell? ⟨g, 4, none⟩ = some (.int .i64 bb) := by rw [cell_of_row w4 g 4 _ _ _ HRW3.out]; rfl
  have d5 : w4.cell? ⟨g, 5, none⟩ = some (.int .i64 n) := by rw [cell_of_row w4 g 5 _ _ _ HRW3.out]; rfl
  have d6 : w4.cell? ⟨g, 6, none⟩ = some (.int .i64 wb) := by rw [cell_of_row w4 g 6 _ _ _ HRW3.out]; rfl
  have d7 : w4.cell? ⟨g, 7, none⟩ = some (.bool ws) := by rw [cell_of_row w4 g 7 _ _ _ HRW3.out]; rfl
  have d8 : w4.cell? ⟨g, 8, none⟩ = some (.slice va1 n1 ca1) := by rw [cell_of_row w4 g 8 _ _ _ HRW3.out]; rfl
  have d9 : w4.cell? ⟨g, 9, none⟩ = some (.slice va2 n2 ca2) := by rw [cell_of_row w4 g 9 _ _ _ HRW3.out]; rfl
  have d10 : w4.cell? ⟨g, 10, none⟩ = some (.slice va3 n3 ca3) := by rw [cell_of_row w4 g 10 _ _ _ HRW3.out]; rfl
  have HW4 := Lib.hid hw4
  clear hw4
  have e7 : w3.cell? ⟨g, 10, none⟩ = some (.slice a3 n3 c3) := by rw [cell_of_row w3 g 10 _ _ _ HR2.out]; rfl
  clear d0 d1 d2 d3 d4 d5 d6 d7 d8 d9 d10
  go_upto_region 4 with fail
  rw [HW4.out]
  clear e7 c7 f7
  have d0 : w4.cell? ⟨g, 0, none⟩ = some (.int .i64 op) := by rw [cell_of_row w4 g 0 _ _ _ HRW3.out]; rfl
  have d1 : w4.cell? ⟨g, 1, none⟩ = some (.int .i64 sub) := by rw [cell_of_row w4 g 1 _ _ _ HRW3.out]; rfl
  have d2 : w4.cell? ⟨g, 2, none⟩ = some (.int .i64 d) := by rw [cell_of_row w4 g 2 _ _ _ HRW3.out]; rfl
  have d3 : w4.cell? ⟨g, 3, none⟩ = some (.int .i64 a) := by rw [cell_of_row w4 g 3 _ _ _ HRW3.out]; rfl
  have d4 : w4.cell? ⟨g, 4, none⟩ = some (.int .i64 bb) := by rw [cell_of_row w4 g 4 _ _ _ HRW3.out]; rfl
  have d5 : w4.cell? ⟨g, 5, none⟩ = some (.int .i64 n) := by rw [cell_of_row w4 g 5 _ _ _ HRW3.out]; rfl
  have d6 : w4.cell? ⟨g, 6, none⟩ = some (.int .i64 wb) := by rw [cell_of_row w4 g 6 _ _ _ HRW3.out]; rfl
  have d7 : w4.cell? ⟨g, 7, none⟩ = some (.bool ws) := by rw [cell_of_row w4 g 7 _ _ _ HRW3.out]; rfl
  have d8 : w4.cell? ⟨g, 8, none⟩ = some (.slice va1 n1 ca1) := by rw [cell_of_row w4 g 8 _ _ _ HRW3.out]; rfl
  have d9 : w4.cell? ⟨g, 9, none⟩ = some (.slice va2 n2 ca2) := by rw [cell_of_row w4 g 9 _ _ _ HRW3.out]; rfl
  have d10 : w4.cell? ⟨g, 10, none⟩ = some (.slice va3 n3 ca3) := by rw [cell_of_row w4 g 10 _ _ _ HRW3.out]; rfl
  go_wp2_with (first | (refine wpList_store_row rfl _ _ _ rfl (g + 1) #[.int .i64 op, .int .i64 sub, .int .i64 d, .int .i64 a, .int .i64 bb, .int .i64 n, .int .i64 wb, .bool ws, .slice va1 n1 ca1, .slice va2 n2 ca2, .slice va3 n3 ca3] rfl rfl _ _ HQW3.out infoIns rfl (by simp [Value.oneCell']) ?_))
  have hrc : ∀ j, (w4.setRow (g + 1) #[.int .i64 op, .int .i64 sub, .int .i64 d, .int .i64 a, .int .i64 bb, .int .i64 n, .int .i64 wb, .bool ws, .slice va1 n1 ca1, .slice va2 n2 ca2, .slice va3 n3 ca3]).cell? ⟨g + 1, j, none⟩ = (#[.int .i64 op, .int .i64 sub, .int .i64 d, .int .i64 a, .int .i64 bb, .int .i64 n, .int .i64 wb, .bool ws, .slice va1 n1 ca1, .slice va2 n2 ca2, .slice va3 n3 ca3] : Array Value)[j]? := fun j => by
    rw [cell_of_row _ (g + 1) j _ _ _ (setRow_heap w4 (g + 1) _ #[.int .i64 op, .int .i64 sub, .int .i64 d, .int .i64 a, .int .i64 bb, .int .i64 n, .int .i64 wb, .bool ws, .slice va1 n1 ca1, .slice va2 n2 ca2, .slice va3 n3 ca3] _ _ HQW3.out)]
  have hkz : Keeps No w4 w4 := Keeps.refl _ _
  have hk5 : Keeps No w (w4.setRow (g + 1) #[.int .i64 op, .int .i64 sub, .int .i64 d, .int .i64 a, .int .i64 bb, .int .i64 n, .int .i64 wb, .bool ws, .slice va1 n1 ca1, .slice va2 n2 ca2, .slice va3 n3 ca3]) := HKW3.out.setRow (.inr (by rw [HG.out]; omega)) _
  have hks : Keeps (fun q => q = g + 1) w4 (w4.setRow (g + 1) #[.int .i64 op, .int .i64 sub, .int .i64 d, .int .i64 a, .int .i64 bb, .int .i64 n, .int .i64 wb, .bool ws, .slice va1 n1 ca1, .slice va2 n2 ca2, .slice va3 n3 ca3]) := (Keeps.refl (fun q => q = g + 1) w4).setRow (.inl rfl) _
  have ho1 : OSl (w4.setRow (g + 1) #[.int .i64 op, .int .i64 sub, .int .i64 d, .int .i64 a, .int .i64 bb, .int .i64 n, .int .i64 wb, .bool ws, .slice va1 n1 ca1, .slice va2 n2 ca2, .slice va3 n3 ca3]) g 3 ⟨va1, n1, ca1, l1⟩ := ⟨keeps_row HOW31.out hks (fun q hq e => by have := HN1.out q hq; omega), HA1.out.len⟩
  have ho2 : OSl (w4.setRow (g + 1) #[.int .i64 op, .int .i64 sub, .int .i64 d, .int .i64 a, .int .i64 bb, .int .i64 n, .int .i64 wb, .bool ws, .slice va1 n1 ca1, .slice va2 n2 ca2, .slice va3 n3 ca3]) g 3 ⟨va2, n2, ca2, l2⟩ := ⟨keeps_row HOW32.out hks (fun q hq e => by have := HN2.out q hq; omega), HA2.out.len⟩
  have ho3 : OSl (w4.setRow (g + 1) #[.int .i64 op, .int .i64 sub, .int .i64 d, .int .i64 a, .int .i64 bb, .int .i64 n, .int .i64 wb, .bool ws, .slice va1 n1 ca1, .slice va2 n2 ca2, .slice va3 n3 ca3]) g 2 ⟨va3, n3, ca3, l3⟩ := ⟨keeps_row HOW33.out hks (fun q hq e => by have := HN3.out q hq; omega), HA3.out.len⟩
  have hX := HX.out
  have hS := HS.out
  have hXX := HXX.out
  rw [← HXX.out] at hX hS
  refine bodyPost_ret (v := .agg #[.int .i64 op, .int .i64 sub, .int .i64 d, .int .i64 a, .int .i64 bb, .int .i64 n, .int .i64 wb, .bool ws, .slice va1 n1 ca1, .slice va2 n2 ca2, .slice va3 n3 ca3]) ?_ ?_ ?_
  · simp [results, Tryd.results86, go_sem, hrc]
  · rfl
  unfold CopyIx
  refine ⟨⟨op, sub, d, a, bb, n, wb, ws, ⟨va1, n1, ca1, l1⟩, ⟨va2, n2, ca2, l2⟩, ⟨va3, n3, ca3, l3⟩⟩, rfl, ?_, hS, ?_, ?_, hk5⟩
  · rw [← HXX.out]; exact decide_eq_true ⟨rfl, rfl, rfl, rfl, rfl, rfl, rfl, rfl, rfl, rfl, rfl⟩
  · exact ⟨hX.op, hX.sub, hX.d, hX.a, hX.b, hX.n, hX.wb, ho1.at_ hX.args.bd, ho2.at_ hX.to.bd, ho3.at_ hX.cases_.bd⟩
  · rw [HG.out]; exact ⟨ho1, ho2, ho3⟩
end Go.Proofs.YtbfjmhfhhlncjaaDoor
/- Copies of blocks. -/
namespace Go.Proofs.YtbfjmhfhhlncjaaDoor
open Go.RowKit
set_option linter.unusedVariables false
set_option linter.unusedSimpArgs false

/-- An instruction's numbers are such. -/
structure IxB (x : Ix) : Prop where
  op : I64 x.op
  sub : I64 x.sub
  d : I64 x.d
  a : I64 x.a
  b : I64 x.b
  n : I64 x.n
  wb : I64 x.wb
  l1 : ∀ z ∈ x.args.l, I64 z
  l2 : ∀ z ∈ x.to.l, I64 z
  l3 : ∀ z ∈ x.cases_.l, I64 z
theorem IxOk.ixb {w : World} {x : Ix} (h : IxOk w x) : IxB x := ⟨h.op, h.sub, h.d, h.a, h.b, h.n, h.wb, h.args.bd, h.to.bd, h.cases_.bd⟩
theorem OIx.ok {w : World} {B : Nat} {x : Ix} (h : OIx w B x) (hb : IxB x) : IxOk w x := ⟨hb.op, hb.sub, hb.d, hb.a, hb.b, hb.n, hb.wb, h.args.at_ hb.l1, h.tos.at_ hb.l2, h.cases_.at_ hb.l3⟩
theorem OIx.no {w w' : World} {B : Nat} {x : Ix} (h : OIx w B x) (hk : Keeps No w w') : OIx w' B x := ⟨h.args.no hk, h.tos.no hk, h.cases_.no hk⟩
theorem OIx.mono {w : World} {B B' : Nat} {x : Ix} (h : OIx w B x) (hb : B' ≤ B) : OIx w B' x := ⟨h.args.mono hb, h.tos.mono hb, h.cases_.mono hb⟩
/-- A row of another kind is written. -/
theorem OIx.keep {w w' : World} {B : Nat} {x : Ix} {S : Nat → Prop} (h : OIx w B x) (hk : Keeps S w w') (hS : ∀ q, S q → ∃ cs e, w.heap[q]? = some (.cells cs e (0, 0)) ∧ e ≠ 3 ∧ e ≠ 2) : OIx w' B x := by
  refine ⟨h.args.keep hk (fun q hq hs => ?_), h.tos.keep hk (fun q hq hs => ?_), h.cases_.keep hk (fun q hq hs => ?_)⟩ <;>
    (obtain ⟨cs, e, hc, h1, h2⟩ := hS q hs)
  · exact own_ne h.args.o hc h1 hq
  · exact own_ne h.tos.o hc h1 hq
  · exact own_ne h.cases_.o hc h2 hq
structure OBx (w : World) (B : Nat) (x : Bx) : Prop where
  o : w.ownsRow B 27 11 x.v x.n (x.l.flatMap Ix.cells)
  len : x.l.length = x.n
  ok : ∀ i ∈ x.l, OIx w B i
def SmallBx (x : Bx) : Prop := x.n ≤ 1000000 ∧ ∀ i ∈ x.l, SmallIx i
theorem ix_len (x : Ix) : x.cells.length = 11 := rfl
theorem OBx.no {w w' : World} {B : Nat} {x : Bx} (h : OBx w B x) (hk : Keeps No w w') : OBx w' B x := ⟨keeps_row h.o hk (fun _ _ e => e), h.len, fun i hi => (h.ok i hi).no hk⟩
theorem OBx.mono {w : World} {B B' : Nat} {x : Bx} (h : OBx w B x) (hb : B' ≤ B) : OBx w B' x := ⟨own_mono h.o hb, h.len, fun i hi => (h.ok i hi).mono hb⟩
theorem OBx.keep {w w' : World} {B : Nat} {x : Bx} {S : Nat → Prop} (h : OBx w B x) (hk : Keeps S w w') (hS : ∀ q, S q → ∃ cs e, w.heap[q]? = some (.cells cs e (0, 0)) ∧ e ≠ 3 ∧ e ≠ 2 ∧ e ≠ 27) : OBx w' B x :=
  ⟨keeps_row h.o hk (fun q hq hs => by obtain ⟨cs, e, hc, _, _, h3⟩ := hS q hs; exact own_ne h.o hc h3 hq), h.len, fun i hi => (h.ok i hi).keep hk (fun q hs => by obtain ⟨cs, e, hc, h1, h2, _⟩ := hS q hs; exact ⟨cs, e, hc, h1, h2⟩)⟩
theorem OBx.at_ {w : World} {B : Nat} {x : Bx} (h : OBx w B x) (hb : ∀ i ∈ x.l, IxB i) : BxAt w x := by
  refine ⟨h.len, ?_, fun i hi => (h.ok i hi).ok (hb i hi), fun hn => ?_⟩
  · rcases h.o.2 with ⟨e, h0⟩ | ⟨g, cap, cur, e, _, _, h1, h2, _⟩
    · injection e with _ _ e; rw [e, h0]; exact ⟨Nat.le_refl _, Nat.zero_le _⟩
    · injection e with _ _ e; rw [e]; exact ⟨h1, h2⟩
  · have ho := h.o
    obtain ⟨aa, ca, e, hg⟩ := own_form ho
    obtain ⟨g, rfl⟩ := hg hn
    injection e with e1 e2 e3
    refine ⟨g, 0, e1, fun k i hi j v hj => ?_⟩
    have hk : k < x.n := by rw [← h.len]; exact (List.getElem?_eq_some_iff.1 hi).1
    have hj' : j < 11 := (List.getElem?_eq_some_iff.1 hj).1
    rw [Nat.zero_add]
    unfold Bx.v at ho
    rw [e1] at ho
    exact (ho.cellAt _ (by omega)).trans (flat_get Ix.cells 11 ix_len x.l k i hi j v hj)
def CopyBx (b : Bx) (w : World) (e : Ending) (w' : World) : Prop := ∃ y : Bx, e = .returned (.agg #[y.v]) ∧ sameRow Ix.same b.l y.l = true ∧ SmallBx y ∧ (∀ i ∈ y.l, IxB i) ∧ OBx w' w.heap.size y ∧ Keeps No w w'
theorem info_any {t : TypeId} {s b : Nat} (h : (Tryd.prog.info? t).map (fun i => (i.zero.isSome, i.size, i.bytes)) = some (true, s, b)) : ∃ i z, Tryd.prog.info? t = some i ∧ i.zero = some z ∧ i.size = s ∧ i.bytes = b := by
  cases hq : Tryd.prog.info? t with
  | none => rw [hq] at h; cases h
  | some i =>
    rw [hq] at h
    simp only [Option.map_some, Option.some.injEq, Prod.mk.injEq] at h
    obtain ⟨z, hz⟩ := Option.isSome_iff_exists.1 h.1
    exact ⟨i, z, rfl, hz, h.2.1, h.2.2⟩
theorem infoInsZ : (Tryd.prog.info? 27).map (fun i => (i.zero.isSome, i.size, i.bytes)) = some (true, 11, 136) := by kernel_rfl
theorem infoBlkZ : (Tryd.prog.info? 45).map (fun i => (i.zero.isSome, i.size, i.bytes)) = some (true, 1, 24) := by kernel_rfl
theorem infoFnZ : (Tryd.prog.info? 42).map (fun i => (i.zero.isSome, i.size, i.bytes)) = some (true, 6, 88) := by kernel_rfl
theorem ix_one (x : Ix) : ∀ u ∈ x.cells, u.oneCell' = true := by
  intro u hu; unfold Ix.cells at hu; simp at hu
  rcases hu with rfl | rfl | rfl | rfl | rfl | rfl | rfl | rfl | rfl | rfl | rfl <;> rfl
theorem row_snoc {α : Type} (f : α → α → Bool) {l ys : List α} {i : Nat} {x y : α} (hx : l[i]? = some x) (hy : ys.length = i) (h : sameRow f (l.take i) ys = true) (hxy : f x y = true) : sameRow f (l.take (i + 1)) (ys ++ [y]) = true := by
  obtain ⟨h1, h2⟩ := List.getElem?_eq_some_iff.1 hx
  unfold sameRow at h ⊢
  rw [Bool.and_eq_true] at h ⊢
  obtain ⟨ha, hb⟩ := h
  have ha := of_decide_eq_true ha
  rw [List.take_succ_eq_append_getElem h1, h2]
  refine ⟨decide_eq_true (by simp [ha]), ?_⟩
  rw [List.zip_append ha, List.all_append, hb]
  simp [hxy]
/-- The cells of one value, in a block of its own. -/
theorem news_one (w : World) (cs : List Value) (t : TypeId) : ∀ (j : Nat) u, cs[j]? = some u → (w.alloc (.cells cs.toArray t)).cell? ((⟨w.heap.size, 0, none⟩ : Addr).add j) = some u := fun j u hu => by
  have e : (⟨w.heap.size, 0, none⟩ : Addr).add j = ⟨w.heap.size, j, none⟩ := by unfold Addr.add; split <;> simp_all
  rw [e, World.cell?_alloc_at _ _ _ _ rfl, List.getElem?_toArray]; exact hu
set_option maxRecDepth 100000 in
set_option maxHeartbeats 12800000 in
theorem copyBlock_any (b : Bx) (w : World) (hb : BxAt w b) (hs : SmallBx b) : Calls Tryd.prog 72 #[.agg #[b.v]] w (CopyBx b w) := by
  have HB := Lib.hid hb
  have HS := Lib.hid hs
  have hn := hs.1
  have hcap := hb.cap
  unfold maxLen at hcap
  obtain ⟨bn, hbn⟩ : ∃ q, b.n = q := ⟨_, rfl⟩
  obtain ⟨ba, hba⟩ : ∃ q, b.a = q := ⟨_, rfl⟩
  obtain ⟨bc, hbc⟩ : ∃ q, b.cap = q := ⟨_, rfl⟩
  unfold Bx.v
  rw [hbn, hba, hbc]
  rw [hbn] at hn hcap
  rw [hbc] at hcap
  have HBN := Lib.hid (And.intro hbn hba)
  obtain ⟨i0, z0, hi, hz0, hz1, hz2⟩ := info_any infoInsZ
  have HI := Lib.hid (And.intro hi (And.intro hz0 (And.intro hz1 hz2)))
  obtain ⟨B0, hB0⟩ : ∃ q, w.heap.size = q := ⟨_, rfl⟩
  have HB0 := Lib.hid hB0
  have hby : i0.bytes * bn ≤ 281474976710656 := by rw [hz2]; omega
  have hmx : bn ≤ maxLen := by unfold maxLen; omega
  have HMX := Lib.hid (And.intro hby hmx)
  clear hb hs hbn hba hbc hi hz0 hz1 hz2 hB0 hby hmx
  go_enter Tryd.func72, Tryd.ntmps72
  go_wp2_with (at_make; refine wpList_make_own _ rfl _ _ 43 rfl w.heap.size 27 i0 z0 11 Tryd.underlying43 HI.out.1 HI.out.2.1 HI.out.2.2.1 _ _ _ bn rfl rfl rfl HMX.out.1 HMX.out.2 (by simp; omega) ?_)
  intro w1 ho1 hg1
  obtain ⟨g, hg⟩ : ∃ q, w.heap.size + 1 + 1 = q := ⟨_, rfl⟩
  have hk1 : Keeps No w w1 := (((Keeps.refl No w).alloc _).alloc _).grown hg1 (fun q e => by cases e)
  have hr0 : w1.heap[B0]? = some (.cells #[.slice ba bn bc] 45 (0, 0)) := by
    rw [← HB0.out, hg1.block _ (by simp; omega) (fun e => by cases e), Below.heap_alloc _ _ _ (by simp)]; exact heap_alloc_new _ _
  have hq0 : w1.heap[B0 + 1]? = some (.cells #[.slice none 0 0] 45 (0, 0)) := by
    rw [← HB0.out, hg1.block _ (by simp) (fun e => by cases e)]
    exact (by simpa using heap_alloc_new (w.alloc (.cells #[.slice ba bn bc] 45)) (.cells #[.slice none 0 0] 45))
  rw [hg] at ho1
  simp only [hg]
  simp only [HB0.out]
  have HGB : Hid (g = B0 + 2) := Lib.hid (by rw [← hg, HB0.out])
  rw [HB0.out] at ho1
  have HO1 := Lib.hid ho1
  have HK1 := Lib.hid hk1
  have HR0 := Lib.hid hr0
  have HQ0 := Lib.hid hq0
  have c0 : w1.cell? ⟨B0, 0, none⟩ = some (.slice ba bn bc) := by rw [cell_of_row w1 B0 0 _ _ _ hr0]; rfl
  clear ho1 hg1 hk1 hr0 hq0 hg
  go_wp2_with fail
  clear c0
  go_loopg [3, 13] bn (fun gg u v wr => ∃ (i : Nat) (ys : List Ix), u = .slice (some ⟨g, 0, none⟩) i bn ∧ v = .int .i64 (i : Int) ∧ i ≤ bn ∧ gg = bn - i ∧ Hid (ys.length = i ∧ sameRow Ix.same (b.l.take i) ys = true ∧ (∀ y ∈ ys, SmallIx y ∧ IxB y ∧ OIx wr B0 y)) ∧ Hid (wr.ownsRow B0 27 11 (.slice (some ⟨g, 0, none⟩) i bn) i (ys.flatMap Ix.cells)) ∧ Hid (Keeps No w wr) ∧ Hid (wr.heap[B0 + 1]? = some (.cells #[.slice none 0 0] 45 (0, 0))))
  case atStart => exact ⟨0, [], rfl, rfl, Nat.zero_le _, rfl, Lib.hid ⟨rfl, rfl, fun y hy => by cases hy⟩, HO1, HK1, HQ0⟩
  case round =>
    obtain ⟨i, ys, rfl, rfl, hi, hg, HYS, HOW, HK, HQ⟩ := hrel
    by_cases hlt : i < bn
    · have hlt' : (i : Int) < (bn : Int) := by omega
      have ip0 : (0 : Int) ≤ (i : Int) := by omega
      obtain ⟨xb, xo, x, hx, hxa, hxt, hxo⟩ := Bx.get HB.out (i := i) (by rw [HBN.out.1]; exact hlt)
      obtain rfl := HBN.out.2.symm.trans hxa
      have x0 := HK.out.cell0 (hxt 0 _ rfl)
      have x1 := HK.out.cell0 (hxt 1 _ rfl)
      have x2 := HK.out.cell0 (hxt 2 _ rfl)
      have x3 := HK.out.cell0 (hxt 3 _ rfl)
      have x4 := HK.out.cell0 (hxt 4 _ rfl)
      have x5 := HK.out.cell0 (hxt 5 _ rfl)
      have x6 := HK.out.cell0 (hxt 6 _ rfl)
      have x7 := HK.out.cell0 (hxt 7 _ rfl)
      have x8 := HK.out.cell0 (hxt 8 _ rfl)
      have x9 := HK.out.cell0 (hxt 9 _ rfl)
      have x10 := HK.out.cell0 (hxt 10 _ rfl)
      rw [Nat.add_zero] at x0
      have HC := Lib.hid (fun (W : World) (hk : Keeps No w W) => copyIns_any x W (hxo.no hk) (HS.out.2 x (List.mem_of_getElem? hx)))
      have HX := Lib.hid hx
      clear hx hxa hxt hxo
      go_wp2_with fail
      refine (HC.out _ (HK.out.alloc _)).mono ?_
      rintro e w2 ⟨y, rfl, hxy, hsy, hyo, hyO, hk2⟩
      have hks : B0 ≤ wr.heap.size := by rw [← HB0.out]; exact HK.out.size
      have hk3 : Keeps No wr w2 := ((Keeps.refl No wr).alloc _).trans hk2 (fun _ _ e => e)
      have HK2 := Lib.hid (HK.out.trans hk3 (fun _ _ e => e))
      have HO2 := Lib.hid (keeps_row HOW.out hk3 (fun _ _ e => e))
      have HQ2 := Lib.hid ((hk3.block (B0 + 1) (Array.getElem?_eq_some_iff.1 HQ.out).1 (fun e => e)).trans HQ.out)
      have HY2 : Hid (ys.length = i ∧ sameRow Ix.same (b.l.take i) ys = true ∧ (∀ y ∈ ys, SmallIx y ∧ IxB y ∧ OIx w2 B0 y)) := Lib.hid ⟨HYS.out.1, HYS.out.2.1, fun z hz => ⟨(HYS.out.2.2 z hz).1, (HYS.out.2.2 z hz).2.1, (HYS.out.2.2 z hz).2.2.no hk3⟩⟩
      have HYY : Hid (x.same y = true ∧ SmallIx y ∧ IxB y ∧ OIx w2 B0 y) := Lib.hid ⟨hxy, hsy, hyo.ixb, hyO.mono (by simp; omega)⟩
      have HOA := Lib.hid (fun o : Obj => HO2.out.alloc o)
      have HNW := Lib.hid (news_one w2 y.cells 27)
      have HON := Lib.hid (ix_one y)
      have hgl : g < w2.heap.size := (HO2.out.lt g rfl).2
      clear hxy hsy hyo hyO hk2 hk3 x0 x1 x2 x3 x4 x5 x6 x7 x8 x9 x10 HC
      go_wp2_with (at_builtin; refine wpList_append_fits _ rfl (.tmp 17) (.tmp 20) 43 rfl B0 27 i0 11 Tryd.underlying43 HI.out.1 HI.out.2.2.1 g i bn (ys.flatMap Ix.cells) rfl (HOA.out _) ⟨w2.heap.size, 0, none⟩ 1 1 y.cells rfl rfl HNW.out HON.out (by omega) ?_)
      intro w3 ho3 hg3
      have hka : Keeps No w2 (w2.alloc (.cells #[.int .i64 y.op, .int .i64 y.sub, .int .i64 y.d, .int .i64 y.a, .int .i64 y.b, .int .i64 y.n, .int .i64 y.wb, .bool y.ws, y.args.v, y.to.v, y.cases_.v] 27)) := (Keeps.refl _ _).alloc _
      have hk4 : Keeps (fun q => q = g) (w2.alloc (.cells #[.int .i64 y.op, .int .i64 y.sub, .int .i64 y.d, .int .i64 y.a, .int .i64 y.b, .int .i64 y.n, .int .i64 y.wb, .bool y.ws, y.args.v, y.to.v, y.cases_.v] 27)) w3 := (Keeps.refl _ _).grown hg3 (fun q e => .inl (by simpa [Value.ownBlock] using e.symm))
      have hcell : ∀ q, q = g → ∃ cs e, (w2.alloc (.cells #[.int .i64 y.op, .int .i64 y.sub, .int .i64 y.d, .int .i64 y.a, .int .i64 y.b, .int .i64 y.n, .int .i64 y.wb, .bool y.ws, y.args.v, y.to.v, y.cases_.v] 27)).heap[q]? = some (.cells cs e (0, 0)) ∧ e ≠ 3 ∧ e ≠ 2 := fun q e => by
        subst e
        rcases (HOA.out (.cells #[.int .i64 y.op, .int .i64 y.sub, .int .i64 y.d, .int .i64 y.a, .int .i64 y.b, .int .i64 y.n, .int .i64 y.wb, .bool y.ws, y.args.v, y.to.v, y.cases_.v] 27)).2 with ⟨e, _⟩ | ⟨g', cap, cur, e, _, hh, _⟩
        · cases e
        · injection e with e _ _; injection e with e; injection e with e _ _; subst e; exact ⟨cur, _, hh, by decide, by decide⟩
      have HO3 : Hid (w3.ownsRow B0 27 11 (.slice (some ⟨g, 0, none⟩) (i + 1) bn) (i + 1) ((ys ++ [y]).flatMap Ix.cells)) := Lib.hid (by rw [List.flatMap_append]; simpa using ho3)
      have HK3 : Hid (Keeps No w w3) := Lib.hid ((HK2.out.trans hka (fun _ _ e => e)).trans hk4 (fun q hq e => by rw [HB0.out] at hq; have := HGB.out; omega))
      have HQ3 : Hid (w3.heap[B0 + 1]? = some (.cells #[.slice none 0 0] 45 (0, 0))) := Lib.hid (by
        rw [hk4.block (B0 + 1) (by have := (Array.getElem?_eq_some_iff.1 HQ2.out).1; simp; omega) (by have := HGB.out; omega), Below.heap_alloc _ _ _ (Array.getElem?_eq_some_iff.1 HQ2.out).1]; exact HQ2.out)
      have HY3 : Hid ((ys ++ [y]).length = i + 1 ∧ sameRow Ix.same (b.l.take (i + 1)) (ys ++ [y]) = true ∧ (∀ z ∈ ys ++ [y], SmallIx z ∧ IxB z ∧ OIx w3 B0 z)) := Lib.hid ⟨by simp [HY2.out.1], row_snoc _ HX.out HY2.out.1 HY2.out.2.1 HYY.out.1, fun z hz => by
        rcases List.mem_append.1 hz with h | h
        · have := HY2.out.2.2 z h; exact ⟨this.1, this.2.1, (this.2.2.no hka).keep hk4 hcell⟩
        · obtain rfl : z = y := by simpa using h
          exact ⟨HYY.out.2.1, HYY.out.2.2.1, (HYY.out.2.2.2.no hka).keep hk4 hcell⟩⟩
      clear ho3 hg3 hka hk4 hcell hgl hks
      go_wp2_with fail
      go_roundg (bn - (i + 1))
      case rel => exact ⟨i + 1, ys ++ [y], rfl, by go_num, by omega, rfl, HY3, HO3, HK3, HQ3⟩
      case measure => omega
    · obtain rfl : i = bn := by omega
      have hlt' : ¬ (i : Int) < (i : Int) := by omega
      have q0 : wr.cell? ⟨B0 + 1, 0, none⟩ = some (.slice none 0 0) := by rw [cell_of_row wr _ 0 _ _ _ HQ.out]; rfl
      have f0 : wr.frozen? ⟨B0 + 1, 0, none⟩ = false := frozen_of_row wr _ 0 _ _ HQ.out
      go_wp2_with fail
      have hr9 := heap_setCell_same wr (B0 + 1) 0 _ _ (.slice (some ⟨g, 0, none⟩) i i) HQ.out
      have hrc : (wr.setCell ⟨B0 + 1, 0, none⟩ (.slice (some ⟨g, 0, none⟩) i i)).cell? ⟨B0 + 1, 0, none⟩ = some (.slice (some ⟨g, 0, none⟩) i i) := by rw [cell_of_row _ (B0 + 1) 0 _ _ _ hr9]; rfl
      have hk9 : Keeps (fun q => q = B0 + 1) wr (wr.setCell ⟨B0 + 1, 0, none⟩ (.slice (some ⟨g, 0, none⟩) i i)) := (Keeps.refl (fun q => q = B0 + 1) wr).setCell (.inl rfl) _
      have hcell : ∀ q, q = B0 + 1 → ∃ cs e, wr.heap[q]? = some (.cells cs e (0, 0)) ∧ e ≠ 3 ∧ e ≠ 2 := fun q e => by subst e; exact ⟨_, _, HQ.out, by decide, by decide⟩
      refine bodyPost_ret (v := .agg #[.slice (some ⟨g, 0, none⟩) i i]) ?_ ?_ ?_
      · simp [results, Tryd.results72, go_sem, hrc]
      · rfl
      · unfold CopyBx
        refine ⟨⟨some ⟨g, 0, none⟩, i, i, ys⟩, rfl, ?_, ⟨by have := HMX.out; have := HS.out.1; have := HBN.out.1; simp only; omega, fun z hz => (HYS.out.2.2 z hz).1⟩, fun z hz => (HYS.out.2.2 z hz).2.1, ?_, ?_⟩
        · have h := HYS.out.2.1
          rw [List.take_of_length_le (by have := HB.out.len; have := HBN.out.1; omega)] at h
          exact h
        · rw [HB0.out]
          exact ⟨keeps_row HOW.out hk9 (fun q hq e => by have : g = q := by simpa [Value.ownBlock, Bx.v] using hq
                                                         have := HGB.out; omega), HYS.out.1, fun z hz => (HYS.out.2.2 z hz).2.2.keep hk9 hcell⟩
        · exact HK.out.trans hk9 (fun q hq e => by rw [HB0.out] at hq; omega)
end Go.Proofs.YtbfjmhfhhlncjaaDoor
/- Copies of functions. -/
namespace Go.Proofs.YtbfjmhfhhlncjaaDoor
open Go.RowKit
set_option linter.unusedVariables false
set_option linter.unusedSimpArgs false

def Bx.same (x y : Bx) : Bool := sameRow Ix.same x.l y.l
def Fx.same (x y : Fx) : Bool := decide (x.name.toList = y.name.toList ∧ x.params = y.params ∧ x.regs = y.regs ∧ x.value = y.value ∧ x.slots.l = y.slots.l ∧ sameRow Bx.same x.bl y.bl = true)
abbrev fv (f : Fx) : Value := .agg #[.string f.name, .int .i64 f.params, .int .i64 f.regs, f.slots.v, .slice f.ba f.bn f.bc, .bool f.value]
structure FxB (f : Fx) : Prop where
  name : f.name.size ≤ maxLen
  params : I64 f.params
  regs : I64 f.regs
  slots : ∀ z ∈ f.slots.l, I64 z
  ok : ∀ b ∈ f.bl, ∀ i ∈ b.l, IxB i
structure OFx (w : World) (B : Nat) (x : Fx) : Prop where
  slots : OSl w B 3 x.slots
  o : w.ownsRow B 45 1 (.slice x.ba x.bn x.bc) x.bn (x.bl.map Bx.v)
  len : x.bl.length = x.bn
  ok : ∀ b ∈ x.bl, OBx w B b
def SmallFx (x : Fx) : Prop := x.slots.n ≤ 1000000 ∧ x.bn ≤ 1000000 ∧ ∀ b ∈ x.bl, SmallBx b
theorem OFx.no {w w' : World} {B : Nat} {x : Fx} (h : OFx w B x) (hk : Keeps No w w') : OFx w' B x := ⟨h.slots.no hk, keeps_row h.o hk (fun _ _ e => e), h.len, fun i hi => (h.ok i hi).no hk⟩
theorem OFx.mono {w : World} {B B' : Nat} {x : Fx} (h : OFx w B x) (hb : B' ≤ B) : OFx w B' x := ⟨h.slots.mono hb, own_mono h.o hb, h.len, fun i hi => (h.ok i hi).mono hb⟩
theorem OFx.keep {w w' : World} {B : Nat} {x : Fx} {S : Nat → Prop} (h : OFx w B x) (hk : Keeps S w w') (hS : ∀ q, S q → ∃ cs e, w.heap[q]? = some (.cells cs e (0, 0)) ∧ e ≠ 3 ∧ e ≠ 2 ∧ e ≠ 27 ∧ e ≠ 45) : OFx w' B x :=
  ⟨h.slots.keep hk (fun q hq hs => by obtain ⟨cs, e, hc, h1, _⟩ := hS q hs; exact own_ne h.slots.o hc h1 hq),
   keeps_row h.o hk (fun q hq hs => by obtain ⟨cs, e, hc, _, _, _, h4⟩ := hS q hs; exact own_ne h.o hc h4 hq), h.len,
   fun i hi => (h.ok i hi).keep hk (fun q hs => by obtain ⟨cs, e, hc, h1, h2, h3, _⟩ := hS q hs; exact ⟨cs, e, hc, h1, h2, h3⟩)⟩
theorem OFx.at_ {w : World} {B : Nat} {x : Fx} (h : OFx w B x) (hb : FxB x) : FxOk w x := by
  refine ⟨hb.name, hb.params, hb.regs, h.slots.at_ hb.slots, h.len, ?_, fun b hbb => (h.ok b hbb).at_ (hb.ok b hbb), fun hn => ?_⟩
  · rcases h.o.2 with ⟨e, h0⟩ | ⟨g, cap, cur, e, _, _, h1, h2, _⟩
    · injection e with _ _ e; rw [e, h0]; exact ⟨Nat.le_refl _, Nat.zero_le _⟩
    · injection e with _ _ e; rw [e]; exact ⟨h1, h2⟩
  · have ho := h.o
    obtain ⟨aa, ca, e, hg⟩ := own_form ho
    obtain ⟨g, rfl⟩ := hg hn
    injection e with e1 e2 e3
    refine ⟨g, 0, e1, fun k b hbk => ?_⟩
    have hk : k < x.bn := by rw [← h.len]; exact (List.getElem?_eq_some_iff.1 hbk).1
    rw [Nat.zero_add]
    rw [e1] at ho
    rw [ho.cellAt k (by omega), List.getElem?_map, hbk]; rfl
theorem FxOk.fxb {w : World} {f : Fx} (h : FxOk w f) : FxB f := ⟨h.name, h.params, h.regs, h.slots.bd, fun b hb i hi => ((h.ok b hb).ok i hi).ixb⟩
def CopyFx (f : Fx) (w : World) (e : Ending) (w' : World) : Prop := ∃ y : Fx, e = .returned (fv y) ∧ f.same y = true ∧ SmallFx y ∧ FxB y ∧ OFx w' w.heap.size y ∧ Keeps No w w'
theorem infoFnS : (Tryd.prog.info? 42).map (·.size) = some 6 := by kernel_rfl
set_option maxRecDepth 100000 in
set_option maxHeartbeats 12800000 in
theorem copyFn_any (f : Fx) (w : World) (hf : FxOk w f) (hs : SmallFx f) : Calls Tryd.prog 50 #[fv f] w (CopyFx f w) := by
  have HF := Lib.hid hf
  have HS := Lib.hid hs
  have hn := hs.2.1
  have hsn := hs.1
  have hcap := hf.cap
  unfold maxLen at hcap
  have HSL := Lib.hid hf.slots.len
  have HAT : Hid (∀ (W : World), Keeps No w W → 0 < f.slots.n → ∃ b off, f.slots.a = some ⟨b, off, none⟩ ∧ ∀ (j : Nat) z, f.slots.l[j]? = some z → W.cell? ⟨b, off + j, none⟩ = some (.int .i64 z)) := Lib.hid (fun W hk hn => by
    obtain ⟨b, off, e, hc⟩ := hf.slots.at_ hn
    exact ⟨b, off, e, fun j z hz => hk.cell0 (hc j z hz)⟩)
  obtain ⟨bn, hbn⟩ : ∃ q, f.bn = q := ⟨_, rfl⟩
  obtain ⟨ba, hba⟩ : ∃ q, f.ba = q := ⟨_, rfl⟩
  obtain ⟨bc, hbc⟩ : ∃ q, f.bc = q := ⟨_, rfl⟩
  obtain ⟨sn, hsn'⟩ : ∃ q, f.slots.n = q := ⟨_, rfl⟩
  obtain ⟨sa, hsa⟩ : ∃ q, f.slots.a = q := ⟨_, rfl⟩
  obtain ⟨sc, hsc⟩ : ∃ q, f.slots.cap = q := ⟨_, rfl⟩
  obtain ⟨sl, hsl⟩ : ∃ q, f.slots.l = q := ⟨_, rfl⟩
  obtain ⟨fn, hfn⟩ : ∃ q, f.name = q := ⟨_, rfl⟩
  obtain ⟨fp, hfp⟩ : ∃ q, f.params = q := ⟨_, rfl⟩
  obtain ⟨fr, hfr⟩ : ∃ q, f.regs = q := ⟨_, rfl⟩
  obtain ⟨fl, hfl⟩ : ∃ q, f.value = q := ⟨_, rfl⟩
  unfold fv Sl.v
  rw [hbn, hba, hbc, hsn', hsa, hsc, hfn, hfp, hfr, hfl]
  rw [hsn', hsa, hsl] at HAT
  rw [hsn', hsl] at HSL
  rw [hbn] at hn hcap
  rw [hbc] at hcap
  rw [hsn'] at hsn
  have HBN := Lib.hid (And.intro hbn (And.intro hba (And.intro hbc (And.intro hsn' (And.intro hsa (And.intro hsc (And.intro hsl (And.intro hfn (And.intro hfp (And.intro hfr hfl))))))))))
  obtain ⟨ti, z0, hi, hz0, hz1, hz2⟩ := info_any infoBlkZ
  have HI := Lib.hid (And.intro hi (And.intro hz0 (And.intro hz1 hz2)))
  obtain ⟨B0, hB0⟩ : ∃ q, w.heap.size = q := ⟨_, rfl⟩
  have HB0 := Lib.hid hB0
  have hby : ti.bytes * bn ≤ 281474976710656 := by rw [hz2]; omega
  have hmx : bn ≤ maxLen := by unfold maxLen; omega
  have HMX := Lib.hid (And.intro hby hmx)
  clear hf hs hbn hba hbc hi hz0 hz1 hz2 hB0 hby hmx hsn' hsa hsc hsl hfn hfp hfr hfl
  go_enter Tryd.func50, Tryd.ntmps50
  go_wp2_with (at_builtin; refine wpList_appNil _ rfl _ (.tmp 7) 24 3 rfl Tryd.underlying24 infoI sn sc sl sa rfl rfl HSL.out hsn (HAT.out _ (((Keeps.refl No w).alloc _).alloc _)) ?_)
  intro va ca w1 ho1 hk1
  have hr0 : w1.heap[B0]? = some (.cells #[.string fn, .int .i64 fp, .int .i64 fr, .slice sa sn sc, .slice ba bn bc, .bool fl] 42 (0, 0)) := by
    rw [← HB0.out, hk1.block _ (by simp; omega) (fun e => e), Below.heap_alloc _ _ _ (by simp)]; exact heap_alloc_new _ _
  have hq0 : w1.heap[B0 + 1]? = some (.cells #[.string ⟨#[]⟩, .int .i64 0, .int .i64 0, .slice none 0 0, .slice none 0 0, .bool false] 42 (0, 0)) := by
    rw [← HB0.out, hk1.block _ (by simp) (fun e => e)]
    exact (by simpa using heap_alloc_new (w.alloc (.cells #[.string fn, .int .i64 fp, .int .i64 fr, .slice sa sn sc, .slice ba bn bc, .bool fl] 42)) (.cells #[.string ⟨#[]⟩, .int .i64 0, .int .i64 0, .slice none 0 0, .slice none 0 0, .bool false] 42))
  have HO1 := Lib.hid (own_mono ho1 (show B0 ≤ _ by have := HB0.out; omega))
  have HN1 : Hid (∀ q, (Value.slice va sn ca).ownBlock = some q → B0 + 2 ≤ q) := Lib.hid (fun q hq => by have := (ho1.lt q hq).1; have := HB0.out; simp at *; omega)
  have HK1 : Hid (Keeps No w w1) := Lib.hid ((((Keeps.refl No w).alloc _).alloc _).trans hk1 (fun _ _ e => e))
  have HZ1 : Hid (B0 + 2 ≤ w1.heap.size) := Lib.hid (by have := hk1.size; have := HB0.out; simp at *; omega)
  simp only [HB0.out]
  have HR0 := Lib.hid hr0
  have HQ0 := Lib.hid hq0
  have c3 : w1.cell? ⟨B0, 3, none⟩ = some (.slice sa sn sc) := by rw [cell_of_row w1 B0 3 _ _ _ hr0]; rfl
  have f3 : w1.frozen? ⟨B0, 3, none⟩ = false := frozen_of_row w1 B0 3 _ _ hr0
  have c4 : w1.cell? ⟨B0, 4, none⟩ = some (.slice ba bn bc) := by rw [cell_of_row w1 B0 4 _ _ _ hr0]; rfl
  clear ho1 hk1 hr0 hq0
  go_upto_region 2 with fail
  obtain ⟨w2, hw2⟩ : ∃ W, w1.setCell ⟨B0, 3, none⟩ (.slice va sn ca) = W := ⟨_, rfl⟩
  have hr2 : w2.heap[B0]? = some (.cells #[.string fn, .int .i64 fp, .int .i64 fr, .slice va sn ca, .slice ba bn bc, .bool fl] 42 (0, 0)) := by rw [← hw2, heap_setCell_same w1 B0 3 _ _ _ HR0.out]; rfl
  have hq2 : w2.heap[B0 + 1]? = some (.cells #[.string ⟨#[]⟩, .int .i64 0, .int .i64 0, .slice none 0 0, .slice none 0 0, .bool false] 42 (0, 0)) := by rw [← hw2, Below.heap_setCell _ _ _ _ (by simp)]; exact HQ0.out
  have HK2 : Hid (Keeps No w w2) := Lib.hid (by rw [← hw2]; exact HK1.out.setCell (.inr (by rw [HB0.out]; exact Nat.le_refl _)) _)
  have HO2 : Hid (w2.ownsRow B0 3 1 (.slice va sn ca) sn (irow sl)) := Lib.hid (by rw [← hw2]; exact own_far HO1.out (fun e => by have := HN1.out B0 e; omega) _)
  have HZ2 : Hid (B0 + 2 ≤ w2.heap.size) := Lib.hid (by rw [← hw2]; have := HZ1.out; simpa [World.setCell] using this)
  have HR2 := Lib.hid hr2
  have HQ2 := Lib.hid hq2
  rw [hw2]
  have c4 : w2.cell? ⟨B0, 4, none⟩ = some (.slice ba bn bc) := by rw [cell_of_row w2 B0 4 _ _ _ hr2]; rfl
  clear hr2 hq2 hw2 c3 f3
  go_wp2_with (at_make; refine wpList_make_own _ rfl _ _ 40 rfl B0 45 ti z0 1 Tryd.underlying40 HI.out.1 HI.out.2.1 HI.out.2.2.1 _ _ _ bn rfl rfl rfl HMX.out.1 HMX.out.2 (by have := HZ2.out; omega) ?_)
  intro w3 ho3 hg3
  obtain ⟨g, hg⟩ : ∃ q, w2.heap.size = q := ⟨_, rfl⟩
  have hk3 : Keeps No w2 w3 := (Keeps.refl No w2).grown hg3 (fun q e => by cases e)
  have hr3 := (hk3.block B0 (by have := HZ2.out; omega) (fun e => e)).trans HR2.out
  have hq3 := (hk3.block (B0 + 1) (by have := HZ2.out; omega) (fun e => e)).trans HQ2.out
  have HK3 := Lib.hid (HK2.out.trans hk3 (fun _ _ e => e))
  have HS3 := Lib.hid (keeps_row HO2.out hk3 (fun _ _ e => e))
  have HGB : Hid (B0 + 2 ≤ g) := Lib.hid (by rw [← hg]; exact HZ2.out)
  rw [hg] at ho3
  simp only [hg]
  have HO3 := Lib.hid ho3
  have HR3 := Lib.hid hr3
  have HQ3 := Lib.hid hq3
  have c4 : w3.cell? ⟨B0, 4, none⟩ = some (.slice ba bn bc) := by rw [cell_of_row w3 B0 4 _ _ _ hr3]; rfl
  clear ho3 hg3 hk3 hr3 hq3 hg
  go_wp2_with fail
  clear c4
  go_loopg [3, 17] bn (fun gg u v wr => ∃ (i : Nat) (ys : List Bx), u = .slice (some ⟨g, 0, none⟩) i bn ∧ v = .int .i64 (i : Int) ∧ i ≤ bn ∧ gg = bn - i ∧ Hid (ys.length = i ∧ sameRow Bx.same (f.bl.take i) ys = true ∧ (∀ y ∈ ys, SmallBx y ∧ (∀ i ∈ y.l, IxB i) ∧ OBx wr B0 y)) ∧ Hid (wr.ownsRow B0 45 1 (.slice (some ⟨g, 0, none⟩) i bn) i (ys.map Bx.v)) ∧ Hid (Keeps No w wr) ∧ Hid (wr.heap[B0]? = some (.cells #[.string fn, .int .i64 fp, .int .i64 fr, .slice va sn ca, .slice ba bn bc, .bool fl] 42 (0, 0)) ∧ wr.heap[B0 + 1]? = some (.cells #[.string ⟨#[]⟩, .int .i64 0, .int .i64 0, .slice none 0 0, .slice none 0 0, .bool false] 42 (0, 0)) ∧ wr.ownsRow B0 3 1 (.slice va sn ca) sn (irow sl)))
  case atStart => exact ⟨0, [], rfl, rfl, Nat.zero_le _, rfl, Lib.hid ⟨rfl, rfl, fun y hy => by cases hy⟩, HO3, HK3, Lib.hid ⟨HR3.out, HQ3.out, HS3.out⟩⟩
  case round =>
    obtain ⟨i, ys, rfl, rfl, hi, hgk, HYS, HOW, HK, HQ⟩ := hrel
    by_cases hlt : i < bn
    · have hlt' : (i : Int) < (bn : Int) := by omega
      have ip0 : (0 : Int) ≤ (i : Int) := by omega
      obtain ⟨xb, xo, x, hx, hxa, hxt, hxo⟩ := Fx.get HF.out (i := i) (by rw [HBN.out.1]; exact hlt)
      obtain rfl := HBN.out.2.1.symm.trans hxa
      have x0 := HK.out.cell0 hxt
      have HC := Lib.hid (fun (W : World) (hk : Keeps No w W) => copyBlock_any x W (hxo.no hk) (HS.out.2.2 x (List.mem_of_getElem? hx)))
      have HX := Lib.hid hx
      have HXO := Lib.hid hxo
      unfold Bx.v at x0 HC
      clear hx hxa hxt hxo
      go_wp2_with fail
      refine (HC.out _ (HK.out.alloc _)).mono ?_
      rintro e w4 ⟨y, rfl, hxy, hsy, hyo, hyO, hk4⟩
      have hks : B0 ≤ wr.heap.size := by rw [← HB0.out]; exact HK.out.size
      have hk5 : Keeps No wr w4 := ((Keeps.refl No wr).alloc _).trans hk4 (fun _ _ e => e)
      have HK4 := Lib.hid (HK.out.trans hk5 (fun _ _ e => e))
      have HO4 := Lib.hid (keeps_row HOW.out hk5 (fun _ _ e => e))
      have HQ4 : Hid (w4.heap[B0]? = some (.cells #[.string fn, .int .i64 fp, .int .i64 fr, .slice va sn ca, .slice (some ⟨xb, xo, none⟩) bn bc, .bool fl] 42 (0, 0)) ∧ w4.heap[B0 + 1]? = some (.cells #[.string ⟨#[]⟩, .int .i64 0, .int .i64 0, .slice none 0 0, .slice none 0 0, .bool false] 42 (0, 0)) ∧ w4.ownsRow B0 3 1 (.slice va sn ca) sn (irow sl)) := Lib.hid ⟨(hk5.block B0 (Array.getElem?_eq_some_iff.1 HQ.out.1).1 (fun e => e)).trans HQ.out.1, (hk5.block (B0 + 1) (Array.getElem?_eq_some_iff.1 HQ.out.2.1).1 (fun e => e)).trans HQ.out.2.1, keeps_row HQ.out.2.2 hk5 (fun _ _ e => e)⟩
      have HY4 : Hid (ys.length = i ∧ sameRow Bx.same (f.bl.take i) ys = true ∧ (∀ y ∈ ys, SmallBx y ∧ (∀ i ∈ y.l, IxB i) ∧ OBx w4 B0 y)) := Lib.hid ⟨HYS.out.1, HYS.out.2.1, fun z hz => ⟨(HYS.out.2.2 z hz).1, (HYS.out.2.2 z hz).2.1, (HYS.out.2.2 z hz).2.2.no hk5⟩⟩
      have HYY : Hid (x.same y = true ∧ SmallBx y ∧ (∀ i ∈ y.l, IxB i) ∧ OBx w4 B0 y) := Lib.hid ⟨hxy, hsy, hyo, hyO.mono (by simp; omega)⟩
      have HOA := Lib.hid (fun o : Obj => HO4.out.alloc o)
      obtain ⟨ya, yn, yc, yl⟩ := y
      have HNW := Lib.hid (news_one w4 [.slice ya yn yc] 45)
      clear hxy hsy hyo hyO hk4 hk5 x0 HC
      unfold Bx.v
      go_wp2_with (at_builtin; refine wpList_append_fits _ rfl (.tmp 21) (.tmp 24) 40 rfl B0 45 ti 1 Tryd.underlying40 HI.out.1 HI.out.2.2.1 g i bn (ys.map Bx.v) rfl (HOA.out _) ⟨w4.heap.size, 0, none⟩ 1 1 [.slice ya yn yc] rfl rfl HNW.out (by intro u hu; simp at hu; subst hu; rfl) (by omega) ?_)
      intro w5 ho5 hg5
      have hka : Keeps No w4 (w4.alloc (.cells #[.slice ya yn yc] 45)) := (Keeps.refl _ _).alloc _
      have hk6 : Keeps (fun q => q = g) (w4.alloc (.cells #[.slice ya yn yc] 45)) w5 := (Keeps.refl _ _).grown hg5 (fun q e => .inl (by simpa [Value.ownBlock] using e.symm))
      have hcell : ∀ q, q = g → ∃ cs e, (w4.alloc (.cells #[.slice ya yn yc] 45)).heap[q]? = some (.cells cs e (0, 0)) ∧ e ≠ 3 ∧ e ≠ 2 ∧ e ≠ 27 := fun q e => by
        subst e
        rcases (HOA.out (.cells #[.slice ya yn yc] 45)).2 with ⟨e, _⟩ | ⟨g', cap, cur, e, _, hh, _⟩
        · cases e
        · injection e with e _ _; injection e with e; injection e with e _ _; subst e; exact ⟨cur, _, hh, by decide, by decide, by decide⟩
      have HO5 : Hid (w5.ownsRow B0 45 1 (.slice (some ⟨g, 0, none⟩) (i + 1) bn) (i + 1) ((ys ++ [(⟨ya, yn, yc, yl⟩ : Bx)]).map Bx.v)) := Lib.hid (by rw [List.map_append]; simpa using ho5)
      have HK5 : Hid (Keeps No w w5) := Lib.hid ((HK4.out.trans hka (fun _ _ e => e)).trans hk6 (fun q hq e => by rw [HB0.out] at hq; have := HGB.out; omega))
      have hL0 := (Array.getElem?_eq_some_iff.1 HQ4.out.1).1
      have hL1 := (Array.getElem?_eq_some_iff.1 HQ4.out.2.1).1
      have HQ5 : Hid (w5.heap[B0]? = some (.cells #[.string fn, .int .i64 fp, .int .i64 fr, .slice va sn ca, .slice (some ⟨xb, xo, none⟩) bn bc, .bool fl] 42 (0, 0)) ∧ w5.heap[B0 + 1]? = some (.cells #[.string ⟨#[]⟩, .int .i64 0, .int .i64 0, .slice none 0 0, .slice none 0 0, .bool false] 42 (0, 0)) ∧ w5.ownsRow B0 3 1 (.slice va sn ca) sn (irow sl)) := Lib.hid ⟨by
        rw [hk6.block B0 (by simp; omega) (by have := HGB.out; omega), Below.heap_alloc _ _ _ hL0]; exact HQ4.out.1, by
        rw [hk6.block (B0 + 1) (by simp; omega) (by have := HGB.out; omega), Below.heap_alloc _ _ _ hL1]; exact HQ4.out.2.1,
        keeps_row (keeps_row HQ4.out.2.2 hka (fun _ _ e => e)) hk6 (fun q hq e => by obtain ⟨cs, e2, hc, h1, _⟩ := hcell q e; exact own_ne (keeps_row HQ4.out.2.2 hka (fun _ _ e => e)) hc h1 hq)⟩
      have HY5 : Hid ((ys ++ [(⟨ya, yn, yc, yl⟩ : Bx)]).length = i + 1 ∧ sameRow Bx.same (f.bl.take (i + 1)) (ys ++ [(⟨ya, yn, yc, yl⟩ : Bx)]) = true ∧ (∀ z ∈ ys ++ [(⟨ya, yn, yc, yl⟩ : Bx)], SmallBx z ∧ (∀ i ∈ z.l, IxB i) ∧ OBx w5 B0 z)) := Lib.hid ⟨by simp [HY4.out.1], row_snoc _ HX.out HY4.out.1 HY4.out.2.1 HYY.out.1, fun z hz => by
        rcases List.mem_append.1 hz with h | h
        · have := HY4.out.2.2 z h; exact ⟨this.1, this.2.1, (this.2.2.no hka).keep hk6 hcell⟩
        · obtain rfl : z = ⟨ya, yn, yc, yl⟩ := by simpa using h
          exact ⟨HYY.out.2.1, HYY.out.2.2.1, (HYY.out.2.2.2.no hka).keep hk6 hcell⟩⟩
      clear ho5 hg5 hka hk6 hcell hks hL0 hL1
      go_wp2_with fail
      go_roundg (bn - (i + 1))
      case rel => exact ⟨i + 1, _, rfl, by go_num, by omega, rfl, HY5, HO5, HK5, HQ5⟩
      case measure => omega
    · obtain rfl : i = bn := by omega
      have hlt' : ¬ (i : Int) < (i : Int) := by omega
      have q4 : wr.cell? ⟨B0, 4, none⟩ = some (.slice ba i bc) := by rw [cell_of_row wr _ 4 _ _ _ HQ.out.1]; rfl
      have f4 : wr.frozen? ⟨B0, 4, none⟩ = false := frozen_of_row wr _ 4 _ _ HQ.out.1
      go_upto_region 9 with fail
      obtain ⟨w6, hw6⟩ : ∃ W, wr.setCell ⟨B0, 4, none⟩ (.slice (some ⟨g, 0, none⟩) i i) = W := ⟨_, rfl⟩
      have hr6 : w6.heap[B0]? = some (.cells #[.string fn, .int .i64 fp, .int .i64 fr, .slice va sn ca, .slice (some ⟨g, 0, none⟩) i i, .bool fl] 42 (0, 0)) := by rw [← hw6, heap_setCell_same wr B0 4 _ _ _ HQ.out.1]; rfl
      have hq6 : w6.heap[B0 + 1]? = some (.cells #[.string ⟨#[]⟩, .int .i64 0, .int .i64 0, .slice none 0 0, .slice none 0 0, .bool false] 42 (0, 0)) := by rw [← hw6, Below.heap_setCell _ _ _ _ (by simp)]; exact HQ.out.2.1
      have hk6 : Keeps (fun q => q = B0) wr w6 := by rw [← hw6]; exact (Keeps.refl (fun q => q = B0) wr).setCell (.inl rfl) _
      have HQ6 := Lib.hid hq6
      have HK6 := Lib.hid hk6
      rw [hw6]
      have d0 : w6.cell? ⟨B0, 0, none⟩ = some (.string fn) := by rw [cell_of_row w6 B0 0 _ _ _ hr6]; rfl
      have d1 : w6.cell? ⟨B0, 1, none⟩ = some (.int .i64 fp) := by rw [cell_of_row w6 B0 1 _ _ _ hr6]; rfl
      have d2 : w6.cell? ⟨B0, 2, none⟩ = some (.int .i64 fr) := by rw [cell_of_row w6 B0 2 _ _ _ hr6]; rfl
      have d3 : w6.cell? ⟨B0, 3, none⟩ = some (.slice va sn ca) := by rw [cell_of_row w6 B0 3 _ _ _ hr6]; rfl
      have d4 : w6.cell? ⟨B0, 4, none⟩ = some (.slice (some ⟨g, 0, none⟩) i i) := by rw [cell_of_row w6 B0 4 _ _ _ hr6]; rfl
      have d5 : w6.cell? ⟨B0, 5, none⟩ = some (.bool fl) := by rw [cell_of_row w6 B0 5 _ _ _ hr6]; rfl
      clear hr6 hq6 hk6 hw6 q4 f4
      go_wp2_with (first | (refine wpList_store_row rfl _ _ _ rfl (B0 + 1) #[.string fn, .int .i64 fp, .int .i64 fr, .slice va sn ca, .slice (some ⟨g, 0, none⟩) i i, .bool fl] rfl rfl _ _ HQ6.out infoFnS rfl (by simp [Value.oneCell']) ?_))
      have hrc : ∀ j, (w6.setRow (B0 + 1) #[.string fn, .int .i64 fp, .int .i64 fr, .slice va sn ca, .slice (some ⟨g, 0, none⟩) i i, .bool fl]).cell? ⟨B0 + 1, j, none⟩ = (#[.string fn, .int .i64 fp, .int .i64 fr, .slice va sn ca, .slice (some ⟨g, 0, none⟩) i i, .bool fl] : Array Value)[j]? := fun j => by
        rw [cell_of_row _ (B0 + 1) j _ _ _ (setRow_heap w6 (B0 + 1) _ #[.string fn, .int .i64 fp, .int .i64 fr, .slice va sn ca, .slice (some ⟨g, 0, none⟩) i i, .bool fl] _ _ HQ6.out)]
      have hk7 : Keeps (fun q => q = B0 ∨ q = B0 + 1) wr (w6.setRow (B0 + 1) #[.string fn, .int .i64 fp, .int .i64 fr, .slice va sn ca, .slice (some ⟨g, 0, none⟩) i i, .bool fl]) := (HK6.out.mono (fun _ _ e => .inl e)).trans ((Keeps.refl (fun q => q = B0 + 1) w6).setRow (.inl rfl) _) (fun q _ e => .inr e)
      have hcell : ∀ q, (q = B0 ∨ q = B0 + 1) → ∃ cs e, wr.heap[q]? = some (.cells cs e (0, 0)) ∧ e ≠ 3 ∧ e ≠ 2 ∧ e ≠ 27 := fun q e => by
        rcases e with e | e
        · subst e; exact ⟨_, _, HQ.out.1, by decide, by decide, by decide⟩
        · subst e; exact ⟨_, _, HQ.out.2.1, by decide, by decide, by decide⟩
      refine bodyPost_ret (v := .agg #[.string fn, .int .i64 fp, .int .i64 fr, .slice va sn ca, .slice (some ⟨g, 0, none⟩) i i, .bool fl]) ?_ ?_ ?_
      · simp [results, Tryd.results50, go_sem, hrc]
      · rfl
      · unfold CopyFx
        have hE := HBN.out
        refine ⟨⟨fn, fp, fr, ⟨va, sn, ca, sl⟩, some ⟨g, 0, none⟩, i, i, ys, fl⟩, rfl, ?_, ⟨hsn, by have := HS.out.2.1; simp only; omega, fun z hz => (HYS.out.2.2 z hz).1⟩, ⟨by have := HF.out.name; rw [hE.2.2.2.2.2.2.2.1] at this; exact this, by have := HF.out.params; rw [hE.2.2.2.2.2.2.2.2.1] at this; exact this, by have := HF.out.regs; rw [hE.2.2.2.2.2.2.2.2.2.1] at this; exact this, by have := HF.out.slots.bd; rw [hE.2.2.2.2.2.2.1] at this; exact this, fun z hz => (HYS.out.2.2 z hz).2.1⟩, ?_, ?_⟩
        · have h := HYS.out.2.1
          rw [List.take_of_length_le (by have := HF.out.len; omega)] at h
          exact decide_eq_true ⟨by rw [hE.2.2.2.2.2.2.2.1], hE.2.2.2.2.2.2.2.2.1, hE.2.2.2.2.2.2.2.2.2.1, hE.2.2.2.2.2.2.2.2.2.2, hE.2.2.2.2.2.2.1, h⟩
        · rw [HB0.out]
          refine ⟨⟨keeps_row HQ.out.2.2 hk7 (fun q hq e => by obtain ⟨cs, e2, hc, h1, _⟩ := hcell q e; exact own_ne HQ.out.2.2 hc h1 hq), HSL.out⟩, keeps_row HOW.out hk7 (fun q hq e => by
            have : g = q := by simpa [Value.ownBlock] using hq
            have := HGB.out; omega), HYS.out.1, fun z hz => (HYS.out.2.2 z hz).2.2.keep hk7 hcell⟩
        · exact HK.out.trans hk7 (fun q hq e => by rw [HB0.out] at hq; omega)
end Go.Proofs.YtbfjmhfhhlncjaaDoor
/- Copies of programs without globals. -/
namespace Go.Proofs.YtbfjmhfhhlncjaaDoor
open Go.RowKit
set_option linter.unusedVariables false
set_option linter.unusedSimpArgs false

theorem low_row {w w' : World} {B z n : Nat} {e : TypeId} {v : Value} {xs : List Value} (h : w.ownsRow B e z v n xs) (hk : Keeps (fun q => q < B) w w') : w'.ownsRow B e z v n xs := keeps_row h hk (fun q hq hs => Nat.not_lt.2 (h.lt q hq).1 hs)
theorem OIx.low {w w' : World} {B : Nat} {x : Ix} (h : OIx w B x) (hk : Keeps (fun q => q < B) w w') : OIx w' B x := ⟨⟨low_row h.args.o hk, h.args.len⟩, ⟨low_row h.tos.o hk, h.tos.len⟩, ⟨low_row h.cases_.o hk, h.cases_.len⟩⟩
theorem OBx.low {w w' : World} {B : Nat} {x : Bx} (h : OBx w B x) (hk : Keeps (fun q => q < B) w w') : OBx w' B x := ⟨low_row h.o hk, h.len, fun i hi => (h.ok i hi).low hk⟩
theorem OFx.low {w w' : World} {B : Nat} {x : Fx} (h : OFx w B x) (hk : Keeps (fun q => q < B) w w') : OFx w' B x := ⟨⟨low_row h.slots.o hk, h.slots.len⟩, low_row h.o hk, h.len, fun i hi => (h.ok i hi).low hk⟩
theorem fx_one1 (x : Fx) : ∀ u ∈ x.cells, u.oneCell' = true := by
  intro u hu; unfold Fx.cells at hu; simp at hu
  rcases hu with rfl | rfl | rfl | rfl | rfl | rfl <;> rfl
theorem infoPgS : (Tryd.prog.info? 36).map (·.size) = some 3 := by kernel_rfl
def CopyPg0 (p : Pg) (w : World) (e : Ending) (w' : World) : Prop := ∃ y : Pg, e = .returned (pv y) ∧ y.main = p.main ∧ sameRow Fx.same p.fl y.fl = true ∧ y.gn = 0 ∧ (∀ W, Keeps (fun q => q < w.heap.size) w' W → PgOk W y) ∧ Keeps No w w'
set_option maxRecDepth 100000 in
set_option maxHeartbeats 12800000 in
theorem copyProg0 (p : Pg) (w : World) (hp : PgOk w p) (hg0 : p.gn = 0) (hn : p.fn ≤ 100000) (hs : ∀ f ∈ p.fl, SmallFx f) : Calls Tryd.prog 32 #[pv p] w (CopyPg0 p w) := by
  have HP := Lib.hid hp
  have HS := Lib.hid hs
  have hcap := hp.fcap
  have hm := hp.main
  unfold maxLen at hcap
  obtain ⟨ga, hga⟩ : ∃ q, p.ga = q := ⟨_, rfl⟩
  obtain ⟨gc, hgc⟩ : ∃ q, p.gc = q := ⟨_, rfl⟩
  obtain ⟨fa, hfa⟩ : ∃ q, p.fa = q := ⟨_, rfl⟩
  obtain ⟨fn, hfn⟩ : ∃ q, p.fn = q := ⟨_, rfl⟩
  obtain ⟨fc, hfc⟩ : ∃ q, p.fc = q := ⟨_, rfl⟩
  obtain ⟨mn, hmn⟩ : ∃ q, p.main = q := ⟨_, rfl⟩
  unfold pv
  rw [hga, hg0, hgc, hfa, hfn, hfc, hmn]
  rw [hfn, hfc] at hcap
  rw [hfn] at hn
  have HPP := Lib.hid (And.intro hfa (And.intro hfn (And.intro hmn hm)))
  obtain ⟨ti, hi, hz0, hz1, hz2⟩ := info_parts infoF
  have HI := Lib.hid (And.intro hi (And.intro hz0 (And.intro hz1 hz2)))
  obtain ⟨B0, hB0⟩ : ∃ q, w.heap.size = q := ⟨_, rfl⟩
  have HB0 := Lib.hid hB0
  clear hp hs hga hgc hfa hfn hfc hmn hm hg0 hi hz0 hz1 hz2
  go_enter Tryd.func32, Tryd.ntmps32
  go_wp2_with fail
  obtain ⟨w1, hw1⟩ : ∃ W, (((w.alloc (.cells #[.slice ga 0 gc, .slice fa fn fc, .int .i64 mn] 36)).alloc (.cells #[.slice none 0 0, .slice none 0 0, .int .i64 0] 36)).alloc (.cells #[.slice none 0 0, .slice none 0 0, .int .i64 mn] 36)) = W := ⟨_, rfl⟩
  have hk1 : Keeps No w w1 := by rw [← hw1]; exact (((Keeps.refl No w).alloc _).alloc _).alloc _
  have hr0 : w1.heap[B0]? = some (.cells #[.slice ga 0 gc, .slice fa fn fc, .int .i64 mn] 36 (0, 0)) := by
    rw [← hw1, ← HB0.out, Below.heap_alloc _ _ _ (by simp; omega), Below.heap_alloc _ _ _ (by simp)]; exact heap_alloc_new _ _
  have hr1 : w1.heap[B0 + 1]? = some (.cells #[.slice none 0 0, .slice none 0 0, .int .i64 0] 36 (0, 0)) := by
    rw [← hw1, ← HB0.out, Below.heap_alloc _ _ _ (by simp)]
    exact (by simpa using heap_alloc_new (w.alloc (.cells #[.slice ga 0 gc, .slice fa fn fc, .int .i64 mn] 36)) (.cells #[.slice none 0 0, .slice none 0 0, .int .i64 0] 36))
  have hr2 : w1.heap[B0 + 2]? = some (.cells #[.slice none 0 0, .slice none 0 0, .int .i64 mn] 36 (0, 0)) := by
    rw [← hw1, ← HB0.out]
    exact (by simpa using heap_alloc_new ((w.alloc (.cells #[.slice ga 0 gc, .slice fa fn fc, .int .i64 mn] 36)).alloc (.cells #[.slice none 0 0, .slice none 0 0, .int .i64 0] 36)) (.cells #[.slice none 0 0, .slice none 0 0, .int .i64 mn] 36))
  rw [hw1]
  have HK1 := Lib.hid hk1
  have HR := Lib.hid (And.intro hr0 (And.intro hr1 hr2))
  have c1 : w1.cell? ⟨B0, 1, none⟩ = some (.slice fa fn fc) := by rw [cell_of_row w1 B0 1 _ _ _ hr0]; rfl
  clear hw1 hk1 hr0 hr1 hr2
  go_loopg [14] 0 (fun gg v wx => v = .int .i64 0 ∧ gg = 0 ∧ w1 = wx)
  case atStart => exact ⟨rfl, rfl, rfl⟩
  case round =>
    obtain ⟨rfl, hg0, rfl⟩ := hrel
    go_wp2_with fail
    clear c1
    go_loopg [32] fn (fun gg v wr => ∃ (i : Nat) (ys : List Fx) (va : Option Addr) (ca : Nat), v = .int .i64 (i : Int) ∧ i ≤ fn ∧ gg = fn - i ∧ Hid (ys.length = i ∧ sameRow Fx.same (p.fl.take i) ys = true ∧ (∀ y ∈ ys, SmallFx y ∧ FxB y ∧ OFx wr B0 y)) ∧ Hid (wr.ownsRow B0 42 6 (.slice va i ca) i (ys.flatMap Fx.cells)) ∧ Hid (Keeps No w wr) ∧ Hid (wr.heap[B0]? = some (.cells #[.slice ga 0 gc, .slice fa fn fc, .int .i64 mn] 36 (0, 0)) ∧ wr.heap[B0 + 1]? = some (.cells #[.slice none 0 0, .slice none 0 0, .int .i64 0] 36 (0, 0)) ∧ wr.heap[B0 + 2]? = some (.cells #[.slice none 0 0, .slice va i ca, .int .i64 mn] 36 (0, 0))))
    case atStart => exact ⟨0, [], none, 0, rfl, Nat.zero_le _, rfl, Lib.hid ⟨rfl, rfl, fun y hy => by cases hy⟩, Lib.hid (World.ownsRow_nil _ _ _ _), HK1, HR⟩
    case round =>
      obtain ⟨i, ys, va, ca, rfl, hi, hgk, HYS, HOW, HK, HRR⟩ := hrel
      by_cases hlt : i < fn
      · have hlt' : (i : Int) < (fn : Int) := by omega
        have ip0 : (0 : Int) ≤ (i : Int) := by omega
        obtain ⟨xb, xo, z, hz, hza, hzt, hzo⟩ := Pg.fget HP.out (i := i) (by rw [HPP.out.2.1]; exact hlt)
        obtain rfl := HPP.out.1.symm.trans hza
        have x0 := HK.out.cell0 (hzt 0 _ rfl)
        have x1 := HK.out.cell0 (hzt 1 _ rfl)
        have x2 := HK.out.cell0 (hzt 2 _ rfl)
        have x3 := HK.out.cell0 (hzt 3 _ rfl)
        have x4 := HK.out.cell0 (hzt 4 _ rfl)
        have x5 := HK.out.cell0 (hzt 5 _ rfl)
        rw [Nat.add_zero] at x0
        have HC := Lib.hid (fun (W : World) (hk : Keeps No w W) => copyFn_any z W (hzo.no hk) (HS.out z (List.mem_of_getElem? hz)))
        have HZ := Lib.hid hz
        clear hz hza hzt hzo
        go_wp2_with fail
        obtain ⟨gx, hgx⟩ : ∃ q, wr.heap.size = q := ⟨_, rfl⟩
        obtain ⟨wx, hwx⟩ : ∃ W, wr.alloc (.cells #[.string z.name, .int .i64 z.params, .int .i64 z.regs, z.slots.v, .slice z.ba z.bn z.bc, .bool z.value] 42) = W := ⟨_, rfl⟩
        have hkx : Keeps No wr wx := by rw [← hwx]; exact (Keeps.refl _ _).alloc _
        have hrx : wx.heap[gx]? = some (.cells #[.string z.name, .int .i64 z.params, .int .i64 z.regs, z.slots.v, .slice z.ba z.bn z.bc, .bool z.value] 42 (0, 0)) := by rw [← hwx, ← hgx]; exact heap_alloc_new _ _
        have HOX := Lib.hid (keeps_row HOW.out hkx (fun _ _ e => e))
        have HKX := Lib.hid (HK.out.trans hkx (fun _ _ e => e))
        have HYX : Hid (ys.length = i ∧ sameRow Fx.same (p.fl.take i) ys = true ∧ (∀ y ∈ ys, SmallFx y ∧ FxB y ∧ OFx wx B0 y)) := Lib.hid ⟨HYS.out.1, HYS.out.2.1, fun y hy => ⟨(HYS.out.2.2 y hy).1, (HYS.out.2.2 y hy).2.1, (HYS.out.2.2 y hy).2.2.no hkx⟩⟩
        have HRX : Hid (wx.heap[B0]? = some (.cells #[.slice ga 0 gc, .slice (some ⟨xb, xo, none⟩) fn fc, .int .i64 mn] 36 (0, 0)) ∧ wx.heap[B0 + 1]? = some (.cells #[.slice none 0 0, .slice none 0 0, .int .i64 0] 36 (0, 0)) ∧ wx.heap[B0 + 2]? = some (.cells #[.slice none 0 0, .slice va i ca, .int .i64 mn] 36 (0, 0))) := Lib.hid ⟨(hkx.block _ (Array.getElem?_eq_some_iff.1 HRR.out.1).1 (fun e => e)).trans HRR.out.1, (hkx.block _ (Array.getElem?_eq_some_iff.1 HRR.out.2.1).1 (fun e => e)).trans HRR.out.2.1, (hkx.block _ (Array.getElem?_eq_some_iff.1 HRR.out.2.2).1 (fun e => e)).trans HRR.out.2.2⟩
        have hsx : wx.heap.size = gx + 1 := by rw [← hwx, ← hgx]; simp
        have hvg : (Value.slice va i ca).ownBlock ≠ some gx := fun e => by have := (HOW.out.lt gx e).2; omega
        have hvo : (Value.slice va i ca).ownBlock ≠ some (B0 + 2) := own_ne HOX.out HRX.out.2.2 (by decide)
        have hxf : x0 = x0 := rfl
        simp only [Sl.v] at hwx
        rw [hwx]
        simp only [hgx]
        clear x0 x1 x2 x3 x4 x5 hxf
        have e1 : ∀ u : KS (fun q => (Value.slice va i ca).ownBlock = some q) wx, u.W.cell? ⟨B0 + 1 + 1, 1, none⟩ = some (.slice va i ca) := fun u => u.cell (by rw [show B0 + 1 + 1 = B0 + 2 from rfl, cell_of_row wx _ 1 _ _ _ HRX.out.2.2]; rfl) hvo
        have g0 : ∀ u : KS (fun q => (Value.slice va i ca).ownBlock = some q) wx, u.W.cell? ⟨gx, 0, none⟩ = some (.string z.name) := fun u => u.cell (by rw [cell_of_row wx gx 0 _ _ _ hrx]; rfl) hvg
        have g1 : ∀ u : KS (fun q => (Value.slice va i ca).ownBlock = some q) wx, u.W.cell? ⟨gx, 1, none⟩ = some (.int .i64 z.params) := fun u => u.cell (by rw [cell_of_row wx gx 1 _ _ _ hrx]; rfl) hvg
        have g2 : ∀ u : KS (fun q => (Value.slice va i ca).ownBlock = some q) wx, u.W.cell? ⟨gx, 2, none⟩ = some (.int .i64 z.regs) := fun u => u.cell (by rw [cell_of_row wx gx 2 _ _ _ hrx]; rfl) hvg
        have g3 : ∀ u : KS (fun q => (Value.slice va i ca).ownBlock = some q) wx, u.W.cell? ⟨gx, 3, none⟩ = some z.slots.v := fun u => u.cell (by rw [cell_of_row wx gx 3 _ _ _ hrx]; rfl) hvg
        have g4 : ∀ u : KS (fun q => (Value.slice va i ca).ownBlock = some q) wx, u.W.cell? ⟨gx, 4, none⟩ = some (.slice z.ba z.bn z.bc) := fun u => u.cell (by rw [cell_of_row wx gx 4 _ _ _ hrx]; rfl) hvg
        have g5 : ∀ u : KS (fun q => (Value.slice va i ca).ownBlock = some q) wx, u.W.cell? ⟨gx, 5, none⟩ = some (.bool z.value) := fun u => u.cell (by rw [cell_of_row wx gx 5 _ _ _ hrx]; rfl) hvg
        have hne : Nonempty (KS (fun q => (Value.slice va i ca).ownBlock = some q) wx) := ⟨⟨wx, Keeps.refl _ _⟩⟩
        clear hkx hrx hwx hvg hvo hgx
        refine Mix.wp_region_mix (fun W => ∃ u : KS (fun q => (Value.slice va i ca).ownBlock = some q) wx, W = u.W) [7] (by kernel_rfl) ?_
        have HKD : Hid (Keeps (fun q => (Value.slice va i ca).ownBlock = some q) wx wx.drew) := Lib.hid ((Keeps.refl _ wx).drew)
        have HKN : Hid (Keeps No wx wx.drew) := Lib.hid ((Keeps.refl _ wx).drew)
        generalize wx.drew = wd at HKD HKN ⊢
        refine Mix.mix_seg 0 3 5 (by kernel_rfl) (by kernel_rfl) rfl rfl ⟨⟨wd, HKD.out⟩, rfl⟩ ?_
        simp only [List.drop_succ_cons, List.drop_zero, List.take_succ_cons, List.take_zero]
        repeat (go_big_quiet_step (fail))
        refine wpQuiet_nil ?_
        clear e1 g0 g1 g2 g3 g4 g5 hne
        refine Mix.mix_one 3 4 (by kernel_rfl) rfl rfl ?_
        simp only [List.drop_succ_cons, List.drop_zero, List.take_succ_cons, List.take_zero]
        go_wp2_with fail
        refine (HC.out wd (HKX.out.trans HKN.out (fun _ _ e => e))).mono ?_
        rintro e w4 ⟨y, rfl, hxy, hsy, hyb, hyO, hk4⟩
        have hk5 : Keeps No wx w4 := HKN.out.trans hk4 (fun _ _ e => e)
        have HK5 := Lib.hid hk5
        have HKW := Lib.hid (HKX.out.trans hk5 (fun _ _ e => e))
        have HO4 := Lib.hid (keeps_row HOX.out hk5 (fun _ _ e => e))
        have HY4 : Hid (ys.length = i ∧ sameRow Fx.same (p.fl.take i) ys = true ∧ (∀ y ∈ ys, SmallFx y ∧ FxB y ∧ OFx w4 B0 y)) := Lib.hid ⟨HYX.out.1, HYX.out.2.1, fun y hy => ⟨(HYX.out.2.2 y hy).1, (HYX.out.2.2 y hy).2.1, (HYX.out.2.2 y hy).2.2.no hk5⟩⟩
        have HYY : Hid (z.same y = true ∧ SmallFx y ∧ FxB y ∧ OFx w4 B0 y) := Lib.hid ⟨hxy, hsy, hyb, hyO.mono (by have h1 := HKN.out.size; have h2 := HKX.out.size; rw [HB0.out] at h2; omega)⟩
        have HR4 : Hid (w4.heap[B0]? = some (.cells #[.slice ga 0 gc, .slice (some ⟨xb, xo, none⟩) fn fc, .int .i64 mn] 36 (0, 0)) ∧ w4.heap[B0 + 1]? = some (.cells #[.slice none 0 0, .slice none 0 0, .int .i64 0] 36 (0, 0)) ∧ w4.heap[B0 + 2]? = some (.cells #[.slice none 0 0, .slice va i ca, .int .i64 mn] 36 (0, 0))) := Lib.hid ⟨(hk5.block _ (Array.getElem?_eq_some_iff.1 HRX.out.1).1 (fun e => e)).trans HRX.out.1, (hk5.block _ (Array.getElem?_eq_some_iff.1 HRX.out.2.1).1 (fun e => e)).trans HRX.out.2.1, (hk5.block _ (Array.getElem?_eq_some_iff.1 HRX.out.2.2).1 (fun e => e)).trans HRX.out.2.2⟩
        clear hxy hsy hyb hyO hk4 hk5 HC
        go_wp2_with fail
        refine ⟨.inr ⟨⟨w4, HK5.out.mono (fun _ _ e => e.elim)⟩, rfl⟩, ?_⟩
        refine Mix.mix_one 4 3 (by kernel_rfl) rfl rfl ?_
        simp only [List.drop_succ_cons, List.drop_zero, List.take_succ_cons, List.take_zero]
        go_wp2_with fail
        refine ⟨.inr ⟨⟨_, (HK5.out.mono (fun _ _ e => e.elim)).alloc _⟩, rfl⟩, ?_⟩
        have HOA := Lib.hid (fun o : Obj => HO4.out.alloc o)
        have HNW := Lib.hid (news_one w4 y.cells 42)
        have HON := Lib.hid (fx_one1 y)
        have HBB : Hid (B0 ≤ w4.heap.size) := Lib.hid (by have := HKW.out.size; rw [HB0.out] at this; exact this)
        have HMX : Hid (i + 1 ≤ maxLen) := Lib.hid (by unfold maxLen; omega)
        refine Mix.mix_one 5 2 (by kernel_rfl) rfl rfl ?_
        simp only [List.drop_succ_cons, List.drop_zero, List.take_succ_cons, List.take_zero]
        refine wpList_append_lies _ rfl (.tmp 37) (.tmp 40) 34 rfl B0 42 ti _ 6 88 Tryd.underlying34 HI.out.1 HI.out.2.1 HI.out.2.2.1 HI.out.2.2.2 rfl (by decide) (.slice va i ca) i (ys.flatMap Fx.cells) rfl (HOA.out _) ⟨w4.heap.size, 0, none⟩ 1 1 y.cells rfl rfl HNW.out HON.out (by decide) HMX.out (by omega) (Nat.le_trans HBB.out (by simp)) _ rfl ?_
        intro g5 c5 w5 ho5 hg5 hl5 _
        have hka : Keeps No w4 (w4.alloc (.cells #[.string y.name, .int .i64 y.params, .int .i64 y.regs, y.slots.v, .slice y.ba y.bn y.bc, .bool y.value] 42)) := (Keeps.refl _ _).alloc _
        have hk6 : Keeps (fun q => (Value.slice va i ca).ownBlock = some q) (w4.alloc (.cells #[.string y.name, .int .i64 y.params, .int .i64 y.regs, y.slots.v, .slice y.ba y.bn y.bc, .bool y.value] 42)) w5 := (Keeps.refl _ _).grown hg5 (fun q e => .inl e)
        have hcell : ∀ q, (Value.slice va i ca).ownBlock = some q → ∃ cs e, (w4.alloc (.cells #[.string y.name, .int .i64 y.params, .int .i64 y.regs, y.slots.v, .slice y.ba y.bn y.bc, .bool y.value] 42)).heap[q]? = some (.cells cs e (0, 0)) ∧ e ≠ 3 ∧ e ≠ 2 ∧ e ≠ 27 ∧ e ≠ 45 := fun q e => by
          rcases (HOA.out (Obj.cells #[.string y.name, .int .i64 y.params, .int .i64 y.regs, y.slots.v, .slice y.ba y.bn y.bc, .bool y.value] 42)).2 with ⟨e2, _⟩ | ⟨g', cap, cur, e2, _, hh, _⟩
          · rw [e2] at e; simp [Value.ownBlock] at e
          · rw [e2] at e; simp [Value.ownBlock] at e; subst e; exact ⟨cur, _, hh, by decide, by decide, by decide, by decide⟩
        have hnp : ∀ (k : Nat), (∃ cs : Array Value, w4.heap[k]? = some (.cells cs 36 (0, 0))) → (Value.slice va i ca).ownBlock ≠ some k := fun k ⟨cs, hc⟩ => own_ne HO4.out hc (by decide)
        have hkeep : ∀ (k : Nat) (cs : Array Value), w4.heap[k]? = some (.cells cs 36 (0, 0)) → w5.heap[k]? = some (.cells cs 36 (0, 0)) := fun k cs hc => by
          have hl := (Array.getElem?_eq_some_iff.1 hc).1
          rw [hk6.block k (by simp; omega) (hnp k ⟨cs, hc⟩), Below.heap_alloc _ _ _ hl]; exact hc
        have HR5 : Hid (w5.heap[B0]? = some (.cells #[.slice ga 0 gc, .slice (some ⟨xb, xo, none⟩) fn fc, .int .i64 mn] 36 (0, 0)) ∧ w5.heap[B0 + 1]? = some (.cells #[.slice none 0 0, .slice none 0 0, .int .i64 0] 36 (0, 0)) ∧ w5.heap[B0 + 2]? = some (.cells #[.slice none 0 0, .slice va i ca, .int .i64 mn] 36 (0, 0))) := Lib.hid ⟨hkeep _ _ HR4.out.1, hkeep _ _ HR4.out.2.1, hkeep _ _ HR4.out.2.2⟩
        have HO5 : Hid (w5.ownsRow B0 42 6 (.slice (some ⟨g5, 0, none⟩) (i + 1) c5) (i + 1) ((ys ++ [y]).flatMap Fx.cells)) := Lib.hid (by rw [List.flatMap_append]; simpa using ho5)
        have HKC : Hid (Keeps (fun q => (Value.slice va i ca).ownBlock = some q) wx w5) := Lib.hid (((HK5.out.mono (fun _ _ e => e.elim)).trans hka (fun _ _ e => e.elim)).trans hk6 (fun _ _ e => e))
        have HKV : Hid (Keeps No w w5) := Lib.hid ((HKW.out.trans hka (fun _ _ e => e)).trans hk6 (fun q hq e => by have := (HO4.out.lt q e).1; rw [HB0.out] at hq; omega))
        have HY5 : Hid ((ys ++ [y]).length = i + 1 ∧ sameRow Fx.same (p.fl.take (i + 1)) (ys ++ [y]) = true ∧ (∀ t ∈ ys ++ [y], SmallFx t ∧ FxB t ∧ OFx w5 B0 t)) := Lib.hid ⟨by simp [HY4.out.1], row_snoc _ HZ.out HY4.out.1 HY4.out.2.1 HYY.out.1, fun t ht => by
          rcases List.mem_append.1 ht with h | h
          · have := HY4.out.2.2 t h; exact ⟨this.1, this.2.1, (this.2.2.no hka).keep hk6 hcell⟩
          · obtain rfl : t = y := by simpa using h
            exact ⟨HYY.out.2.1, HYY.out.2.2.1, (HYY.out.2.2.2.no hka).keep hk6 hcell⟩⟩
        clear ho5 hg5 hl5 hka hk6 hcell hnp hkeep
        go_wp2_with fail
        refine ⟨.inr ⟨⟨w5, HKC.out⟩, rfl⟩, ?_⟩
        refine Mix.mix_one 6 1 (by kernel_rfl) rfl rfl ?_
        simp only [List.drop_succ_cons, List.drop_zero, List.take_succ_cons, List.take_zero]
        go_wp2_with fail
        refine ⟨.inr ⟨⟨w5, HKC.out⟩, rfl⟩, ?_⟩
        have s1 : w5.cell? ⟨B0 + 2, 1, none⟩ = some (.slice va i ca) := by rw [cell_of_row w5 _ 1 _ _ _ HR5.out.2.2]; rfl
        have s2 : w5.frozen? ⟨B0 + 2, 1, none⟩ = false := frozen_of_row w5 _ 1 _ _ HR5.out.2.2
        refine Mix.mix_one 7 0 (by kernel_rfl) rfl rfl ?_
        simp only [List.drop_succ_cons, List.drop_zero, List.take_succ_cons, List.take_zero]
        go_wp2_with fail
        refine ⟨.inl ⟨rfl, rfl⟩, ?_⟩
        refine Mix.mix_end (by kernel_rfl) ?_
        have hr6 : (w5.setCell ⟨B0 + 2, 1, none⟩ (.slice (some ⟨g5, 0, none⟩) (i + 1) c5)).heap[B0 + 2]? = some (.cells #[.slice none 0 0, .slice (some ⟨g5, 0, none⟩) (i + 1) c5, .int .i64 mn] 36 (0, 0)) := by rw [heap_setCell_same w5 (B0 + 2) 1 _ _ _ HR5.out.2.2]; rfl
        have hk7 : Keeps (fun q => q = B0 + 2) w5 (w5.setCell ⟨B0 + 2, 1, none⟩ (.slice (some ⟨g5, 0, none⟩) (i + 1) c5)) := (Keeps.refl (fun q => q = B0 + 2) w5).setCell (.inl rfl) _
        have hcell : ∀ q, q = B0 + 2 → ∃ cs e, w5.heap[q]? = some (.cells cs e (0, 0)) ∧ e ≠ 3 ∧ e ≠ 2 ∧ e ≠ 27 ∧ e ≠ 45 := fun q e => by subst e; exact ⟨_, _, HR5.out.2.2, by decide, by decide, by decide, by decide⟩
        have HR6 : Hid ((w5.setCell ⟨B0 + 2, 1, none⟩ (.slice (some ⟨g5, 0, none⟩) (i + 1) c5)).heap[B0]? = some (.cells #[.slice ga 0 gc, .slice (some ⟨xb, xo, none⟩) fn fc, .int .i64 mn] 36 (0, 0)) ∧ (w5.setCell ⟨B0 + 2, 1, none⟩ (.slice (some ⟨g5, 0, none⟩) (i + 1) c5)).heap[B0 + 1]? = some (.cells #[.slice none 0 0, .slice none 0 0, .int .i64 0] 36 (0, 0)) ∧ (w5.setCell ⟨B0 + 2, 1, none⟩ (.slice (some ⟨g5, 0, none⟩) (i + 1) c5)).heap[B0 + 2]? = some (.cells #[.slice none 0 0, .slice (some ⟨g5, 0, none⟩) (i + 1) c5, .int .i64 mn] 36 (0, 0))) := Lib.hid ⟨(hk7.block _ (Array.getElem?_eq_some_iff.1 HR5.out.1).1 (by omega)).trans HR5.out.1, (hk7.block _ (Array.getElem?_eq_some_iff.1 HR5.out.2.1).1 (by omega)).trans HR5.out.2.1, hr6⟩
        have HO6 := Lib.hid (keeps_row HO5.out hk7 (fun q hq e => by subst e; exact own_ne HO5.out HR5.out.2.2 (by decide) hq))
        have HK6 : Hid (Keeps No w (w5.setCell ⟨B0 + 2, 1, none⟩ (.slice (some ⟨g5, 0, none⟩) (i + 1) c5))) := Lib.hid (HKV.out.setCell (.inr (by rw [HB0.out]; simp only; omega)) _)
        have HY6 : Hid ((ys ++ [y]).length = i + 1 ∧ sameRow Fx.same (p.fl.take (i + 1)) (ys ++ [y]) = true ∧ (∀ t ∈ ys ++ [y], SmallFx t ∧ FxB t ∧ OFx (w5.setCell ⟨B0 + 2, 1, none⟩ (.slice (some ⟨g5, 0, none⟩) (i + 1) c5)) B0 t)) := Lib.hid ⟨HY5.out.1, HY5.out.2.1, fun t ht => ⟨(HY5.out.2.2 t ht).1, (HY5.out.2.2 t ht).2.1, (HY5.out.2.2 t ht).2.2.keep hk7 hcell⟩⟩
        clear hr6 hk7 hcell s1 s2
        go_wp2_with fail
        go_roundg (fn - (i + 1))
        case rel => exact ⟨i + 1, ys ++ [y], some ⟨g5, 0, none⟩, c5, by go_num, by omega, rfl, HY6, HO6, HK6, HR6⟩
        case measure => omega
      · obtain rfl : i = fn := by omega
        have hlt' : ¬ (i : Int) < (i : Int) := by omega
        have d0 : wr.cell? ⟨B0 + 2, 0, none⟩ = some (.slice none 0 0) := by rw [cell_of_row wr _ 0 _ _ _ HRR.out.2.2]; rfl
        have d1 : wr.cell? ⟨B0 + 2, 1, none⟩ = some (.slice va i ca) := by rw [cell_of_row wr _ 1 _ _ _ HRR.out.2.2]; rfl
        have d2 : wr.cell? ⟨B0 + 2, 2, none⟩ = some (.int .i64 mn) := by rw [cell_of_row wr _ 2 _ _ _ HRR.out.2.2]; rfl
        go_wp2_with (first | (refine wpList_store_row rfl _ _ _ rfl (B0 + 1) #[.slice none 0 0, .slice va i ca, .int .i64 mn] rfl rfl _ _ HRR.out.2.1 infoPgS rfl (by simp [Value.oneCell']) ?_))
        obtain ⟨w9, hw9⟩ : ∃ W, wr.setRow (B0 + 1) #[.slice none 0 0, .slice va i ca, .int .i64 mn] = W := ⟨_, rfl⟩
        have hr9 : w9.heap[B0 + 1]? = some (.cells #[.slice none 0 0, .slice va i ca, .int .i64 mn] 36 (0, 0)) := by rw [← hw9]; exact setRow_heap wr (B0 + 1) _ _ _ _ HRR.out.2.1
        have hk9 : Keeps (fun q => q = B0 + 1) wr w9 := by rw [← hw9]; exact (Keeps.refl (fun q => q = B0 + 1) wr).setRow (.inl rfl) _
        have hkw : Keeps No w w9 := HK.out.trans hk9 (fun q hq e => by rw [HB0.out] at hq; omega)
        have hrc : ∀ j, w9.cell? ⟨B0 + 1, j, none⟩ = (#[.slice none 0 0, .slice va i ca, .int .i64 mn] : Array Value)[j]? := fun j => cell_of_row w9 _ j _ _ _ hr9
        have hcell : ∀ q, q = B0 + 1 → ∃ cs e, wr.heap[q]? = some (.cells cs e (0, 0)) ∧ e ≠ 3 ∧ e ≠ 2 ∧ e ≠ 27 ∧ e ≠ 45 := fun q e => by subst e; exact ⟨_, _, HRR.out.2.1, by decide, by decide, by decide, by decide⟩
        have ho9 := keeps_row HOW.out hk9 (fun q hq e => by obtain ⟨cs, e2, hc, _⟩ := hcell q e; subst e; exact own_ne HOW.out HRR.out.2.1 (by decide) hq)
        rw [hw9]
        refine bodyPost_ret (v := .agg #[.slice none 0 0, .slice va i ca, .int .i64 mn]) ?_ ?_ ?_
        · simp [results, Tryd.results32, go_sem, hrc]
        · rfl
        · unfold CopyPg0
          have hsl : ys.length = i := HYS.out.1
          refine ⟨⟨none, 0, 0, [], va, i, ca, ys, mn⟩, rfl, HPP.out.2.2.1.symm, ?_, rfl, ?_, hkw⟩
          · have h := HYS.out.2.1
            rw [List.take_of_length_le (by have := HP.out.flen; have := HPP.out.2.1; omega)] at h
            exact h
          · intro W hW
            rw [HB0.out] at hW
            have ho9 := low_row ho9 hW
            refine ⟨?_, rfl, ⟨Nat.le_refl _, Nat.zero_le _⟩, (fun g hg => by cases hg), (fun h => absurd h (Nat.lt_irrefl _)), hsl, ?_, fun y hy => (((HYS.out.2.2 y hy).2.2.keep hk9 hcell).low hW).at_ (HYS.out.2.2 y hy).2.1, fun hn => ?_⟩
            · rw [← HPP.out.2.2.1]; exact HPP.out.2.2.2
            · rcases ho9.2 with ⟨e, h0⟩ | ⟨g, cap, cur, e, _, _, h1, h2, _⟩
              · injection e with _ _ e; simp only; omega
              · injection e with _ _ e; simp only; rw [e]; exact ⟨h1, h2⟩
            · obtain ⟨aa, ca', e, hg⟩ := own_form ho9
              obtain ⟨g, rfl⟩ := hg hn
              injection e with e1 e2 e3
              subst e1
              refine ⟨g, 0, rfl, fun k f hf j v hj => ?_⟩
              have hk : k < i := by rw [← hsl]; exact (List.getElem?_eq_some_iff.1 hf).1
              have hj6 : j < 6 := (List.getElem?_eq_some_iff.1 hj).1
              rw [Nat.zero_add]
              exact (ho9.cellAt _ (by omega)).trans (flat_get Fx.cells 6 fx_len ys k f hf j v hj)
end Go.Proofs.YtbfjmhfhhlncjaaDoor
