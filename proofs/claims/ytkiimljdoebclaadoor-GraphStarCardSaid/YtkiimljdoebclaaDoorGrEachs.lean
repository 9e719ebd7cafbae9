/- What a function's instructions tell: the facts in memory, one instruction taken in. -/
import Derived.Test.YtkiimljdoebclaaDoorIrP
import Derived.Test.YtkiimljdoebclaaDoorMix
import Derived.Test.YtkiimljdoebclaaDoorIrForm3
import Derived.Deep.LoopGhost
namespace Go.Proofs.YtkiimljdoebclaaDoor
open Go.RowKit
set_option linter.unusedVariables false
set_option linter.unusedSimpArgs false

/-- A number is appended, at the operation; the row's block is its old one or a new one. -/
theorem wpList_appG (w : World) {ops : Array Oper} {rest : List Oper} {o : Oper} {a : Act} {Q : Exit → Act → World → Prop} (hgd : o.guard = none) (s x : Operand)
    (ho : o.op = .call { callee := .builtin .append, args := #[s, x], argTypes := #[28, 28] })
    (B : Nat) (v : Value) (n : Nat) (l1 : List Int) (z : Int) (q : Nat) (hs : a.eval s = v) (hown : w.ownsRow B 3 1 v n (irow l1)) (hx : a.eval x = .slice (some ⟨q, 0, none⟩) 1 1) (hq : w.heap[q]? = some (.cells #[.int .i64 z] 3 (0, 0)))
    (hn : n ≤ 999999) (hB : B ≤ w.heap.size)
    (h : ∀ g' cap w', w'.ownsRow B 3 1 (.slice (some ⟨g', 0, none⟩) (n + 1) cap) (n + 1) (irow (l1 ++ [z])) → w.grownBy w' v.ownBlock → (v.ownBlock = some g' ∨ w.heap.size ≤ g') → wpList Tryd.prog ops Q rest (a.put o.dst (.slice (some ⟨g', 0, none⟩) (n + 1) cap)) w') : wpList Tryd.prog ops Q (o :: rest) a w := by
  obtain ⟨i0, hi, hz0, hz1, hz2⟩ := info_parts infoI
  refine wpList_append_lies w hgd s x _ ho B 3 i0 (.int .i64 0) 1 8 Tryd.underlying28 hi hz0 hz1 hz2 rfl (by decide) v n (irow l1) hs hown ⟨q, 0, none⟩ 1 1 [.int .i64 z] hx rfl (fun j y hy => ?_) (fun y hy => by simp at hy; subst hy; rfl) (by decide) (by unfold maxLen; omega) (by omega) hB _ rfl (fun g' cap w' k1 k2 k3 _ => h g' cap w' (by rw [irow_app]; exact k1) k2 (k3.imp id (fun e => by omega)))
  cases j with
  | zero => obtain rfl : Value.int .i64 z = y := by simpa using hy
            have e : (⟨q, 0, none⟩ : Addr).add 0 = ⟨q, 0, none⟩ := by unfold Addr.add; split <;> simp_all
            rw [e]; unfold World.cell?; simp only; rw [hq]; rfl
  | succ j => cases hy
theorem ownG_lt {w : World} {B n z : Nat} {e : TypeId} {v : Value} {xs : List Value} (h : w.ownsRow B e z v n xs) (q : Nat) (hq : v.ownBlock = some q) : q < w.heap.size := by
  rcases h.2 with ⟨h1, _⟩ | ⟨g, cap, cur, h1, h2, h3, _⟩
  · rw [h1] at hq; cases hq
  · rw [h1] at hq
    obtain rfl : g = q := by injection hq
    exact (Array.getElem?_eq_some_iff.1 h3).1
theorem ownG_lo {w : World} {B n z : Nat} {e : TypeId} {v : Value} {xs : List Value} (h : w.ownsRow B e z v n xs) (q : Nat) (hq : v.ownBlock = some q) : B ≤ q := by
  rcases h.2 with ⟨h1, _⟩ | ⟨g, cap, cur, h1, h2, h3, _⟩
  · rw [h1] at hq; cases hq
  · rw [h1] at hq
    obtain rfl : g = q := by injection hq
    exact h2
/-- The facts at O, by a call that began in w0. -/
structure GF (w0 w : World) (O : Nat) (sa : Option Addr) (sc : Nat) (ta : Option Addr) (tc : Nat) (l m : List Int) : Prop where
  kp : Keeps No w0 w
  O0 : w0.heap.size ≤ O
  row : w.heap[O]? = some (.cells #[.slice sa l.length sc, .slice ta m.length tc, .int .i64 0] 67 (0, 0))
  own : w.ownsRow w0.heap.size 3 1 (.slice sa l.length sc) l.length (irow l)
  owm : w.ownsRow w0.heap.size 3 1 (.slice ta m.length tc) m.length (irow m)
  neO : ∀ q, (Value.slice sa l.length sc).ownBlock = some q → q ≠ O
  neP : ∀ q, (Value.slice ta m.length tc).ownBlock = some q → q ≠ O
  nlm : ∀ q, (Value.slice sa l.length sc).ownBlock = some q → (Value.slice ta m.length tc).ownBlock ≠ some q
section
variable {w0 w w' : World} {O : Nat} {sa : Option Addr} {sc : Nat} {ta : Option Addr} {tc : Nat} {l m : List Int} {g' cap : Nat} {z : Int}
theorem GF.lt (h : GF w0 w O sa sc ta tc l m) : O < w.heap.size := (Array.getElem?_eq_some_iff.1 h.row).1
theorem GF.no (h : GF w0 w O sa sc ta tc l m) (hk : Keeps No w w') : GF w0 w' O sa sc ta tc l m :=
  ⟨h.kp.trans hk (fun _ _ e => e), h.O0, (hk.block _ h.lt (fun e => e)).trans h.row, own_kept h.own (fun q hq => hk.block q (ownG_lt h.own q hq) (fun e => e)), own_kept h.owm (fun q hq => hk.block q (ownG_lt h.owm q hq) (fun e => e)), h.neO, h.neP, h.nlm⟩
theorem GF.pushL (h : GF w0 w O sa sc ta tc l m) (hk : Keeps (fun q => (Value.slice sa l.length sc).ownBlock = some q) w w')
    (ho : w'.ownsRow w0.heap.size 3 1 (.slice (some ⟨g', 0, none⟩) (l.length + 1) cap) (l.length + 1) (irow (l ++ [z]))) (hg : (Value.slice sa l.length sc).ownBlock = some g' ∨ w.heap.size ≤ g') :
    GF w0 (w'.setCell ⟨O, 0, none⟩ (.slice (some ⟨g', 0, none⟩) (l.length + 1) cap)) O (some ⟨g', 0, none⟩) cap ta tc (l ++ [z]) m := by
  have hn : ∀ q, (Value.slice (some ⟨g', 0, none⟩) (l.length + 1) cap).ownBlock = some q → q ≠ O := fun q hq e => by
    have e1 : g' = q := by injection hq
    rcases hg with hg | hg
    · exact h.neO g' hg (by omega)
    · have := h.lt; omega
  have hm : ∀ q, (Value.slice (some ⟨g', 0, none⟩) (l.length + 1) cap).ownBlock = some q → (Value.slice ta m.length tc).ownBlock ≠ some q := fun q hq e => by
    have e1 : g' = q := by injection hq
    subst e1
    rcases hg with hg | hg
    · exact h.nlm g' hg e
    · have := ownG_lt h.owm g' e; omega
  have hr : w'.heap[O]? = some (.cells #[.slice sa l.length sc, .slice ta m.length tc, .int .i64 0] 67 (0, 0)) := (hk.block _ h.lt (fun e => h.neO O e rfl)).trans h.row
  have hl : (l ++ [z]).length = l.length + 1 := by simp
  have hk2 : Keeps (fun q => q = O) w' (w'.setCell ⟨O, 0, none⟩ (.slice (some ⟨g', 0, none⟩) (l.length + 1) cap)) := (Keeps.refl (fun q => q = O) w').setCell (.inl rfl) _
  have hmw : w'.ownsRow w0.heap.size 3 1 (.slice ta m.length tc) m.length (irow m) := own_kept h.owm (fun q hq => hk.block q (ownG_lt h.owm q hq) (fun e => h.nlm q e hq))
  refine ⟨?_, h.O0, ?_, ?_, ?_, by rw [hl]; exact hn, h.neP, by rw [hl]; exact hm⟩
  · exact (h.kp.trans hk (fun q hq e => by have := ownG_lo h.own q e; omega)).trans hk2 (fun q hq e => by have := h.O0; omega)
  · rw [heap_setCell_same w' O 0 _ _ _ hr, hl]; rfl
  · rw [hl]; exact own_kept ho (fun q hq => hk2.block q (ownG_lt ho q hq) (hn q hq))
  · exact own_kept hmw (fun q hq => hk2.block q (ownG_lt hmw q hq) (h.neP q hq))
theorem GF.pushM (h : GF w0 w O sa sc ta tc l m) (hk : Keeps (fun q => (Value.slice ta m.length tc).ownBlock = some q) w w')
    (ho : w'.ownsRow w0.heap.size 3 1 (.slice (some ⟨g', 0, none⟩) (m.length + 1) cap) (m.length + 1) (irow (m ++ [z]))) (hg : (Value.slice ta m.length tc).ownBlock = some g' ∨ w.heap.size ≤ g') :
    GF w0 (w'.setCell ⟨O, 1, none⟩ (.slice (some ⟨g', 0, none⟩) (m.length + 1) cap)) O sa sc (some ⟨g', 0, none⟩) cap l (m ++ [z]) := by
  have hn : ∀ q, (Value.slice (some ⟨g', 0, none⟩) (m.length + 1) cap).ownBlock = some q → q ≠ O := fun q hq e => by
    have e1 : g' = q := by injection hq
    rcases hg with hg | hg
    · exact h.neP g' hg (by omega)
    · have := h.lt; omega
  have hm : ∀ q, (Value.slice sa l.length sc).ownBlock = some q → (Value.slice (some ⟨g', 0, none⟩) (m.length + 1) cap).ownBlock ≠ some q := fun q e hq => by
    have e1 : g' = q := by injection hq
    subst e1
    rcases hg with hg | hg
    · exact h.nlm g' e hg
    · have := ownG_lt h.own g' e; omega
  have hr : w'.heap[O]? = some (.cells #[.slice sa l.length sc, .slice ta m.length tc, .int .i64 0] 67 (0, 0)) := (hk.block _ h.lt (fun e => h.neP O e rfl)).trans h.row
  have hl : (m ++ [z]).length = m.length + 1 := by simp
  have hk2 : Keeps (fun q => q = O) w' (w'.setCell ⟨O, 1, none⟩ (.slice (some ⟨g', 0, none⟩) (m.length + 1) cap)) := (Keeps.refl (fun q => q = O) w').setCell (.inl rfl) _
  have hmw : w'.ownsRow w0.heap.size 3 1 (.slice sa l.length sc) l.length (irow l) := own_kept h.own (fun q hq => hk.block q (ownG_lt h.own q hq) (fun e => h.nlm q hq e))
  refine ⟨?_, h.O0, ?_, ?_, ?_, h.neO, by rw [hl]; exact hn, by rw [hl]; exact hm⟩
  · exact (h.kp.trans hk (fun q hq e => by have := ownG_lo h.owm q e; omega)).trans hk2 (fun q hq e => by have := h.O0; omega)
  · rw [heap_setCell_same w' O 1 _ _ _ hr, hl]; rfl
  · exact own_kept hmw (fun q hq => hk2.block q (ownG_lt hmw q hq) (h.neO q hq))
  · rw [hl]; exact own_kept ho (fun q hq => hk2.block q (ownG_lt ho q hq) (hn q hq))
end
def namedX (x : Ix) : List Int := if x.op = 10 ∨ x.op = 19 then [x.n] else []
def funcsX (x : Ix) : List Int := if x.op = 9 then [x.n] else []
def GFPost (w0 : World) (O : Nat) (l m : List Int) (e : Ending) (w' : World) : Prop := e = .returned (.tuple #[]) ∧ ∃ sa sc ta tc, GF w0 w' O sa sc ta tc l m
end Go.Proofs.YtkiimljdoebclaaDoor
/- One instruction taken in by gather's closure. (gather_gen.py writes this.) -/
namespace Go.Proofs.YtkiimljdoebclaaDoor
open Go.RowKit
set_option linter.unusedVariables false
set_option linter.unusedSimpArgs false

set_option maxRecDepth 100000 in
set_option maxHeartbeats 12800000 in
theorem gatherL_any {b off O : Nat} {sa ta : Option Addr} {sc tc : Nat} {l m : List Int} {OP N : Int} (w0 w : World) (HB : b < w0.heap.size) (h : GF w0 w O sa sc ta tc l m) (hop : OP = 10 ∨ OP = 19) (hl : l.length ≤ 999999) (c0 : w.cell? ⟨b, off, none⟩ = some (.int .i64 OP)) (c5 : w.cell? ⟨b, off + 5, none⟩ = some (.int .i64 N)) :
    Calls Tryd.prog 36 #[.pointer (some ⟨b, off, none⟩), .pointer (some ⟨O, 0, none⟩)] w (GFPost w0 O (l ++ [N]) m) := by
  have HG := Lib.hid h
  have HBB := Lib.hid HB
  have p0 : ∀ u : KS (fun q => (Value.slice sa l.length sc).ownBlock = some q) w, u.W.cell? ⟨O, 0, none⟩ = some (.slice sa l.length sc) := fun u => u.cell (by rw [cell_of_row w O 0 _ _ _ HG.out.row]; rfl) (fun e => HG.out.neO O e rfl)
  have p5 : ∀ u : KS (fun q => (Value.slice sa l.length sc).ownBlock = some q) w, u.W.cell? ⟨b, off + 5, none⟩ = some (.int .i64 N) := fun u => u.cell c5 (fun e => by have := ownG_lo HG.out.own b e; have := HBB.out; omega)
  have HL := Lib.hid hl
  have hne : Nonempty (KS (fun q => (Value.slice sa l.length sc).ownBlock = some q) w) := ⟨⟨w, Keeps.refl _ _⟩⟩
  clear hl h HB c5
  go_enter Tryd.func36, Tryd.ntmps36
  rcases hop with rfl | rfl
  all_goals
    go_upto_region 3 with fail
    refine Mix.wp_region_mix (fun W' => ∃ u : KS (fun q => (Value.slice sa l.length sc).ownBlock = some q) w, W' = u.W) [9] (by kernel_rfl) ?_
    have HV0 : Hid (Keeps No w w.drew) := Lib.hid ((Keeps.refl _ w).drew)
    generalize w.drew = v0 at HV0 ⊢
    have Hv0 : Hid (Keeps (fun q => (Value.slice sa l.length sc).ownBlock = some q) w v0) := Lib.hid (HV0.out.mono (fun _ _ e => e.elim))
    refine Mix.mix_seg 0 6 4 (by kernel_rfl) (by kernel_rfl) rfl rfl ⟨⟨v0, Hv0.out⟩, rfl⟩ ?_
    simp only [List.drop_succ_cons, List.drop_zero, List.take_succ_cons, List.take_zero]
    repeat (go_big_quiet_step (fail))
    refine wpQuiet_nil ?_
    clear p0 p5
    refine Mix.mix_one 6 3 (by kernel_rfl) rfl rfl ?_
    simp only [List.drop_succ_cons, List.drop_zero, List.take_succ_cons, List.take_zero]
    go_wp2_with fail
    have hkA : Keeps No v0 (v0.alloc (.cells #[.int .i64 N] 3)) := (Keeps.refl _ _).alloc _
    have hrA : (v0.alloc (.cells #[.int .i64 N] 3)).heap[v0.heap.size]? = some (.cells #[.int .i64 N] 3 (0, 0)) := heap_alloc_new _ _
    generalize v0.alloc (.cells #[.int .i64 N] 3) = v1 at hkA hrA ⊢
    have Hv1 : Hid (Keeps (fun q => (Value.slice sa l.length sc).ownBlock = some q) w v1) := Lib.hid (Hv0.out.trans hkA (fun _ _ e => e.elim))
    have HG1 := Lib.hid (HG.out.no (HV0.out.trans hkA (fun _ _ e => e)))
    have HRA := Lib.hid hrA
    clear hkA hrA
    refine ⟨.inr ⟨⟨v1, Hv1.out⟩, rfl⟩, ?_⟩
    refine Mix.mix_one 7 2 (by kernel_rfl) rfl rfl ?_
    simp only [List.drop_succ_cons, List.drop_zero, List.take_succ_cons, List.take_zero]
    go_wp2_with (at_builtin; refine wpList_appG _ rfl (.tmp 11) (.tmp 16) rfl w0.heap.size (.slice sa l.length sc) l.length l N v0.heap.size rfl HG1.out.own rfl HRA.out HL.out (by have := HG1.out.kp.size; exact this) ?_)
    intro g' cap' v2 ho hg hgo
    have hk12 : Keeps (fun q => (Value.slice sa l.length sc).ownBlock = some q) v1 v2 := (Keeps.refl _ _).grown hg (fun q e => .inl e)
    have Hv2 : Hid (Keeps (fun q => (Value.slice sa l.length sc).ownBlock = some q) w v2) := Lib.hid (Hv1.out.trans hk12 (fun _ _ e => e))
    have hr2 := (hk12.block _ HG1.out.lt (fun e => HG1.out.neO O e rfl)).trans HG1.out.row
    have y0 : v2.cell? ⟨O, 0, none⟩ = some (.slice sa l.length sc) := by rw [cell_of_row v2 O 0 _ _ _ hr2]; rfl
    have z0 : v2.frozen? ⟨O, 0, none⟩ = false := frozen_of_row v2 O 0 _ _ hr2
    have HGF := Lib.hid (HG1.out.pushL hk12 ho hgo)
    clear ho hg hgo hk12 hr2
    go_wp2_with fail
    refine ⟨.inr ⟨⟨v2, Hv2.out⟩, rfl⟩, ?_⟩
    refine Mix.mix_seg 8 1 1 (by kernel_rfl) (by kernel_rfl) rfl rfl ⟨⟨v2, Hv2.out⟩, rfl⟩ ?_
    simp only [List.drop_succ_cons, List.drop_zero, List.take_succ_cons, List.take_zero]
    repeat (go_big_quiet_step (fail))
    refine wpQuiet_nil ?_
    refine Mix.mix_one 9 0 (by kernel_rfl) rfl rfl ?_
    simp only [List.drop_succ_cons, List.drop_zero, List.take_succ_cons, List.take_zero]
    go_wp2_with fail
    refine ⟨.inl ⟨rfl, rfl⟩, ?_⟩
    refine Mix.mix_end (by kernel_rfl) ?_
    go_wp2_with fail
    go_returns
    exact ⟨rfl, _, _, _, _, HGF.out⟩
set_option maxRecDepth 100000 in
set_option maxHeartbeats 12800000 in
theorem gatherM_any {b off O : Nat} {sa ta : Option Addr} {sc tc : Nat} {l m : List Int} {OP N : Int} (w0 w : World) (HB : b < w0.heap.size) (h : GF w0 w O sa sc ta tc l m) (hop : OP = 9) (hl : m.length ≤ 999999) (c0 : w.cell? ⟨b, off, none⟩ = some (.int .i64 OP)) (c5 : w.cell? ⟨b, off + 5, none⟩ = some (.int .i64 N)) :
    Calls Tryd.prog 36 #[.pointer (some ⟨b, off, none⟩), .pointer (some ⟨O, 0, none⟩)] w (GFPost w0 O l (m ++ [N])) := by
  have HG := Lib.hid h
  have HBB := Lib.hid HB
  have p0 : ∀ u : KS (fun q => (Value.slice ta m.length tc).ownBlock = some q) w, u.W.cell? ⟨O, 1, none⟩ = some (.slice ta m.length tc) := fun u => u.cell (by rw [cell_of_row w O 1 _ _ _ HG.out.row]; rfl) (fun e => HG.out.neP O e rfl)
  have p5 : ∀ u : KS (fun q => (Value.slice ta m.length tc).ownBlock = some q) w, u.W.cell? ⟨b, off + 5, none⟩ = some (.int .i64 N) := fun u => u.cell c5 (fun e => by have := ownG_lo HG.out.owm b e; have := HBB.out; omega)
  have HL := Lib.hid hl
  have hne : Nonempty (KS (fun q => (Value.slice ta m.length tc).ownBlock = some q) w) := ⟨⟨w, Keeps.refl _ _⟩⟩
  clear hl h HB c5
  go_enter Tryd.func36, Tryd.ntmps36
  subst hop
  go_upto_region 5 with fail
  refine Mix.wp_region_mix (fun W' => ∃ u : KS (fun q => (Value.slice ta m.length tc).ownBlock = some q) w, W' = u.W) [9] (by kernel_rfl) ?_
  have HV0 : Hid (Keeps No w w.drew) := Lib.hid ((Keeps.refl _ w).drew)
  generalize w.drew = v0 at HV0 ⊢
  have Hv0 : Hid (Keeps (fun q => (Value.slice ta m.length tc).ownBlock = some q) w v0) := Lib.hid (HV0.out.mono (fun _ _ e => e.elim))
  refine Mix.mix_seg 0 6 4 (by kernel_rfl) (by kernel_rfl) rfl rfl ⟨⟨v0, Hv0.out⟩, rfl⟩ ?_
  simp only [List.drop_succ_cons, List.drop_zero, List.take_succ_cons, List.take_zero]
  repeat (go_big_quiet_step (fail))
  refine wpQuiet_nil ?_
  clear p0 p5
  refine Mix.mix_one 6 3 (by kernel_rfl) rfl rfl ?_
  simp only [List.drop_succ_cons, List.drop_zero, List.take_succ_cons, List.take_zero]
  go_wp2_with fail
  have hkA : Keeps No v0 (v0.alloc (.cells #[.int .i64 N] 3)) := (Keeps.refl _ _).alloc _
  have hrA : (v0.alloc (.cells #[.int .i64 N] 3)).heap[v0.heap.size]? = some (.cells #[.int .i64 N] 3 (0, 0)) := heap_alloc_new _ _
  generalize v0.alloc (.cells #[.int .i64 N] 3) = v1 at hkA hrA ⊢
  have Hv1 : Hid (Keeps (fun q => (Value.slice ta m.length tc).ownBlock = some q) w v1) := Lib.hid (Hv0.out.trans hkA (fun _ _ e => e.elim))
  have HG1 := Lib.hid (HG.out.no (HV0.out.trans hkA (fun _ _ e => e)))
  have HRA := Lib.hid hrA
  clear hkA hrA
  refine ⟨.inr ⟨⟨v1, Hv1.out⟩, rfl⟩, ?_⟩
  refine Mix.mix_one 7 2 (by kernel_rfl) rfl rfl ?_
  simp only [List.drop_succ_cons, List.drop_zero, List.take_succ_cons, List.take_zero]
  go_wp2_with (at_builtin; refine wpList_appG _ rfl (.tmp 22) (.tmp 27) rfl w0.heap.size (.slice ta m.length tc) m.length m N v0.heap.size rfl HG1.out.owm rfl HRA.out HL.out (by have := HG1.out.kp.size; exact this) ?_)
  intro g' cap' v2 ho hg hgo
  have hk12 : Keeps (fun q => (Value.slice ta m.length tc).ownBlock = some q) v1 v2 := (Keeps.refl _ _).grown hg (fun q e => .inl e)
  have Hv2 : Hid (Keeps (fun q => (Value.slice ta m.length tc).ownBlock = some q) w v2) := Lib.hid (Hv1.out.trans hk12 (fun _ _ e => e))
  have hr2 := (hk12.block _ HG1.out.lt (fun e => HG1.out.neP O e rfl)).trans HG1.out.row
  have y0 : v2.cell? ⟨O, 1, none⟩ = some (.slice ta m.length tc) := by rw [cell_of_row v2 O 1 _ _ _ hr2]; rfl
  have z0 : v2.frozen? ⟨O, 1, none⟩ = false := frozen_of_row v2 O 1 _ _ hr2
  have HGF := Lib.hid (HG1.out.pushM hk12 ho hgo)
  clear ho hg hgo hk12 hr2
  go_wp2_with fail
  refine ⟨.inr ⟨⟨v2, Hv2.out⟩, rfl⟩, ?_⟩
  refine Mix.mix_seg 8 1 1 (by kernel_rfl) (by kernel_rfl) rfl rfl ⟨⟨v2, Hv2.out⟩, rfl⟩ ?_
  simp only [List.drop_succ_cons, List.drop_zero, List.take_succ_cons, List.take_zero]
  repeat (go_big_quiet_step (fail))
  refine wpQuiet_nil ?_
  refine Mix.mix_one 9 0 (by kernel_rfl) rfl rfl ?_
  simp only [List.drop_succ_cons, List.drop_zero, List.take_succ_cons, List.take_zero]
  go_wp2_with fail
  refine ⟨.inl ⟨rfl, rfl⟩, ?_⟩
  refine Mix.mix_end (by kernel_rfl) ?_
  go_wp2_with fail
  go_returns
  exact ⟨rfl, _, _, _, _, HGF.out⟩
end Go.Proofs.YtkiimljdoebclaaDoor
/- All instructions of a function taken in: walk.Each, gather. -/
namespace Go.Proofs.YtkiimljdoebclaaDoor
open Go.RowKit
set_option linter.unusedVariables false
set_option linter.unusedSimpArgs false

theorem GFPost.mono {w0 : World} {O : Nat} {l m l' m' : List Int} (hl : l = l') (hm : m = m') {e : Ending} {w : World} (h : GFPost w0 O l m e w) : GFPost w0 O l' m' e w := by subst hl; subst hm; exact h
set_option maxRecDepth 100000 in
set_option maxHeartbeats 12800000 in
theorem gather1_any {x : Ix} {b off O : Nat} {sa ta : Option Addr} {sc tc : Nat} {l m : List Int} (w0 w : World) (hx : x.at_ w0 b off) (h : GF w0 w O sa sc ta tc l m) (h11 : x.op ≠ 11) (h20 : x.op ≠ 20) (hl : l.length ≤ 999999) (hm : m.length ≤ 999999) :
    Calls Tryd.prog 36 #[.pointer (some ⟨b, off, none⟩), .pointer (some ⟨O, 0, none⟩)] w (GFPost w0 O (l ++ namedX x) (m ++ funcsX x)) := by
  have HB : b < w0.heap.size := block_lt_of_cell (hx 0 _ rfl)
  have c0 : w.cell? ⟨b, off, none⟩ = some (.int .i64 x.op) := h.kp.cell0 (hx 0 _ rfl)
  have c5 : w.cell? ⟨b, off + 5, none⟩ = some (.int .i64 x.n) := h.kp.cell0 (hx 5 _ rfl)
  by_cases h1 : x.op = 10 ∨ x.op = 19
  · have e1 : namedX x = [x.n] := if_pos h1
    have e2 : funcsX x = [] := if_neg (by omega)
    rw [e1, e2, List.append_nil]
    exact gatherL_any w0 w HB h h1 hl c0 c5
  · have e1 : namedX x = [] := if_neg h1
    rw [e1, List.append_nil]
    by_cases h9 : x.op = 9
    · have e2 : funcsX x = [x.n] := if_pos h9
      rw [e2]
      exact gatherM_any w0 w HB h h9 hm c0 c5
    · have e2 : funcsX x = [] := if_neg h9
      rw [e2, List.append_nil]
      have HG := Lib.hid h
      obtain ⟨OP, hOP⟩ : ∃ o, x.op = o := ⟨_, rfl⟩
      rw [hOP] at c0 h1 h9 h11 h20
      have q1 : (OP == 10) = false := by rw [beq_eq_false_iff_ne]; omega
      have q2 : (OP == 19) = false := by rw [beq_eq_false_iff_ne]; omega
      have q3 : (OP == 9) = false := by rw [beq_eq_false_iff_ne]; omega
      have q4 : (OP == 11) = false := by rw [beq_eq_false_iff_ne]; omega
      have q5 : (OP == 20) = false := by rw [beq_eq_false_iff_ne]; omega
      clear h1 h9 h11 h20 hOP e1 e2 h hl hm HB c5 hx
      go_enter Tryd.func36, Tryd.ntmps36
      go_wp2_with fail
      go_returns
      exact ⟨rfl, _, _, _, _, HG.out⟩
set_option maxRecDepth 100000 in
set_option maxHeartbeats 12800000 in
/-- walk.Each with a function that is handed one instruction after the other. -/
theorem weach_any (f : Fx) (fb fo : Nat) (w0 w : World) (F : FuncId) (caps : Array Value) (J : List Ix → World → Prop) (hf : f.at_ w0 fb fo) (hok : FxOk w0 f) (hF : ∀ (as' : Array Value) (W1 : World), (callFunc F as').run Tryd.prog W1 = .ok (.enter F as') W1)
    (hJ0 : J [] w) (hJk : ∀ l W, J l W → Keeps No w0 W) (hc : ∀ l x b off W, J l W → x.at_ w0 b off → (∃ B ∈ f.bl, x ∈ B.l) → (∃ t, l ++ x :: t = f.bl.flatMap (fun B => B.l)) → Calls Tryd.prog F (#[.pointer (some ⟨b, off, none⟩)] ++ caps) W fun e W' => e = .returned (.tuple #[]) ∧ J (l ++ [x]) W') :
    Calls Tryd.prog 35 #[.pointer (some ⟨fb, fo, none⟩), .func (.func F) #[] caps] w fun e w' => e = .returned (.tuple #[]) ∧ J (f.bl.flatMap (fun B => B.l)) w' := by
  have c4 := hf 4 _ rfl
  have HOK := Lib.hid hok
  have HJ := Lib.hid hJ0
  have HJK := Lib.hid hJk
  have HC := Lib.hid hc
  have hcap := hok.cap
  unfold maxLen at hcap
  obtain ⟨bn, hbn⟩ : ∃ bn, f.bn = bn := ⟨_, rfl⟩
  obtain ⟨A, hA⟩ : ∃ A, f.ba = A := ⟨_, rfl⟩
  obtain ⟨bc, hbc⟩ : ∃ A, f.bc = A := ⟨_, rfl⟩
  rw [hbn, hA, hbc] at c4; rw [hbn, hbc] at hcap
  have HC4 := Lib.hid c4
  have HBN := Lib.hid hbn
  have HA := Lib.hid hA
  have cw := (hJk _ _ hJ0).cell0 c4
  clear hf hok hJ0 hJk hc hbn hA hbc c4
  go_enter Tryd.func35, Tryd.ntmps35
  go_wp2_with fail
  clear cw
  go_loopg [11] bn (fun g v wr => ∃ i : Nat, v = .int .i64 (i : Int) ∧ i ≤ bn ∧ g = bn - i ∧ Hid (J ((f.bl.take i).flatMap (fun B => B.l)) wr))
  case atStart => exact ⟨0, rfl, Nat.zero_le _, rfl, HJ⟩
  case round =>
    obtain ⟨i, rfl, hi, rfl, HR⟩ := hrel
    by_cases hlt : i < bn
    · have hlt' : (i : Int) < (bn : Int) := by omega
      have i0 : (0 : Int) ≤ (i : Int) := by omega
      obtain ⟨bb, bo, z, hz, ha, cb, hbz⟩ := Fx.get HOK.out (i := i) (by rw [HBN.out]; exact hlt)
      obtain rfl := HA.out.symm.trans ha
      have HCB := Lib.hid cb
      have d4 := (HJK.out _ _ HR.out).cell0 HC4.out
      have cb := (HJK.out _ _ HR.out).cell0 cb
      have hzc := hbz.cap
      unfold maxLen at hzc
      have HZ := Lib.hid hz
      have HBZ := Lib.hid hbz
      clear hz hbz
      obtain ⟨za, zn, zc, zl⟩ := z
      simp only [Bx.v] at cb hzc HCB
      go_wp2_with fail
      clear d4 cb
      go_loopg [23] zn (fun g v wr2 => ∃ k : Nat, v = .int .i64 (k : Int) ∧ k ≤ zn ∧ g = zn - k ∧ Hid (J ((f.bl.take i).flatMap (fun B => B.l) ++ zl.take k) wr2))
      case atStart => exact ⟨0, rfl, Nat.zero_le _, rfl, Lib.hid (by rw [List.take_zero, List.append_nil]; exact HR.out)⟩
      case round =>
        obtain ⟨k, rfl, hk, rfl, HR2⟩ := hrel
        by_cases hlk : k < zn
        · have hlk' : (k : Int) < (zn : Int) := by omega
          have k0 : (0 : Int) ≤ (k : Int) := by omega
          obtain ⟨zb, zo, y, hy, hya, hyt, hyo⟩ := Bx.get HBZ.out hlk
          simp only at hya hy
          subst hya
          have d4 := (HJK.out _ _ HR2.out).cell0 HC4.out
          have cb := (HJK.out _ _ HR2.out).cell0 HCB.out
          have HT : Hid (zl.take (k + 1) = zl.take k ++ [y]) := Lib.hid (by rw [List.take_add_one, hy]; rfl)
          have HCC := Lib.hid (HC.out _ y _ _ _ HR2.out hyt ⟨_, List.mem_of_getElem? HZ.out, List.mem_of_getElem? hy⟩ ⟨zl.drop (k + 1) ++ (f.bl.drop (i + 1)).flatMap (fun B => B.l), by
            have e1 : f.bl = f.bl.take i ++ (⟨some ⟨zb, zo, none⟩, zn, zc, zl⟩ : Bx) :: f.bl.drop (i + 1) := by
              rw [← (List.getElem?_eq_some_iff.1 HZ.out).2, ← List.drop_eq_getElem_cons, List.take_append_drop]
            have e2 : zl = zl.take k ++ y :: zl.drop (k + 1) := by
              rw [← (List.getElem?_eq_some_iff.1 hy).2, ← List.drop_eq_getElem_cons, List.take_append_drop]
            conv => rhs; rw [e1]
            rw [List.flatMap_append, List.flatMap_cons]
            conv => rhs; rw [e2]
            simp [List.append_assoc]⟩)
          clear hy hyt hyo
          go_wp2_with fail
          refine Calls.mono HCC.out ?_
          rintro e w2 ⟨rfl, hj2⟩
          have HJ2 := Lib.hid hj2
          clear hj2 HCC HR2 d4 cb
          go_wp2_with fail
          go_roundg (zn - (k + 1))
          case rel => exact ⟨k + 1, by go_num, by omega, rfl, Lib.hid (by rw [HT.out, ← List.append_assoc]; exact HJ2.out)⟩
          case measure => omega
        · have hlk' : ¬ (k : Int) < (zn : Int) := by omega
          have HF : Hid (J ((f.bl.take (i + 1)).flatMap (fun B => B.l)) wr) := Lib.hid (by
            have hlen := HBZ.out.len
            simp only at hlen
            have e := HR2.out
            rw [List.take_of_length_le (l := zl) (by omega)] at e
            rw [List.take_add_one, HZ.out, List.flatMap_append]
            simpa using e)
          go_wp2_with fail
          go_roundg (bn - (i + 1))
          case rel => exact ⟨i + 1, by go_num, by omega, rfl, HF⟩
          case measure => omega
    · have hlt' : ¬ (i : Int) < (bn : Int) := by omega
      have HF : Hid (J (f.bl.flatMap (fun B => B.l)) wr) := Lib.hid (by
        have hlen := HOK.out.len
        have := HBN.out
        have e := HR.out
        rw [List.take_of_length_le (by omega)] at e
        exact e)
      go_wp2_with fail
      go_returns
      exact ⟨rfl, HF.out⟩
end Go.Proofs.YtkiimljdoebclaaDoor
