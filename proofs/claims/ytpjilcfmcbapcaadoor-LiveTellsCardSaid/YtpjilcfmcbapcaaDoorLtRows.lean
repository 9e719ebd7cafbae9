/- The document's sets: rows of flags. l.List, r8.Def, r13.Back. -/
import Derived.Test.YtpjilcfmcbapcaaDoorLvRoom
import Derived.Test.YtpjilcfmcbapcaaDoorIrRefUses
import Derived.Test.YtpjilcfmcbapcaaDoorLvSets
import Derived.Test.YtpjilcfmcbapcaaDoorLvIn
import Derived.Test.YtpjilcfmcbapcaaDoorMix
namespace Go.Proofs.YtpjilcfmcbapcaaDoor
open Go.RowKit
set_option linter.unusedVariables false
set_option linter.unusedSimpArgs false

/-- A set as n flags. -/
def bl (n X : Nat) : List Value := (List.range n).map (fun r => .bool (X.testBit r))
theorem bl_len (n X : Nat) : (bl n X).length = n := by unfold bl; rw [List.length_map, List.length_range]
theorem bl_get {n X r : Nat} (h : r < n) : (bl n X)[r]? = some (.bool (X.testBit r)) := by unfold bl; rw [List.getElem?_map, List.getElem?_range h]; rfl
theorem bl_one (n X : Nat) : ∀ u ∈ bl n X, u.oneCell' = true := by
  intro u hu; unfold bl at hu; rw [List.mem_map] at hu; obtain ⟨r, _, rfl⟩ := hu; rfl
theorem bl_set {n X Y r : Nat} {v : Bool} (h : r < n) (hv : ∀ j, Y.testBit j = if j = r then v else X.testBit j) : (bl n X).set r (.bool v) = bl n Y := by
  refine List.ext_getElem? fun i => ?_
  rw [List.getElem?_set, bl_len]
  by_cases hi : i < n
  · rw [bl_get hi, bl_get hi, hv i]
    by_cases e : r = i
    · subst e; rw [if_pos rfl, if_pos hi, if_pos rfl]
    · rw [if_neg e, if_neg (fun e2 => e e2.symm)]
  · rw [if_neg (by omega), List.getElem?_eq_none (by rw [bl_len]; omega), List.getElem?_eq_none (by rw [bl_len]; omega)]
theorem bl_zero (n : Nat) : bl n 0 = List.replicate n (.bool false) := by
  refine List.ext_getElem? fun i => ?_
  by_cases hi : i < n
  · rw [bl_get hi, List.getElem?_replicate, if_pos hi, Nat.zero_testBit]
  · rw [List.getElem?_eq_none (by rw [bl_len]; omega), List.getElem?_eq_none (by rw [List.length_replicate]; omega)]
/-- Flags that can be read. -/
structure BlAt (w : World) (a : Option Addr) (n X : Nat) : Prop where
  at_ : ∀ r, r < n → ∃ b off, a = some ⟨b, off, none⟩ ∧ w.cell? ⟨b, off + r, none⟩ = some (.bool (X.testBit r))
theorem BlAt.no {w w' : World} {a : Option Addr} {n X : Nat} (h : BlAt w a n X) (hk : Keeps No w w') : BlAt w' a n X :=
  ⟨fun r hr => by obtain ⟨b, off, e, hc⟩ := h.at_ r hr; exact ⟨b, off, e, hk.cell0 hc⟩⟩
theorem own_bl {w : World} {B : Nat} {v : Value} {n X : Nat} (h : w.ownsRow B 4 1 v n (bl n X)) : ∃ a c, v = .slice a n c ∧ n ≤ c ∧ c ≤ maxLen ∧ BlAt w a n X := by
  rcases h.2 with ⟨h1, h2⟩ | ⟨g, cap, cur, h1, h2, h3, h4, h5, h6, h7⟩
  · exact ⟨none, 0, by rw [h1, h2], by omega, Nat.zero_le _, ⟨fun r hr => by omega⟩⟩
  · subst h1
    exact ⟨_, cap, rfl, h4, h5, ⟨fun r hr => ⟨g, 0, rfl, by rw [Nat.zero_add, World.ownsRow.cellAt h r (by omega)]; exact bl_get hr⟩⟩⟩
set_option maxHeartbeats 3200000 in
/-- The registers of a set of flags. -/
theorem flist_any (w : World) (a : Option Addr) (n c X : Nat) (h : BlAt w a n X) (hn : n ≤ 100000) :
    Calls Tryd.prog 21 #[.slice a n c] w fun e w' => ∃ v, e = .returned v ∧ Own w w' v (listB X n) := by
  have H := Lib.hid h
  clear h
  go_enter Tryd.func21, Tryd.ntmps21
  go_wp2_with fail
  go_loopg [3, 4] n (fun k v u wr => ∃ r : Nat, u = .int .i64 (r : Int) ∧ r ≤ n ∧ k = n - r ∧ Hid (wr.ownsRow w.heap.size 3 1 v (listB X r).length (irow (listB X r))) ∧ Hid (Keeps No w wr))
  case atStart => exact ⟨0, rfl, Nat.zero_le _, rfl, Lib.hid (World.ownsRow_nil _ _ _ _), Lib.hid (Keeps.refl _ _)⟩
  case round =>
    obtain ⟨r, rfl, hr, hg, HO, HK⟩ := hrel
    by_cases hlt : r < n
    · have hlt' : (r : Int) < (n : Int) := by omega
      have r0 : (0 : Int) ≤ (r : Int) := by omega
      obtain ⟨b, off, rfl, hc⟩ := H.out.at_ r hlt
      have hcw := HK.out.cell0 hc
      have hwl : (listB X r).length ≤ 100000 := Nat.le_trans (listB_len X r) (by omega)
      obtain ⟨wn, hwn⟩ : ∃ k, (listB X r).length = k := ⟨_, rfl⟩
      have HSN : Hid (listB X (r + 1) = if X.testBit r = true then listB X r ++ [(r : Int)] else listB X r) := Lib.hid (by
        unfold listB
        rw [List.range_succ, List.filter_append, List.map_append]
        cases h : X.testBit r with
        | true => rw [if_pos rfl, List.filter_cons_of_pos h]; rfl
        | false => rw [if_neg (by decide), List.filter_cons_of_neg (by rw [h]; decide)]; simp)
      rw [hwn] at HO hwl
      have HWN := Lib.hid hwn
      obtain ⟨TB, hTB⟩ : ∃ t, X.testBit r = t := ⟨_, rfl⟩
      rw [hTB] at hcw HSN
      clear hTB hwn hc
      cases TB with
      | true =>
        have HS2 : Hid (listB X (r + 1) = listB X r ++ [(r : Int)]) := Lib.hid (by have h := HSN.out; rw [if_pos rfl] at h; exact h)
        clear HSN
        go_wp2_with (at_builtin; refine wpList_appI _ rfl (.tmp 15) (.tmp 17) 22 rfl Tryd.underlying22 w.heap.size _ wn (listB X r) (r : Int) wr.heap.size rfl (HO.out.alloc _) rfl (heap_alloc_new _ _) (by omega) (by have := HK.out.size; simp; omega) ?_)
        intro g2 cap2 w2 ho2 hg2
        have HK2 : Hid (Keeps No w w2) := Lib.hid (((HK.out.alloc _)).grown hg2 (fun q e => .inr (own_lo HO.out q e)))
        have HO2 : Hid (w2.ownsRow w.heap.size 3 1 (.slice (some ⟨g2, 0, none⟩) (wn + 1) cap2) (listB X (r + 1)).length (irow (listB X (r + 1)))) := Lib.hid (by
          rw [HS2.out, List.length_append, HWN.out]; exact ho2)
        clear ho2 hg2
        go_wp2_with fail
        go_roundg (n - (r + 1))
        case rel => exact ⟨r + 1, by go_num, by omega, rfl, HO2, HK2⟩
        case measure => omega
      | false =>
        have HO2 : Hid (wr.ownsRow w.heap.size 3 1 u3 (listB X (r + 1)).length (irow (listB X (r + 1)))) := Lib.hid (by
          have h := HSN.out
          rw [if_neg (by decide)] at h
          rw [h, HWN.out]; exact HO.out)
        clear HSN
        go_wp2_with fail
        go_roundg (n - (r + 1))
        case rel => exact ⟨r + 1, by go_num, by omega, rfl, HO2, HK⟩
        case measure => omega
    · obtain rfl : r = n := by omega
      have hlt' : ¬ (r : Int) < (r : Int) := by omega
      go_wp2_with fail
      go_returns
      exact ⟨_, rfl, HO.out, HK.out⟩
end Go.Proofs.YtpjilcfmcbapcaaDoor
/- The document's Def, To and Back. -/
namespace Go.Proofs.YtpjilcfmcbapcaaDoor
open Go.RowKit
set_option linter.unusedVariables false
set_option linter.unusedSimpArgs false

theorem def_has (x : Ix) : defI x = if hasD x.op then x.d else -1 := by
  unfold defI writesI hasD
  by_cases h10 : x.op = 10
  · rw [h10]
    by_cases hd : x.d = -1
    · rw [hd]; rfl
    · have : (x.d != -1) = true := bne_iff_ne.2 hd
      rw [this]; rfl
  by_cases h11 : x.op = 11
  · rw [h11]
    by_cases hd : x.d = -1
    · rw [hd]; rfl
    · have : (x.d != -1) = true := bne_iff_ne.2 hd
      rw [this]; rfl
  · have e1 : (x.op == 10) = false := beq_eq_false_iff_ne.2 h10
    have e2 : (x.op == 11) = false := beq_eq_false_iff_ne.2 h11
    rw [e1, e2]
    cases h1 : x.op == 1 <;> cases h2 : x.op == 2 <;> cases h3 : x.op == 3 <;> cases h4 : x.op == 4 <;> cases h5 : x.op == 5 <;> cases h7 : x.op == 7 <;> cases h8 : x.op == 8 <;> cases h9 : x.op == 9 <;> cases h12 : x.op == 12 <;> rfl
set_option maxHeartbeats 3200000 in
theorem rdef_any (x : Ix) (w : World) : Calls Tryd.prog 51 #[ia x] w fun e w' => e = .returned (.int .i64 (defI x)) ∧ Keeps No w w' := by
  obtain ⟨HD, hHD⟩ : ∃ h, hasD x.op = h := ⟨_, rfl⟩
  obtain ⟨HA, hHA⟩ : ∃ h, hasA x.op = h := ⟨_, rfl⟩
  obtain ⟨HB, hHB⟩ : ∃ h, hasB x.op = h := ⟨_, rfl⟩
  obtain ⟨HN, hHN⟩ : ∃ h, hasN x.op = h := ⟨_, rfl⟩
  have HE : Hid (defI x = if HD then x.d else -1) := Lib.hid (by rw [← hHD]; exact def_has x)
  have HH := Lib.hid (fun W => has_any x.op W)
  rw [hHD, hHA, hHB, hHN] at HH
  clear hHD hHA hHB hHN
  cases HD with
  | true =>
    go_enter Tryd.func51, Tryd.ntmps51
    go_wp2_with fail
    refine (HH.out _).mono ?_
    rintro e w1 ⟨rfl, rfl⟩
    go_wp2_with fail
    go_returns
    exact ⟨ri rfl HE.out.symm, (Keeps.refl _ _).alloc _⟩
  | false =>
    go_enter Tryd.func51, Tryd.ntmps51
    go_wp2_with fail
    refine (HH.out _).mono ?_
    rintro e w1 ⟨rfl, rfl⟩
    go_wp2_with fail
    go_returns
    exact ⟨ri rfl HE.out.symm, (Keeps.refl _ _).alloc _⟩
theorem infoBl : (Tryd.prog.info? 4).map (fun i => (i.zero, i.size, i.bytes)) = some (some (.bool false), 1, 1) := by kernel_rfl
/-- Flags copied, at the operation. -/
theorem wpList_appF (w : World) {ops : Array Oper} {rest : List Oper} {o : Oper} {a : Act} {Q : Exit → Act → World → Prop} (hgd : o.guard = none) (s x : Operand) (t : TypeId)
    (ho : o.op = .call { callee := .builtin .append, args := #[s, x], argTypes := #[t, t] }) (ht : Tryd.prog.underlying t = some (.slice 4))
    (ad : Option Addr) (n c X : Nat) (hs : a.eval s = .slice none 0 0) (hx : a.eval x = .slice ad n c) (h0 : BlAt w ad n X) (hn : n ≤ 100000)
    (h : ∀ v w', w'.ownsRow w.heap.size 4 1 v n (bl n X) → Keeps No w w' → wpList Tryd.prog ops Q rest (a.put o.dst v) w') : wpList Tryd.prog ops Q (o :: rest) a w := by
  obtain ⟨i0, hi, hz0, hz1, hz2⟩ := info_parts infoBl
  by_cases hn0 : n = 0
  · subst hn0
    exact wpList_app0 w hgd s x t 4 ho ht infoBl w.heap.size (.slice none 0 0) 0 [] (World.ownsRow_nil _ _ _ _) hs ad c hx (h _ w (World.ownsRow_nil _ _ _ _) (Keeps.refl _ _))
  · obtain ⟨b, off, rfl, _⟩ := h0.at_ 0 (by omega)
    refine wpList_append_lies w hgd s x t ho w.heap.size 4 i0 (.bool false) 1 1 ht hi hz0 hz1 hz2 rfl (by decide) (.slice none 0 0) 0 [] hs (World.ownsRow_nil _ _ _ _) ⟨b, off, none⟩ n c (bl n X) hx (by rw [bl_len, Nat.mul_one]) (fun j u hu => ?_) (bl_one n X) (by omega) (by unfold maxLen; omega) (by omega) (Nat.le_refl _) _ rfl (fun g' cap w' k1 k2 k3 _ => ?_)
    · have hj : j < n := by have := (List.getElem?_eq_some_iff.1 hu).1; rw [bl_len] at this; exact this
      obtain ⟨b2, o2, e2, hc⟩ := h0.at_ j hj
      injection e2 with e2
      injection e2 with e3 e4 _
      subst e3 e4
      rw [bl_get hj] at hu
      injection hu with hu
      subst hu
      have e : (⟨b, off, none⟩ : Addr).add j = ⟨b, off + j, none⟩ := by unfold Addr.add; split <;> simp_all
      rw [e]; exact hc
    · rw [Nat.zero_add] at *
      exact h _ w' k1 ((Keeps.refl _ _).grown k2 (fun q e => by cases e))
/-- An instruction kept in a block of its own. -/
def XAt (w : World) (q : Nat) (x : Ix) : Prop := w.heap[q]? = some (.cells #[.int .i64 x.op, .int .i64 x.sub, .int .i64 x.d, .int .i64 x.a, .int .i64 x.b, .int .i64 x.n, .int .i64 x.wb, .bool x.ws, x.args.v, x.to.v, x.cases_.v] 38 (0, 0))
theorem XAt.cells {w : World} {q : Nat} {x : Ix} (h : XAt w q x) : w.cell? ⟨q, 0, none⟩ = some (.int .i64 x.op) ∧ w.cell? ⟨q, 1, none⟩ = some (.int .i64 x.sub) ∧ w.cell? ⟨q, 2, none⟩ = some (.int .i64 x.d) ∧ w.cell? ⟨q, 3, none⟩ = some (.int .i64 x.a) ∧ w.cell? ⟨q, 4, none⟩ = some (.int .i64 x.b) ∧ w.cell? ⟨q, 5, none⟩ = some (.int .i64 x.n) ∧ w.cell? ⟨q, 6, none⟩ = some (.int .i64 x.wb) ∧ w.cell? ⟨q, 7, none⟩ = some (.bool x.ws) ∧ w.cell? ⟨q, 8, none⟩ = some x.args.v ∧ w.cell? ⟨q, 9, none⟩ = some x.to.v ∧ w.cell? ⟨q, 10, none⟩ = some x.cases_.v := by
  unfold XAt at h
  refine ⟨?_, ?_, ?_, ?_, ?_, ?_, ?_, ?_, ?_, ?_, ?_⟩ <;> (rw [cell_of_row w q _ _ _ _ h]; rfl)
theorem XAt.keep {S : Nat → Prop} {w w' : World} {q : Nat} {x : Ix} (h : XAt w q x) (hk : Keeps S w w') (hS : ¬ S q) : XAt w' q x := (hk.block q (Array.getElem?_eq_some_iff.1 h).1 hS).trans h
theorem tb_drop_if (X d j : Nat) : (dropB X d).testBit j = if j = d then false else X.testBit j := by
  rw [tb_drop]
  by_cases e : j = d
  · subst e; rw [if_pos rfl, decide_eq_true rfl]; simp
  · rw [if_neg e, decide_eq_false (fun e2 => e e2.symm)]; simp
theorem tb_add_if (X d j : Nat) : (addB X d).testBit j = if j = d then true else X.testBit j := by
  rw [tb_add]
  by_cases e : j = d
  · subst e; rw [if_pos rfl, decide_eq_true rfl]; simp
  · rw [if_neg e, decide_eq_false (fun e2 => e e2.symm)]; simp
set_option maxRecDepth 100000 in
set_option maxHeartbeats 6400000 in
/-- What is live ahead of an instruction. -/
theorem rback_any (x : Ix) (w : World) (ad : Option Addr) (n c X : Nat) (hx : IxOk w x) (hargs : x.args.n ≤ 100000) (hfit : Fit n x) (h : BlAt w ad n X) (hn : n ≤ 100000) :
    Calls Tryd.prog 37 #[.slice ad n c, ia x] w fun e w' => ∃ v, e = .returned v ∧ w'.ownsRow w.heap.size 4 1 v n (bl n (backI X x)) ∧ Keeps No w w' := by
  have HX := Lib.hid hx
  have HF := Lib.hid hfit
  have HB := Lib.hid h
  have HBI : Hid (backI X x = usesX (dropD X (defI x)) x.uses) := Lib.hid rfl
  have HDF := Lib.hid (fun W => rdef_any x W)
  have HUS := Lib.hid (fun W (hk : Keeps No w W) => ruses_any x W (hx.no hk) hargs)
  have hul := uses_len x
  rw [hx.args.len] at hul
  obtain ⟨D, hD⟩ : ∃ d, defI x = d := ⟨_, rfl⟩
  rw [hD] at HDF HBI
  have HFD : Hid (0 ≤ D → D.toNat < n) := Lib.hid (by rw [← hD]; exact hfit.2)
  obtain ⟨us, hus⟩ : ∃ us, x.uses = us := ⟨_, rfl⟩
  rw [hus] at HBI HUS hul
  have HFU : Hid (∀ r ∈ us, 0 ≤ r ∧ r.toNat < n) := Lib.hid (by rw [← hus]; exact hfit.1)
  clear hx hfit h hD hus
  go_enter Tryd.func37, Tryd.ntmps37
  go_wp2_with (at_builtin; refine wpList_appF _ rfl (.const (.slice none 0 0)) (.tmp 9) 53 rfl Tryd.underlying53 ad n c X rfl rfl (HB.out.no ((Keeps.refl _ _).alloc _)) hn ?_)
  intro v1 w1 ho1 hk1
  have hxa : XAt w1 w.heap.size x := (hk1.block _ (by simp) (fun e => e)).trans (heap_alloc_new _ _)
  obtain ⟨B0, hB0⟩ : ∃ q, w.heap.size = q := ⟨_, rfl⟩
  rw [hB0] at ho1 hxa ⊢
  have HB0 := Lib.hid hB0
  obtain ⟨va, vc, rfl, hva⟩ := own_form ho1
  have HVA := Lib.hid hva
  have HO := Lib.hid ho1
  have HXA := Lib.hid hxa
  have HK1 : Hid (Keeps No w w1) := Lib.hid (((Keeps.refl No w).alloc _).trans hk1 (fun _ _ e => e))
  obtain ⟨c0, c1, c2, c3, c4, c5, c6, c7, c8, c9, c10⟩ := hxa.cells
  clear ho1 hk1 hxa hva hB0
  go_wp2_with fail
  refine (HDF.out w1).mono ?_
  rintro e w2 ⟨rfl, hk2⟩
  have HO2 : Hid (w2.ownsRow (B0 + 1) 4 1 (.slice va n vc) n (bl n X)) := Lib.hid (own_keep HO.out hk2 (fun _ e => e.elim))
  have HXA2 := Lib.hid (HXA.out.keep hk2 (fun e => e))
  have HK2 : Hid (Keeps No w w2) := Lib.hid (HK1.out.trans hk2 (fun _ _ e => e))
  clear c0 c1 c2 c3 c4 c5 c6 c7 c8 c9 c10 hk2 HO HXA HK1 HDF
  go_upto_if 14 with fail
  go_cut [17] (fun v wx => Hid (wx.ownsRow (B0 + 1) 4 1 (.slice va n vc) n (bl n (dropD X D))) ∧ Hid (XAt wx B0 x) ∧ Hid (Keeps No w wx))
  case first =>
    by_cases hd0 : 0 ≤ D
    · obtain ⟨dn, rfl⟩ : ∃ k : Nat, D = (k : Int) := ⟨D.toNat, by omega⟩
      have hdn : dn < n := by have := HFD.out hd0; omega
      obtain ⟨g, rfl⟩ := HVA.out (by omega)
      have d2 : (dn : Int) ≥ 0 := hd0
      have d3 : (dn : Int) < (n : Int) := by omega
      have fz := World.ownsRow.frozenAt HO2.out dn
      have cz := World.ownsRow.cellAt HO2.out dn (by omega)
      rw [bl_get hdn] at cz
      have hst := (World.ownsRow.stored HO2.out dn (.bool false)).1
      rw [bl_set (Y := dropB X dn) hdn (tb_drop_if X dn)] at hst
      have HST : Hid ((w2.setCell ⟨g, dn, none⟩ (.bool false)).ownsRow (B0 + 1) 4 1 (.slice (some ⟨g, 0, none⟩) n vc) n (bl n (dropD X dn))) := Lib.hid (by unfold dropD; rw [if_pos hd0]; exact hst)
      have hgB : B0 + 1 ≤ g := own_lo HO2.out g rfl
      have HXA3 : Hid (XAt (w2.setCell ⟨g, dn, none⟩ (.bool false)) B0 x) := Lib.hid ((Below.heap_setCell _ _ _ _ (by simp only; omega)).trans HXA2.out)
      have HK3 : Hid (Keeps No w (w2.setCell ⟨g, dn, none⟩ (.bool false))) := Lib.hid (HK2.out.setCell (.inr (by have := HB0.out; simp only; omega)) _)
      clear hst hd0 hgB
      go_wp2_with fail
      go_meet
      exact ⟨HST, HXA3, HK3⟩
    · have hd1 : ¬ D ≥ 0 := hd0
      have HST : Hid (w2.ownsRow (B0 + 1) 4 1 (.slice va n vc) n (bl n (dropD X D))) := Lib.hid (by unfold dropD; rw [if_neg hd0]; exact HO2.out)
      go_wp2_with fail
      go_meet
      exact ⟨HST, HXA2, HK2⟩
  case rest =>
    obtain ⟨HO3, HXA3, HK3⟩ := hcut
    clear HO2 HXA2 HK2
    obtain ⟨Z, hZ⟩ : ∃ Z, dropD X D = Z := ⟨_, rfl⟩
    rw [hZ] at HO3 HBI
    clear hZ
    obtain ⟨c0, c1, c2, c3, c4, c5, c6, c7, c8, c9, c10⟩ := HXA3.out.cells
    go_wp2_with fail
    refine (HUS.out wc HK3.out).mono ?_
    rintro e w4 ⟨u, rfl, hu⟩
    obtain ⟨ua, uc, rfl, hua⟩ := own_form hu.o
    have HUO := Lib.hid hu.o
    have HUA := Lib.hid hua
    have HO4 : Hid (w4.ownsRow (B0 + 1) 4 1 (.slice va n vc) n (bl n Z)) := Lib.hid (own_keep HO3.out hu.k (fun _ e => e.elim))
    have HK4 : Hid (Keeps No w w4) := Lib.hid (HK3.out.trans hu.k (fun _ _ e => e))
    have HLT : Hid (∀ q, (Value.slice va n vc).ownBlock = some q → q < wc.heap.size) := Lib.hid (fun q hq => own_ltb HO3.out hq)
    obtain ⟨un, hun⟩ : ∃ k, us.length = k := ⟨_, rfl⟩
    rw [hun] at hul HUO HUA ⊢
    have HUN := Lib.hid hun
    clear hu hua hun HO3 HXA3 HK3 c0 c1 c2 c3 c4 c5 c6 c7 c8 c9 c10
    go_wp2_with fail
    go_loopg [8] un (fun k v wr => ∃ j : Nat, v = .int .i64 (j : Int) ∧ j ≤ un ∧ k = un - j ∧ Hid (wr.ownsRow (B0 + 1) 4 1 (.slice va n vc) n (bl n (usesX Z (us.take j)))) ∧ Hid (wr.ownsRow wc.heap.size 3 1 (.slice ua un uc) un (irow us)) ∧ Hid (Keeps No w wr))
    case atStart => exact ⟨0, rfl, Nat.zero_le _, rfl, HO4, HUO, HK4⟩
    case round =>
      obtain ⟨j, rfl, hj, hg, HOR, HUR, HKR⟩ := hrel
      by_cases hlt : j < un
      · have hlt' : (j : Int) < (un : Int) := by omega
        have j0 : (0 : Int) ≤ (j : Int) := by omega
        obtain ⟨r, hr⟩ : ∃ r, us[j]? = some r := ⟨_, List.getElem?_eq_getElem (by have := HUN.out; omega)⟩
        have hrb := HFU.out r (List.mem_of_getElem? hr)
        obtain ⟨rn, rfl⟩ : ∃ k : Nat, r = (k : Int) := ⟨r.toNat, by omega⟩
        have hrn : rn < n := by omega
        obtain ⟨g, rfl⟩ := HVA.out (by omega)
        obtain ⟨gu, rfl⟩ := HUA.out (by omega)
        have cu : wr.cell? ⟨gu, j, none⟩ = some (.int .i64 (rn : Int)) := by
          rw [World.ownsRow.cellAt HUR.out j (by omega)]; exact irow_get hr
        have r3 : (rn : Int) < (n : Int) := by omega
        have r4 : (0 : Int) ≤ (rn : Int) := by omega
        have fz := World.ownsRow.frozenAt HOR.out rn
        have cz := World.ownsRow.cellAt HOR.out rn (by omega)
        rw [bl_get hrn] at cz
        have hst := (World.ownsRow.stored HOR.out rn (.bool true)).1
        rw [bl_set (Y := addB (usesX Z (us.take j)) rn) hrn (tb_add_if _ rn)] at hst
        have hne : g ≠ gu := fun e => by
          obtain ⟨cs1, h1⟩ := own_typ HOR.out (q := g) rfl
          obtain ⟨cs2, h2⟩ := own_typ HUR.out (q := gu) rfl
          exact type_ne h1 h2 (by decide) e
        have HST : Hid ((wr.setCell ⟨g, rn, none⟩ (.bool true)).ownsRow (B0 + 1) 4 1 (.slice (some ⟨g, 0, none⟩) n vc) n (bl n (usesX Z (us.take (j + 1))))) := Lib.hid (by
          obtain ⟨h1, h2⟩ := List.getElem?_eq_some_iff.1 hr
          rw [List.take_succ_eq_append_getElem h1, h2, usesX_app]; exact hst)
        have HUR2 : Hid ((wr.setCell ⟨g, rn, none⟩ (.bool true)).ownsRow wc.heap.size 3 1 (.slice (some ⟨gu, 0, none⟩) un uc) un (irow us)) := Lib.hid (own_kept HUR.out (fun q hq => Below.heap_setCell _ _ _ _ (fun e => by
          have e3 : some gu = some q := hq
          injection e3 with e3
          simp only at e
          omega)))
        have hgB : B0 + 1 ≤ g := own_lo HOR.out g rfl
        have HKR2 : Hid (Keeps No w (wr.setCell ⟨g, rn, none⟩ (.bool true))) := Lib.hid (HKR.out.setCell (.inr (by have := HB0.out; simp only; omega)) _)
        clear hst hr hrb hne hgB
        go_wp2_with fail
        go_roundg (un - (j + 1))
        case rel => exact ⟨j + 1, by go_num, by omega, rfl, HST, HUR2, HKR2⟩
        case measure => omega
      · obtain rfl : j = un := by omega
        have hlt' : ¬ (j : Int) < (j : Int) := by omega
        go_wp2_with fail
        go_returns
        refine ⟨_, rfl, ?_, HKR.out⟩
        rw [HBI.out]
        have h := HOR.out
        rw [List.take_of_length_le (by have := HUN.out; omega)] at h
        exact own_mono h (by have := HB0.out; omega)
end Go.Proofs.YtpjilcfmcbapcaaDoor
/- The document's rounds: what holds while they are gone through. -/
namespace Go.Proofs.YtpjilcfmcbapcaaDoor
open Go.RowKit
set_option linter.unusedVariables false
set_option linter.unusedSimpArgs false

/-- All that is live at the beginning of what a block leads to. -/
def orAll (I : Nat → Nat) (X : Nat) (ts : List Int) : Nat := ts.foldl (fun X t => X ||| I t.toNat) X
theorem orAll_snoc (I : Nat → Nat) (X : Nat) (ts : List Int) (t : Int) : orAll I X (ts ++ [t]) = orAll I X ts ||| I t.toNat := by unfold orAll; rw [List.foldl_append]; rfl
theorem orAll_tb (I : Nat → Nat) : ∀ (ts : List Int) (X j : Nat), (orAll I X ts).testBit j = true ↔ X.testBit j = true ∨ ∃ t ∈ ts, (I t.toNat).testBit j = true
  | [], X, j => by simp [orAll]
  | t :: ts, X, j => by
    show (orAll I (X ||| I t.toNat) ts).testBit j = true ↔ _
    rw [orAll_tb I ts, Nat.testBit_or, Bool.or_eq_true]
    constructor
    · rintro ((h | h) | ⟨u, hu, h⟩)
      · exact .inl h
      · exact .inr ⟨t, List.mem_cons_self .., h⟩
      · exact .inr ⟨u, List.mem_cons_of_mem _ hu, h⟩
    · rintro (h | ⟨u, hu, h⟩)
      · exact .inl (.inl h)
      · rcases List.mem_cons.1 hu with rfl | hu
        · exact .inl (.inr h)
        · exact .inr ⟨u, hu, h⟩
theorem orAll_lt {I : Nat → Nat} {R : Nat} : ∀ (ts : List Int) (X : Nat), X < 2 ^ R → (∀ t ∈ ts, I t.toNat < 2 ^ R) → orAll I X ts < 2 ^ R
  | [], X, h, _ => h
  | t :: ts, X, h, g => orAll_lt ts _ (Nat.or_lt_two_pow h (g t (List.mem_cons_self ..))) (fun u hu => g u (List.mem_cons_of_mem _ hu))
theorem orAll_mono {I J : Nat → Nat} (h : ∀ c, Sub (I c) (J c)) (ts : List Int) : Sub (orAll I 0 ts) (orAll J 0 ts) := fun j hj => by
  rw [orAll_tb] at *
  rcases hj with h1 | ⟨t, ht, h1⟩
  · exact .inl h1
  · exact .inr ⟨t, ht, h _ j h1⟩
section
variable {bl : List (List Ix)} {R : Nat} {O I : Nat → Nat} {b : Nat} {mv : Bool} {M0 : Nat}
def cost2 (R n : Nat) (I : Nat → Nat) : Nat := mu (fun c => 2 ^ R - I c) n
/-- Within a round: blocks from b on have been gone over. -/
structure RdInv (bl : List (List Ix)) (R : Nat) (O I : Nat → Nat) (b : Nat) (mv : Bool) (M0 : Nat) : Prop where
  up : ∀ c, c < bl.length → Sub (I c) (backs (blk bl c) (orAll I 0 (lastTo (blk bl c))))
  sound : ∀ G, Post bl G → ∀ c, c < bl.length → Sub (I c) (backs (blk bl c) (G c))
  bd : ∀ c, I c < 2 ^ R ∧ O c < 2 ^ R
  nm : mv = false → ∀ c, b ≤ c → c < bl.length → O c = orAll I 0 (lastTo (blk bl c)) ∧ I c = backs (blk bl c) (O c)
  ms : cost2 R bl.length I ≤ M0 ∧ (mv = true → cost2 R bl.length I < M0)
theorem RdInv.start (h : RdInv bl R O I b mv M0) : RdInv bl R O I bl.length false (cost2 R bl.length I) :=
  ⟨h.up, h.sound, h.bd, fun _ c h1 h2 => absurd h2 (by omega), Nat.le_refl _, fun e => by cases e⟩
theorem RdInv.init (bl : List (List Ix)) (R : Nat) : RdInv bl R (fun _ => 0) (fun _ => 0) bl.length false (cost2 R bl.length (fun _ => 0)) :=
  ⟨fun _ _ => zero_sub _, fun _ _ _ _ => zero_sub _, fun _ => ⟨Nat.pow_pos (by decide), Nat.pow_pos (by decide)⟩, fun _ c h1 h2 => absurd h2 (by omega), Nat.le_refl _, fun e => by cases e⟩
/-- One block more. -/
theorem RdInv.step (h : RdInv bl R O I (b + 1) mv M0) (hb : b < bl.length) (hto : ∀ t ∈ lastTo (blk bl b), 0 ≤ t ∧ t.toNat < bl.length) (U T : Nat) (hU : U = orAll I 0 (lastTo (blk bl b))) (hT : T = backs (blk bl b) U) (hUl : U < 2 ^ R) (hTl : T < 2 ^ R) :
    RdInv bl R (upd O b U) (upd I b T) b (mv || decide (T ≠ I b)) M0 := by
  have hsub : Sub (I b) T := by rw [hT, hU]; exact h.up b hb
  have hgr : ∀ c, Sub (I c) (upd I b T c) := fun c => by
    by_cases e : c = b
    · subst e; rw [upd_same]; exact hsub
    · rw [upd_ne _ _ e]; exact Sub.refl _
  have hmu := mu_upd (fun c => 2 ^ R - I c) b (2 ^ R - T) bl.length hb
  have ec : (fun c => 2 ^ R - upd I b T c) = upd (fun c => 2 ^ R - I c) b (2 ^ R - T) := by
    funext c
    by_cases e : c = b
    · subst e; rw [upd_same, upd_same]
    · rw [upd_ne _ _ e, upd_ne _ _ e]
  refine ⟨fun c hc => ?_, fun G hG c hc => ?_, fun c => ?_, fun hm c h1 h2 => ?_, ?_⟩
  · by_cases e : c = b
    · subst e
      rw [upd_same]
      have hmn := backs_mono (blk bl c) (orAll_mono hgr (lastTo (blk bl c)))
      rw [hT, hU] at *
      exact hmn
    · rw [upd_ne _ _ e]
      exact (h.up c hc).trans (backs_mono _ (orAll_mono hgr _))
  · by_cases e : c = b
    · subst e
      rw [upd_same, hT, hU]
      refine backs_mono _ (fun j hj => ?_)
      rw [orAll_tb] at hj
      rcases hj with hj | ⟨t, ht, hj⟩
      · simp at hj
      · have h3 := hto t ht
        refine hG c t.toNat hc h3.2 (by rw [Int.toNat_of_nonneg h3.1]; exact ht) j (h.sound G hG _ h3.2 j hj)
    · rw [upd_ne _ _ e]; exact h.sound G hG c hc
  · by_cases e : c = b
    · subst e; rw [upd_same, upd_same]; exact ⟨hTl, hUl⟩
    · rw [upd_ne _ _ e, upd_ne _ _ e]; exact h.bd c
  · rw [Bool.or_eq_false_iff, decide_eq_false_iff_not, Decidable.not_not] at hm
    have hsame : upd I b T = I := by
      funext d
      by_cases e : d = b
      · subst e; rw [upd_same]; exact hm.2
      · rw [upd_ne _ _ e]
    rw [hsame]
    by_cases e : c = b
    · subst e
      rw [upd_same]
      exact ⟨hU, by rw [← hT]; exact hm.2.symm⟩
    · rw [upd_ne _ _ e]
      exact h.nm hm.1 c (by omega) h2
  · have hle : I b ≤ T := hsub.le
    unfold cost2 at *
    rw [ec]
    have h1 := h.ms
    unfold cost2 at h1
    refine ⟨by omega, fun hm => ?_⟩
    by_cases e : T = I b
    · rw [decide_eq_false (fun h => h e), Bool.or_false] at hm
      have := h1.2 hm
      omega
    · omega
theorem RdInv.fin (h : RdInv bl R O I 0 false M0) (hto : ∀ b, b < bl.length → ∀ t ∈ lastTo (blk bl b), 0 ≤ t ∧ t.toNat < bl.length) : Least bl O ∧ ∀ c, c < bl.length → I c = backs (blk bl c) (O c) := by
  refine ⟨⟨fun p c hp hc he => ?_, fun G hG p hp => ?_⟩, fun c hc => (h.nm rfl c (by omega) hc).2⟩
  · rw [← (h.nm rfl c (by omega) hc).2, (h.nm rfl p (by omega) hp).1]
    intro j hj
    rw [orAll_tb]
    exact .inr ⟨c, he, by simpa using hj⟩
  · rw [(h.nm rfl p (by omega) hp).1]
    intro j hj
    rw [orAll_tb] at hj
    rcases hj with hj | ⟨t, ht, hj⟩
    · simp at hj
    · have h3 := hto p hp t ht
      exact hG p t.toNat hp h3.2 (by rw [Int.toNat_of_nonneg h3.1]; exact ht) j (h.sound G hG _ h3.2 j hj)
end
end Go.Proofs.YtpjilcfmcbapcaaDoor
/- The document's rows of sets. -/
namespace Go.Proofs.YtpjilcfmcbapcaaDoor
open Go.RowKit
set_option linter.unusedVariables false
set_option linter.unusedSimpArgs false

theorem infoSBo : (Tryd.prog.info? 53).map (fun i => (i.zero, i.size, i.bytes)) = some (some (.slice none 0 0), 1, 24) := by kernel_rfl
/-- Sets of R flags, in a row. -/
structure FR (B : Nat) (w : World) (v : Value) (n R : Nat) (vs : Nat → Value) (X : Nat → Nat) : Prop where
  own : w.ownsRow B 53 1 v n (vrow n vs)
  el : ∀ c, c < n → w.ownsRow B 4 1 (vs c) R (bl R (X c))
section
variable {B n R : Nat} {w w' : World} {v : Value} {vs : Nat → Value} {X : Nat → Nat}
theorem FR.keep {S : Nat → Prop} (h : FR B w v n R vs X) (hk : Keeps S w w') (h1 : ∀ q, S q → v.ownBlock ≠ some q) (h2 : ∀ c, c < n → ∀ q, S q → (vs c).ownBlock ≠ some q) : FR B w' v n R vs X :=
  ⟨own_keep h.own hk h1, fun c hc => own_keep (h.el c hc) hk (h2 c hc)⟩
theorem FR.no (h : FR B w v n R vs X) (hk : Keeps No w w') : FR B w' v n R vs X := h.keep hk (fun _ e => e.elim) (fun _ _ _ e => e.elim)
theorem FR.mono {B' : Nat} (h : FR B w v n R vs X) (hB : B' ≤ B) : FR B' w v n R vs X := ⟨own_mono h.own hB, fun c hc => own_mono (h.el c hc) hB⟩
theorem FR.nil (B : Nat) (w : World) (R : Nat) (vs : Nat → Value) (X : Nat → Nat) : FR B w (.slice none 0 0) 0 R vs X := ⟨World.ownsRow_nil _ _ _ _, fun c hc => absurd hc (by omega)⟩
theorem vrow_snoc (n : Nat) (vs : Nat → Value) (u : Value) : vrow n vs ++ [u] = vrow (n + 1) (upd vs n u) := by
  unfold vrow
  rw [List.range_succ, List.map_append]
  congr 1
  · refine List.map_congr_left (fun b hb => ?_)
    rw [List.mem_range] at hb
    rw [upd_ne _ _ (by omega)]
  · show [u] = [upd vs n u n]
    rw [upd_same]
/-- One set more: its flags lie in w', and the row too. -/
theorem FR.snoc {S : Nat → Prop} {v' u : Value} {Y : Nat} (h : FR B w v n R vs X) (hk : Keeps S w w') (hS : ∀ c, c < n → ∀ q, S q → (vs c).ownBlock ≠ some q) (ho : w'.ownsRow B 53 1 v' (n + 1) (vrow n vs ++ [u])) (hu : w'.ownsRow B 4 1 u R (bl R Y)) : FR B w' v' (n + 1) R (upd vs n u) (upd X n Y) := by
  refine ⟨by rw [← vrow_snoc]; exact ho, fun c hc => ?_⟩
  by_cases e : c = n
  · subst e; rw [upd_same, upd_same]; exact hu
  · rw [upd_ne _ _ e, upd_ne _ _ e]; exact own_keep (h.el c (by omega)) hk (hS c (by omega))
/-- One set is put in the place of another one. -/
theorem FR.set {a : Addr} {c : Nat} {u : Value} {Y : Nat} {g cap : Nat} (h : FR B w (.slice (some ⟨g, 0, none⟩) n cap) n R vs X) (hc : c < n) (hu : w.ownsRow B 4 1 u R (bl R Y)) : FR B (w.setCell ⟨g, c, none⟩ u) (.slice (some ⟨g, 0, none⟩) n cap) n R (upd vs c u) (upd X c Y) := by
  have hk : Keeps (fun q => q = g) w (w.setCell ⟨g, c, none⟩ u) := (Keeps.refl (fun q => q = g) w).setCell (.inl rfl) _
  have hn : ∀ {x : Value} {m : Nat} {xs : List Value}, w.ownsRow B 4 1 x m xs → ∀ q, q = g → x.ownBlock ≠ some q := fun {x m xs} hx q e hq => by
    subst e
    obtain ⟨c1, h1⟩ := own_typ hx hq
    obtain ⟨c2, h2⟩ := own_typ h.own (q := q) rfl
    exact type_ne h1 h2 (by decide) rfl
  refine ⟨?_, fun d hd => ?_⟩
  · have := (World.ownsRow.stored h.own c u).1
    rw [vrow_set _ _ hc] at this
    exact this
  · by_cases e : d = c
    · subst e; rw [upd_same, upd_same]; exact own_keep hu hk (hn hu)
    · rw [upd_ne _ _ e, upd_ne _ _ e]; exact own_keep (h.el d hd) hk (hn (h.el d hd))
end
theorem wpList_appS (w : World) {ops : Array Oper} {rest : List Oper} {o : Oper} {a : Act} {Q : Exit → Act → World → Prop} (hgd : o.guard = none) (s x : Operand) (t : TypeId)
    (ho : o.op = .call { callee := .builtin .append, args := #[s, x], argTypes := #[t, t] }) (ht : Tryd.prog.underlying t = some (.slice 53))
    (B : Nat) (v : Value) (n : Nat) (xs : List Value) (u : Value) (q : Nat) (hs : a.eval s = v) (hown : w.ownsRow B 53 1 v n xs) (hx : a.eval x = .slice (some ⟨q, 0, none⟩) 1 1) (hq : w.heap[q]? = some (.cells #[u] 53 (0, 0))) (hu : u.oneCell' = true)
    (hn : n ≤ 999999) (hB : B ≤ w.heap.size)
    (h : ∀ g' cap w', w'.ownsRow B 53 1 (.slice (some ⟨g', 0, none⟩) (n + 1) cap) (n + 1) (xs ++ [u]) → w.grownBy w' v.ownBlock → (v.ownBlock = some g' ∨ w.heap.size ≤ g') → wpList Tryd.prog ops Q rest (a.put o.dst (.slice (some ⟨g', 0, none⟩) (n + 1) cap)) w') : wpList Tryd.prog ops Q (o :: rest) a w := by
  obtain ⟨i0, hi, hz0, hz1, hz2⟩ := info_parts infoSBo
  refine wpList_append_lies w hgd s x t ho B 53 i0 (.slice none 0 0) 1 24 ht hi hz0 hz1 hz2 rfl (by decide) v n xs hs hown ⟨q, 0, none⟩ 1 1 [u] hx rfl (fun j y hy => ?_) (fun y hy => by simp at hy; subst hy; exact hu) (by decide) (by unfold maxLen; omega) (by omega) hB _ rfl (fun g' cap w' k1 k2 k3 _ => h g' cap w' k1 k2 (k3.imp id (fun e => by omega)))
  cases j with
  | zero => obtain rfl : u = y := by simpa using hy
            have e : (⟨q, 0, none⟩ : Addr).add 0 = ⟨q, 0, none⟩ := by unfold Addr.add; split <;> simp_all
            rw [e]; unfold World.cell?; simp only; rw [hq]; rfl
  | succ j => cases hy
/-- Both rows of the document's Live. -/
structure TwoR (w0 w : World) (n R : Nat) (vi vo : Value) (vsI vsO : Nat → Value) (I O : Nat → Nat) : Prop where
  k : Keeps No w0 w
  i : FR w0.heap.size w vi n R vsI I
  o : FR w0.heap.size w vo n R vsO O
  ne : ∀ q, vi.ownBlock = some q → vo.ownBlock ≠ some q
section
variable {w0 w w' : World} {n R : Nat} {vi vo : Value} {vsI vsO : Nat → Value} {I O : Nat → Nat}
theorem TwoR.no (h : TwoR w0 w n R vi vo vsI vsO I O) (hk : Keeps No w w') : TwoR w0 w' n R vi vo vsI vsO I O := ⟨h.k.trans hk (fun _ _ e => e), h.i.no hk, h.o.no hk, h.ne⟩
theorem fr_setN {B : Nat} {v : Value} {vs : Nat → Value} {X : Nat → Nat} {g : Nat} {cs : Array Value} (h : FR B w v n R vs X) (hk : Keeps (fun q => q = g) w w') (hg : w.heap[g]? = some (.cells cs 53 (0, 0))) (hv : v.ownBlock ≠ some g) : FR B w' v n R vs X :=
  h.keep hk (fun q e => by subst e; exact hv) (fun c hc q e hq => by
    subst e
    obtain ⟨c1, h1⟩ := own_typ (h.el c hc) hq
    exact type_ne h1 hg (by decide) rfl)
theorem TwoR.setO {g cap c : Nat} {u : Value} {Y : Nat} (h : TwoR w0 w n R vi (.slice (some ⟨g, 0, none⟩) n cap) vsI vsO I O) (hc : c < n) (hu : w.ownsRow w0.heap.size 4 1 u R (bl R Y)) : TwoR w0 (w.setCell ⟨g, c, none⟩ u) n R vi (.slice (some ⟨g, 0, none⟩) n cap) vsI (upd vsO c u) I (upd O c Y) := by
  obtain ⟨cs, hg⟩ := own_typ h.o.own (q := g) rfl
  have hl := own_lo h.o.own g rfl
  exact ⟨h.k.setCell (.inr hl) _, fr_setN h.i ((Keeps.refl (fun q => q = g) w).setCell (.inl rfl) _) hg (fun e => h.ne g e rfl), FR.set (a := ⟨g, 0, none⟩) h.o hc hu, h.ne⟩
theorem TwoR.setI {g cap c : Nat} {u : Value} {Y : Nat} (h : TwoR w0 w n R (.slice (some ⟨g, 0, none⟩) n cap) vo vsI vsO I O) (hc : c < n) (hu : w.ownsRow w0.heap.size 4 1 u R (bl R Y)) : TwoR w0 (w.setCell ⟨g, c, none⟩ u) n R (.slice (some ⟨g, 0, none⟩) n cap) vo (upd vsI c u) vsO (upd I c Y) O := by
  obtain ⟨cs, hg⟩ := own_typ h.i.own (q := g) rfl
  have hl := own_lo h.i.own g rfl
  exact ⟨h.k.setCell (.inr hl) _, FR.set (a := ⟨g, 0, none⟩) h.i hc hu, fr_setN h.o ((Keeps.refl (fun q => q = g) w).setCell (.inl rfl) _) hg (h.ne g rfl), h.ne⟩
end
/-! Below r the second set's flags are there already. -/
theorem tb_partly (X Y r j : Nat) : (X ||| Y % 2 ^ r).testBit j = (X.testBit j || (decide (j < r) && Y.testBit j)) := by
  rw [Nat.testBit_or, Nat.testBit_mod_two_pow]
theorem bl_partly {n X Y r : Nat} (h : r < n) : (bl n (X ||| Y % 2 ^ r)).set r (.bool (X.testBit r || Y.testBit r)) = bl n (X ||| Y % 2 ^ (r + 1)) := by
  refine bl_set h (fun j => ?_)
  rw [tb_partly, tb_partly]
  by_cases e : j = r
  · subst e; rw [if_pos rfl]; simp
  · rw [if_neg e]
    have : decide (j < r + 1) = decide (j < r) := decide_eq_decide.2 (by omega)
    rw [this]
theorem partly_at (X Y r : Nat) : (X ||| Y % 2 ^ r).testBit r = X.testBit r := by rw [tb_partly]; simp
theorem mod_ne (T U r : Nat) : decide (T % 2 ^ (r + 1) ≠ U % 2 ^ (r + 1)) = (decide (T % 2 ^ r ≠ U % 2 ^ r) || (T.testBit r != U.testBit r)) := by
  have key : (T % 2 ^ (r + 1) = U % 2 ^ (r + 1)) ↔ (T % 2 ^ r = U % 2 ^ r ∧ T.testBit r = U.testBit r) := by
    constructor
    · intro h
      have hb : ∀ j, j < r + 1 → T.testBit j = U.testBit j := fun j hj => by
        have := congrArg (fun x => x.testBit j) h
        simp only [Nat.testBit_mod_two_pow, decide_eq_true hj, Bool.true_and] at this
        exact this
      refine ⟨Nat.eq_of_testBit_eq (fun j => ?_), hb r (by omega)⟩
      rw [Nat.testBit_mod_two_pow, Nat.testBit_mod_two_pow]
      by_cases hj : j < r
      · rw [hb j (by omega)]
      · rw [decide_eq_false hj]; rfl
    · rintro ⟨h1, h2⟩
      refine Nat.eq_of_testBit_eq (fun j => ?_)
      rw [Nat.testBit_mod_two_pow, Nat.testBit_mod_two_pow]
      by_cases hj : j < r + 1
      · by_cases e : j = r
        · subst e; rw [h2]
        · have := congrArg (fun x => x.testBit j) h1
          simp only [Nat.testBit_mod_two_pow, decide_eq_true (show j < r by omega), Bool.true_and] at this
          rw [this]
      · rw [decide_eq_false hj]; rfl
  cases hb : (T.testBit r != U.testBit r) with
  | true =>
    have hne : ¬ T.testBit r = U.testBit r := by simpa using hb
    rw [Bool.or_true]
    exact decide_eq_true (fun h => hne (key.1 h).2)
  | false =>
    have he : T.testBit r = U.testBit r := by simpa using hb
    rw [Bool.or_false]
    exact decide_eq_decide.2 ⟨fun h h2 => h (key.2 ⟨h2, he⟩), fun h h2 => h (key.1 h2).1⟩
set_option maxHeartbeats 1600000 in
/-- Where an instruction may lead. -/
theorem rto_any (x : Ix) (w : World) : Calls Tryd.prog 35 #[ia x] w fun e w' => Keeps No w w' ∧ ∃ s : Sl, e = .returned s.v ∧ s.l = toI x ∧ ∀ W, IxOk W x → SlAt W s := by
  have HT : Hid (toI x = if x.op = 14 ∨ x.op = 15 ∨ x.op = 16 then x.to.l else []) := Lib.hid rfl
  have HY : Hid ((x.op = 14 ∨ x.op = 15 ∨ x.op = 16) → ∀ w', Keeps No w w' → Keeps No w w' ∧ ∃ s : Sl, Ending.returned x.to.v = .returned s.v ∧ s.l = toI x ∧ ∀ W, IxOk W x → SlAt W s) := Lib.hid (fun h w' hk => ⟨hk, x.to, rfl, by rw [HT.out, if_pos h], fun W hx => hx.to⟩)
  have HN : Hid (¬ (x.op = 14 ∨ x.op = 15 ∨ x.op = 16) → ∀ w', Keeps No w w' → Keeps No w w' ∧ ∃ s : Sl, Ending.returned (.slice none 0 0) = .returned s.v ∧ s.l = toI x ∧ ∀ W, IxOk W x → SlAt W s) := Lib.hid (fun h w' hk => ⟨hk, ⟨none, 0, 0, []⟩, rfl, by rw [HT.out, if_neg h], fun W _ => ⟨rfl, ⟨Nat.le_refl _, Nat.zero_le _⟩, (fun z hz => by cases hz), fun h => absurd h (by decide)⟩⟩)
  clear HT
  by_cases h14 : x.op = 14
  · have HH := Lib.hid (HY.out (.inl h14))
    go_enter Tryd.func35, Tryd.ntmps35
    go_wp2_with fail
    go_returns
    exact HH.out _ ((Keeps.refl _ _).alloc _)
  by_cases h15 : x.op = 15
  · have HH := Lib.hid (HY.out (.inr (.inl h15)))
    go_enter Tryd.func35, Tryd.ntmps35
    go_wp2_with fail
    go_returns
    exact HH.out _ ((Keeps.refl _ _).alloc _)
  by_cases h16 : x.op = 16
  · have HH := Lib.hid (HY.out (.inr (.inr h16)))
    go_enter Tryd.func35, Tryd.ntmps35
    go_wp2_with fail
    go_returns
    exact HH.out _ ((Keeps.refl _ _).alloc _)
  · have HH := Lib.hid (HN.out (fun h => by rcases h with h | h | h <;> contradiction))
    have e1 : (x.op == 14) = false := beq_eq_false_iff_ne.2 h14
    have e2 : (x.op == 15) = false := beq_eq_false_iff_ne.2 h15
    have e3 : (x.op == 16) = false := beq_eq_false_iff_ne.2 h16
    clear h14 h15 h16
    go_enter Tryd.func35, Tryd.ntmps35
    go_wp2_with fail
    go_returns
    exact HH.out _ ((Keeps.refl _ _).alloc _)
theorem rto_sl (x : Ix) (w : World) : Calls Tryd.prog 35 #[ia x] w fun e w' => Keeps No w w' ∧ ∃ (sa : Option Addr) (sn sc : Nat), e = .returned (.slice sa sn sc) ∧ ∀ W, IxOk W x → SlAt W ⟨sa, sn, sc, toI x⟩ :=
  (rto_any x w).mono (fun e w' h => by
    obtain ⟨hk, ⟨a, n, c, l⟩, he, hl, hs⟩ := h
    simp only at hl
    subst hl
    exact ⟨hk, a, n, c, he, hs⟩)
end Go.Proofs.YtpjilcfmcbapcaaDoor
/- The document's Live: its first loop, two sets made and appended in any order. -/
namespace Go.Proofs.YtpjilcfmcbapcaaDoor
open Go.RowKit
set_option linter.unusedVariables false
set_option linter.unusedSimpArgs false

/-- How far one of the two is: a: 0 nothing, 1 the set is made, 2 it is laid in a row of one, 3 it is appended. -/
structure MSt (w1 wr W : World) (R i : Nat) (v : Value) (vs : Nat → Value) (a p q g c : Nat) : Prop where
  m : 1 ≤ a → W.ownsRow wr.heap.size 4 1 (.slice (some ⟨p, 0, none⟩) R R) R (bl R 0)
  l : a = 2 → W.heap[q]? = some (.cells #[.slice (some ⟨p, 0, none⟩) R R] 53 (0, 0)) ∧ wr.heap.size ≤ q
  o : a ≤ 2 → W.ownsRow w1.heap.size 53 1 v i (vrow i vs)
  d : a = 3 → W.ownsRow w1.heap.size 53 1 (.slice (some ⟨g, 0, none⟩) (i + 1) c) (i + 1) (vrow i vs ++ [.slice (some ⟨p, 0, none⟩) R R]) ∧ (v.ownBlock = some g ∨ wr.heap.size ≤ g)
section
variable {w1 wr W W' : World} {R i : Nat} {v : Value} {vs : Nat → Value} {a p q g c : Nat}
theorem MSt.keep {S : Nat → Prop} (h : MSt w1 wr W R i v vs a p q g c) (hk : Keeps S W W') (hS : ∀ k, S k → k < wr.heap.size ∧ v.ownBlock ≠ some k) : MSt w1 wr W' R i v vs a p q g c := by
  refine ⟨fun e => own_keep (h.m e) hk (fun k hk2 e2 => ?_), fun e => ⟨(hk.block q (Array.getElem?_eq_some_iff.1 (h.l e).1).1 (fun e2 => ?_)).trans (h.l e).1, (h.l e).2⟩, fun e => own_keep (h.o e) hk (fun k hk2 => (hS k hk2).2), fun e => ⟨own_keep (h.d e).1 hk (fun k hk2 e2 => ?_), (h.d e).2⟩⟩
  · have := own_lo (h.m e) k e2
    have := (hS k hk2).1
    omega
  · have := (h.l e).2
    have := (hS q e2).1
    omega
  · injection e2 with e2
    subst e2
    rcases (h.d e).2 with h3 | h3
    · exact (hS g hk2).2 h3
    · have := (hS g hk2).1; omega
theorem MSt.no (h : MSt w1 wr W R i v vs a p q g c) (hk : Keeps No W W') : MSt w1 wr W' R i v vs a p q g c := h.keep hk (fun _ e => e.elim)
theorem MSt.start (h : W.ownsRow w1.heap.size 53 1 v i (vrow i vs)) : MSt w1 wr W R i v vs 0 0 0 0 0 := ⟨fun e => absurd e (by omega), fun e => (nomatch e), fun _ => h, fun e => (nomatch e)⟩
theorem MSt.make (h : MSt w1 wr W R i v vs 0 p q g c) (hk : Keeps No W W') (hs : wr.heap.size ≤ W.heap.size) {p' : Nat} (hp : W.heap.size = p') (ho : W'.ownsRow p' 4 1 (.slice (some ⟨p', 0, none⟩) R R) R (bl R 0)) : MSt w1 wr W' R i v vs 1 p' q g c :=
  ⟨fun _ => own_mono ho (by omega), fun e => (nomatch e), fun _ => own_keep (h.o (by omega)) hk (fun _ e => e.elim), fun e => (nomatch e)⟩
theorem MSt.build (h : MSt w1 wr W R i v vs 1 p q g c) (hs : wr.heap.size ≤ W.heap.size) {q' : Nat} (hq : W.heap.size = q') (hW : W.alloc (.cells #[.slice (some ⟨p, 0, none⟩) R R] 53) = W') : MSt w1 wr W' R i v vs 2 p q' g c := by
  have hk : Keeps No W W' := by rw [← hW]; exact (Keeps.refl _ _).alloc _
  exact ⟨fun _ => own_keep (h.m (Nat.le_refl _)) hk (fun _ e => e.elim), fun _ => ⟨by rw [← hW, ← hq]; exact heap_alloc_new _ _, by omega⟩, fun _ => own_keep (h.o (by omega)) hk (fun _ e => e.elim), fun e => (nomatch e)⟩
theorem MSt.app (h : MSt w1 wr W R i v vs 2 p q g c) (hv : ∀ k, v.ownBlock = some k → k < wr.heap.size) (hk : Keeps (fun k => v.ownBlock = some k) W W') (hs : wr.heap.size ≤ W.heap.size) {g' c' : Nat} (ho : W'.ownsRow w1.heap.size 53 1 (.slice (some ⟨g', 0, none⟩) (i + 1) c') (i + 1) (vrow i vs ++ [.slice (some ⟨p, 0, none⟩) R R])) (hg : v.ownBlock = some g' ∨ W.heap.size ≤ g') : MSt w1 wr W' R i v vs 3 p q g' c' :=
  ⟨fun _ => own_keep (h.m (by omega)) hk (fun k e e2 => by have := own_lo (h.m (by omega)) k e2; have := hv k e; omega), fun e => (nomatch e), fun e => absurd e (by omega), fun _ => ⟨ho, hg.imp id (fun e => Nat.le_trans hs e)⟩⟩
end
theorem upd_zero (i : Nat) : upd (fun _ : Nat => (0 : Nat)) i 0 = fun _ => 0 := by
  funext b
  by_cases e : b = i
  · subst e; rw [upd_same]
  · rw [upd_ne _ _ e]
def Two (v4 v5 : Value) (q : Nat) : Prop := v4.ownBlock = some q ∨ v5.ownBlock = some q
/-- Both are there. -/
theorem made_fin {w1 wr W W' : World} {R i : Nat} {v4 v5 : Value} {vsI vsO : Nat → Value} {pa qa ga ca pb qb gx cx gb cb : Nat} (h : TwoR w1 wr i R v4 v5 vsI vsO (fun _ => 0) (fun _ => 0)) (hk : Keeps (Two v4 v5) wr W) (hA : MSt w1 wr W R i v4 vsI 3 pa qa ga ca) (hB : MSt w1 wr W R i v5 vsO 2 pb qb gx cx)
    (hg : W.grownBy W' v5.ownBlock) (ho : W'.ownsRow w1.heap.size 53 1 (.slice (some ⟨gb, 0, none⟩) (i + 1) cb) (i + 1) (vrow i vsO ++ [.slice (some ⟨pb, 0, none⟩) R R])) (hw : v5.ownBlock = some gb ∨ W.heap.size ≤ gb) :
    TwoR w1 W' (i + 1) R (.slice (some ⟨ga, 0, none⟩) (i + 1) ca) (.slice (some ⟨gb, 0, none⟩) (i + 1) cb) (upd vsI i (.slice (some ⟨pa, 0, none⟩) R R)) (upd vsO i (.slice (some ⟨pb, 0, none⟩) R R)) (fun _ => 0) (fun _ => 0) := by
  have hk1 : Keeps (fun k => v5.ownBlock = some k) W W' := (Keeps.refl _ _).grown hg (fun k e => .inl e)
  have hk2 : Keeps (Two v4 v5) wr W' := hk.trans hk1 (fun k _ e => .inr e)
  have l4 : ∀ k, v4.ownBlock = some k → k < wr.heap.size ∧ w1.heap.size ≤ k := fun k e => ⟨own_ltb h.i.own e, own_lo h.i.own k e⟩
  have l5 : ∀ k, v5.ownBlock = some k → k < wr.heap.size ∧ w1.heap.size ≤ k := fun k e => ⟨own_ltb h.o.own e, own_lo h.o.own k e⟩
  have ty : ∀ k, Two v4 v5 k → ∃ cs, wr.heap[k]? = some (.cells cs 53 (0, 0)) := fun k e => by
    rcases e with e | e
    · exact own_typ h.i.own e
    · exact own_typ h.o.own e
  have nb : ∀ {B n : Nat} {x : Value} {xs : List Value}, wr.ownsRow B 4 1 x n xs → ∀ k, Two v4 v5 k → x.ownBlock ≠ some k := fun {B n x xs} hx k e e2 => by
    obtain ⟨c1, h1⟩ := ty k e
    obtain ⟨c2, h2⟩ := own_typ hx e2
    exact type_ne h1 h2 (by decide) rfl
  have hA' := hA.keep hk1 (fun k e => ⟨(l5 k e).1, fun e2 => h.ne k e2 e⟩)
  have hBm : W'.ownsRow wr.heap.size 4 1 (.slice (some ⟨pb, 0, none⟩) R R) R (bl R 0) := own_keep (hB.m (by omega)) hk1 (fun k e e2 => by have := own_lo (hB.m (by omega)) k e2; have := (l5 k e).1; omega)
  have hs := h.k.size
  refine ⟨h.k.trans hk2 (fun k hk3 e => by rcases e with e | e; have := (l4 k e).2; omega; have := (l5 k e).2; omega), ?_, ?_, fun k e1 e2 => ?_⟩
  · have h1 := h.i.snoc (v' := .slice (some ⟨ga, 0, none⟩) (i + 1) ca) (u := .slice (some ⟨pa, 0, none⟩) R R) (Y := 0) hk2 (fun c hc => nb (h.i.el c hc)) (hA'.d rfl).1 (own_mono (hA'.m (by omega)) hs)
    rw [upd_zero] at h1
    exact h1
  · have h1 := h.o.snoc (v' := .slice (some ⟨gb, 0, none⟩) (i + 1) cb) (u := .slice (some ⟨pb, 0, none⟩) R R) (Y := 0) hk2 (fun c hc => nb (h.o.el c hc)) ho (own_mono hBm hs)
    rw [upd_zero] at h1
    exact h1
  · injection e1 with e1
    injection e2 with e2
    subst e1
    subst e2
    have hl : gb < W.heap.size := own_ltb (hA.d rfl).1 (q := gb) rfl
    rcases hw with hw | hw
    · rcases (hA.d rfl).2 with h3 | h3
      · exact h.ne gb h3 hw
      · have := (l5 gb hw).1
        have h3' : wr.heap.size ≤ gb := h3
        omega
    · have hw' : W.heap.size ≤ gb := hw
      omega
end Go.Proofs.YtpjilcfmcbapcaaDoor
