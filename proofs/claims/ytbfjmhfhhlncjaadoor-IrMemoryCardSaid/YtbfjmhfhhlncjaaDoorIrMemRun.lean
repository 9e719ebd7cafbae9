/- fill, of the law's program: one global, one slot. -/
import Derived.Test.YtbfjmhfhhlncjaaDoorIrMemBytes
namespace Go.Proofs.YtbfjmhfhhlncjaaDoor
open Go.RowKit
set_option linter.unusedVariables false
set_option linter.unusedSimpArgs false

/-- A number is appended, at the operation. -/
theorem wpList_appN (w : World) {ops : Array Oper} {rest : List Oper} {o : Oper} {a : Act} {Q : Exit → Act → World → Prop} (hgd : o.guard = none) (s x : Operand) (t : TypeId)
    (ho : o.op = .call { callee := .builtin .append, args := #[s, x], argTypes := #[t, t] }) (ht : Tryd.prog.underlying t = some (.slice 2))
    (B : Nat) (v : Value) (n : Nat) (l1 : List Int) (z : Int) (q : Nat) (hs : a.eval s = v) (hown : w.ownsRow B 2 1 v n (irow l1)) (hx : a.eval x = .slice (some ⟨q, 0, none⟩) 1 1) (hq : w.heap[q]? = some (.cells #[.int .i64 z] 2 (0, 0)))
    (hn : n ≤ 999999) (hB : B ≤ w.heap.size)
    (h : ∀ g' cap w', w'.ownsRow B 2 1 (.slice (some ⟨g', 0, none⟩) (n + 1) cap) (n + 1) (irow (l1 ++ [z])) → w.grownBy w' v.ownBlock → (v.ownBlock = some g' ∨ g' = w.heap.size) → wpList Tryd.prog ops Q rest (a.put o.dst (.slice (some ⟨g', 0, none⟩) (n + 1) cap)) w') : wpList Tryd.prog ops Q (o :: rest) a w := by
  obtain ⟨i0, hi, hz0, hz1, hz2⟩ := info_parts infoI64
  have hc : ∀ (j : Nat) u, (irow [z])[j]? = some u → w.cell? ((⟨q, 0, none⟩ : Addr).add j) = some u := fun j u hu => by
    cases j with
    | zero => obtain rfl : Value.int .i64 z = u := by simpa [irow] using hu
              have e : (⟨q, 0, none⟩ : Addr).add 0 = ⟨q, 0, none⟩ := by unfold Addr.add; split <;> simp_all
              rw [e]; unfold World.cell?; simp only; rw [hq]; rfl
    | succ j => cases hu
  have hmx : n + 1 ≤ maxLen := by unfold maxLen; omega
  have hby : (n + 1) * 8 ≤ 140737488355328 := by omega
  exact wpList_append_lies w hgd s x t ho B 2 i0 (.int .i64 0) 1 8 ht hi hz0 hz1 hz2 rfl (by decide) v n (irow l1) hs hown ⟨q, 0, none⟩ 1 1 (irow [z]) hx rfl hc (irow_one _) (by decide) hmx hby hB _ rfl
    (fun g' cap w' k1 k2 k3 _ => h g' cap w' (by rw [irow_app]; exact k1) k2 k3)
set_option maxRecDepth 100000 in
theorem up24 (w : World) : Calls Tryd.prog 60 #[.int .i64 24] w fun e w' => e = .returned (.int .i64 32) ∧ w = w' := by
  go_enter Tryd.func60, Tryd.ntmps60
  go_wp2_with fail
  go_returns
  exact ⟨rfl, rfl⟩
/-- What fill reads of the program. -/
structure FillAt (W : World) (pb gb go_ gc fb fo fc slb slo slc : Nat) (nm : ByteArray) (pa : Option Addr) (pc : Nat) : Prop where
  p0 : W.cell? ⟨pb, 0, none⟩ = some (.slice (some ⟨gb, go_, none⟩) 1 gc)
  p1 : W.cell? ⟨pb, 1, none⟩ = some (.slice (some ⟨fb, fo, none⟩) 1 fc)
  f3 : W.cell? ⟨fb, fo + 3, none⟩ = some (.slice (some ⟨slb, slo, none⟩) 1 slc)
  s0 : W.cell? ⟨slb, slo, none⟩ = some (.int .i64 24)
  g0 : W.cell? ⟨gb, go_, none⟩ = some (.string nm)
  g1 : W.cell? ⟨gb, go_ + 1, none⟩ = some (.int .i64 24)
  g2 : W.cell? ⟨gb, go_ + 2, none⟩ = some (.slice pa 0 pc)
abbrev zero32 : List Int := List.replicate 32 0
set_option maxRecDepth 100000 in
set_option maxHeartbeats 12800000 in
theorem fillM (w4 w : World) (hk0 : Keeps No w4 w) (M pb gb go_ gc fb fo fc slb slo slc : Nat) (nm : ByteArray) (pa : Option Addr) (pc : Nat) (vin : Value) (fuel : Int) (hcap : (1 ≤ gc ∧ gc ≤ 9223372036854775807) ∧ (1 ≤ fc ∧ fc ≤ 9223372036854775807) ∧ (1 ≤ slc ∧ slc ≤ 9223372036854775807) ∧ pc ≤ 9223372036854775807) (HC : ∀ W, Keeps No w4 W → FillAt W pb gb go_ gc fb fo fc slb slo slc nm pa pc) (hM : w.heap[M]? = some (.cells (rawc pb vin fuel nil nil nil) 84 (0, 0))) (hM4 : w4.heap.size ≤ M) :
    Calls Tryd.prog 41 #[.pointer (some ⟨M, 0, none⟩)] w fun e w' => e = .returned (.tuple #[]) ∧ ∃ sb sc lb lc ib ic db dc, w'.heap[M]? = some (.cells (rawc pb vin fuel (.slice (some ⟨sb, 0, none⟩) 1 sc) (.slice (some ⟨lb, 0, none⟩) 1 lc) (.slice (some ⟨db, 0, none⟩) 32 dc)) 84 (0, 0)) ∧ Keeps No w4 w' ∧
      w'.ownsRow w.heap.size 2 1 (.slice (some ⟨sb, 0, none⟩) 1 sc) 1 (irow [0]) ∧ w'.ownsRow w.heap.size 25 1 (.slice (some ⟨lb, 0, none⟩) 1 lc) 1 [.slice (some ⟨ib, 0, none⟩) 1 ic] ∧ w'.ownsRow w.heap.size 2 1 (.slice (some ⟨ib, 0, none⟩) 1 ic) 1 (irow [32]) ∧ w'.ownsRow w.heap.size 5 1 (.slice (some ⟨db, 0, none⟩) 32 dc) 32 (brow zero32) := by
  have HM := Lib.hid hM
  have HML : Hid (M < w.heap.size) := Lib.hid (Array.getElem?_eq_some_iff.1 hM).1
  have HCC := Lib.hid HC
  have HK0 := Lib.hid hk0
  have HM4 := Lib.hid hM4
  have HI : ∀ (W : World) st sl dt, W.heap[M]? = some (.cells (rawc pb vin fuel st sl dt) 84 (0, 0)) → (W.cell? ⟨M, 0, none⟩ = some (.pointer (some ⟨pb, 0, none⟩)) ∧ W.cell? ⟨M, 3, none⟩ = some st ∧ W.cell? ⟨M, 4, none⟩ = some sl ∧ W.cell? ⟨M, 5, none⟩ = some dt ∧ W.frozen? ⟨M, 3, none⟩ = false ∧ W.frozen? ⟨M, 4, none⟩ = false ∧ W.frozen? ⟨M, 5, none⟩ = false) := fun W st sl dt hr =>
    ⟨by rw [cell_of_row W M 0 _ _ _ hr]; rfl, by rw [cell_of_row W M 3 _ _ _ hr]; rfl, by rw [cell_of_row W M 4 _ _ _ hr]; rfl, by rw [cell_of_row W M 5 _ _ _ hr]; rfl, frozen_of_row W M 3 _ _ hr, frozen_of_row W M 4 _ _ hr, frozen_of_row W M 5 _ _ hr⟩
  have HI := Lib.hid HI
  clear hM HC hM4
  obtain ⟨m0, m3, m4, m5, z3, z4, z5⟩ := HI.out w _ _ _ HM.out
  obtain ⟨p0, p1, f3, s0, g0, g1, g2⟩ := HCC.out w hk0
  clear hk0
  go_enter Tryd.func41, Tryd.ntmps41
  go_wp2_with fail
  clear m0 m3 m4 m5 z3 z4 z5 p0 p1 f3 s0 g0 g1 g2
  go_loopg [24] 1 (fun gg v wr => (v = .int .i64 0 ∧ gg = 1 ∧ wr = w) ∨ (v = .int .i64 1 ∧ gg = 0 ∧ ∃ lb lc ib ic, Hid (wr.heap[M]? = some (.cells (rawc pb vin fuel nil (.slice (some ⟨lb, 0, none⟩) 1 lc) nil) 84 (0, 0))) ∧ Hid (Keeps No w4 wr) ∧ Hid (w.heap.size ≤ wr.heap.size) ∧ Hid (wr.ownsRow w.heap.size 25 1 (.slice (some ⟨lb, 0, none⟩) 1 lc) 1 [.slice (some ⟨ib, 0, none⟩) 1 ic]) ∧ Hid (wr.ownsRow w.heap.size 2 1 (.slice (some ⟨ib, 0, none⟩) 1 ic) 1 (irow [32]))))
  case atStart => exact .inl ⟨rfl, rfl, rfl⟩
  case round =>
    rcases hrel with ⟨rfl, rfl, rfl⟩ | ⟨rfl, rfl, lb, lc, ib, ic, HR, HK, HS, HOL, HOI⟩
    · obtain ⟨wo, hwo⟩ : ∃ W, W = wr := ⟨_, rfl⟩
      subst hwo
      obtain ⟨m0, m3, m4, m5, z3, z4, z5⟩ := HI.out wo _ _ _ HM.out
      obtain ⟨p0, p1, f3, s0, g0, g1, g2⟩ := HCC.out wo HK0.out
      go_wp2_with fail
      go_loopg [3, 4, 39] 1 (fun gg l lo v wx => (l = nil ∧ lo = .int .i64 0 ∧ v = .int .i64 0 ∧ gg = 1 ∧ wx = wo) ∨ (v = .int .i64 1 ∧ gg = 0 ∧ ∃ ib ic, l = .slice (some ⟨ib, 0, none⟩) 1 ic ∧ Hid (wx.heap[M]? = some (.cells (rawc pb vin fuel nil nil nil) 84 (0, 0))) ∧ Hid (Keeps No wo wx) ∧ Hid (wx.ownsRow wo.heap.size 2 1 (.slice (some ⟨ib, 0, none⟩) 1 ic) 1 (irow [32]))))
      case atStart => exact .inl ⟨rfl, rfl, rfl, rfl, rfl⟩
      case round =>
        rcases hrel with ⟨rfl, rfl, rfl, rfl, hw⟩ | ⟨rfl, rfl, ib, ic, rfl, HR, HK, HOI⟩
        · subst hw
          go_wp2_with fail
          refine (up24 _).mono ?_
          rintro e w1 ⟨rfl, rfl⟩
          go_wp2_with (at_builtin; refine wpList_appN _ rfl (.tmp 47) (.tmp 49) 25 rfl Tryd.underlying25 wr.heap.size nil 0 [] 32 wr.heap.size rfl (World.ownsRow_nil _ _ _ _) rfl (heap_alloc_new _ _) (by omega) (by simp) ?_)
          intro ib ic w3 ho3 hg3 _
          have HR3 : Hid (w3.heap[M]? = some (.cells (rawc pb vin fuel nil nil nil) 84 (0, 0))) := Lib.hid ((hg3.block M (by simp; have := HML.out; omega) (fun e => by cases e)).trans ((Below.heap_alloc wr _ M HML.out).trans HM.out))
          have HK3 : Hid (Keeps No wr w3) := Lib.hid (((Keeps.refl No wr).alloc _).grown hg3 (fun q e => by cases e))
          have HO3 : Hid (w3.ownsRow wr.heap.size 2 1 (.slice (some ⟨ib, 0, none⟩) 1 ic) 1 (irow [32])) := Lib.hid ho3
          clear ho3 hg3 m0 m3 m4 m5 z3 z4 z5 p0 p1 f3 s0 g0 g1 g2
          go_wp2_with fail
          go_roundg 0
          case rel => exact .inr ⟨rfl, rfl, ib, ic, rfl, HR3, HK3, HO3⟩
          case measure => omega
        · clear m0 m3 m4 m5 z3 z4 z5 p0 p1 f3 s0 g0 g1 g2
          obtain ⟨m0, m3, m4, m5, z3, z4, z5⟩ := HI.out wr _ _ _ HR.out
          obtain ⟨i1, hi1, hz0, hz1, hz2⟩ := info_parts infoS
          have HIS := Lib.hid (And.intro hi1 (And.intro hz0 (And.intro hz1 hz2)))
          have HNW : Hid (∀ (j : Nat) u, [Value.slice (some ⟨ib, 0, none⟩) 1 ic][j]? = some u → (wr.alloc (.cells #[.slice (some ⟨ib, 0, none⟩) 1 ic] 25)).cell? ((⟨wr.heap.size, 0, none⟩ : Addr).add j) = some u) := Lib.hid (fun j u hu => by
            cases j with
            | zero =>
              obtain rfl : Value.slice (some ⟨ib, 0, none⟩) 1 ic = u := by simpa using hu
              have e : (⟨wr.heap.size, 0, none⟩ : Addr).add 0 = ⟨wr.heap.size, 0, none⟩ := by unfold Addr.add; split <;> simp_all
              rw [e, World.cell?_alloc_at _ _ _ _ rfl]; rfl
            | succ j => cases hu)
          clear hi1 hz0 hz1 hz2
          have hBs : wo.heap.size ≤ wr.heap.size := HK.out.size
          go_wp2_with (at_builtin; refine wpList_append_lies _ rfl (.tmp 56) (.tmp 58) 82 rfl wo.heap.size 25 i1 _ 1 24 Tryd.underlying82 HIS.out.1 HIS.out.2.1 HIS.out.2.2.1 HIS.out.2.2.2 rfl (by decide) nil 0 [] rfl (World.ownsRow_nil _ _ _ _) ⟨wr.heap.size, 0, none⟩ 1 1 [.slice (some ⟨ib, 0, none⟩) 1 ic] rfl rfl HNW.out (by intro u hu; simp at hu; subst hu; rfl) (by decide) (by unfold maxLen; omega) (by omega) (by simp; omega) _ rfl ?_)
          intro lb lc w1 ho hgr hl _
          have HMx : Hid (M < wr.heap.size) := Lib.hid (Nat.lt_of_lt_of_le HML.out hBs)
          have HR1 : Hid (w1.heap[M]? = some (.cells (rawc pb vin fuel nil nil nil) 84 (0, 0))) := Lib.hid ((hgr.block M (by simp; have := HMx.out; omega) (fun e => by cases e)).trans ((Below.heap_alloc wr _ M HMx.out).trans HR.out))
          have HK1 : Hid (Keeps No wo w1) := Lib.hid ((HK.out.alloc _).grown hgr (fun q e => by cases e))
          have HOL : Hid (w1.ownsRow wo.heap.size 25 1 (.slice (some ⟨lb, 0, none⟩) 1 lc) 1 [.slice (some ⟨ib, 0, none⟩) 1 ic]) := Lib.hid ho
          have HOJ : Hid (w1.ownsRow wo.heap.size 2 1 (.slice (some ⟨ib, 0, none⟩) 1 ic) 1 (irow [32])) := Lib.hid (by
            have h1 := HOI.out.alloc (.cells #[.slice (some ⟨ib, 0, none⟩) 1 ic] 25)
            exact own_kept h1 (fun q hq => hgr.block q (h1.lt q hq).2 (fun e => by cases e)))
          clear ho hgr hl m0 m3 m4 m5 z3 z4 z5
          obtain ⟨m0, m3, m4, m5, z3, z4, z5⟩ := HI.out w1 _ _ _ HR1.out
          go_wp2_with fail
          have HR2 : Hid ((w1.setCell ⟨M, 4, none⟩ (.slice (some ⟨lb, 0, none⟩) 1 lc)).heap[M]? = some (.cells (rawc pb vin fuel nil (.slice (some ⟨lb, 0, none⟩) 1 lc) nil) 84 (0, 0))) := Lib.hid (heap_setCell_same w1 M 4 _ _ _ HR1.out)
          have hgM : lb ≠ M := fun e => by have := (HOL.out.lt lb rfl).1; have := HML.out; omega
          have hiM : ib ≠ M := fun e => by have := (HOJ.out.lt ib rfl).1; have := HML.out; omega
          have HO2 : Hid ((w1.setCell ⟨M, 4, none⟩ (.slice (some ⟨lb, 0, none⟩) 1 lc)).ownsRow wo.heap.size 25 1 (.slice (some ⟨lb, 0, none⟩) 1 lc) 1 [.slice (some ⟨ib, 0, none⟩) 1 ic]) := Lib.hid (own_far HOL.out (by simp [Value.ownBlock]; exact hgM) _)
          have HO3 : Hid ((w1.setCell ⟨M, 4, none⟩ (.slice (some ⟨lb, 0, none⟩) 1 lc)).ownsRow wo.heap.size 2 1 (.slice (some ⟨ib, 0, none⟩) 1 ic) 1 (irow [32])) := Lib.hid (own_far HOJ.out (by simp [Value.ownBlock]; exact hiM) _)
          have HK2 : Hid (Keeps No w4 (w1.setCell ⟨M, 4, none⟩ (.slice (some ⟨lb, 0, none⟩) 1 lc))) := Lib.hid ((HK0.out.trans HK1.out (fun _ _ e => e)).setCell (.inr HM4.out) _)
          have HS2 : Hid (wo.heap.size ≤ (w1.setCell ⟨M, 4, none⟩ (.slice (some ⟨lb, 0, none⟩) 1 lc)).heap.size) := Lib.hid (by have := HK1.out.size; simp [World.setCell]; exact this)
          clear m0 m3 m4 m5 z3 z4 z5 hgM hiM
          go_roundg 0
          case rel => exact .inr ⟨rfl, rfl, lb, lc, ib, ic, HR2, HK2, HS2, HO2, HO3⟩
          case measure => omega
    · obtain ⟨m0, m3, m4, m5, z3, z4, z5⟩ := HI.out wr _ _ _ HR.out
      obtain ⟨p0, p1, f3, s0, g0, g1, g2⟩ := HCC.out wr HK.out
      obtain ⟨wo, hwo⟩ : ∃ W, W = wr := ⟨_, rfl⟩
      subst hwo
      have HMo : Hid (M < wo.heap.size) := Lib.hid (Nat.lt_of_lt_of_le HML.out HS.out)
      go_wp2_with fail
      clear m0 m3 m4 m5 z3 z4 z5 p0 p1 f3 s0 g0 g1 g2
      go_loopg [7, 71] 1 (fun gg l v wx => (l = .int .i64 0 ∧ v = .int .i64 0 ∧ gg = 1 ∧ wx = wo) ∨ (l = .int .i64 32 ∧ v = .int .i64 1 ∧ gg = 0 ∧ ∃ sb sc, Hid (wx.heap[M]? = some (.cells (rawc pb vin fuel (.slice (some ⟨sb, 0, none⟩) 1 sc) (.slice (some ⟨lb, 0, none⟩) 1 lc) nil) 84 (0, 0))) ∧ Hid (Keeps No w4 wx) ∧ Hid (Keeps (fun q => q = M) wo wx) ∧ Hid (wx.ownsRow wo.heap.size 2 1 (.slice (some ⟨sb, 0, none⟩) 1 sc) 1 (irow [0]))))
      case atStart => exact .inl ⟨rfl, rfl, rfl, rfl⟩
      case round =>
        rcases hrel with ⟨rfl, rfl, rfl, hw⟩ | ⟨rfl, rfl, rfl, sb, sc, HR5, HK5, HKM5, HO5⟩
        · subst hw
          obtain ⟨m0, m3, m4, m5, z3, z4, z5⟩ := HI.out wr _ _ _ HR.out
          obtain ⟨p0, p1, f3, s0, g0, g1, g2⟩ := HCC.out wr HK.out
          obtain ⟨B9, hB9⟩ : ∃ q, wr.heap.size = q := ⟨_, rfl⟩
          obtain ⟨wa, hwa⟩ : ∃ W, wr.alloc (.cells #[.string nm, .int .i64 24, .slice pa 0 pc] 49) = W := ⟨_, rfl⟩
          have r9 : wa.heap[B9]? = some (.cells #[.string nm, .int .i64 24, .slice pa 0 pc] 49 (0, 0)) := by rw [← hwa, ← hB9]; exact heap_alloc_new _ _
          have ra : wa.heap[M]? = some (.cells (rawc pb vin fuel nil (.slice (some ⟨lb, 0, none⟩) 1 lc) nil) 84 (0, 0)) := by rw [← hwa]; exact (Below.heap_alloc _ _ _ HMo.out).trans HR.out
          have has : wa.heap.size = B9 + 1 := by rw [← hwa, ← hB9]; simp
          have hka : Keeps No wr wa := by rw [← hwa]; exact (Keeps.refl _ _).alloc _
          have HA9 := Lib.hid (And.intro r9 (And.intro ra (And.intro has (And.intro hka hB9))))
          obtain ⟨n0, n3, n4, n5, y3, y4, y5⟩ := HI.out wa _ _ _ ra
          clear r9 ra has hka
          go_wp2_with (at_builtin; refine wpList_appN _ rfl (.tmp 79) (.tmp 81) 25 rfl Tryd.underlying25 wa.heap.size nil 0 [] 0 wa.heap.size rfl (World.ownsRow_nil _ _ _ _) rfl (heap_alloc_new _ _) (by omega) (by simp) ?_)
          intro sb sc w3 ho3 hg3 _
          have hMa : M < wa.heap.size := by have := HA9.out.2.2.1; have := HA9.out.2.2.2.2; have := HMo.out; omega
          have r3 : w3.heap[M]? = some (.cells (rawc pb vin fuel nil (.slice (some ⟨lb, 0, none⟩) 1 lc) nil) 84 (0, 0)) := (hg3.block M (by simp; omega) (fun e => by cases e)).trans ((Below.heap_alloc wa _ M hMa).trans HA9.out.2.1)
          have r39 : w3.heap[B9]? = some (.cells #[.string nm, .int .i64 24, .slice pa 0 pc] 49 (0, 0)) := (hg3.block B9 (by simp; have := HA9.out.2.2.1; omega) (fun e => by cases e)).trans ((Below.heap_alloc wa _ B9 (by have := HA9.out.2.2.1; omega)).trans HA9.out.1)
          have k3 : Keeps No wr w3 := (HA9.out.2.2.2.1.alloc _).grown hg3 (fun q e => by cases e)
          have HO3 : Hid (w3.ownsRow wa.heap.size 2 1 (.slice (some ⟨sb, 0, none⟩) 1 sc) 1 (irow [0])) := Lib.hid ho3
          have HR3 := Lib.hid (And.intro r3 (And.intro r39 k3))
          clear ho3 hg3 m0 m3 m4 m5 z3 z4 z5 p0 p1 f3 s0 g0 g1 g2 n0 n3 n4 n5 y3 y4 y5 hwa hB9
          obtain ⟨m0, m3, m4, m5, z3, z4, z5⟩ := HI.out w3 _ _ _ r3
          obtain ⟨w5, hw5⟩ : ∃ W, w3.setCell ⟨M, 3, none⟩ (.slice (some ⟨sb, 0, none⟩) 1 sc) = W := ⟨_, rfl⟩
          have hM9 : M ≠ B9 := by have := HA9.out.2.2.2.2; have := HMo.out; omega
          have r5 : w5.heap[M]? = some (.cells (rawc pb vin fuel (.slice (some ⟨sb, 0, none⟩) 1 sc) (.slice (some ⟨lb, 0, none⟩) 1 lc) nil) 84 (0, 0)) := by rw [← hw5]; exact heap_setCell_same w3 M 3 _ _ _ r3
          have r59 : w5.cell? ⟨B9, 1, none⟩ = some (.int .i64 24) := by
            rw [← hw5, cell_of_row _ B9 1 _ _ _ ((Below.heap_setCell w3 ⟨M, 3, none⟩ _ B9 (by simpa using hM9.symm)).trans r39)]; rfl
          have k5 : Keeps (fun q => q = M) wr w5 := by rw [← hw5]; exact (k3.mono (T := fun q => q = M) (fun _ _ e => e.elim)).setCell (.inl rfl) _
          have hsM : sb ≠ M := fun e => by have := (HO3.out.lt sb rfl).1; omega
          have o5 : w5.ownsRow wr.heap.size 2 1 (.slice (some ⟨sb, 0, none⟩) 1 sc) 1 (irow [0]) := by
            rw [← hw5]; exact own_mono (own_far HO3.out (by simp [Value.ownBlock]; exact hsM) _) (by have := HA9.out.2.2.1; have := HA9.out.2.2.2.2; omega)
          have HR5 := Lib.hid r5
          have HK5 : Hid (Keeps No w4 w5) := Lib.hid (by rw [← hw5]; exact (HK.out.trans k3 (fun _ _ e => e)).setCell (.inr HM4.out) _)
          have HKM5 := Lib.hid k5
          have HO5 := Lib.hid o5
          clear r3 r39 k3 r5 k5 hsM o5 hM9
          go_wp2_with fail
          refine (up24 _).mono ?_
          rintro e w6 ⟨rfl, rfl⟩
          go_wp2_with fail
          go_roundg 0
          case rel => exact .inr ⟨rfl, rfl, rfl, sb, sc, HR5, HK5, HKM5, HO5⟩
          case measure => omega
        · obtain ⟨m0, m3, m4, m5, z3, z4, z5⟩ := HI.out wr _ _ _ HR5.out
          obtain ⟨p0, p1, f3, s0, g0, g1, g2⟩ := HCC.out wr HK5.out
          obtain ⟨i1, hi1, hz0, hz1, hz2⟩ := info_parts infoB
          have HIS := Lib.hid (And.intro hi1 (And.intro hz0 (And.intro hz1 hz2)))
          have hB : wo.heap.size ≤ wr.heap.size := HKM5.out.size
          clear hi1 hz0 hz1 hz2
          go_wp2_with (at_make; refine wpList_make_full _ rfl (.tmp 92) (.tmp 92) 55 rfl wo.heap.size 5 i1 _ 1 Tryd.underlying55 HIS.out.1 HIS.out.2.1 HIS.out.2.2.1 .i64 .i64 32 32 32 rfl rfl rfl rfl (by rw [HIS.out.2.2.2]; omega) (by unfold maxLen; omega) hB ?_)
          intro w1 ho hgr
          obtain ⟨db, hdb⟩ : ∃ q, wr.heap.size = q := ⟨_, rfl⟩
          simp only [hdb] at ho ⊢
          have hMr : M < wr.heap.size := by have := HMo.out; omega
          have HR1 := Lib.hid ((hgr.block M (by omega) (fun e => by cases e)).trans HR5.out)
          have HK1 : Hid (Keeps No w4 w1) := Lib.hid (HK5.out.grown hgr (fun q e => by cases e))
          have HKM1 : Hid (Keeps (fun q => q = M) wo w1) := Lib.hid (HKM5.out.grown hgr (fun q e => by cases e))
          have HO1 : Hid (w1.ownsRow wo.heap.size 5 1 (.slice (some ⟨db, 0, none⟩) 32 32) 32 (brow zero32)) := Lib.hid (by have h := ho; rw [toList_madeCells_one] at h; exact h)
          have HS1 : Hid (w1.ownsRow wo.heap.size 2 1 (.slice (some ⟨sb, 0, none⟩) 1 sc) 1 (irow [0])) := Lib.hid (own_kept HO5.out (fun q hq => hgr.block q (HO5.out.lt q hq).2 (fun e => by cases e)))
          clear ho hgr m0 m3 m4 m5 z3 z4 z5 p0 p1 f3 s0 g0 g1 g2
          obtain ⟨m0, m3, m4, m5, z3, z4, z5⟩ := HI.out w1 _ _ _ HR1.out
          have hgM : db ≠ M := fun e => by omega
          have hsM : sb ≠ M := fun e => by have := (HS1.out.lt sb rfl).1; have := HMo.out; omega
          obtain ⟨w2, hw2⟩ : ∃ W, w1.setCell ⟨M, 5, none⟩ (.slice (some ⟨db, 0, none⟩) 32 32) = W := ⟨_, rfl⟩
          have HO2 : Hid (w2.ownsRow wo.heap.size 5 1 (.slice (some ⟨db, 0, none⟩) 32 32) 32 (brow zero32)) := Lib.hid (by rw [← hw2]; exact own_far HO1.out (by simp [Value.ownBlock]; exact hgM) _)
          have HS2 : Hid (w2.ownsRow wo.heap.size 2 1 (.slice (some ⟨sb, 0, none⟩) 1 sc) 1 (irow [0])) := Lib.hid (by rw [← hw2]; exact own_far HS1.out (by simp [Value.ownBlock]; exact hsM) _)
          have HR2 : Hid (w2.heap[M]? = some (.cells (rawc pb vin fuel (.slice (some ⟨sb, 0, none⟩) 1 sc) (.slice (some ⟨lb, 0, none⟩) 1 lc) (.slice (some ⟨db, 0, none⟩) 32 32)) 84 (0, 0))) := Lib.hid (by rw [← hw2]; exact heap_setCell_same w1 M 5 _ _ _ HR1.out)
          have HK2 : Hid (Keeps No w4 w2) := Lib.hid (by rw [← hw2]; exact HK1.out.setCell (.inr HM4.out) _)
          have HKM2 : Hid (Keeps (fun q => q = M) wo w2) := Lib.hid (by rw [← hw2]; exact HKM1.out.setCell (.inl rfl) _)
          obtain ⟨p0, p1, f3, s0, g0, g1, g2⟩ := HCC.out w2 HK2.out
          obtain ⟨n0, n3, n4, n5, y3, y4, y5⟩ := HI.out w2 _ _ _ HR2.out
          clear hgM hsM
          go_wp2_with fail
          clear m0 m3 m4 m5 z3 z4 z5 n0 n3 n4 n5 y3 y4 y5 p0 p1 f3 s0 g0 g1 g2 hw2
          go_loopg [104] 1 (fun gg v wx => (v = .int .i64 0 ∧ gg = 1 ∧ wx = w2) ∨ (v = .int .i64 1 ∧ gg = 0 ∧ Hid (Keeps No w2 wx)))
          case atStart => exact .inl ⟨rfl, rfl, rfl⟩
          case round =>
            rcases hrel with ⟨rfl, rfl, hw⟩ | ⟨rfl, rfl, HKX⟩
            · subst hw
              obtain ⟨p0, p1, f3, s0, g0, g1, g2⟩ := HCC.out wr HK2.out
              obtain ⟨B9, hB9⟩ : ∃ q, wr.heap.size = q := ⟨_, rfl⟩
              obtain ⟨wa, hwa⟩ : ∃ W, wr.alloc (.cells #[.string nm, .int .i64 24, .slice pa 0 pc] 49) = W := ⟨_, rfl⟩
              have r9 : wa.heap[B9]? = some (.cells #[.string nm, .int .i64 24, .slice pa 0 pc] 49 (0, 0)) := by rw [← hwa, ← hB9]; exact heap_alloc_new _ _
              have c9 : wa.cell? ⟨B9, 2, none⟩ = some (.slice pa 0 pc) := by rw [cell_of_row wa B9 2 _ _ _ r9]; rfl
              have HKA : Hid (Keeps No wr wa) := Lib.hid (by rw [← hwa]; exact (Keeps.refl _ _).alloc _)
              clear r9
              go_wp2_with fail
              go_loopg [112] 0 (fun gg v wx => v = .int .i64 0 ∧ gg = 0 ∧ wx = wa)
              case atStart => exact ⟨rfl, rfl, rfl⟩
              case round =>
                obtain ⟨rfl, rfl, hw⟩ := hrel
                subst hw
                go_wp2_with fail
                go_roundg 0
                case rel => exact .inr ⟨rfl, rfl, HKA⟩
                case measure => omega
            · go_wp2_with fail
              go_returns
              have hM2 : M < w2.heap.size := (Array.getElem?_eq_some_iff.1 HR2.out).1
              have hb : w.heap.size ≤ wo.heap.size := HS.out
              have keep : ∀ {e : TypeId} {v : Value} {n z : Nat} {xs : List Value} {B : Nat}, wo.ownsRow B e z v n xs → w.heap.size ≤ B → (∀ q, v.ownBlock = some q → q ≠ M) → wr.ownsRow w.heap.size e z v n xs := fun h hB hq => own_mono (own_kept h (fun q hq' => (HKX.out.block q (Nat.lt_of_lt_of_le (h.lt q hq').2 HKM2.out.size) (fun e => e)).trans (HKM2.out.block q (h.lt q hq').2 (hq q hq')))) hB
              have hML := HML.out
              refine ⟨rfl, sb, sc, lb, lc, ib, ic, db, 32, (HKX.out.block M hM2 (fun e => e)).trans HR2.out, HK2.out.trans HKX.out (fun _ _ e => e), ?_, keep HOL.out (Nat.le_refl _) (fun q hq e => by have := (HOL.out.lt q hq).1; omega), keep HOI.out (Nat.le_refl _) (fun q hq e => by have := (HOI.out.lt q hq).1; omega), ?_⟩
              · exact own_mono (own_kept HS2.out (fun q hq => HKX.out.block q (HS2.out.lt q hq).2 (fun e => e))) hb
              · exact own_mono (own_kept HO2.out (fun q hq => HKX.out.block q (HO2.out.lt q hq).2 (fun e => e))) hb
end Go.Proofs.YtbfjmhfhhlncjaaDoor
/- A call begins: enter, of a function with a slot; the stack is made. -/
namespace Go.Proofs.YtbfjmhfhhlncjaaDoor
open Go.RowKit
set_option linter.unusedVariables false
set_option linter.unusedSimpArgs false

def stackN : List Int := List.replicate 1048576 0
def SK0 : List Int := laidI stackN 1048544 (List.replicate 32 0)
theorem stackN_len : stackN.length = 1048576 := List.length_replicate
theorem SK0_len : SK0.length = 1048576 := by
  unfold SK0
  rw [laidI_len _ _ _ (by rw [stackN_len, List.length_replicate]; omega), stackN_len]
section
variable {X : Sx} {w w' : World} {c : Cs} {s : St}
/-- The stack is made. -/
theorem MAt.freshK (h : MAt X w c s) {kb N : Nat} (hk : Keeps (fun q => q = X.M) w w') (sk' : List Int) (hl : sk'.length = N) (hrow : w'.heap[X.M]? = some (.cells (mcells X { c with sk := .slice (some ⟨kb, 0, none⟩) N N } s) 84 (0, 0))) (ho : w'.ownsRow X.B 5 1 (.slice (some ⟨kb, 0, none⟩) N N) N (brow sk')) (hkb : w.heap.size ≤ kb) :
    MAt X w' { c with sk := .slice (some ⟨kb, 0, none⟩) N N } { s with sk := sk' } := by
  have R := h.rows
  have nM : ∀ {B z n : Nat} {e : TypeId} {v : Value} {xs : List Value}, w.ownsRow B e z v n xs → 84 ≠ e → ∀ q, v.ownBlock = some q → ¬ q = X.M := fun ho h1 q hq hc => own_ne ho h.row h1 (by rw [hq, hc])
  have hfx : ∀ q, X.Fx q → q < w.heap.size := fun q hq => Nat.lt_of_lt_of_le (h.fx q hq) R.k1.size
  refine ⟨hrow, ⟨keeps_row R.f hk (nM R.f (by decide)), keeps_row R.r hk (nM R.r (by decide)), keeps_row R.o hk (nM R.o (by decide)), keeps_row R.t hk (nM R.t (by decide)), by rw [hl]; exact ho, ?_, R.k1.trans hk (fun q _ e => by subst e; exact h.hM), R.nf, R.nr, R.no, R.nt, ?_, R.d1, ?_, ?_⟩, h.hM, h.fx⟩
  · refine ⟨hk.os.trans R.k0.os, hk.tape.trans R.k0.tape, hk.output.trans R.k0.output, Nat.le_trans R.k0.size hk.size, fun k hk' _ => (hk.block k (Nat.lt_of_lt_of_le hk' R.k0.size) (fun e => ?_)).trans (R.k0.block k hk' (fun e => e))⟩
    have := h.hM.1; subst e; exact absurd hk' (Nat.not_lt.2 this)
  · intro q hq hf
    obtain rfl : kb = q := by simpa [Value.ownBlock] using hq
    exact absurd (hfx kb hf) (Nat.not_lt.2 hkb)
  · intro q hq e
    obtain rfl : kb = q := by simpa [Value.ownBlock] using e
    exact absurd (R.o.lt kb hq).2 (Nat.not_lt.2 hkb)
  · intro q hq e
    obtain rfl : kb = q := by simpa [Value.ownBlock] using e
    exact absurd (R.t.lt kb hq).2 (Nat.not_lt.2 hkb)
end
def St.enterM (s : St) (fi R : Nat) (d : Int) : St := { s with fs := s.fs ++ [⟨fi, 0, 0, s.rg.length, 16777216, 16777184, d⟩], rg := s.rg ++ List.replicate R 0, sk := SK0 }
set_option maxRecDepth 100000 in
set_option maxHeartbeats 25600000 in
theorem enterM (X : Sx) (hX : SxOk X) (hXM : SxM X) (w : World) (c : Cs) (s : St) (h : MAt X w c s) (F : Fx) (hF : X.P.fl[0]? = some F) (hfn1 : X.P.fn = 1) (sla : Option Addr) (slc : Nat) (hsl : F.slots.a = sla ∧ F.slots.n = 1 ∧ F.slots.cap = slc) (R : Nat) (hR : F.regs = R) (hR1 : 1 ≤ R ∧ R ≤ 256)
    (hsk : c.sk = .slice none 0 0) (d : Int) (hrl : s.rg.length ≤ 900000) (hfl : s.fs.length ≤ 100000) :
    Calls Tryd.prog 42 #[.pointer (some ⟨X.M, 0, none⟩), .int .i64 0, .slice none 0 0, .int .i64 d, .int .i64 16777216] w (StepTo X (s.enterM 0 R d)) := by
  have hP := hX.pok
  obtain ⟨fb, fo, F', hF', hfa, hft, hfo⟩ := Pg.fget hP (show 0 < X.P.fn by omega)
  obtain rfl : F = F' := by rw [hF] at hF'; exact Option.some.inj hF'
  have hpe := hX.fa
  rw [hfa] at hpe
  injection hpe with hpe
  injection hpe with ep1 ep2 _
  subst ep1; subst ep2
  have hfc := hP.fcap
  unfold maxLen at hfc
  rw [hfn1] at hfc
  have HP := Lib.hid (fun (W : World) (hk : Keeps No X.w0 W) => (show W.cell? ⟨X.pb, 1, none⟩ = some (.slice (some ⟨X.fb, X.fo, none⟩) 1 X.P.fc) by
    have := hk.cell0 (hX.pat 1 _ rfl); simp only [Nat.zero_add] at this; rw [hfa, hfn1] at this; exact this))
  have HF := Lib.hid (fun (W : World) (hk : Keeps No X.w0 W) => (show W.cell? ⟨X.fb, X.fo + 2, none⟩ = some (.int .i64 R) ∧ W.cell? ⟨X.fb, X.fo + 3, none⟩ = some (.slice sla 1 slc) by
    have h2 := hk.cell0 (hft 2 _ rfl); have h3 := hk.cell0 (hft 3 _ rfl)
    rw [hR] at h2; rw [Sl.v, hsl.1, hsl.2.1, hsl.2.2] at h3; simp only [Nat.zero_mul, Nat.add_zero] at h2 h3; exact ⟨h2, h3⟩))
  obtain ⟨pc, hpc⟩ : ∃ n, X.P.fc = n := ⟨_, rfl⟩
  rw [hpc] at HP hfc
  obtain ⟨lb, lc, ib2, ic2, s1, s2', s3, s4, s5, s6, s7⟩ := hXM.sl
  unfold maxLen at s2' s5
  have H0 := Lib.hid h
  have m0 : w.cell? ⟨X.M, 0, none⟩ = some (.pointer (some ⟨X.pb, 0, none⟩)) := h.cell 0 _ rfl
  have m4 : w.cell? ⟨X.M, 4, none⟩ = some X.sl := h.cell 4 _ rfl
  rw [s1] at m4
  have l0 := SxM.keep h s3 s4
  have l1 := SxM.keep h s6 s7
  have m6 : w.cell? ⟨X.M, 6, none⟩ = some c.sk := h.cell 6 _ rfl
  rw [hsk] at m6
  have p1 := HP.out w h.rows.k0
  obtain ⟨q2, q3⟩ := HF.out w h.rows.k0
  obtain ⟨rl, hrll⟩ : ∃ r, s.rg.length = r := ⟨_, rfl⟩
  have HRL0 := Lib.hid hrll
  have hrg : ∃ ra rc, c.rg = .slice ra rl rc ∧ rl ≤ rc ∧ rc ≤ maxLen := by
    rcases h.rows.r.2 with ⟨e, h0⟩ | ⟨g, cap, cur, e, _, _, h1, h2, _⟩
    · exact ⟨none, 0, by rw [e, ← hrll, h0], by omega, Nat.zero_le _⟩
    · exact ⟨_, cap, by rw [e, ← hrll], by omega, h2⟩
  obtain ⟨ra, rc, hrg, hrc⟩ := hrg
  unfold maxLen at hrc
  have HRG0 := Lib.hid hrg
  rw [hrll] at hrl
  have HFL := Lib.hid hfl
  obtain ⟨FIN, hFIN⟩ : ∃ S, s.enterM 0 R d = S := ⟨_, rfl⟩
  rw [hFIN]
  have HFIN0 := Lib.hid hFIN
  have q34 : ∀ (w : World) (a : Option Addr) (n c n' c' : Nat), (binOp .eql 55 (.slice a n c) (.slice none n' c')).run Tryd.prog w = .ok (.bool a.isNone) w := fun w a n c n' c' => Lib.run_eql_slice_nil w _ _ a n c n' c' Tryd.underlying55
  have hMl : X.M < w.heap.size := (Array.getElem?_eq_some_iff.1 h.row).1
  obtain ⟨i1, hi1, hz0, hz1, hz2⟩ := info_parts infoB
  have HIS := Lib.hid (And.intro hi1 (And.intro hz0 (And.intro hz1 hz2)))
  have hBw : X.B ≤ w.heap.size := h.rows.k0.size
  clear hP hF hsl hR h hX hfa hft hfo hpc hrll hrg hF' hXM hfn1 hsk s1 s3 s4 s6 s7 hFIN hi1 hz0 hz1 hz2 hfl
  go_enter Tryd.func42, Tryd.ntmps42
  go_wp2_with (at_make; refine wpList_make_full _ rfl _ _ 55 rfl X.B 5 i1 _ 1 Tryd.underlying55 HIS.out.1 HIS.out.2.1 HIS.out.2.2.1 .i64 .i64 1048576 1048576 1048576 rfl rfl rfl rfl (by rw [HIS.out.2.2.2]; omega) (by unfold maxLen; omega) hBw ?_)
  intro w1 ho hgr
  obtain ⟨kb, hkb⟩ : ∃ q, w.heap.size = q := ⟨_, rfl⟩
  simp only [hkb] at ho ⊢
  have hoN : w1.ownsRow X.B 5 1 (.slice (some ⟨kb, 0, none⟩) 1048576 1048576) 1048576 (brow stackN) := by
    have h := ho; rw [toList_madeCells_one] at h
    unfold stackN brow; rw [List.map_replicate]; exact h
  have hM1 : w1.heap[X.M]? = some (.cells (mcells X c s) 84 (0, 0)) := (hgr.block X.M hMl (fun e => by cases e)).trans H0.out.row
  have k1 : Keeps No w w1 := (Keeps.refl No w).grown hgr (fun q e => by cases e)
  have hM6 : w1.cell? ⟨X.M, 6, none⟩ = some c.sk := by rw [cell_of_row w1 X.M 6 _ _ _ hM1]; rfl
  have hz6 := frozen_of_row w1 X.M 6 _ _ hM1
  have hkM : kb ≠ X.M := by omega
  obtain ⟨w2, hw2⟩ : ∃ W, w1.setCell ⟨X.M, 6, none⟩ (.slice (some ⟨kb, 0, none⟩) 1048576 1048576) = W := ⟨_, rfl⟩
  have hM2 : w2.heap[X.M]? = some (.cells (mcells X { c with sk := .slice (some ⟨kb, 0, none⟩) 1048576 1048576 } s) 84 (0, 0)) := by rw [← hw2]; exact heap_setCell_same w1 X.M 6 _ _ _ hM1
  have ho2 : w2.ownsRow X.B 5 1 (.slice (some ⟨kb, 0, none⟩) 1048576 1048576) 1048576 (brow stackN) := by rw [← hw2]; exact own_far hoN (by simp [Value.ownBlock]; exact hkM) _
  have k2 : Keeps (fun q => q = X.M) w w2 := by rw [← hw2]; exact (k1.mono (T := fun q => q = X.M) (fun _ _ e => e.elim)).setCell (.inl rfl) _
  have h2 := H0.out.freshK k2 stackN stackN_len hM2 ho2 (by omega)
  obtain ⟨cb, ccap, cur, ce, cB, cg, cc1, cc2, csz, ctk⟩ := own_cur ho2 (by omega)
  injection ce with ce _ ce2
  injection ce with ce
  injection ce with ce _ _
  subst ce; subst ce2
  have hl32 : (List.replicate 32 (0 : Int)).length = 32 := List.length_replicate
  have hcl : cur.toList.length = 1048576 := by rw [Array.length_toList]; exact csz
  have hclr : ∀ ty, (Builtin.clear_ #[55] ty #[.slice (some ⟨kb, 1048544, none⟩) 32 32]).run Tryd.prog w2 = .ok (.tuple #[]) (w2.setCells kb 1048544 (List.replicate 32 (.int .u8 0))) := fun ty =>
    Lib.run_clear_slice w2 55 5 ty (.int .u8 0) Tryd.underlying55 Tryd.zeroValue5 rfl rfl kb 1048544 32 32 (by omega)
      (fun j hj => by rw [cell_of_row w2 kb _ _ _ _ cg]; simp; omega) (fun j hj => frozen_of_row w2 kb _ _ _ cg)
  have hg3 := setCells_row kb 5 (List.replicate 32 (.int .u8 0)) 1048544 w2 cur.toList (by simpa using cg) (by rw [hcl, List.length_replicate]; omega)
  have k3 := keeps_setCells (S := fun q => q = kb) (a := w2) kb (.inl rfl) (List.replicate 32 (.int .u8 0)) 1048544 w2 (Keeps.refl _ _)
  have hla : (cur.toList.take 1048544 ++ (List.replicate 32 (Value.int .u8 0) ++ cur.toList.drop (1048544 + (List.replicate 32 (Value.int .u8 0)).length))) = laidB cur.toList 1048544 (List.replicate 32 0) := by
    unfold laidB brow; rw [List.map_replicate, List.length_replicate, hl32]
  rw [hla] at hg3
  obtain ⟨wA, hwA⟩ : ∃ W, w2.setCells kb 1048544 (List.replicate 32 (.int .u8 0)) = W := ⟨_, rfl⟩
  rw [hwA] at hclr hg3 k3
  have hoA : wA.ownsRow X.B 5 1 (.slice (some ⟨kb, 0, none⟩) 1048576 1048576) 1048576 (brow SK0) :=
    own_mk cB hg3 (Nat.le_refl _) (by unfold maxLen; omega) (by rw [laidB_len _ _ _ (by rw [hcl, hl32]; omega), hcl]) (laidB_take cur.toList stackN 1048576 1048544 _ stackN_len ctk (by rw [hl32]; omega))
  obtain ⟨cc, hcc⟩ : ∃ C : Cs, C = { c with sk := .slice (some ⟨kb, 0, none⟩) 1048576 1048576 } := ⟨_, rfl⟩
  obtain ⟨s2, hs2⟩ : ∃ S : St, S = { s with sk := SK0 } := ⟨_, rfl⟩
  have hA : MAt X wA cc s2 := by
    rw [hcc, hs2]
    exact h2.newK (cap := 1048576) rfl stackN_len SK0 SK0_len hoA k3
  have H := Lib.hid hA
  have HCL := Lib.hid hclr
  have m6A : w2.cell? ⟨X.M, 6, none⟩ = some (.slice (some ⟨kb, 0, none⟩) 1048576 1048576) := by rw [cell_of_row w2 X.M 6 _ _ _ hM2]; rfl
  have c2 : wA.cell? ⟨X.M, 2, none⟩ = some cc.rg := hA.cell 2 _ rfl
  have HRG : Hid (cc.rg = .slice ra rl rc) := Lib.hid (by rw [hcc]; exact HRG0.out)
  rw [HRG.out] at c2
  have HRL : Hid (s2.rg.length = rl) := Lib.hid (by rw [hs2]; exact HRL0.out)
  have HLL : Hid (([] : List Int).length = 0) := Lib.hid rfl
  have HAA : Hid (ArgsAt X wA cc none []) := Lib.hid (.inl rfl)
  have hfl : s2.fs.length ≤ 100000 := by rw [hs2]; exact HFL.out
  have q2A := (HF.out wA hA.rows.k0).1
  have HFIN : Hid ({ s2 with fs := s2.fs ++ [(⟨0, 0, 0, rl, 16777216, 16777184, d⟩ : Fr1)], rg := s2.rg ++ ([] ++ List.replicate (R - 0) 0) } = FIN) := Lib.hid (by rw [← HFIN0.out, hs2]; unfold St.enterM; rw [HRL0.out]; simp)
  clear ho hgr hoN hM1 k1 hM2 ho2 k2 h2 cB cg cc1 cc2 csz ctk hl32 hcl hclr hg3 k3 hla hwA hoA hcc hs2 hA l0 l1 m4 p1 q2 q3
  go_wp2_with (first | (refine wpList_clear_run _ rfl (.tmp 68) 55 rfl _ rfl wA (HCL.out _) ?_))
  have x2 : ∀ u : KW wA, u.W.cell? ⟨X.M, 2, none⟩ = some (.slice ra rl rc) := fun u => u.cell c2
  have y2 : ∀ u : KW wA, u.W.cell? ⟨X.fb, X.fo + 2, none⟩ = some (.int .i64 R) := fun u => u.cell q2A
  have hne : Nonempty (KW wA) := ⟨KW.of _⟩
  have hs1 : IntKind.i64.wrap ((rl : Int) + (R : Int)) = (rl : Int) + (R : Int) := by rw [IntKind.wrap_i64]; omega
  refine Mix.wp_region_mix (fun W => ∃ u : KW wA, W = u.W) [19] (by kernel_rfl) ?_
  have HK4 : Hid (Keeps No wA wA.drew) := Lib.hid ((Keeps.refl _ wA).drew)
  have H4 := Lib.hid H.out.drew
  clear c2 q2A
  generalize wA.drew = w4 at HK4 H4 ⊢
  refine Mix.mix_seg 0 9 11 (by kernel_rfl) (by kernel_rfl) rfl rfl ⟨⟨w4, HK4.out⟩, rfl⟩ ?_
  simp only [List.drop_succ_cons, List.drop_zero, List.take_succ_cons, List.take_zero]
  repeat (go_big_quiet_step (fail))
  refine wpQuiet_nil ?_
  refine Mix.mix_seg 10 6 5 (by kernel_rfl) (by kernel_rfl) rfl rfl ⟨⟨w4, HK4.out⟩, rfl⟩ ?_
  simp only [List.drop_succ_cons, List.drop_zero, List.take_succ_cons, List.take_zero]
  repeat (go_big_quiet_step (fail))
  refine wpQuiet_nil ?_
  clear x2 y2 hne hs1
  refine Mix.mix_one 9 4 (by kernel_rfl) rfl rfl ?_
  simp only [List.drop_succ_cons, List.drop_zero, List.take_succ_cons, List.take_zero]
  have HRW : Hid (w4.ownsRow X.B 2 1 (.slice ra rl rc) s2.rg.length (irow s2.rg)) := Lib.hid (by have := H4.out.rows.r; rw [HRG.out] at this; exact this)
  have HB4 : Hid (X.B ≤ w4.heap.size) := Lib.hid H4.out.rows.k0.size
  have HG := Lib.hid (grow_any w4 X.B (.slice ra rl rc) s2.rg R HRW.out (by rw [HRL.out]; omega) (by omega) (by omega) HB4.out)
  rw [HRL.out] at HG
  go_wp2_with fail
  refine HG.out.mono ?_
  rintro e w5 ⟨g, cap, rfl, hroom, hk5, hg5⟩
  have HRM := Lib.hid hroom
  have HK5 := Lib.hid (HK4.out.trans hk5 (fun _ _ e => e))
  have HG5 := Lib.hid hg5
  have HK45 := Lib.hid hk5
  have H5 := Lib.hid (H4.out.keep hk5)
  have hcr := hroom.room
  have hcm := hroom.cap
  unfold maxLen at hcm
  rw [HRL.out] at hcr
  clear hroom hk5 hg5 HG
  go_wp2_with fail
  refine ⟨.inr ⟨⟨w5, HK5.out⟩, rfl⟩, ?_⟩
  refine Mix.mix_one 16 3 (by kernel_rfl) rfl rfl ?_
  simp only [List.drop_succ_cons, List.drop_zero, List.take_succ_cons, List.take_zero]
  go_wp2_with fail
  refine ⟨.inr ⟨⟨w5, HK5.out⟩, rfl⟩, ?_⟩
  refine Mix.mix_one 17 2 (by kernel_rfl) rfl rfl ?_
  simp only [List.drop_succ_cons, List.drop_zero, List.take_succ_cons, List.take_zero]
  go_wp2_with fail
  refine ⟨.inr ⟨⟨w5, HK5.out⟩, rfl⟩, ?_⟩
  refine Mix.mix_one 18 1 (by kernel_rfl) rfl rfl ?_
  simp only [List.drop_succ_cons, List.drop_zero, List.take_succ_cons, List.take_zero]
  go_wp2_with fail
  refine ⟨.inr ⟨⟨w5, HK5.out⟩, rfl⟩, ?_⟩
  have c2 : w5.cell? ⟨X.M, 2, none⟩ = some cc.rg := H5.out.cell 2 _ rfl
  have f2 := H5.out.frozen 2
  refine Mix.mix_one 19 0 (by kernel_rfl) rfl rfl ?_
  simp only [List.drop_succ_cons, List.drop_zero, List.take_succ_cons, List.take_zero]
  go_wp2_with fail
  refine ⟨.inl ⟨rfl, rfl⟩, ?_⟩
  refine Mix.mix_end (by kernel_rfl) ?_
  obtain ⟨cur, hcur, hsz, htk⟩ := HRM.out.ex
  have hgM : g ≠ X.M := fun e => by
    have := H5.out.row; rw [e] at hcur; rw [hcur] at this; injection this with this; injection this with _ h2 _; exact absurd h2 (by decide)
  obtain ⟨w6, hw6⟩ : ∃ w6, w5.setCell ⟨X.M, 2, none⟩ (.slice (some ⟨g, 0, none⟩) (rl + R) cap) = w6 := ⟨_, rfl⟩
  have hM6 : w6.heap[X.M]? = some (.cells (mcells X { cc with rg := .slice (some ⟨g, 0, none⟩) (rl + R) cap } s2) 84 (0, 0)) := by
    rw [← hw6]; exact heap_setCell_same w5 X.M 2 _ _ _ H5.out.row
  have hg6 : w6.heap[g]? = some (.cells cur.toList.toArray 2 (0, 0)) := by
    rw [← hw6, Below.heap_setCell _ _ _ _ (fun e => hgM e), hcur]
  have hk6 : Keeps (fun q => q = X.M) w5 w6 := by rw [← hw6]; exact (Keeps.refl (fun q => q = X.M) w5).setCell (.inl rfl) _
  have hl0 : cur.toList.length = cap := by simpa using hsz
  rw [HRL.out] at htk
  have e2 : w6.cell? ⟨X.M, 2, none⟩ = some (.slice (some ⟨g, 0, none⟩) (rl + R) cap) := by rw [cell_of_row w6 X.M 2 _ _ _ hM6]; rfl
  have hclr : ∀ ty, (Builtin.clear_ #[25] ty #[.slice (some ⟨g, rl, none⟩) R (cap - rl)]).run Tryd.prog w6 = .ok (.tuple #[]) (w6.setCells g rl (List.replicate R (.int .i64 0))) := fun ty =>
    Lib.run_clear_slice w6 25 2 ty (.int .i64 0) Tryd.underlying25 Tryd.zeroValue2 rfl rfl g rl R (cap - rl) (by omega)
      (fun j hj => by rw [cell_of_row w6 g _ _ _ _ hg6]; simp; omega) (fun j hj => frozen_of_row w6 g _ _ _ hg6)
  have hg7 := setCells_row g 2 (List.replicate R (.int .i64 0)) rl w6 cur.toList hg6 (by simp; omega)
  have hk7 := keeps_setCells (S := fun q => q = g) (a := w6) g (.inl rfl) (List.replicate R (.int .i64 0)) rl w6 (Keeps.refl _ _)
  obtain ⟨w7, hw7⟩ : ∃ w7, w6.setCells g rl (List.replicate R (.int .i64 0)) = w7 := ⟨_, rfl⟩
  rw [hw7] at hg7 hk7 hclr
  have hcr1 : ¬ cap = rl := by omega
  have e7 : w7.cell? ⟨X.M, 2, none⟩ = some (.slice (some ⟨g, 0, none⟩) (rl + R) cap) := hk7.cell e2 (fun e => hgM e.symm)
  have hla : 0 ≤ R := Nat.zero_le _
  have HX := Lib.hid (And.intro hM6 (And.intro hg6 (And.intro hk6 (And.intro hg7 (And.intro hk7 (And.intro hl0 htk))))))
  have HCL := Lib.hid hclr
  have HGM := Lib.hid hgM
  have HCU : Hid ((cur.toList.take rl ++ (List.replicate R (Value.int .i64 0) ++ cur.toList.drop (rl + (List.replicate R (Value.int .i64 0)).length))).length = cap) := Lib.hid (by simp; simp at hl0; omega)
  have HIN : Hid ((Tryd.prog.info? 2).map (·.size) = some 1) := Lib.hid (by kernel_rfl)
  have HMIN : Hid ((irow ([] : List Int)).length = Nat.min 0 R) := Lib.hid (by rw [irow_len, HLL.out]; exact (Nat.min_eq_left hla).symm)
  have HPOS : Hid (0 < (irow ([] : List Int)).length → ∃ ad, (none : Option Addr) = some ad ∧ ∀ (j : Nat) v, (irow ([] : List Int))[j]? = some v → w7.cell? (Addr.add ad j) = some v) := Lib.hid (fun hp => absurd hp (by simp [irow]))
  clear hcur hsz htk hgM hM6 hg6 hk6 hg7 hk7 hl0 hclr hw7 c2 f2
  rw [hw6]
  clear hw6
  go_wp2_with (first | (refine wpList_clear_run _ rfl (.tmp 98) 25 rfl _ rfl w7 (HCL.out _) ?_) | (with_reducible refine wpList_copy_any rfl (.tmp 104) (.tmp 105) 25 25 rfl 2 Tryd.underlying25 HIN.out none R (cap - rl) 0 0 g rl rfl rfl _ 2 HX.out.2.2.2.1 (irow ([] : List Int)) HMIN.out HPOS.out (by rw [HCU.out, irow_len, HLL.out]; omega) (irow_one ([] : List Int)) ?_))
  intro w8 hg8 hk8
  obtain ⟨C2, hg8', hCl, hCt⟩ : ∃ C2 : List Value, w8.heap[g]? = some (.cells C2.toArray 2 (0, 0)) ∧ C2.length = cap ∧ C2.take (rl + R) = irow s2.rg ++ (irow ([] : List Int) ++ List.replicate (R - 0) (Value.int .i64 0)) :=
    ⟨_, hg8, (enter_cells cur.toList (irow s2.rg) (irow ([] : List Int)) (Value.int .i64 0) rl R 0 cap HX.out.2.2.2.2.2.1 HX.out.2.2.2.2.2.2 hcr (by rw [irow_len, HLL.out]) hla).2⟩
  have hE : (s2.rg ++ (([] : List Int) ++ List.replicate (R - 0) 0)).length = rl + R := by simp [HRL.out]
  have hB8 : X.B ≤ g := HRM.out.base
  have hM8 : w8.heap[X.M]? = some (.cells (mcells X { cc with rg := .slice (some ⟨g, 0, none⟩) (rl + R) cap } s2) 84 (0, 0)) := by
    have hMs := (Array.getElem?_eq_some_iff.1 HX.out.1).1
    have a1 := HX.out.2.2.2.2.1.block X.M hMs (fun e => HGM.out e.symm)
    have a2 := hk8.block X.M (Nat.lt_of_lt_of_le hMs HX.out.2.2.2.2.1.size) (fun e => HGM.out e.symm)
    rw [a2, a1]; exact HX.out.1
  have hO8 : w8.ownsRow X.B 2 1 (.slice (some ⟨g, 0, none⟩) (rl + R) cap) (s2.rg ++ (([] : List Int) ++ List.replicate (R - 0) 0)).length (irow (s2.rg ++ (([] : List Int) ++ List.replicate (R - 0) 0))) := by
    rw [hE]
    refine ⟨by rw [irow_len, hE, Nat.mul_one], .inr ⟨g, cap, C2.toArray, rfl, hB8, hg8', hcr, HRM.out.cap, by simpa using hCl, ?_⟩⟩
    rw [Nat.mul_one]
    show C2.take (rl + R) = _
    rw [hCt, irow_app, irow_app]
    unfold irow
    rw [List.map_replicate]
  have hG : cc.rg.ownBlock = some g ∨ w4.heap.size ≤ g := by
    rcases HG5.out with e | e
    · left; rw [HRG.out]; exact e
    · exact .inr e
  have hK8 : Keeps (fun q => q = X.M ∨ cc.rg.ownBlock = some q) w4 w8 := by
    have k5 : Keeps (fun q => q = X.M ∨ cc.rg.ownBlock = some q) w4 w5 := HK45.out.mono (fun _ _ e => e.elim)
    have k6 := k5.trans HX.out.2.2.1 (fun q _ e => .inl e)
    have k7 : Keeps (fun q => q = X.M ∨ cc.rg.ownBlock = some q) w4 w7 := k6.trans HX.out.2.2.2.2.1 (fun q hq e => by
      rcases hG with e2 | e2
      · exact .inr (by rw [e2, e])
      · omega)
    exact k7.trans hk8 (fun q hq e => by
      rcases hG with e2 | e2
      · exact .inr (by rw [e2, e])
      · omega)
  have H8 : Hid (MAt X w8 { cc with rg := .slice (some ⟨g, 0, none⟩) (rl + R) cap } { s2 with rg := s2.rg ++ (([] : List Int) ++ List.replicate (R - 0) 0) }) := Lib.hid (H4.out.newR hM8 hO8 hK8 (fun q hq => by
    obtain rfl : g = q := by simpa [Value.ownBlock] using hq
    exact hG))
  clear hG
  clear hg8 hg8' hk8 hCl hCt hE hB8 hM8 hO8 hK8 e7
  clear HX HCL HCU HMIN HPOS HIN
  obtain ⟨vf, hvf⟩ : ∃ v, cc.fs = v := ⟨_, rfl⟩
  have HVF := Lib.hid hvf
  have g1 : w8.cell? ⟨X.M, 1, none⟩ = some vf := by rw [← hvf]; exact H8.out.cell 1 _ rfl
  have z1 := H8.out.frozen 1
  have HFO : Hid (∀ o : Obj, (w8.alloc o).ownsRow X.B 104 8 vf s2.fs.length (frow X s2.fs)) := Lib.hid (fun o => by rw [← hvf]; exact H8.out.rows.f.alloc o)
  obtain ⟨i0, hi, hz0, hz1, hz2⟩ := info_parts infoFr
  have HI := Lib.hid (And.intro hi (And.intro hz0 (And.intro hz1 hz2)))
  have HB8 : Hid (X.B ≤ w8.heap.size) := Lib.hid H8.out.rows.k0.size
  have HNW : Hid (∀ (j : Nat) u, (fcells X ⟨0, 0, 0, rl, 16777216, 16777184, d⟩)[j]? = some u → (w8.alloc (.cells #[.pointer (some ⟨X.fb, X.fo, none⟩), .int .i64 0, .int .i64 0, .int .i64 0, .int .i64 rl, .int .i64 16777216, .int .i64 16777184, .int .i64 d] 104)).cell? ((⟨w8.heap.size, 0, none⟩ : Addr).add j) = some u) := Lib.hid (fun j u hu => by
    have e : (⟨w8.heap.size, 0, none⟩ : Addr).add j = ⟨w8.heap.size, j, none⟩ := by unfold Addr.add; split <;> simp_all
    rw [e, World.cell?_alloc_at _ _ _ _ rfl]; rw [List.getElem?_toArray]; exact hu)
  have HONE : Hid (∀ u ∈ fcells X ⟨0, 0, 0, rl, 16777216, 16777184, d⟩, u.oneCell' = true) := Lib.hid (by
    intro u hu; unfold fcells at hu; simp at hu; rcases hu with rfl | rfl | rfl | rfl | rfl | rfl | rfl | rfl <;> rfl)
  have HMX : Hid (s2.fs.length + 1 ≤ maxLen) := Lib.hid (by unfold maxLen; omega)
  have hn1 : (s2.fs.length + 1) * 64 ≤ 140737488355328 := by omega
  clear hi hz0 hz1 hz2 hvf
  go_wp2_with (at_builtin; refine wpList_append_lies _ rfl (.tmp 111) (.tmp 119) 81 rfl X.B 104 i0 _ 8 64 Tryd.underlying81 HI.out.1 HI.out.2.1 HI.out.2.2.1 HI.out.2.2.2 rfl (by decide) vf s2.fs.length (frow X s2.fs) rfl (HFO.out _) ⟨w8.heap.size, 0, none⟩ 1 1 (fcells X ⟨0, 0, 0, rl, 16777216, 16777184, d⟩) rfl rfl HNW.out HONE.out (by decide) HMX.out hn1 (Nat.le_trans HB8.out (by simp)) _ rfl ?_)
  intro g9 cap9 w9 ho9 hg9 hl9 _
  have H8A := Lib.hid (H8.out.alloc (.cells #[.pointer (some ⟨X.fb, X.fo, none⟩), .int .i64 0, .int .i64 0, .int .i64 0, .int .i64 rl, .int .i64 16777216, .int .i64 16777184, .int .i64 d] 104))
  have hvM : vf.ownBlock ≠ some X.M := by rw [← HVF.out]; exact own_ne H8.out.rows.f H8.out.row (by decide)
  have hM9 := (hg9.block X.M (Array.getElem?_eq_some_iff.1 H8A.out.row).1 (fun e => hvM e.symm)).trans H8A.out.row
  have g1' : w9.cell? ⟨X.M, 1, none⟩ = some vf := by rw [cell_of_row w9 X.M 1 _ _ _ hM9, ← HVF.out]; rfl
  have z1' : w9.frozen? ⟨X.M, 1, none⟩ = false := frozen_of_row w9 X.M 1 _ _ hM9
  have hgM : g9 ≠ X.M := fun e => by subst e; exact own_ne ho9 hM9 (by decide) rfl
  have hFl : (s2.fs ++ [(⟨0, 0, 0, rl, 16777216, 16777184, d⟩ : Fr1)]).length = s2.fs.length + 1 := by simp
  have hFr : frow X (s2.fs ++ [(⟨0, 0, 0, rl, 16777216, 16777184, d⟩ : Fr1)]) = frow X s2.fs ++ fcells X ⟨0, 0, 0, rl, 16777216, 16777184, d⟩ := by unfold frow; rw [List.flatMap_append]; simp
  have hO9 : (w9.setCell ⟨X.M, 1, none⟩ (.slice (some ⟨g9, 0, none⟩) (s2.fs.length + 1) cap9)).ownsRow X.B 104 8 (.slice (some ⟨g9, 0, none⟩) (s2.fs.length + 1) cap9) (s2.fs ++ [(⟨0, 0, 0, rl, 16777216, 16777184, d⟩ : Fr1)]).length (frow X (s2.fs ++ [(⟨0, 0, 0, rl, 16777216, 16777184, d⟩ : Fr1)])) := by
    rw [hFl, hFr]; exact own_far ho9 (by simp [Value.ownBlock]; exact hgM) _
  have hK9 : Keeps (fun q => q = X.M ∨ cc.fs.ownBlock = some q) (w8.alloc (.cells #[.pointer (some ⟨X.fb, X.fo, none⟩), .int .i64 0, .int .i64 0, .int .i64 0, .int .i64 rl, .int .i64 16777216, .int .i64 16777184, .int .i64 d] 104)) (w9.setCell ⟨X.M, 1, none⟩ (.slice (some ⟨g9, 0, none⟩) (s2.fs.length + 1) cap9)) :=
    ((Keeps.refl _ _).grown hg9 (fun q e => .inl (.inr (by rw [HVF.out]; exact e)))).setCell (.inl (.inl rfl)) _
  have H9 := Lib.hid (H8A.out.newF (v' := .slice (some ⟨g9, 0, none⟩) (s2.fs.length + 1) cap9) (fs' := s2.fs ++ [(⟨0, 0, 0, rl, 16777216, 16777184, d⟩ : Fr1)]) (heap_setCell_same w9 X.M 1 _ _ _ hM9) hO9 hK9 (fun q hq => by
    obtain rfl : g9 = q := by simpa [Value.ownBlock] using hq
    rcases hl9 with e | e
    · exact .inl (by rw [← e]; exact congrArg _ HVF.out)
    · exact .inr (by simp; omega)))
  clear ho9 hg9 hl9 hvM hM9 hgM hFl hFr hO9 hK9 H8A g1 z1
  go_wp2_with fail
  go_returns
  unfold StepTo
  rw [← HFIN.out]
  exact ⟨rfl, _, H9.out⟩
end Go.Proofs.YtbfjmhfhhlncjaaDoor
/- ir.Run, of programs of one function with a slot, and one global. -/
namespace Go.Proofs.YtbfjmhfhhlncjaaDoor
open Go.RowKit
set_option linter.unusedVariables false
set_option linter.unusedSimpArgs false

structure MemP (p : Pg) : Prop where
  gn : p.gn = 1
  fn : p.fn = 1
  gl : ∃ g, p.gl = [g] ∧ g.size = 24 ∧ g.pn = 0
  fl : ∃ F, p.fl = [F] ∧ F.slots.l = [24] ∧ F.slots.n = 1
theorem own_cap {w : World} {B z n g cap : Nat} {e : TypeId} {xs : List Value} (h : w.ownsRow B e z (.slice (some ⟨g, 0, none⟩) n cap) n xs) : n ≤ cap ∧ cap ≤ maxLen := by
  rcases h.2 with ⟨e, _⟩ | ⟨g', cap', cur, e, _, _, h1, h2, _⟩
  · cases e
  · injection e with _ _ e; subst e; exact ⟨h1, h2⟩
theorem fillAt_of {w4 : World} {q : Pg} {pb : Nat} (hq : PgOk w4 q) (hqa : q.at_ w4 pb 0) (hM : MemP q) : ∃ gb go_ gc fb fo fc slb slo slc nm pa pc, ((1 ≤ gc ∧ gc ≤ 9223372036854775807) ∧ (1 ≤ fc ∧ fc ≤ 9223372036854775807) ∧ (1 ≤ slc ∧ slc ≤ 9223372036854775807) ∧ pc ≤ 9223372036854775807) ∧ ∀ W, Keeps No w4 W → FillAt W pb gb go_ gc fb fo fc slb slo slc nm pa pc := by
  obtain ⟨g, hg, hs, hpn⟩ := hM.gl
  obtain ⟨F, hF, hsl, hsn⟩ := hM.fl
  obtain ⟨gb, go_, ga, hgc⟩ := hq.gat (by rw [hM.gn]; omega)
  obtain ⟨fb, fo, fa, hfc⟩ := hq.fat (by rw [hM.fn]; omega)
  have hgc0 := hgc 0 g (by rw [hg]; rfl)
  have hfc0 := hfc 0 F (by rw [hF]; rfl)
  have hGo := hq.gok g (by rw [hg]; simp)
  have hFo := hq.fok F (by rw [hF]; simp)
  obtain ⟨slb, slo, sa, hslc⟩ := hFo.slots.at_ (by rw [hsn]; omega)
  have hsc := hslc 0 24 (by rw [hsl]; rfl)
  have c1 := hq.gcap; have c2 := hq.fcap; have c3 := hFo.slots.cap; have c4 := hGo.cap
  unfold maxLen at c1 c2 c3 c4
  rw [hM.gn] at c1; rw [hM.fn] at c2; rw [hsn] at c3
  refine ⟨gb, go_, q.gc, fb, fo, q.fc, slb, slo, F.slots.cap, g.name, g.pa, g.pc, ⟨by omega, by omega, by omega, by omega⟩, fun W hW => ?_⟩
  have p0 := hW.cell0 (hqa 0 _ rfl)
  have p1 := hW.cell0 (hqa 1 _ rfl)
  have f3 := hW.cell0 (hfc0 3 _ rfl)
  have s0 := hW.cell0 hsc
  have g0 := hW.cell0 (hgc0 0 _ rfl)
  have g1 := hW.cell0 (hgc0 1 _ rfl)
  have g2 := hW.cell0 (hgc0 2 _ rfl)
  rw [ga, hM.gn] at p0
  rw [fa, hM.fn] at p1
  rw [Sl.v, sa, hsn] at f3
  rw [hs] at g1
  rw [hpn] at g2
  simp only [Nat.zero_mul, Nat.add_zero] at p0 p1 f3 s0 g0 g1 g2
  exact ⟨p0, p1, f3, s0, g0, g1, g2⟩
theorem sxm_of {q : Pg} {pb g M sb sc lb lc ib ic : Nat} {vin : Value} {fuel : Int} {w4 w6 : World} {B : Nat} (hst : w6.ownsRow B 2 1 (.slice (some ⟨sb, 0, none⟩) 1 sc) 1 (irow [0])) (hsl : w6.ownsRow B 25 1 (.slice (some ⟨lb, 0, none⟩) 1 lc) 1 [.slice (some ⟨ib, 0, none⟩) 1 ic]) (hib : w6.ownsRow B 2 1 (.slice (some ⟨ib, 0, none⟩) 1 ic) 1 (irow [32])) (hM : MemP q) :
    SxM ⟨q, pb, g, 0, vin, fuel, .slice (some ⟨sb, 0, none⟩) 1 sc, .slice (some ⟨lb, 0, none⟩) 1 lc, M, w4, w6, fun q => q = sb ∨ q = lb ∨ q = ib⟩ := by
  refine ⟨⟨sb, sc, rfl, own_cap hst, .inl rfl, (hst.cellAt 0 (by omega)).trans rfl⟩, ⟨lb, lc, ib, ic, rfl, own_cap hsl, .inr (.inl rfl), (hsl.cellAt 0 (by omega)).trans rfl, own_cap hib, .inr (.inr rfl), (hib.cellAt 0 (by omega)).trans rfl⟩, hM.gn, ?_⟩
  obtain ⟨g', hg, hs, _⟩ := hM.gl
  exact ⟨g', hg, hs⟩
/-- A step, wherever the run lies. -/
def StepsToM (fl : List Fx) (fuel : Int) (s s' : St) : Prop := ∀ (X : Sx) (w : World) (c : Cs), SxOk X → SxM X → X.P.fl = fl → X.fuel = fuel → MAt X w c s → Calls Tryd.prog 43 #[.pointer (some ⟨X.M, 0, none⟩)] w (StepTo X s')
inductive RunsM (fl : List Fx) (fuel : Int) : Nat → St → St → Prop
  | done (s : St) (h : s.kind ≠ 0) : RunsM fl fuel 0 s s
  | step (n : Nat) (s s' t : St) (h : s.kind = 0) (hs : StepsToM fl fuel s s') (hr : RunsM fl fuel n s' t) : RunsM fl fuel (n + 1) s t
theorem RunsM.inv0 {fl : List Fx} {fuel : Int} {k : Nat} {s t : St} (h : RunsM fl fuel k s t) (hk : s.kind = 0) : ∃ k' s', k = k' + 1 ∧ StepsToM fl fuel s s' ∧ RunsM fl fuel k' s' t := by
  cases h with
  | done _ h => exact absurd hk h
  | step n _ s' _ _ hs hr => exact ⟨n, s', rfl, hs, hr⟩
theorem RunsM.inv1 {fl : List Fx} {fuel : Int} {k : Nat} {s t : St} (h : RunsM fl fuel k s t) (hk : s.kind ≠ 0) : s = t := by
  cases h with
  | done _ h => rfl
  | step n _ s' _ h0 hs hr => exact absurd h0 hk
def St.startM : St := ⟨[], [], [], zero32, [], 0, 0, 0, 0⟩
set_option maxRecDepth 100000 in
set_option maxHeartbeats 12800000 in
theorem run_mem (p : Pg) (w : World) (hpo : PgOk w p) (L : Laid w) (hok : p.ok = true) (hfew : fewRegs p) (hpl : MemP p) (ia : Option Addr) (il ic : Nat) (hil : il ≤ 4096) (fuel : Int) (hfu : 0 ≤ fuel ∧ fuel ≤ 1048576)
    (hm : p.main = 0) (F : Fx) (hF : p.fl[0]? = some F) (R : Nat) (hR : F.regs = R) (hR1 : 1 ≤ R ∧ R ≤ 256) (n : Nat) (sF : St) (hr : RunsM p.fl fuel n (St.startM.enterM 0 R (-1)) sF) :
    Calls Tryd.prog 22 #[pv p, .slice ia il ic, .int .i64 fuel] w fun e w' => ∃ vo, e = .returned (.agg #[.int .i64 sF.kind, .int .i64 sF.code, vo]) ∧ w'.ownsRow w.heap.size 5 1 vo sF.out.length (brow sF.out) ∧ Keeps No w w' := by
  have HC := Lib.hid (fun (W : World) (hk : Keeps No w W) => check_any p W (hpo.no hk) (L.no hk))
  have HPK := Lib.hid (fun (W : World) (hk : Keeps No w W) => packed_any p W (hpo.no hk) (by have := (List.getElem?_eq_some_iff.1 hF).1; rw [hpo.flen] at this; omega) (by rw [hpl.fn]; omega) hfew)
  rw [hok] at HC
  have HPO := Lib.hid hpo
  have HPL := Lib.hid hpl
  have HF := Lib.hid (And.intro hm (And.intro hF (And.intro hR hR1)))
  have HR := Lib.hid hr
  obtain ⟨ga, hga⟩ : ∃ A, p.ga = A := ⟨_, rfl⟩
  obtain ⟨gn, hgn⟩ : ∃ A, p.gn = A := ⟨_, rfl⟩
  obtain ⟨gc, hgc⟩ : ∃ A, p.gc = A := ⟨_, rfl⟩
  obtain ⟨fa, hfa⟩ : ∃ A, p.fa = A := ⟨_, rfl⟩
  obtain ⟨fn, hfn'⟩ : ∃ A, p.fn = A := ⟨_, rfl⟩
  obtain ⟨fc, hfc⟩ : ∃ A, p.fc = A := ⟨_, rfl⟩
  unfold pv
  unfold pv at HC
  rw [hga, hgn, hgc, hfa, hfn', hfc, hm]
  rw [hga, hgn, hgc, hfa, hfn', hfc, hm] at HC
  rw [hfa, hfn', hfc] at HPK
  have HG := Lib.hid (And.intro hga (And.intro hgn (And.intro hgc (And.intro hfa (And.intro hfn' hfc)))))
  clear hpo L hok hfew hpl hm hF hR hR1 hr hga hgn hgc hfa hfn' hfc
  have u1 : ¬ fuel < 0 := by omega
  have u2 : ¬ 1048576 < fuel := by omega
  have u3 : ¬ 4096 < (il : Int) := by omega
  go_enter Tryd.func22, Tryd.ntmps22
  go_wp2_with fail
  obtain ⟨pb, hpb⟩ : ∃ q, w.heap.size = q := ⟨_, rfl⟩
  obtain ⟨w1, hw1⟩ : ∃ W, (w.alloc (.cells #[.slice ga gn gc, .slice fa fn fc, .int .i64 0] 36)).alloc (.cells #[.int .i64 0, .int .i64 0, .slice none 0 0] 57) = W := ⟨_, rfl⟩
  have hk1 : Keeps No w w1 := by rw [← hw1]; exact ((Keeps.refl _ _).alloc _).alloc _
  have hrp : w1.heap[pb]? = some (.cells #[.slice ga gn gc, .slice fa fn fc, .int .i64 0] 36 (0, 0)) := by
    rw [← hw1, Below.heap_alloc _ _ _ (by simp; omega), ← hpb]; exact heap_alloc_new _ _
  have hro : w1.heap[pb + 1]? = some (.cells #[.int .i64 0, .int .i64 0, .slice none 0 0] 57 (0, 0)) := by
    rw [← hw1, ← hpb]
    have := heap_alloc_new (w.alloc (.cells #[.slice ga gn gc, .slice fa fn fc, .int .i64 0] 36)) (.cells #[.int .i64 0, .int .i64 0, .slice none 0 0] 57)
    simpa using this
  rw [hw1]
  simp only [hpb]
  refine (HC.out w1 hk1).mono ?_
  rintro e w2 ⟨rfl, hk2⟩
  have hrp2 := (hk2.block pb (Array.getElem?_eq_some_iff.1 hrp).1 (fun e => e)).trans hrp
  have hro2 := (hk2.block (pb + 1) (Array.getElem?_eq_some_iff.1 hro).1 (fun e => e)).trans hro
  have HK2 := Lib.hid (hk1.trans hk2 (fun _ _ e => e))
  have HRP2 := Lib.hid hrp2
  have HRO2 := Lib.hid hro2
  have HPB := Lib.hid hpb
  have b1 : w2.cell? ⟨pb, 1, none⟩ = some (.slice fa fn fc) := by rw [cell_of_row w2 pb 1 _ _ _ hrp2]; rfl
  clear hk1 hk2 hrp hro hrp2 hro2 hw1 hpb HC
  go_wp2_with fail
  refine (HPK.out w2 HK2.out).mono ?_
  rintro e w3 ⟨g, cap, rfl, ho, hk3⟩
  have hrp3 := (hk3.block pb (Array.getElem?_eq_some_iff.1 HRP2.out).1 (fun e => e)).trans HRP2.out
  have hro3 := (hk3.block (pb + 1) (Array.getElem?_eq_some_iff.1 HRO2.out).1 (fun e => e)).trans HRO2.out
  have HK3 := Lib.hid (HK2.out.trans hk3 (fun _ _ e => e))
  have HRP3 := Lib.hid hrp3
  have HRO3 := Lib.hid hro3
  have HO3 := Lib.hid ho
  have HS3 : Hid (pb + 1 < w2.heap.size) := Lib.hid (Array.getElem?_eq_some_iff.1 HRO2.out).1
  have b1' : w3.cell? ⟨pb, 1, none⟩ = some (.slice fa fn fc) := by rw [cell_of_row w3 pb 1 _ _ _ hrp3]; rfl
  have f1' : w3.frozen? ⟨pb, 1, none⟩ = false := frozen_of_row w3 pb 1 _ _ hrp3
  clear hk3 hrp3 hro3 ho HPK b1 HRP2 HRO2
  go_wp2_with fail
  obtain ⟨w4, hw4⟩ : ∃ W, w3.setCell ⟨pb, 1, none⟩ (.slice (some ⟨g, 0, none⟩) fn cap) = W := ⟨_, rfl⟩
  have hsz : w4.heap.size = w3.heap.size := by rw [← hw4]; simp [World.setCell]
  have hrp4 : w4.heap[pb]? = some (.cells #[.slice ga gn gc, .slice (some ⟨g, 0, none⟩) fn cap, .int .i64 0] 36 (0, 0)) := by
    rw [← hw4, heap_setCell_same w3 pb 1 _ _ _ HRP3.out]; rfl
  have hro4 : w4.heap[pb + 1]? = some (.cells #[.int .i64 0, .int .i64 0, .slice none 0 0] 57 (0, 0)) := by
    rw [← hw4, Below.heap_setCell _ _ _ _ (by simp)]; exact HRO3.out
  have hk4 : Keeps No w w4 := by rw [← hw4]; exact HK3.out.setCell (.inr (by rw [HPB.out]; exact Nat.le_refl _)) _
  have hgb : w2.heap.size ≤ g ∧ g < w3.heap.size := HO3.out.lt g rfl
  have hgpb : g ≠ pb := by have := HS3.out; omega
  have ho4 : w4.ownsRow w2.heap.size 42 6 (.slice (some ⟨g, 0, none⟩) fn cap) fn (p.fl.flatMap Fx.cells) := by
    rw [← hw4]; exact own_far HO3.out (by simp [Value.ownBlock]; exact hgpb) _
  have hQ : PgOk w4 (p.re g cap) := (HPO.out.no hk4).re (by rw [HG.out.2.2.2.2.1]; exact ho4)
  have hQa : (p.re g cap).at_ w4 pb 0 := fun j v hj => by
    rw [Nat.zero_add, cell_of_row w4 pb j _ _ _ hrp4, List.getElem?_toArray]
    unfold Pg.cells Pg.re at hj
    simp only [HG.out.1, HG.out.2.1, HG.out.2.2.1, HG.out.2.2.2.2.1, HF.out.1] at hj
    exact hj
  have hQp : MemP (p.re g cap) := ⟨HPL.out.gn, HPL.out.fn, HPL.out.gl, HPL.out.fl⟩
  rw [hw4, ← hsz]
  obtain ⟨M, hM⟩ : ∃ q, w4.heap.size = q := ⟨_, rfl⟩
  rw [hM]
  have hM5 : (w4.alloc (.cells (rawc pb (.slice ia il ic) fuel nil nil nil) 84)).heap[M]? = some (.cells (rawc pb (.slice ia il ic) fuel nil nil nil) 84 (0, 0)) := by
    rw [← hM]; exact heap_alloc_new _ _
  have hka : Keeps No w4 (w4.alloc (.cells (rawc pb (.slice ia il ic) fuel nil nil nil) 84)) := (Keeps.refl _ _).alloc _
  have hMpb : pb + 1 < M := by have := HS3.out; omega
  have hgM : g < M := by omega
  obtain ⟨gb, go_, gc', fb, fo, fc', slb, slo, slc, nm, pa, pc, hcaps, hfill⟩ := fillAt_of hQ hQa hQp
  refine (fillM w4 _ hka M pb gb go_ gc' fb fo fc' slb slo slc nm pa pc (.slice ia il ic) fuel hcaps hfill hM5 (by omega)).mono ?_
  rintro e w6 ⟨rfl, sb, sc, lb, lc, ib, ic2, db, dc, hM6, hk46, hst6, hsl6, hib6, hd6⟩
  have hM6' : M < w6.heap.size := (Array.getElem?_eq_some_iff.1 hM6).1
  have hsz5 : (w4.alloc (.cells (rawc pb (.slice ia il ic) fuel nil nil nil) 84)).heap.size = M + 1 := by rw [← hM]; simp
  rw [hsz5] at hst6 hsl6 hib6 hd6
  obtain ⟨X, hX⟩ : ∃ X : Sx, X = ⟨p.re g cap, pb, g, 0, .slice ia il ic, fuel, .slice (some ⟨sb, 0, none⟩) 1 sc, .slice (some ⟨lb, 0, none⟩) 1 lc, M, w4, w6, fun q => q = sb ∨ q = lb ∨ q = ib⟩ := ⟨_, rfl⟩
  have hXok : SxOk X := by rw [hX]; exact ⟨hQ, hQa, rfl⟩
  have hXM' : SxM X := by
    rw [hX]
    exact sxm_of hst6 hsl6 hib6 hQp
  have hdn : ∀ q, db = q → ¬ (q = sb ∨ q = lb ∨ q = ib) := fun q hq e => by
    subst hq
    rcases e with e | e | e
    · exact own_ne2 hst6 hd6 (by decide) rfl (by rw [e]; rfl)
    · exact own_ne2 hsl6 hd6 (by decide) rfl (by rw [e]; rfl)
    · exact own_ne2 hib6 hd6 (by decide) rfl (by rw [e]; rfl)
  have hXM : MAt X w6 ⟨nil, nil, nil, .slice (some ⟨db, 0, none⟩) 32 dc, nil⟩ St.startM := by
    rw [hX]
    refine ⟨hM6, ⟨World.ownsRow_nil _ _ _ _, World.ownsRow_nil _ _ _ _, World.ownsRow_nil _ _ _ _, own_mono hd6 (by show w4.heap.size ≤ M + 1; omega), World.ownsRow_nil _ _ _ _, hk46, Keeps.refl _ _, (fun q e => by cases e), (fun q e => by cases e), (fun q e => by cases e), (fun q e => hdn q (by simpa [Value.ownBlock] using e)), (fun q e => by cases e), (fun q e => by cases e), (fun q e => by cases e), (fun q e1 e2 => by cases e2)⟩, ⟨by rw [← hM]; exact Nat.le_refl _, fun e => ?_⟩, fun q e => ?_⟩
    · have h1 := (hst6.lt sb rfl).1
      have h2 := (hsl6.lt lb rfl).1
      have h3 := (hib6.lt ib rfl).1
      have e' : M = sb ∨ M = lb ∨ M = ib := e
      omega
    · have h1 := (hst6.lt sb rfl).2
      have h2 := (hsl6.lt lb rfl).2
      have h3 := (hib6.lt ib rfl).2
      have e' : q = sb ∨ q = lb ∨ q = ib := e
      show q < w6.heap.size
      omega
  have hXP : X.P.fl = p.fl := by rw [hX]; rfl
  have hXf : X.fuel = fuel := by rw [hX]
  have hXMM : X.M = M := by rw [hX]
  have hXw : X.w0 = w4 := by rw [hX]
  have HX := Lib.hid (And.intro hXok (And.intro hXP (And.intro hXf (And.intro hXMM (And.intro hXw hXM')))))
  have HXM := Lib.hid hXM
  have HRP4 := Lib.hid hrp4
  have HRO4 := Lib.hid hro4
  have HK4 := Lib.hid hk4
  have HK46 := Lib.hid hk46
  have b2 : w6.cell? ⟨pb, 2, none⟩ = some (.int .i64 0) := hk46.cell0 (by rw [cell_of_row w4 pb 2 _ _ _ hrp4]; rfl)
  have hFs : ∃ sa sc', F.slots.a = sa ∧ F.slots.n = 1 ∧ F.slots.cap = sc' := by
    obtain ⟨F', hF1, _, hF3⟩ := HPL.out.fl
    have : F = F' := by have h := HF.out.2.1; rw [hF1] at h; exact (Option.some.inj h).symm
    subst this
    exact ⟨_, _, rfl, hF3, rfl⟩
  obtain ⟨fsa, fsc, hFs⟩ := hFs
  have HE := Lib.hid (enterM X hXok hXM' w6 _ _ hXM F (by rw [hXP]; exact HF.out.2.1) (by rw [hX]; exact HPL.out.fn) fsa fsc hFs R HF.out.2.2.1 HF.out.2.2.2 rfl (-1) (by simp [St.startM]) (by simp [St.startM]))
  rw [hXMM] at HE
  have HHM : Hid (pb + 1 < M) := Lib.hid hMpb
  clear hsz hrp4 hro4 hk4 hgb hgpb ho4 hQ hQa hQp hM5 hka hMpb hgM hM6 hd6 hk46 hM6' hX hXok hXM hXM' hst6 hsl6 hib6 hdn hFs hfill hcaps hsz5 hXP hXf hXMM hXw hw4 hM b1' f1'
  go_wp2_with fail
  refine HE.out.mono ?_
  rintro e w7 ⟨rfl, c7, h7⟩
  have H7 := Lib.hid h7
  clear h7 HE b2
  go_wp2_with fail
  go_loopg [] n (fun gk wr => ∃ (c : Cs) (s : St), Hid (MAt X wr c s) ∧ Hid (RunsM p.fl fuel gk s sF))
  case atStart => exact ⟨_, _, H7, HR⟩
  case round =>
    obtain ⟨c, s, HS, HRU⟩ := hrel
    have m12 : wr.cell? ⟨X.M, 12, none⟩ = some (.int .i64 s.kind) := HS.out.cell 12 _ rfl
    rw [HX.out.2.2.2.1] at m12
    by_cases hkd : s.kind = 0
    · rw [hkd] at m12
      obtain ⟨gk', s', hg', hst, hrr⟩ := HRU.out.inv0 hkd
      have HRR := Lib.hid hrr
      have HST := Lib.hid (hst X wr c HX.out.1 HX.out.2.2.2.2.2 HX.out.2.1 HX.out.2.2.1 HS.out)
      have HGK := Lib.hid hg'
      rw [HX.out.2.2.2.1] at HST
      clear hkd hg' hst hrr
      go_wp2_with fail
      refine HST.out.mono ?_
      rintro e w8 ⟨rfl, c8, h8⟩
      have H8 := Lib.hid h8
      clear h8 m12
      go_wp2_with fail
      go_roundg gk'
      case rel => exact ⟨_, _, H8, HRR⟩
      case measure => rw [HGK.out]; omega
    · have hf : (s.kind == 0) = false := beq_eq_false_iff_ne.2 hkd
      have HFE : Hid (s = sF) := Lib.hid (HRU.out.inv1 hkd)
      have m13 : wr.cell? ⟨X.M, 13, none⟩ = some (.int .i64 s.code) := HS.out.cell 13 _ rfl
      have m9 : wr.cell? ⟨X.M, 9, none⟩ = some c.out := HS.out.cell 9 _ rfl
      obtain ⟨oa, oc, hoe, _⟩ := own_form HS.out.rows.o
      obtain ⟨on, hon⟩ : ∃ q, s.out.length = q := ⟨_, rfl⟩
      rw [hoe, hon] at m9
      rw [HX.out.2.2.2.1] at m13 m9
      rw [hon] at hoe
      have HOE := Lib.hid (And.intro hoe hon)
      clear hoe hon
      have hk0 : Keeps No w4 wr := by rw [← HX.out.2.2.2.2.1]; exact HS.out.rows.k0
      have hro := (hk0.block (pb + 1) (Array.getElem?_eq_some_iff.1 HRO4.out).1 (fun e => e)).trans HRO4.out
      have HRO := Lib.hid hro
      have HKR := Lib.hid (HK4.out.trans hk0 (fun _ _ e => e))
      have r0 : wr.cell? ⟨pb + 1, 0, none⟩ = some (.int .i64 0) := by rw [cell_of_row wr (pb + 1) 0 _ _ _ hro]; rfl
      have r1 : wr.cell? ⟨pb + 1, 1, none⟩ = some (.int .i64 0) := by rw [cell_of_row wr (pb + 1) 1 _ _ _ hro]; rfl
      have r2 : wr.cell? ⟨pb + 1, 2, none⟩ = some (.slice none 0 0) := by rw [cell_of_row wr (pb + 1) 2 _ _ _ hro]; rfl
      have f0 : wr.frozen? ⟨pb + 1, 0, none⟩ = false := frozen_of_row wr _ 0 _ _ hro
      have f1 : wr.frozen? ⟨pb + 1, 1, none⟩ = false := frozen_of_row wr _ 1 _ _ hro
      have f2 : wr.frozen? ⟨pb + 1, 2, none⟩ = false := frozen_of_row wr _ 2 _ _ hro
      clear hkd hro hk0
      go_wp2_with fail
      obtain ⟨w9, hw9⟩ : ∃ W, ((wr.setCell ⟨pb + 1, 0, none⟩ (.int .i64 s.kind)).setCell ⟨pb + 1, 1, none⟩ (.int .i64 s.code)).setCell ⟨pb + 1, 2, none⟩ (.slice oa on oc) = W := ⟨_, rfl⟩
      rw [hw9]
      have hr9 : w9.heap[pb + 1]? = some (.cells #[.int .i64 s.kind, .int .i64 s.code, .slice oa on oc] 57 (0, 0)) := by rw [← hw9]; exact out_cells wr _ _ _ _ _ _ _ _ HRO.out
      have hpw : w.heap.size ≤ pb + 1 := by rw [HPB.out]; omega
      have hk9 : Keeps No w w9 := by
        rw [← hw9]; exact ((HKR.out.setCell (.inr hpw) _).setCell (.inr hpw) _).setCell (.inr hpw) _
      have ho9 : w9.ownsRow w.heap.size 5 1 (.slice oa on oc) s.out.length (brow s.out) := by
        have ho := HS.out.rows.o
        rw [HOE.out.1] at ho
        have hne : (Value.slice oa on oc).ownBlock ≠ some (pb + 1) := own_ne ho HRO.out (by decide)
        have hbb : w.heap.size ≤ X.B := by have := HK4.out.size; unfold Sx.B; rw [HX.out.2.2.2.2.1]; exact this
        rw [← hw9]
        exact own_mono (own_far (own_far (own_far ho hne _) hne _) hne _) hbb
      have q0 : w9.cell? ⟨pb + 1, 0, none⟩ = some (.int .i64 s.kind) := by rw [cell_of_row w9 _ 0 _ _ _ hr9]; rfl
      have q1 : w9.cell? ⟨pb + 1, 1, none⟩ = some (.int .i64 s.code) := by rw [cell_of_row w9 _ 1 _ _ _ hr9]; rfl
      have q2 : w9.cell? ⟨pb + 1, 2, none⟩ = some (.slice oa on oc) := by rw [cell_of_row w9 _ 2 _ _ _ hr9]; rfl
      rw [HFE.out] at q0 q1 ho9
      refine bodyPost_ret (v := .agg #[.int .i64 sF.kind, .int .i64 sF.code, .slice oa on oc]) ?_ ?_ ⟨_, rfl, ho9, hk9⟩
      · simp [results, Tryd.results22, go_sem, q0, q1, q2]
      · rfl
end Go.Proofs.YtbfjmhfhhlncjaaDoor
