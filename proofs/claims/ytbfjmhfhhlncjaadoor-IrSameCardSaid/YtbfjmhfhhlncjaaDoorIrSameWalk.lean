/- The law IrSame: walked. -/
import Derived.Test.YtbfjmhfhhlncjaaDoorIrMuS
import Derived.Test.YtbfjmhfhhlncjaaDoorIrRCopy
import Derived.Test.YtbfjmhfhhlncjaaDoorIrCopyG
import Derived.Test.YtbfjmhfhhlncjaaDoorIrAwake
import Derived.Deep.CutBlock
import Derived.Deep.DeepCutAuto
namespace Go.Proofs.YtbfjmhfhhlncjaaDoor
open Go.RowKit
set_option linter.unusedVariables false
set_option linter.unusedSimpArgs false

theorem PgOk.low {w w' : World} {p : Pg} (h : PgOk w p) (hk : Keeps No w w') : PgOk w' p := h.no hk
theorem own_map {w : World} {B n c : Nat} {e : TypeId} {va : Option Addr} {l : List Bx} (h : w.ownsRow B e 1 (.slice va n c) n (l.map Bx.v)) (hl : l.length = n) {k : Nat} (hk : k < n) : ∃ b off x, va = some ⟨b, off, none⟩ ∧ l[k]? = some x ∧ w.cell? ⟨b, off + k, none⟩ = some x.v := by
  obtain ⟨aa, ca, e, hg⟩ := own_form h
  obtain ⟨g, rfl⟩ := hg (by omega)
  injection e with e1 e2 e3
  subst e1
  obtain ⟨x, hx⟩ : ∃ x, l[k]? = some x := ⟨_, List.getElem?_eq_getElem (by omega)⟩
  refine ⟨g, 0, x, rfl, hx, ?_⟩
  rw [Nat.zero_add]
  exact (h.cellAt k (by omega)).trans (by rw [List.getElem?_map, hx]; rfl)
theorem IShape.get {w : World} {S : Nat → Prop} {ta : Option Addr} {tn tc m : Nat} (h : IShape w S (.slice ta tn tc) tn) (hm : m < tn) : ∃ g cur, ta = some ⟨g, 0, none⟩ ∧ S g ∧ w.heap[g]? = some (.cells cur 27 (0, 0)) ∧ IAt w S cur m := by
  rcases h with ⟨_, h⟩ | ⟨g, cap, cur, h1, h2, h3, h4, h5, h6⟩
  · omega
  · injection h1 with h1 _ _
    exact ⟨g, cur, h1, h2, h3, h6 m hm⟩
theorem IShape.cap {w : World} {S : Nat → Prop} {ta : Option Addr} {tn tc : Nat} (h : IShape w S (.slice ta tn tc) tn) : tn ≤ maxLen := by
  rcases h with ⟨_, h⟩ | ⟨g, cap, cur, h1, h2, h3, h4, h5, h6⟩
  · rw [h]; exact Nat.zero_le _
  · omega
theorem PShape.get {w : World} {S : Nat → Prop} {ta : Option Addr} {tn tc m : Nat} (h : PShape w S (.slice ta tn tc) tn) (hm : m < tn) : ∃ g cur z, ta = some ⟨g, 0, none⟩ ∧ S g ∧ w.heap[g]? = some (.cells cur 51 (0, 0)) ∧ cur[m * 4]? = some (.int .i64 z) := by
  rcases h with ⟨_, h⟩ | ⟨g, cap, cur, h1, h2, h3, h4, h5, h6⟩
  · omega
  · injection h1 with h1 _ _
    obtain ⟨z, hz⟩ := h6 m hm
    exact ⟨g, cur, z, h1, h2, h3, hz⟩
theorem PShape.cap {w : World} {S : Nat → Prop} {ta : Option Addr} {tn tc : Nat} (h : PShape w S (.slice ta tn tc) tn) : tn ≤ maxLen := by
  rcases h with ⟨_, h⟩ | ⟨g, cap, cur, h1, h2, h3, h4, h5, h6⟩
  · rw [h]; exact Nat.zero_le _
  · omega
set_option maxRecDepth 100000 in
set_option maxHeartbeats 12800000 in
theorem same_walk (p q : Pg) (by_ : Int) (w : World) (L : Laid w) (hp : PgOk w p) (hq : PgOk w q) : Calls Tryd.prog 4 #[pv p, pv q, .int .i64 by_] w fun e w' => e = .returned (.bool true) ∧ Keeps No w w' := by
  have HL := Lib.hid L
  have HP := Lib.hid hp
  have HQ := Lib.hid hq
  have HGP := Lib.hid (fun (W : World) (hk : Keeps No w W) => great_prog p W (hp.no hk))
  have HGQ := Lib.hid (fun (W : World) (hk : Keeps No w W) => great_prog q W (hq.no hk))
  have HCP := Lib.hid (fun (W : World) (hk : Keeps No w W) (h : SmallPg p) => copy_any p W (hp.no hk) h.1 h.2.1 h.2.2.1 h.2.2.2)
  have HRP := Lib.hid (fun (W : World) (hk : Keeps No w W) (h : SmallPg p) => rcopy_any p W (hp.no hk) h.1 h.2.1 h.2.2.1 h.2.2.2)
  have HS := Lib.hid (fun (x y : Pg) (W : World) (hx : PgOk W x) (hy : PgOk W y) => same_any x y W hx hy)
  have HR := Lib.hid (fun (x y : Pg) (W : World) (hx : PgOk W x) (hy : PgOk W y) => rsame_any x y W hx hy)
  clear L hp hq
  obtain ⟨ga, gn, gc, gl, fa, fn, fc, fl, mn⟩ := p
  obtain ⟨ha, hn, hc, hl, ka, kn, kc, kl, nn⟩ := q
  unfold pv at HGP HGQ HCP HRP ⊢
  simp only at HGP HGQ HCP HRP ⊢
  obtain ⟨B0, hB0⟩ : ∃ q, w.heap.size = q := ⟨_, rfl⟩
  have HB0 := Lib.hid hB0
  obtain ⟨w1, hw1⟩ : ∃ W, (w.alloc (.cells #[.slice ga gn gc, .slice fa fn fc, .int .i64 mn] 36)).alloc (.cells #[.slice ha hn hc, .slice ka kn kc, .int .i64 nn] 36) = W := ⟨_, rfl⟩
  have hk1 : Keeps No w w1 := by rw [← hw1]; exact ((Keeps.refl No w).alloc _).alloc _
  have HK1 := Lib.hid hk1
  have hrp : w1.heap[B0]? = some (.cells #[.slice ga gn gc, .slice fa fn fc, .int .i64 mn] 36 (0, 0)) := by
    rw [← hw1, ← hB0, Below.heap_alloc _ _ _ (by simp)]; exact heap_alloc_new _ _
  have hrq : w1.heap[B0 + 1]? = some (.cells #[.slice ha hn hc, .slice ka kn kc, .int .i64 nn] 36 (0, 0)) := by
    rw [← hw1, ← hB0]
    exact (by simpa using heap_alloc_new (w.alloc (.cells #[.slice ga gn gc, .slice fa fn fc, .int .i64 mn] 36)) (.cells #[.slice ha hn hc, .slice ka kn kc, .int .i64 nn] 36))
  have HROW := Lib.hid (And.intro hrp hrq)
  have HW1 := Lib.hid hw1
  clear hw1 hk1 hrp hrq hB0
  go_enter Tryd.func4, Tryd.ntmps4
  go_wp2_with fail
  rw [HW1.out]
  refine (HGP.out _ HK1.out).mono ?_
  rintro e w2 ⟨g1, rfl, hs1, hk2⟩
  have HS1 := Lib.hid hs1
  have HK2 := Lib.hid hk2
  have HKW2 := Lib.hid (HK1.out.trans hk2 (fun _ _ e => e))
  clear hs1 hk2
  cases g1 with
  | true =>
    go_wp2_with fail
    refine (awake_any _ (HL.out.no HKW2.out)).mono ?_
    rintro e w5 ⟨rfl, hk5⟩
    have HK5 := Lib.hid (HKW2.out.trans hk5 (fun _ _ e => e))
    clear hk5
    go_wp2_with fail
    go_returns
    exact ⟨rfl, HK5.out⟩
  | false =>
    have q0 : w2.cell? ⟨B0 + 1, 0, none⟩ = some (.slice ha hn hc) := HK2.out.cell0 (by rw [cell_of_row w1 _ 0 _ _ _ HROW.out.2]; rfl)
    have q1 : w2.cell? ⟨B0 + 1, 1, none⟩ = some (.slice ka kn kc) := HK2.out.cell0 (by rw [cell_of_row w1 _ 1 _ _ _ HROW.out.2]; rfl)
    have q2 : w2.cell? ⟨B0 + 1, 2, none⟩ = some (.int .i64 nn) := HK2.out.cell0 (by rw [cell_of_row w1 _ 2 _ _ _ HROW.out.2]; rfl)
    simp only [HB0.out]
    go_wp2_with fail
    refine (HGQ.out _ HKW2.out).mono ?_
    rintro e w3 ⟨g2, rfl, hs2, hk3⟩
    have HS2 := Lib.hid hs2
    have HK3 := Lib.hid (HK2.out.trans hk3 (fun _ _ e => e))
    have HKW3 := Lib.hid (HKW2.out.trans hk3 (fun _ _ e => e))
    clear hs2 hk3 q0 q1 q2
    cases g2 with
    | true =>
      go_wp2_with fail
      refine (awake_any _ (HL.out.no HKW3.out)).mono ?_
      rintro e w5 ⟨rfl, hk5⟩
      have HK5 := Lib.hid (HKW3.out.trans hk5 (fun _ _ e => e))
      clear hk5
      go_wp2_with fail
      go_returns
      exact ⟨rfl, HK5.out⟩
    | false =>
      have p0 : w3.cell? ⟨B0, 0, none⟩ = some (.slice ga gn gc) := HK3.out.cell0 (by rw [cell_of_row w1 _ 0 _ _ _ HROW.out.1]; rfl)
      have p1 : w3.cell? ⟨B0, 1, none⟩ = some (.slice fa fn fc) := HK3.out.cell0 (by rw [cell_of_row w1 _ 1 _ _ _ HROW.out.1]; rfl)
      have p2 : w3.cell? ⟨B0, 2, none⟩ = some (.int .i64 mn) := HK3.out.cell0 (by rw [cell_of_row w1 _ 2 _ _ _ HROW.out.1]; rfl)
      go_wp2_with fail
      refine (HCP.out _ HKW3.out (HS1.out trivial)).mono ?_
      intro e w4 hcp
      obtain ⟨y, rfl, hy1, hy2, hyo, hk4⟩ := hcp.same
      have HKW4 := Lib.hid (HKW3.out.trans hk4 (fun _ _ e => e))
      have HK4 := Lib.hid (HK3.out.trans hk4 (fun _ _ e => e))
      have HYO := Lib.hid hyo
      obtain ⟨P, hP⟩ : ∃ P : Pg, P = ⟨ga, gn, gc, gl, fa, fn, fc, fl, mn⟩ := ⟨_, rfl⟩
      obtain ⟨Q, hQ⟩ : ∃ P : Pg, P = ⟨ha, hn, hc, hl, ka, kn, kc, kl, nn⟩ := ⟨_, rfl⟩
      obtain ⟨V, hV⟩ : ∃ V, P.same Q = V := ⟨_, rfl⟩
      have hV2 : Q.same P = V := by rw [pg_sym]; exact hV
      have HPA := Lib.hid hP
      have HQA := Lib.hid hQ
      obtain ⟨ya, yn, yc, yl, za, zn, zc, zl, om⟩ := y
      dsimp only [pv]
      obtain ⟨w5, hw5⟩ : ∃ W, w4.alloc (.cells #[.slice ya yn yc, .slice za zn zc, .int .i64 om] 36) = W := ⟨_, rfl⟩
      have hk5 : Keeps No w4 w5 := by rw [← hw5]; exact (Keeps.refl _ _).alloc _
      have HKW5 : Hid (Keeps No w w5) := Lib.hid (HKW4.out.trans hk5 (fun _ _ e => e))
      have HK5 : Hid (Keeps No w1 w5) := Lib.hid (HK4.out.trans hk5 (fun _ _ e => e))
      obtain ⟨C0, hC0⟩ : ∃ q, w4.heap.size = q := ⟨_, rfl⟩
      have hrc : w5.heap[C0]? = some (.cells #[.slice ya yn yc, .slice za zn zc, .int .i64 om] 36 (0, 0)) := by rw [← hw5, ← hC0]; exact heap_alloc_new _ _
      have HRC := Lib.hid hrc
      have HO5 := Lib.hid (hyo.no hk5)
      have HW5 := Lib.hid hw5
      have HC0 := Lib.hid hC0
      have HX1 : Hid (∀ W, Keeps No w5 W → Calls Tryd.prog 17 #[.agg #[.slice ya yn yc, .slice za zn zc, .int .i64 om], .agg #[.slice ga gn gc, .slice fa fn fc, .int .i64 mn]] W fun e w' => e = .returned (.bool true) ∧ Keeps No W w') := Lib.hid (fun W hk => by
        have h := HR.out ⟨ya, yn, yc, yl, za, zn, zc, zl, om⟩ ⟨ga, gn, gc, gl, fa, fn, fc, fl, mn⟩ W (HO5.out.no hk).at_ (HP.out.no (HKW5.out.trans hk (fun _ _ e => e)))
        rw [hy2] at h; exact h)
      have HX2 : Hid (∀ W, Keeps No w5 W → Calls Tryd.prog 18 #[.agg #[.slice ga gn gc, .slice fa fn fc, .int .i64 mn], .agg #[.slice ya yn yc, .slice za zn zc, .int .i64 om]] W fun e w' => e = .returned (.bool true) ∧ Keeps No W w') := Lib.hid (fun W hk => by
        have h := HS.out ⟨ga, gn, gc, gl, fa, fn, fc, fl, mn⟩ ⟨ya, yn, yc, yl, za, zn, zc, zl, om⟩ W (HP.out.no (HKW5.out.trans hk (fun _ _ e => e))) (HO5.out.no hk).at_
        have h1 : (decide (mn = om) && (sameRow Gx.same gl yl && sameRow Fx.same fl zl)) = true := hy1
        simp only at h
        rw [h1] at h; exact h)
      have HX3 : Hid (∀ W, Keeps No w5 W → Calls Tryd.prog 18 #[.agg #[.slice ga gn gc, .slice fa fn fc, .int .i64 mn], .agg #[.slice ha hn hc, .slice ka kn kc, .int .i64 nn]] W fun e w' => e = .returned (.bool V) ∧ Keeps No W w') := Lib.hid (fun W hk => by
        have h := HS.out P Q W (by rw [hP]; exact HP.out.no (HKW5.out.trans hk (fun _ _ e => e))) (by rw [hQ]; exact HQ.out.no (HKW5.out.trans hk (fun _ _ e => e)))
        have h1 : (decide (P.main = Q.main) && (sameRow Gx.same P.gl Q.gl && sameRow Fx.same P.fl Q.fl)) = V := hV
        rw [h1] at h; rw [hP, hQ] at h; exact h)
      have HX4 : Hid (∀ W, Keeps No w5 W → Calls Tryd.prog 17 #[.agg #[.slice ga gn gc, .slice fa fn fc, .int .i64 mn], .agg #[.slice ha hn hc, .slice ka kn kc, .int .i64 nn]] W fun e w' => e = .returned (.bool V) ∧ Keeps No W w') := Lib.hid (fun W hk => by
        have h := HR.out P Q W (by rw [hP]; exact HP.out.no (HKW5.out.trans hk (fun _ _ e => e))) (by rw [hQ]; exact HQ.out.no (HKW5.out.trans hk (fun _ _ e => e)))
        rw [hV] at h; rw [hP, hQ] at h; exact h)
      have HX5 : Hid (∀ W, Keeps No w5 W → Calls Tryd.prog 18 #[.agg #[.slice ha hn hc, .slice ka kn kc, .int .i64 nn], .agg #[.slice ga gn gc, .slice fa fn fc, .int .i64 mn]] W fun e w' => e = .returned (.bool V) ∧ Keeps No W w') := Lib.hid (fun W hk => by
        have h := HS.out Q P W (by rw [hQ]; exact HQ.out.no (HKW5.out.trans hk (fun _ _ e => e))) (by rw [hP]; exact HP.out.no (HKW5.out.trans hk (fun _ _ e => e)))
        have h1 : (decide (Q.main = P.main) && (sameRow Gx.same Q.gl P.gl && sameRow Fx.same Q.fl P.fl)) = V := hV2
        rw [h1] at h; rw [hP, hQ] at h; exact h)
      have HX6 : Hid (∀ W, Keeps No w5 W → Calls Tryd.prog 17 #[.agg #[.slice ha hn hc, .slice ka kn kc, .int .i64 nn], .agg #[.slice ga gn gc, .slice fa fn fc, .int .i64 mn]] W fun e w' => e = .returned (.bool V) ∧ Keeps No W w') := Lib.hid (fun W hk => by
        have h := HR.out Q P W (by rw [hQ]; exact HQ.out.no (HKW5.out.trans hk (fun _ _ e => e))) (by rw [hP]; exact HP.out.no (HKW5.out.trans hk (fun _ _ e => e)))
        rw [hV2] at h; rw [hP, hQ] at h; exact h)
      clear hk4 hyo hcp hw5 hk5 hV hV2 hP hQ hy1 hy2 p0 p1 p2
      go_wp2_with fail
      rw [HW5.out]
      (try simp only [HC0.out])
      have hrp5 := (HK5.out.block B0 (Array.getElem?_eq_some_iff.1 HROW.out.1).1 (fun e => e)).trans HROW.out.1
      have hrq5 := (HK5.out.block (B0 + 1) (Array.getElem?_eq_some_iff.1 HROW.out.2).1 (fun e => e)).trans HROW.out.2
      have HRP5 := Lib.hid hrp5
      have c0 : ∀ u : KW w5, u.W.cell? ⟨C0, 0, none⟩ = some (.slice ya yn yc) := fun u => u.cell (by rw [cell_of_row w5 _ 0 _ _ _ hrc]; rfl)
      have c1 : ∀ u : KW w5, u.W.cell? ⟨C0, 1, none⟩ = some (.slice za zn zc) := fun u => u.cell (by rw [cell_of_row w5 _ 1 _ _ _ hrc]; rfl)
      have c2 : ∀ u : KW w5, u.W.cell? ⟨C0, 2, none⟩ = some (.int .i64 om) := fun u => u.cell (by rw [cell_of_row w5 _ 2 _ _ _ hrc]; rfl)
      have p0 : ∀ u : KW w5, u.W.cell? ⟨B0, 0, none⟩ = some (.slice ga gn gc) := fun u => u.cell (by rw [cell_of_row w5 _ 0 _ _ _ hrp5]; rfl)
      have p1 : ∀ u : KW w5, u.W.cell? ⟨B0, 1, none⟩ = some (.slice fa fn fc) := fun u => u.cell (by rw [cell_of_row w5 _ 1 _ _ _ hrp5]; rfl)
      have p2 : ∀ u : KW w5, u.W.cell? ⟨B0, 2, none⟩ = some (.int .i64 mn) := fun u => u.cell (by rw [cell_of_row w5 _ 2 _ _ _ hrp5]; rfl)
      have q0 : ∀ u : KW w5, u.W.cell? ⟨B0 + 1, 0, none⟩ = some (.slice ha hn hc) := fun u => u.cell (by rw [cell_of_row w5 _ 0 _ _ _ hrq5]; rfl)
      have q1 : ∀ u : KW w5, u.W.cell? ⟨B0 + 1, 1, none⟩ = some (.slice ka kn kc) := fun u => u.cell (by rw [cell_of_row w5 _ 1 _ _ _ hrq5]; rfl)
      have q2 : ∀ u : KW w5, u.W.cell? ⟨B0 + 1, 2, none⟩ = some (.int .i64 nn) := fun u => u.cell (by rw [cell_of_row w5 _ 2 _ _ _ hrq5]; rfl)
      have hne : Nonempty (KW w5) := ⟨KW.of _⟩
      have vv : (V != V) = false := by simp
      clear hrc hrp5 hrq5 hC0
      refine wp_region_class (C := fun W => ∃ u : KW w5, W = u.W) (by kernel_rfl) (by kernel_rfl) ⟨⟨World.drew _, (Keeps.refl _ _).drew⟩, rfl⟩ ?_
      repeat (go_big_quiet_step (first
        | (go_at_call 17; with_reducible refine kw_call _ (HX1.out _ (KW.h _)))
        | (go_at_call 18; with_reducible refine kw_call _ (HX2.out _ (KW.h _)))
        | (go_at_call 18; with_reducible refine kw_call _ (HX3.out _ (KW.h _)))
        | (go_at_call 17; with_reducible refine kw_call _ (HX4.out _ (KW.h _)))
        | (go_at_call 18; with_reducible refine kw_call _ (HX5.out _ (KW.h _)))
        | (go_at_call 17; with_reducible refine kw_call _ (HX6.out _ (KW.h _)))))
      refine wpQuiet_nil ?_
      rintro _ ⟨T, rfl⟩
      have hk6 := T.h
      obtain ⟨w6, hw6⟩ : ∃ W, T.W = W := ⟨_, rfl⟩
      rw [hw6] at hk6 ⊢
      clear hw6 c0 c1 c2 p0 p1 p2 q0 q1 q2 hne vv
      have hrp6 := (hk6.block B0 (Array.getElem?_eq_some_iff.1 HRP5.out).1 (fun e => e)).trans HRP5.out
      have hrc6 := (hk6.block C0 (Array.getElem?_eq_some_iff.1 HRC.out).1 (fun e => e)).trans HRC.out
      have HRP6 := Lib.hid hrp6
      have HRC6 := Lib.hid hrc6
      have HO6 := Lib.hid (HO5.out.no hk6)
      have HKW6 := Lib.hid (HKW5.out.trans hk6 (fun _ _ e => e))
      have p0 : w6.cell? ⟨B0, 0, none⟩ = some (.slice ga gn gc) := by rw [cell_of_row w6 _ 0 _ _ _ hrp6]; rfl
      have p1 : w6.cell? ⟨B0, 1, none⟩ = some (.slice fa fn fc) := by rw [cell_of_row w6 _ 1 _ _ _ hrp6]; rfl
      have p2 : w6.cell? ⟨B0, 2, none⟩ = some (.int .i64 mn) := by rw [cell_of_row w6 _ 2 _ _ _ hrp6]; rfl
      clear hk6 hrp6 hrc6 T
      go_wp2_with fail
      refine (HRP.out _ HKW6.out (HS1.out trivial)).mono ?_
      intro e w7 hcp
      obtain ⟨x, rfl, hx1, hx2, hxo, hk7⟩ := hcp.same
      obtain ⟨xa, xn, xc, xl, va, vn, vc, vl, um⟩ := x
      dsimp only [pv]
      obtain ⟨w8, hw8⟩ : ∃ W, w7.alloc (.cells #[.slice xa xn xc, .slice va vn vc, .int .i64 um] 36) = W := ⟨_, rfl⟩
      have hk8 : Keeps No w7 w8 := by rw [← hw8]; exact (Keeps.refl _ _).alloc _
      have hk68 : Keeps No w6 w8 := hk7.trans hk8 (fun _ _ e => e)
      obtain ⟨D0, hD0⟩ : ∃ q, w7.heap.size = q := ⟨_, rfl⟩
      obtain ⟨T0, hT0⟩ : ∃ q, w6.heap.size = q := ⟨_, rfl⟩
      have HT0 := Lib.hid hT0
      have hrd8 : w8.heap[D0]? = some (.cells #[.slice xa xn xc, .slice va vn vc, .int .i64 um] 36 (0, 0)) := by rw [← hw8, ← hD0]; exact heap_alloc_new _ _
      have HRD8 := Lib.hid hrd8
      have HD0 := Lib.hid hD0
      have HDT : Hid (T0 ≤ D0) := Lib.hid (by rw [← hD0, ← hT0]; exact hk7.size)
      have HXO : Hid (OPg w8 T0 ⟨xa, xn, xc, xl, va, vn, vc, vl, um⟩) := Lib.hid (by rw [← hT0]; exact hxo.no hk8)
      have HX := Lib.hid hx1
      have HKW8 := Lib.hid (HKW6.out.trans hk68 (fun _ _ e => e))
      have HRP8 := Lib.hid ((hk68.block B0 (Array.getElem?_eq_some_iff.1 HRP6.out).1 (fun e => e)).trans HRP6.out)
      have HRC8 := Lib.hid ((hk68.block C0 (Array.getElem?_eq_some_iff.1 HRC6.out).1 (fun e => e)).trans HRC6.out)
      obtain ⟨S, hS⟩ : ∃ S : Nat → Prop, S = fun q => w3.heap.size ≤ q ∧ q < T0 := ⟨_, rfl⟩
      have HSS := Lib.hid hS
      have HCS : Hid (CShape w8 w3.heap.size S ⟨ya, yn, yc, yl, za, zn, zc, zl, om⟩) := Lib.hid (by
        have h6 : CShape w6 w3.heap.size S ⟨ya, yn, yc, yl, za, zn, zc, zl, om⟩ := CShape.of (fun q h1 h2 => by rw [hS]; exact ⟨h1, by rw [← hT0]; exact h2⟩) HO6.out
        exact h6.mu (Mu.of_no hk68))
      have HB3 : Hid (B0 + 1 < w3.heap.size) := Lib.hid (by have h1 := HK3.out.size; have h2 := (Array.getElem?_eq_some_iff.1 HROW.out.2).1; omega)
      clear p0 p1 p2 hk7 hk8 hk68 hrd8 hxo hx1 hx2 hcp hD0 hT0 hS
      have c1 : w8.cell? ⟨C0, 1, none⟩ = some (.slice za zn zc) := by rw [cell_of_row w8 _ 1 _ _ _ HRC8.out]; rfl
      have HC1 : Hid (∀ W, Mu S w8 W → W.cell? ⟨C0, 1, none⟩ = some (.slice za zn zc)) := Lib.hid (fun W h => by rw [cell_of_row W _ 1 _ _ _ (h.row HRC8.out num_pg)]; rfl)
      have HZC := Lib.hid (own_cap HCS.out.f)
      have hzc := HZC.out
      unfold maxLen at hzc
      simp only at hzc
      have HW8 := Lib.hid hw8
      clear hw8
      go_wp2_with fail
      rw [HW8.out]
      go_loopg [9] zn (fun g v wr => ∃ i : Nat, v = .int .i64 (i : Int) ∧ i ≤ zn ∧ g = zn - i ∧ wr.cell? ⟨C0, 1, none⟩ = some (.slice za zn zc) ∧ Hid (Mu S w8 wr))
      case atStart => exact ⟨0, rfl, Nat.zero_le _, rfl, c1, Lib.hid (Mu.refl _ _)⟩
      case round =>
        clear c1
        obtain ⟨i, rfl, hi, hg, c1, HM⟩ := hrel
        by_cases hlt : i < zn
        · have hlt' : (i : Int) < (zn : Int) := by omega
          have ip0 : (0 : Int) ≤ (i : Int) := by omega
          have HCM := Lib.hid (HCS.out.mu HM.out)
          obtain ⟨zb, zo, e, hcell⟩ := own_flat Fx.cells fx_len HCM.out.f HCM.out.flen (show 0 < zn by omega)
          simp only at e hcell
          subst e
          obtain ⟨f, hf⟩ : ∃ f, zl[i]? = some f := ⟨_, List.getElem?_eq_getElem (by have := HCM.out.flen; simp only at this; omega)⟩
          have x3 : wr.cell? ⟨zb, zo + i * 6 + 3, none⟩ = some (.slice f.slots.a f.slots.n f.slots.cap) := hcell i f hf 3 _ rfl
          have hfo := HCM.out.fok f (List.mem_of_getElem? hf)
          have HFO := Lib.hid hfo
          have HF := Lib.hid hf
          have H4 : Hid (∀ W, Mu S w8 W → W.cell? ⟨zb, zo + i * 6 + 4, none⟩ = some (.slice f.ba f.bn f.bc)) := Lib.hid (fun W h => by
            obtain ⟨b, off, e, hc⟩ := own_flat Fx.cells fx_len (HCS.out.mu h).f (HCS.out.mu h).flen (show 0 < zn by omega)
            simp only at e hc
            injection e with e
            injection e with e1 e2
            subst e1; subst e2
            exact hc i f HF.out 4 _ rfl)
          have HFW : Hid (∀ W, Mu S w8 W → W.ownsRow w3.heap.size 45 1 (.slice f.ba f.bn f.bc) f.bn (f.bl.map Bx.v) ∧ f.bl.length = f.bn ∧ ∀ b ∈ f.bl, IShape W S b.v b.n) := Lib.hid (fun W h => ((HCS.out.mu h).fok f (List.mem_of_getElem? HF.out)).2.2)
          have HB0f := own_cap (HFW.out _ HM.out).1
          unfold maxLen at HB0f
          have HOI := Lib.hid (over_ints_mu S f.slots.v f.slots.n wr HFO.out.1 HFO.out.2.1)
          obtain ⟨fnm, fpm, frg, ⟨sa, sn, sc, sl⟩, ba, bn, bc, bl, fvl⟩ := f
          simp only [Sl.v] at x3 H4 HFW HOI HB0f
          clear hcell hf hfo
          go_wp2_with fail
          refine HOI.out.mono ?_
          rintro e w9 ⟨rfl, hm9⟩
          have HM9 := Lib.hid (HM.out.trans hm9)
          clear c1
          have c1 := HC1.out _ HM9.out
          have x4 := H4.out _ HM9.out
          clear hm9 HM HCM HFO HOI x3
          obtain ⟨wA, rfl⟩ : ∃ W, W = wr := ⟨_, rfl⟩
          go_wp2_with fail
          go_loopg [10] bn (fun g2 v wr => ∃ k : Nat, v = .int .i64 (k : Int) ∧ k ≤ bn ∧ g2 = bn - k ∧ wr.cell? ⟨C0, 1, none⟩ = some (.slice (some ⟨zb, zo, none⟩) zn zc) ∧ wr.cell? ⟨zb, zo + i * 6 + 4, none⟩ = some (.slice ba bn bc) ∧ Hid (Mu S w8 wr))
          case atStart => exact ⟨0, rfl, Nat.zero_le _, rfl, c1, x4, HM9⟩
          case round =>
            clear c1 x4
            obtain ⟨k, rfl, hk, hg2, c1, x4, HM⟩ := hrel
            by_cases hkl : k < bn
            · have hkl' : (k : Int) < (bn : Int) := by omega
              have kp0 : (0 : Int) ≤ (k : Int) := by omega
              obtain ⟨bb, bo, b, e, hb, hbc⟩ := own_map (HFW.out _ HM.out).1 (HFW.out _ HM.out).2.1 hkl
              subst e
              have HIS : Hid (∀ W, Mu S w8 W → IShape W S b.v b.n) := Lib.hid (fun W h => (HFW.out _ h).2.2 b (List.mem_of_getElem? hb))
              obtain ⟨ta, tn, tc, tl⟩ := b
              unfold Bx.v at hbc HIS
              simp only at HIS
              have htn := (HIS.out _ HM.out).cap
              unfold maxLen at htn
              clear hb
              go_wp2_with fail
              clear c1 x4 hbc
              obtain ⟨wB, rfl⟩ : ∃ W, W = wr := ⟨_, rfl⟩
              go_loopg [12] tn (fun g3 v wr => ∃ m : Nat, v = .int .i64 (m : Int) ∧ m ≤ tn ∧ g3 = tn - m ∧ Hid (Mu S w8 wr))
              case atStart => exact ⟨0, rfl, Nat.zero_le _, rfl, HM⟩
              case round =>
                obtain ⟨m, rfl, hm, hg3, HMC⟩ := hrel
                by_cases hml : m < tn
                · have hml' : (m : Int) < (tn : Int) := by omega
                  have mp0 : (0 : Int) ≤ (m : Int) := by omega
                  obtain ⟨g, cur, e, hsg, hrow, ⟨_, v1, n1, _, _, _, _, a1, _, _, t1, _, _, b1, _, _⟩⟩ := (HIS.out _ HMC.out).get hml
                  subst e
                  have HSG := Lib.hid hsg
                  have y8 : wr.cell? ⟨g, m * 11 + 8, none⟩ = some v1 := by rw [cell_of_row wr g _ _ _ _ hrow]; exact a1
                  have HO1 := Lib.hid (over_ints_mu S v1 n1 wr t1 b1)
                  clear hrow hsg a1 t1
                  go_wp2_with fail
                  refine HO1.out.mono ?_
                  rintro e wa ⟨rfl, hma⟩
                  have HMA := Lib.hid (HMC.out.trans hma)
                  clear hma y8 HO1
                  obtain ⟨g', cur2, e, _, hrow, ⟨_, _, _, v2, n2, _, _, _, a2, _, _, t2, _, _, b2, _⟩⟩ := (HIS.out _ HMA.out).get hml
                  injection e with e
                  injection e with e
                  subst e
                  have y9 : wa.cell? ⟨g, m * 11 + 9, none⟩ = some v2 := by rw [cell_of_row wa g _ _ _ _ hrow]; exact a2
                  have HO2 := Lib.hid (over_ints_mu S v2 n2 wa t2 b2)
                  clear hrow a2 t2
                  go_wp2_with fail
                  refine HO2.out.mono ?_
                  rintro e wb ⟨rfl, hmb⟩
                  have HMB := Lib.hid (HMA.out.trans hmb)
                  clear hmb y9 HO2
                  obtain ⟨g', cur3, e, _, hrow, ⟨_, _, _, _, _, v3, n3, _, _, a3, _, _, t3, _, _, b3⟩⟩ := (HIS.out _ HMB.out).get hml
                  injection e with e
                  injection e with e
                  subst e
                  have y10 : wb.cell? ⟨g, m * 11 + 10, none⟩ = some v3 := by rw [cell_of_row wb g _ _ _ _ hrow]; exact a3
                  have HO3 := Lib.hid (over_nums_mu S v3 n3 wb t3 b3)
                  clear hrow a3 t3
                  go_wp2_with fail
                  refine HO3.out.mono ?_
                  rintro e wc ⟨rfl, hmc⟩
                  have HMD := Lib.hid (HMB.out.trans hmc)
                  clear hmc y10 HO3
                  obtain ⟨g', cur4, e, _, hrow, ⟨⟨z, hz⟩, _⟩⟩ := (HIS.out _ HMD.out).get hml
                  injection e with e
                  injection e with e
                  subst e
                  have y5 : wc.cell? ⟨g, m * 11 + 5, none⟩ = some (.int .i64 z) := by rw [cell_of_row wc g _ _ _ _ hrow]; exact hz
                  have f5 : wc.frozen? ⟨g, m * 11 + 5, none⟩ = false := frozen_of_row wc g _ _ _ hrow
                  have HRW := Lib.hid hrow
                  clear hrow hz
                  go_wp2_with fail
                  go_roundg (tn - (m + 1))
                  case rel => exact ⟨m + 1, by go_num, by omega, rfl, Lib.hid (HMD.out.setCell HSG.out HRW.out (.inr (.inr (.inr ⟨rfl, by omega⟩))) _)⟩
                  case measure => omega
                · obtain rfl : m = tn := by omega
                  have hml' : ¬ (m : Int) < (m : Int) := by omega
                  have c1 := HC1.out _ HMC.out
                  have x4 := H4.out _ HMC.out
                  go_wp2_with fail
                  go_roundg (bn - (k + 1))
                  case rel => exact ⟨k + 1, by go_num, by omega, rfl, c1, x4, HMC⟩
                  case measure => omega
            · obtain rfl : k = bn := by omega
              have hkl' : ¬ (k : Int) < (k : Int) := by omega
              go_wp2_with fail
              go_roundg (zn - (i + 1))
              case rel => exact ⟨i + 1, by go_num, by omega, rfl, c1, HM⟩
              case measure => omega
        · obtain rfl : i = zn := by omega
          have hlt' : ¬ (i : Int) < (i : Int) := by omega
          have HG0 : Hid (∀ W, Mu S w8 W → W.cell? ⟨C0, 0, none⟩ = some (.slice ya yn yc)) := Lib.hid (fun W h => by rw [cell_of_row W _ 0 _ _ _ (h.row HRC8.out num_pg)]; rfl)
          have hyc := own_cap HCS.out.g
          unfold maxLen at hyc
          simp only at hyc
          have d0 := HG0.out _ HM.out
          obtain ⟨wA, rfl⟩ : ∃ W, W = wr := ⟨_, rfl⟩
          go_wp2_with fail
          clear c1 hlt' hg
          go_loopg [13] yn (fun g v wr => ∃ j : Nat, v = .int .i64 (j : Int) ∧ j ≤ yn ∧ g = yn - j ∧ wr.cell? ⟨C0, 0, none⟩ = some (.slice ya yn yc) ∧ Hid (Mu S w8 wr))
          case atStart => exact ⟨0, rfl, Nat.zero_le _, rfl, d0, HM⟩
          case round =>
            clear d0
            obtain ⟨j, rfl, hj, hg, d0, HMJ⟩ := hrel
            by_cases hjl : j < yn
            · have hjl' : (j : Int) < (yn : Int) := by omega
              have jp0 : (0 : Int) ≤ (j : Int) := by omega
              obtain ⟨yb, yo, e, hcell⟩ := own_flat Gx.cells gx_len (HCS.out.mu HMJ.out).g (HCS.out.mu HMJ.out).glen (show 0 < yn by omega)
              simp only at e hcell
              subst e
              obtain ⟨f, hf⟩ : ∃ f, yl[j]? = some f := ⟨_, List.getElem?_eq_getElem (by have := HCS.out.glen; simp only at this; omega)⟩
              have HF := Lib.hid hf
              have H2 : Hid (∀ W, Mu S w8 W → W.cell? ⟨yb, yo + j * 3 + 2, none⟩ = some (.slice f.pa f.pn f.pc)) := Lib.hid (fun W h => by
                obtain ⟨b, off, e, hc⟩ := own_flat Gx.cells gx_len (HCS.out.mu h).g (HCS.out.mu h).glen (show 0 < yn by omega)
                simp only at e hc
                injection e with e
                injection e with e1 e2
                subst e1; subst e2
                exact hc j f HF.out 2 _ rfl)
              have HPS : Hid (∀ W, Mu S w8 W → PShape W S (.slice f.pa f.pn f.pc) f.pn) := Lib.hid (fun W h => (HCS.out.mu h).gok f (List.mem_of_getElem? HF.out))
              obtain ⟨gnm, gsz, pa, pn, pc, pl⟩ := f
              simp only at H2 HPS
              have hpn := (HPS.out _ HMJ.out).cap
              unfold maxLen at hpn
              have x2 := H2.out _ HMJ.out
              clear hcell hf
              obtain ⟨wB, rfl⟩ : ∃ W, W = wr := ⟨_, rfl⟩
              go_wp2_with fail
              go_loopg [14] pn (fun g2 v wr => ∃ m : Nat, v = .int .i64 (m : Int) ∧ m ≤ pn ∧ g2 = pn - m ∧ wr.cell? ⟨C0, 0, none⟩ = some (.slice (some ⟨yb, yo, none⟩) yn yc) ∧ wr.cell? ⟨yb, yo + j * 3 + 2, none⟩ = some (.slice pa pn pc) ∧ Hid (Mu S w8 wr))
              case atStart => exact ⟨0, rfl, Nat.zero_le _, rfl, d0, x2, HMJ⟩
              case round =>
                clear d0 x2
                obtain ⟨m, rfl, hm, hg2, d0, x2, HMC⟩ := hrel
                by_cases hml : m < pn
                · have hml' : (m : Int) < (pn : Int) := by omega
                  have mp0 : (0 : Int) ≤ (m : Int) := by omega
                  obtain ⟨g, cur, z, e, hsg, hrow, hz⟩ := (HPS.out _ HMC.out).get hml
                  subst e
                  have y0 : wr.cell? ⟨g, m * 4, none⟩ = some (.int .i64 z) := by rw [cell_of_row wr g _ _ _ _ hrow]; exact hz
                  have f0 : wr.frozen? ⟨g, m * 4, none⟩ = false := frozen_of_row wr g _ _ _ hrow
                  have HM2 : Hid (∀ u : Int, Mu S w8 (wr.setCell ⟨g, m * 4, none⟩ (.int .i64 u))) := Lib.hid (fun u => HMC.out.setCell hsg hrow (.inr (.inr (.inl rfl))) u)
                  clear hrow hz hsg
                  go_wp2_with fail
                  go_roundg (pn - (m + 1))
                  case rel => exact ⟨m + 1, by go_num, by omega, rfl, HG0.out _ (HM2.out _), H2.out _ (HM2.out _), HM2.out _⟩
                  case measure => omega
                · obtain rfl : m = pn := by omega
                  have hml' : ¬ (m : Int) < (m : Int) := by omega
                  go_wp2_with fail
                  go_roundg (yn - (j + 1))
                  case rel => exact ⟨j + 1, by go_num, by omega, rfl, d0, HMC⟩
                  case measure => omega
            · obtain rfl : j = yn := by omega
              have hjl' : ¬ (j : Int) < (j : Int) := by omega
              have hkS : Keeps S w8 wr := HMJ.out.k
              have hsl : ∀ q, S q → w3.heap.size ≤ q ∧ q < T0 := fun q h => by have e := HSS.out; rw [e] at h; exact h
              have hB3 := HB3.out
              have hkw : Keeps No w wr := HKW8.out.trans hkS (fun q hq h => by have h1 := hsl q h; have h2 := HKW3.out.size; omega)
              have hrp := (hkS.block B0 (Array.getElem?_eq_some_iff.1 HRP8.out).1 (fun h => by have := hsl _ h; omega)).trans HRP8.out
              have hrd := (hkS.block D0 (Array.getElem?_eq_some_iff.1 HRD8.out).1 (fun h => by have := hsl _ h; have := HDT.out; omega)).trans HRD8.out
              have HKF := Lib.hid hkw
              have HXF := Lib.hid (HXO.out.off hkS (fun q h => (hsl q h).2))
              have HLAST : Hid (Calls Tryd.prog 17 #[.agg #[.slice ga gn gc, .slice fa fn fc, .int .i64 mn], .agg #[.slice xa xn xc, .slice va vn vc, .int .i64 um]] wr fun e w' => e = .returned (.bool true) ∧ Keeps No wr w') := Lib.hid (by
                have h := HR.out ⟨ga, gn, gc, gl, fa, fn, fc, fl, mn⟩ ⟨xa, xn, xc, xl, va, vn, vc, vl, um⟩ wr (HP.out.no hkw) HXF.out.at_
                rw [HX.out] at h; exact h)
              have p0 : wr.cell? ⟨B0, 0, none⟩ = some (.slice ga gn gc) := by rw [cell_of_row wr _ 0 _ _ _ hrp]; rfl
              have p1 : wr.cell? ⟨B0, 1, none⟩ = some (.slice fa fn fc) := by rw [cell_of_row wr _ 1 _ _ _ hrp]; rfl
              have p2 : wr.cell? ⟨B0, 2, none⟩ = some (.int .i64 mn) := by rw [cell_of_row wr _ 2 _ _ _ hrp]; rfl
              have x0 : wr.cell? ⟨w7.heap.size, 0, none⟩ = some (.slice xa xn xc) := by rw [HD0.out, cell_of_row wr _ 0 _ _ _ hrd]; rfl
              have x1 : wr.cell? ⟨w7.heap.size, 1, none⟩ = some (.slice va vn vc) := by rw [HD0.out, cell_of_row wr _ 1 _ _ _ hrd]; rfl
              have x2 : wr.cell? ⟨w7.heap.size, 2, none⟩ = some (.int .i64 um) := by rw [HD0.out, cell_of_row wr _ 2 _ _ _ hrd]; rfl
              clear hkS hsl hkw hrp hrd hB3
              go_wp2_with fail
              refine HLAST.out.mono ?_
              rintro e wy ⟨rfl, hky⟩
              have HKY := Lib.hid (HKF.out.trans hky (fun _ _ e => e))
              clear hky p0 p1 p2 x0 x1 x2 d0
              go_wp2_with fail
              refine (awake_any _ (HL.out.no HKY.out)).mono ?_
              rintro e wz ⟨rfl, hkz⟩
              have HKZ := Lib.hid (HKY.out.trans hkz (fun _ _ e => e))
              clear hkz
              go_wp2_with fail
              go_returns
              exact ⟨rfl, HKZ.out⟩
end Go.Proofs.YtbfjmhfhhlncjaaDoor
