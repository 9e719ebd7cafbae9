/- Globals held against one another; programs, with globals too. -/
import Derived.Test.YtbfjmhfhhlncjaaDoorIrSames
namespace Go.Proofs.YtbfjmhfhhlncjaaDoor
open Go.RowKit
set_option linter.unusedVariables false
set_option linter.unusedSimpArgs false

def Px.same (x y : Px) : Bool := decide (x.at_ = y.at_ ∧ x.bytes = y.bytes ∧ x.func = y.func ∧ x.n = y.n)
structure PcAt (w : World) (a : Option Addr) (n cap : Nat) (l : List Px) : Prop where
  len : l.length = n
  cap : n ≤ cap ∧ cap ≤ maxLen
  at_ : 0 < n → ∃ b off, a = some ⟨b, off, none⟩ ∧ ∀ (k : Nat) (p : Px), l[k]? = some p → ∀ (j : Nat) (v : Value), p.cells[j]? = some v → w.cell? ⟨b, off + k * 4 + j, none⟩ = some v
theorem PcAt.no {w w' : World} {a : Option Addr} {n cap : Nat} {l : List Px} (h : PcAt w a n cap l) (hk : Keeps No w w') : PcAt w' a n cap l := ⟨h.len, h.cap, fun hn => by obtain ⟨b, off, e, hc⟩ := h.at_ hn; exact ⟨b, off, e, fun k p hp j v hj => hk.cell0 (hc k p hp j v hj)⟩⟩
theorem PcAt.get {w : World} {a : Option Addr} {n cap : Nat} {l : List Px} (h : PcAt w a n cap l) {i : Nat} (hi : i < n) : ∃ (b off : Nat) (p : Px), l[i]? = some p ∧ a = some ⟨b, off, none⟩ ∧ w.cell? ⟨b, off + i * 4, none⟩ = some (.int .i64 p.at_) ∧ w.cell? ⟨b, off + i * 4 + 1, none⟩ = some (.int .i64 p.bytes) ∧ w.cell? ⟨b, off + i * 4 + 2, none⟩ = some (.int .i64 p.func) ∧ w.cell? ⟨b, off + i * 4 + 3, none⟩ = some (.int .i64 p.n) := by
  obtain ⟨b, off, e, hc⟩ := h.at_ (by omega)
  obtain ⟨z, hz⟩ : ∃ z, l[i]? = some z := ⟨_, List.getElem?_eq_getElem (by rw [h.len]; exact hi)⟩
  exact ⟨b, off, z, hz, e, hc i z hz 0 _ rfl, hc i z hz 1 _ rfl, hc i z hz 2 _ rfl, hc i z hz 3 _ rfl⟩
theorem neq_pc (x y : Px) (W : World) : (binOp .neq 51 (.agg #[.int .i64 x.at_, .int .i64 x.bytes, .int .i64 x.func, .int .i64 x.n]) (.agg #[.int .i64 y.at_, .int .i64 y.bytes, .int .i64 y.func, .int .i64 y.n])).run Tryd.prog W = .ok (.bool (!x.same y)) W := by
  unfold Px.same
  by_cases h0 : x.at_ = y.at_ <;> by_cases h1 : x.bytes = y.bytes <;> by_cases h2 : x.func = y.func <;> by_cases h3 : x.n = y.n <;>
    simp [go_sem, h0, h1, h2, h3, Tryd.underlying51, Tryd.underlying3, Tryd.underlying2]
set_option maxRecDepth 100000 in
set_option maxHeartbeats 3200000 in
theorem eq_pieces (sa ta : Option Addr) (sn tn sc tc : Nat) (sl tl : List Px) (w : World) (hs : PcAt w sa sn sc sl) (ht : PcAt w ta tn tc tl) :
    Calls Tryd.prog 53 #[.slice sa sn sc, .slice ta tn tc] w fun e w' => e = .returned (.bool (sameRow Px.same sl tl)) ∧ ∃ m, w' = w.drewN m := by
  obtain ⟨X, hX⟩ : ∃ X, sameRow Px.same sl tl = X := ⟨_, rfl⟩
  rw [hX]
  have HX := Lib.hid hX
  have HS := Lib.hid hs
  have HT := Lib.hid ht
  have hcs := hs.cap
  have hct := ht.cap
  unfold maxLen at hcs hct
  clear hX hs ht
  by_cases hnn : sn = tn
  · subst hnn
    have e1 : ((sn : Int) != (sn : Int)) = false := by simp
    go_enter Tryd.func53, Tryd.ntmps53
    go_wp2_with fail
    go_loopg [13] sn (fun g v wr => ∃ i m : Nat, v = .int .i64 (i : Int) ∧ i ≤ sn ∧ g = sn - i ∧ Hid (((sl.zip tl).take i).all (fun p => p.1.same p.2) = true) ∧ wr = w.drewN m)
    case atStart => exact ⟨0, 0, rfl, Nat.zero_le _, rfl, Lib.hid rfl, rfl⟩
    case round =>
      obtain ⟨i, m, rfl, hi, hg, HE, rfl⟩ := hrel
      by_cases hlt : i < sn
      · have hlt' : (i : Int) < (sn : Int) := by omega
        have i0 : (0 : Int) ≤ (i : Int) := by omega
        obtain ⟨b1, o1, z1, hz1, rfl, c0, c1, c2, c3⟩ := HS.out.get hlt
        obtain ⟨b2, o2, z2, hz2, rfl, d0, d1, d2, d3⟩ := HT.out.get hlt
        have HZ1 := Lib.hid hz1
        have HZ2 := Lib.hid hz2
        clear hz1 hz2
        obtain ⟨R, hR⟩ : ∃ R, z1.same z2 = R := ⟨_, rfl⟩
        have hrun := fun W => neq_pc z1 z2 W
        rw [hR] at hrun
        have HR := Lib.hid hR
        clear hR
        cases R with
        | true =>
          simp only [Bool.not_true] at hrun
          go_wp2_with fail
          go_quiet (fail)
          go_wp2_with fail
          go_roundg (sn - (i + 1))
          case rel => exact ⟨i + 1, m + nq, by go_num, by omega, rfl, Lib.hid (sameRow_more _ HZ1.out HZ2.out HR.out HE.out), rfl⟩
          case measure => omega
        | false =>
          simp only [Bool.not_false] at hrun
          have HF : Hid (X = false) := Lib.hid (HX.out.symm.trans (sameRow_no _ HZ1.out HZ2.out HR.out))
          go_wp2_with fail
          go_quiet (fail)
          go_wp2_with fail
          go_returns
          exact ⟨rb rfl HF.out.symm, m + nq, by rw [World.drewN_drewN]⟩
      · obtain rfl : i = sn := by omega
        have hlt' : ¬ (i : Int) < (i : Int) := by omega
        have HF : Hid (X = true) := Lib.hid (HX.out.symm.trans (sameRow_yes _ HS.out.len HT.out.len HE.out))
        go_wp2_with fail
        go_returns
        exact ⟨rb rfl HF.out.symm, m, rfl⟩
  · have e1 : ((sn : Int) != (tn : Int)) = true := by rw [bne_iff_ne]; omega
    have HF : Hid (X = false) := Lib.hid (HX.out.symm.trans (sameRow_len _ (by rw [HS.out.len, HT.out.len]; exact hnn)))
    clear hnn
    go_enter Tryd.func53, Tryd.ntmps53
    go_wp2_with fail
    go_returns
    exact ⟨rb rfl HF.out.symm, 0, rfl⟩
abbrev gv (g : Gx) : Value := .agg #[.string g.name, .int .i64 g.size, .slice g.pa g.pn g.pc]
def Gx.same (x y : Gx) : Bool := decide (x.name.toList = y.name.toList) && (decide (x.size = y.size) && sameRow Px.same x.pl y.pl)
theorem GxOk.pc {w : World} {g : Gx} (h : GxOk w g) : PcAt w g.pa g.pn g.pc g.pl := ⟨h.len, h.cap, h.at_⟩
set_option maxRecDepth 100000 in
set_option maxHeartbeats 3200000 in
theorem sameGlobal_any (x y : Gx) (w : World) (hx : GxOk w x) (hy : GxOk w y) : Calls Tryd.prog 36 #[gv x, gv y] w fun e w' => e = .returned (.bool (x.same y)) ∧ Keeps No w w' := by
  have HC := Lib.hid (fun (W : World) (hk : Keeps No w W) => eq_pieces x.pa y.pa x.pn y.pn x.pc y.pc x.pl y.pl W (hx.pc.no hk) (hy.pc.no hk))
  obtain ⟨X2, hX2⟩ : ∃ X, sameRow Px.same x.pl y.pl = X := ⟨_, rfl⟩
  rw [hX2] at HC
  obtain ⟨X, hX⟩ : ∃ X, x.same y = X := ⟨_, rfl⟩
  rw [hX]
  unfold Gx.same at hX
  rw [hX2] at hX
  clear hx hy hX2
  obtain ⟨xn, xs, xa, xpn, xpc, xl⟩ := x
  obtain ⟨yn, ys, ya, ypn, ypc, yl⟩ := y
  dsimp only [gv] at HC hX ⊢
  have hka : Keeps No w ((w.alloc (.cells #[.string xn, .int .i64 xs, .slice xa xpn xpc] 49)).alloc (.cells #[.string yn, .int .i64 ys, .slice ya ypn ypc] 49)) := ((Keeps.refl No w).alloc _).alloc _
  have HKA := Lib.hid hka
  clear hka
  by_cases t0 : xn.toList = yn.toList
  · by_cases t1 : xs = ys
    · have u0 : (xn.toList == yn.toList) = true := beq_iff_eq.2 t0
      have u1 : (xs == ys) = true := beq_iff_eq.2 t1
      have HF : Hid (X2 = X) := Lib.hid (by rw [← hX, decide_eq_true t0, decide_eq_true t1]; rfl)
      clear t0 t1 hX
      go_enter Tryd.func36, Tryd.ntmps36
      go_wp2_with fail
      refine (HC.out _ HKA.out).mono ?_
      rintro e w1 ⟨rfl, m, rfl⟩
      go_wp2_with fail
      go_returns
      exact ⟨rb rfl HF.out, HKA.out.drewN m⟩
    · have u0 : (xn.toList == yn.toList) = true := beq_iff_eq.2 t0
      have u1 : (xs == ys) = false := beq_eq_false_iff_ne.2 t1
      have HF : Hid (false = X) := Lib.hid (by rw [← hX, decide_eq_false t1, Bool.false_and, Bool.and_false])
      clear t0 t1 hX
      go_enter Tryd.func36, Tryd.ntmps36
      go_wp2_with fail
      go_returns
      exact ⟨rb rfl HF.out, HKA.out⟩
  · have u0 : (xn.toList == yn.toList) = false := beq_eq_false_iff_ne.2 t0
    have HF : Hid (false = X) := Lib.hid (by rw [← hX, decide_eq_false t0, Bool.false_and])
    clear t0 hX
    go_enter Tryd.func36, Tryd.ntmps36
    go_wp2_with fail
    go_returns
    exact ⟨rb rfl HF.out, HKA.out⟩
set_option maxRecDepth 100000 in
set_option maxHeartbeats 6400000 in
theorem eqf_globals (fw : Value) (sa sb : Option Addr) (rn kn rc kc : Nat) (l k : List Gx) (w : World) (hl : l.length = rn) (hk : k.length = kn) (hrc : rn ≤ rc ∧ rc ≤ maxLen) (hkc : kn ≤ kc ∧ kc ≤ maxLen)
    (hf : fw = .func (.func 36) #[] #[])
    (hra : 0 < rn → ∃ b off, sa = some ⟨b, off, none⟩ ∧ ∀ (i : Nat) (x : Gx), l[i]? = some x → ∀ (j : Nat) (v : Value), x.cells[j]? = some v → w.cell? ⟨b, off + i * 3 + j, none⟩ = some v)
    (hrb : 0 < kn → ∃ b off, sb = some ⟨b, off, none⟩ ∧ ∀ (i : Nat) (x : Gx), k[i]? = some x → ∀ (j : Nat) (v : Value), x.cells[j]? = some v → w.cell? ⟨b, off + i * 3 + j, none⟩ = some v)
    (hc : ∀ x ∈ l, ∀ y ∈ k, ∀ W, Keeps No w W → Calls Tryd.prog 36 #[gv x, gv y] W fun e w' => e = .returned (.bool (x.same y)) ∧ Keeps No W w') :
    Calls Tryd.prog 35 #[.slice sa rn rc, .slice sb kn kc, fw] w fun e w' => e = .returned (.bool (sameRow Gx.same l k)) ∧ Keeps No w w' := by
  subst hf
  obtain ⟨X, hX⟩ : ∃ Q, sameRow Gx.same l k = Q := ⟨_, rfl⟩
  rw [hX]
  have HX := Lib.hid hX
  have HL := Lib.hid hl
  have HK := Lib.hid hk
  have HRA := Lib.hid hra
  have HRB := Lib.hid hrb
  have HC := Lib.hid hc
  unfold maxLen at hrc hkc
  clear hX hl hk hra hrb hc
  by_cases hn : rn = kn
  · subst hn
    have e1 : ((rn : Int) != (rn : Int)) = false := by simp
    go_enter Tryd.func35, Tryd.ntmps35
    go_wp2_with fail
    go_loopg [17] rn (fun g v wr => ∃ i : Nat, v = .int .i64 (i : Int) ∧ i ≤ rn ∧ g = rn - i ∧ Hid (((l.zip k).take i).all (fun p => p.1.same p.2) = true) ∧ Hid (Keeps No w wr))
    case atStart => exact ⟨0, rfl, Nat.zero_le _, rfl, Lib.hid rfl, Lib.hid (Keeps.refl _ _)⟩
    case round =>
      obtain ⟨i, rfl, hi, hg, HE, HW⟩ := hrel
      by_cases hlt : i < rn
      · have hlt' : (i : Int) < (rn : Int) := by omega
        have i0 : (0 : Int) ≤ (i : Int) := by omega
        obtain ⟨x, hx⟩ : ∃ x, l[i]? = some x := ⟨_, List.getElem?_eq_getElem (by rw [HL.out]; exact hlt)⟩
        obtain ⟨y, hy⟩ : ∃ y, k[i]? = some y := ⟨_, List.getElem?_eq_getElem (by rw [HK.out]; exact hlt)⟩
        obtain ⟨b1, o1, rfl, hc1⟩ := HRA.out (by omega)
        obtain ⟨b2, o2, rfl, hc2⟩ := HRB.out (by omega)
        have x0 := HW.out.cell0 (hc1 i x hx 0 _ rfl)
        have y0 := HW.out.cell0 (hc2 i y hy 0 _ rfl)
        have x1 := HW.out.cell0 (hc1 i x hx 1 _ rfl)
        have y1 := HW.out.cell0 (hc2 i y hy 1 _ rfl)
        have x2 := HW.out.cell0 (hc1 i x hx 2 _ rfl)
        have y2 := HW.out.cell0 (hc2 i y hy 2 _ rfl)
        rw [Nat.add_zero] at x0 y0
        have nb1 : b1 < wr.heap.size := World.block_lt_of_cell? wr _ x0
        have nb2 : b2 < wr.heap.size := World.block_lt_of_cell? wr _ y0
        obtain ⟨R, hR⟩ : ∃ R, x.same y = R := ⟨_, rfl⟩
        have HCC := Lib.hid (fun (W : World) (h : Keeps No w W) => HC.out x (List.mem_of_getElem? hx) y (List.mem_of_getElem? hy) W h)
        rw [hR] at HCC
        have HXI := Lib.hid hx
        have HYI := Lib.hid hy
        have HR := Lib.hid hR
        clear hx hy hc1 hc2 hR
        go_wp2_with fail
        refine (HCC.out _ ((HW.out.alloc _).alloc _)).mono ?_
        rintro e w2 ⟨rfl, hk2⟩
        have HW2 := Lib.hid (((HW.out.alloc _).alloc _).trans hk2 (fun _ _ h => h))
        clear hk2
        cases R with
        | false =>
          have HF : Hid (X = false) := Lib.hid (HX.out.symm.trans (sameRow_no _ HXI.out HYI.out HR.out))
          go_wp2_with fail
          go_returns
          exact ⟨rb rfl HF.out.symm, HW2.out⟩
        | true =>
          go_wp2_with fail
          go_roundg (rn - (i + 1))
          case rel => exact ⟨i + 1, by go_num, by omega, rfl, Lib.hid (sameRow_more _ HXI.out HYI.out HR.out HE.out), HW2⟩
          case measure => omega
      · obtain rfl : i = rn := by omega
        have hlt' : ¬ (i : Int) < (i : Int) := by omega
        have HF : Hid (X = true) := Lib.hid (HX.out.symm.trans (sameRow_yes _ HL.out HK.out HE.out))
        go_wp2_with fail
        go_returns
        exact ⟨rb rfl HF.out.symm, HW.out⟩
  · have e1 : ((rn : Int) != (kn : Int)) = true := by rw [bne_iff_ne]; omega
    have HF : Hid (X = false) := Lib.hid (HX.out.symm.trans (sameRow_len _ (by rw [HL.out, HK.out]; exact hn)))
    clear hn
    go_enter Tryd.func35, Tryd.ntmps35
    go_wp2_with fail
    go_returns
    exact ⟨rb rfl HF.out.symm, Keeps.refl _ _⟩
set_option maxRecDepth 100000 in
set_option maxHeartbeats 6400000 in
theorem same_any (p q : Pg) (w : World) (hp : PgOk w p) (hq : PgOk w q) :
    Calls Tryd.prog 18 #[pv p, pv q] w fun e w' => e = .returned (.bool (decide (p.main = q.main) && (sameRow Gx.same p.gl q.gl && sameRow Fx.same p.fl q.fl))) ∧ Keeps No w w' := by
  have HC := Lib.hid (fun (W : World) (hk : Keeps No w W) => eqf_fns (.func (.func 38) #[] #[]) p.fa q.fa p.fn q.fn p.fc q.fc p.fl q.fl W hp.flen hq.flen hp.fcap hq.fcap rfl
    (fun h => by obtain ⟨b, off, e, hc⟩ := hp.fat h; exact ⟨b, off, e, fun i z hz j v hj => hk.cell0 (hc i z hz j v hj)⟩)
    (fun h => by obtain ⟨b, off, e, hc⟩ := hq.fat h; exact ⟨b, off, e, fun i z hz j v hj => hk.cell0 (hc i z hz j v hj)⟩)
    (fun i hi j hj W' hW => sameFn_any i j W' (((hp.fok i hi).no hk).no hW) (((hq.fok j hj).no hk).no hW)))
  have HG := Lib.hid (fun (W : World) (hk : Keeps No w W) => eqf_globals (.func (.func 36) #[] #[]) p.ga q.ga p.gn q.gn p.gc q.gc p.gl q.gl W hp.glen hq.glen hp.gcap hq.gcap rfl
    (fun h => by obtain ⟨b, off, e, hc⟩ := hp.gat h; exact ⟨b, off, e, fun i z hz j v hj => hk.cell0 (hc i z hz j v hj)⟩)
    (fun h => by obtain ⟨b, off, e, hc⟩ := hq.gat h; exact ⟨b, off, e, fun i z hz j v hj => hk.cell0 (hc i z hz j v hj)⟩)
    (fun i hi j hj W' hW => sameGlobal_any i j W' (((hp.gok i hi).no hk).no hW) (((hq.gok j hj).no hk).no hW)))
  obtain ⟨X1, hX1⟩ : ∃ X, sameRow Gx.same p.gl q.gl = X := ⟨_, rfl⟩
  obtain ⟨X2, hX2⟩ : ∃ X, sameRow Fx.same p.fl q.fl = X := ⟨_, rfl⟩
  rw [hX1] at HG
  rw [hX2] at HC
  rw [hX1, hX2]
  unfold pv
  obtain ⟨pm, hpm⟩ : ∃ m, p.main = m := ⟨_, rfl⟩
  obtain ⟨qm, hqm⟩ : ∃ m, q.main = m := ⟨_, rfl⟩
  rw [hpm, hqm]
  clear hp hq hX1 hX2 hpm hqm
  have hka : Keeps No w ((w.alloc (.cells #[.slice p.ga p.gn p.gc, .slice p.fa p.fn p.fc, .int .i64 pm] 36)).alloc (.cells #[.slice q.ga q.gn q.gc, .slice q.fa q.fn q.fc, .int .i64 qm] 36)) := ((Keeps.refl No w).alloc _).alloc _
  have HKA := Lib.hid hka
  clear hka
  by_cases hm : pm = qm
  · have u0 : (pm == qm) = true := beq_iff_eq.2 hm
    have HD := Lib.hid (decide_eq_true hm)
    clear hm
    obtain ⟨D, hD⟩ : ∃ D, decide (pm = qm) = D := ⟨_, rfl⟩
    rw [hD] at HD ⊢
    clear hD
    obtain ⟨pb, hpb⟩ : ∃ q, w.heap.size = q := ⟨_, rfl⟩
    cases X1 with
    | false =>
      have HF : Hid (false = (D && (false && X2))) := Lib.hid (by simp)
      go_enter Tryd.func18, Tryd.ntmps18
      go_wp2_with fail
      refine (HG.out _ HKA.out).mono ?_
      rintro e w1 ⟨rfl, hk1⟩
      have HK1 := Lib.hid (HKA.out.trans hk1 (fun _ _ e => e))
      clear hk1
      go_wp2_with fail
      go_returns
      exact ⟨rb rfl HF.out, HK1.out⟩
    | true =>
      have HF : Hid (X2 = (D && (true && X2))) := Lib.hid (by rw [HD.out]; rfl)
      go_enter Tryd.func18, Tryd.ntmps18
      go_wp2_with fail
      refine (HG.out _ HKA.out).mono ?_
      rintro e w1 ⟨rfl, hk1⟩
      have HK1 := Lib.hid (HKA.out.trans hk1 (fun _ _ e => e))
      have b1 := hk1.cell0 (p := ⟨pb, 1, none⟩) (v := .slice p.fa p.fn p.fc) (by
        have r : ((w.alloc (.cells #[.slice p.ga p.gn p.gc, .slice p.fa p.fn p.fc, .int .i64 pm] 36)).alloc (.cells #[.slice q.ga q.gn q.gc, .slice q.fa q.fn q.fc, .int .i64 qm] 36)).heap[pb]? = some (.cells #[.slice p.ga p.gn p.gc, .slice p.fa p.fn p.fc, .int .i64 pm] 36 (0, 0)) := by
          rw [← hpb, Below.heap_alloc _ _ _ (by simp)]; exact heap_alloc_new _ _
        rw [cell_of_row _ pb 1 _ _ _ r]; rfl)
      have b2 := hk1.cell0 (p := ⟨pb + 1, 1, none⟩) (v := .slice q.fa q.fn q.fc) (by
        have r : ((w.alloc (.cells #[.slice p.ga p.gn p.gc, .slice p.fa p.fn p.fc, .int .i64 pm] 36)).alloc (.cells #[.slice q.ga q.gn q.gc, .slice q.fa q.fn q.fc, .int .i64 qm] 36)).heap[pb + 1]? = some (.cells #[.slice q.ga q.gn q.gc, .slice q.fa q.fn q.fc, .int .i64 qm] 36 (0, 0)) := by
          rw [← hpb]
          have := heap_alloc_new (w.alloc (.cells #[.slice p.ga p.gn p.gc, .slice p.fa p.fn p.fc, .int .i64 pm] 36)) (.cells #[.slice q.ga q.gn q.gc, .slice q.fa q.fn q.fc, .int .i64 qm] 36)
          simpa using this
        rw [cell_of_row _ (pb + 1) 1 _ _ _ r]; rfl)
      clear hk1
      go_wp2_with fail
      refine (HC.out _ HK1.out).mono ?_
      rintro e w2 ⟨rfl, hk⟩
      have HK := Lib.hid (HK1.out.trans hk (fun _ _ e => e))
      clear hk
      go_wp2_with fail
      go_returns
      exact ⟨rb rfl HF.out, HK.out⟩
  · have u0 : (pm == qm) = false := beq_eq_false_iff_ne.2 hm
    have HF : Hid (false = (decide (pm = qm) && (X1 && X2))) := Lib.hid (by rw [decide_eq_false hm]; rfl)
    clear hm
    go_enter Tryd.func18, Tryd.ntmps18
    go_wp2_with fail
    go_returns
    exact ⟨rb rfl HF.out, ((Keeps.refl _ _).alloc _).alloc _⟩
end Go.Proofs.YtbfjmhfhhlncjaaDoor
/- The document's Same: numbers, instructions. -/
namespace Go.Proofs.YtbfjmhfhhlncjaaDoor
open Go.RowKit
set_option linter.unusedVariables false
set_option linter.unusedSimpArgs false

set_option maxRecDepth 100000 in
set_option maxHeartbeats 3200000 in
theorem rsame_ints (s t : Sl) (w : World) (hs : SlAt w s) (ht : SlAt w t) :
    Calls Tryd.prog 51 #[s.v, t.v] w fun e w' => e = .returned (.bool (decide (s.l = t.l))) ∧ ∃ m, w' = w.drewN m := by
  obtain ⟨X, hX⟩ : ∃ X, decide (s.l = t.l) = X := ⟨_, rfl⟩
  rw [hX]
  have HX := Lib.hid hX
  have HS := Lib.hid hs
  have HT := Lib.hid ht
  have hcs := hs.cap
  have hct := ht.cap
  unfold maxLen at hcs hct
  clear hX hs ht
  obtain ⟨sa, sn, sc, sl⟩ := s
  obtain ⟨ta, tn, tc, tl⟩ := t
  simp only at hcs hct HX
  change Calls Tryd.prog 51 #[.slice sa sn sc, .slice ta tn tc] w _
  by_cases hnn : sn = tn
  · subst hnn
    have e1 : ((sn : Int) != (sn : Int)) = false := by simp
    go_enter Tryd.func51, Tryd.ntmps51
    go_wp2_with fail
    go_loopg [5] sn (fun g v wr => ∃ i m : Nat, v = .int .i64 (i : Int) ∧ i ≤ sn ∧ g = sn - i ∧ Hid (sl.take i = tl.take i) ∧ wr = w.drewN m)
    case atStart => exact ⟨0, 0, rfl, Nat.zero_le _, rfl, Lib.hid rfl, rfl⟩
    case round =>
      obtain ⟨i, m, rfl, hi, hg, HE, rfl⟩ := hrel
      by_cases hlt : i < sn
      · have hlt' : (i : Int) < (sn : Int) := by omega
        have i0 : (0 : Int) ≤ (i : Int) := by omega
        obtain ⟨b1, o1, z1, hz1, rfl, c1⟩ := HS.out.get hlt
        obtain ⟨b2, o2, z2, hz2, rfl, c2⟩ := HT.out.get hlt
        have HZ1 := Lib.hid hz1
        have HZ2 := Lib.hid hz2
        clear hz1 hz2
        by_cases hz : z1 = z2
        · have e2 : (z1 != z2) = false := by rw [hz]; simp
          have HZ := Lib.hid hz
          clear hz
          go_wp2_with fail
          go_quiet (fail)
          go_wp2_with fail
          go_roundg (sn - (i + 1))
          case rel => exact ⟨i + 1, m + nq, by go_num, by omega, rfl, Lib.hid (by
            obtain ⟨h1, h2⟩ := List.getElem?_eq_some_iff.1 HZ1.out
            obtain ⟨h3, h4⟩ := List.getElem?_eq_some_iff.1 HZ2.out
            rw [List.take_succ_eq_append_getElem h1, List.take_succ_eq_append_getElem h3, HE.out, h2, h4, HZ.out]), rfl⟩
          case measure => omega
        · have e2 : (z1 != z2) = true := bne_iff_ne.2 hz
          have HF : Hid (X = false) := Lib.hid (by
            rw [← HX.out]; exact decide_eq_false (fun e => hz (by have h := HZ1.out; rw [e] at h; have h2 := HZ2.out; simp only at h h2; rw [h] at h2; injection h2)))
          clear hz
          go_wp2_with fail
          go_quiet (fail)
          go_wp2_with fail
          go_returns
          exact ⟨rb rfl HF.out.symm, m + nq, by rw [World.drewN_drewN]⟩
      · obtain rfl : i = sn := by omega
        have hlt' : ¬ (i : Int) < (i : Int) := by omega
        have HF : Hid (X = true) := Lib.hid (by
          rw [← HX.out]; exact decide_eq_true (by have h := HE.out; rw [List.take_of_length_le (by have := HS.out.len; simp only at this; omega), List.take_of_length_le (by have := HT.out.len; simp only at this; omega)] at h; exact h))
        go_wp2_with fail
        go_returns
        exact ⟨rb rfl HF.out.symm, m, rfl⟩
  · have e1 : ((sn : Int) != (tn : Int)) = true := by rw [bne_iff_ne]; omega
    have HF : Hid (X = false) := Lib.hid (by
      rw [← HX.out]; exact decide_eq_false (fun e => hnn (by have h1 := HS.out.len; have h2 := HT.out.len; simp only at h1 h2; rw [e] at h1; omega)))
    clear hnn
    go_enter Tryd.func51, Tryd.ntmps51
    go_wp2_with fail
    go_returns
    exact ⟨rb rfl HF.out.symm, 0, rfl⟩
set_option maxRecDepth 100000 in
set_option maxHeartbeats 25600000 in
theorem rsameIns_any (x y : Ix) (w : World) (hx : IxOk w x) (hy : IxOk w y) : Calls Tryd.prog 52 #[ia x, ia y] w fun e w' => e = .returned (.bool (x.same y)) ∧ Keeps No w w' := by
  obtain ⟨X, hX⟩ : ∃ Q, x.same y = Q := ⟨_, rfl⟩
  rw [hX]
  unfold Ix.same at hX
  have HC1 := Lib.hid (fun (W : World) (hk : Keeps No w W) => rsame_ints x.args y.args W (hx.args.no hk) (hy.args.no hk))
  have HC2 := Lib.hid (fun (W : World) (hk : Keeps No w W) => rsame_ints x.to y.to W (hx.to.no hk) (hy.to.no hk))
  have HS := Lib.hid hx.cases_
  have HT := Lib.hid hy.cases_
  have hcs := hx.cases_.cap
  have hct := hy.cases_.cap
  unfold maxLen at hcs hct
  obtain ⟨X1, hX1⟩ : ∃ X, decide (x.args.l = y.args.l) = X := ⟨_, rfl⟩
  obtain ⟨X2, hX2⟩ : ∃ X, decide (x.to.l = y.to.l) = X := ⟨_, rfl⟩
  rw [hX1] at HC1
  rw [hX2] at HC2
  have HXX := Lib.hid (And.intro hX1 hX2)
  clear hx hy hX1 hX2
  obtain ⟨op, sub, d, a, bb, n, wb, ws, ⟨a1, n1, c1, l1⟩, ⟨a2, n2, c2, l2⟩, ⟨sa, sn, sc, sl⟩⟩ := x
  obtain ⟨op', sub', d', a', bb', n', wb', ws', ⟨a1', n1', c1', l1'⟩, ⟨a2', n2', c2', l2'⟩, ⟨ta, tn, tc, tl⟩⟩ := y
  dsimp only [ia, Sl.v] at HC1 HC2 HS HT HXX hX hcs hct ⊢
  have HX := Lib.hid hX
  clear hX
  have hka : Keeps No w ((w.alloc (.cells #[.int .i64 op, .int .i64 sub, .int .i64 d, .int .i64 a, .int .i64 bb, .int .i64 n, .int .i64 wb, .bool ws, .slice a1 n1 c1, .slice a2 n2 c2, .slice sa sn sc] 27)).alloc (.cells #[.int .i64 op', .int .i64 sub', .int .i64 d', .int .i64 a', .int .i64 bb', .int .i64 n', .int .i64 wb', .bool ws', .slice a1' n1' c1', .slice a2' n2' c2', .slice ta tn tc] 27)) := ((Keeps.refl No w).alloc _).alloc _
  obtain ⟨w0, hw0⟩ : ∃ W, ((w.alloc (.cells #[.int .i64 op, .int .i64 sub, .int .i64 d, .int .i64 a, .int .i64 bb, .int .i64 n, .int .i64 wb, .bool ws, .slice a1 n1 c1, .slice a2 n2 c2, .slice sa sn sc] 27)).alloc (.cells #[.int .i64 op', .int .i64 sub', .int .i64 d', .int .i64 a', .int .i64 bb', .int .i64 n', .int .i64 wb', .bool ws', .slice a1' n1' c1', .slice a2' n2' c2', .slice ta tn tc] 27)) = W := ⟨_, rfl⟩
  rw [hw0] at hka
  obtain ⟨B, hB⟩ : ∃ q, w.heap.size = q := ⟨_, rfl⟩
  have r0 : w0.heap[B]? = some (.cells #[.int .i64 op, .int .i64 sub, .int .i64 d, .int .i64 a, .int .i64 bb, .int .i64 n, .int .i64 wb, .bool ws, .slice a1 n1 c1, .slice a2 n2 c2, .slice sa sn sc] 27 (0, 0)) := by
    rw [← hw0, ← hB, Below.heap_alloc _ _ _ (by simp)]; exact heap_alloc_new _ _
  have r1 : w0.heap[B + 1]? = some (.cells #[.int .i64 op', .int .i64 sub', .int .i64 d', .int .i64 a', .int .i64 bb', .int .i64 n', .int .i64 wb', .bool ws', .slice a1' n1' c1', .slice a2' n2' c2', .slice ta tn tc] 27 (0, 0)) := by
    rw [← hw0, ← hB]
    have := heap_alloc_new (w.alloc (.cells #[.int .i64 op, .int .i64 sub, .int .i64 d, .int .i64 a, .int .i64 bb, .int .i64 n, .int .i64 wb, .bool ws, .slice a1 n1 c1, .slice a2 n2 c2, .slice sa sn sc] 27)) (.cells #[.int .i64 op', .int .i64 sub', .int .i64 d', .int .i64 a', .int .i64 bb', .int .i64 n', .int .i64 wb', .bool ws', .slice a1' n1' c1', .slice a2' n2' c2', .slice ta tn tc] 27)
    simpa using this
  have HKA := Lib.hid hka
  have HR := Lib.hid (And.intro r0 r1)
  have p0 : w0.cell? ⟨B, 0, none⟩ = some (.int .i64 op) := by rw [cell_of_row w0 _ 0 _ _ _ r0]; rfl
  have q0 : w0.cell? ⟨B + 1, 0, none⟩ = some (.int .i64 op') := by rw [cell_of_row w0 _ 0 _ _ _ r1]; rfl
  have p1 : w0.cell? ⟨B, 1, none⟩ = some (.int .i64 sub) := by rw [cell_of_row w0 _ 1 _ _ _ r0]; rfl
  have q1 : w0.cell? ⟨B + 1, 1, none⟩ = some (.int .i64 sub') := by rw [cell_of_row w0 _ 1 _ _ _ r1]; rfl
  have p2 : w0.cell? ⟨B, 2, none⟩ = some (.int .i64 d) := by rw [cell_of_row w0 _ 2 _ _ _ r0]; rfl
  have q2 : w0.cell? ⟨B + 1, 2, none⟩ = some (.int .i64 d') := by rw [cell_of_row w0 _ 2 _ _ _ r1]; rfl
  have p3 : w0.cell? ⟨B, 3, none⟩ = some (.int .i64 a) := by rw [cell_of_row w0 _ 3 _ _ _ r0]; rfl
  have q3 : w0.cell? ⟨B + 1, 3, none⟩ = some (.int .i64 a') := by rw [cell_of_row w0 _ 3 _ _ _ r1]; rfl
  have p4 : w0.cell? ⟨B, 4, none⟩ = some (.int .i64 bb) := by rw [cell_of_row w0 _ 4 _ _ _ r0]; rfl
  have q4 : w0.cell? ⟨B + 1, 4, none⟩ = some (.int .i64 bb') := by rw [cell_of_row w0 _ 4 _ _ _ r1]; rfl
  have p5 : w0.cell? ⟨B, 5, none⟩ = some (.int .i64 n) := by rw [cell_of_row w0 _ 5 _ _ _ r0]; rfl
  have q5 : w0.cell? ⟨B + 1, 5, none⟩ = some (.int .i64 n') := by rw [cell_of_row w0 _ 5 _ _ _ r1]; rfl
  have p6 : w0.cell? ⟨B, 6, none⟩ = some (.int .i64 wb) := by rw [cell_of_row w0 _ 6 _ _ _ r0]; rfl
  have q6 : w0.cell? ⟨B + 1, 6, none⟩ = some (.int .i64 wb') := by rw [cell_of_row w0 _ 6 _ _ _ r1]; rfl
  have p7 : w0.cell? ⟨B, 7, none⟩ = some (.bool ws) := by rw [cell_of_row w0 _ 7 _ _ _ r0]; rfl
  have q7 : w0.cell? ⟨B + 1, 7, none⟩ = some (.bool ws') := by rw [cell_of_row w0 _ 7 _ _ _ r1]; rfl
  have p8 : w0.cell? ⟨B, 8, none⟩ = some (.slice a1 n1 c1) := by rw [cell_of_row w0 _ 8 _ _ _ r0]; rfl
  have q8 : w0.cell? ⟨B + 1, 8, none⟩ = some (.slice a1' n1' c1') := by rw [cell_of_row w0 _ 8 _ _ _ r1]; rfl
  have p9 : w0.cell? ⟨B, 9, none⟩ = some (.slice a2 n2 c2) := by rw [cell_of_row w0 _ 9 _ _ _ r0]; rfl
  have q9 : w0.cell? ⟨B + 1, 9, none⟩ = some (.slice a2' n2' c2') := by rw [cell_of_row w0 _ 9 _ _ _ r1]; rfl
  have p10 : w0.cell? ⟨B, 10, none⟩ = some (.slice sa sn sc) := by rw [cell_of_row w0 _ 10 _ _ _ r0]; rfl
  have q10 : w0.cell? ⟨B + 1, 10, none⟩ = some (.slice ta tn tc) := by rw [cell_of_row w0 _ 10 _ _ _ r1]; rfl
  clear r0 r1
  by_cases hnn : sn = tn
  · subst hnn
    have e1 : ((sn : Int) != (sn : Int)) = false := by simp
    go_enter Tryd.func52, Tryd.ntmps52
    go_wp2_with fail
    go_loopg [5] sn (fun g v wr => ∃ i m : Nat, v = .int .i64 (i : Int) ∧ i ≤ sn ∧ g = sn - i ∧ Hid (sl.take i = tl.take i) ∧ wr = w0.drewN m)
    case atStart => exact ⟨0, 0, rfl, Nat.zero_le _, rfl, Lib.hid rfl, rfl⟩
    case round =>
      obtain ⟨i, m, rfl, hi, hg, HE, rfl⟩ := hrel
      by_cases hlt : i < sn
      · have hlt' : (i : Int) < (sn : Int) := by omega
        have i0 : (0 : Int) ≤ (i : Int) := by omega
        obtain ⟨b1, o1, z1, hz1, rfl, k1⟩ := HS.out.get hlt
        obtain ⟨b2, o2, z2, hz2, rfl, k2⟩ := HT.out.get hlt
        have j1 := HKA.out.cell0 k1
        have j2 := HKA.out.cell0 k2
        have HZ1 := Lib.hid hz1
        have HZ2 := Lib.hid hz2
        clear hz1 hz2 k1 k2
        by_cases hz : z1 = z2
        · have e2 : (z1 != z2) = false := by rw [hz]; simp
          have HZ := Lib.hid hz
          clear hz
          go_wp2_with fail
          go_quiet (fail)
          go_wp2_with fail
          go_roundg (sn - (i + 1))
          case rel => exact ⟨i + 1, m + nq, by go_num, by omega, rfl, Lib.hid (by
            obtain ⟨h1, h2⟩ := List.getElem?_eq_some_iff.1 HZ1.out
            obtain ⟨h3, h4⟩ := List.getElem?_eq_some_iff.1 HZ2.out
            rw [List.take_succ_eq_append_getElem h1, List.take_succ_eq_append_getElem h3, HE.out, h2, h4, HZ.out]), rfl⟩
          case measure => omega
        · have e2 : (z1 != z2) = true := bne_iff_ne.2 hz
          have HF : Hid (false = X) := Lib.hid (by
            rw [← HX.out]; exact (decide_eq_false (fun e => hz (by have h := HZ1.out; rw [show sl = tl from e.2.2.2.2.2.2.2.2.2.2] at h; have h2 := HZ2.out; simp only at h h2; rw [h] at h2; injection h2))).symm)
          clear hz
          go_wp2_with fail
          go_quiet (fail)
          go_wp2_with fail
          go_returns
          exact ⟨rb rfl HF.out, (HKA.out.drewN m).drewN nq⟩
      · obtain rfl : i = sn := by omega
        have hlt' : ¬ (i : Int) < (i : Int) := by omega
        have HEQ : Hid (sl = tl) := Lib.hid (by have h := HE.out; rw [List.take_of_length_le (by have := HS.out.len; simp only at this; omega), List.take_of_length_le (by have := HT.out.len; simp only at this; omega)] at h; exact h)
        clear hlt
        by_cases t0 : op = op'
        case neg =>
          have HF : Hid (false = X) := Lib.hid (by rw [← HX.out]; exact (decide_eq_false (fun e => t0 e.1)).symm)
          have u0 : (op == op') = false := beq_eq_false_iff_ne.2 t0
          clear t0
          go_wp2_with fail
          go_returns
          exact ⟨rb rfl HF.out, HKA.out.drewN m⟩
        by_cases t1 : sub = sub'
        case neg =>
          have HF : Hid (false = X) := Lib.hid (by rw [← HX.out]; exact (decide_eq_false (fun e => t1 e.2.1)).symm)
          have u0 : (op == op') = true := beq_iff_eq.2 t0
          have u1 : (sub == sub') = false := beq_eq_false_iff_ne.2 t1
          clear t0 t1
          go_wp2_with fail
          go_returns
          exact ⟨rb rfl HF.out, HKA.out.drewN m⟩
        by_cases t2 : d = d'
        case neg =>
          have HF : Hid (false = X) := Lib.hid (by rw [← HX.out]; exact (decide_eq_false (fun e => t2 e.2.2.1)).symm)
          have u0 : (op == op') = true := beq_iff_eq.2 t0
          have u1 : (sub == sub') = true := beq_iff_eq.2 t1
          have u2 : (d == d') = false := beq_eq_false_iff_ne.2 t2
          clear t0 t1 t2
          go_wp2_with fail
          go_returns
          exact ⟨rb rfl HF.out, HKA.out.drewN m⟩
        by_cases t3 : a = a'
        case neg =>
          have HF : Hid (false = X) := Lib.hid (by rw [← HX.out]; exact (decide_eq_false (fun e => t3 e.2.2.2.1)).symm)
          have u0 : (op == op') = true := beq_iff_eq.2 t0
          have u1 : (sub == sub') = true := beq_iff_eq.2 t1
          have u2 : (d == d') = true := beq_iff_eq.2 t2
          have u3 : (a == a') = false := beq_eq_false_iff_ne.2 t3
          clear t0 t1 t2 t3
          go_wp2_with fail
          go_returns
          exact ⟨rb rfl HF.out, HKA.out.drewN m⟩
        by_cases t4 : bb = bb'
        case neg =>
          have HF : Hid (false = X) := Lib.hid (by rw [← HX.out]; exact (decide_eq_false (fun e => t4 e.2.2.2.2.1)).symm)
          have u0 : (op == op') = true := beq_iff_eq.2 t0
          have u1 : (sub == sub') = true := beq_iff_eq.2 t1
          have u2 : (d == d') = true := beq_iff_eq.2 t2
          have u3 : (a == a') = true := beq_iff_eq.2 t3
          have u4 : (bb == bb') = false := beq_eq_false_iff_ne.2 t4
          clear t0 t1 t2 t3 t4
          go_wp2_with fail
          go_returns
          exact ⟨rb rfl HF.out, HKA.out.drewN m⟩
        by_cases t5 : n = n'
        case neg =>
          have HF : Hid (false = X) := Lib.hid (by rw [← HX.out]; exact (decide_eq_false (fun e => t5 e.2.2.2.2.2.1)).symm)
          have u0 : (op == op') = true := beq_iff_eq.2 t0
          have u1 : (sub == sub') = true := beq_iff_eq.2 t1
          have u2 : (d == d') = true := beq_iff_eq.2 t2
          have u3 : (a == a') = true := beq_iff_eq.2 t3
          have u4 : (bb == bb') = true := beq_iff_eq.2 t4
          have u5 : (n == n') = false := beq_eq_false_iff_ne.2 t5
          clear t0 t1 t2 t3 t4 t5
          go_wp2_with fail
          go_returns
          exact ⟨rb rfl HF.out, HKA.out.drewN m⟩
        by_cases t6 : wb = wb'
        case neg =>
          have HF : Hid (false = X) := Lib.hid (by rw [← HX.out]; exact (decide_eq_false (fun e => t6 e.2.2.2.2.2.2.1)).symm)
          have u0 : (op == op') = true := beq_iff_eq.2 t0
          have u1 : (sub == sub') = true := beq_iff_eq.2 t1
          have u2 : (d == d') = true := beq_iff_eq.2 t2
          have u3 : (a == a') = true := beq_iff_eq.2 t3
          have u4 : (bb == bb') = true := beq_iff_eq.2 t4
          have u5 : (n == n') = true := beq_iff_eq.2 t5
          clear t0 t1 t2 t3 t4 t5
          go_wp2_with fail
          go_returns
          exact ⟨rb rfl HF.out, HKA.out.drewN m⟩
        by_cases t7 : ws = ws'
        case neg =>
          have HF : Hid (false = X) := Lib.hid (by rw [← HX.out]; exact (decide_eq_false (fun e => t7 e.2.2.2.2.2.2.2.1)).symm)
          have u0 : (op == op') = true := beq_iff_eq.2 t0
          have u1 : (sub == sub') = true := beq_iff_eq.2 t1
          have u2 : (d == d') = true := beq_iff_eq.2 t2
          have u3 : (a == a') = true := beq_iff_eq.2 t3
          have u4 : (bb == bb') = true := beq_iff_eq.2 t4
          have u5 : (n == n') = true := beq_iff_eq.2 t5
          clear t0 t1 t2 t3 t4 t5
          go_wp2_with fail
          go_returns
          exact ⟨rb rfl HF.out, HKA.out.drewN m⟩
        have HF : Hid ((X1 && X2) = X) := Lib.hid (by
          rw [← HX.out, ← HXX.out.1, ← HXX.out.2, ← Bool.decide_and]
          exact decide_eq_decide.2 ⟨fun e => ⟨t0, t1, t2, t3, t4, t5, t6, t7, e.1, e.2, HEQ.out⟩, fun e => ⟨e.2.2.2.2.2.2.2.2.1, e.2.2.2.2.2.2.2.2.2.1⟩⟩)
        have u0 : (op == op') = true := beq_iff_eq.2 t0
        have u1 : (sub == sub') = true := beq_iff_eq.2 t1
        have u2 : (d == d') = true := beq_iff_eq.2 t2
        have u3 : (a == a') = true := beq_iff_eq.2 t3
        have u4 : (bb == bb') = true := beq_iff_eq.2 t4
        have u5 : (n == n') = true := beq_iff_eq.2 t5
        clear t0 t1 t2 t3 t4 t5
        go_wp2_with fail
        refine (HC1.out _ (HKA.out.drewN m)).mono ?_
        rintro e w1 ⟨rfl, m1, rfl⟩
        cases X1 with
        | false =>
          go_wp2_with fail
          go_returns
          exact ⟨rb rfl HF.out, by first | exact HKA.out.drewN _ | exact (HKA.out.drewN _).drewN _⟩
        | true =>
          go_wp2_with fail
          refine (HC2.out _ (HKA.out.drewN (m + m1))).mono ?_
          rintro e w2 ⟨rfl, m2, rfl⟩
          go_wp2_with fail
          go_returns
          exact ⟨rb rfl HF.out, by first | exact HKA.out.drewN _ | exact (HKA.out.drewN _).drewN _⟩
  · have e1 : ((sn : Int) != (tn : Int)) = true := by rw [bne_iff_ne]; omega
    have HF : Hid (false = X) := Lib.hid (by
      rw [← HX.out]; exact (decide_eq_false (fun e => hnn (by have h1 := HS.out.len; have h2 := HT.out.len; simp only at h1 h2; rw [e.2.2.2.2.2.2.2.2.2.2] at h1; omega))).symm)
    clear hnn
    go_enter Tryd.func52, Tryd.ntmps52
    go_wp2_with fail
    go_returns
    exact ⟨rb rfl HF.out, HKA.out⟩
end Go.Proofs.YtbfjmhfhhlncjaaDoor
/- The document's Same: functions. -/
namespace Go.Proofs.YtbfjmhfhhlncjaaDoor
open Go.RowKit
set_option linter.unusedVariables false
set_option linter.unusedSimpArgs false

set_option maxRecDepth 100000 in
set_option maxHeartbeats 25600000 in
theorem rsameFn_any (x y : Fx) (w : World) (hx : FxOk w x) (hy : FxOk w y) : Calls Tryd.prog 34 #[fv x, fv y] w fun e w' => e = .returned (.bool (x.same y)) ∧ Keeps No w w' := by
  have HC1 := Lib.hid (fun (W : World) (hk : Keeps No w W) => rsame_ints x.slots y.slots W (hx.slots.no hk) (hy.slots.no hk))
  have HOX := Lib.hid hx
  have HOY := Lib.hid hy
  have hcx := hx.cap
  have hcy := hy.cap
  unfold maxLen at hcx hcy
  obtain ⟨X1, hX1⟩ : ∃ X, decide (x.slots.l = y.slots.l) = X := ⟨_, rfl⟩
  rw [hX1] at HC1
  obtain ⟨X, hX⟩ : ∃ X, x.same y = X := ⟨_, rfl⟩
  rw [hX]
  unfold Fx.same at hX
  have HX := Lib.hid hX
  have HX1 := Lib.hid hX1
  clear hx hy hX hX1
  obtain ⟨xn, xp, xr, ⟨xsa, xsn, xsc, xsl⟩, xa, xbn, xc, xl, xv⟩ := x
  obtain ⟨yn, yp, yr, ⟨ysa, ysn, ysc, ysl⟩, ya, ybn, yc, yl, yv⟩ := y
  dsimp only [fv, Sl.v] at HC1 HX HX1 hcx hcy ⊢
  obtain ⟨w0, hw0⟩ : ∃ W, ((w.alloc (.cells #[.string xn, .int .i64 xp, .int .i64 xr, .slice xsa xsn xsc, .slice xa xbn xc, .bool xv] 42)).alloc (.cells #[.string yn, .int .i64 yp, .int .i64 yr, .slice ysa ysn ysc, .slice ya ybn yc, .bool yv] 42)) = W := ⟨_, rfl⟩
  have hka : Keeps No w w0 := by rw [← hw0]; exact ((Keeps.refl No w).alloc _).alloc _
  obtain ⟨B, hB⟩ : ∃ q, w.heap.size = q := ⟨_, rfl⟩
  have r0 : w0.heap[B]? = some (.cells #[.string xn, .int .i64 xp, .int .i64 xr, .slice xsa xsn xsc, .slice xa xbn xc, .bool xv] 42 (0, 0)) := by
    rw [← hw0, ← hB, Below.heap_alloc _ _ _ (by simp)]; exact heap_alloc_new _ _
  have r1 : w0.heap[B + 1]? = some (.cells #[.string yn, .int .i64 yp, .int .i64 yr, .slice ysa ysn ysc, .slice ya ybn yc, .bool yv] 42 (0, 0)) := by
    rw [← hw0, ← hB]
    have := heap_alloc_new (w.alloc (.cells #[.string xn, .int .i64 xp, .int .i64 xr, .slice xsa xsn xsc, .slice xa xbn xc, .bool xv] 42)) (.cells #[.string yn, .int .i64 yp, .int .i64 yr, .slice ysa ysn ysc, .slice ya ybn yc, .bool yv] 42)
    simpa using this
  have HKA := Lib.hid hka
  have p0 : w0.cell? ⟨B, 0, none⟩ = some (.string xn) := by rw [cell_of_row w0 _ 0 _ _ _ r0]; rfl
  have q0 : w0.cell? ⟨B + 1, 0, none⟩ = some (.string yn) := by rw [cell_of_row w0 _ 0 _ _ _ r1]; rfl
  have p1 : w0.cell? ⟨B, 1, none⟩ = some (.int .i64 xp) := by rw [cell_of_row w0 _ 1 _ _ _ r0]; rfl
  have q1 : w0.cell? ⟨B + 1, 1, none⟩ = some (.int .i64 yp) := by rw [cell_of_row w0 _ 1 _ _ _ r1]; rfl
  have p2 : w0.cell? ⟨B, 2, none⟩ = some (.int .i64 xr) := by rw [cell_of_row w0 _ 2 _ _ _ r0]; rfl
  have q2 : w0.cell? ⟨B + 1, 2, none⟩ = some (.int .i64 yr) := by rw [cell_of_row w0 _ 2 _ _ _ r1]; rfl
  have p3 : w0.cell? ⟨B, 3, none⟩ = some (.slice xsa xsn xsc) := by rw [cell_of_row w0 _ 3 _ _ _ r0]; rfl
  have q3 : w0.cell? ⟨B + 1, 3, none⟩ = some (.slice ysa ysn ysc) := by rw [cell_of_row w0 _ 3 _ _ _ r1]; rfl
  have p4 : w0.cell? ⟨B, 4, none⟩ = some (.slice xa xbn xc) := by rw [cell_of_row w0 _ 4 _ _ _ r0]; rfl
  have q4 : w0.cell? ⟨B + 1, 4, none⟩ = some (.slice ya ybn yc) := by rw [cell_of_row w0 _ 4 _ _ _ r1]; rfl
  have p5 : w0.cell? ⟨B, 5, none⟩ = some (.bool xv) := by rw [cell_of_row w0 _ 5 _ _ _ r0]; rfl
  have q5 : w0.cell? ⟨B + 1, 5, none⟩ = some (.bool yv) := by rw [cell_of_row w0 _ 5 _ _ _ r1]; rfl
  have HPQ := Lib.hid (And.intro p4 q4)
  clear r0 r1 hka
  have HNO : Hid ((¬ (xn.toList = yn.toList ∧ xp = yp ∧ xr = yr ∧ xv = yv) → false = X) ∧ (X1 = false → false = X) ∧ (xl.length ≠ yl.length → false = X) ∧ (sameRow Bx.same xl yl = false → false = X)) := Lib.hid (by
    rw [← HX.out]
    refine ⟨fun h => (decide_eq_false (fun e => h ⟨e.1, e.2.1, e.2.2.1, e.2.2.2.1⟩)).symm, fun h => (decide_eq_false (fun e => by have h1 := HX1.out; rw [h] at h1; exact absurd e.2.2.2.2.1 (of_decide_eq_false h1))).symm, fun h => (decide_eq_false (fun e => by have h1 := sameRow_len Bx.same h; rw [e.2.2.2.2.2] at h1; cases h1)).symm, fun h => (decide_eq_false (fun e => by rw [e.2.2.2.2.2] at h; cases h)).symm⟩)
  by_cases t0 : xn.toList = yn.toList
  case neg =>
    have HF := Lib.hid (HNO.out.1 (fun e => t0 e.1))
    have u0 : (xn.toList == yn.toList) = false := beq_eq_false_iff_ne.2 t0
    have v0 : (xn.toList != yn.toList) = true := by rw [bne, u0]; rfl
    clear t0
    go_enter Tryd.func34, Tryd.ntmps34
    go_wp2_with fail
    go_returns
    exact ⟨rb rfl HF.out, HKA.out⟩
  by_cases t1 : xp = yp
  case neg =>
    have HF := Lib.hid (HNO.out.1 (fun e => t1 e.2.1))
    have u0 : (xn.toList == yn.toList) = true := beq_iff_eq.2 t0
    have v0 : (xn.toList != yn.toList) = false := by rw [bne, u0]; rfl
    have u1 : (xp == yp) = false := beq_eq_false_iff_ne.2 t1
    have v1 : (xp != yp) = true := by rw [bne, u1]; rfl
    clear t0 t1
    go_enter Tryd.func34, Tryd.ntmps34
    go_wp2_with fail
    go_returns
    exact ⟨rb rfl HF.out, HKA.out⟩
  by_cases t2 : xr = yr
  case neg =>
    have HF := Lib.hid (HNO.out.1 (fun e => t2 e.2.2.1))
    have u0 : (xn.toList == yn.toList) = true := beq_iff_eq.2 t0
    have v0 : (xn.toList != yn.toList) = false := by rw [bne, u0]; rfl
    have u1 : (xp == yp) = true := beq_iff_eq.2 t1
    have v1 : (xp != yp) = false := by rw [bne, u1]; rfl
    have u2 : (xr == yr) = false := beq_eq_false_iff_ne.2 t2
    have v2 : (xr != yr) = true := by rw [bne, u2]; rfl
    clear t0 t1 t2
    go_enter Tryd.func34, Tryd.ntmps34
    go_wp2_with fail
    go_returns
    exact ⟨rb rfl HF.out, HKA.out⟩
  by_cases t3 : xv = yv
  case neg =>
    have HF := Lib.hid (HNO.out.1 (fun e => t3 e.2.2.2))
    have u0 : (xn.toList == yn.toList) = true := beq_iff_eq.2 t0
    have v0 : (xn.toList != yn.toList) = false := by rw [bne, u0]; rfl
    have u1 : (xp == yp) = true := beq_iff_eq.2 t1
    have v1 : (xp != yp) = false := by rw [bne, u1]; rfl
    have u2 : (xr == yr) = true := beq_iff_eq.2 t2
    have v2 : (xr != yr) = false := by rw [bne, u2]; rfl
    clear t0 t1 t2
    go_enter Tryd.func34, Tryd.ntmps34
    go_wp2_with fail
    go_returns
    exact ⟨rb rfl HF.out, HKA.out⟩
  subst t3
  have u0 : (xn.toList == yn.toList) = true := beq_iff_eq.2 t0
  have v0 : (xn.toList != yn.toList) = false := by rw [bne, u0]; rfl
  have u1 : (xp == yp) = true := beq_iff_eq.2 t1
  have v1 : (xp != yp) = false := by rw [bne, u1]; rfl
  have u2 : (xr == yr) = true := beq_iff_eq.2 t2
  have v2 : (xr != yr) = false := by rw [bne, u2]; rfl
  have HT := Lib.hid (And.intro t0 (And.intro t1 t2))
  clear t0 t1 t2
  go_enter Tryd.func34, Tryd.ntmps34
  go_wp2_with fail
  refine (HC1.out _ HKA.out).mono ?_
  rintro e w1 ⟨rfl, m1, rfl⟩
  cases hx1 : X1 with
  | false =>
    have HF := Lib.hid (HNO.out.2.1 hx1)
    go_wp2_with fail
    go_returns
    exact ⟨rb rfl HF.out, HKA.out.drewN m1⟩
  | true =>
    by_cases hn : xbn = ybn
    case neg =>
      have HF := Lib.hid (HNO.out.2.2.1 (by have h1 := HOX.out.len; have h2 := HOY.out.len; simp only at h1 h2; rw [h1, h2]; exact hn))
      have e1 : ((xbn : Int) != (ybn : Int)) = true := by rw [bne_iff_ne]; omega
      clear hn
      go_wp2_with fail
      go_returns
      exact ⟨rb rfl HF.out, HKA.out.drewN m1⟩
    subst hn
    have e1 : ((xbn : Int) != (xbn : Int)) = false := by simp
    obtain ⟨wa, hwa⟩ : ∃ W, w0.drewN m1 = W := ⟨_, rfl⟩
    rw [hwa]
    have HKB : Hid (Keeps No w wa) := Lib.hid (by rw [← hwa]; exact HKA.out.drewN m1)
    have HKC : Hid (Keeps No w0 wa) := Lib.hid (by rw [← hwa]; exact (Keeps.refl _ _).drewN m1)
    have HY1 := Lib.hid hx1
    clear hwa p0 p1 p2 p3 p5 q0 q1 q2 q3 q5 u0 u1 u2 v0 v1 v2 p4 q4 hx1
    have p4 := HKC.out.cell0 HPQ.out.1
    have q4 := HKC.out.cell0 HPQ.out.2
    go_wp2_with fail
    go_loopg [5] xbn (fun g v wr => ∃ i : Nat, v = .int .i64 (i : Int) ∧ i ≤ xbn ∧ g = xbn - i ∧ Hid (((xl.zip yl).take i).all (fun p => p.1.same p.2) = true) ∧ Hid (Keeps No wa wr))
    case atStart => exact ⟨0, rfl, Nat.zero_le _, rfl, Lib.hid rfl, Lib.hid (Keeps.refl _ _)⟩
    case round =>
      obtain ⟨i, rfl, hi, hg, HE, HW⟩ := hrel
      obtain ⟨wo, hwo⟩ : ∃ W, W = wr := ⟨_, rfl⟩
      subst hwo
      have p4' := HW.out.cell0 p4
      have q4' := HW.out.cell0 q4
      by_cases hlt : i < xbn
      · have hlt' : (i : Int) < (xbn : Int) := by omega
        have i0 : (0 : Int) ≤ (i : Int) := by omega
        obtain ⟨b1, o1, z1, hz1, hba1, k1, hbo1⟩ := Fx.get HOX.out (i := i) hlt
        obtain ⟨b2, o2, z2, hz2, hba2, k2, hbo2⟩ := Fx.get HOY.out (i := i) hlt
        dsimp only at hz1 hz2 hba1 hba2
        subst hba1
        subst hba2
        have HZ1 := Lib.hid hz1
        have HZ2 := Lib.hid hz2
        have HB1 := Lib.hid (fun W (h : Keeps No w W) => hbo1.no h)
        have HB2 := Lib.hid (fun W (h : Keeps No w W) => hbo2.no h)
        have HKW := Lib.hid (HKB.out.trans HW.out (fun _ _ e => e))
        have hc1 := hbo1.cap
        have hc2 := hbo2.cap
        unfold maxLen at hc1 hc2
        have HL1 := Lib.hid hbo1.len
        have HL2 := Lib.hid hbo2.len
        have j1 := HKW.out.cell0 k1
        have j2 := HKW.out.cell0 k2
        clear hz1 hz2 hbo1 hbo2 k1 k2
        obtain ⟨za, zn, zc, zl⟩ := z1
        obtain ⟨ta, tn, tc, tl⟩ := z2
        dsimp only [Bx.v] at j1 j2 HL1 HL2 hc1 hc2
        by_cases hzn : zn = tn
        case neg =>
          have e2 : ((zn : Int) != (tn : Int)) = true := by rw [bne_iff_ne]; omega
          have HF := Lib.hid (HNO.out.2.2.2 (sameRow_no _ HZ1.out HZ2.out (sameRow_len _ (by show zl.length ≠ tl.length; rw [HL1.out, HL2.out]; exact hzn))))
          clear hzn
          go_wp2_with fail
          go_quiet (fail)
          go_wp2_with fail
          go_returns
          exact ⟨rb rfl HF.out, HKW.out.drewN nq⟩
        subst hzn
        have e2 : ((zn : Int) != (zn : Int)) = false := by simp
        go_wp2_with fail
        go_quiet (fail)
        go_wp2_with fail
        obtain ⟨wq, hwq⟩ : ∃ W, wo.drewN nq = W := ⟨_, rfl⟩
        rw [hwq]
        have HKQ : Hid (Keeps No w wq) := Lib.hid (by rw [← hwq]; exact HKW.out.drewN nq)
        have HKR : Hid (Keeps No wa wq) := Lib.hid (by rw [← hwq]; exact HW.out.drewN nq)
        clear hwq p4' q4' j1 j2
        go_loopg [8] zn (fun g v wr => ∃ k : Nat, v = .int .i64 (k : Int) ∧ k ≤ zn ∧ g = zn - k ∧ Hid (((zl.zip tl).take k).all (fun p => p.1.same p.2) = true) ∧ Hid (Keeps No wq wr))
        case atStart => exact ⟨0, rfl, Nat.zero_le _, rfl, Lib.hid rfl, Lib.hid (Keeps.refl _ _)⟩
        case round =>
          obtain ⟨k, rfl, hk, hg2, HE2, HW2⟩ := hrel
          by_cases hlt2 : k < zn
          · have hlt2' : (k : Int) < (zn : Int) := by omega
            have k0 : (0 : Int) ≤ (k : Int) := by omega
            have HKX := Lib.hid (HKQ.out.trans HW2.out (fun _ _ e => e))
            obtain ⟨d1, f1, x1, hx1, ha1, hxt1, hxo1⟩ := Bx.get (HB1.out wr HKX.out) (i := k) hlt2
            obtain ⟨d2, f2, x2, hx2, ha2, hxt2, hxo2⟩ := Bx.get (HB2.out wr HKX.out) (i := k) hlt2
            dsimp only at hx1 ha1 hx2 ha2
            subst ha1
            subst ha2
            have HI1 := Lib.hid hx1
            have HI2 := Lib.hid hx2
            have HCI := Lib.hid (fun (W : World) (h : Keeps No wr W) => rsameIns_any x1 x2 W (hxo1.no h) (hxo2.no h))
            obtain ⟨R, hR⟩ : ∃ R, x1.same x2 = R := ⟨_, rfl⟩
            rw [hR] at HCI
            have HR := Lib.hid hR
            obtain ⟨o1', ho1'⟩ : ∃ q, f1 + k * 11 = q := ⟨_, rfl⟩
            obtain ⟨o2', ho2'⟩ : ∃ q, f2 + k * 11 = q := ⟨_, rfl⟩
            rw [ho1'] at hxt1
            rw [ho2'] at hxt2
            have a0 : ∀ u : KW wr, u.W.cell? _ = _ := fun u => u.cell (hxt1 0 _ rfl)
            have c0 : ∀ u : KW wr, u.W.cell? _ = _ := fun u => u.cell (hxt2 0 _ rfl)
            have a1 : ∀ u : KW wr, u.W.cell? _ = _ := fun u => u.cell (hxt1 1 _ rfl)
            have c1 : ∀ u : KW wr, u.W.cell? _ = _ := fun u => u.cell (hxt2 1 _ rfl)
            have a2 : ∀ u : KW wr, u.W.cell? _ = _ := fun u => u.cell (hxt1 2 _ rfl)
            have c2 : ∀ u : KW wr, u.W.cell? _ = _ := fun u => u.cell (hxt2 2 _ rfl)
            have a3 : ∀ u : KW wr, u.W.cell? _ = _ := fun u => u.cell (hxt1 3 _ rfl)
            have c3 : ∀ u : KW wr, u.W.cell? _ = _ := fun u => u.cell (hxt2 3 _ rfl)
            have a4 : ∀ u : KW wr, u.W.cell? _ = _ := fun u => u.cell (hxt1 4 _ rfl)
            have c4 : ∀ u : KW wr, u.W.cell? _ = _ := fun u => u.cell (hxt2 4 _ rfl)
            have a5 : ∀ u : KW wr, u.W.cell? _ = _ := fun u => u.cell (hxt1 5 _ rfl)
            have c5 : ∀ u : KW wr, u.W.cell? _ = _ := fun u => u.cell (hxt2 5 _ rfl)
            have a6 : ∀ u : KW wr, u.W.cell? _ = _ := fun u => u.cell (hxt1 6 _ rfl)
            have c6 : ∀ u : KW wr, u.W.cell? _ = _ := fun u => u.cell (hxt2 6 _ rfl)
            have a7 : ∀ u : KW wr, u.W.cell? _ = _ := fun u => u.cell (hxt1 7 _ rfl)
            have c7 : ∀ u : KW wr, u.W.cell? _ = _ := fun u => u.cell (hxt2 7 _ rfl)
            have a8 : ∀ u : KW wr, u.W.cell? _ = _ := fun u => u.cell (hxt1 8 _ rfl)
            have c8 : ∀ u : KW wr, u.W.cell? _ = _ := fun u => u.cell (hxt2 8 _ rfl)
            have a9 : ∀ u : KW wr, u.W.cell? _ = _ := fun u => u.cell (hxt1 9 _ rfl)
            have c9 : ∀ u : KW wr, u.W.cell? _ = _ := fun u => u.cell (hxt2 9 _ rfl)
            have a10 : ∀ u : KW wr, u.W.cell? _ = _ := fun u => u.cell (hxt1 10 _ rfl)
            have c10 : ∀ u : KW wr, u.W.cell? _ = _ := fun u => u.cell (hxt2 10 _ rfl)
            simp only [Nat.add_zero] at a0 c0
            have hne : Nonempty (KW wr) := ⟨KW.of _⟩
            clear hx1 hx2 hxt1 hxt2 hxo1 hxo2 hR
            go_wp2_with fail
            refine Mix.wp_region_mix (fun W => ∃ u : KW wr, W = u.W) [] (by kernel_rfl) ?_
            have HK4 : Hid (Keeps No wr wr.drew) := Lib.hid ((Keeps.refl _ wr).drew)
            generalize wr.drew = wd at HK4 ⊢
            refine Mix.mix_seg 0 8 2 (by kernel_rfl) (by kernel_rfl) rfl rfl ⟨⟨wd, HK4.out⟩, rfl⟩ ?_
            simp only [List.drop_succ_cons, List.drop_zero, List.take_succ_cons, List.take_zero]
            repeat (go_big_quiet_step (fail))
            refine wpQuiet_nil ?_
            clear a0 a1 a2 a3 a4 a5 a6 a7 a8 a9 a10 c0 c1 c2 c3 c4 c5 c6 c7 c8 c9 c10 hne
            refine Mix.mix_one 8 1 (by kernel_rfl) rfl rfl ?_
            simp only [List.drop_succ_cons, List.drop_zero, List.take_succ_cons, List.take_zero]
            go_wp2_with fail
            refine (HCI.out wd HK4.out).mono ?_
            rintro e w6 ⟨rfl, hk6⟩
            have HK6 := Lib.hid (HK4.out.trans hk6 (fun _ _ e => e))
            clear hk6
            go_wp2_with fail
            refine ⟨.inr ⟨⟨w6, HK6.out⟩, rfl⟩, ?_⟩
            refine Mix.mix_one 9 0 (by kernel_rfl) rfl rfl ?_
            simp only [List.drop_succ_cons, List.drop_zero, List.take_succ_cons, List.take_zero]
            go_wp2_with fail
            refine ⟨.inr ⟨⟨w6, HK6.out⟩, rfl⟩, ?_⟩
            refine Mix.mix_end (by kernel_rfl) ?_
            have HK7 := Lib.hid (HW2.out.trans HK6.out (fun _ _ e => e))
            cases R with
            | false =>
              have HF := Lib.hid (HNO.out.2.2.2 (sameRow_no _ HZ1.out HZ2.out (sameRow_no _ HI1.out HI2.out HR.out)))
              go_wp2_with fail
              go_returns
              exact ⟨rb rfl HF.out, HKQ.out.trans HK7.out (fun _ _ e => e)⟩
            | true =>
              go_wp2_with fail
              go_roundg (zn - (k + 1))
              case rel => exact ⟨k + 1, by go_num, by omega, rfl, Lib.hid (sameRow_more _ HI1.out HI2.out HR.out HE2.out), HK7⟩
              case measure => omega
          · obtain rfl : k = zn := by omega
            have hlt2' : ¬ (k : Int) < (k : Int) := by omega
            have HYES := Lib.hid (sameRow_more (f := Bx.same) HZ1.out HZ2.out (sameRow_yes _ HL1.out HL2.out HE2.out) HE.out)
            have HKF := Lib.hid (HKR.out.trans HW2.out (fun _ _ e => e))
            go_wp2_with fail
            go_roundg (xbn - (i + 1))
            case rel => exact ⟨i + 1, by go_num, by omega, rfl, HYES, HKF⟩
            case measure => omega
      · obtain rfl : i = xbn := by omega
        have hlt' : ¬ (i : Int) < (i : Int) := by omega
        have HF : Hid (true = X) := Lib.hid (by
          rw [← HX.out]
          have h1 := HX1.out; rw [HY1.out] at h1
          exact (decide_eq_true ⟨HT.out.1, HT.out.2.1, HT.out.2.2, trivial, of_decide_eq_true h1, sameRow_yes _ HOX.out.len HOY.out.len HE.out⟩).symm)
        go_wp2_with fail
        go_returns
        exact ⟨rb rfl HF.out, HKB.out.trans HW.out (fun _ _ e => e)⟩
end Go.Proofs.YtbfjmhfhhlncjaaDoor
/- The document's Same: globals. -/
namespace Go.Proofs.YtbfjmhfhhlncjaaDoor
open Go.RowKit
set_option linter.unusedVariables false
set_option linter.unusedSimpArgs false

set_option maxRecDepth 100000 in
set_option maxHeartbeats 25600000 in
theorem rsame_globals (sa sb : Option Addr) (rn kn rc kc : Nat) (l k : List Gx) (w : World) (hl : l.length = rn) (hk : k.length = kn) (hrc : rn ≤ rc ∧ rc ≤ maxLen) (hkc : kn ≤ kc ∧ kc ≤ maxLen)
    (hol : ∀ g ∈ l, GxOk w g) (hok : ∀ g ∈ k, GxOk w g)
    (hra : 0 < rn → ∃ b off, sa = some ⟨b, off, none⟩ ∧ ∀ (i : Nat) (x : Gx), l[i]? = some x → ∀ (j : Nat) (v : Value), x.cells[j]? = some v → w.cell? ⟨b, off + i * 3 + j, none⟩ = some v)
    (hrb : 0 < kn → ∃ b off, sb = some ⟨b, off, none⟩ ∧ ∀ (i : Nat) (x : Gx), k[i]? = some x → ∀ (j : Nat) (v : Value), x.cells[j]? = some v → w.cell? ⟨b, off + i * 3 + j, none⟩ = some v) :
    Calls Tryd.prog 33 #[.slice sa rn rc, .slice sb kn kc] w fun e w' => e = .returned (.bool (sameRow Gx.same l k)) ∧ Keeps No w w' := by
  obtain ⟨X, hX⟩ : ∃ Q, sameRow Gx.same l k = Q := ⟨_, rfl⟩
  rw [hX]
  have HX := Lib.hid hX
  have HL := Lib.hid hl
  have HK := Lib.hid hk
  have HRA := Lib.hid hra
  have HRB := Lib.hid hrb
  have HOL := Lib.hid hol
  have HOK := Lib.hid hok
  unfold maxLen at hrc hkc
  clear hX hl hk hra hrb hol hok
  by_cases hn : rn = kn
  · subst hn
    have e1 : ((rn : Int) != (rn : Int)) = false := by simp
    go_enter Tryd.func33, Tryd.ntmps33
    go_wp2_with fail
    go_loopg [5] rn (fun g v wr => ∃ i : Nat, v = .int .i64 (i : Int) ∧ i ≤ rn ∧ g = rn - i ∧ Hid (((l.zip k).take i).all (fun p => p.1.same p.2) = true) ∧ Hid (Keeps No w wr))
    case atStart => exact ⟨0, rfl, Nat.zero_le _, rfl, Lib.hid rfl, Lib.hid (Keeps.refl _ _)⟩
    case round =>
      obtain ⟨i, rfl, hi, hg, HE, HW⟩ := hrel
      by_cases hlt : i < rn
      · have hlt' : (i : Int) < (rn : Int) := by omega
        have i0 : (0 : Int) ≤ (i : Int) := by omega
        obtain ⟨x, hx⟩ : ∃ x, l[i]? = some x := ⟨_, List.getElem?_eq_getElem (by rw [HL.out]; exact hlt)⟩
        obtain ⟨y, hy⟩ : ∃ y, k[i]? = some y := ⟨_, List.getElem?_eq_getElem (by rw [HK.out]; exact hlt)⟩
        obtain ⟨b1, o1, rfl, hc1⟩ := HRA.out (by omega)
        obtain ⟨b2, o2, rfl, hc2⟩ := HRB.out (by omega)
        have x0 := HW.out.cell0 (hc1 i x hx 0 _ rfl)
        have y0 := HW.out.cell0 (hc2 i y hy 0 _ rfl)
        have x1 := HW.out.cell0 (hc1 i x hx 1 _ rfl)
        have y1 := HW.out.cell0 (hc2 i y hy 1 _ rfl)
        have x2 := HW.out.cell0 (hc1 i x hx 2 _ rfl)
        have y2 := HW.out.cell0 (hc2 i y hy 2 _ rfl)
        rw [Nat.add_zero] at x0 y0
        have HXI := Lib.hid hx
        have HYI := Lib.hid hy
        have HPX := Lib.hid (fun (W : World) (h : Keeps No w W) => (HOL.out x (List.mem_of_getElem? hx)).pc.no h)
        have HPY := Lib.hid (fun (W : World) (h : Keeps No w W) => (HOK.out y (List.mem_of_getElem? hy)).pc.no h)
        obtain ⟨o1', ho1'⟩ : ∃ q, o1 + i * 3 = q := ⟨_, rfl⟩
        obtain ⟨o2', ho2'⟩ : ∃ q, o2 + i * 3 = q := ⟨_, rfl⟩
        rw [ho1'] at x0 x1 x2
        rw [ho2'] at y0 y1 y2
        clear hx hy hc1 hc2
        obtain ⟨xn, xs, xa, xpn, xpc, xl⟩ := x
        obtain ⟨yn, ys, ya, ypn, ypc, yl⟩ := y
        dsimp only at x0 x1 x2 y0 y1 y2
        have a0 : ∀ u : KW wr, u.W.cell? _ = _ := fun u => u.cell x0
        have a1 : ∀ u : KW wr, u.W.cell? _ = _ := fun u => u.cell x1
        have a2 : ∀ u : KW wr, u.W.cell? _ = _ := fun u => u.cell x2
        have c0 : ∀ u : KW wr, u.W.cell? _ = _ := fun u => u.cell y0
        have c1 : ∀ u : KW wr, u.W.cell? _ = _ := fun u => u.cell y1
        have c2 : ∀ u : KW wr, u.W.cell? _ = _ := fun u => u.cell y2
        have hne : Nonempty (KW wr) := ⟨KW.of _⟩
        clear x0 x1 x2 y0 y1 y2
        go_wp2_with fail
        refine Mix.wp_region_mix (fun W => ∃ u : KW wr, W = u.W) [] (by kernel_rfl) ?_
        have HK4 : Hid (Keeps No wr wr.drew) := Lib.hid ((Keeps.refl _ wr).drew)
        generalize wr.drew = wd at HK4 ⊢
        refine Mix.mix_seg 0 8 4 (by kernel_rfl) (by kernel_rfl) rfl rfl ⟨⟨wd, HK4.out⟩, rfl⟩ ?_
        simp only [List.drop_succ_cons, List.drop_zero, List.take_succ_cons, List.take_zero]
        repeat (go_big_quiet_step (fail))
        refine wpQuiet_nil ?_
        clear a0 a1 a2 c0 c1 c2 hne
        refine Mix.mix_two 8 9 3 (by kernel_rfl) rfl rfl rfl ?_ ?_
        case' refine_1 =>
          simp only [List.drop_succ_cons, List.drop_zero, List.take_succ_cons, List.take_zero]
          go_wp2_with fail
          refine ⟨.inr ⟨⟨_, HK4.out.alloc _⟩, rfl⟩, ?_⟩
          refine Mix.mix_one 9 2 (by kernel_rfl) rfl rfl ?_
          simp only [List.drop_succ_cons, List.drop_zero, List.take_succ_cons, List.take_zero]
          go_wp2_with fail
          refine ⟨.inr ⟨⟨_, (HK4.out.alloc _).alloc _⟩, rfl⟩, ?_⟩
          refine Mix.mix_one 10 1 (by kernel_rfl) rfl rfl ?_
          simp only [List.drop_succ_cons, List.drop_zero, List.take_succ_cons, List.take_zero]
          go_wp2_with fail
          refine ⟨.inr ⟨⟨_, (HK4.out.alloc _).alloc _⟩, rfl⟩, ?_⟩
          refine Mix.mix_one 11 0 (by kernel_rfl) rfl rfl ?_
          simp only [List.drop_succ_cons, List.drop_zero, List.take_succ_cons, List.take_zero]
          go_wp2_with fail
          refine ⟨.inr ⟨⟨_, (HK4.out.alloc _).alloc _⟩, rfl⟩, ?_⟩
          refine Mix.mix_end (by kernel_rfl) ?_
          obtain ⟨S0, hS0⟩ : ∃ q, wd.heap.size = q := ⟨_, rfl⟩
          obtain ⟨wz, hwz⟩ : ∃ W, (wd.alloc (.cells #[.string xn, .int .i64 xs, .slice xa xpn xpc] 49)).alloc (.cells #[.string yn, .int .i64 ys, .slice ya ypn ypc] 49) = W := ⟨_, rfl⟩
          have rA : wz.heap[S0]? = some (.cells #[.string xn, .int .i64 xs, .slice xa xpn xpc] 49 (0, 0)) := by rw [← hwz, ← hS0, Below.heap_alloc _ _ _ (by simp)]; exact heap_alloc_new _ _
          have rB : wz.heap[S0 + 1]? = some (.cells #[.string yn, .int .i64 ys, .slice ya ypn ypc] 49 (0, 0)) := by
            rw [← hwz, ← hS0]
            have := heap_alloc_new (wd.alloc (.cells #[.string xn, .int .i64 xs, .slice xa xpn xpc] 49)) (.cells #[.string yn, .int .i64 ys, .slice ya ypn ypc] 49)
            simpa using this
          have HKZ : Hid (Keeps No wr wz) := Lib.hid (by rw [← hwz]; exact (HK4.out.alloc _).alloc _)
          rw [hwz]
          simp only [hS0]
          have g0 : wz.cell? ⟨S0, 0, none⟩ = some (.string xn) := by rw [cell_of_row wz _ 0 _ _ _ rA]; rfl
          have h0 : wz.cell? ⟨S0 + 1, 0, none⟩ = some (.string yn) := by rw [cell_of_row wz _ 0 _ _ _ rB]; rfl
          have g1 : wz.cell? ⟨S0, 1, none⟩ = some (.int .i64 xs) := by rw [cell_of_row wz _ 1 _ _ _ rA]; rfl
          have h1 : wz.cell? ⟨S0 + 1, 1, none⟩ = some (.int .i64 ys) := by rw [cell_of_row wz _ 1 _ _ _ rB]; rfl
          have g2 : wz.cell? ⟨S0, 2, none⟩ = some (.slice xa xpn xpc) := by rw [cell_of_row wz _ 2 _ _ _ rA]; rfl
          have h2 : wz.cell? ⟨S0 + 1, 2, none⟩ = some (.slice ya ypn ypc) := by rw [cell_of_row wz _ 2 _ _ _ rB]; rfl
          clear rA rB hwz hS0
          generalize S0 + 1 = B7 at *
          generalize S0 = B6 at *
        case' refine_2 =>
          simp only [List.drop_succ_cons, List.drop_zero, List.take_succ_cons, List.take_zero]
          go_wp2_with fail
          refine ⟨.inr ⟨⟨_, HK4.out.alloc _⟩, rfl⟩, ?_⟩
          refine Mix.mix_one 8 2 (by kernel_rfl) rfl rfl ?_
          simp only [List.drop_succ_cons, List.drop_zero, List.take_succ_cons, List.take_zero]
          go_wp2_with fail
          refine ⟨.inr ⟨⟨_, (HK4.out.alloc _).alloc _⟩, rfl⟩, ?_⟩
          refine Mix.mix_one 10 1 (by kernel_rfl) rfl rfl ?_
          simp only [List.drop_succ_cons, List.drop_zero, List.take_succ_cons, List.take_zero]
          go_wp2_with fail
          refine ⟨.inr ⟨⟨_, (HK4.out.alloc _).alloc _⟩, rfl⟩, ?_⟩
          refine Mix.mix_one 11 0 (by kernel_rfl) rfl rfl ?_
          simp only [List.drop_succ_cons, List.drop_zero, List.take_succ_cons, List.take_zero]
          go_wp2_with fail
          refine ⟨.inr ⟨⟨_, (HK4.out.alloc _).alloc _⟩, rfl⟩, ?_⟩
          refine Mix.mix_end (by kernel_rfl) ?_
          obtain ⟨S0, hS0⟩ : ∃ q, wd.heap.size = q := ⟨_, rfl⟩
          obtain ⟨wz, hwz⟩ : ∃ W, (wd.alloc (.cells #[.string yn, .int .i64 ys, .slice ya ypn ypc] 49)).alloc (.cells #[.string xn, .int .i64 xs, .slice xa xpn xpc] 49) = W := ⟨_, rfl⟩
          have rA : wz.heap[S0]? = some (.cells #[.string yn, .int .i64 ys, .slice ya ypn ypc] 49 (0, 0)) := by rw [← hwz, ← hS0, Below.heap_alloc _ _ _ (by simp)]; exact heap_alloc_new _ _
          have rB : wz.heap[S0 + 1]? = some (.cells #[.string xn, .int .i64 xs, .slice xa xpn xpc] 49 (0, 0)) := by
            rw [← hwz, ← hS0]
            have := heap_alloc_new (wd.alloc (.cells #[.string yn, .int .i64 ys, .slice ya ypn ypc] 49)) (.cells #[.string xn, .int .i64 xs, .slice xa xpn xpc] 49)
            simpa using this
          have HKZ : Hid (Keeps No wr wz) := Lib.hid (by rw [← hwz]; exact (HK4.out.alloc _).alloc _)
          rw [hwz]
          simp only [hS0]
          have g0 : wz.cell? ⟨S0 + 1, 0, none⟩ = some (.string xn) := by rw [cell_of_row wz _ 0 _ _ _ rB]; rfl
          have h0 : wz.cell? ⟨S0, 0, none⟩ = some (.string yn) := by rw [cell_of_row wz _ 0 _ _ _ rA]; rfl
          have g1 : wz.cell? ⟨S0 + 1, 1, none⟩ = some (.int .i64 xs) := by rw [cell_of_row wz _ 1 _ _ _ rB]; rfl
          have h1 : wz.cell? ⟨S0, 1, none⟩ = some (.int .i64 ys) := by rw [cell_of_row wz _ 1 _ _ _ rA]; rfl
          have g2 : wz.cell? ⟨S0 + 1, 2, none⟩ = some (.slice xa xpn xpc) := by rw [cell_of_row wz _ 2 _ _ _ rB]; rfl
          have h2 : wz.cell? ⟨S0, 2, none⟩ = some (.slice ya ypn ypc) := by rw [cell_of_row wz _ 2 _ _ _ rA]; rfl
          clear rA rB hwz hS0
          generalize S0 + 1 = B6 at *
          generalize S0 = B7 at *
        all_goals
          by_cases t0 : xn.toList = yn.toList
          case neg =>
            have HF : Hid (false = X) := Lib.hid ((sameRow_no _ HXI.out HYI.out (by show (decide (xn.toList = yn.toList) && _) = false; rw [decide_eq_false t0, Bool.false_and])).symm.trans HX.out)
            have u0 : (xn.toList == yn.toList) = false := beq_eq_false_iff_ne.2 t0
            have v0 : (xn.toList != yn.toList) = true := by rw [bne, u0]; rfl
            clear t0
            go_wp2_with fail
            go_returns
            exact ⟨rb rfl HF.out, HW.out.trans HKZ.out (fun _ _ e => e)⟩
          have u0 : (xn.toList == yn.toList) = true := beq_iff_eq.2 t0
          have v0 : (xn.toList != yn.toList) = false := by rw [bne, u0]; rfl
          have HT0 := Lib.hid t0
          clear t0
          by_cases t1 : xs = ys
          case neg =>
            have HF : Hid (false = X) := Lib.hid ((sameRow_no _ HXI.out HYI.out (by show (_ && (decide (xs = ys) && _)) = false; rw [decide_eq_false t1, Bool.false_and, Bool.and_false])).symm.trans HX.out)
            have u1 : (xs == ys) = false := beq_eq_false_iff_ne.2 t1
            have v1 : (xs != ys) = true := by rw [bne, u1]; rfl
            clear t1
            go_wp2_with fail
            go_returns
            exact ⟨rb rfl HF.out, HW.out.trans HKZ.out (fun _ _ e => e)⟩
          have u1 : (xs == ys) = true := beq_iff_eq.2 t1
          have v1 : (xs != ys) = false := by rw [bne, u1]; rfl
          have HT1 := Lib.hid t1
          clear t1
          have HP1 := Lib.hid (HPX.out wz (HW.out.trans HKZ.out (fun _ _ e => e)))
          have HP2 := Lib.hid (HPY.out wz (HW.out.trans HKZ.out (fun _ _ e => e)))
          have HW3 := Lib.hid (HW.out.trans HKZ.out (fun _ _ e => e))
          have hcx := HP1.out.cap
          have hcy := HP2.out.cap
          unfold maxLen at hcx hcy
          by_cases t2 : xpn = ypn
          case neg =>
            have HF : Hid (false = X) := Lib.hid ((sameRow_no _ HXI.out HYI.out (by show (_ && (_ && sameRow Px.same xl yl)) = false; rw [sameRow_len _ (by rw [HP1.out.len, HP2.out.len]; exact t2), Bool.and_false, Bool.and_false])).symm.trans HX.out)
            have v2 : ((xpn : Int) != (ypn : Int)) = true := by rw [bne_iff_ne]; omega
            clear t2
            go_wp2_with fail
            go_returns
            exact ⟨rb rfl HF.out, HW3.out⟩
          subst t2
          have v2 : ((xpn : Int) != (xpn : Int)) = false := by simp
          go_wp2_with fail
          go_loopg [8] xpn (fun g v wx => ∃ j m : Nat, v = .int .i64 (j : Int) ∧ j ≤ xpn ∧ g = xpn - j ∧ Hid (((xl.zip yl).take j).all (fun p => p.1.same p.2) = true) ∧ wx = wz.drewN m)
          case atStart => exact ⟨0, 0, rfl, Nat.zero_le _, rfl, Lib.hid rfl, rfl⟩
          case round =>
            obtain ⟨j, m, rfl, hj, hg2, HE2, rfl⟩ := hrel
            by_cases hlt2 : j < xpn
            · have hlt2' : (j : Int) < (xpn : Int) := by omega
              have j0 : (0 : Int) ≤ (j : Int) := by omega
              obtain ⟨b3, o3, z1, hz1, rfl, k0, k1, k2, k3⟩ := HP1.out.get hlt2
              obtain ⟨b4, o4, z2, hz2, rfl, d0, d1, d2, d3⟩ := HP2.out.get hlt2
              have HZ1 := Lib.hid hz1
              have HZ2 := Lib.hid hz2
              clear hz1 hz2
              obtain ⟨R, hR⟩ : ∃ R, z1.same z2 = R := ⟨_, rfl⟩
              have hrun := fun W => neq_pc z1 z2 W
              rw [hR] at hrun
              have HR := Lib.hid hR
              clear hR
              cases R with
              | true =>
                simp only [Bool.not_true] at hrun
                go_wp2_with fail
                go_quiet (fail)
                go_wp2_with fail
                go_roundg (xpn - (j + 1))
                case rel => exact ⟨j + 1, m + nq, by go_num, by omega, rfl, Lib.hid (sameRow_more _ HZ1.out HZ2.out HR.out HE2.out), rfl⟩
                case measure => omega
              | false =>
                simp only [Bool.not_false] at hrun
                have HF : Hid (false = X) := Lib.hid ((sameRow_no _ HXI.out HYI.out (by show (_ && (_ && sameRow Px.same xl yl)) = false; rw [sameRow_no _ HZ1.out HZ2.out HR.out, Bool.and_false, Bool.and_false])).symm.trans HX.out)
                go_wp2_with fail
                go_quiet (fail)
                go_wp2_with fail
                go_returns
                exact ⟨rb rfl HF.out, (HW3.out.drewN m).drewN nq⟩
            · obtain rfl : j = xpn := by omega
              have hlt2' : ¬ (j : Int) < (j : Int) := by omega
              have HYES : Hid (((l.zip k).take (i + 1)).all (fun p => p.1.same p.2) = true) := Lib.hid (sameRow_more _ HXI.out HYI.out (by show (decide (xn.toList = yn.toList) && (decide (xs = ys) && sameRow Px.same xl yl)) = true; rw [decide_eq_true HT0.out, decide_eq_true HT1.out, sameRow_yes _ HP1.out.len HP2.out.len HE2.out]; rfl) HE.out)
              go_wp2_with fail
              go_roundg (rn - (i + 1))
              case rel => exact ⟨i + 1, by go_num, by omega, rfl, HYES, Lib.hid (HW3.out.drewN m)⟩
              case measure => omega
      · obtain rfl : i = rn := by omega
        have hlt' : ¬ (i : Int) < (i : Int) := by omega
        have HF : Hid (true = X) := Lib.hid ((sameRow_yes _ HL.out HK.out HE.out).symm.trans HX.out)
        go_wp2_with fail
        go_returns
        exact ⟨rb rfl HF.out, HW.out⟩
  · have e1 : ((rn : Int) != (kn : Int)) = true := by rw [bne_iff_ne]; omega
    have HF : Hid (false = X) := Lib.hid ((sameRow_len _ (by rw [HL.out, HK.out]; exact hn)).symm.trans HX.out)
    clear hn
    go_enter Tryd.func33, Tryd.ntmps33
    go_wp2_with fail
    go_returns
    exact ⟨rb rfl HF.out, Keeps.refl _ _⟩
end Go.Proofs.YtbfjmhfhhlncjaaDoor
/- The document's Same, of any programs. -/
namespace Go.Proofs.YtbfjmhfhhlncjaaDoor
open Go.RowKit
set_option linter.unusedVariables false
set_option linter.unusedSimpArgs false

def Pg.same (p q : Pg) : Bool := decide (p.main = q.main) && (sameRow Gx.same p.gl q.gl && sameRow Fx.same p.fl q.fl)
set_option maxRecDepth 100000 in
set_option maxHeartbeats 25600000 in
theorem rsame_any (p q : Pg) (w : World) (hp : PgOk w p) (hq : PgOk w q) :
    Calls Tryd.prog 17 #[pv p, pv q] w fun e w' => e = .returned (.bool (p.same q)) ∧ Keeps No w w' := by
  have HG := Lib.hid (fun (W : World) (hk : Keeps No w W) => rsame_globals p.ga q.ga p.gn q.gn p.gc q.gc p.gl q.gl W hp.glen hq.glen hp.gcap hq.gcap (fun g h => (hp.gok g h).no hk) (fun g h => (hq.gok g h).no hk)
    (fun h => by obtain ⟨b, off, e, hc⟩ := hp.gat h; exact ⟨b, off, e, fun i z hz j v hj => hk.cell0 (hc i z hz j v hj)⟩)
    (fun h => by obtain ⟨b, off, e, hc⟩ := hq.gat h; exact ⟨b, off, e, fun i z hz j v hj => hk.cell0 (hc i z hz j v hj)⟩))
  obtain ⟨X1, hX1⟩ : ∃ X, sameRow Gx.same p.gl q.gl = X := ⟨_, rfl⟩
  rw [hX1] at HG
  obtain ⟨X, hX⟩ : ∃ X, p.same q = X := ⟨_, rfl⟩
  rw [hX]
  unfold Pg.same at hX
  rw [hX1] at hX
  have HX := Lib.hid hX
  have HP := Lib.hid hp
  have HQ := Lib.hid hq
  have hcp := hp.fcap
  have hcq := hq.fcap
  unfold maxLen at hcp hcq
  unfold pv
  obtain ⟨pm, hpm⟩ : ∃ m, p.main = m := ⟨_, rfl⟩
  obtain ⟨qm, hqm⟩ : ∃ m, q.main = m := ⟨_, rfl⟩
  rw [hpm, hqm]
  rw [hpm, hqm] at HX
  obtain ⟨pn, hpn⟩ : ∃ m, p.fn = m := ⟨_, rfl⟩
  obtain ⟨qn, hqn⟩ : ∃ m, q.fn = m := ⟨_, rfl⟩
  obtain ⟨pc, hpc⟩ : ∃ m, p.fc = m := ⟨_, rfl⟩
  obtain ⟨qc, hqc⟩ : ∃ m, q.fc = m := ⟨_, rfl⟩
  obtain ⟨pa, hpa⟩ : ∃ m, p.fa = m := ⟨_, rfl⟩
  obtain ⟨qa, hqa⟩ : ∃ m, q.fa = m := ⟨_, rfl⟩
  rw [hpn, hpc] at hcp
  rw [hqn, hqc] at hcq
  rw [hpn, hqn, hpc, hqc, hpa, hqa]
  have HN := Lib.hid (And.intro hpn (And.intro hqn (And.intro hpa hqa)))
  clear hp hq hX hX1 hpm hqm hpn hqn hpc hqc hpa hqa
  obtain ⟨w0, hw0⟩ : ∃ W, (w.alloc (.cells #[.slice p.ga p.gn p.gc, .slice pa pn pc, .int .i64 pm] 36)).alloc (.cells #[.slice q.ga q.gn q.gc, .slice qa qn qc, .int .i64 qm] 36) = W := ⟨_, rfl⟩
  have hka : Keeps No w w0 := by rw [← hw0]; exact ((Keeps.refl No w).alloc _).alloc _
  obtain ⟨B, hB⟩ : ∃ q, w.heap.size = q := ⟨_, rfl⟩
  have r0 : w0.heap[B]? = some (.cells #[.slice p.ga p.gn p.gc, .slice pa pn pc, .int .i64 pm] 36 (0, 0)) := by
    rw [← hw0, ← hB, Below.heap_alloc _ _ _ (by simp)]; exact heap_alloc_new _ _
  have r1 : w0.heap[B + 1]? = some (.cells #[.slice q.ga q.gn q.gc, .slice qa qn qc, .int .i64 qm] 36 (0, 0)) := by
    rw [← hw0, ← hB]
    have := heap_alloc_new (w.alloc (.cells #[.slice p.ga p.gn p.gc, .slice pa pn pc, .int .i64 pm] 36)) (.cells #[.slice q.ga q.gn q.gc, .slice qa qn qc, .int .i64 qm] 36)
    simpa using this
  have HKA := Lib.hid hka
  have p0 : w0.cell? ⟨B, 0, none⟩ = some (.slice p.ga p.gn p.gc) := by rw [cell_of_row w0 _ 0 _ _ _ r0]; rfl
  have p1 : w0.cell? ⟨B, 1, none⟩ = some (.slice pa pn pc) := by rw [cell_of_row w0 _ 1 _ _ _ r0]; rfl
  have p2 : w0.cell? ⟨B, 2, none⟩ = some (.int .i64 pm) := by rw [cell_of_row w0 _ 2 _ _ _ r0]; rfl
  have q0 : w0.cell? ⟨B + 1, 0, none⟩ = some (.slice q.ga q.gn q.gc) := by rw [cell_of_row w0 _ 0 _ _ _ r1]; rfl
  have q1 : w0.cell? ⟨B + 1, 1, none⟩ = some (.slice qa qn qc) := by rw [cell_of_row w0 _ 1 _ _ _ r1]; rfl
  have q2 : w0.cell? ⟨B + 1, 2, none⟩ = some (.int .i64 qm) := by rw [cell_of_row w0 _ 2 _ _ _ r1]; rfl
  have HPQ := Lib.hid (And.intro p1 q1)
  clear r0 r1 hka
  by_cases hm : pm = qm
  case neg =>
    have u0 : (pm == qm) = false := beq_eq_false_iff_ne.2 hm
    have v0 : (pm != qm) = true := by rw [bne, u0]; rfl
    have HF : Hid (false = X) := Lib.hid (by rw [← HX.out, decide_eq_false hm]; rfl)
    clear hm
    go_enter Tryd.func17, Tryd.ntmps17
    go_wp2_with fail
    go_returns
    exact ⟨rb rfl HF.out, HKA.out⟩
  have u0 : (pm == qm) = true := beq_iff_eq.2 hm
  have v0 : (pm != qm) = false := by rw [bne, u0]; rfl
  have HM := Lib.hid hm
  clear hm
  go_enter Tryd.func17, Tryd.ntmps17
  go_wp2_with fail
  refine (HG.out _ HKA.out).mono ?_
  rintro e w1 ⟨rfl, hk1⟩
  have HK1 := Lib.hid (HKA.out.trans hk1 (fun _ _ e => e))
  have p1' := hk1.cell0 HPQ.out.1
  have q1' := hk1.cell0 HPQ.out.2
  clear hk1
  cases X1 with
  | false =>
    have HF : Hid (false = X) := Lib.hid (by rw [← HX.out]; simp)
    go_wp2_with fail
    go_returns
    exact ⟨rb rfl HF.out, HK1.out⟩
  | true =>
    by_cases hn : pn = qn
    case neg =>
      have e1 : ((pn : Int) != (qn : Int)) = true := by rw [bne_iff_ne]; omega
      have HF : Hid (false = X) := Lib.hid (by rw [← HX.out, sameRow_len _ (by rw [HP.out.flen, HQ.out.flen, HN.out.1, HN.out.2.1]; exact hn)]; simp)
      clear hn
      go_wp2_with fail
      go_returns
      exact ⟨rb rfl HF.out, HK1.out⟩
    subst hn
    have e1 : ((pn : Int) != (pn : Int)) = false := by simp
    clear p0 p1 p2 q0 q1 q2 u0 v0
    go_wp2_with fail
    go_loopg [5] pn (fun g v wr => ∃ i : Nat, v = .int .i64 (i : Int) ∧ i ≤ pn ∧ g = pn - i ∧ Hid (((p.fl.zip q.fl).take i).all (fun p => p.1.same p.2) = true) ∧ Hid (Keeps No w1 wr))
    case atStart => exact ⟨0, rfl, Nat.zero_le _, rfl, Lib.hid rfl, Lib.hid (Keeps.refl _ _)⟩
    case round =>
      obtain ⟨i, rfl, hi, hg, HE, HW⟩ := hrel
      have p4 := HW.out.cell0 p1'
      have q4 := HW.out.cell0 q1'
      by_cases hlt : i < pn
      · have hlt' : (i : Int) < (pn : Int) := by omega
        have i0 : (0 : Int) ≤ (i : Int) := by omega
        have HKX := Lib.hid (HK1.out.trans HW.out (fun _ _ e => e))
        obtain ⟨b1, o1, x1, hx1, ha1, hxt1, hxo1⟩ := Pg.fget (HP.out.no HKX.out) (i := i) (by rw [HN.out.1]; exact hlt)
        obtain ⟨b2, o2, x2, hx2, ha2, hxt2, hxo2⟩ := Pg.fget (HQ.out.no HKX.out) (i := i) (by rw [HN.out.2.1]; exact hlt)
        rw [HN.out.2.2.1] at ha1
        rw [HN.out.2.2.2] at ha2
        subst ha1
        subst ha2
        have HI1 := Lib.hid hx1
        have HI2 := Lib.hid hx2
        have HCI := Lib.hid (fun (W : World) (h : Keeps No wr W) => rsameFn_any x1 x2 W (hxo1.no h) (hxo2.no h))
        obtain ⟨R, hR⟩ : ∃ R, x1.same x2 = R := ⟨_, rfl⟩
        rw [hR] at HCI
        have HR := Lib.hid hR
        obtain ⟨o1', ho1'⟩ : ∃ q, o1 + i * 6 = q := ⟨_, rfl⟩
        obtain ⟨o2', ho2'⟩ : ∃ q, o2 + i * 6 = q := ⟨_, rfl⟩
        rw [ho1'] at hxt1
        rw [ho2'] at hxt2
        have a0 : ∀ u : KW wr, u.W.cell? _ = _ := fun u => u.cell (hxt1 0 _ rfl)
        have c0 : ∀ u : KW wr, u.W.cell? _ = _ := fun u => u.cell (hxt2 0 _ rfl)
        have a1 : ∀ u : KW wr, u.W.cell? _ = _ := fun u => u.cell (hxt1 1 _ rfl)
        have c1 : ∀ u : KW wr, u.W.cell? _ = _ := fun u => u.cell (hxt2 1 _ rfl)
        have a2 : ∀ u : KW wr, u.W.cell? _ = _ := fun u => u.cell (hxt1 2 _ rfl)
        have c2 : ∀ u : KW wr, u.W.cell? _ = _ := fun u => u.cell (hxt2 2 _ rfl)
        have a3 : ∀ u : KW wr, u.W.cell? _ = _ := fun u => u.cell (hxt1 3 _ rfl)
        have c3 : ∀ u : KW wr, u.W.cell? _ = _ := fun u => u.cell (hxt2 3 _ rfl)
        have a4 : ∀ u : KW wr, u.W.cell? _ = _ := fun u => u.cell (hxt1 4 _ rfl)
        have c4 : ∀ u : KW wr, u.W.cell? _ = _ := fun u => u.cell (hxt2 4 _ rfl)
        have a5 : ∀ u : KW wr, u.W.cell? _ = _ := fun u => u.cell (hxt1 5 _ rfl)
        have c5 : ∀ u : KW wr, u.W.cell? _ = _ := fun u => u.cell (hxt2 5 _ rfl)
        have ap : ∀ u : KW wr, u.W.cell? _ = _ := fun u => u.cell p4
        have aq : ∀ u : KW wr, u.W.cell? _ = _ := fun u => u.cell q4
        simp only [Nat.add_zero] at a0 c0
        have hne : Nonempty (KW wr) := ⟨KW.of _⟩
        clear hx1 hx2 hxt1 hxt2 hxo1 hxo2 hR
        go_wp2_with fail
        clear p4 q4
        refine Mix.wp_region_mix (fun W => ∃ u : KW wr, W = u.W) [] (by kernel_rfl) ?_
        have HK4 : Hid (Keeps No wr wr.drew) := Lib.hid ((Keeps.refl _ wr).drew)
        generalize wr.drew = wd at HK4 ⊢
        refine Mix.mix_seg 0 10 2 (by kernel_rfl) (by kernel_rfl) rfl rfl ⟨⟨wd, HK4.out⟩, rfl⟩ ?_
        simp only [List.drop_succ_cons, List.drop_zero, List.take_succ_cons, List.take_zero]
        repeat (go_big_quiet_step (fail))
        refine wpQuiet_nil ?_
        clear a0 a1 a2 a3 a4 a5 c0 c1 c2 c3 c4 c5 ap aq hne
        refine Mix.mix_one 10 1 (by kernel_rfl) rfl rfl ?_
        simp only [List.drop_succ_cons, List.drop_zero, List.take_succ_cons, List.take_zero]
        go_wp2_with fail
        refine (HCI.out wd HK4.out).mono ?_
        rintro e w6 ⟨rfl, hk6⟩
        have HK6 := Lib.hid (HK4.out.trans hk6 (fun _ _ e => e))
        clear hk6
        go_wp2_with fail
        refine ⟨.inr ⟨⟨w6, HK6.out⟩, rfl⟩, ?_⟩
        refine Mix.mix_one 11 0 (by kernel_rfl) rfl rfl ?_
        simp only [List.drop_succ_cons, List.drop_zero, List.take_succ_cons, List.take_zero]
        go_wp2_with fail
        refine ⟨.inr ⟨⟨w6, HK6.out⟩, rfl⟩, ?_⟩
        refine Mix.mix_end (by kernel_rfl) ?_
        have HK7 := Lib.hid (HW.out.trans HK6.out (fun _ _ e => e))
        cases R with
        | false =>
          have HF : Hid (false = X) := Lib.hid (by rw [← HX.out, sameRow_no _ HI1.out HI2.out HR.out]; simp)
          go_wp2_with fail
          go_returns
          exact ⟨rb rfl HF.out, HK1.out.trans HK7.out (fun _ _ e => e)⟩
        | true =>
          go_wp2_with fail
          go_roundg (pn - (i + 1))
          case rel => exact ⟨i + 1, by go_num, by omega, rfl, Lib.hid (sameRow_more _ HI1.out HI2.out HR.out HE.out), HK7⟩
          case measure => omega
      · obtain rfl : i = pn := by omega
        have hlt' : ¬ (i : Int) < (i : Int) := by omega
        have HF : Hid (true = X) := Lib.hid (by
          rw [← HX.out, decide_eq_true HM.out, sameRow_yes _ (HP.out.flen.trans HN.out.1) (HQ.out.flen.trans HN.out.2.1) HE.out]; rfl)
        go_wp2_with fail
        go_returns
        exact ⟨rb rfl HF.out, HK1.out.trans HW.out (fun _ _ e => e)⟩
end Go.Proofs.YtbfjmhfhhlncjaaDoor
