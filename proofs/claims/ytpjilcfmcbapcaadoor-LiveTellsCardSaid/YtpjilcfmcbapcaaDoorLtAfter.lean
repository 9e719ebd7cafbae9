/- l13.lists: the document's sets as lists. -/
import Derived.Test.YtpjilcfmcbapcaaDoorLtRows
import Derived.Test.YtpjilcfmcbapcaaDoorLvBehind
namespace Go.Proofs.YtpjilcfmcbapcaaDoor
open Go.RowKit
set_option linter.unusedVariables false
set_option linter.unusedSimpArgs false

set_option maxRecDepth 100000 in
set_option maxHeartbeats 3200000 in
theorem rlists_any (w : World) (B n R : Nat) (v : Value) (vs : Nat → Value) (X : Nat → Nat) (h : FR B w v n R vs X) (hn : n ≤ 1000) (hR : R ≤ 100000) :
    Calls Tryd.prog 17 #[v] w fun e w' => ∃ u, e = .returned u ∧ LL w.heap.size w' u ((List.range n).map (fun b => listB (X b) R)) ∧ Keeps No w w' := by
  obtain ⟨aa, cc, rfl, ha⟩ := own_form h.own
  have H := Lib.hid h
  have HAA := Lib.hid ha
  clear h ha
  go_enter Tryd.func17, Tryd.ntmps17
  go_wp2_with fail
  go_loopg [3, 4] n (fun k v u wr => ∃ i : Nat, u = .int .i64 (i : Int) ∧ i ≤ n ∧ k = n - i ∧ Hid (LL w.heap.size wr v ((List.range i).map (fun b => listB (X b) R))) ∧ Hid (Keeps No w wr))
  case atStart => exact ⟨0, rfl, Nat.zero_le _, rfl, Lib.hid ⟨⟨[], World.ownsRow_nil _ _ _ _, fun i l h => (by cases h)⟩⟩, Lib.hid (Keeps.refl _ _)⟩
  case round =>
    obtain ⟨i, rfl, hi, hg, HL, HK⟩ := hrel
    by_cases hlt : i < n
    · have hlt' : (i : Int) < (n : Int) := by omega
      have i0 : (0 : Int) ≤ (i : Int) := by omega
      obtain ⟨g, rfl⟩ := HAA.out (by omega)
      have hel := H.out.el i hlt
      obtain ⟨ay, ky, hvy, _, _, hbl⟩ := own_bl hel
      have hc : wr.cell? ⟨g, i, none⟩ = some (.slice ay R ky) := HK.out.cell0 (by rw [World.ownsRow.cellAt H.out.own i (by omega), vrow_get _ hlt, hvy])
      have HLS := Lib.hid (flist_any wr ay R ky (X i) (hbl.no HK.out) hR)
      clear hel hvy hbl
      go_wp2_with fail
      refine HLS.out.mono ?_
      rintro e w1 ⟨u, rfl, hu⟩
      obtain ⟨aa, ca, rfl, _⟩ := own_form hu.o
      have HU := Lib.hid hu
      have HK1 : Hid (Keeps No w w1) := Lib.hid (HK.out.trans hu.k (fun _ _ e => e))
      obtain ⟨vs2, hvs, hall⟩ := HL.out.ex
      rw [List.length_map, List.length_range] at hvs
      have HV : Hid (w1.ownsRow w.heap.size 22 1 u3 i vs2) := Lib.hid (own_keep hvs hu.k (fun _ e => e.elim))
      have HALL : Hid (∀ (j : Nat) (l : List Int), ((List.range i).map (fun b => listB (X b) R))[j]? = some l → ∃ y, vs2[j]? = some y ∧ w1.ownsRow w.heap.size 3 1 y l.length (irow l)) := Lib.hid (fun j l hl => by
        obtain ⟨y, h1, h2⟩ := hall j l hl
        exact ⟨y, h1, own_keep h2 hu.k (fun _ e => e.elim)⟩)
      obtain ⟨ul, hul⟩ : ∃ k, (listB (X i) R).length = k := ⟨_, rfl⟩
      rw [hul] at HU ⊢
      have HUL := Lib.hid hul
      clear hul
      clear hu hvs hall
      go_wp2_with (at_builtin; refine wpList_appV _ rfl (.tmp 11) (.tmp 17) 40 rfl Tryd.underlying40 w.heap.size u3 i vs2 (.slice aa ul ca) w1.heap.size rfl (HV.out.alloc _) rfl (heap_alloc_new _ _) rfl (by omega) (by have := HK1.out.size; simp; omega) ?_)
      intro g2 cap2 w2 ho2 hg2
      have hk2 : Keeps (fun q => u3.ownBlock = some q) w1 w2 := ((Keeps.refl _ _).alloc _).grown hg2 (fun q e => .inl e)
      have HK2 : Hid (Keeps No w w2) := Lib.hid (HK1.out.trans hk2 (fun q hq e => by have := own_lo HV.out q e; omega))
      have hno : ∀ (y : Value) (k : Nat) (xs : List Value), w1.ownsRow w.heap.size 3 1 y k xs → w2.ownsRow w.heap.size 3 1 y k xs := fun y k xs hy => own_keep hy hk2 (fun q e hq => by
        obtain ⟨c1, h1⟩ := own_typ HV.out e
        obtain ⟨c2, h2⟩ := own_typ hy hq
        exact type_ne h1 h2 (by decide) rfl)
      have HL2 : Hid (LL w.heap.size w2 (.slice (some ⟨g2, 0, none⟩) (i + 1) cap2) ((List.range (i + 1)).map (fun b => listB (X b) R))) := Lib.hid ⟨⟨vs2 ++ [.slice aa ul ca], by rw [List.length_map, List.length_range]; exact ho2, fun j l hl => by
        have hvl : vs2.length = i := by have := HV.out.1; omega
        rw [List.range_succ, List.map_append] at hl
        by_cases hj : j < i
        · rw [List.getElem?_append_left (by rw [List.length_map, List.length_range]; exact hj)] at hl
          obtain ⟨y, h1, h2⟩ := HALL.out j l hl
          exact ⟨y, by rw [List.getElem?_append_left (by omega)]; exact h1, hno _ _ _ h2⟩
        · have hj2 : j = i := by
            have := (List.getElem?_eq_some_iff.1 hl).1
            simp at this; omega
          subst hj2
          rw [List.getElem?_append_right (by simp), List.length_map, List.length_range, Nat.sub_self] at hl
          obtain rfl : listB (X j) R = l := by simpa using hl
          exact ⟨_, by rw [List.getElem?_append_right (by omega), hvl, Nat.sub_self]; rfl, hno _ _ _ (by rw [HUL.out]; exact own_mono (by have := HU.out.o; rw [HUL.out] at this; exact this) HK.out.size)⟩⟩⟩
      clear ho2 hg2 hk2 hno
      go_wp2_with fail
      go_roundg (n - (i + 1))
      case rel => exact ⟨i + 1, by go_num, by omega, rfl, HL2, HK2⟩
      case measure => omega
    · obtain rfl : i = n := by omega
      have hlt' : ¬ (i : Int) < (i : Int) := by omega
      go_wp2_with fail
      go_returns
      exact ⟨_, rfl, HL.out, HK.out⟩
end Go.Proofs.YtpjilcfmcbapcaaDoor
/- The document's Behind. -/
namespace Go.Proofs.YtpjilcfmcbapcaaDoor
open Go.RowKit
set_option linter.unusedVariables false
set_option linter.unusedSimpArgs false

/-- Flags that can be read stay where a row of rows is written. -/
theorem BlAt.set {w w' : World} {a : Option Addr} {n X Q m : Nat} {vs : Nat → Value} {ty : TypeId} (h : BlAt w a n X) (hk : Keeps (fun q => q = Q) w w') (hQ : w.heap[Q]? = some (.cells (vrow m vs).toArray ty (0, 0))) (hv : ∀ k, k < m → ∃ a n c, vs k = .slice a n c) : BlAt w' a n X :=
  ⟨fun r hr => by
    obtain ⟨b, off, e, hc⟩ := h.at_ r hr
    refine ⟨b, off, e, hk.cell hc (fun e2 => ?_)⟩
    simp only at e2
    subst e2
    rw [cell_of_row w b _ _ _ _ hQ, List.getElem?_toArray] at hc
    have hl := (List.getElem?_eq_some_iff.1 hc).1
    rw [vrow_len] at hl
    rw [vrow_get _ hl] at hc
    obtain ⟨a, n, c, h2⟩ := hv _ hl
    rw [h2] at hc
    cases hc⟩
/-- Of each instruction of a block, what is live behind it: rows that can be read. -/
structure BR (B : Nat) (w : World) (v : Value) (n R : Nat) (vs : Nat → Value) (X : Nat → Nat) : Prop where
  own : w.ownsRow B 53 1 v n (vrow n vs)
  el : ∀ k, k < n → ∃ a c, vs k = .slice a R c ∧ BlAt w a R (X k)
set_option maxRecDepth 100000 in
set_option maxHeartbeats 6400000 in
theorem rbehind_any (w : World) (f : Fx) (R b : Nat) (Bk : Bx) (ad : Option Addr) (cd X : Nat) (hok : FxOk w f) (hform : f.formOk = true) (hR : f.regs = (R : Int)) (hR2 : R ≤ 100000) (hB : f.bl[b]? = some Bk) (hbn : Bk.n ≤ 100000)
    (hargs : ∀ x ∈ Bk.l, x.args.n ≤ 100000) (hX : BlAt w ad R X) :
    Calls Tryd.prog 20 #[fv f, .slice ad R cd, .int .i64 (b : Int)] w fun e w' => ∃ v, e = .returned v ∧ (∃ vs, BR w.heap.size w' v Bk.n R vs (fun k => backs (Bk.l.drop (k + 1)) X)) ∧ Keeps No w w' := by
  obtain ⟨i4, hi1, z1, z2, z3⟩ := info_parts infoSBo
  have HI4 := Lib.hid (And.intro hi1 (And.intro z1 (And.intro z2 z3)))
  clear hi1 z1 z2 z3
  have hmem := List.mem_of_getElem? hB
  have hBX := hok.ok _ hmem
  have HFIT : Hid (∀ y ∈ Bk.l, Fit R y ∧ IxOk w y ∧ y.args.n ≤ 100000) := Lib.hid (fun y hy => ⟨form_fit hform hR hmem hy, hBX.ok y hy, hargs y hy⟩)
  have hne := (form_block hform hmem).1
  have hbl : b < f.bn := by rw [← hok.len]; exact (List.getElem?_eq_some_iff.1 hB).1
  obtain ⟨fb, fo, hfa, hfc⟩ := hok.at_ (by omega)
  have hcap := hok.cap
  unfold maxLen at hcap
  have cB := hfc b _ hB
  have HBOX := Lib.hid (fun t => fx_boxed f w t)
  obtain ⟨pa, pn, pc, l⟩ := Bk
  have hln := hBX.len
  have hpc := hBX.cap
  unfold maxLen at hpc
  simp only at hln hpc hbn hne HFIT ⊢
  obtain ⟨m, rfl⟩ : ∃ m, pn = m + 1 := ⟨pn - 1, by
    cases l with
    | nil => exact absurd rfl hne
    | cons y t => simp at hln; omega⟩
  obtain ⟨pb, po, hpa, hpx⟩ := hBX.at_ (Nat.succ_pos m)
  simp only at hpa hpx
  subst hpa
  have cB' : w.cell? ⟨fb, fo + b, none⟩ = some (.slice (some ⟨pb, po, none⟩) (m + 1) pc) := cB
  clear cB
  have HPX := Lib.hid hpx
  have HLN := Lib.hid hln
  have HX := Lib.hid hX
  have b0 : (0 : Int) ≤ (b : Int) := by omega
  have b1 : (b : Int) < (f.bn : Int) := by omega
  clear hok hform hB hargs hmem hBX hne hfc hpx hX hR hln
  unfold fv
  rw [hfa]
  go_enter Tryd.func20, Tryd.ntmps20
  have HFA := Lib.hid hfa
  clear hfa
  go_upto_region 1 with fail
  obtain ⟨w1, hw1⟩ : ∃ W, w.alloc (.cells #[.string f.name, .int .i64 f.params, .int .i64 f.regs, f.slots.v, .slice (some ⟨fb, fo, none⟩) f.bn f.bc, .bool f.value] 25) = W := ⟨_, rfl⟩
  obtain ⟨BX, hBX⟩ : ∃ q, w.heap.size = q := ⟨_, rfl⟩
  have c4 : w1.cell? ⟨BX, 4, none⟩ = some (.slice (some ⟨fb, fo, none⟩) f.bn f.bc) := by
    rw [← hw1, ← hBX]; have h := HBOX.out 25 4 _ rfl; rw [HFA.out, Nat.zero_add] at h; exact h
  have HK1 : Hid (Keeps No w w1) := Lib.hid (by rw [← hw1]; exact (Keeps.refl _ _).alloc _)
  rw [hw1, hBX]
  have HBX := Lib.hid hBX
  clear hw1 hBX HBOX
  have cB1 := HK1.out.cell0 cB'
  clear cB'
  go_wp2_with (at_make; refine wpList_make_full _ rfl (.tmp 18) (.tmp 18) 47 rfl w1.heap.size 53 i4 _ 1 Tryd.underlying47 HI4.out.1 HI4.out.2.1 HI4.out.2.2.1 .i64 .i64 ((m + 1 : Nat) : Int) ((m + 1 : Nat) : Int) (m + 1) rfl rfl rfl rfl (by rw [HI4.out.2.2.2]; omega) (by unfold maxLen; omega) (Nat.le_refl _) ?_)
  intro w2 ho2 hg2
  obtain ⟨n, hn⟩ : ∃ n, m + 1 = n := ⟨_, rfl⟩
  rw [toList_madeCells_one, ← vrow_const] at ho2
  have hk2 : Keeps No w1 w2 := (Keeps.refl _ _).grown hg2 (fun q e => by cases e)
  obtain ⟨Q, hQ⟩ : ∃ q, w1.heap.size = q := ⟨_, rfl⟩
  rw [hQ] at ho2 ⊢
  have HQ : Hid (w.heap.size ≤ Q) := Lib.hid (by rw [← hQ]; exact HK1.out.size)
  have HO2 := Lib.hid ho2
  have HK2 : Hid (Keeps No w w2) := Lib.hid (HK1.out.trans hk2 (fun _ _ e => e))
  clear ho2 hg2 hk2 hQ c4 cB1
  rw [hn] at HO2 HLN ⊢
  have HNN := Lib.hid hn
  go_wp2_with fail
  have hnb : n ≤ 100000 := by omega
  clear hn
  go_loopg [9, 10] n (fun k v9 v10 wr => ∃ (j : Nat) (z : Int) (a9 : Option Addr) (c9 : Nat) (vs : Nat → Value), v10 = .int .i64 z ∧ z = (j : Int) - 1 ∧ j ≤ n ∧ k = j ∧ v9 = .slice a9 R c9 ∧ Hid (BlAt wr a9 R (backs (l.drop j) X)) ∧ Hid (wr.ownsRow Q 53 1 (.slice (some ⟨Q, 0, none⟩) n n) n (vrow n vs)) ∧ Hid (∀ k, k < n → ∃ a n c, vs k = .slice a n c) ∧ Hid (∀ k, j ≤ k → k < n → ∃ a c, vs k = .slice a R c ∧ BlAt wr a R (backs (l.drop (k + 1)) X)) ∧ Hid (Keeps No w wr))
  case atStart => exact ⟨n, _, _, _, fun _ => .slice none 0 0, rfl, by go_num, Nat.le_refl _, rfl, rfl, Lib.hid (by rw [List.drop_eq_nil_of_le (by rw [HLN.out]; exact Nat.le_refl _)]; exact HX.out.no HK2.out), HO2, Lib.hid (fun k _ => ⟨_, _, _, rfl⟩), Lib.hid (fun k h1 h2 => absurd h2 (by omega)), HK2⟩
  case round =>
    obtain ⟨j, z, a9, c9, vs, rfl, hz, hj, hg6, rfl, HB9, HO3, HSL, HDN, HK3⟩ := hrel
    cases j with
    | zero =>
      have hz1 : ¬ z ≥ 0 := by omega
      clear hz hg6 hj
      go_wp2_with fail
      go_returns
      rw [HNN.out]
      exact ⟨_, rfl, ⟨vs, own_mono HO3.out HQ.out, fun k hk => HDN.out k (Nat.zero_le _) hk⟩, HK3.out⟩
    | succ jj =>
      obtain rfl : z = (jj : Int) := by omega
      have hjm : jj < n := by omega
      obtain ⟨y, hy⟩ : ∃ y, l[jj]? = some y := ⟨_, List.getElem?_eq_getElem (by rw [HLN.out]; exact hjm)⟩
      have hym := HFIT.out y (List.mem_of_getElem? hy)
      have HBD : Hid (backs (l.drop jj) X = backI (backs (l.drop (jj + 1)) X) y) := Lib.hid (backs_drop hy X)
      have hst : Keeps (fun q => q = Q) wr (wr.setCell ⟨Q, jj, none⟩ (.slice a9 R c9)) := (Keeps.refl (fun q => q = Q) wr).setCell (.inl rfl) _
      have hfull := own_full HO3.out
      have HB10 : Hid (BlAt (wr.setCell ⟨Q, jj, none⟩ (.slice a9 R c9)) a9 R (backs (l.drop (jj + 1)) X)) := Lib.hid (HB9.out.set hst hfull HSL.out)
      have HO4 : Hid ((wr.setCell ⟨Q, jj, none⟩ (.slice a9 R c9)).ownsRow Q 53 1 (.slice (some ⟨Q, 0, none⟩) n n) n (vrow n (upd vs jj (.slice a9 R c9)))) := Lib.hid (by
        have h := (World.ownsRow.stored HO3.out jj (.slice a9 R c9)).1
        rw [vrow_set _ _ hjm] at h
        exact h)
      have HSL2 : Hid (∀ k, k < n → ∃ a n c, upd vs jj (.slice a9 R c9) k = .slice a n c) := Lib.hid (fun k hk => by
        by_cases e : k = jj
        · subst e; rw [upd_same]; exact ⟨_, _, _, rfl⟩
        · rw [upd_ne _ _ e]; exact HSL.out k hk)
      have HDN2 : Hid (∀ k, jj ≤ k → k < n → ∃ a c, upd vs jj (.slice a9 R c9) k = .slice a R c ∧ BlAt (wr.setCell ⟨Q, jj, none⟩ (.slice a9 R c9)) a R (backs (l.drop (k + 1)) X)) := Lib.hid (fun k h1 h2 => by
        by_cases e : k = jj
        · subst e; rw [upd_same]; exact ⟨_, _, rfl, HB10.out⟩
        · rw [upd_ne _ _ e]
          obtain ⟨a, c, h3, h4⟩ := HDN.out k (by omega) h2
          exact ⟨a, c, h3, h4.set hst hfull HSL.out⟩)
      have HK4 : Hid (Keeps No w (wr.setCell ⟨Q, jj, none⟩ (.slice a9 R c9))) := Lib.hid (HK3.out.setCell (.inr HQ.out) _)
      have cQ := World.ownsRow.cellAt HO3.out jj (by omega)
      rw [vrow_get _ hjm] at cQ
      have fz := World.ownsRow.frozenAt HO3.out jj
      have hya : y.at_ (wr.setCell ⟨Q, jj, none⟩ (.slice a9 R c9)) pb (po + jj * 11) := fun j v hj => HK4.out.cell0 (HPX.out jj y hy j v hj)
      have HRB := Lib.hid (fun W (hk : Keeps No (wr.setCell ⟨Q, jj, none⟩ (.slice a9 R c9)) W) => rback_any y W a9 R c9 _ (hym.2.1.no (HK4.out.trans hk (fun _ _ e => e))) hym.2.2 hym.1 (HB10.out.no hk) hR2)
      obtain ⟨Z, hZ⟩ : ∃ Z, backs (l.drop (jj + 1)) X = Z := ⟨_, rfl⟩
      rw [hZ] at HBD HRB
      have x0 := hya 0 _ rfl
      have x1 := hya 1 _ rfl
      have x2 := hya 2 _ rfl
      have x3 := hya 3 _ rfl
      have x4 := hya 4 _ rfl
      have x5 := hya 5 _ rfl
      have x6 := hya 6 _ rfl
      have x7 := hya 7 _ rfl
      have x8 := hya 8 _ rfl
      have x9 := hya 9 _ rfl
      have x10 := hya 10 _ rfl
      rw [Nat.add_zero] at x0
      have hj0 : (jj : Int) ≥ 0 := by omega
      have hj1 : (jj : Int) < (n : Int) := by omega
      clear hz hy hym hst hfull hya hZ hj HB9 HO3 HSL HDN HK3
      go_wp2_with fail
      refine (HRB.out _ (Keeps.refl _ _)).mono ?_
      rintro e w6 ⟨v, rfl, ho6, hk6⟩
      obtain ⟨a12, c12, he12, _, _, hbl6⟩ := own_bl ho6
      subst he12
      have HB11 : Hid (BlAt w6 a12 R (backs (l.drop jj) X)) := Lib.hid (by rw [HBD.out]; exact hbl6)
      have HO5 : Hid (w6.ownsRow Q 53 1 (.slice (some ⟨Q, 0, none⟩) n n) n (vrow n (upd vs jj (.slice a9 R c9)))) := Lib.hid (own_keep HO4.out hk6 (fun _ e => e.elim))
      have HDN3 : Hid (∀ k, jj ≤ k → k < n → ∃ a c, upd vs jj (.slice a9 R c9) k = .slice a R c ∧ BlAt w6 a R (backs (l.drop (k + 1)) X)) := Lib.hid (fun k h1 h2 => by
        obtain ⟨a, c, h3, h4⟩ := HDN2.out k h1 h2
        exact ⟨a, c, h3, h4.no hk6⟩)
      have HK5 : Hid (Keeps No w w6) := Lib.hid (HK4.out.trans hk6 (fun _ _ e => e))
      clear ho6 hk6 hbl6 x0 x1 x2 x3 x4 x5 x6 x7 x8 x9 x10 HRB HB10 HO4 HDN2 HK4
      go_wp2_with fail
      go_roundg jj
      case rel => exact ⟨jj, _, _, _, _, rfl, by go_num, by omega, rfl, rfl, HB11, HO5, HSL2, HDN3, HK5⟩
      case measure => omega
end Go.Proofs.YtpjilcfmcbapcaaDoor
/- live.Behind where no instruction is. -/
namespace Go.Proofs.YtpjilcfmcbapcaaDoor
open Go.RowKit
set_option linter.unusedVariables false
set_option linter.unusedSimpArgs false

set_option maxRecDepth 100000 in
set_option maxHeartbeats 3200000 in
theorem behind_form (f : Fx) (w : World) (hok : FxOk w f) (hm : f.may = false) (bz iz : Int) :
    Calls Tryd.prog 14 #[fv f, .int .i64 bz, .int .i64 iz] w fun e w' => e = .returned (.slice none 0 0) ∧ Keeps No w w' := by
  have HOK := Lib.hid hok
  have HM := Lib.hid hm
  have hbnc := hok.cap
  unfold maxLen at hbnc
  clear hok hm
  obtain ⟨FB, hFB⟩ : ∃ q, w.heap.size = q := ⟨_, rfl⟩
  unfold fv
  go_enter Tryd.func14, Tryd.ntmps14
  go_wp2_with fail
  obtain ⟨w2, hw2⟩ : ∃ W, (w.alloc (.cells #[.string f.name, .int .i64 f.params, .int .i64 f.regs, f.slots.v, .slice f.ba f.bn f.bc, .bool f.value] 25)).alloc (.cells #[.int .i64 iz] 3) = W := ⟨_, rfl⟩
  have hk2 : Keeps No (w.alloc (.cells #[.string f.name, .int .i64 f.params, .int .i64 f.regs, f.slots.v, .slice f.ba f.bn f.bc, .bool f.value] 25)) w2 := by rw [← hw2]; exact (Keeps.refl _ _).alloc _
  have hkw : Keeps No w w2 := ((Keeps.refl _ _).alloc _).trans hk2 (fun _ _ e => e)
  have hf2 : f.at_ w2 FB 0 := by rw [← hFB]; exact (fx_boxed f w 25).no hk2
  have r5 : w2.heap[FB + 1]? = some (.cells #[.int .i64 iz] 3 (0, 0)) := by
    rw [← hw2, ← hFB]
    have := heap_alloc_new (w.alloc (.cells #[.string f.name, .int .i64 f.params, .int .i64 f.regs, f.slots.v, .slice f.ba f.bn f.bc, .bool f.value] 25)) (.cells #[.int .i64 iz] 3)
    simpa using this
  have HF2 := Lib.hid hf2
  have HKW := Lib.hid hkw
  have HMA := Lib.hid (fun W1 (hk : Keeps No w2 W1) => may_any f FB 0 W1 (HF2.out.no hk) (HOK.out.no (HKW.out.trans hk (fun _ _ e => e))))
  rw [HM.out] at HMA
  have p5 : ∀ u : KW w2, u.W.cell? ⟨FB + 1, 0, none⟩ = some (.int .i64 iz) := fun u => u.cell (by rw [cell_of_row w2 _ 0 _ _ _ r5]; rfl)
  have hne : Nonempty (KW w2) := ⟨KW.of _⟩
  rw [hw2]
  clear hw2 hk2 hkw hf2 r5
  refine wp_region_class (C := fun W => ∃ u : KW w2, W = u.W) (by kernel_rfl) (by kernel_rfl) ⟨⟨World.drew _, (Keeps.refl _ _).drew⟩, rfl⟩ ?_
  repeat (go_big_quiet_step (first | (go_at_call 22; with_reducible refine kw_call _ (HMA.out _ (KW.h _)))))
  refine wpQuiet_nil ?_
  rintro _ ⟨T, rfl⟩
  have HK3 : Hid (Keeps No w T.W) := Lib.hid (HKW.out.trans T.h (fun _ _ e => e))
  obtain ⟨w3, hw3⟩ : ∃ W, T.W = W := ⟨_, rfl⟩
  rw [hw3] at HK3 ⊢
  clear hw3
  go_wp2_with fail
  go_returns
  exact ⟨rfl, HK3.out⟩
set_option maxRecDepth 100000 in
set_option maxHeartbeats 3200000 in
theorem behind_block (f : Fx) (w : World) (hok : FxOk w f) (hm : f.may = true) (iz : Int) :
    Calls Tryd.prog 14 #[fv f, .int .i64 (f.bn : Int), .int .i64 iz] w fun e w' => e = .returned (.slice none 0 0) ∧ Keeps No w w' := by
  have HOK := Lib.hid hok
  have HM := Lib.hid hm
  have hbnc := hok.cap
  unfold maxLen at hbnc
  clear hok hm
  obtain ⟨FB, hFB⟩ : ∃ q, w.heap.size = q := ⟨_, rfl⟩
  unfold fv
  go_enter Tryd.func14, Tryd.ntmps14
  go_wp2_with fail
  obtain ⟨w2, hw2⟩ : ∃ W, (w.alloc (.cells #[.string f.name, .int .i64 f.params, .int .i64 f.regs, f.slots.v, .slice f.ba f.bn f.bc, .bool f.value] 25)).alloc (.cells #[.int .i64 iz] 3) = W := ⟨_, rfl⟩
  have hk2 : Keeps No (w.alloc (.cells #[.string f.name, .int .i64 f.params, .int .i64 f.regs, f.slots.v, .slice f.ba f.bn f.bc, .bool f.value] 25)) w2 := by rw [← hw2]; exact (Keeps.refl _ _).alloc _
  have hkw : Keeps No w w2 := ((Keeps.refl _ _).alloc _).trans hk2 (fun _ _ e => e)
  have hf2 : f.at_ w2 FB 0 := by rw [← hFB]; exact (fx_boxed f w 25).no hk2
  have r5 : w2.heap[FB + 1]? = some (.cells #[.int .i64 iz] 3 (0, 0)) := by
    rw [← hw2, ← hFB]
    have := heap_alloc_new (w.alloc (.cells #[.string f.name, .int .i64 f.params, .int .i64 f.regs, f.slots.v, .slice f.ba f.bn f.bc, .bool f.value] 25)) (.cells #[.int .i64 iz] 3)
    simpa using this
  have HF2 := Lib.hid hf2
  have HKW := Lib.hid hkw
  have HMA := Lib.hid (fun W1 (hk : Keeps No w2 W1) => may_any f FB 0 W1 (HF2.out.no hk) (HOK.out.no (HKW.out.trans hk (fun _ _ e => e))))
  rw [HM.out] at HMA
  have p5 : ∀ u : KW w2, u.W.cell? ⟨FB + 1, 0, none⟩ = some (.int .i64 iz) := fun u => u.cell (by rw [cell_of_row w2 _ 0 _ _ _ r5]; rfl)
  have p4 : ∀ u : KW w2, u.W.cell? ⟨FB, 4, none⟩ = some (.slice f.ba f.bn f.bc) := fun u => u.cell (by have := hf2 4 _ rfl; rw [Nat.zero_add] at this; exact this)
  have hne : Nonempty (KW w2) := ⟨KW.of _⟩
  rw [hw2]
  clear hw2 hk2 hkw hf2 r5
  have d1 : decide ((f.bn : Int) < 0) = false := decide_eq_false (by omega)
  have d2 : decide (f.bn ≤ f.bn) = true := decide_eq_true (Nat.le_refl _)
  refine wp_region_class (C := fun W => ∃ u : KW w2, W = u.W) (by kernel_rfl) (by kernel_rfl) ⟨⟨World.drew _, (Keeps.refl _ _).drew⟩, rfl⟩ ?_
  repeat (go_big_quiet_step (first | (go_at_call 22; with_reducible refine kw_call _ (HMA.out _ (KW.h _)))))
  refine wpQuiet_nil ?_
  rintro _ ⟨T, rfl⟩
  have HK3 : Hid (Keeps No w T.W) := Lib.hid (HKW.out.trans T.h (fun _ _ e => e))
  obtain ⟨w3, hw3⟩ : ∃ W, T.W = W := ⟨_, rfl⟩
  rw [hw3] at HK3 ⊢
  clear hw3
  go_wp2_with fail
  go_returns
  exact ⟨rfl, HK3.out⟩
set_option maxRecDepth 100000 in
set_option maxHeartbeats 3200000 in
theorem behind_below (f : Fx) (w : World) (hok : FxOk w f) (hm : f.may = true) (b : Nat) (B : Bx) (hB : f.bl[b]? = some B) (iz : Int) (hiz : iz < 0) :
    Calls Tryd.prog 14 #[fv f, .int .i64 (b : Int), .int .i64 iz] w fun e w' => e = .returned (.slice none 0 0) ∧ Keeps No w w' := by
  have HOK := Lib.hid hok
  have HM := Lib.hid hm
  have hbnc := hok.cap
  unfold maxLen at hbnc
  have hbl : b < f.bn := by rw [← hok.len]; exact (List.getElem?_eq_some_iff.1 hB).1
  obtain ⟨bb, bo, hba, hbc⟩ := hok.at_ (by omega)
  have hcB := hbc b B hB
  have hBA := hok.ok B (List.mem_of_getElem? hB)
  have hcap := hBA.cap
  unfold maxLen at hcap
  have HCB := Lib.hid hcB
  have b0 : (0 : Int) ≤ (b : Int) := by omega
  have b1 : (b : Int) < (f.bn : Int) := by omega
  clear hbc hcB hBA hB
  obtain ⟨Ba, Bn, Bc, Bl⟩ := B
  simp only at hcap HCB ⊢
  clear hok hm
  obtain ⟨FB, hFB⟩ : ∃ q, w.heap.size = q := ⟨_, rfl⟩
  unfold fv
  go_enter Tryd.func14, Tryd.ntmps14
  go_wp2_with fail
  obtain ⟨w2, hw2⟩ : ∃ W, (w.alloc (.cells #[.string f.name, .int .i64 f.params, .int .i64 f.regs, f.slots.v, .slice f.ba f.bn f.bc, .bool f.value] 25)).alloc (.cells #[.int .i64 iz] 3) = W := ⟨_, rfl⟩
  rw [hba] at hw2
  have hk2 : Keeps No (w.alloc (.cells #[.string f.name, .int .i64 f.params, .int .i64 f.regs, f.slots.v, .slice f.ba f.bn f.bc, .bool f.value] 25)) w2 := by rw [hba, ← hw2]; exact (Keeps.refl _ _).alloc _
  have hkw : Keeps No w w2 := ((Keeps.refl _ _).alloc _).trans hk2 (fun _ _ e => e)
  have hf2 : f.at_ w2 FB 0 := by rw [← hFB]; exact (fx_boxed f w 25).no hk2
  have r5 : w2.heap[FB + 1]? = some (.cells #[.int .i64 iz] 3 (0, 0)) := by
    rw [← hw2, ← hFB]
    have := heap_alloc_new (w.alloc (.cells #[.string f.name, .int .i64 f.params, .int .i64 f.regs, f.slots.v, .slice (some ⟨bb, bo, none⟩) f.bn f.bc, .bool f.value] 25)) (.cells #[.int .i64 iz] 3)
    simpa using this
  have HF2 := Lib.hid hf2
  have HKW := Lib.hid hkw
  have HMA := Lib.hid (fun W1 (hk : Keeps No w2 W1) => may_any f FB 0 W1 (HF2.out.no hk) (HOK.out.no (HKW.out.trans hk (fun _ _ e => e))))
  rw [HM.out] at HMA
  have p5 : ∀ u : KW w2, u.W.cell? ⟨FB + 1, 0, none⟩ = some (.int .i64 iz) := fun u => u.cell (by rw [cell_of_row w2 _ 0 _ _ _ r5]; rfl)
  have p4 : ∀ u : KW w2, u.W.cell? ⟨FB, 4, none⟩ = some (.slice (some ⟨bb, bo, none⟩) f.bn f.bc) := fun u => u.cell (by have := hf2 4 _ rfl; rw [hba] at this; exact this)
  have pB : ∀ u : KW w2, u.W.cell? ⟨bb, bo + b, none⟩ = some (.slice Ba Bn Bc) := fun u => u.cell (hkw.cell0 HCB.out)
  have hne : Nonempty (KW w2) := ⟨KW.of _⟩
  rw [hw2]
  clear hw2 hk2 hkw hf2 r5
  have d1 : decide ((b : Int) < 0) = false := decide_eq_false (by omega)
  have d2 : decide (f.bn ≤ b) = false := decide_eq_false (by omega)
  have d3 : decide (iz < 0) = true := decide_eq_true hiz
  refine wp_region_class (C := fun W => ∃ u : KW w2, W = u.W) (by kernel_rfl) (by kernel_rfl) ⟨⟨World.drew _, (Keeps.refl _ _).drew⟩, rfl⟩ ?_
  repeat (go_big_quiet_step (first | (go_at_call 22; with_reducible refine kw_call _ (HMA.out _ (KW.h _)))))
  refine wpQuiet_nil ?_
  rintro _ ⟨T, rfl⟩
  have HK3 : Hid (Keeps No w T.W) := Lib.hid (HKW.out.trans T.h (fun _ _ e => e))
  obtain ⟨w3, hw3⟩ : ∃ W, T.W = W := ⟨_, rfl⟩
  rw [hw3] at HK3 ⊢
  clear hw3
  go_wp2_with fail
  go_returns
  exact ⟨rfl, HK3.out⟩
set_option maxRecDepth 100000 in
set_option maxHeartbeats 3200000 in
theorem behind_above (f : Fx) (w : World) (hok : FxOk w f) (hm : f.may = true) (b : Nat) (B : Bx) (hB : f.bl[b]? = some B) :
    Calls Tryd.prog 14 #[fv f, .int .i64 (b : Int), .int .i64 (B.n : Int)] w fun e w' => e = .returned (.slice none 0 0) ∧ Keeps No w w' := by
  have HOK := Lib.hid hok
  have HM := Lib.hid hm
  have hbnc := hok.cap
  unfold maxLen at hbnc
  have hbl : b < f.bn := by rw [← hok.len]; exact (List.getElem?_eq_some_iff.1 hB).1
  obtain ⟨bb, bo, hba, hbc⟩ := hok.at_ (by omega)
  have hcB := hbc b B hB
  have hBA := hok.ok B (List.mem_of_getElem? hB)
  have hcap := hBA.cap
  unfold maxLen at hcap
  have HCB := Lib.hid hcB
  have b0 : (0 : Int) ≤ (b : Int) := by omega
  have b1 : (b : Int) < (f.bn : Int) := by omega
  clear hbc hcB hBA hB
  obtain ⟨Ba, Bn, Bc, Bl⟩ := B
  simp only at hcap HCB ⊢
  clear hok hm
  obtain ⟨FB, hFB⟩ : ∃ q, w.heap.size = q := ⟨_, rfl⟩
  unfold fv
  go_enter Tryd.func14, Tryd.ntmps14
  go_wp2_with fail
  obtain ⟨w2, hw2⟩ : ∃ W, (w.alloc (.cells #[.string f.name, .int .i64 f.params, .int .i64 f.regs, f.slots.v, .slice f.ba f.bn f.bc, .bool f.value] 25)).alloc (.cells #[.int .i64 (Bn : Int)] 3) = W := ⟨_, rfl⟩
  rw [hba] at hw2
  have hk2 : Keeps No (w.alloc (.cells #[.string f.name, .int .i64 f.params, .int .i64 f.regs, f.slots.v, .slice f.ba f.bn f.bc, .bool f.value] 25)) w2 := by rw [hba, ← hw2]; exact (Keeps.refl _ _).alloc _
  have hkw : Keeps No w w2 := ((Keeps.refl _ _).alloc _).trans hk2 (fun _ _ e => e)
  have hf2 : f.at_ w2 FB 0 := by rw [← hFB]; exact (fx_boxed f w 25).no hk2
  have r5 : w2.heap[FB + 1]? = some (.cells #[.int .i64 (Bn : Int)] 3 (0, 0)) := by
    rw [← hw2, ← hFB]
    have := heap_alloc_new (w.alloc (.cells #[.string f.name, .int .i64 f.params, .int .i64 f.regs, f.slots.v, .slice (some ⟨bb, bo, none⟩) f.bn f.bc, .bool f.value] 25)) (.cells #[.int .i64 (Bn : Int)] 3)
    simpa using this
  have HF2 := Lib.hid hf2
  have HKW := Lib.hid hkw
  have HMA := Lib.hid (fun W1 (hk : Keeps No w2 W1) => may_any f FB 0 W1 (HF2.out.no hk) (HOK.out.no (HKW.out.trans hk (fun _ _ e => e))))
  rw [HM.out] at HMA
  have p5 : ∀ u : KW w2, u.W.cell? ⟨FB + 1, 0, none⟩ = some (.int .i64 (Bn : Int)) := fun u => u.cell (by rw [cell_of_row w2 _ 0 _ _ _ r5]; rfl)
  have p4 : ∀ u : KW w2, u.W.cell? ⟨FB, 4, none⟩ = some (.slice (some ⟨bb, bo, none⟩) f.bn f.bc) := fun u => u.cell (by have := hf2 4 _ rfl; rw [hba] at this; exact this)
  have pB : ∀ u : KW w2, u.W.cell? ⟨bb, bo + b, none⟩ = some (.slice Ba Bn Bc) := fun u => u.cell (hkw.cell0 HCB.out)
  have hne : Nonempty (KW w2) := ⟨KW.of _⟩
  rw [hw2]
  clear hw2 hk2 hkw hf2 r5
  have d1 : decide ((b : Int) < 0) = false := decide_eq_false (by omega)
  have d2 : decide (f.bn ≤ b) = false := decide_eq_false (by omega)
  have d3 : decide ((Bn : Int) < 0) = false := decide_eq_false (by omega)
  have d4 : decide (Bn ≤ Bn) = true := decide_eq_true (Nat.le_refl _)
  refine wp_region_class (C := fun W => ∃ u : KW w2, W = u.W) (by kernel_rfl) (by kernel_rfl) ⟨⟨World.drew _, (Keeps.refl _ _).drew⟩, rfl⟩ ?_
  repeat (go_big_quiet_step (first | (go_at_call 22; with_reducible refine kw_call _ (HMA.out _ (KW.h _)))))
  refine wpQuiet_nil ?_
  rintro _ ⟨T, rfl⟩
  have HK3 : Hid (Keeps No w T.W) := Lib.hid (HKW.out.trans T.h (fun _ _ e => e))
  obtain ⟨w3, hw3⟩ : ∃ W, T.W = W := ⟨_, rfl⟩
  rw [hw3] at HK3 ⊢
  clear hw3
  go_wp2_with fail
  go_returns
  exact ⟨rfl, HK3.out⟩
end Go.Proofs.YtpjilcfmcbapcaaDoor
