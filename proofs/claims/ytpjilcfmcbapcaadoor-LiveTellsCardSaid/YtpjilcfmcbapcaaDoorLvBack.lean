/- (*span.Live).Back. -/
import Derived.Test.YtpjilcfmcbapcaaDoorLvUses
import Derived.Test.YtpjilcfmcbapcaaDoorLvSets
import Derived.Test.YtpjilcfmcbapcaaDoorIrForm3
namespace Go.Proofs.YtpjilcfmcbapcaaDoor
open Go.RowKit
set_option linter.unusedVariables false
set_option linter.unusedSimpArgs false

theorem wdef_any (x : Ix) (b off : Nat) (w : World) (h : x.at_ w b off) : Calls Tryd.prog 43 #[.pointer (some ⟨b, off, none⟩)] w fun e w' => e = .returned (.int .i64 (defI x)) ∧ w' = w := by
  obtain ⟨WW, hW⟩ : ∃ R, writesI x.op x.d = R := ⟨_, rfl⟩
  have HW := Lib.hid (writes_any x b off w h)
  have HD : Hid (defI x = if WW then x.d else -1) := Lib.hid (by unfold defI; rw [hW])
  rw [hW] at HW
  have c2 := h 2 _ rfl
  clear h hW
  cases WW with
  | true =>
    go_enter Tryd.func43, Tryd.ntmps43
    go_wp2_with fail
    refine HW.out.mono ?_
    rintro e w1 ⟨rfl, rfl⟩
    go_wp2_with fail
    go_returns
    exact ⟨ri rfl HD.out.symm, rfl⟩
  | false =>
    go_enter Tryd.func43, Tryd.ntmps43
    go_wp2_with fail
    refine HW.out.mono ?_
    rintro e w1 ⟨rfl, rfl⟩
    go_wp2_with fail
    go_returns
    exact ⟨ri rfl HD.out.symm, rfl⟩
theorem uses_len (x : Ix) : x.uses.length ≤ 2 + x.args.l.length := by
  unfold Ix.uses
  rw [List.length_append, List.length_append]
  cases readsAI x.op x.a <;> cases readsBI x.op <;> cases callsI x.op <;> simp <;> omega
/-- What stays while a block is gone up: the old blocks, what is live's own, the set; with J k: instructions from k on have been shown. -/
structure BK (w0 w : World) (M g X W : Nat) (rowM : Obj) : Prop where
  k : Keeps No w0 w
  m : w.heap[M]? = some rowM
  s : WdAt w g X W
  t : LaidT w
theorem BK.step {S : Nat → Prop} {w0 w1 w2 : World} {M g X Y W : Nat} {ti : Obj} (h : BK w0 w1 M g X W ti) (hk : Keeps S w1 w2) (hS : ∀ q, S q → w0.heap.size ≤ q ∧ q ≠ M ∧ q ≠ 0) (hs : WdAt w2 g Y W) : BK w0 w2 M g Y W ti :=
  ⟨h.k.trans hk (fun q hq e => by have := (hS q e).1; omega), (hk.block M (Array.getElem?_eq_some_iff.1 h.m).1 (fun e => (hS M e).2.1 rfl)).trans h.m, hs, h.t.keep hk (fun e => (hS _ e).2.2 rfl)⟩
theorem U8.read {w0 w : World} {q g : Nat} {v : Value} {l : List Int} (h : U8 w0 w q v l) (hq : q ≠ g) (hg : g < w0.heap.size) : ∃ aa ca, v = .slice aa l.length ca ∧ ∀ (j : Nat) z, l[j]? = some z → ∃ p, aa = some ⟨p, 0, none⟩ ∧ p ≠ g ∧ w.cell? ⟨p, j, none⟩ = some (.int .i64 z) := by
  rcases h with ⟨rfl, _, hr⟩ | ho
  · exact ⟨_, _, rfl, fun j z hj => ⟨q, rfl, hq, by have := hr.cell j z hj; rw [Nat.zero_add] at this; exact this⟩⟩
  · obtain ⟨aa, ca, rfl, ha⟩ := own_form ho
    refine ⟨aa, ca, rfl, fun j z hj => ?_⟩
    have hl : j < l.length := (List.getElem?_eq_some_iff.1 hj).1
    obtain ⟨p, rfl⟩ := ha (by omega)
    have hp := own_lo ho p rfl
    refine ⟨p, rfl, by omega, ?_⟩
    rw [World.ownsRow.cellAt ho j (by omega)]
    exact irow_get hj
set_option maxRecDepth 100000 in
set_option maxHeartbeats 6400000 in
theorem back_any (w0 w : World) (M g X W : Nat) (ti : Obj) (f : Fx) (fb fo bi : Nat) (B : Bx) (sv : Value) (SB : Bool) (SH : Nat → Prop) (J : Nat → World → Prop)
    (hf : f.at_ w0 fb fo) (hok : FxOk w0 f) (hB : f.bl[bi]? = some B) (hfit : ∀ x ∈ B.l, Fit (64 * W) x ∧ x.args.n ≤ 100000) (hW : W ≤ 10000)
    (hK : BK w0 w M g X W ti) (hM2 : ∀ w1 : World, w1.heap[M]? = some ti → w1.cell? ⟨M, 2, none⟩ = some (.pointer (some ⟨fb, fo, none⟩)) ∧ w1.cell? ⟨M, 3, none⟩ = some (.bool false))
    (hMg : M ≠ g) (hg0 : w0.heap.size ≤ g) (hT : 0 ≠ g) (hJ : J B.n w)
    (hst : ∀ k w1 w2, J k w1 → Keeps (fun q => q = g ∨ q = w.heap.size) w1 w2 → J k w2)
    (hsn : SB = false → sv = .nilFunc ∧ ∀ k w1, J (k + 1) w1 → J k w1)
    (hss : SB = true → ∃ FS caps, sv = .func (.func FS) #[] caps ∧ (∀ (as' : Array Value) (W1 : World), (callFunc FS as').run Tryd.prog W1 = .ok (.enter FS as') W1) ∧
      (∀ q, SH q → w0.heap.size ≤ q ∧ q < w.heap.size ∧ q ≠ M ∧ q ≠ g ∧ q ≠ 0) ∧
      ∀ (k : Nat) (w1 : World), k < B.n → w.heap.size < w1.heap.size → J (k + 1) w1 → BK w0 w1 M g (backs (B.l.drop (k + 1)) X) W ti → Calls Tryd.prog FS (#[.int .i64 (k : Int), wv g W] ++ caps) w1 fun e w2 => e = .returned (.tuple #[]) ∧ J k w2 ∧ Keeps SH w1 w2) :
    Calls Tryd.prog 29 #[.pointer (some ⟨M, 0, none⟩), .int .i64 (bi : Int), wv g W, sv] w fun e w' => e = .returned (.tuple #[]) ∧ J 0 w' ∧ BK w0 w' M g (backs B.l X) W ti := by
  have HF := Lib.hid hf
  have HOK := Lib.hid hok
  have HK := Lib.hid hK
  have HM := Lib.hid hM2
  have HJ := Lib.hid hJ
  have HST := Lib.hid hst
  have HSN := Lib.hid hsn
  have HSS := Lib.hid hss
  have HFIT := Lib.hid hfit
  have hbl := (List.getElem?_eq_some_iff.1 hB).1
  have hlen := hok.len
  obtain ⟨bb, bo, B', hB', hba, hcB, hBA⟩ := Fx.get hok (i := bi) (by omega)
  obtain rfl : B = B' := Option.some.inj (hB.symm.trans hB')
  have HBA := Lib.hid hBA
  have hcap := hBA.cap
  have hfc := hok.cap
  unfold maxLen at hcap hfc
  have c2 := (hM2 w hK.m).1
  have c3 := (hM2 w hK.m).2
  have c4 := hK.k.cell0 (hf 4 _ rfl)
  have cB := hK.k.cell0 hcB
  have hBl := hBA.len
  obtain ⟨Ba, Bn, Bc, Bl⟩ := B
  simp only at HBA hcap HFIT HSS HJ hBl cB HK c4
  change w.cell? ⟨bb, bo + bi, none⟩ = some (.slice Ba Bn Bc) at cB
  change Calls Tryd.prog 29 _ w (fun e w' => e = .returned (.tuple #[]) ∧ J 0 w' ∧ BK w0 w' M g (backs Bl X) W ti)
  obtain ⟨bn, hbn⟩ : ∃ n, f.bn = n := ⟨_, rfl⟩
  obtain ⟨bc, hbc⟩ : ∃ n, f.bc = n := ⟨_, rfl⟩
  rw [hba, hbn, hbc] at c4
  rw [hbn] at hlen
  have i0 : (0 : Int) ≤ (bi : Int) := by omega
  have i1 : (bi : Int) < (bn : Int) := by omega
  have HMS : Hid (M < w.heap.size) := Lib.hid (Array.getElem?_eq_some_iff.1 hK.m).1
  have HGS : Hid (g < w.heap.size) := Lib.hid hK.s.lt
  have H0S : Hid (w0.heap.size ≤ w.heap.size) := Lib.hid hK.k.size
  clear hf hok hK hM2 hJ hst hsn hss hfit hB hB' hcB hBA hba hbn hbc hbl hlen hfc
  have hg1 : ∀ W1 : World, (eqGuard BinOp.neq 73 (Operand.tmp 36) (Operand.const Value.nilFunc) sv Value.nilFunc).run Tryd.prog W1 = .ok () W1 := fun W1 => by
    cases SB with
    | true => obtain ⟨FS, caps, rfl, _⟩ := HSS.out rfl; rfl
    | false => obtain ⟨rfl, _⟩ := HSN.out rfl; rfl
  have hg2 : ∀ W1 : World, (binOp BinOp.neq 73 sv Value.nilFunc).run Tryd.prog W1 = .ok (.bool SB) W1 := fun W1 => by
    cases SB with
    | true => obtain ⟨FS, caps, rfl, _⟩ := HSS.out rfl; rfl
    | false => obtain ⟨rfl, _⟩ := HSN.out rfl; rfl
  go_enter Tryd.func29, Tryd.ntmps29
  go_wp2_with fail
  have H1 : Hid (J Bn (w.alloc (.cells #[.int .i64 0, .int .i64 0, .int .i64 0, .int .i64 0, .int .i64 0, .int .i64 0, .int .i64 0, .int .i64 0] 82)) ∧ BK w0 (w.alloc (.cells #[.int .i64 0, .int .i64 0, .int .i64 0, .int .i64 0, .int .i64 0, .int .i64 0, .int .i64 0, .int .i64 0] 82)) M g (backs (Bl.drop Bn) X) W ti ∧ Room8 (w.alloc (.cells #[.int .i64 0, .int .i64 0, .int .i64 0, .int .i64 0, .int .i64 0, .int .i64 0, .int .i64 0, .int .i64 0] 82)) w.heap.size []) := Lib.hid (by
    have hk : Keeps No w (w.alloc (.cells #[.int .i64 0, .int .i64 0, .int .i64 0, .int .i64 0, .int .i64 0, .int .i64 0, .int .i64 0, .int .i64 0] 82)) := (Keeps.refl _ _).alloc _
    refine ⟨HST.out _ _ _ HJ.out (hk.mono (fun _ _ e => e.elim)), ⟨HK.out.k.alloc _, (hk.block M HMS.out (fun e => e)).trans HK.out.m, ?_, HK.out.t.keep hk (fun e => e)⟩, ⟨_, heap_alloc_new _ _, rfl, rfl⟩⟩
    rw [List.drop_eq_nil_of_le (by omega)]
    exact HK.out.s.keep hk (fun e => e))
  go_loopg [10] Bn (fun k v wr => ∃ (i : Nat) (z : Int), v = .int .i64 z ∧ Hid (z = (i : Int) - 1) ∧ i ≤ Bn ∧ k = i ∧ Hid (w.heap.size < wr.heap.size) ∧ Hid (J i wr ∧ BK w0 wr M g (backs (Bl.drop i) X) W ti ∧ Room8 wr w.heap.size []))
  case atStart => exact ⟨Bn, _, rfl, Lib.hid rfl, Nat.le_refl _, rfl, Lib.hid (by simp), H1⟩
  case round =>
    obtain ⟨i, z, rfl, HZ, hi, hg, HWS, HR⟩ := hrel
    cases i with
    | zero =>
      obtain rfl : z = -1 := by have := HZ.out; omega
      go_wp2_with fail
      go_returns
      exact ⟨rfl, HR.out.1, HR.out.2.1⟩
    | succ j =>
      obtain rfl : z = (j : Int) := by have := HZ.out; omega
      have j0 : (0 : Int) ≤ (j : Int) := by omega
      have j1 : (j : Int) < (Bn : Int) := by omega
      have j2 : (j : Int) ≥ 0 := j0
      obtain ⟨ib, io, x, hx, rfl, hxa, hxo⟩ := Bx.get HBA.out (i := j) (by simp only; omega)
      have hb0 := hxa.no HR.out.2.1.k
      have HXA := Lib.hid hxa
      have HXO := Lib.hid hxo
      have HX := Lib.hid hx
      have HFX := Lib.hid (HFIT.out x (List.mem_of_getElem? hx))
      have HIB : Hid (ib < w0.heap.size) := Lib.hid (World.block_lt_of_cell? _ _ (hxa 0 _ rfl))
      clear hxa hxo hx hb0
      simp only at HX
      have e37 : w.heap.size ≠ M := by have := HMS.out; omega
      have e38 : w.heap.size ≠ g := by have := HGS.out; omega
      have eT : w.heap.size ≠ 0 := by have := HK.out.t.blk; omega
      have ETH := Lib.hid eT
      clear eT
      go_upto_if 37 with fail
      go_cut [41] (fun v wx => Hid (w.heap.size < wx.heap.size) ∧ Hid (J j wx ∧ BK w0 wx M g (backs (Bl.drop (j + 1)) X) W ti ∧ Room8 wx w.heap.size []))
      case first =>
        cases SB with
        | true =>
          obtain ⟨FS, caps, rfl, hF, hS, hc⟩ := HSS.out rfl
          have HCC := Lib.hid (hc j wr (by omega) HWS.out HR.out.1 HR.out.2.1)
          have HS := Lib.hid hS
          clear hS hc hg1 hg2
          go_wp2_with fail
          refine HCC.out.mono ?_
          rintro e w2 ⟨rfl, hj, hk⟩
          have HN : Hid (w.heap.size < w2.heap.size) := Lib.hid (Nat.lt_of_lt_of_le HWS.out hk.size)
          have HR2 : Hid (J j w2 ∧ BK w0 w2 M g (backs (Bl.drop (j + 1)) X) W ti ∧ Room8 w2 w.heap.size []) := Lib.hid
            ⟨hj, HR.out.2.1.step hk (fun q e => ⟨(HS.out q e).1, (HS.out q e).2.2.1, (HS.out q e).2.2.2.2⟩) (HR.out.2.1.s.keep hk (fun e => (HS.out g e).2.2.2.1 rfl)),
              HR.out.2.2.keep (hk.block _ HWS.out (fun e => by have := (HS.out _ e).2.1; omega))⟩
          clear hj hk
          go_wp2_with fail
          go_meet
          exact ⟨HN, HR2⟩
        | false =>
          have HN := Lib.hid (HSN.out rfl).2
          go_wp2_with fail
          go_meet
          exact ⟨HWS, Lib.hid ⟨HN.out j wr HR.out.1, HR.out.2⟩⟩
      case rest =>
        obtain ⟨HWS2, HR2⟩ := hcut
        clear HWS HR
        obtain ⟨Y, hY⟩ : ∃ Y, backs (Bl.drop (j + 1)) X = Y := ⟨_, rfl⟩
        have HYB : Hid (backs (Bl.drop j) X = backI Y x) := Lib.hid (by rw [← hY]; exact backs_drop HX.out X)
        rw [hY] at HR2
        clear hY
        have HDF := Lib.hid (fun W1 h => wdef_any x ib (io + j * 11) W1 h)
        obtain ⟨d, hd⟩ : ∃ d, defI x = d := ⟨_, rfl⟩
        have HD := Lib.hid hd
        rw [hd] at HDF
        clear hd
        go_wp2_with fail
        refine (HDF.out _ (HXA.out.no HR2.out.2.1.k)).mono ?_
        rintro e w3 ⟨rfl, rfl⟩
        go_upto_if 45 with fail
        go_cut [62] (fun v wx => Hid (w.heap.size < wx.heap.size) ∧ Hid (J j wx ∧ BK w0 wx M g (dropD Y d) W ti ∧ Room8 wx w.heap.size []))
        case first =>
          by_cases hd0 : 0 ≤ d
          · obtain ⟨dn, rfl⟩ : ∃ n : Nat, d = (n : Int) := ⟨d.toNat, by omega⟩
            have hdn : dn < 64 * W := by have := HFX.out.1.2; rw [HD.out] at this; exact this hd0
            have c5 := (HM.out _ HR2.out.2.1.m).2
            have HDR := Lib.hid (sdrop_any w3 g Y W dn HR2.out.2.1.s hdn (by omega))
            have d2 : (dn : Int) ≥ 0 := hd0
            go_wp2_with fail
            refine HDR.out.mono ?_
            rintro e w4 ⟨rfl, hs4, hk4⟩
            have HN : Hid (w.heap.size < w4.heap.size) := Lib.hid (Nat.lt_of_lt_of_le HWS2.out hk4.size)
            have HR3 : Hid (J j w4 ∧ BK w0 w4 M g (dropD Y dn) W ti ∧ Room8 w4 w.heap.size []) := Lib.hid
              ⟨HST.out _ _ _ HR2.out.1 (hk4.mono (fun q _ e => .inl e)), HR2.out.2.1.step hk4 (fun q e => ⟨by omega, by omega, by omega⟩) (by unfold dropD; rw [if_pos hd0]; exact hs4), HR2.out.2.2.keep (hk4.block _ HWS2.out e38)⟩
            clear hs4 hk4
            go_wp2_with fail
            go_meet
            exact ⟨HN, HR3⟩
          · have hd1 : ¬ d ≥ 0 := hd0
            have HR3 : Hid (J j w3 ∧ BK w0 w3 M g (dropD Y d) W ti ∧ Room8 w3 w.heap.size []) := Lib.hid (by
              unfold dropD; rw [if_neg hd0]; exact HR2.out)
            go_wp2_with fail
            go_meet
            exact ⟨HWS2, HR3⟩
        case rest =>
          obtain ⟨HWS3, HR3⟩ := hcut
          clear HWS2 HR2
          obtain ⟨Z, hZ⟩ : ∃ Z, dropD Y d = Z := ⟨_, rfl⟩
          have HZB : Hid (backs (Bl.drop j) X = usesX Z x.uses) := Lib.hid (by rw [HYB.out]; unfold backI; rw [HD.out, hZ])
          rw [hZ] at HR3
          clear hZ
          have HUU := Lib.hid (fun (W1 : World) (hk : Keeps No w0 W1) (hr : Room8 W1 w.heap.size []) => wuses8_any x ib (io + j * 11) w.heap.size W1 (HXA.out.no hk) (HXO.out.no hk) HFX.out.2 hr (by have := HIB.out; have := H0S.out; omega)
            (fun hp p o e => by
              obtain ⟨p2, o2, e2, hc2⟩ := HXO.out.args.at_ hp
              rw [e] at e2
              injection e2 with e2
              injection e2 with e2 _ _
              subst e2
              obtain ⟨y, hy⟩ : ∃ y, x.args.l[0]? = some y := ⟨_, List.getElem?_eq_getElem (by rw [HXO.out.args.len]; exact hp)⟩
              have h1 : p < w0.heap.size := World.block_lt_of_cell? _ _ (hc2 0 y hy)
              have := H0S.out
              omega))
          go_wp2_with fail
          refine (HUU.out _ HR3.out.2.1.k HR3.out.2.2).mono ?_
          rintro e w5 ⟨v, rfl, hu, hr5, hk5⟩
          obtain ⟨us, hus⟩ : ∃ us, x.uses = us := ⟨_, rfl⟩
          have HFU : Hid (∀ r ∈ us, 0 ≤ r ∧ r.toNat < 64 * W) := Lib.hid (by rw [← hus]; exact HFX.out.1.1)
          have hul := uses_len x
          rw [HXO.out.args.len] at hul
          have hul2 := HFX.out.2
          rw [hus] at hu HZB hul
          clear hus
          obtain ⟨aa, ca, rfl, hrd⟩ := hu.read e38 (Nat.lt_of_lt_of_le HGS.out (by have := HWS3.out; omega))
          have HRD := Lib.hid hrd
          have HWS5 : Hid (w.heap.size < w5.heap.size) := Lib.hid (Nat.lt_of_lt_of_le HWS3.out hk5.size)
          have HR5 : Hid (J j w5 ∧ BK w0 w5 M g Z W ti ∧ Room8 w5 w.heap.size []) := Lib.hid
            ⟨HST.out _ _ _ HR3.out.1 (hk5.mono (fun q _ e => .inr (by omega))), HR3.out.2.1.step hk5 (fun q e => ⟨by have := H0S.out; omega, by omega, by have := ETH.out; omega⟩) (HR3.out.2.1.s.keep hk5 (fun e => e38 e.symm)), hr5⟩
          clear hrd hu hr5 hk5 HWS3 HR3
          obtain ⟨un, hun⟩ : ∃ n, us.length = n := ⟨_, rfl⟩
          rw [hun] at hul
          rw [hun]
          go_wp2_with fail
          obtain ⟨wA, rfl⟩ : ∃ W', W' = wr := ⟨_, rfl⟩
          go_loopg [67] un (fun k v wr => ∃ i : Nat, v = .int .i64 (i : Int) ∧ i ≤ un ∧ k = un - i ∧ Hid (Keeps (fun q => q = g) w5 wr) ∧ Hid (J j wr ∧ BK w0 wr M g (usesX Z (us.take i)) W ti ∧ Room8 wr w.heap.size []))
          case atStart => exact ⟨0, rfl, Nat.zero_le _, rfl, Lib.hid (Keeps.refl _ _), HR5⟩
          case round =>
            obtain ⟨i, rfl, hi2, hg2, HK2, HR6⟩ := hrel
            by_cases hlt : i < un
            · have hlt' : (i : Int) < (un : Int) := by omega
              have i0 : (0 : Int) ≤ (i : Int) := by omega
              obtain ⟨r, hr⟩ : ∃ r, us[i]? = some r := ⟨_, List.getElem?_eq_getElem (by omega)⟩
              obtain ⟨p, rfl, hpg, hcp⟩ := HRD.out i r hr
              have hcp2 := HK2.out.cell hcp hpg
              have hru := HFU.out r (List.mem_of_getElem? hr)
              obtain ⟨rn, rfl⟩ : ∃ n : Nat, r = (n : Int) := ⟨r.toNat, by omega⟩
              have HAD := Lib.hid (sadd_any wr g _ W rn HR6.out.2.1.s (by have := hru.2; omega) (by omega))
              have HE : Hid (usesX Z (us.take (i + 1)) = addB (usesX Z (us.take i)) rn) := Lib.hid (by
                obtain ⟨h1, h2⟩ := List.getElem?_eq_some_iff.1 hr
                rw [List.take_succ_eq_append_getElem h1, h2, usesX_app]; rfl)
              clear hr hru hcp
              go_wp2_with fail
              refine HAD.out.mono ?_
              rintro e w7 ⟨rfl, hs7, hk7⟩
              have HK7 : Hid (Keeps (fun q => q = g) w5 w7) := Lib.hid (HK2.out.trans hk7 (fun _ _ e => e))
              have HR7 : Hid (J j w7 ∧ BK w0 w7 M g (usesX Z (us.take (i + 1))) W ti ∧ Room8 w7 w.heap.size []) := Lib.hid
                ⟨HST.out _ _ _ HR6.out.1 (hk7.mono (fun q _ e => .inl e)), HR6.out.2.1.step hk7 (fun q e => ⟨by omega, by omega, by omega⟩) (by rw [HE.out]; exact hs7), HR6.out.2.2.keep (hk7.block _ (Nat.lt_of_lt_of_le HWS5.out HK2.out.size) e38)⟩
              clear hs7 hk7
              go_wp2_with fail
              go_roundg (un - (i + 1))
              case rel => exact ⟨i + 1, by go_num, by omega, rfl, HK7, HR7⟩
              case measure => omega
            · obtain rfl : i = un := by omega
              have hlt' : ¬ (i : Int) < (i : Int) := by omega
              have HWS6 : Hid (w.heap.size < wr.heap.size) := Lib.hid (Nat.lt_of_lt_of_le HWS5.out HK2.out.size)
              have HR8 : Hid (J j wr ∧ BK w0 wr M g (backs (Bl.drop j) X) W ti ∧ Room8 wr w.heap.size []) := Lib.hid (by
                rw [HZB.out]
                have h := HR6.out
                rw [List.take_of_length_le (by omega)] at h
                exact h)
              go_wp2_with fail
              go_roundg j
              case rel => exact ⟨j, _, rfl, Lib.hid rfl, by omega, rfl, HWS6, HR8⟩
              case measure => omega
end Go.Proofs.YtpjilcfmcbapcaaDoor
