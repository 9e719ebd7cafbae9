/- What may be: walk.function. -/
import Derived.Test.YtkiimljdoebclaaDoorIrFits2
import Derived.Test.YtkiimljdoebclaaDoorIrFitsC
import Derived.Test.YtkiimljdoebclaaDoorIrFitsT
namespace Go.Proofs.YtkiimljdoebclaaDoor
open Go.RowKit
set_option linter.unusedVariables false
set_option linter.unusedSimpArgs false

theorem fits_any (p : Pg) (f : Fx) (x : Ix) (pb po fb fo b off : Nat) (w : World) (hp : p.at_ w pb po) (hpo : PgOk w p) (hf : f.at_ w fb fo) (hfo : FxOk w f) (hx : x.at_ w b off) (hok : IxOk w x) (L : Laid w) :
    Calls Tryd.prog 46 #[.pointer (some ⟨pb, po, none⟩), .pointer (some ⟨fb, fo, none⟩), .pointer (some ⟨b, off, none⟩)] w fun e w' => e = .returned (.bool (x.fitsOk f.slots.n p.gn p.fl f.value)) ∧ Keeps No w w' := by
  by_cases h1 : x.op = 10
  · exact fits_call p f x pb po fb fo b off w hp hpo hf hfo hx hok L h1
  · by_cases h2 : x.op = 19
    · exact fits_tail p f x pb po fb fo b off w hp hpo hf hfo hx hok L h2
    · exact fits_rest p f x pb po fb fo b off w hp hpo hf hfo hx hok L ⟨h1, h2⟩
def slotOk (s : Int) : Bool := decide (1 ≤ s) && decide (s ≤ 65536)
def Fx.ok (globals : Nat) (fl : List Fx) (f : Fx) : Bool := f.formOk && (f.slots.l.all slotOk && f.bl.all (fun x => x.l.all (fun i => i.fitsOk f.slots.n globals fl f.value)))
set_option maxRecDepth 100000 in
set_option maxHeartbeats 12800000 in
theorem function_any (p : Pg) (f : Fx) (pb po fb fo : Nat) (w : World) (hp : p.at_ w pb po) (hpo : PgOk w p) (hf : f.at_ w fb fo) (hfo : FxOk w f) (L : Laid w) :
    Calls Tryd.prog 40 #[.pointer (some ⟨pb, po, none⟩), .pointer (some ⟨fb, fo, none⟩)] w fun e w' => e = .returned (.bool (f.ok p.gn p.fl)) ∧ Keeps No w w' := by
  have HFT := Lib.hid hf
  have HFO := Lib.hid hfo
  have HPT := Lib.hid hp
  have HPO := Lib.hid hpo
  have HL := Lib.hid L
  have c3 := hf 3 _ rfl
  have c4 := hf 4 _ rfl
  have hcap := hfo.cap
  have hcs := hfo.slots.cap
  unfold maxLen at hcap hcs
  have HFM := Lib.hid (form_any f fb fo w hf hfo)
  obtain ⟨B, hB⟩ : ∃ B, f.formOk = B := ⟨_, rfl⟩
  rw [hB] at HFM
  have HU : Hid (f.ok p.gn p.fl = (B && (f.slots.l.all slotOk && f.bl.all (fun x => x.l.all (fun i => i.fitsOk f.slots.n p.gn p.fl f.value))))) := Lib.hid (by unfold Fx.ok; rw [hB])
  clear hp hpo hf hfo L hB
  go_enter Tryd.func40, Tryd.ntmps40
  go_wp2_with fail
  refine HFM.out.mono ?_
  rintro e w1 ⟨rfl, hg1⟩
  have HK1 := Lib.hid hg1
  have d3 := hg1.cell0 c3
  have d4 := hg1.cell0 c4
  clear hg1 c3 c4
  cases B with
  | false =>
    go_wp2_with fail
    go_returns
    exact ⟨rb rfl HU.out.symm, HK1.out⟩
  | true =>
    obtain ⟨sa, hsa⟩ : ∃ A, f.slots.a = A := ⟨_, rfl⟩
    obtain ⟨sn, hsn⟩ : ∃ A, f.slots.n = A := ⟨_, rfl⟩
    obtain ⟨sc, hsc⟩ : ∃ A, f.slots.cap = A := ⟨_, rfl⟩
    obtain ⟨ba, hba⟩ : ∃ A, f.ba = A := ⟨_, rfl⟩
    obtain ⟨bn, hbn⟩ : ∃ A, f.bn = A := ⟨_, rfl⟩
    obtain ⟨bc, hbc⟩ : ∃ A, f.bc = A := ⟨_, rfl⟩
    simp only [Sl.v] at d3
    rw [hsa, hsn, hsc] at d3
    rw [hba, hbn, hbc] at d4
    rw [hsn, hsc] at hcs
    rw [hbn, hbc] at hcap
    have HSA := Lib.hid hsa
    have HSN := Lib.hid hsn
    have HBA := Lib.hid hba
    have HBN := Lib.hid hbn
    have HU2 : Hid (f.ok p.gn p.fl = (f.slots.l.all slotOk && f.bl.all (fun x => x.l.all (fun i => i.fitsOk f.slots.n p.gn p.fl f.value)))) := Lib.hid (by rw [HU.out]; rfl)
    clear hsa hsn hsc hba hbn hbc HU HFM
    go_wp2_with fail
    go_loopg [18] sn (fun g v wr => ∃ i : Nat, v = .int .i64 (i : Int) ∧ i ≤ sn ∧ g = sn - i ∧ Hid ((f.slots.l.take i).all slotOk = true) ∧ w1 = wr)
    case atStart => exact ⟨0, rfl, Nat.zero_le _, rfl, Lib.hid rfl, rfl⟩
    case round =>
      obtain ⟨i, rfl, hi, hg, HE, rfl⟩ := hrel
      by_cases hlt : i < sn
      · have hlt' : (i : Int) < (sn : Int) := by omega
        have i0 : (0 : Int) ≤ (i : Int) := by omega
        obtain ⟨ab, ao, z, hz, ha, ca⟩ := HFO.out.slots.get (i := i) (by rw [HSN.out]; exact hlt)
        obtain rfl := HSA.out.symm.trans ha
        have ca := HK1.out.cell0 ca
        have HZ := Lib.hid hz
        clear hz
        by_cases hz1 : z < 1
        · have HF : Hid (f.ok p.gn p.fl = false) := Lib.hid (by
            rw [HU2.out]; rw [show f.slots.l.all slotOk = false from List.all_eq_false.2 ⟨z, List.mem_of_getElem? HZ.out, by unfold slotOk; simp; omega⟩]; rfl)
          go_wp2_with fail
          go_returns
          exact ⟨rb rfl HF.out.symm, HK1.out⟩
        · by_cases hz2 : z > 65536
          · have HF : Hid (f.ok p.gn p.fl = false) := Lib.hid (by
              rw [HU2.out]; rw [show f.slots.l.all slotOk = false from List.all_eq_false.2 ⟨z, List.mem_of_getElem? HZ.out, by unfold slotOk; simp; omega⟩]; rfl)
            go_wp2_with fail
            go_returns
            exact ⟨rb rfl HF.out.symm, HK1.out⟩
          · go_wp2_with fail
            go_roundg (sn - (i + 1))
            case rel => exact ⟨i + 1, by go_num, by omega, rfl, Lib.hid (by
              obtain ⟨h1, h2⟩ := List.getElem?_eq_some_iff.1 HZ.out
              rw [List.take_succ_eq_append_getElem h1, List.all_append, HE.out, h2]; unfold slotOk; simp; omega), rfl⟩
            case measure => omega
      · obtain rfl : i = sn := by omega
        have hlt' : ¬ (i : Int) < (i : Int) := by omega
        have HU3 : Hid (f.ok p.gn p.fl = f.bl.all (fun x => x.l.all (fun i => i.fitsOk f.slots.n p.gn p.fl f.value))) := Lib.hid (by
          rw [HU2.out]; have h := HE.out; rw [List.take_of_length_le (by have := HFO.out.slots.len; have := HSN.out; omega)] at h; rw [h]; rfl)
        clear HU2 HE
        go_wp2_with fail
        go_loopg [34] bn (fun g v wr => ∃ i : Nat, v = .int .i64 (i : Int) ∧ i ≤ bn ∧ g = bn - i ∧ Hid ((f.bl.take i).all (fun x => x.l.all (fun i => i.fitsOk f.slots.n p.gn p.fl f.value)) = true) ∧ Hid (Keeps No w wr))
        case atStart => exact ⟨0, rfl, Nat.zero_le _, rfl, Lib.hid rfl, HK1⟩
        case round =>
          obtain ⟨i, rfl, hi, hg, HE, HK⟩ := hrel
          by_cases hlt : i < bn
          · have hlt' : (i : Int) < (bn : Int) := by omega
            have i0 : (0 : Int) ≤ (i : Int) := by omega
            obtain ⟨bb, bo, z, hz, ha, cb, hbz⟩ := Fx.get HFO.out (i := i) (by rw [HBN.out]; exact hlt)
            obtain rfl := HBA.out.symm.trans ha
            have cb := HK.out.cell0 cb
            have e4 := HK.out.cell0 (HFT.out 4 _ rfl)
            rw [HBA.out, HBN.out] at e4
            have hzc := hbz.cap
            unfold maxLen at hzc
            have HZ := Lib.hid hz
            have HBZ := Lib.hid hbz
            clear hz hbz
            obtain ⟨za, zn, zc, zl⟩ := z
            simp only [Bx.v] at cb hzc
            go_wp2_with fail
            go_loopg [47] zn (fun g v wr2 => ∃ k : Nat, v = .int .i64 (k : Int) ∧ k ≤ zn ∧ g = zn - k ∧ Hid ((zl.take k).all (fun i => i.fitsOk f.slots.n p.gn p.fl f.value) = true) ∧ Hid (Keeps No w wr2))
            case atStart => exact ⟨0, rfl, Nat.zero_le _, rfl, Lib.hid rfl, HK⟩
            case round =>
              obtain ⟨k, rfl, hk, hg2, HE2, HK2⟩ := hrel
              by_cases hlk : k < zn
              · have hlk' : (k : Int) < (zn : Int) := by omega
                have k0 : (0 : Int) ≤ (k : Int) := by omega
                obtain ⟨zb, zo, y, hy, hya, hyt, hyo⟩ := Bx.get HBZ.out hlk
                simp only at hya hy
                subst hya
                have HY := Lib.hid hy
                obtain ⟨FT, hFT⟩ : ∃ FT, y.fitsOk f.slots.n p.gn p.fl f.value = FT := ⟨_, rfl⟩
                have HFI := Lib.hid (fits_any p f y pb po fb fo zb (zo + k * 11) wr (HPT.out.no HK2.out) (HPO.out.no HK2.out) (HFT.out.no HK2.out) (HFO.out.no HK2.out) (hyt.no HK2.out) (hyo.no HK2.out) (HL.out.no HK2.out))
                rw [hFT] at HFI
                have HTT := Lib.hid hFT
                clear hy hyt hyo hFT
                go_wp2_with fail
                refine HFI.out.mono ?_
                rintro e w' ⟨rfl, hg1⟩
                have HK3 := Lib.hid (HK2.out.trans hg1 (fun _ _ h => h))
                clear hg1
                cases FT with
                | false =>
                  have HF : Hid (f.ok p.gn p.fl = false) := Lib.hid (by
                    rw [HU3.out, List.all_eq_false]; refine ⟨_, List.mem_of_getElem? HZ.out, ?_⟩
                    rw [show (List.all zl fun i => i.fitsOk f.slots.n p.gn p.fl f.value) = false from List.all_eq_false.2 ⟨y, List.mem_of_getElem? HY.out, by rw [HTT.out]; decide⟩]; decide)
                  go_wp2_with fail
                  go_returns
                  exact ⟨rb rfl HF.out.symm, HK3.out⟩
                | true =>
                  go_wp2_with fail
                  go_roundg (zn - (k + 1))
                  case rel => exact ⟨k + 1, by go_num, by omega, rfl, Lib.hid (by
                    obtain ⟨h1, h2⟩ := List.getElem?_eq_some_iff.1 HY.out
                    rw [List.take_succ_eq_append_getElem h1, List.all_append, HE2.out, h2]; simp [HTT.out]), HK3⟩
                  case measure => omega
              · obtain rfl : k = zn := by omega
                have hlk' : ¬ (k : Int) < (k : Int) := by omega
                go_wp2_with fail
                go_roundg (bn - (i + 1))
                case rel => exact ⟨i + 1, by go_num, by omega, rfl, Lib.hid (by
                  obtain ⟨h1, h2⟩ := List.getElem?_eq_some_iff.1 HZ.out
                  rw [List.take_succ_eq_append_getElem h1, List.all_append, HE.out, h2]
                  have hl := HBZ.out.len
                  simp only at hl
                  have h := HE2.out
                  rw [List.take_of_length_le (by omega)] at h
                  simp only [List.all_cons, List.all_nil, h]; rfl), HK2⟩
                case measure => omega
          · obtain rfl : i = bn := by omega
            have hlt' : ¬ (i : Int) < (i : Int) := by omega
            go_wp2_with fail
            go_returns
            exact ⟨rb rfl (by rw [HU3.out]; have h := HE.out; rw [List.take_of_length_le (by have := HFO.out.len; have := HBN.out; omega)] at h; exact h.symm), HK.out⟩
end Go.Proofs.YtkiimljdoebclaaDoor
