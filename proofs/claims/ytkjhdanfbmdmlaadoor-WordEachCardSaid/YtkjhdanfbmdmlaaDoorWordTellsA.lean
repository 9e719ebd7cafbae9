/- What WordTells calls besides: Negate, Invert, Is, of every width. -/
import Derived.Test.YtkjhdanfbmdmlaaDoorWordRefBinaryB
import Derived.Test.YtkjhdanfbmdmlaaDoorWordUsualR
import Derived.Test.YtkjhdanfbmdmlaaDoorWordAwake
namespace Go.Proofs.YtkjhdanfbmdmlaaDoor
open Go.RowKit
set_option linter.unusedVariables false
set_option linter.unusedSimpArgs false

theorem wneg_as (b : Int) (s : Bool) (x V : Int) (O : Bool) (hx : -9223372036854775808 ≤ x ∧ x ≤ 9223372036854775807) (HV : Hid (Wd.bval b s 2 0 x = V)) (HO : Hid (Wd.bok b s 2 0 x = O)) (w : World) (L : Laid w) :
    Calls Tryd.prog 14 #[.agg #[.int .i64 b, .bool s], .int .i64 x] w fun e w' => e = .returned (.tuple #[.int .i64 V, .bool O]) ∧ Gr w w' :=
  wneg b s x V O (fun w L => binary_as b s 2 0 x V O (by decide) hx HV HO w L) w L
theorem rbinary_as (b : Int) (s : Bool) (sub x y V : Int) (O : Bool) (hx : -9223372036854775808 ≤ x ∧ x ≤ 9223372036854775807) (hy : -9223372036854775808 ≤ y ∧ y ≤ 9223372036854775807)
    (HV : Hid (Wd.bval b s sub x y = V)) (HO : Hid (Wd.bok b s sub x y = O)) (w : World) :
    Calls Tryd.prog 11 #[.agg #[.int .i64 b, .bool s], .int .i64 sub, .int .i64 x, .int .i64 y] w fun e w' => e = .returned (.tuple #[.int .i64 V, .bool O]) ∧ Gr w w' := by
  have h := rbinary b s sub x y hx hy w
  rw [HV.out, HO.out] at h
  exact h
set_option maxHeartbeats 400000 in
theorem rneg_as (b : Int) (s : Bool) (x V : Int) (O : Bool) (hx : -9223372036854775808 ≤ x ∧ x ≤ 9223372036854775807) (HV : Hid (Wd.bval b s 2 0 x = V)) (HO : Hid (Wd.bok b s 2 0 x = O)) (w : World) :
    Calls Tryd.prog 15 #[.agg #[.int .i64 b, .bool s], .int .i64 x] w fun e w' => e = .returned (.tuple #[.int .i64 V, .bool O]) ∧ Gr w w' := by
  go_enter Tryd.func15, Tryd.ntmps15
  go_wp2_with fail
  refine (rbinary_as b s 2 0 x V O (by decide) hx HV HO _).mono ?_
  rintro e w1 ⟨rfl, hg⟩
  have HG := Lib.hid hg
  clear hg
  go_wp2_with fail
  go_returns
  exact ⟨rt rfl rfl rfl rfl, HG.out.of_alloc⟩
set_option maxHeartbeats 400000 in
theorem winvert_no (b : Int) (s : Bool) (x : Int) (HR : Hid (Wd.reck b = false)) (w : World) (L : Laid w) :
    Calls Tryd.prog 17 #[.agg #[.int .i64 b, .bool s], .int .i64 x] w fun e w' => e = .returned (.int .i64 0) ∧ Gr w w' := by
  have HL := Lib.hid L
  clear L
  go_enter Tryd.func17, Tryd.ntmps17
  go_wp2_with fail
  refine (wreck_as b s false HR _ (HL.out.gr ((Gr.refl _).alloc _ _))).mono ?_
  rintro e w1 ⟨rfl, hg⟩
  have HG := Lib.hid hg
  clear hg
  go_wp2_with fail
  go_returns
  exact ⟨ri rfl rfl, HG.out.of_alloc⟩
set_option maxHeartbeats 400000 in
theorem winvert_yes (b : Int) (s : Bool) (x N M : Int) (hx : -9223372036854775808 ≤ x ∧ x ≤ 9223372036854775807) (HR : Hid (Wd.reck b = true)) (HN : Hid (bits BinOp.xor IntKind.i64 (-1) x = N)) (HM : Hid (Wd.wrap b s N = M)) (w : World) (L : Laid w) :
    Calls Tryd.prog 17 #[.agg #[.int .i64 b, .bool s], .int .i64 x] w fun e w' => e = .returned (.int .i64 M) ∧ Gr w w' := by
  have HL := Lib.hid L
  clear L
  go_enter Tryd.func17, Tryd.ntmps17
  go_wp2_with fail
  refine (wreck_as b s true HR _ (HL.out.gr ((Gr.refl _).alloc _ _))).mono ?_
  rintro e w1 ⟨rfl, hg⟩
  obtain ⟨a1, a2, a3, a4⟩ := hg.two (k := w.heap.size) (by first | omega | (simp; done) | (simp; omega))
  have HG := Lib.hid hg
  clear hg
  go_wp2_with fail
  rw [HN.out]
  refine (wwrap_as b s N M ?_ HM _).mono ?_
  · rw [← HN.out]; exact Wd.xor_64 (-1) x
  rintro e w2 ⟨rfl, hg⟩
  have HG2 := Lib.hid (HG.out.of_alloc.trans hg)
  clear hg
  go_wp2_with fail
  go_returns
  exact ⟨ri rfl rfl, HG2.out⟩
set_option maxHeartbeats 400000 in
theorem wis_no (b : Int) (s : Bool) (n : Int) (HM : Hid (Wd.may b = false)) (w : World) (L : Laid w) :
    Calls Tryd.prog 19 #[.agg #[.int .i64 b, .bool s], .int .i64 n] w fun e w' => e = .returned (.bool false) ∧ Gr w w' := by
  have HL := Lib.hid L
  clear L
  go_enter Tryd.func19, Tryd.ntmps19
  go_wp2_with fail
  refine (wmay_as b s false HM _ (HL.out.gr ((Gr.refl _).alloc _ _))).mono ?_
  rintro e w1 ⟨rfl, hg⟩
  have HG := Lib.hid hg
  clear hg
  go_wp2_with fail
  go_returns
  exact ⟨rb rfl rfl, HG.out.of_alloc⟩
theorem wis_as (b : Int) (s : Bool) (n A : Int) (I : Bool) (hn : -9223372036854775808 ≤ n ∧ n ≤ 9223372036854775807) (HM : Hid (Wd.may b = true)) (HA : Hid (Wd.wrap b s n = A)) (HI : Hid ((A == n) = I)) (w : World) (L : Laid w) :
    Calls Tryd.prog 19 #[.agg #[.int .i64 b, .bool s], .int .i64 n] w fun e w' => e = .returned (.bool I) ∧ Gr w w' := by
  have h := wis b s n A hn HM HA w L
  rw [HI.out] at h
  exact h
theorem rusual_as (b : Int) (s : Bool) (c : Int) (t : Bool) (V : Int) (O : Bool) (HV : Hid (Wd.ub b s c t = V)) (HO : Hid (Wd.us b s c t = O)) (w : World) :
    Calls Tryd.prog 22 #[.agg #[.int .i64 b, .bool s], .agg #[.int .i64 c, .bool t]] w fun e w' => e = .returned (.agg #[.int .i64 V, .bool O]) ∧ Gr w w' := by
  have h := rusual b s c t w
  rw [HV.out, HO.out] at h
  exact h
theorem rtext_as (b : Int) (s : Bool) (V : ByteArray) (HV : Hid (Wd.text b s = V)) (w : World) :
    Calls Tryd.prog 26 #[.agg #[.int .i64 b, .bool s]] w fun e w' => e = .returned (.string V) ∧ Gr w w' := by
  have h := rtext b s w
  rw [HV.out] at h
  exact h
theorem rmay_as (b : Int) (s : Bool) (B : Bool) (hb : Hid (Wd.may b = B)) (w : World) :
    Calls Tryd.prog 20 #[.agg #[.int .i64 b, .bool s]] w fun e w' => e = .returned (.bool B) ∧ Gr w w' := by
  have h := rmay b s w
  rw [hb.out] at h
  exact h
theorem wpromote_as (b : Int) (s : Bool) (B : Int) (S : Bool) (hb : Hid (Wd.pb b = B)) (hs : Hid (Wd.ps b s = S)) (w : World) :
    Calls Tryd.prog 23 #[.agg #[.int .i64 b, .bool s]] w fun e w' => e = .returned (.agg #[.int .i64 B, .bool S]) ∧ Gr w w' :=
  (wpromote b s B S hb hs w).mono fun e w' ⟨he, hw⟩ => ⟨he, hw ▸ ((Gr.refl _).alloc _ _).alloc _ _⟩
theorem rpromote_as (b : Int) (s : Bool) (B : Int) (S : Bool) (hb : Hid (Wd.pb b = B)) (hs : Hid (Wd.ps b s = S)) (w : World) :
    Calls Tryd.prog 24 #[.agg #[.int .i64 b, .bool s]] w fun e w' => e = .returned (.agg #[.int .i64 B, .bool S]) ∧ Gr w w' :=
  (rpromote b s B S hb hs w).mono fun e w' ⟨he, hw⟩ => ⟨he, hw ▸ ((Gr.refl _).alloc _ _).alloc _ _⟩
end Go.Proofs.YtkjhdanfbmdmlaaDoor
