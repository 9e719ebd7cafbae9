/- Promote and Usual, of word and of the document. -/
import Derived.Test.YtkjhdanfbmdmlaaDoorWordMayX
import Derived.Test.YtkjhdanfbmdmlaaDoorWordWrap
import Derived.Test.YtkjhdanfbmdmlaaDoorWordMathB
import Derived.Deep.RegionWith
namespace Go.Proofs.YtkjhdanfbmdmlaaDoor
open Go.RowKit
set_option linter.unusedVariables false
set_option linter.unusedSimpArgs false

set_option maxHeartbeats 400000 in
theorem wpromote (b : Int) (s : Bool) (B : Int) (S : Bool) (hb : Hid (Wd.pb b = B)) (hs : Hid (Wd.ps b s = S)) (w : World) :
    Calls Tryd.prog 23 #[.agg #[.int .i64 b, .bool s]] w fun e w' => e = .returned (.agg #[.int .i64 B, .bool S]) ∧ (w.alloc (.cells #[.int .i64 b, .bool s] 23)).alloc (.cells #[.int .i64 B, .bool S] 23) = w' := by
  rw [← hb.out, ← hs.out]
  by_cases h : b < 32
  · rw [Wd.pb_lt h, Wd.ps_lt h]
    go_enter Tryd.func23, Tryd.ntmps23
    go_wp2
    go_returns
    exact ⟨rfl, rfl⟩
  · rw [Wd.pb_ge h, Wd.ps_ge h]
    go_enter Tryd.func23, Tryd.ntmps23
    go_wp2
    go_returns
    exact ⟨rfl, rfl⟩

set_option maxHeartbeats 4000000 in
theorem wusual_lt (b : Int) (s : Bool) (c : Int) (t : Bool) (B C : Int) (S T : Bool) (hlt : B < C) (HMB : Hid (Wd.may b = true)) (HMC : Hid (Wd.may c = true)) (HB : Hid (Wd.pb b = B)) (HC : Hid (Wd.pb c = C)) (HS : Hid (Wd.ps b s = S)) (HT : Hid (Wd.ps c t = T)) (w : World) (L : Laid w) :
    Calls Tryd.prog 21 #[.agg #[.int .i64 b, .bool s], .agg #[.int .i64 c, .bool t]] w fun e w' => e = .returned (.agg #[.int .i64 C, .bool T]) ∧ Gr w w' := by
  have HL := Lib.hid L
  clear L
  have hda : ∀ (u : World) (n : Nat) (o : Obj), (u.drewN n).alloc o = (u.alloc o).drewN n := fun _ _ _ => rfl
  have hds : ∀ (u : World) (n : Nat) (a : Addr) (v : Value), (u.drewN n).setCell a v = (u.setCell a v).drewN n := fun _ _ _ _ => rfl
  go_enter Tryd.func21, Tryd.ntmps21
  go_wp2_with fail
  refine (may_xas b s true HMB _ (HL.out.gr (by repeat (first | exact Gr.refl _ | refine Gr.alloc ?_ _ _ | refine Gr.drewN ?_ _ | refine Gr.drew ?_)))).mono ?_
  rintro e w1 ⟨rfl, n1, rfl⟩
  go_wp2_with fail
  refine (may_xas c t true HMC _ (HL.out.gr (by repeat (first | exact Gr.refl _ | refine Gr.alloc ?_ _ _ | refine Gr.drewN ?_ _ | refine Gr.drew ?_)))).mono ?_
  rintro e w1 ⟨rfl, n2, rfl⟩
  go_wp2_with fail
  go_region_with (go_at_call 23; first | (with_reducible refine (wpromote b s B S HB HS _).mono ?_; rintro e w3 ⟨rfl, rfl⟩) | (with_reducible refine (wpromote c t C T HC HT _).mono ?_; rintro e w4 ⟨rfl, rfl⟩))
  all_goals go_wp2
  all_goals go_returns
  all_goals refine ⟨rfl, ?_⟩
  all_goals repeat (first | exact Gr.refl _ | refine Gr.alloc ?_ _ _ | refine Gr.drewN ?_ _ | refine Gr.drew ?_)

set_option maxHeartbeats 4000000 in
theorem wusual_gt (b : Int) (s : Bool) (c : Int) (t : Bool) (B C : Int) (S T : Bool) (hlt : C < B) (HMB : Hid (Wd.may b = true)) (HMC : Hid (Wd.may c = true)) (HB : Hid (Wd.pb b = B)) (HC : Hid (Wd.pb c = C)) (HS : Hid (Wd.ps b s = S)) (HT : Hid (Wd.ps c t = T)) (w : World) (L : Laid w) :
    Calls Tryd.prog 21 #[.agg #[.int .i64 b, .bool s], .agg #[.int .i64 c, .bool t]] w fun e w' => e = .returned (.agg #[.int .i64 B, .bool S]) ∧ Gr w w' := by
  have HL := Lib.hid L
  clear L
  have hda : ∀ (u : World) (n : Nat) (o : Obj), (u.drewN n).alloc o = (u.alloc o).drewN n := fun _ _ _ => rfl
  have hds : ∀ (u : World) (n : Nat) (a : Addr) (v : Value), (u.drewN n).setCell a v = (u.setCell a v).drewN n := fun _ _ _ _ => rfl
  go_enter Tryd.func21, Tryd.ntmps21
  go_wp2_with fail
  refine (may_xas b s true HMB _ (HL.out.gr (by repeat (first | exact Gr.refl _ | refine Gr.alloc ?_ _ _ | refine Gr.drewN ?_ _ | refine Gr.drew ?_)))).mono ?_
  rintro e w1 ⟨rfl, n1, rfl⟩
  go_wp2_with fail
  refine (may_xas c t true HMC _ (HL.out.gr (by repeat (first | exact Gr.refl _ | refine Gr.alloc ?_ _ _ | refine Gr.drewN ?_ _ | refine Gr.drew ?_)))).mono ?_
  rintro e w1 ⟨rfl, n2, rfl⟩
  go_wp2_with fail
  go_region_with (go_at_call 23; first | (with_reducible refine (wpromote b s B S HB HS _).mono ?_; rintro e w3 ⟨rfl, rfl⟩) | (with_reducible refine (wpromote c t C T HC HT _).mono ?_; rintro e w4 ⟨rfl, rfl⟩))
  all_goals go_wp2
  all_goals go_returns
  all_goals refine ⟨rfl, ?_⟩
  all_goals repeat (first | exact Gr.refl _ | refine Gr.alloc ?_ _ _ | refine Gr.drewN ?_ _ | refine Gr.drew ?_)

set_option maxHeartbeats 4000000 in
theorem wusual_eqtt (b : Int) (s : Bool) (c : Int) (t : Bool) (B : Int)  (HMB : Hid (Wd.may b = true)) (HMC : Hid (Wd.may c = true)) (HB : Hid (Wd.pb b = B)) (HC : Hid (Wd.pb c = B)) (HS : Hid (Wd.ps b s = true)) (HT : Hid (Wd.ps c t = true)) (w : World) (L : Laid w) :
    Calls Tryd.prog 21 #[.agg #[.int .i64 b, .bool s], .agg #[.int .i64 c, .bool t]] w fun e w' => e = .returned (.agg #[.int .i64 B, .bool true]) ∧ Gr w w' := by
  have HL := Lib.hid L
  clear L
  have hda : ∀ (u : World) (n : Nat) (o : Obj), (u.drewN n).alloc o = (u.alloc o).drewN n := fun _ _ _ => rfl
  have hds : ∀ (u : World) (n : Nat) (a : Addr) (v : Value), (u.drewN n).setCell a v = (u.setCell a v).drewN n := fun _ _ _ _ => rfl
  go_enter Tryd.func21, Tryd.ntmps21
  go_wp2_with fail
  refine (may_xas b s true HMB _ (HL.out.gr (by repeat (first | exact Gr.refl _ | refine Gr.alloc ?_ _ _ | refine Gr.drewN ?_ _ | refine Gr.drew ?_)))).mono ?_
  rintro e w1 ⟨rfl, n1, rfl⟩
  go_wp2_with fail
  refine (may_xas c t true HMC _ (HL.out.gr (by repeat (first | exact Gr.refl _ | refine Gr.alloc ?_ _ _ | refine Gr.drewN ?_ _ | refine Gr.drew ?_)))).mono ?_
  rintro e w1 ⟨rfl, n2, rfl⟩
  go_wp2_with fail
  go_region_with (go_at_call 23; first | (with_reducible refine (wpromote b s B true HB HS _).mono ?_; rintro e w3 ⟨rfl, rfl⟩) | (with_reducible refine (wpromote c t B true HC HT _).mono ?_; rintro e w4 ⟨rfl, rfl⟩))
  all_goals go_wp2
  all_goals go_returns
  all_goals refine ⟨rfl, ?_⟩
  all_goals repeat (first | exact Gr.refl _ | refine Gr.alloc ?_ _ _ | refine Gr.drewN ?_ _ | refine Gr.drew ?_)

set_option maxHeartbeats 4000000 in
theorem wusual_eqtf (b : Int) (s : Bool) (c : Int) (t : Bool) (B : Int)  (HMB : Hid (Wd.may b = true)) (HMC : Hid (Wd.may c = true)) (HB : Hid (Wd.pb b = B)) (HC : Hid (Wd.pb c = B)) (HS : Hid (Wd.ps b s = true)) (HT : Hid (Wd.ps c t = false)) (w : World) (L : Laid w) :
    Calls Tryd.prog 21 #[.agg #[.int .i64 b, .bool s], .agg #[.int .i64 c, .bool t]] w fun e w' => e = .returned (.agg #[.int .i64 B, .bool false]) ∧ Gr w w' := by
  have HL := Lib.hid L
  clear L
  have hda : ∀ (u : World) (n : Nat) (o : Obj), (u.drewN n).alloc o = (u.alloc o).drewN n := fun _ _ _ => rfl
  have hds : ∀ (u : World) (n : Nat) (a : Addr) (v : Value), (u.drewN n).setCell a v = (u.setCell a v).drewN n := fun _ _ _ _ => rfl
  go_enter Tryd.func21, Tryd.ntmps21
  go_wp2_with fail
  refine (may_xas b s true HMB _ (HL.out.gr (by repeat (first | exact Gr.refl _ | refine Gr.alloc ?_ _ _ | refine Gr.drewN ?_ _ | refine Gr.drew ?_)))).mono ?_
  rintro e w1 ⟨rfl, n1, rfl⟩
  go_wp2_with fail
  refine (may_xas c t true HMC _ (HL.out.gr (by repeat (first | exact Gr.refl _ | refine Gr.alloc ?_ _ _ | refine Gr.drewN ?_ _ | refine Gr.drew ?_)))).mono ?_
  rintro e w1 ⟨rfl, n2, rfl⟩
  go_wp2_with fail
  go_region_with (go_at_call 23; first | (with_reducible refine (wpromote b s B true HB HS _).mono ?_; rintro e w3 ⟨rfl, rfl⟩) | (with_reducible refine (wpromote c t B false HC HT _).mono ?_; rintro e w4 ⟨rfl, rfl⟩))
  all_goals go_wp2
  all_goals go_returns
  all_goals refine ⟨rfl, ?_⟩
  all_goals repeat (first | exact Gr.refl _ | refine Gr.alloc ?_ _ _ | refine Gr.drewN ?_ _ | refine Gr.drew ?_)

set_option maxHeartbeats 4000000 in
theorem wusual_eqft (b : Int) (s : Bool) (c : Int) (t : Bool) (B : Int)  (HMB : Hid (Wd.may b = true)) (HMC : Hid (Wd.may c = true)) (HB : Hid (Wd.pb b = B)) (HC : Hid (Wd.pb c = B)) (HS : Hid (Wd.ps b s = false)) (HT : Hid (Wd.ps c t = true)) (w : World) (L : Laid w) :
    Calls Tryd.prog 21 #[.agg #[.int .i64 b, .bool s], .agg #[.int .i64 c, .bool t]] w fun e w' => e = .returned (.agg #[.int .i64 B, .bool false]) ∧ Gr w w' := by
  have HL := Lib.hid L
  clear L
  have hda : ∀ (u : World) (n : Nat) (o : Obj), (u.drewN n).alloc o = (u.alloc o).drewN n := fun _ _ _ => rfl
  have hds : ∀ (u : World) (n : Nat) (a : Addr) (v : Value), (u.drewN n).setCell a v = (u.setCell a v).drewN n := fun _ _ _ _ => rfl
  go_enter Tryd.func21, Tryd.ntmps21
  go_wp2_with fail
  refine (may_xas b s true HMB _ (HL.out.gr (by repeat (first | exact Gr.refl _ | refine Gr.alloc ?_ _ _ | refine Gr.drewN ?_ _ | refine Gr.drew ?_)))).mono ?_
  rintro e w1 ⟨rfl, n1, rfl⟩
  go_wp2_with fail
  refine (may_xas c t true HMC _ (HL.out.gr (by repeat (first | exact Gr.refl _ | refine Gr.alloc ?_ _ _ | refine Gr.drewN ?_ _ | refine Gr.drew ?_)))).mono ?_
  rintro e w1 ⟨rfl, n2, rfl⟩
  go_wp2_with fail
  go_region_with (go_at_call 23; first | (with_reducible refine (wpromote b s B false HB HS _).mono ?_; rintro e w3 ⟨rfl, rfl⟩) | (with_reducible refine (wpromote c t B true HC HT _).mono ?_; rintro e w4 ⟨rfl, rfl⟩))
  all_goals go_wp2
  all_goals go_returns
  all_goals refine ⟨rfl, ?_⟩
  all_goals repeat (first | exact Gr.refl _ | refine Gr.alloc ?_ _ _ | refine Gr.drewN ?_ _ | refine Gr.drew ?_)

set_option maxHeartbeats 4000000 in
theorem wusual_eqff (b : Int) (s : Bool) (c : Int) (t : Bool) (B : Int)  (HMB : Hid (Wd.may b = true)) (HMC : Hid (Wd.may c = true)) (HB : Hid (Wd.pb b = B)) (HC : Hid (Wd.pb c = B)) (HS : Hid (Wd.ps b s = false)) (HT : Hid (Wd.ps c t = false)) (w : World) (L : Laid w) :
    Calls Tryd.prog 21 #[.agg #[.int .i64 b, .bool s], .agg #[.int .i64 c, .bool t]] w fun e w' => e = .returned (.agg #[.int .i64 B, .bool false]) ∧ Gr w w' := by
  have HL := Lib.hid L
  clear L
  have hda : ∀ (u : World) (n : Nat) (o : Obj), (u.drewN n).alloc o = (u.alloc o).drewN n := fun _ _ _ => rfl
  have hds : ∀ (u : World) (n : Nat) (a : Addr) (v : Value), (u.drewN n).setCell a v = (u.setCell a v).drewN n := fun _ _ _ _ => rfl
  go_enter Tryd.func21, Tryd.ntmps21
  go_wp2_with fail
  refine (may_xas b s true HMB _ (HL.out.gr (by repeat (first | exact Gr.refl _ | refine Gr.alloc ?_ _ _ | refine Gr.drewN ?_ _ | refine Gr.drew ?_)))).mono ?_
  rintro e w1 ⟨rfl, n1, rfl⟩
  go_wp2_with fail
  refine (may_xas c t true HMC _ (HL.out.gr (by repeat (first | exact Gr.refl _ | refine Gr.alloc ?_ _ _ | refine Gr.drewN ?_ _ | refine Gr.drew ?_)))).mono ?_
  rintro e w1 ⟨rfl, n2, rfl⟩
  go_wp2_with fail
  go_region_with (go_at_call 23; first | (with_reducible refine (wpromote b s B false HB HS _).mono ?_; rintro e w3 ⟨rfl, rfl⟩) | (with_reducible refine (wpromote c t B false HC HT _).mono ?_; rintro e w4 ⟨rfl, rfl⟩))
  all_goals go_wp2
  all_goals go_returns
  all_goals refine ⟨rfl, ?_⟩
  all_goals repeat (first | exact Gr.refl _ | refine Gr.alloc ?_ _ _ | refine Gr.drewN ?_ _ | refine Gr.drew ?_)

set_option maxHeartbeats 4000000 in
theorem wusual_nob (b : Int) (s : Bool) (c : Int) (t : Bool) (HMB : Hid (Wd.may b = false)) (w : World) (L : Laid w) :
    Calls Tryd.prog 21 #[.agg #[.int .i64 b, .bool s], .agg #[.int .i64 c, .bool t]] w fun e w' => e = .returned (.agg #[.int .i64 0, .bool false]) ∧ Gr w w' := by
  have HL := Lib.hid L
  clear L
  have hda : ∀ (u : World) (n : Nat) (o : Obj), (u.drewN n).alloc o = (u.alloc o).drewN n := fun _ _ _ => rfl
  have hds : ∀ (u : World) (n : Nat) (a : Addr) (v : Value), (u.drewN n).setCell a v = (u.setCell a v).drewN n := fun _ _ _ _ => rfl
  go_enter Tryd.func21, Tryd.ntmps21
  go_wp2_with fail
  refine (may_xas b s false HMB _ (HL.out.gr (by repeat (first | exact Gr.refl _ | refine Gr.alloc ?_ _ _ | refine Gr.drewN ?_ _ | refine Gr.drew ?_)))).mono ?_
  rintro e w1 ⟨rfl, n0, rfl⟩
  go_wp2_with fail
  all_goals go_returns
  all_goals refine ⟨rfl, ?_⟩
  all_goals repeat (first | exact Gr.refl _ | refine Gr.alloc ?_ _ _ | refine Gr.drewN ?_ _ | refine Gr.drew ?_)

set_option maxHeartbeats 4000000 in
theorem wusual_noc (b : Int) (s : Bool) (c : Int) (t : Bool) (HMB : Hid (Wd.may b = true)) (HMC : Hid (Wd.may c = false)) (w : World) (L : Laid w) :
    Calls Tryd.prog 21 #[.agg #[.int .i64 b, .bool s], .agg #[.int .i64 c, .bool t]] w fun e w' => e = .returned (.agg #[.int .i64 0, .bool false]) ∧ Gr w w' := by
  have HL := Lib.hid L
  clear L
  have hda : ∀ (u : World) (n : Nat) (o : Obj), (u.drewN n).alloc o = (u.alloc o).drewN n := fun _ _ _ => rfl
  have hds : ∀ (u : World) (n : Nat) (a : Addr) (v : Value), (u.drewN n).setCell a v = (u.setCell a v).drewN n := fun _ _ _ _ => rfl
  go_enter Tryd.func21, Tryd.ntmps21
  go_wp2_with fail
  refine (may_xas b s true HMB _ (HL.out.gr (by repeat (first | exact Gr.refl _ | refine Gr.alloc ?_ _ _ | refine Gr.drewN ?_ _ | refine Gr.drew ?_)))).mono ?_
  rintro e w1 ⟨rfl, n0, rfl⟩
  go_wp2_with fail
  refine (may_xas c t false HMC _ (HL.out.gr (by repeat (first | exact Gr.refl _ | refine Gr.alloc ?_ _ _ | refine Gr.drewN ?_ _ | refine Gr.drew ?_)))).mono ?_
  rintro e w1 ⟨rfl, n1, rfl⟩
  go_wp2_with fail
  all_goals go_returns
  all_goals refine ⟨rfl, ?_⟩
  all_goals repeat (first | exact Gr.refl _ | refine Gr.alloc ?_ _ _ | refine Gr.drewN ?_ _ | refine Gr.drew ?_)

theorem wusual (b : Int) (s : Bool) (c : Int) (t : Bool) (w : World) (L : Laid w) :
    Calls Tryd.prog 21 #[.agg #[.int .i64 b, .bool s], .agg #[.int .i64 c, .bool t]] w fun e w' => e = .returned (.agg #[.int .i64 (Wd.ub b s c t), .bool (Wd.us b s c t)]) ∧ Gr w w' := by
  unfold Wd.ub Wd.us
  cases hb : Wd.may b
  · exact wusual_nob b s c t hb w L
  cases hc : Wd.may c
  · exact wusual_noc b s c t hb hc w L
  simp only [Bool.and_true, if_true]
  by_cases h1 : Wd.pb b < Wd.pb c
  · rw [if_pos h1, if_pos h1]
    exact wusual_lt b s c t _ _ _ _ h1 hb hc rfl rfl rfl rfl w L
  rw [if_neg h1, if_neg h1]
  by_cases h2 : Wd.pb c < Wd.pb b
  · rw [if_pos h2]
    exact wusual_gt b s c t _ _ _ _ h2 hb hc rfl rfl rfl rfl w L
  rw [if_neg h2]
  have he : Wd.pb c = Wd.pb b := by omega
  cases hs : Wd.ps b s <;> cases ht : Wd.ps c t
  · exact wusual_eqff b s c t _ hb hc rfl he hs ht w L
  · exact wusual_eqft b s c t _ hb hc rfl he hs ht w L
  · exact wusual_eqtf b s c t _ hb hc rfl he hs ht w L
  · exact wusual_eqtt b s c t _ hb hc rfl he hs ht w L

end Go.Proofs.YtkjhdanfbmdmlaaDoor
