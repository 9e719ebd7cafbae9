/- word.Text and the document's own Text. -/
import Derived.Test.YtkjhdanfbmdmlaaDoorWordMayX
namespace Go.Proofs.YtkjhdanfbmdmlaaDoor
open Go.RowKit
set_option linter.unusedVariables false
set_option linter.unusedSimpArgs false

def Wd.text (b : Int) (s : Bool) : ByteArray :=
  if b = 8 then (if s then ⟨#[105, 56]⟩ else ⟨#[117, 56]⟩)
  else if b = 16 then (if s then ⟨#[105, 49, 54]⟩ else ⟨#[117, 49, 54]⟩)
  else if b = 32 then (if s then ⟨#[105, 51, 50]⟩ else ⟨#[117, 51, 50]⟩)
  else if b = 64 then (if s then ⟨#[105, 54, 52]⟩ else ⟨#[117, 54, 52]⟩) else ⟨#[]⟩
theorem rs {v : Value} {a b : ByteArray} (hv : v = .string a) (h : a = b) : Ending.returned v = .returned (.string b) := by rw [hv, h]

set_option maxRecDepth 100000 in
set_option maxHeartbeats 1000000 in
theorem wtext_8true (w : World) (L : Laid w) :
    Calls Tryd.prog 25 #[.agg #[.int .i64 8, .bool true]] w fun e w' => e = .returned (.string (Wd.text 8 true)) ∧ Gr w w' := by
  have HL := Lib.hid L
  clear L
  have hm : Wd.may 8 = true := by decide
  have HM := Lib.hid hm
  clear hm
  go_enter Tryd.func25, Tryd.ntmps25
  go_wp2_with fail
  refine (may_xas 8 true true HM _ (HL.out.gr ((Gr.refl _).alloc _ _))).mono ?_
  rintro e w1 ⟨rfl, n1, rfl⟩
  go_wp2
  all_goals go_returns
  all_goals refine ⟨rs rfl ?_, ?_⟩
  all_goals first | rfl | (repeat (first | exact Gr.refl _ | refine Gr.alloc ?_ _ _ | refine Gr.drewN ?_ _ | refine Gr.drew ?_))

set_option maxRecDepth 100000 in
set_option maxHeartbeats 1000000 in
theorem wtext_8false (w : World) (L : Laid w) :
    Calls Tryd.prog 25 #[.agg #[.int .i64 8, .bool false]] w fun e w' => e = .returned (.string (Wd.text 8 false)) ∧ Gr w w' := by
  have HL := Lib.hid L
  clear L
  have hm : Wd.may 8 = true := by decide
  have HM := Lib.hid hm
  clear hm
  go_enter Tryd.func25, Tryd.ntmps25
  go_wp2_with fail
  refine (may_xas 8 false true HM _ (HL.out.gr ((Gr.refl _).alloc _ _))).mono ?_
  rintro e w1 ⟨rfl, n1, rfl⟩
  go_wp2
  all_goals go_returns
  all_goals refine ⟨rs rfl ?_, ?_⟩
  all_goals first | rfl | (repeat (first | exact Gr.refl _ | refine Gr.alloc ?_ _ _ | refine Gr.drewN ?_ _ | refine Gr.drew ?_))

set_option maxRecDepth 100000 in
set_option maxHeartbeats 1000000 in
theorem wtext_16true (w : World) (L : Laid w) :
    Calls Tryd.prog 25 #[.agg #[.int .i64 16, .bool true]] w fun e w' => e = .returned (.string (Wd.text 16 true)) ∧ Gr w w' := by
  have HL := Lib.hid L
  clear L
  have hm : Wd.may 16 = true := by decide
  have HM := Lib.hid hm
  clear hm
  go_enter Tryd.func25, Tryd.ntmps25
  go_wp2_with fail
  refine (may_xas 16 true true HM _ (HL.out.gr ((Gr.refl _).alloc _ _))).mono ?_
  rintro e w1 ⟨rfl, n1, rfl⟩
  go_wp2
  all_goals go_returns
  all_goals refine ⟨rs rfl ?_, ?_⟩
  all_goals first | rfl | (repeat (first | exact Gr.refl _ | refine Gr.alloc ?_ _ _ | refine Gr.drewN ?_ _ | refine Gr.drew ?_))

set_option maxRecDepth 100000 in
set_option maxHeartbeats 1000000 in
theorem wtext_16false (w : World) (L : Laid w) :
    Calls Tryd.prog 25 #[.agg #[.int .i64 16, .bool false]] w fun e w' => e = .returned (.string (Wd.text 16 false)) ∧ Gr w w' := by
  have HL := Lib.hid L
  clear L
  have hm : Wd.may 16 = true := by decide
  have HM := Lib.hid hm
  clear hm
  go_enter Tryd.func25, Tryd.ntmps25
  go_wp2_with fail
  refine (may_xas 16 false true HM _ (HL.out.gr ((Gr.refl _).alloc _ _))).mono ?_
  rintro e w1 ⟨rfl, n1, rfl⟩
  go_wp2
  all_goals go_returns
  all_goals refine ⟨rs rfl ?_, ?_⟩
  all_goals first | rfl | (repeat (first | exact Gr.refl _ | refine Gr.alloc ?_ _ _ | refine Gr.drewN ?_ _ | refine Gr.drew ?_))

set_option maxRecDepth 100000 in
set_option maxHeartbeats 1000000 in
theorem wtext_32true (w : World) (L : Laid w) :
    Calls Tryd.prog 25 #[.agg #[.int .i64 32, .bool true]] w fun e w' => e = .returned (.string (Wd.text 32 true)) ∧ Gr w w' := by
  have HL := Lib.hid L
  clear L
  have hm : Wd.may 32 = true := by decide
  have HM := Lib.hid hm
  clear hm
  go_enter Tryd.func25, Tryd.ntmps25
  go_wp2_with fail
  refine (may_xas 32 true true HM _ (HL.out.gr ((Gr.refl _).alloc _ _))).mono ?_
  rintro e w1 ⟨rfl, n1, rfl⟩
  go_wp2
  all_goals go_returns
  all_goals refine ⟨rs rfl ?_, ?_⟩
  all_goals first | rfl | (repeat (first | exact Gr.refl _ | refine Gr.alloc ?_ _ _ | refine Gr.drewN ?_ _ | refine Gr.drew ?_))

set_option maxRecDepth 100000 in
set_option maxHeartbeats 1000000 in
theorem wtext_32false (w : World) (L : Laid w) :
    Calls Tryd.prog 25 #[.agg #[.int .i64 32, .bool false]] w fun e w' => e = .returned (.string (Wd.text 32 false)) ∧ Gr w w' := by
  have HL := Lib.hid L
  clear L
  have hm : Wd.may 32 = true := by decide
  have HM := Lib.hid hm
  clear hm
  go_enter Tryd.func25, Tryd.ntmps25
  go_wp2_with fail
  refine (may_xas 32 false true HM _ (HL.out.gr ((Gr.refl _).alloc _ _))).mono ?_
  rintro e w1 ⟨rfl, n1, rfl⟩
  go_wp2
  all_goals go_returns
  all_goals refine ⟨rs rfl ?_, ?_⟩
  all_goals first | rfl | (repeat (first | exact Gr.refl _ | refine Gr.alloc ?_ _ _ | refine Gr.drewN ?_ _ | refine Gr.drew ?_))

set_option maxRecDepth 100000 in
set_option maxHeartbeats 1000000 in
theorem wtext_64true (w : World) (L : Laid w) :
    Calls Tryd.prog 25 #[.agg #[.int .i64 64, .bool true]] w fun e w' => e = .returned (.string (Wd.text 64 true)) ∧ Gr w w' := by
  have HL := Lib.hid L
  clear L
  have hm : Wd.may 64 = true := by decide
  have HM := Lib.hid hm
  clear hm
  go_enter Tryd.func25, Tryd.ntmps25
  go_wp2_with fail
  refine (may_xas 64 true true HM _ (HL.out.gr ((Gr.refl _).alloc _ _))).mono ?_
  rintro e w1 ⟨rfl, n1, rfl⟩
  go_wp2
  all_goals go_returns
  all_goals refine ⟨rs rfl ?_, ?_⟩
  all_goals first | rfl | (repeat (first | exact Gr.refl _ | refine Gr.alloc ?_ _ _ | refine Gr.drewN ?_ _ | refine Gr.drew ?_))

set_option maxRecDepth 100000 in
set_option maxHeartbeats 1000000 in
theorem wtext_64false (w : World) (L : Laid w) :
    Calls Tryd.prog 25 #[.agg #[.int .i64 64, .bool false]] w fun e w' => e = .returned (.string (Wd.text 64 false)) ∧ Gr w w' := by
  have HL := Lib.hid L
  clear L
  have hm : Wd.may 64 = true := by decide
  have HM := Lib.hid hm
  clear hm
  go_enter Tryd.func25, Tryd.ntmps25
  go_wp2_with fail
  refine (may_xas 64 false true HM _ (HL.out.gr ((Gr.refl _).alloc _ _))).mono ?_
  rintro e w1 ⟨rfl, n1, rfl⟩
  go_wp2
  all_goals go_returns
  all_goals refine ⟨rs rfl ?_, ?_⟩
  all_goals first | rfl | (repeat (first | exact Gr.refl _ | refine Gr.alloc ?_ _ _ | refine Gr.drewN ?_ _ | refine Gr.drew ?_))

set_option maxRecDepth 100000 in
set_option maxHeartbeats 1000000 in
theorem wtext_no (b : Int) (s : Bool) (HM : Hid (Wd.may b = false)) (w : World) (L : Laid w) :
    Calls Tryd.prog 25 #[.agg #[.int .i64 b, .bool s]] w fun e w' => e = .returned (.string ⟨#[]⟩) ∧ Gr w w' := by
  have HL := Lib.hid L
  clear L
  go_enter Tryd.func25, Tryd.ntmps25
  go_wp2_with fail
  refine (may_xas b s false HM _ (HL.out.gr ((Gr.refl _).alloc _ _))).mono ?_
  rintro e w1 ⟨rfl, n1, rfl⟩
  go_wp2
  all_goals go_returns
  all_goals refine ⟨rs rfl rfl, ?_⟩
  all_goals (repeat (first | exact Gr.refl _ | refine Gr.alloc ?_ _ _ | refine Gr.drewN ?_ _ | refine Gr.drew ?_))

theorem wtext (b : Int) (s : Bool) (w : World) (L : Laid w) :
    Calls Tryd.prog 25 #[.agg #[.int .i64 b, .bool s]] w fun e w' => e = .returned (.string (Wd.text b s)) ∧ Gr w w' := by
  rcases Wd.may_cases b with h | h | h | h | h
  · subst h; cases s; exact wtext_8false w L; exact wtext_8true w L
  · subst h; cases s; exact wtext_16false w L; exact wtext_16true w L
  · subst h; cases s; exact wtext_32false w L; exact wtext_32true w L
  · subst h; cases s; exact wtext_64false w L; exact wtext_64true w L
  · have e : Wd.text b s = ⟨#[]⟩ := by
      have h' := h
      unfold Wd.may at h'
      simp only [Bool.or_eq_false_iff, beq_eq_false_iff_ne] at h'
      unfold Wd.text
      rw [if_neg h'.1.1.1, if_neg h'.1.1.2, if_neg h'.1.2, if_neg h'.2]
    rw [e]
    exact wtext_no b s h w L

set_option maxRecDepth 100000 in
set_option maxHeartbeats 1000000 in
theorem rtext_8true (w : World)  :
    Calls Tryd.prog 26 #[.agg #[.int .i64 8, .bool true]] w fun e w' => e = .returned (.string (Wd.text 8 true)) ∧ Gr w w' := by
  go_enter Tryd.func26, Tryd.ntmps26
  go_wp2
  all_goals go_returns
  all_goals refine ⟨rs rfl ?_, ?_⟩
  all_goals first | rfl | (repeat (first | exact Gr.refl _ | refine Gr.alloc ?_ _ _ | refine Gr.drewN ?_ _ | refine Gr.drew ?_))

set_option maxRecDepth 100000 in
set_option maxHeartbeats 1000000 in
theorem rtext_8false (w : World)  :
    Calls Tryd.prog 26 #[.agg #[.int .i64 8, .bool false]] w fun e w' => e = .returned (.string (Wd.text 8 false)) ∧ Gr w w' := by
  go_enter Tryd.func26, Tryd.ntmps26
  go_wp2
  all_goals go_returns
  all_goals refine ⟨rs rfl ?_, ?_⟩
  all_goals first | rfl | (repeat (first | exact Gr.refl _ | refine Gr.alloc ?_ _ _ | refine Gr.drewN ?_ _ | refine Gr.drew ?_))

set_option maxRecDepth 100000 in
set_option maxHeartbeats 1000000 in
theorem rtext_16true (w : World)  :
    Calls Tryd.prog 26 #[.agg #[.int .i64 16, .bool true]] w fun e w' => e = .returned (.string (Wd.text 16 true)) ∧ Gr w w' := by
  go_enter Tryd.func26, Tryd.ntmps26
  go_wp2
  all_goals go_returns
  all_goals refine ⟨rs rfl ?_, ?_⟩
  all_goals first | rfl | (repeat (first | exact Gr.refl _ | refine Gr.alloc ?_ _ _ | refine Gr.drewN ?_ _ | refine Gr.drew ?_))

set_option maxRecDepth 100000 in
set_option maxHeartbeats 1000000 in
theorem rtext_16false (w : World)  :
    Calls Tryd.prog 26 #[.agg #[.int .i64 16, .bool false]] w fun e w' => e = .returned (.string (Wd.text 16 false)) ∧ Gr w w' := by
  go_enter Tryd.func26, Tryd.ntmps26
  go_wp2
  all_goals go_returns
  all_goals refine ⟨rs rfl ?_, ?_⟩
  all_goals first | rfl | (repeat (first | exact Gr.refl _ | refine Gr.alloc ?_ _ _ | refine Gr.drewN ?_ _ | refine Gr.drew ?_))

set_option maxRecDepth 100000 in
set_option maxHeartbeats 1000000 in
theorem rtext_32true (w : World)  :
    Calls Tryd.prog 26 #[.agg #[.int .i64 32, .bool true]] w fun e w' => e = .returned (.string (Wd.text 32 true)) ∧ Gr w w' := by
  go_enter Tryd.func26, Tryd.ntmps26
  go_wp2
  all_goals go_returns
  all_goals refine ⟨rs rfl ?_, ?_⟩
  all_goals first | rfl | (repeat (first | exact Gr.refl _ | refine Gr.alloc ?_ _ _ | refine Gr.drewN ?_ _ | refine Gr.drew ?_))

set_option maxRecDepth 100000 in
set_option maxHeartbeats 1000000 in
theorem rtext_32false (w : World)  :
    Calls Tryd.prog 26 #[.agg #[.int .i64 32, .bool false]] w fun e w' => e = .returned (.string (Wd.text 32 false)) ∧ Gr w w' := by
  go_enter Tryd.func26, Tryd.ntmps26
  go_wp2
  all_goals go_returns
  all_goals refine ⟨rs rfl ?_, ?_⟩
  all_goals first | rfl | (repeat (first | exact Gr.refl _ | refine Gr.alloc ?_ _ _ | refine Gr.drewN ?_ _ | refine Gr.drew ?_))

set_option maxRecDepth 100000 in
set_option maxHeartbeats 1000000 in
theorem rtext_64true (w : World)  :
    Calls Tryd.prog 26 #[.agg #[.int .i64 64, .bool true]] w fun e w' => e = .returned (.string (Wd.text 64 true)) ∧ Gr w w' := by
  go_enter Tryd.func26, Tryd.ntmps26
  go_wp2
  all_goals go_returns
  all_goals refine ⟨rs rfl ?_, ?_⟩
  all_goals first | rfl | (repeat (first | exact Gr.refl _ | refine Gr.alloc ?_ _ _ | refine Gr.drewN ?_ _ | refine Gr.drew ?_))

set_option maxRecDepth 100000 in
set_option maxHeartbeats 1000000 in
theorem rtext_64false (w : World)  :
    Calls Tryd.prog 26 #[.agg #[.int .i64 64, .bool false]] w fun e w' => e = .returned (.string (Wd.text 64 false)) ∧ Gr w w' := by
  go_enter Tryd.func26, Tryd.ntmps26
  go_wp2
  all_goals go_returns
  all_goals refine ⟨rs rfl ?_, ?_⟩
  all_goals first | rfl | (repeat (first | exact Gr.refl _ | refine Gr.alloc ?_ _ _ | refine Gr.drewN ?_ _ | refine Gr.drew ?_))

set_option maxRecDepth 100000 in
set_option maxHeartbeats 1000000 in
theorem rtext_no (b : Int) (s : Bool) (HM : Hid (Wd.may b = false)) (w : World)  :
    Calls Tryd.prog 26 #[.agg #[.int .i64 b, .bool s]] w fun e w' => e = .returned (.string ⟨#[]⟩) ∧ Gr w w' := by
  have h := HM.out
  unfold Wd.may at h
  simp only [Bool.or_eq_false_iff] at h
  obtain ⟨⟨⟨e1, e2⟩, e3⟩, e4⟩ := h
  go_enter Tryd.func26, Tryd.ntmps26
  go_wp2
  all_goals go_returns
  all_goals refine ⟨rs rfl rfl, ?_⟩
  all_goals (repeat (first | exact Gr.refl _ | refine Gr.alloc ?_ _ _ | refine Gr.drewN ?_ _ | refine Gr.drew ?_))

theorem rtext (b : Int) (s : Bool) (w : World)  :
    Calls Tryd.prog 26 #[.agg #[.int .i64 b, .bool s]] w fun e w' => e = .returned (.string (Wd.text b s)) ∧ Gr w w' := by
  rcases Wd.may_cases b with h | h | h | h | h
  · subst h; cases s; exact rtext_8false w ; exact rtext_8true w 
  · subst h; cases s; exact rtext_16false w ; exact rtext_16true w 
  · subst h; cases s; exact rtext_32false w ; exact rtext_32true w 
  · subst h; cases s; exact rtext_64false w ; exact rtext_64true w 
  · have e : Wd.text b s = ⟨#[]⟩ := by
      have h' := h
      unfold Wd.may at h'
      simp only [Bool.or_eq_false_iff, beq_eq_false_iff_ne] at h'
      unfold Wd.text
      rw [if_neg h'.1.1.1, if_neg h'.1.1.2, if_neg h'.1.2, if_neg h'.2]
    rw [e]
    exact rtext_no b s h w 

end Go.Proofs.YtkjhdanfbmdmlaaDoor
