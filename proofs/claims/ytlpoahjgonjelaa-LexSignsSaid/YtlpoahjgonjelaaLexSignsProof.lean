/- The law LexSigns returns true for every input of its parameters' types; each argument reads behind the call as it read before. No condition. -/
import Derived.Test.YtlpoahjgonjelaaLexSignsWalk
import Derived.Test.YtlpoahjgonjelaaRows
import Derived.ProofKit
import Derived.OpenShut
import Derived.Test.YtlpoahjgonjelaaBaseP
import Derived.Test.YtlpoahjgonjelaaBaseI
namespace Go.Proofs.Ytlpoahjgonjelaa.lexSigns
open Go.ChangeShapes Go.WideShapes Go.ChangeAt Go.RowKit
set_option linter.unusedVariables false

theorem cells_int : Try.prog.cellsOf 3 = 1 := by kernel_rfl
theorem own : ownKnob Try.prog.godebug = none := by kernel_rfl
set_option maxRecDepth 100000 in
theorem lifted (os : Os) (started : os.Started) (H : Type) (enc : TypeId × Value → H) :
    ReturnsInHanded {} Try.checked os 6 .any (Rows.lexSignsSpec.pre6 enc Try.prog Try.f6 Rows.lexSignsRow.domain false) (Rows.lexSignsSpec.post enc Try.prog Try.f6 false true false false) := by
  refine returnsInHanded_of_change (C := Try.checked) own started (by kernel_rfl) Try.func6
    (ChangeSpec.witness6 (enc := enc) (C := Try.checked) false ⟨#[], #[.slice none 0 0], []⟩ 8 (by kernel_rfl) (by kernel_rfl) (by kernel_rfl) (by kernel_rfl)) ?_
  intro W base args ds gs before hval0 hW hcnd _
  have hval : ∀ (j : Nat) t v, Try.f6.params[j]? = some t → args[j]? = some v → Value.okWide Try.prog W .any base t v := hval0
  have hW' := hW
  obtain ⟨p, q, hA0, hV, rfl, hfz, hnd⟩ := hW
  have hA : DataW.TrodAll enc Try.prog W 0 (fun _ => true) true Try.f6.params.toList args.toList ds p := hA0
  rw [Try.params6] at hA hval
  obtain ⟨v0, vs0, d0, ds0, p0, q0, hargs, rfl, rfl, h0, r0⟩ := trodAll_cons hA
  obtain ⟨rfl, rfl, rfl⟩ := trodAll_nil r0
  obtain rfl : args = #[v0] := by cases args; simp_all
  obtain ⟨rfl, rfl⟩ := trodVars_none hV
  obtain ⟨a0s, len, cap, rfl⟩ := okWide_slice Try.underlying40 (hval 0 40 v0 rfl rfl)
  obtain ⟨fuel, hf⟩ := h0
  clear hA0 hval0
  simp only [List.append_nil] at hW'
  rcases open_ints Try.underlying40 Try.underlying3 cells_int hf with ⟨hcs, hx⟩ | ⟨a, len', cap', zs, hcs, _, hl, hm, hz, hx, hcell, hwz⟩
  · simp [Value.cells] at hcs
    obtain ⟨rfl, rfl, rfl⟩ := hcs
    simp only [Prod.mk.injEq] at hx
    obtain ⟨rfl, rfl⟩ := hx
    refine (lexSigns_walk none 0 0 (fun _ => 0) W (intsIn_nil W)).mono fun e W' ⟨he, hb⟩ => ?_
    subst he
    exact ⟨_, rfl, postKept (qa := []) (qv := []) hW' (by simp) hb (fun _ _ _ => (trodAll_cons_mk (shut_bool Try.underlying4 _) trodAll_mk0)) (ok_one (by kernel_rfl) rfl (okWide_bool_mk Try.underlying4 _)) (fun sp _ => (trodAll_cons_mk (show DataW.Trod enc Try.prog W' 0 sp true 40 (.slice none 0 0) .nil [] from ⟨2, rfl⟩) trodAll_mk0)) (fun _ _ => rfl)⟩
  · simp [Value.cells] at hcs
    obtain ⟨rfl, rfl, rfl⟩ := hcs
    simp only [Prod.mk.injEq] at hx
    obtain ⟨rfl, rfl⟩ := hx
    simp only [if_true] at hz
    refine (lexSigns_walk (some a) len cap (fun i => zs.getD i 0) W (intsIn_some hl hm hz hcell hwz)).mono fun e W' ⟨he, hb⟩ => ?_
    subst he
    exact ⟨_, rfl, postKept (qa := MemPlace.row a zs.length ++ []) (qv := []) hW' (by simp) hb (fun _ _ _ => (trodAll_cons_mk (shut_bool Try.underlying4 _) trodAll_mk0)) (ok_one (by kernel_rfl) rfl (okWide_bool_mk Try.underlying4 _)) (fun sp hsp => (trodAll_cons_mk (ints_again Try.underlying40 Try.underlying3 cells_int hl hm hz hcell hwz hb sp (fun p hp => hsp p (by simpa using hp))) trodAll_mk0)) (fun _ _ => rfl)⟩

theorem over : Rows.LexSignsSaid :=
  OpenClaim.holds_of_wide 6 Try.f6 rfl rfl rfl rfl rfl rfl rfl ⟨rfl, rfl, rfl, rfl, rfl⟩ rfl rfl rfl rfl rfl (by kernel_rfl) Try.func6 (by kernel_rfl)
    (of_decide_eq_true (by kernel_rfl)) (by unfold Func.isWrapper; first | (rw [if_pos (by decide +kernel)]; kernel_rfl) | (rw [if_neg (by decide +kernel)]; exact ⟨rfl, rfl⟩))
    (fun os started H enc _ => lifted os started H enc)
theorem proved : Rows.LexSignsSaid := over
#print axioms proved
end Go.Proofs.Ytlpoahjgonjelaa.lexSigns
