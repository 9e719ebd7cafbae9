/- What Form tells of a function's instructions. -/
import Derived.Test.YtpjilcfmcbapcaaDoorLvSets
import Derived.Test.YtpjilcfmcbapcaaDoorIrForm3
namespace Go.Proofs.YtpjilcfmcbapcaaDoor
open Go.RowKit
set_option linter.unusedVariables false
set_option linter.unusedSimpArgs false

def bls (f : Fx) : List (List Ix) := f.bl.map (·.l)
theorem formRow_get {r : Int} {n : Nat} {l : List Ix} (h : formRow r n l = true) {k : Nat} {x : Ix} (hx : l[k]? = some x) : x.formOk r n (decide (k + 1 = l.length)) = true := by
  cases e : x.formOk r n (decide (k + 1 = l.length)) with
  | true => rfl
  | false => rw [formRow_false r n l k x hx e] at h; cases h
theorem fit_of {R : Nat} {x : Ix} (h : x.regsOk (R : Int) = true) : Fit R x := by
  unfold Ix.regsOk at h
  rw [Bool.and_eq_true, Bool.and_eq_true, Bool.and_eq_true] at h
  obtain ⟨⟨⟨h1, h2⟩, h3⟩, h4⟩ := h
  have has : ∀ r : Int, hasReg (R : Int) r = true → 0 ≤ r ∧ r.toNat < R := fun r hr => by
    unfold hasReg at hr
    rw [Bool.and_eq_true, decide_eq_true_eq, decide_eq_true_eq] at hr
    omega
  refine ⟨fun r hr => ?_, fun hd => ?_⟩
  · unfold Ix.uses at hr
    rw [List.mem_append, List.mem_append] at hr
    rcases hr with (hr | hr) | hr
    · cases ha : readsAI x.op x.a with
      | false => rw [ha] at hr; simp at hr
      | true =>
        rw [ha] at hr h1
        simp at hr h1
        rw [hr]; exact has _ h1
    · cases ha : readsBI x.op with
      | false => rw [ha] at hr; simp at hr
      | true =>
        rw [ha] at hr h2
        simp at hr h2
        rw [hr]; exact has _ h2
    · cases ha : callsI x.op with
      | false => rw [ha] at hr; simp at hr
      | true =>
        rw [ha] at hr h4
        simp only [if_true] at hr
        rw [Bool.not_true, Bool.false_or, List.all_eq_true] at h4
        exact has _ (h4 r hr)
  · unfold defI at hd ⊢
    cases ha : writesI x.op x.d with
    | false => rw [ha] at hd; simp at hd
    | true =>
      rw [ha] at h3
      simp at h3
      rw [if_pos rfl]
      exact (has _ h3).2
theorem form_block {f : Fx} (h : f.formOk = true) {b : Bx} (hb : b ∈ f.bl) : b.l ≠ [] ∧ formRow f.regs f.bn b.l = true := by
  unfold Fx.formOk at h
  rw [Bool.and_eq_true] at h
  have h2 := (List.all_eq_true.1 h.2) b hb
  rw [Bool.and_eq_true] at h2
  refine ⟨fun e => ?_, h2.2⟩
  rw [e] at h2; simp at h2
theorem form_fit {f : Fx} {R : Nat} (h : f.formOk = true) (hR : f.regs = (R : Int)) {b : Bx} (hb : b ∈ f.bl) {x : Ix} (hx : x ∈ b.l) : Fit R x := by
  obtain ⟨k, hk⟩ := List.getElem?_of_mem hx
  have h1 := formRow_get (form_block h hb).2 hk
  rw [hR] at h1
  unfold Ix.formOk at h1
  rw [Bool.and_eq_true, Bool.and_eq_true] at h1
  exact fit_of h1.1.2
theorem form_to {f : Fx} (h : f.formOk = true) {b : Bx} (hb : b ∈ f.bl) : ∀ z ∈ lastTo b.l, 0 ≤ z ∧ z < (f.bn : Int) := by
  intro z hz
  unfold lastTo at hz
  cases e : b.l.getLast? with
  | none => rw [e] at hz; cases hz
  | some x =>
    rw [e] at hz
    simp only at hz
    rw [List.getLast?_eq_getElem?] at e
    have h1 := formRow_get (form_block h hb).2 e
    unfold Ix.formOk at h1
    rw [Bool.and_eq_true] at h1
    have h2 := h1.2
    unfold Ix.leadsOk at h2
    unfold toI at hz
    split at hz
    · rename_i ho
      have hm : ∃ c, x.many = some c := by
        unfold Ix.many
        rcases ho with ho | ho | ho <;> rw [ho] <;> simp
      obtain ⟨c, hc⟩ := hm
      rw [hc] at h2
      simp only at h2
      rw [Bool.and_eq_true, List.all_eq_true] at h2
      have h3 := h2.2 z hz
      rw [Bool.and_eq_true, decide_eq_true_eq, decide_eq_true_eq] at h3
      exact h3
    · cases hz
theorem bls_len (f : Fx) : (bls f).length = f.bl.length := by unfold bls; rw [List.length_map]
theorem blk_get {f : Fx} {b : Nat} {B : Bx} (h : f.bl[b]? = some B) : blk (bls f) b = B.l := by
  unfold blk bls
  rw [List.getD_eq_getElem?_getD, List.getElem?_map, h]; rfl
theorem lastTo_get {l : List Ix} {x : Ix} (h : l[l.length - 1]? = some x) : lastTo l = toI x := by
  unfold lastTo; rw [List.getLast?_eq_getElem?, h]
end Go.Proofs.YtpjilcfmcbapcaaDoor
