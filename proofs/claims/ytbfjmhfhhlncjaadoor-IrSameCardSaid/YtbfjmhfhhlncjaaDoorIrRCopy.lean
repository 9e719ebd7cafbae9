/- As Mix; operations of E may leave the class wherever they stand: what reads comes ahead of them. -/
import Derived.Deep.Quiet
import Derived.Deep.QuietTactic
import Derived.BigQuiet
import Derived.KernelRfl
import Derived.Test.YtbfjmhfhhlncjaaDoorIrCopyG
namespace Go.Proofs.YtbfjmhfhhlncjaaDoor.MixB
open Go
set_option linter.unusedVariables false
set_option linter.unusedSimpArgs false

def QF : Exit → Act → World → Prop := fun _ _ _ => False
/-- Operations that only read. -/
def pureOp : Op → Bool
  | .move _ | .assign _ | .pick .. | .load .. | .nilCheck _ | .binOp .. | .unOp .. | .convert .. | .fieldAddr .. | .field .. | .indexAddr .. | .index .. | .slice .. | .extract .. | .lookup .. | .build .. => true
  | _ => false
def NoEnter (s : Sem Next) : Prop := ∀ (P : Program) (w w' : World) (f : FuncId) (args : Array Value), s.run P w ≠ .ok (.enter f args) w'
theorem NoEnter.bind {α : Type} {s : Sem α} {k : α → Sem Next} (h : ∀ x, NoEnter (k x)) : NoEnter (s >>= k) := by
  intro P w w' f args
  rw [Sem.run_bind]
  cases s.run P w with
  | ok v w1 => exact h v P w1 w' f args
  | halt x w1 => simp
theorem NoEnter.value (v : Value) : NoEnter (pure (.value v)) := by intro P w w' f args; rw [Sem.run_pure]; simp
theorem NoEnter.panic : NoEnter (runtimePanic .nilDeref) := by
  intro P w w' f args; simp [runtimePanic, go_sem]
theorem NoEnter.unsupported (e : Unsupported) : NoEnter (unsupported e) := by
  intro P w w' f args; simp [go_sem]
theorem pure_noEnter {ρ : Operand → Value} {o : Oper} (h : pureOp o.op = true) : NoEnter (execOp ρ o) := by
  obtain ⟨dst, op, type, pos, after, guard⟩ := o
  cases op <;> first | (cases h; done) | exact NoEnter.bind (fun _ => NoEnter.value _) | exact NoEnter.value _ | skip
  all_goals unfold execOp; simp only
  all_goals repeat' first | exact NoEnter.value _ | exact NoEnter.panic | exact NoEnter.unsupported _ | refine NoEnter.bind (fun _ => ?_) | split
section
variable {P : Program} {md : Region.Mode} {ops : Array Oper} {C : World → Prop} {E : List Nat} {Q : Act → World → Prop}
/-- In every world of the class it yields v, and leaves the world alone. -/
def YieldsC (P : Program) (ops : Array Oper) (C : World → Prop) (o : Oper) (v : Value) (a : Act) : Prop :=
  (Region.wanted o (yielded ops a.tmps) = true ∧ ∀ w, C w → (execOp a.eval o).run P w = .ok (.value v) w ∨ ((execOp a.eval o).run P w = .ok .skip w ∧ v = undef)) ∨
  (Region.wanted o (yielded ops a.tmps) = false ∧ v = undef)
def mixOp (P : Program) (ops : Array Oper) (i : Nat) (K : Act → World → Prop) (a : Act) (w : World) : Prop :=
  match ops[i]? with
  | none => K a w
  | some o => if Region.wanted o (yielded ops a.tmps) then o.wp P a w K QF else K (a.put o.dst undef) w
def wpMix (P : Program) (md : Region.Mode) (ops : Array Oper) (C : World → Prop) (E : List Nat) (Q : Act → World → Prop) : Nat → Array Bool → Act → World → Prop
  | 0, listed, a, w => Region.ready md ops listed = [] ∧ Q a w
  | fuel + 1, listed, a, w =>
    (Region.ready md ops listed = [] → Q a w) ∧
    ∀ i ∈ Region.ready md ops listed, mixOp P ops i (fun a' w' => ((E.contains i = true) ∨ C w') ∧ wpMix P md ops C E Q fuel (listed.setIfInBounds i true) a' w') a w
theorem wp_monoF {o : Oper} {a : Act} {w : World} {K K' : Act → World → Prop} {Q' : Exit → Act → World → Prop} (h : ∀ a w, K a w → K' a w) (hh : o.wp P a w K QF) : o.wp P a w K' Q' := by
  unfold Oper.wp at *
  generalize (execOp a.eval o).run P w = r at *
  cases r with
  | ok n w' =>
    cases n <;> simp only [Oper.upon] at hh ⊢ <;>
      first
        | exact h _ _ hh
        | (refine Calls.mono hh (fun e w'' he => ?_); cases e with
            | returned u => exact h _ _ he
            | panicked c => exact (he : False).elim
            | outgrown => obtain ⟨_, _, hf⟩ := (he : LetsOut QF); exact (hf : False).elim)
        | exact Rows.mono hh (fun _ _ he => h _ _ he)
  | halt x w' => cases x <;> simp only [Oper.upon] at hh ⊢ <;> exact (hh : False).elim
theorem mixOp_mono {i : Nat} {a : Act} {w : World} {K K' : Act → World → Prop} (h : ∀ a w, K a w → K' a w) (hh : mixOp P ops i K a w) : mixOp P ops i K' a w := by
  unfold mixOp at *
  split
  · exact h _ _ (by simpa [*] using hh)
  · rename_i o ho
    simp only [ho] at hh
    split
    · rename_i hw; simp only [hw, if_true] at hh; exact wp_monoF h hh
    · rename_i hw; simp only [hw] at hh; exact h _ _ hh
theorem any_of_mix {Q' : Exit → Act → World → Prop} (hQ : ∀ a w, Q a w → Q' .normal a w) : ∀ (fuel : Nat) (listed : Array Bool) (a : Act) (w : World),
    wpMix P md ops C E Q fuel listed a w → wpAny P md ops Q' fuel listed a w
  | 0, _, _, _, h => ⟨h.1, hQ _ _ h.2⟩
  | fuel + 1, listed, a, w, h => ⟨fun h0 => hQ _ _ (h.1 h0), fun i hi => by
      have h1 := h.2 i hi
      unfold mixOp at h1
      unfold wpOp
      split
      · rename_i ho; simp only [ho] at h1; exact any_of_mix hQ fuel _ _ _ h1.2
      · rename_i o ho
        simp only [ho] at h1
        split
        · rename_i hw; simp only [hw, if_true] at h1; exact .inl (wp_monoF (fun a w h => any_of_mix hQ fuel _ _ _ h.2) h1)
        · rename_i hw; simp only [hw] at h1; exact any_of_mix hQ fuel _ _ _ h1.2⟩
theorem YieldsC.mixOp {i : Nat} {o : Oper} {v : Value} {a : Act} {w : World} (hi : ops[i]? = some o) (hy : YieldsC P ops C o v a) (hC : C w) {K : Act → World → Prop} (h : K (a.put o.dst v) w) : mixOp P ops i K a w := by
  unfold MixB.mixOp
  simp only [hi]
  rcases hy with ⟨hw, hv⟩ | ⟨hw, rfl⟩
  · simp only [hw, if_true]
    rcases hv w hC with e | ⟨e, rfl⟩
    · unfold Oper.wp; rw [e]; exact h
    · unfold Oper.wp; rw [e]; exact h
  · simp only [hw, Bool.false_eq_true, if_false]; exact h
theorem YieldsC.of_same {o : Oper} {v : Value} {a a' : Act} (hy : YieldsC P ops C o v a) (he : execOp a'.eval o = execOp a.eval o)
    (hw : Region.wanted o (yielded ops a'.tmps) = Region.wanted o (yielded ops a.tmps)) : YieldsC P ops C o v a' := by
  unfold YieldsC at *
  rw [he, hw]
  exact hy
theorem mixOp_put {j : Nat} {oi oj : Oper} {v : Value} (hj : ops[j]? = some oj) (hap : oi.apart ops oj = true)
    (hsi : ∀ cs b, oi.op ≠ .select cs b) (hsj : ∀ cs b, oj.op ≠ .select cs b) {K : Act → World → Prop} {a : Act} {w : World}
    (hy : YieldsC P ops C oi v a) (h : mixOp P ops j K (a.put oi.dst v) w) :
    mixOp P ops j (fun a' w' => YieldsC P ops C oi v a' ∧ K (a'.put oi.dst v) w') a w := by
  obtain ⟨h1, h2, h3⟩ := Oper.apart_spec hap
  have keep : ∀ (a : Act), YieldsC P ops C oi v a → ∀ u, YieldsC P ops C oi v (a.put oj.dst u) := fun a hy u =>
    hy.of_same (execOp_put oi hsi a oj.dst u h3) (wanted_put oi a oj.dst u h3)
  have keepD : ∀ d, YieldsC P ops C oi v { a with defers := d :: a.defers } := fun d => hy.of_same rfl rfl
  unfold MixB.mixOp at *
  simp only [hj] at *
  rw [wanted_put oj a oi.dst v h1] at h
  split
  · rename_i hw
    simp only [hw, if_true] at h
    unfold Oper.wp at *
    rw [execOp_put oj hsj a oi.dst v h1] at h
    generalize (execOp a.eval oj).run P w = r at *
    cases r with
    | ok n w' =>
      cases n <;> simp only [Oper.upon] at h ⊢
      case value u => exact ⟨keep a hy u, by rw [← Act.put_comm a v u h2]; exact h⟩
      case skip => exact ⟨keep a hy _, by rw [← Act.put_comm a v undef h2]; exact h⟩
      case defer d =>
        refine ⟨keep _ (keepD d) _, ?_⟩
        rw [← Act.put_comm _ v undef h2, ← Act.put_defers]
        exact h
      case enter f args =>
        refine Calls.mono h fun e w'' he => ?_
        cases e with
        | returned u => exact ⟨keep a hy u, by rw [← Act.put_comm a v u h2]; exact he⟩
        | panicked c => exact he
        | outgrown => exact he
      case row row args => exact Rows.mono h fun u w'' he => ⟨keep a hy u, by rw [← Act.put_comm a v u h2]; exact he⟩
    | halt x w' =>
      cases x <;> simp only [Oper.upon] at h ⊢
      case panic u => exact h
  · rename_i hw
    simp only [hw] at h
    exact ⟨keep a hy _, by rw [← Act.put_comm a v undef h2]; exact h⟩
theorem mix_first {i : Nat} {oi : Oper} {v : Value} (hi : ops[i]? = some oi) (hsel : ∀ (j : Nat) (o : Oper) cs b, ops[j]? = some o → o.op ≠ .select cs b) :
    ∀ (fuel : Nat) (listed : Array Bool) (a : Act) (w : World), C w →
      (∀ j oj, ops[j]? = some oj → j ≠ i → listed.getD j true = false → (∀ e ∈ oj.after, Region.binds md e = true → e.on ≠ i) → oi.apart ops oj = true ∧ E.contains j = false) →
      i ∈ Region.ready md ops listed → YieldsC P ops C oi v a →
      wpMix P md ops C E Q fuel (listed.setIfInBounds i true) (a.put oi.dst v) w → wpMix P md ops C E Q (fuel + 1) listed a w := by
  intro fuel
  induction fuel with
  | zero =>
    intro listed a w hC _ hr hy H
    refine ⟨fun h => (by rw [h] at hr; cases hr), fun j hj => ?_⟩
    by_cases hji : j = i
    · subst hji; exact hy.mixOp hi hC ⟨.inr hC, H⟩
    · have := ready_mono hj hji
      rw [H.1] at this
      cases this
  | succ fuel ih =>
    intro listed a w hC hfree hr hy H
    refine ⟨fun h => (by rw [h] at hr; cases hr), fun j hj => ?_⟩
    by_cases hji : j = i
    · subst hji; exact hy.mixOp hi hC ⟨.inr hC, H⟩
    · have h1 := H.2 j (ready_mono hj hji)
      obtain ⟨hjun, oj, hoj, hall⟩ := mem_ready.1 hj
      have hnot : ∀ e ∈ oj.after, Region.binds md e = true → e.on ≠ i := fun e he hb heq => by
        have h1 := hall e he hb
        have h0 := (mem_ready.1 hr).1
        rw [heq] at h1
        rcases Nat.lt_or_ge i listed.size with h' | h'
        · simp [h'] at h0 h1; rw [h0] at h1; cases h1
        · simp [Array.getElem?_eq_none h'] at h1
      obtain ⟨hap, hE⟩ := hfree j oj hoj hji hjun hnot
      have h2 := mixOp_put hoj hap (fun cs b => hsel i oi cs b hi) (fun cs b => hsel j oj cs b hoj) hy h1
      have hfree' : ∀ k ok, ops[k]? = some ok → k ≠ i → (listed.setIfInBounds j true).getD k true = false →
          (∀ e ∈ ok.after, Region.binds md e = true → e.on ≠ i) → oi.apart ops ok = true ∧ E.contains k = false := fun k ok hk hki hun hno => by
        refine hfree k ok hk hki ?_ hno
        by_cases hjk : j = k
        · subst hjk; exact hjun
        · rw [getD_set_ne true hjk] at hun; exact hun
      refine mixOp_mono (fun a' w' h3 => ?_) h2
      have hC' : C w' := by
        rcases h3.2.1 with e | e
        · rw [hE] at e; cases e
        · exact e
      refine ⟨.inr hC', ih (listed.setIfInBounds j true) a' w' hC' hfree' (ready_mono hr (Ne.symm hji)) h3.1 ?_⟩
      rw [Array.setIfInBounds_comm _ _ hji]
      exact h3.2.2
def pureAt (ops : Array Oper) (i : Nat) : Bool := match ops[i]? with | some o => pureOp o.op | none => false
def freeE (md : Region.Mode) (ops : Array Oper) (E : List Nat) (listed : Array Bool) (i : Nat) : Bool :=
  E.all fun j => j != i && match ops[j]? with
    | some oj => oj.after.any (fun e => Region.binds md e && e.on == i)
    | none => true
def mark : Nat → Nat → Array Bool → Array Bool
  | _, 0, listed => listed
  | k, n + 1, listed => mark (k + 1) n (listed.setIfInBounds k true)
def segB (md : Region.Mode) (ops : Array Oper) (E : List Nat) : Nat → Nat → Array Bool → Bool
  | _, 0, _ => true
  | k, n + 1, listed => pureAt ops k && (Region.ready md ops listed).contains k && Region.free md ops listed k && freeE md ops E listed k && segB md ops E (k + 1) n (listed.setIfInBounds k true)
theorem yieldsC_of_quiet {o : Oper} {a : Act} {K : Act → Prop} (hp : pureOp o.op = true)
    (h : if Region.wanted o (yielded ops a.tmps) then o.quiet P a C K else K (a.put o.dst undef)) : ∃ v, YieldsC P ops C o v a ∧ K (a.put o.dst v) := by
  by_cases hw : Region.wanted o (yielded ops a.tmps) = true
  · rw [if_pos hw] at h
    obtain ⟨v, h1, h2⟩ := h
    refine ⟨v, .inl ⟨hw, fun w hC => ?_⟩, h2⟩
    have h3 := h1 w hC
    unfold Oper.quietAt at h3
    have hne := pure_noEnter (ρ := a.eval) hp P w
    generalize (execOp a.eval o).run P w = r at *
    cases r with
    | ok n w' =>
      cases n <;> simp only [Oper.quietUpon] at h3
      case value u => obtain ⟨rfl, rfl⟩ := h3; exact .inl rfl
      case skip => obtain ⟨rfl, rfl⟩ := h3; exact .inr ⟨rfl, rfl⟩
      case enter f args => exact absurd rfl (hne w' f args)
    | halt x w' => simp only [Oper.quietUpon] at h3
  · rw [if_neg hw] at h
    exact ⟨undef, .inr ⟨by simpa using hw, rfl⟩, h⟩
theorem seg_go (hs : Region.noSelect ops = true) : ∀ (l : List Oper) (k : Nat) (listed : Array Bool) (a : Act) (w : World) (fuel : Nat), (∀ j, j < l.length → l[j]? = ops[k + j]?) →
    segB md ops E k l.length listed = true → C w → wpQuiet P ops C (fun a' => wpMix P md ops C E Q fuel (mark k l.length listed) a' w) l a → wpMix P md ops C E Q (fuel + l.length) listed a w
  | [], k, listed, a, w, fuel, _, _, _, h => h
  | o :: l, k, listed, a, w, fuel, hl, hB, hC, h => by
    have h0 : ops[k]? = some o := by simpa using (hl 0 (by simp)).symm
    simp only [List.length_cons, segB, Bool.and_eq_true] at hB
    obtain ⟨⟨⟨⟨hp, hr⟩, hf⟩, hE⟩, hB'⟩ := hB
    have hp' : pureOp o.op = true := by unfold pureAt at hp; rw [h0] at hp; exact hp
    obtain ⟨v, hy, hK⟩ := yieldsC_of_quiet hp' h
    have := seg_go hs l (k + 1) (listed.setIfInBounds k true) (a.put o.dst v) w fuel (fun j hj => by have := hl (j + 1) (by simpa using hj); simpa [Nat.add_assoc, Nat.add_comm 1 j] using this) hB' hC hK
    refine mix_first (C := C) h0 (Region.noSelect_spec hs) (fuel + l.length) listed a w hC (fun j oj hj hne hun hno => ⟨Region.free_spec h0 hf j oj hj hne hun hno, ?_⟩) (by simpa using hr) hy this
    cases hc : E.contains j with
    | false => rfl
    | true =>
      exfalso
      have h1 := List.all_eq_true.1 hE j (by simpa using hc)
      simp only [hj, Bool.and_eq_true] at h1
      obtain ⟨e, he, hb⟩ := Array.any_eq_true'.1 h1.2
      simp only [Bool.and_eq_true, beq_iff_eq] at hb
      exact hno e he hb.1 hb.2
end
section
variable {P : Program} {md : Region.Mode} {l : List Oper} {C : World → Prop} {E : List Nat} {Q : Act → World → Prop} {F : Nat} {listed : Array Bool} {a : Act} {w : World}
/-- So many reading operations, one behind the other in the text, are taken now. -/
theorem mix_seg (k n fuel : Nat) (hs : Region.noSelect l.toArray = true) (hB : segB md l.toArray E k n listed = true) (hn : ((l.drop k).take n).length = n) (hF : F = fuel + n) (hC : C w)
    (h : wpQuiet P l.toArray C (fun a' => wpMix P md l.toArray C E Q fuel (mark k n listed) a' w) ((l.drop k).take n) a) : wpMix P md l.toArray C E Q F listed a w := by
  subst hF
  have := seg_go (P := P) (md := md) (ops := l.toArray) (C := C) (E := E) (Q := Q) hs ((l.drop k).take n) k listed a w fuel (fun j hj => by
    rw [hn] at hj
    rw [List.getElem?_take, if_pos hj, List.getElem?_drop]; simp) (by rw [hn]; exact hB) hC (by rw [hn]; exact h)
  rwa [hn] at this
/-- What is asked behind an operation that makes or writes memory. -/
def MixPost (P : Program) (md : Region.Mode) (ops : Array Oper) (C : World → Prop) (E : List Nat) (Q : Act → World → Prop) (fuel i : Nat) (listed : Array Bool) : Exit → Act → World → Prop
  | .normal, a, w => ((E.contains i = true) ∨ C w) ∧ wpMix P md ops C E Q fuel (listed.setIfInBounds i true) a w
  | _, _, _ => False
theorem mixOp_of_list {i : Nat} {o : Oper} {fuel : Nat} (hi : l[i]? = some o) (h : wpList P l.toArray (MixPost P md l.toArray C E Q fuel i listed) [o] a w) :
    mixOp P l.toArray i (fun a' w' => ((E.contains i = true) ∨ C w') ∧ wpMix P md l.toArray C E Q fuel (listed.setIfInBounds i true) a' w') a w := by
  unfold mixOp
  rw [show l.toArray[i]? = some o by simpa using hi]
  simp only
  unfold wpList at h
  split
  · rename_i hw
    rw [if_pos hw] at h
    rcases h with h | ⟨_, _, _, h⟩
    · have hm : ∀ a w, wpList P l.toArray (MixPost P md l.toArray C E Q fuel i listed) [] a w → ((E.contains i = true) ∨ C w) ∧ wpMix P md l.toArray C E Q fuel (listed.setIfInBounds i true) a w := fun a w h => h
      unfold Oper.wp at *
      generalize (execOp a.eval o).run P w = r at *
      cases r with
      | ok n w' =>
        cases n <;> simp only [Oper.upon] at h ⊢ <;>
          first
            | exact hm _ _ h
            | (refine Calls.mono h (fun e w'' he => ?_); cases e with
                | returned u => exact hm _ _ he
                | panicked c => exact (he : False).elim
                | outgrown => obtain ⟨_, _, hf⟩ := he; exact (hf : False).elim)
            | exact Rows.mono h (fun _ _ he => hm _ _ he)
      | halt x w' => cases x <;> simp only [Oper.upon] at h ⊢ <;> exact (h : False).elim
    · exact (h : False).elim
  · rename_i hw
    rw [if_neg hw] at h
    exact h
theorem one_take {α : Type} {l : List α} {j : Nat} (hj : j < l.length) : (l.drop j).take 1 = [l[j]] := by rw [List.drop_eq_getElem_cons hj, List.take_succ_cons, List.take_zero]
/-- The one operation that can come up now. -/
theorem mix_one (i fuel : Nat) (hr : Region.ready md l.toArray listed = [i]) (hF : F = fuel + 1) (hn : ((l.drop i).take 1).length = 1)
    (h : wpList P l.toArray (MixPost P md l.toArray C E Q fuel i listed) ((l.drop i).take 1) a w) : wpMix P md l.toArray C E Q F listed a w := by
  subst hF
  refine ⟨fun h0 => (by rw [hr] at h0; cases h0), fun j hj => ?_⟩
  rw [hr] at hj
  obtain rfl : j = i := by simpa using hj
  have hj : j < l.length := by simp at hn; omega
  exact mixOp_of_list (o := l[j]) (List.getElem?_eq_getElem hj) (by rw [← one_take hj]; exact h)
/-- The two that can. -/
theorem mix_two (i j fuel : Nat) (hr : Region.ready md l.toArray listed = [i, j]) (hF : F = fuel + 1) (hn : ((l.drop i).take 1).length = 1) (hm : ((l.drop j).take 1).length = 1)
    (h : wpList P l.toArray (MixPost P md l.toArray C E Q fuel i listed) ((l.drop i).take 1) a w)
    (h' : wpList P l.toArray (MixPost P md l.toArray C E Q fuel j listed) ((l.drop j).take 1) a w) : wpMix P md l.toArray C E Q F listed a w := by
  subst hF
  refine ⟨fun h0 => (by rw [hr] at h0; cases h0), fun k hk => ?_⟩
  rw [hr] at hk
  simp only [List.mem_cons, List.not_mem_nil, or_false] at hk
  rcases hk with rfl | rfl
  · have hj : k < l.length := by simp at hn; omega
    exact mixOp_of_list (o := l[k]) (List.getElem?_eq_getElem hj) (by rw [← one_take hj]; exact h)
  · have hj : k < l.length := by simp at hm; omega
    exact mixOp_of_list (o := l[k]) (List.getElem?_eq_getElem hj) (by rw [← one_take hj]; exact h')
theorem mix_end (hr : Region.ready md l.toArray listed = []) (h : Q a w) : wpMix P md l.toArray C E Q 0 listed a w := ⟨hr, h⟩
end
/-- A region that draws: E: operations that are the last, and may leave the class. -/
theorem wp_region_mix {P : Program} {id : Nat} {Q : Exit → Act → World → Prop} {a : Act} {w : World} {l : List Oper} (C : World → Prop) (E : List Nat) (hm : P.follows .mixedOrders = true)
    (h : wpMix P .any l.toArray C E (fun a' w' => Q .normal a' w') l.length (Array.replicate l.length false) a w.drew) : (Code.region id l.toArray true).wp P Q a w :=
  wp_region_any hm (any_of_mix (C := C) (E := E) (Q := fun a' w' => Q .normal a' w') (fun _ _ h => h) _ _ _ _ (by simpa using h))
end Go.Proofs.YtbfjmhfhhlncjaaDoor.MixB
/- The document's copies of instructions. -/
namespace Go.Proofs.YtbfjmhfhhlncjaaDoor
open Go.RowKit
set_option linter.unusedVariables false
set_option linter.unusedSimpArgs false

set_option maxRecDepth 100000 in
set_option maxHeartbeats 12800000 in
theorem rcopyIns_any (x : Ix) (w : World) (hx : IxOk w x) (hs : SmallIx x) : Calls Tryd.prog 57 #[ia x] w (CopyIx x w) := by
  have HX := Lib.hid hx
  have HS := Lib.hid hs
  have hs1 := hs.1
  have hs2 := hs.2.1
  have hs3 := hs.2.2
  obtain ⟨x', hx'⟩ : ∃ x', x = x' := ⟨_, rfl⟩
  have HXX := Lib.hid hx'
  obtain ⟨op, sub, d, a, bb, n, wb, ws, ⟨a1, n1, c1, l1⟩, ⟨a2, n2, c2, l2⟩, ⟨a3, n3, c3, l3⟩⟩ := x
  simp only at hs1 hs2 hs3
  rw [hx'] at HX HS ⊢
  rw [← hx']
  dsimp only [ia, Sl.v]
  rw [hx']
  have hX := HX.out
  rw [← hx'] at hX
  have HA1 := Lib.hid hX.args
  have HA2 := Lib.hid hX.to
  have HA3 := Lib.hid hX.cases_
  dsimp only at HA1 HA2 HA3
  clear hx hs hx' hX
  obtain ⟨B, hB⟩ : ∃ B, w.heap.size = B := ⟨_, rfl⟩
  have HB := Lib.hid hB
  have hat : ∀ (s : Sl) (W : World), SlAt w s → Keeps No w W → 0 < s.n → ∃ b off, s.a = some ⟨b, off, none⟩ ∧ ∀ (j : Nat) z, s.l[j]? = some z → W.cell? ⟨b, off + j, none⟩ = some (.int .i64 z) := fun s W h hk hn => by
    obtain ⟨b, off, e, hc⟩ := h.at_ hn
    exact ⟨b, off, e, fun j z hz => hk.cell0 (hc j z hz)⟩
  have HAT := Lib.hid hat
  clear hat hB
  go_enter Tryd.func57, Tryd.ntmps57
  go_wp2_with fail
  obtain ⟨g, hg⟩ : ∃ g, w.heap.size = g := ⟨_, rfl⟩
  obtain ⟨w1, hw1⟩ : ∃ W, (w.alloc (.cells #[.int .i64 op, .int .i64 sub, .int .i64 d, .int .i64 a, .int .i64 bb, .int .i64 n, .int .i64 wb, .bool ws, .slice a1 n1 c1, .slice a2 n2 c2, .slice a3 n3 c3] 27)).alloc (.cells #[.int .i64 0, .int .i64 0, .int .i64 0, .int .i64 0, .int .i64 0, .int .i64 0, .int .i64 0, .bool false, .slice none 0 0, .slice none 0 0, .slice none 0 0] 27) = W := ⟨_, rfl⟩
  have hr0 : w1.heap[g]? = some (.cells #[.int .i64 op, .int .i64 sub, .int .i64 d, .int .i64 a, .int .i64 bb, .int .i64 n, .int .i64 wb, .bool ws, .slice a1 n1 c1, .slice a2 n2 c2, .slice a3 n3 c3] 27 (0, 0)) := by
    rw [← hw1, Below.heap_alloc _ _ _ (by simp; omega), ← hg]; exact heap_alloc_new _ _
  have hq0 : w1.heap[g + 1]? = some (.cells #[.int .i64 0, .int .i64 0, .int .i64 0, .int .i64 0, .int .i64 0, .int .i64 0, .int .i64 0, .bool false, .slice none 0 0, .slice none 0 0, .slice none 0 0] 27 (0, 0)) := by
    rw [← hw1, ← hg]
    exact (by simpa using heap_alloc_new (w.alloc (.cells #[.int .i64 op, .int .i64 sub, .int .i64 d, .int .i64 a, .int .i64 bb, .int .i64 n, .int .i64 wb, .bool ws, .slice a1 n1 c1, .slice a2 n2 c2, .slice a3 n3 c3] 27)) (.cells #[.int .i64 0, .int .i64 0, .int .i64 0, .int .i64 0, .int .i64 0, .int .i64 0, .int .i64 0, .bool false, .slice none 0 0, .slice none 0 0, .slice none 0 0] 27))
  have hk1 : Keeps No w w1 := by rw [← hw1]; exact ((Keeps.refl No w).alloc _).alloc _
  have hs1' : g + 2 ≤ w1.heap.size := by rw [← hw1]; simp; omega
  rw [hw1]
  simp only [hg]
  have HR0 := Lib.hid hr0
  have HQ0 := Lib.hid hq0
  have HK1 := Lib.hid hk1
  have HG := Lib.hid hg
  have HSZ := Lib.hid hs1'
  have n0 : ∀ u : KS No w1, u.W.cell? ⟨g, 8, none⟩ = some (.slice a1 n1 c1) := fun u => u.cell (by rw [cell_of_row w1 g 8 _ _ _ hr0]; rfl) (fun e => e)
  have n1' : ∀ u : KS No w1, u.W.cell? ⟨g, 9, none⟩ = some (.slice a2 n2 c2) := fun u => u.cell (by rw [cell_of_row w1 g 9 _ _ _ hr0]; rfl) (fun e => e)
  have n2' : ∀ u : KS No w1, u.W.cell? ⟨g, 10, none⟩ = some (.slice a3 n3 c3) := fun u => u.cell (by rw [cell_of_row w1 g 10 _ _ _ hr0]; rfl) (fun e => e)
  have hne : Nonempty (KS No w1) := ⟨⟨w1, Keeps.refl _ _⟩⟩
  clear hr0 hq0 hk1 hw1 hg hs1'
  refine MixB.wp_region_mix (fun W => ∃ u : KS No w1, W = u.W) [10, 11, 12, 13, 14] (by kernel_rfl) ?_
  have HKD : Hid (Keeps No w1 w1.drew) := Lib.hid ((Keeps.refl _ w1).drew)
  generalize w1.drew = wd at HKD ⊢
  refine MixB.mix_seg 0 2 13 (by kernel_rfl) (by kernel_rfl) rfl rfl ⟨⟨wd, HKD.out⟩, rfl⟩ ?_
  simp only [List.drop_succ_cons, List.drop_zero, List.take_succ_cons, List.take_zero]
  repeat (go_big_quiet_step (fail))
  refine wpQuiet_nil ?_
  refine MixB.mix_seg 3 2 11 (by kernel_rfl) (by kernel_rfl) rfl rfl ⟨⟨wd, HKD.out⟩, rfl⟩ ?_
  simp only [List.drop_succ_cons, List.drop_zero, List.take_succ_cons, List.take_zero]
  repeat (go_big_quiet_step (fail))
  refine wpQuiet_nil ?_
  refine MixB.mix_seg 6 2 9 (by kernel_rfl) (by kernel_rfl) rfl rfl ⟨⟨wd, HKD.out⟩, rfl⟩ ?_
  simp only [List.drop_succ_cons, List.drop_zero, List.take_succ_cons, List.take_zero]
  repeat (go_big_quiet_step (fail))
  refine wpQuiet_nil ?_
  refine MixB.mix_one 2 8 (by kernel_rfl) rfl rfl ?_
  simp only [List.drop_succ_cons, List.drop_zero, List.take_succ_cons, List.take_zero]
  go_wp2_with (first | (at_builtin; refine wpList_appNil _ rfl _ (.tmp 4) 24 3 rfl Tryd.underlying24 infoI n1 c1 l1 a1 rfl rfl HA1.out.len hs1 (HAT.out _ _ HA1.out (HK1.out.trans HKD.out (fun _ _ e => e))) ?_))
  intro va1 ca1 w2 ho1 hk1
  have HO1 := Lib.hid ho1
  have HKW2 : Hid (Keeps No w w2) := Lib.hid ((HK1.out.trans HKD.out (fun _ _ e => e)).trans hk1 (fun _ _ e => e))
  have HKV2 : Hid (Keeps No w1 w2) := Lib.hid (HKD.out.trans hk1 (fun _ _ e => e))
  have HKS2 : Hid (Keeps No wd w2) := Lib.hid hk1
  clear ho1 hk1
  go_wp2_with fail
  refine ⟨.inr ⟨⟨w2, HKV2.out⟩, rfl⟩, ?_⟩
  refine MixB.mix_seg 9 1 7 (by kernel_rfl) (by kernel_rfl) rfl rfl ⟨⟨w2, HKV2.out⟩, rfl⟩ ?_
  simp only [List.drop_succ_cons, List.drop_zero, List.take_succ_cons, List.take_zero]
  repeat (go_big_quiet_step (fail))
  refine wpQuiet_nil ?_
  clear n0 n1' n2' hne
  refine MixB.mix_one 5 6 (by kernel_rfl) rfl rfl ?_
  simp only [List.drop_succ_cons, List.drop_zero, List.take_succ_cons, List.take_zero]
  go_wp2_with (first | (at_builtin; refine wpList_appNil _ rfl _ (.tmp 7) 24 3 rfl Tryd.underlying24 infoI n2 c2 l2 a2 rfl rfl HA2.out.len hs2 (HAT.out _ _ HA2.out (HKW2.out)) ?_))
  intro va2 ca2 w3 ho2 hk2
  have HO2 := Lib.hid ho2
  have HKW3 : Hid (Keeps No w w3) := Lib.hid ((HKW2.out).trans hk2 (fun _ _ e => e))
  have HKV3 : Hid (Keeps No w1 w3) := Lib.hid (HKV2.out.trans hk2 (fun _ _ e => e))
  have HKS3 : Hid (Keeps No w2 w3) := Lib.hid hk2
  clear ho2 hk2
  go_wp2_with fail
  refine ⟨.inr ⟨⟨w3, HKV3.out⟩, rfl⟩, ?_⟩
  refine MixB.mix_one 8 5 (by kernel_rfl) rfl rfl ?_
  simp only [List.drop_succ_cons, List.drop_zero, List.take_succ_cons, List.take_zero]
  go_wp2_with (first | (at_builtin; refine wpList_appNil _ rfl _ (.tmp 10) 25 2 rfl Tryd.underlying25 infoI64 n3 c3 l3 a3 rfl rfl HA3.out.len hs3 (HAT.out _ _ HA3.out (HKW3.out)) ?_))
  intro va3 ca3 w4 ho3 hk3
  have HO3 := Lib.hid ho3
  have HKW4 : Hid (Keeps No w w4) := Lib.hid ((HKW3.out).trans hk3 (fun _ _ e => e))
  have HKV4 : Hid (Keeps No w1 w4) := Lib.hid (HKV3.out.trans hk3 (fun _ _ e => e))
  have HKS4 : Hid (Keeps No w3 w4) := Lib.hid hk3
  clear ho3 hk3
  go_wp2_with fail
  refine ⟨.inr ⟨⟨w4, HKV4.out⟩, rfl⟩, ?_⟩
  have hr4 : w4.heap[g]? = some (.cells #[.int .i64 op, .int .i64 sub, .int .i64 d, .int .i64 a, .int .i64 bb, .int .i64 n, .int .i64 wb, .bool ws, .slice a1 n1 c1, .slice a2 n2 c2, .slice a3 n3 c3] 27 (0, 0)) := (HKV4.out.block g (by have := HSZ.out; omega) (fun e => e)).trans HR0.out
  have hq4 : w4.heap[g + 1]? = some (.cells #[.int .i64 0, .int .i64 0, .int .i64 0, .int .i64 0, .int .i64 0, .int .i64 0, .int .i64 0, .bool false, .slice none 0 0, .slice none 0 0, .slice none 0 0] 27 (0, 0)) := (HKV4.out.block (g + 1) (by have := HSZ.out; omega) (fun e => e)).trans HQ0.out
  have HQ4 := Lib.hid hq4
  have HR4 := Lib.hid hr4
  have c8 : w4.cell? ⟨g, 8, none⟩ = some (.slice a1 n1 c1) := by rw [cell_of_row w4 g 8 _ _ _ hr4]; rfl
  have c9 : w4.cell? ⟨g, 9, none⟩ = some (.slice a2 n2 c2) := by rw [cell_of_row w4 g 9 _ _ _ hr4]; rfl
  have c10 : w4.cell? ⟨g, 10, none⟩ = some (.slice a3 n3 c3) := by rw [cell_of_row w4 g 10 _ _ _ hr4]; rfl
  have f8 : w4.frozen? ⟨g, 8, none⟩ = false := frozen_of_row w4 g 8 _ _ hr4
  have f9 : w4.frozen? ⟨g, 9, none⟩ = false := frozen_of_row w4 g 9 _ _ hr4
  have f10 : w4.frozen? ⟨g, 10, none⟩ = false := frozen_of_row w4 g 10 _ _ hr4
  clear hr4 hq4
  refine MixB.mix_one 10 4 (by kernel_rfl) rfl rfl ?_
  simp only [List.drop_succ_cons, List.drop_zero, List.take_succ_cons, List.take_zero]
  go_wp2_with fail
  refine ⟨.inl rfl, ?_⟩
  refine MixB.mix_one 11 3 (by kernel_rfl) rfl rfl ?_
  simp only [List.drop_succ_cons, List.drop_zero, List.take_succ_cons, List.take_zero]
  go_wp2_with fail
  refine ⟨.inl rfl, ?_⟩
  refine MixB.mix_one 12 2 (by kernel_rfl) rfl rfl ?_
  simp only [List.drop_succ_cons, List.drop_zero, List.take_succ_cons, List.take_zero]
  go_wp2_with fail
  refine ⟨.inl rfl, ?_⟩
  refine MixB.mix_one 13 1 (by kernel_rfl) rfl rfl ?_
  simp only [List.drop_succ_cons, List.drop_zero, List.take_succ_cons, List.take_zero]
  go_wp2_with fail
  refine ⟨.inl rfl, ?_⟩
  refine MixB.mix_one 14 0 (by kernel_rfl) rfl rfl ?_
  simp only [List.drop_succ_cons, List.drop_zero, List.take_succ_cons, List.take_zero]
  go_wp2_with fail
  refine ⟨.inl rfl, ?_⟩
  refine MixB.mix_end (by kernel_rfl) ?_
  obtain ⟨w5, hw5⟩ : ∃ W, ((w4.setCell ⟨g, 8, none⟩ (.slice va1 n1 ca1)).setCell ⟨g, 9, none⟩ (.slice va2 n2 ca2)).setCell ⟨g, 10, none⟩ (.slice va3 n3 ca3) = W := ⟨_, rfl⟩
  have hk5 : Keeps (fun q => q = g) w4 w5 := by rw [← hw5]; exact (((Keeps.refl (fun q => q = g) w4).setCell (.inl rfl) _).setCell (.inl rfl) _).setCell (.inl rfl) _
  have hr5 : w5.heap[g]? = some (.cells #[.int .i64 op, .int .i64 sub, .int .i64 d, .int .i64 a, .int .i64 bb, .int .i64 n, .int .i64 wb, .bool ws, .slice va1 n1 ca1, .slice va2 n2 ca2, .slice va3 n3 ca3] 27 (0, 0)) := by
    have k1 : (w4.setCell ⟨g, 8, none⟩ (.slice va1 n1 ca1)).heap[g]? = some (.cells #[.int .i64 op, .int .i64 sub, .int .i64 d, .int .i64 a, .int .i64 bb, .int .i64 n, .int .i64 wb, .bool ws, .slice va1 n1 ca1, .slice a2 n2 c2, .slice a3 n3 c3] 27 (0, 0)) := by rw [heap_setCell_same w4 g 8 _ _ _ HR4.out]; rfl
    have k2 : ((w4.setCell ⟨g, 8, none⟩ (.slice va1 n1 ca1)).setCell ⟨g, 9, none⟩ (.slice va2 n2 ca2)).heap[g]? = some (.cells #[.int .i64 op, .int .i64 sub, .int .i64 d, .int .i64 a, .int .i64 bb, .int .i64 n, .int .i64 wb, .bool ws, .slice va1 n1 ca1, .slice va2 n2 ca2, .slice a3 n3 c3] 27 (0, 0)) := by rw [heap_setCell_same _ g 9 _ _ _ k1]; rfl
    rw [← hw5, heap_setCell_same _ g 10 _ _ _ k2]; rfl
  have hq5 : w5.heap[g + 1]? = some (.cells #[.int .i64 0, .int .i64 0, .int .i64 0, .int .i64 0, .int .i64 0, .int .i64 0, .int .i64 0, .bool false, .slice none 0 0, .slice none 0 0, .slice none 0 0] 27 (0, 0)) := (hk5.block (g + 1) (Array.getElem?_eq_some_iff.1 HQ4.out).1 (by omega)).trans HQ4.out
  have HQ5 := Lib.hid hq5
  have HK5 := Lib.hid hk5
  rw [hw5]
  clear c8 c9 c10 f8 f9 f10 hw5 hk5 hq5
  have d0 : w5.cell? ⟨g, 0, none⟩ = some (.int .i64 op) := by rw [cell_of_row w5 g 0 _ _ _ hr5]; rfl
  have d1 : w5.cell? ⟨g, 1, none⟩ = some (.int .i64 sub) := by rw [cell_of_row w5 g 1 _ _ _ hr5]; rfl
  have d2 : w5.cell? ⟨g, 2, none⟩ = some (.int .i64 d) := by rw [cell_of_row w5 g 2 _ _ _ hr5]; rfl
  have d3 : w5.cell? ⟨g, 3, none⟩ = some (.int .i64 a) := by rw [cell_of_row w5 g 3 _ _ _ hr5]; rfl
  have d4 : w5.cell? ⟨g, 4, none⟩ = some (.int .i64 bb) := by rw [cell_of_row w5 g 4 _ _ _ hr5]; rfl
  have d5 : w5.cell? ⟨g, 5, none⟩ = some (.int .i64 n) := by rw [cell_of_row w5 g 5 _ _ _ hr5]; rfl
  have d6 : w5.cell? ⟨g, 6, none⟩ = some (.int .i64 wb) := by rw [cell_of_row w5 g 6 _ _ _ hr5]; rfl
  have d7 : w5.cell? ⟨g, 7, none⟩ = some (.bool ws) := by rw [cell_of_row w5 g 7 _ _ _ hr5]; rfl
  have d8 : w5.cell? ⟨g, 8, none⟩ = some (.slice va1 n1 ca1) := by rw [cell_of_row w5 g 8 _ _ _ hr5]; rfl
  have d9 : w5.cell? ⟨g, 9, none⟩ = some (.slice va2 n2 ca2) := by rw [cell_of_row w5 g 9 _ _ _ hr5]; rfl
  have d10 : w5.cell? ⟨g, 10, none⟩ = some (.slice va3 n3 ca3) := by rw [cell_of_row w5 g 10 _ _ _ hr5]; rfl
  clear hr5
  go_wp2_with (first | (refine wpList_store_row rfl _ _ _ rfl (g + 1) #[.int .i64 op, .int .i64 sub, .int .i64 d, .int .i64 a, .int .i64 bb, .int .i64 n, .int .i64 wb, .bool ws, .slice va1 n1 ca1, .slice va2 n2 ca2, .slice va3 n3 ca3] rfl rfl _ _ HQ5.out infoIns rfl (by simp [Value.oneCell']) ?_))
  obtain ⟨w6, hw6⟩ : ∃ W, w5.setRow (g + 1) #[.int .i64 op, .int .i64 sub, .int .i64 d, .int .i64 a, .int .i64 bb, .int .i64 n, .int .i64 wb, .bool ws, .slice va1 n1 ca1, .slice va2 n2 ca2, .slice va3 n3 ca3] = W := ⟨_, rfl⟩
  have hrc : ∀ j, w6.cell? ⟨g + 1, j, none⟩ = (#[.int .i64 op, .int .i64 sub, .int .i64 d, .int .i64 a, .int .i64 bb, .int .i64 n, .int .i64 wb, .bool ws, .slice va1 n1 ca1, .slice va2 n2 ca2, .slice va3 n3 ca3] : Array Value)[j]? := fun j => by
    rw [← hw6, cell_of_row _ (g + 1) j _ _ _ (setRow_heap w5 (g + 1) _ #[.int .i64 op, .int .i64 sub, .int .i64 d, .int .i64 a, .int .i64 bb, .int .i64 n, .int .i64 wb, .bool ws, .slice va1 n1 ca1, .slice va2 n2 ca2, .slice va3 n3 ca3] _ _ HQ5.out)]
  have hk6 : Keeps (fun q => q = g + 1) w5 w6 := by rw [← hw6]; exact (Keeps.refl (fun q => q = g + 1) w5).setRow (.inl rfl) _
  have hkm : Keeps (fun q => q = g ∨ q = g + 1) w4 w6 := (HK5.out.mono (fun _ _ e => .inl e)).trans hk6 (fun _ _ e => .inr e)
  have hkw : Keeps No w w6 := HKW4.out.trans hkm (fun q hq e => by rw [HG.out] at hq; omega)
  have h2 := HKS2.out.size
  have h3 := HKS3.out.size
  have h1 := HKD.out.size
  have hz := HSZ.out
  have hn1 : ∀ q, (Value.slice va1 n1 ca1).ownBlock = some q → ¬ (q = g ∨ q = g + 1) := fun q hq => by have := (HO1.out.lt q hq).1; omega
  have hn2 : ∀ q, (Value.slice va2 n2 ca2).ownBlock = some q → ¬ (q = g ∨ q = g + 1) := fun q hq => by have := (HO2.out.lt q hq).1; omega
  have hn3 : ∀ q, (Value.slice va3 n3 ca3).ownBlock = some q → ¬ (q = g ∨ q = g + 1) := fun q hq => by have := (HO3.out.lt q hq).1; omega
  have ho1 : OSl w6 g 3 ⟨va1, n1, ca1, l1⟩ := ⟨own_mono (keeps_row (keeps_row (keeps_row HO1.out HKS3.out (fun _ _ e => e)) HKS4.out (fun _ _ e => e)) hkm hn1) (by omega), HA1.out.len⟩
  have ho2 : OSl w6 g 3 ⟨va2, n2, ca2, l2⟩ := ⟨own_mono (keeps_row (keeps_row HO2.out HKS4.out (fun _ _ e => e)) hkm hn2) (by omega), HA2.out.len⟩
  have ho3 : OSl w6 g 2 ⟨va3, n3, ca3, l3⟩ := ⟨own_mono (keeps_row HO3.out hkm hn3) (by omega), HA3.out.len⟩
  have hX := HX.out
  have hS := HS.out
  have hXX := HXX.out
  rw [← HXX.out] at hX hS
  rw [hw6]
  refine bodyPost_ret (v := .agg #[.int .i64 op, .int .i64 sub, .int .i64 d, .int .i64 a, .int .i64 bb, .int .i64 n, .int .i64 wb, .bool ws, .slice va1 n1 ca1, .slice va2 n2 ca2, .slice va3 n3 ca3]) ?_ ?_ ?_
  · simp [results, Tryd.results57, go_sem, hrc]
  · rfl
  unfold CopyIx
  refine ⟨⟨op, sub, d, a, bb, n, wb, ws, ⟨va1, n1, ca1, l1⟩, ⟨va2, n2, ca2, l2⟩, ⟨va3, n3, ca3, l3⟩⟩, rfl, ?_, hS, ?_, ?_, hkw⟩
  · rw [← HXX.out]; exact decide_eq_true ⟨rfl, rfl, rfl, rfl, rfl, rfl, rfl, rfl, rfl, rfl, rfl⟩
  · exact ⟨hX.op, hX.sub, hX.d, hX.a, hX.b, hX.n, hX.wb, ho1.at_ hX.args.bd, ho2.at_ hX.to.bd, ho3.at_ hX.cases_.bd⟩
  · rw [HG.out]; exact ⟨ho1, ho2, ho3⟩
end Go.Proofs.YtbfjmhfhhlncjaaDoor
/- The document's copies of blocks. -/
namespace Go.Proofs.YtbfjmhfhhlncjaaDoor
open Go.RowKit
set_option linter.unusedVariables false
set_option linter.unusedSimpArgs false

theorem infoInsL : (Tryd.prog.info? 27).map (fun i => (i.zero, i.size, i.bytes)) = some (some (.agg #[.int .i64 0, .int .i64 0, .int .i64 0, .int .i64 0, .int .i64 0, .int .i64 0, .int .i64 0, .bool false, .slice none 0 0, .slice none 0 0, .slice none 0 0]), 11, 136) := by kernel_rfl
set_option maxRecDepth 100000 in
set_option maxHeartbeats 12800000 in
theorem rcopyBlock_any (b : Bx) (w : World) (hb : BxAt w b) (hs : SmallBx b) : Calls Tryd.prog 39 #[.agg #[b.v]] w (CopyBx b w) := by
  have HB := Lib.hid hb
  have HS := Lib.hid hs
  have hn := hs.1
  have hcap := hb.cap
  unfold maxLen at hcap
  obtain ⟨bn, hbn⟩ : ∃ q, b.n = q := ⟨_, rfl⟩
  obtain ⟨ba, hba⟩ : ∃ q, b.a = q := ⟨_, rfl⟩
  obtain ⟨bc, hbc⟩ : ∃ q, b.cap = q := ⟨_, rfl⟩
  unfold Bx.v
  rw [hbn, hba, hbc]
  rw [hbn] at hn hcap
  rw [hbc] at hcap
  have HBN := Lib.hid (And.intro hbn hba)
  obtain ⟨ti, hi, hz0, hz1, hz2⟩ := info_parts infoInsL
  have HI := Lib.hid (And.intro hi (And.intro hz0 (And.intro hz1 hz2)))
  obtain ⟨B0, hB0⟩ : ∃ q, w.heap.size = q := ⟨_, rfl⟩
  have HB0 := Lib.hid hB0
  clear hb hs hbn hba hbc hi hz0 hz1 hz2 hB0
  go_enter Tryd.func39, Tryd.ntmps39
  go_wp2_with fail
  obtain ⟨w1, hw1⟩ : ∃ W, (w.alloc (.cells #[.slice ba bn bc] 45)).alloc (.cells #[.slice none 0 0] 45) = W := ⟨_, rfl⟩
  have hk1 : Keeps No w w1 := by rw [← hw1]; exact ((Keeps.refl No w).alloc _).alloc _
  have hr0 : w1.heap[B0]? = some (.cells #[.slice ba bn bc] 45 (0, 0)) := by
    rw [← HB0.out, ← hw1, Below.heap_alloc _ _ _ (by simp)]; exact heap_alloc_new _ _
  have hq0 : w1.heap[B0 + 1]? = some (.cells #[.slice none 0 0] 45 (0, 0)) := by
    rw [← HB0.out, ← hw1]
    exact (by simpa using heap_alloc_new (w.alloc (.cells #[.slice ba bn bc] 45)) (.cells #[.slice none 0 0] 45))
  rw [hw1]
  simp only [HB0.out]
  have HK1 := Lib.hid hk1
  have HRR := Lib.hid (And.intro hr0 hq0)
  have c0 : w1.cell? ⟨B0, 0, none⟩ = some (.slice ba bn bc) := by rw [cell_of_row w1 B0 0 _ _ _ hr0]; rfl
  clear hw1 hk1 hr0 hq0
  go_loopg [3, 4] bn (fun gg u v wr => ∃ (i : Nat) (ys : List Ix) (va : Option Addr) (ca : Nat), u = .slice va i ca ∧ v = .int .i64 (i : Int) ∧ i ≤ bn ∧ gg = bn - i ∧ wr.cell? ⟨B0, 0, none⟩ = some (.slice ba bn bc) ∧ Hid (ys.length = i ∧ sameRow Ix.same (b.l.take i) ys = true ∧ (∀ y ∈ ys, SmallIx y ∧ IxB y ∧ OIx wr B0 y)) ∧ Hid (wr.ownsRow B0 27 11 (.slice va i ca) i (ys.flatMap Ix.cells)) ∧ Hid (Keeps No w wr) ∧ Hid (wr.heap[B0]? = some (.cells #[.slice ba bn bc] 45 (0, 0)) ∧ wr.heap[B0 + 1]? = some (.cells #[.slice none 0 0] 45 (0, 0))))
  case atStart => exact ⟨0, [], none, 0, rfl, rfl, Nat.zero_le _, rfl, c0, Lib.hid ⟨rfl, rfl, fun y hy => by cases hy⟩, Lib.hid (World.ownsRow_nil _ _ _ _), HK1, HRR⟩
  case round =>
    clear c0
    obtain ⟨i, ys, va, ca, rfl, rfl, hi, hg, c0, HYS, HOW, HK, HQ⟩ := hrel
    by_cases hlt : i < bn
    · have hlt' : (i : Int) < (bn : Int) := by omega
      have ip0 : (0 : Int) ≤ (i : Int) := by omega
      obtain ⟨xb, xo, x, hx, hxa, hxt, hxo⟩ := Bx.get HB.out (i := i) (by rw [HBN.out.1]; exact hlt)
      obtain rfl := HBN.out.2.symm.trans hxa
      have x0 := HK.out.cell0 (hxt 0 _ rfl)
      have x1 := HK.out.cell0 (hxt 1 _ rfl)
      have x2 := HK.out.cell0 (hxt 2 _ rfl)
      have x3 := HK.out.cell0 (hxt 3 _ rfl)
      have x4 := HK.out.cell0 (hxt 4 _ rfl)
      have x5 := HK.out.cell0 (hxt 5 _ rfl)
      have x6 := HK.out.cell0 (hxt 6 _ rfl)
      have x7 := HK.out.cell0 (hxt 7 _ rfl)
      have x8 := HK.out.cell0 (hxt 8 _ rfl)
      have x9 := HK.out.cell0 (hxt 9 _ rfl)
      have x10 := HK.out.cell0 (hxt 10 _ rfl)
      rw [Nat.add_zero] at x0
      have HC := Lib.hid (fun (W : World) (hk : Keeps No w W) => rcopyIns_any x W (hxo.no hk) (HS.out.2 x (List.mem_of_getElem? hx)))
      have HX := Lib.hid hx
      clear hx hxa hxt hxo
      go_wp2_with fail
      refine (HC.out _ HK.out).mono ?_
      rintro e w2 ⟨y, rfl, hxy, hsy, hyo, hyO, hk2⟩
      have hks : B0 ≤ wr.heap.size := by rw [← HB0.out]; exact HK.out.size
      have HK2 := Lib.hid (HK.out.trans hk2 (fun _ _ e => e))
      have HO2 := Lib.hid (keeps_row HOW.out hk2 (fun _ _ e => e))
      have HQ2 : Hid (w2.heap[B0]? = some (.cells #[.slice (some ⟨xb, xo, none⟩) bn bc] 45 (0, 0)) ∧ w2.heap[B0 + 1]? = some (.cells #[.slice none 0 0] 45 (0, 0))) := Lib.hid ⟨(hk2.block _ (Array.getElem?_eq_some_iff.1 HQ.out.1).1 (fun e => e)).trans HQ.out.1, (hk2.block _ (Array.getElem?_eq_some_iff.1 HQ.out.2).1 (fun e => e)).trans HQ.out.2⟩
      have HY2 : Hid (ys.length = i ∧ sameRow Ix.same (b.l.take i) ys = true ∧ (∀ y ∈ ys, SmallIx y ∧ IxB y ∧ OIx w2 B0 y)) := Lib.hid ⟨HYS.out.1, HYS.out.2.1, fun z hz => ⟨(HYS.out.2.2 z hz).1, (HYS.out.2.2 z hz).2.1, (HYS.out.2.2 z hz).2.2.no hk2⟩⟩
      have HYY : Hid (x.same y = true ∧ SmallIx y ∧ IxB y ∧ OIx w2 B0 y) := Lib.hid ⟨hxy, hsy, hyo.ixb, hyO.mono hks⟩
      have HOA := Lib.hid (fun o : Obj => HO2.out.alloc o)
      have HNW := Lib.hid (news_one w2 y.cells 27)
      have HON := Lib.hid (ix_one y)
      have HBB : Hid (∀ o : Obj, B0 ≤ (w2.alloc o).heap.size) := Lib.hid (fun o => by have := hk2.size; simp; omega)
      have HMX : Hid (i + 1 ≤ maxLen) := Lib.hid (by unfold maxLen; omega)
      clear hxy hsy hyo hyO hk2 x0 x1 x2 x3 x4 x5 x6 x7 x8 x9 x10 HC c0 hks
      go_wp2_with (at_builtin; refine wpList_append_lies _ rfl (.tmp 12) (.tmp 19) 43 rfl B0 27 ti _ 11 136 Tryd.underlying43 HI.out.1 HI.out.2.1 HI.out.2.2.1 HI.out.2.2.2 rfl (by decide) (.slice va i ca) i (ys.flatMap Ix.cells) rfl (HOA.out _) ⟨w2.heap.size, 0, none⟩ 1 1 y.cells rfl rfl HNW.out HON.out (by decide) HMX.out (by omega) (HBB.out _) _ rfl ?_)
      intro g3 c3 w3 ho3 hg3 _ _
      have hka : Keeps No w2 (w2.alloc (.cells #[.int .i64 y.op, .int .i64 y.sub, .int .i64 y.d, .int .i64 y.a, .int .i64 y.b, .int .i64 y.n, .int .i64 y.wb, .bool y.ws, y.args.v, y.to.v, y.cases_.v] 27)) := (Keeps.refl _ _).alloc _
      have hk4 : Keeps (fun q => (Value.slice va i ca).ownBlock = some q) (w2.alloc (.cells #[.int .i64 y.op, .int .i64 y.sub, .int .i64 y.d, .int .i64 y.a, .int .i64 y.b, .int .i64 y.n, .int .i64 y.wb, .bool y.ws, y.args.v, y.to.v, y.cases_.v] 27)) w3 := (Keeps.refl _ _).grown hg3 (fun q e => .inl e)
      have hOA := HOA.out (.cells #[.int .i64 y.op, .int .i64 y.sub, .int .i64 y.d, .int .i64 y.a, .int .i64 y.b, .int .i64 y.n, .int .i64 y.wb, .bool y.ws, y.args.v, y.to.v, y.cases_.v] 27)
      have hcell : ∀ q, (Value.slice va i ca).ownBlock = some q → ∃ cs e, (w2.alloc (.cells #[.int .i64 y.op, .int .i64 y.sub, .int .i64 y.d, .int .i64 y.a, .int .i64 y.b, .int .i64 y.n, .int .i64 y.wb, .bool y.ws, y.args.v, y.to.v, y.cases_.v] 27)).heap[q]? = some (.cells cs e (0, 0)) ∧ e ≠ 3 ∧ e ≠ 2 := fun q e => by
        rcases hOA.2 with ⟨e2, _⟩ | ⟨g', cap, cur, e2, _, hh, _⟩
        · rw [e2] at e; simp [Value.ownBlock] at e
        · rw [e2] at e; simp [Value.ownBlock] at e; subst e; exact ⟨cur, _, hh, by decide, by decide⟩
      have hkp : ∀ (k : Nat) (cs : Array Value), w2.heap[k]? = some (.cells cs 45 (0, 0)) → w3.heap[k]? = some (.cells cs 45 (0, 0)) := fun k cs hc => by
        have hl := (Array.getElem?_eq_some_iff.1 hc).1
        have hA := (hka.block k hl (fun e => e)).trans hc
        rw [hk4.block k (Array.getElem?_eq_some_iff.1 hA).1 (own_ne hOA hA (by decide))]; exact hA
      have HO3 : Hid (w3.ownsRow B0 27 11 (.slice (some ⟨g3, 0, none⟩) (i + 1) c3) (i + 1) ((ys ++ [y]).flatMap Ix.cells)) := Lib.hid (by rw [List.flatMap_append]; simpa using ho3)
      have HK3 : Hid (Keeps No w w3) := Lib.hid ((HK2.out.trans hka (fun _ _ e => e)).trans hk4 (fun q hq e => by have := (hOA.lt q e).1; rw [HB0.out] at hq; omega))
      have hq3 : w3.heap[B0]? = some (.cells #[.slice (some ⟨xb, xo, none⟩) bn bc] 45 (0, 0)) ∧ w3.heap[B0 + 1]? = some (.cells #[.slice none 0 0] 45 (0, 0)) := ⟨hkp _ _ HQ2.out.1, hkp _ _ HQ2.out.2⟩
      have HQ3 := Lib.hid hq3
      have HC3 : Hid (w3.cell? ⟨B0, 0, none⟩ = some (.slice (some ⟨xb, xo, none⟩) bn bc)) := Lib.hid (by rw [cell_of_row _ _ 0 _ _ _ hq3.1]; rfl)
      have HY3 : Hid ((ys ++ [y]).length = i + 1 ∧ sameRow Ix.same (b.l.take (i + 1)) (ys ++ [y]) = true ∧ (∀ z ∈ ys ++ [y], SmallIx z ∧ IxB z ∧ OIx w3 B0 z)) := Lib.hid ⟨by simp [HY2.out.1], row_snoc _ HX.out HY2.out.1 HY2.out.2.1 HYY.out.1, fun z hz => by
        rcases List.mem_append.1 hz with h | h
        · have := HY2.out.2.2 z h; exact ⟨this.1, this.2.1, (this.2.2.no hka).keep hk4 hcell⟩
        · obtain rfl : z = y := by simpa using h
          exact ⟨HYY.out.2.1, HYY.out.2.2.1, (HYY.out.2.2.2.no hka).keep hk4 hcell⟩⟩
      clear ho3 hg3 hka hk4 hcell hOA hkp hq3
      go_wp2_with fail
      go_roundg (bn - (i + 1))
      case rel => exact ⟨i + 1, ys ++ [y], some ⟨g3, 0, none⟩, c3, rfl, by go_num, by omega, rfl, HC3.out, HY3, HO3, HK3, HQ3⟩
      case measure => omega
    · obtain rfl : i = bn := by omega
      have hlt' : ¬ (i : Int) < (i : Int) := by omega
      have q0 : wr.cell? ⟨B0 + 1, 0, none⟩ = some (.slice none 0 0) := by rw [cell_of_row wr _ 0 _ _ _ HQ.out.2]; rfl
      have q1 : wr.frozen? ⟨B0 + 1, 0, none⟩ = false := frozen_of_row wr _ 0 _ _ HQ.out.2
      go_wp2_with fail
      have hr9 := heap_setCell_same wr (B0 + 1) 0 _ _ (.slice va i ca) HQ.out.2
      have hrc : (wr.setCell ⟨B0 + 1, 0, none⟩ (.slice va i ca)).cell? ⟨B0 + 1, 0, none⟩ = some (.slice va i ca) := by rw [cell_of_row _ (B0 + 1) 0 _ _ _ hr9]; rfl
      have hk9 : Keeps (fun q => q = B0 + 1) wr (wr.setCell ⟨B0 + 1, 0, none⟩ (.slice va i ca)) := (Keeps.refl (fun q => q = B0 + 1) wr).setCell (.inl rfl) _
      have hcell : ∀ q, q = B0 + 1 → ∃ cs e, wr.heap[q]? = some (.cells cs e (0, 0)) ∧ e ≠ 3 ∧ e ≠ 2 := fun q e => by subst e; exact ⟨_, _, HQ.out.2, by decide, by decide⟩
      refine bodyPost_ret (v := .agg #[.slice va i ca]) ?_ ?_ ?_
      · simp [results, Tryd.results39, go_sem, hrc]
      · rfl
      · unfold CopyBx
        refine ⟨⟨va, i, ca, ys⟩, rfl, ?_, ⟨by have := HS.out.1; have := HBN.out.1; simp only; omega, fun z hz => (HYS.out.2.2 z hz).1⟩, fun z hz => (HYS.out.2.2 z hz).2.1, ?_, ?_⟩
        · have h := HYS.out.2.1
          rw [List.take_of_length_le (by have := HB.out.len; have := HBN.out.1; omega)] at h
          exact h
        · rw [HB0.out]
          exact ⟨keeps_row HOW.out hk9 (fun q hq e => by subst e; exact own_ne HOW.out HQ.out.2 (by decide) hq), HYS.out.1, fun z hz => (HYS.out.2.2 z hz).2.2.keep hk9 hcell⟩
        · exact HK.out.trans hk9 (fun q hq e => by rw [HB0.out] at hq; omega)
end Go.Proofs.YtbfjmhfhhlncjaaDoor
/- The document's copies of programs. -/
namespace Go.Proofs.YtbfjmhfhhlncjaaDoor
open Go.RowKit
set_option linter.unusedVariables false
set_option linter.unusedSimpArgs false

theorem infoBl : (Tryd.prog.info? 45).map (fun i => (i.zero, i.size, i.bytes)) = some (some (.agg #[.slice none 0 0]), 1, 24) := by kernel_rfl
set_option maxRecDepth 100000 in
set_option maxHeartbeats 12800000 in
theorem rcopy_any (p : Pg) (w : World) (hp : PgOk w p) (hgn : p.gn ≤ 100000) (hgs : ∀ g ∈ p.gl, g.pn ≤ 1000000) (hn : p.fn ≤ 100000) (hs : ∀ f ∈ p.fl, SmallFx f) : Calls Tryd.prog 19 #[pv p] w (CopyPg p w) := by
  have HP := Lib.hid hp
  have HS := Lib.hid hs
  have HGS := Lib.hid hgs
  have hgcap := hp.gcap
  have hcap := hp.fcap
  have hm := hp.main
  unfold maxLen at hcap hgcap
  obtain ⟨ga, hga⟩ : ∃ q, p.ga = q := ⟨_, rfl⟩
  obtain ⟨gn, hgn'⟩ : ∃ q, p.gn = q := ⟨_, rfl⟩
  obtain ⟨gc, hgc⟩ : ∃ q, p.gc = q := ⟨_, rfl⟩
  obtain ⟨fa, hfa⟩ : ∃ q, p.fa = q := ⟨_, rfl⟩
  obtain ⟨fn, hfn⟩ : ∃ q, p.fn = q := ⟨_, rfl⟩
  obtain ⟨fc, hfc⟩ : ∃ q, p.fc = q := ⟨_, rfl⟩
  obtain ⟨mn, hmn⟩ : ∃ q, p.main = q := ⟨_, rfl⟩
  unfold pv
  rw [hga, hgn', hgc, hfa, hfn, hfc, hmn]
  rw [hfn, hfc] at hcap
  rw [hgn', hgc] at hgcap
  rw [hgn'] at hgn
  rw [hfn] at hn
  have HPP := Lib.hid (And.intro hfa (And.intro hfn (And.intro hmn hm)))
  have HPG := Lib.hid (And.intro hga hgn')
  obtain ⟨tg, hi', hz0', hz1', hz2'⟩ := info_parts infoGl
  have HIG := Lib.hid (And.intro hi' (And.intro hz0' (And.intro hz1' hz2')))
  clear hi' hz0' hz1' hz2' hgs
  obtain ⟨ti, hi, hz0, hz1, hz2⟩ := info_parts infoF
  have HI := Lib.hid (And.intro hi (And.intro hz0 (And.intro hz1 hz2)))
  obtain ⟨B0, hB0⟩ : ∃ q, w.heap.size = q := ⟨_, rfl⟩
  have HB0 := Lib.hid hB0
  clear hp hs hga hgc hgn' hfa hfn hfc hmn hm hi hz0 hz1 hz2
  go_enter Tryd.func19, Tryd.ntmps19
  go_wp2_with fail
  obtain ⟨w1, hw1⟩ : ∃ W, (((w.alloc (.cells #[.slice ga gn gc, .slice fa fn fc, .int .i64 mn] 36)).alloc (.cells #[.slice none 0 0, .slice none 0 0, .int .i64 0] 36)).alloc (.cells #[.slice none 0 0, .slice none 0 0, .int .i64 mn] 36)) = W := ⟨_, rfl⟩
  have hk1 : Keeps No w w1 := by rw [← hw1]; exact (((Keeps.refl No w).alloc _).alloc _).alloc _
  have hr0 : w1.heap[B0]? = some (.cells #[.slice ga gn gc, .slice fa fn fc, .int .i64 mn] 36 (0, 0)) := by
    rw [← hw1, ← HB0.out, Below.heap_alloc _ _ _ (by simp; omega), Below.heap_alloc _ _ _ (by simp)]; exact heap_alloc_new _ _
  have hr1 : w1.heap[B0 + 1]? = some (.cells #[.slice none 0 0, .slice none 0 0, .int .i64 0] 36 (0, 0)) := by
    rw [← hw1, ← HB0.out, Below.heap_alloc _ _ _ (by simp)]
    exact (by simpa using heap_alloc_new (w.alloc (.cells #[.slice ga gn gc, .slice fa fn fc, .int .i64 mn] 36)) (.cells #[.slice none 0 0, .slice none 0 0, .int .i64 0] 36))
  have hr2 : w1.heap[B0 + 2]? = some (.cells #[.slice none 0 0, .slice none 0 0, .int .i64 mn] 36 (0, 0)) := by
    rw [← hw1, ← HB0.out]
    exact (by simpa using heap_alloc_new ((w.alloc (.cells #[.slice ga gn gc, .slice fa fn fc, .int .i64 mn] 36)).alloc (.cells #[.slice none 0 0, .slice none 0 0, .int .i64 0] 36)) (.cells #[.slice none 0 0, .slice none 0 0, .int .i64 mn] 36))
  rw [hw1]
  have HK1 := Lib.hid hk1
  have HR := Lib.hid (And.intro hr0 (And.intro hr1 hr2))
  have c1 : w1.cell? ⟨B0, 0, none⟩ = some (.slice ga gn gc) := by rw [cell_of_row w1 B0 0 _ _ _ hr0]; rfl
  clear hw1 hk1 hr0 hr1 hr2
  have HA : Hid (∀ (W : World), Keeps No w W → ∀ (i : Nat), i < gn → ∃ xb xo, ∃ z : Gx, p.gl[i]? = some z ∧ ga = some ⟨xb, xo, none⟩ ∧ W.cell? ⟨xb, xo + i * 3, none⟩ = some (.string z.name) ∧ W.cell? ⟨xb, xo + i * 3 + 1, none⟩ = some (.int .i64 z.size) ∧ W.cell? ⟨xb, xo + i * 3 + 2, none⟩ = some (.slice z.pa z.pn z.pc) ∧ GxOk w z) := Lib.hid (fun W hk i hi => by
    obtain ⟨b, off, e, hc⟩ := HP.out.gat (by rw [HPG.out.2]; omega)
    obtain ⟨z, hz⟩ : ∃ z, p.gl[i]? = some z := ⟨_, List.getElem?_eq_getElem (by rw [HP.out.glen, HPG.out.2]; exact hi)⟩
    exact ⟨b, off, z, hz, HPG.out.1.symm.trans e, hk.cell0 (hc i z hz 0 _ rfl), hk.cell0 (hc i z hz 1 _ rfl), hk.cell0 (hc i z hz 2 _ rfl), HP.out.gok z (List.mem_of_getElem? hz)⟩)
  go_loopg [4] gn (fun gg v wr => ∃ (i : Nat) (gs : List Gx) (va : Option Addr) (ca : Nat), v = .int .i64 (i : Int) ∧ i ≤ gn ∧ gg = gn - i ∧ wr.cell? ⟨B0, 0, none⟩ = some (.slice ga gn gc) ∧ Hid (gs.length = i ∧ sameRow Gx.same (p.gl.take i) gs = true ∧ (∀ y ∈ gs, GxB y ∧ OGx wr B0 y)) ∧ Hid (wr.ownsRow B0 49 3 (.slice va i ca) i (gs.flatMap Gx.cells)) ∧ Hid (Keeps No w wr) ∧ Hid (wr.heap[B0]? = some (.cells #[.slice ga gn gc, .slice fa fn fc, .int .i64 mn] 36 (0, 0)) ∧ wr.heap[B0 + 1]? = some (.cells #[.slice none 0 0, .slice none 0 0, .int .i64 0] 36 (0, 0)) ∧ wr.heap[B0 + 2]? = some (.cells #[.slice va i ca, .slice none 0 0, .int .i64 mn] 36 (0, 0))))
  case atStart => exact ⟨0, [], none, 0, rfl, Nat.zero_le _, rfl, c1, Lib.hid ⟨rfl, rfl, fun y hy => by cases hy⟩, Lib.hid (World.ownsRow_nil _ _ _ _), HK1, HR⟩
  case round =>
    obtain ⟨i, gs, va, ca, rfl, hi, hgk, c1', HGS', HOG, HK, HRR⟩ := hrel
    clear c1
    by_cases hlt : i < gn
    · have hlt' : (i : Int) < (gn : Int) := by omega
      have ip0 : (0 : Int) ≤ (i : Int) := by omega
      obtain ⟨xb, xo, z, hz, rfl, x0, x1, x2, hzo⟩ := HA.out wr HK.out i hlt
      have HZ := Lib.hid hz
      have HZO := Lib.hid hzo
      clear hz hzo
      have hka : Keeps No w (wr.alloc (.cells #[.string z.name, .int .i64 z.size, .slice z.pa z.pn z.pc] 49)) := HK.out.alloc _
      have HKA := Lib.hid hka
      have HPC : Hid (PcAt (wr.alloc (.cells #[.string z.name, .int .i64 z.size, .slice z.pa z.pn z.pc] 49)) z.pa z.pn z.pc z.pl) := Lib.hid (PcAt.no ⟨HZO.out.len, HZO.out.cap, HZO.out.at_⟩ hka)
      have HZN : Hid (z.pn ≤ 1000000) := Lib.hid (HGS.out z (List.mem_of_getElem? HZ.out))
      clear hka
      have hB0l : ¬ (B0 = wr.heap.size) := by have := (Array.getElem?_eq_some_iff.1 HRR.out.1).1; omega
      go_wp2_with (first | (at_builtin; refine wpList_appPc _ rfl _ _ rfl z.pn z.pc z.pl z.pa rfl rfl HZN.out HPC.out ?_))
      intro vp cp w5 ho5 hk5
      obtain ⟨gx, hgx⟩ : ∃ q, wr.heap.size = q := ⟨_, rfl⟩
      have hlt5 : B0 + 2 < gx := by rw [← hgx]; exact (Array.getElem?_eq_some_iff.1 HRR.out.2.2).1
      have hw5 : ∀ q, q < gx → w5.heap[q]? = wr.heap[q]? := fun q hq => by rw [hk5.block q (by simp; omega) (fun e => e), Below.heap_alloc _ _ _ (by omega)]
      have hrx : w5.heap[gx]? = some (.cells #[.string z.name, .int .i64 z.size, .slice z.pa z.pn z.pc] 49 (0, 0)) := by
        rw [hk5.block gx (by simp; omega) (fun e => e), ← hgx]; exact heap_alloc_new _ _
      have hs5 : gx + 1 ≤ w5.heap.size := by have := hk5.size; simp at this; omega
      have hkr5 : Keeps No wr w5 := ((Keeps.refl No wr).alloc _).trans hk5 (fun _ _ e => e)
      have HKR5 := Lib.hid hkr5
      have HK5 : Hid (Keeps No w w5) := Lib.hid (HK.out.trans hkr5 (fun _ _ e => e))
      have HOP : Hid (w5.ownsRow (gx + 1) 51 4 (.slice vp z.pn cp) z.pn (z.pl.flatMap Px.cells)) := Lib.hid (by rw [← hgx]; simpa using ho5)
      have HRX := Lib.hid hrx
      have HW5 := Lib.hid hw5
      have HS5 := Lib.hid hs5
      simp only [hgx]
      have k2 : w5.cell? ⟨gx, 2, none⟩ = some (.slice z.pa z.pn z.pc) := by rw [cell_of_row w5 gx 2 _ _ _ hrx]; rfl
      have k1 : w5.cell? ⟨gx, 1, none⟩ = some (.int .i64 z.size) := by rw [cell_of_row w5 gx 1 _ _ _ hrx]; rfl
      have k0 : w5.cell? ⟨gx, 0, none⟩ = some (.string z.name) := by rw [cell_of_row w5 gx 0 _ _ _ hrx]; rfl
      have f2 : w5.frozen? ⟨gx, 2, none⟩ = false := frozen_of_row w5 gx 2 _ _ hrx
      have d0 : w5.cell? ⟨B0 + 1 + 1, 0, none⟩ = some (.slice va i ca) := by rw [show B0 + 1 + 1 = B0 + 2 from rfl, cell_of_row w5 _ 0 _ _ _ ((hw5 _ hlt5).trans HRR.out.2.2)]; rfl
      have hnx : ¬ (B0 + 1 + 1 = gx) := by omega
      have hnx' : ¬ (gx = B0 + 1 + 1) := by omega
      obtain ⟨w6, hw6⟩ : ∃ W, w5.setCell ⟨gx, 2, none⟩ (.slice vp z.pn cp) = W := ⟨_, rfl⟩
      have hk6 : Keeps (fun q => q = gx) w5 w6 := by rw [← hw6]; exact (Keeps.refl (fun q => q = gx) w5).setCell (.inl rfl) _
      have hs6 : w6.heap.size = w5.heap.size := by rw [← hw6]; simp [World.setCell]
      have hnog : ∀ q, (Value.slice va i ca).ownBlock = some q → ¬ q = gx := fun q hq e => by have := (HOG.out.lt q hq).2; omega
      have HNOG := Lib.hid hnog
      have HO6 := Lib.hid (keeps_row (keeps_row HOG.out hkr5 (fun _ _ e => e)) hk6 hnog)
      have HOA : Hid (∀ o : Obj, ((w5.setCell ⟨gx, 2, none⟩ (.slice vp z.pn cp)).alloc o).ownsRow B0 49 3 (.slice va i ca) i (gs.flatMap Gx.cells)) := Lib.hid (fun o => by rw [hw6]; exact HO6.out.alloc o)
      have HOP6 : Hid (OGx w6 B0 (Gx.mk z.name z.size vp z.pn cp z.pl)) := Lib.hid ⟨own_mono (keeps_row HOP.out hk6 (fun q hq e => by have := (HOP.out.lt q hq).1; omega)) (by omega), HZO.out.len⟩
      have hcx : ∀ q, q = gx → ∃ cs e, w5.heap[q]? = some (.cells cs e (0, 0)) ∧ e ≠ 51 := fun q e => by subst e; exact ⟨_, _, HRX.out, by decide⟩
      have HG6 : Hid (gs.length = i ∧ sameRow Gx.same (p.gl.take i) gs = true ∧ (∀ y ∈ gs, GxB y ∧ OGx w6 B0 y)) := Lib.hid ⟨HGS'.out.1, HGS'.out.2.1, fun y hy => ⟨(HGS'.out.2.2 y hy).1, (((HGS'.out.2.2 y hy).2.no hkr5).keep hk6 hcx)⟩⟩
      have HP6 : Hid (∀ q, q < gx → w6.heap[q]? = wr.heap[q]?) := Lib.hid (fun q hq => (hk6.block q (by omega) (by omega)).trans (hw5 q hq))
      have HK6 : Hid (Keeps No w w6) := Lib.hid (by
        have h : Keeps (fun q => q = gx) w5 w6 := hk6
        exact HK5.out.trans h (fun q hq e => by have := HK.out.size; omega))
      have hnw : ∀ (j : Nat) u, (Gx.cells (Gx.mk z.name z.size vp z.pn cp z.pl))[j]? = some u → ((w5.setCell ⟨gx, 2, none⟩ (.slice vp z.pn cp)).alloc (.cells #[.string z.name, .int .i64 z.size, .slice vp z.pn cp] 49)).cell? ((⟨w5.heap.size, 0, none⟩ : Addr).add j) = some u := fun j u hu => by
        rw [hw6, ← hs6]; exact news_one w6 _ 49 j u hu
      have HNW := Lib.hid hnw
      have HBB : Hid (∀ o : Obj, B0 ≤ ((w5.setCell ⟨gx, 2, none⟩ (.slice vp z.pn cp)).alloc o).heap.size) := Lib.hid (fun o => by rw [hw6]; simp; omega)
      have HMX : Hid (i + 1 ≤ maxLen) := Lib.hid (by unfold maxLen; omega)
      have HON := Lib.hid (gx_one (Gx.mk z.name z.size vp z.pn cp z.pl))
      have HW6 := Lib.hid hw6
      have HS6 := Lib.hid hs6
      clear ho5 hk5 hrx hw5 hkr5 x0 x1 x2 hs5 hgx hw6 hk6 hs6 hnog hcx hnw
      go_wp2_with (first | (at_builtin; refine wpList_append_lies _ rfl (.tmp 30) (.tmp 32) 33 rfl B0 49 tg _ 3 48 Tryd.underlying33 HIG.out.1 HIG.out.2.1 HIG.out.2.2.1 HIG.out.2.2.2 rfl (by decide) (.slice va i ca) i (gs.flatMap Gx.cells) rfl (HOA.out _) ⟨w5.heap.size, 0, none⟩ 1 1 (Gx.cells (Gx.mk z.name z.size vp z.pn cp z.pl)) rfl rfl HNW.out HON.out (by decide) HMX.out (by omega) (HBB.out _) _ rfl ?_))
      intro g8 c8 w8 ho8 hg8 _ _
      rw [HW6.out] at hg8
      obtain ⟨wA, hwA⟩ : ∃ W, w6.alloc (.cells #[.string z.name, .int .i64 z.size, .slice vp z.pn cp] 49) = W := ⟨_, rfl⟩
      rw [hwA] at hg8
      have hkA : Keeps No w6 wA := by rw [← hwA]; exact (Keeps.refl _ _).alloc _
      have hOA : wA.ownsRow B0 49 3 (.slice va i ca) i (gs.flatMap Gx.cells) := by rw [← hwA]; exact HO6.out.alloc _
      have hk8 : Keeps (fun q => (Value.slice va i ca).ownBlock = some q) wA w8 := (Keeps.refl _ _).grown hg8 (fun q e => .inl e)
      have hc8 : ∀ q, (Value.slice va i ca).ownBlock = some q → ∃ cs e, wA.heap[q]? = some (.cells cs e (0, 0)) ∧ e ≠ 51 := fun q e => by
        rcases hOA.2 with ⟨e2, _⟩ | ⟨g', cap, cur, e2, _, hh, _⟩
        · rw [e2] at e; simp [Value.ownBlock] at e
        · rw [e2] at e; simp [Value.ownBlock] at e; subst e; exact ⟨cur, _, hh, by decide⟩
      have hP8 : ∀ (k : Nat) (cs : Array Value), k < gx → wr.heap[k]? = some (.cells cs 36 (0, 0)) → w8.heap[k]? = some (.cells cs 36 (0, 0)) := fun k cs hk hc => by
        have h6 := (HP6.out k hk).trans hc
        have hl := (Array.getElem?_eq_some_iff.1 h6).1
        have hA : wA.heap[k]? = some (.cells cs 36 (0, 0)) := (hkA.block k hl (fun e => e)).trans h6
        rw [hk8.block k (Array.getElem?_eq_some_iff.1 hA).1 (own_ne hOA hA (by decide))]; exact hA
      have hR8 : w8.heap[B0]? = some (.cells #[.slice (some ⟨xb, xo, none⟩) gn gc, .slice fa fn fc, .int .i64 mn] 36 (0, 0)) ∧ w8.heap[B0 + 1]? = some (.cells #[.slice none 0 0, .slice none 0 0, .int .i64 0] 36 (0, 0)) ∧ w8.heap[B0 + 2]? = some (.cells #[.slice va i ca, .slice none 0 0, .int .i64 mn] 36 (0, 0)) := ⟨hP8 _ _ (by omega) HRR.out.1, hP8 _ _ (by omega) HRR.out.2.1, hP8 _ _ (by omega) HRR.out.2.2⟩
      have HR8 := Lib.hid hR8
      have HO8 : Hid (w8.ownsRow B0 49 3 (.slice (some ⟨g8, 0, none⟩) (i + 1) c8) (i + 1) ((gs ++ [(Gx.mk z.name z.size vp z.pn cp z.pl)]).flatMap Gx.cells)) := Lib.hid (by rw [List.flatMap_append]; simpa using ho8)
      have HK8 : Hid (Keeps No w w8) := Lib.hid ((HK6.out.trans hkA (fun _ _ e => e)).trans hk8 (fun q hq e => by have := (hOA.lt q e).1; rw [HB0.out] at hq; omega))
      have HG8 : Hid ((gs ++ [(Gx.mk z.name z.size vp z.pn cp z.pl)]).length = i + 1 ∧ sameRow Gx.same (p.gl.take (i + 1)) (gs ++ [(Gx.mk z.name z.size vp z.pn cp z.pl)]) = true ∧ (∀ t ∈ gs ++ [(Gx.mk z.name z.size vp z.pn cp z.pl)], GxB t ∧ OGx w8 B0 t)) := Lib.hid ⟨by simp [HG6.out.1], row_snoc _ HZ.out HG6.out.1 HG6.out.2.1 (gx_same z vp cp), fun t ht => by
        rcases List.mem_append.1 ht with h | h
        · have := HG6.out.2.2 t h; exact ⟨this.1, (this.2.no hkA).keep hk8 hc8⟩
        · obtain rfl : t = (Gx.mk z.name z.size vp z.pn cp z.pl) := by simpa using h
          exact ⟨⟨HZO.out.name, HZO.out.size, HZO.out.ok⟩, (HOP6.out.no hkA).keep hk8 hc8⟩⟩
      have s1 : w8.cell? ⟨B0 + 1 + 1, 0, none⟩ = some (.slice va i ca) := by rw [show B0 + 1 + 1 = B0 + 2 from rfl, cell_of_row w8 _ 0 _ _ _ hR8.2.2]; rfl
      have s2 : w8.frozen? ⟨B0 + 1 + 1, 0, none⟩ = false := frozen_of_row w8 _ 0 _ _ hR8.2.2
      clear k0 k1 k2 f2 d0 ho8 hg8 hwA hkA hOA hk8 hc8 hP8 hR8
      have hk9 : Keeps (fun q => q = B0 + 2) w8 (w8.setCell ⟨B0 + 1 + 1, 0, none⟩ (.slice (some ⟨g8, 0, none⟩) (i + 1) c8)) := (Keeps.refl (fun q => q = B0 + 2) w8).setCell (.inl rfl) _
      have hc9 : ∀ q, q = B0 + 2 → ∃ cs e, w8.heap[q]? = some (.cells cs e (0, 0)) ∧ e ≠ 51 := fun q e => by subst e; exact ⟨_, _, HR8.out.2.2, by decide⟩
      have hr9 : (w8.setCell ⟨B0 + 1 + 1, 0, none⟩ (.slice (some ⟨g8, 0, none⟩) (i + 1) c8)).heap[B0 + 2]? = some (.cells #[.slice (some ⟨g8, 0, none⟩) (i + 1) c8, .slice none 0 0, .int .i64 mn] 36 (0, 0)) := by rw [show B0 + 1 + 1 = B0 + 2 from rfl, heap_setCell_same w8 (B0 + 2) 0 _ _ _ HR8.out.2.2]; rfl
      have HR9 : Hid ((w8.setCell ⟨B0 + 1 + 1, 0, none⟩ (.slice (some ⟨g8, 0, none⟩) (i + 1) c8)).heap[B0]? = some (.cells #[.slice (some ⟨xb, xo, none⟩) gn gc, .slice fa fn fc, .int .i64 mn] 36 (0, 0)) ∧ (w8.setCell ⟨B0 + 1 + 1, 0, none⟩ (.slice (some ⟨g8, 0, none⟩) (i + 1) c8)).heap[B0 + 1]? = some (.cells #[.slice none 0 0, .slice none 0 0, .int .i64 0] 36 (0, 0)) ∧ (w8.setCell ⟨B0 + 1 + 1, 0, none⟩ (.slice (some ⟨g8, 0, none⟩) (i + 1) c8)).heap[B0 + 2]? = some (.cells #[.slice (some ⟨g8, 0, none⟩) (i + 1) c8, .slice none 0 0, .int .i64 mn] 36 (0, 0))) := Lib.hid ⟨(hk9.block _ (Array.getElem?_eq_some_iff.1 HR8.out.1).1 (by omega)).trans HR8.out.1, (hk9.block _ (Array.getElem?_eq_some_iff.1 HR8.out.2.1).1 (by omega)).trans HR8.out.2.1, hr9⟩
      have HO9 := Lib.hid (keeps_row HO8.out hk9 (fun q hq e => by subst e; exact own_ne HO8.out HR8.out.2.2 (by decide) hq))
      have HK9 : Hid (Keeps No w (w8.setCell ⟨B0 + 1 + 1, 0, none⟩ (.slice (some ⟨g8, 0, none⟩) (i + 1) c8))) := Lib.hid (HK8.out.setCell (.inr (by rw [HB0.out]; simp only; omega)) _)
      have HG9 : Hid ((gs ++ [(Gx.mk z.name z.size vp z.pn cp z.pl)]).length = i + 1 ∧ sameRow Gx.same (p.gl.take (i + 1)) (gs ++ [(Gx.mk z.name z.size vp z.pn cp z.pl)]) = true ∧ (∀ t ∈ gs ++ [(Gx.mk z.name z.size vp z.pn cp z.pl)], GxB t ∧ OGx (w8.setCell ⟨B0 + 1 + 1, 0, none⟩ (.slice (some ⟨g8, 0, none⟩) (i + 1) c8)) B0 t)) := Lib.hid ⟨HG8.out.1, HG8.out.2.1, fun t ht => ⟨(HG8.out.2.2 t ht).1, (HG8.out.2.2 t ht).2.keep hk9 hc9⟩⟩
      have HC9 : Hid ((w8.setCell ⟨B0 + 1 + 1, 0, none⟩ (.slice (some ⟨g8, 0, none⟩) (i + 1) c8)).cell? ⟨B0, 0, none⟩ = some (.slice (some ⟨xb, xo, none⟩) gn gc)) := Lib.hid (by rw [cell_of_row _ _ 0 _ _ _ HR9.out.1]; rfl)
      clear hk9 hc9 hr9
      go_wp2_with fail
      go_roundg (gn - (i + 1))
      case rel => exact ⟨i + 1, gs ++ [(Gx.mk z.name z.size vp z.pn cp z.pl)], some ⟨g8, 0, none⟩, c8, by go_num, by omega, rfl, HC9.out, HG9, HO9, HK9, HR9⟩
      case measure => omega
    · obtain rfl : gn = i := by omega
      have hlt' : ¬ (gn : Int) < (gn : Int) := by omega
      have c2 : wr.cell? ⟨B0, 1, none⟩ = some (.slice fa fn fc) := by rw [cell_of_row wr B0 1 _ _ _ HRR.out.1]; rfl
      go_wp2_with fail
      clear hlt' hgk
      obtain ⟨gva, hgva⟩ : ∃ q, va = q := ⟨_, rfl⟩
      obtain ⟨gca, hgca⟩ : ∃ q, ca = q := ⟨_, rfl⟩
      rw [hgva, hgca] at HOG HRR
      clear hgva hgca
      obtain ⟨wg, hwg⟩ : ∃ W, wr = W := ⟨_, rfl⟩
      rw [hwg] at HGS' HOG HK HRR c2 ⊢
      clear hwg c1' wr
      obtain ⟨G, hG⟩ : ∃ q, wg.heap.size = q := ⟨_, rfl⟩
      have HG := Lib.hid hG
      have HBG : Hid (B0 + 2 < G) := Lib.hid (by rw [← hG]; exact (Array.getElem?_eq_some_iff.1 HRR.out.2.2).1)
      clear hG
      obtain ⟨tb, ib, jb0, jb1, jb2⟩ := info_parts infoBl
      have HIB := Lib.hid (And.intro ib (And.intro jb0 (And.intro jb1 jb2)))
      clear ib jb0 jb1 jb2
      go_loopg [6] fn (fun gg v wr => ∃ (i : Nat) (ys : List Fx) (va : Option Addr) (ca : Nat), v = .int .i64 (i : Int) ∧ i ≤ fn ∧ gg = fn - i ∧ wr.cell? ⟨B0, 1, none⟩ = some (.slice fa fn fc) ∧ Hid (ys.length = i ∧ sameRow Fx.same (p.fl.take i) ys = true ∧ (∀ y ∈ ys, SmallFx y ∧ FxB y ∧ OFx wr G y)) ∧ Hid (wr.ownsRow G 42 6 (.slice va i ca) i (ys.flatMap Fx.cells)) ∧ Hid (Keeps (fun q => q = B0 + 2) wg wr) ∧ Hid (wr.heap[B0 + 2]? = some (.cells #[.slice gva gn gca, .slice va i ca, .int .i64 mn] 36 (0, 0))))
      case atStart => exact ⟨0, [], none, 0, rfl, Nat.zero_le _, rfl, c2, Lib.hid ⟨rfl, rfl, fun y hy => by cases hy⟩, Lib.hid (World.ownsRow_nil _ _ _ _), Lib.hid (Keeps.refl _ _), Lib.hid HRR.out.2.2⟩
      case round =>
        clear c2
        obtain ⟨i, ys, va, ca, rfl, hi, hgk, c2, HYS, HOW, HKG, HRO⟩ := hrel
        have HKW : Hid (Keeps No w wr) := Lib.hid (HK.out.trans HKG.out (fun q hq e => by rw [HB0.out] at hq; omega))
        by_cases hlt : i < fn
        · have hlt' : (i : Int) < (fn : Int) := by omega
          have ip0 : (0 : Int) ≤ (i : Int) := by omega
          obtain ⟨xb, xo, z, hz, hza, hzt, hzo⟩ := Pg.fget HP.out (i := i) (by rw [HPP.out.2.1]; exact hlt)
          obtain rfl := HPP.out.1.symm.trans hza
          have x0 := HKW.out.cell0 (hzt 0 _ rfl)
          have x1 := HKW.out.cell0 (hzt 1 _ rfl)
          have x2 := HKW.out.cell0 (hzt 2 _ rfl)
          have x3 := HKW.out.cell0 (hzt 3 _ rfl)
          have x4 := HKW.out.cell0 (hzt 4 _ rfl)
          have x5 := HKW.out.cell0 (hzt 5 _ rfl)
          rw [Nat.add_zero] at x0
          have hzs := HS.out z (List.mem_of_getElem? hz)
          obtain ⟨zn, zp, zr, ⟨sa, sn, sc, sl⟩, ba, bn, bc, bl, zv⟩ := z
          have hsn : sn ≤ 1000000 := hzs.1
          have hbn : bn ≤ 1000000 := hzs.2.1
          have HZ := Lib.hid hz
          have HZO := Lib.hid hzo
          have HZS := Lib.hid hzs
          simp only [Sl.v] at x0 x1 x2 x3 x4 x5
          have HSL : Hid (SlAt w ⟨sa, sn, sc, sl⟩) := Lib.hid hzo.slots
          have HAT : Hid (0 < sn → ∃ b off, sa = some ⟨b, off, none⟩ ∧ ∀ (j : Nat) z, sl[j]? = some z → (wr.alloc (.cells #[.string zn, .int .i64 zp, .int .i64 zr, .slice sa sn sc, .slice ba bn bc, .bool zv] 42)).cell? ⟨b, off + j, none⟩ = some (.int .i64 z)) := Lib.hid (fun hn => by
            obtain ⟨b, off, e, hc⟩ := HSL.out.at_ hn
            exact ⟨b, off, e, fun j z hz => (HKW.out.alloc _).cell0 (hc j z hz)⟩)
          clear hz hza hzt hzo hzs
          go_wp2_with (first | (at_builtin; refine wpList_appNil _ rfl _ (.tmp 48) 24 3 rfl Tryd.underlying24 infoI sn sc sl sa rfl rfl HSL.out.len hsn HAT.out ?_))
          intro va1 ca1 w5 ho5 hk5
          obtain ⟨gx, hgx⟩ : ∃ q, wr.heap.size = q := ⟨_, rfl⟩
          have hsg : G ≤ wr.heap.size := by rw [← HG.out]; exact HKG.out.size
          have hrx : w5.heap[gx]? = some (.cells #[.string zn, .int .i64 zp, .int .i64 zr, .slice sa sn sc, .slice ba bn bc, .bool zv] 42 (0, 0)) := by
            rw [hk5.block gx (by simp; omega) (fun e => e), ← hgx]; exact heap_alloc_new _ _
          have hs5 : gx + 1 ≤ w5.heap.size := by have := hk5.size; simp at this; omega
          have hkr5 : Keeps No wr w5 := ((Keeps.refl No wr).alloc _).trans hk5 (fun _ _ e => e)
          have HKR5 := Lib.hid hkr5
          have HSO : Hid (w5.ownsRow (gx + 1) 3 1 (.slice va1 sn ca1) sn (irow sl)) := Lib.hid (by rw [← hgx]; simpa using ho5)
          have HRX := Lib.hid hrx
          have HS5 := Lib.hid hs5
          have HGX : Hid (G ≤ gx) := Lib.hid (by rw [← hgx]; exact hsg)
          have HXZ := Lib.hid hgx
          simp only [hgx]
          have k3 : w5.cell? ⟨gx, 3, none⟩ = some (.slice sa sn sc) := by rw [cell_of_row w5 gx 3 _ _ _ hrx]; rfl
          have k4 : w5.cell? ⟨gx, 4, none⟩ = some (.slice ba bn bc) := by rw [cell_of_row w5 gx 4 _ _ _ hrx]; rfl
          have f3 : w5.frozen? ⟨gx, 3, none⟩ = false := frozen_of_row w5 gx 3 _ _ hrx
          have f4 : w5.frozen? ⟨gx, 4, none⟩ = false := frozen_of_row w5 gx 4 _ _ hrx
          clear ho5 hk5 hrx hkr5 x0 x1 x2 x3 x4 x5 hs5 hgx hsg c2
          go_wp2_with fail
          obtain ⟨w6, hw6⟩ : ∃ W, (w5.setCell ⟨gx, 3, none⟩ (.slice va1 sn ca1)).setCell ⟨gx, 4, none⟩ (.slice none 0 0) = W := ⟨_, rfl⟩
          have hk6 : Keeps (fun q => q = gx) w5 w6 := by rw [← hw6]; exact ((Keeps.refl (fun q => q = gx) w5).setCell (.inl rfl) _).setCell (.inl rfl) _
          have hr6 : w6.heap[gx]? = some (.cells #[.string zn, .int .i64 zp, .int .i64 zr, .slice va1 sn ca1, .slice none 0 0, .bool zv] 42 (0, 0)) := by
            have k1 : (w5.setCell ⟨gx, 3, none⟩ (.slice va1 sn ca1)).heap[gx]? = some (.cells #[.string zn, .int .i64 zp, .int .i64 zr, .slice va1 sn ca1, .slice ba bn bc, .bool zv] 42 (0, 0)) := by rw [heap_setCell_same w5 gx 3 _ _ _ HRX.out]; rfl
            rw [← hw6, heap_setCell_same _ gx 4 _ _ _ k1]; rfl
          have HR6 := Lib.hid hr6
          have HK56 := Lib.hid hk6
          have HKR6 : Hid (Keeps No wr w6) := Lib.hid (HKR5.out.trans hk6 (fun q hq e => by have := HXZ.out; omega))
          have HKW6 : Hid (Keeps No w w6) := Lib.hid (HKW.out.trans HKR6.out (fun _ _ e => e))
          obtain ⟨G6, hG6⟩ : ∃ q, w6.heap.size = q := ⟨_, rfl⟩
          have HG6 := Lib.hid hG6
          have HGL : Hid (gx < G6) := Lib.hid (by rw [← hG6]; exact (Array.getElem?_eq_some_iff.1 hr6).1)
          rw [hw6]
          clear hw6 hk6 hr6 k3 k4 f3 f4 hG6
          obtain ⟨wq, rfl⟩ : ∃ W, W = wr := ⟨_, rfl⟩
          go_loopg [9] bn (fun g3 v wz => ∃ (k : Nat) (bs : List Bx) (vb : Option Addr) (cb : Nat), v = .int .i64 (k : Int) ∧ k ≤ bn ∧ g3 = bn - k ∧ Hid (bs.length = k ∧ sameRow Bx.same (bl.take k) bs = true ∧ (∀ y ∈ bs, SmallBx y ∧ (∀ i ∈ y.l, IxB i) ∧ OBx wz G6 y)) ∧ Hid (wz.ownsRow G6 45 1 (.slice vb k cb) k (bs.map Bx.v)) ∧ Hid (Keeps (fun q => q = gx) w6 wz) ∧ Hid (wz.heap[gx]? = some (.cells #[.string zn, .int .i64 zp, .int .i64 zr, .slice va1 sn ca1, .slice vb k cb, .bool zv] 42 (0, 0))))
          case atStart => exact ⟨0, [], none, 0, rfl, Nat.zero_le _, rfl, Lib.hid ⟨rfl, rfl, fun y hy => by cases hy⟩, Lib.hid (World.ownsRow_nil _ _ _ _), Lib.hid (Keeps.refl _ _), HR6⟩
          case round =>
            obtain ⟨k, bs, vb, cb, rfl, hk, hgz, HBS, HOB, HKZ, HRZ⟩ := hrel
            have HKWZ : Hid (Keeps No w wr) := Lib.hid (HKW6.out.trans HKZ.out (fun q hq e => by rw [HB0.out] at hq; have := HGX.out; have := HBG.out; omega))
            by_cases hkl : k < bn
            · have hkl' : (k : Int) < (bn : Int) := by omega
              have kp0 : (0 : Int) ≤ (k : Int) := by omega
              obtain ⟨yb, yo, x, hx, hxa, hxt, hxo⟩ := Fx.get HZO.out (i := k) hkl
              simp only at hxa hx
              subst hxa
              have HC := Lib.hid (fun (W : World) (hk : Keeps No w W) => rcopyBlock_any x W (hxo.no hk) (HZS.out.2.2 x (List.mem_of_getElem? hx)))
              have HX := Lib.hid hx
              have hyb : yb < B0 := by rw [← HB0.out]; exact World.block_lt_of_cell? w _ hxt
              have hnb : ∀ q, (Value.slice vb k cb).ownBlock = some q → G6 ≤ q := fun q hq => (HOB.out.lt q hq).1
              obtain ⟨ya, yn, yc, yl⟩ := x
              unfold Bx.v at hxt HC
              have e0 : ∀ u : KS (fun q => (Value.slice vb k cb).ownBlock = some q) wr, u.W.cell? ⟨yb, yo + k, none⟩ = some (.slice ya yn yc) := fun u => u.cell (HKWZ.out.cell0 hxt) (fun e => by have := hnb _ e; have := HGX.out; have := HBG.out; have := HGL.out; simp only at *; omega)
              have e4 : ∀ u : KS (fun q => (Value.slice vb k cb).ownBlock = some q) wr, u.W.cell? ⟨gx, 4, none⟩ = some (.slice vb k cb) := fun u => u.cell (by rw [cell_of_row wr gx 4 _ _ _ HRZ.out]; rfl) (fun e => by have := hnb _ e; have := HGL.out; simp only at *; omega)
              have hne : Nonempty (KS (fun q => (Value.slice vb k cb).ownBlock = some q) wr) := ⟨⟨wr, Keeps.refl _ _⟩⟩
              clear hx hxt hxo hyb hnb
              go_wp2_with fail
              refine MixB.wp_region_mix (fun W => ∃ u : KS (fun q => (Value.slice vb k cb).ownBlock = some q) wr, W = u.W) [10] (by kernel_rfl) ?_
              have HKD : Hid (Keeps No wr wr.drew) := Lib.hid ((Keeps.refl _ wr).drew)
              generalize wr.drew = wd at HKD ⊢
              refine MixB.mix_seg 0 6 5 (by kernel_rfl) (by kernel_rfl) rfl rfl ⟨⟨wd, HKD.out.mono (fun _ _ e => e.elim)⟩, rfl⟩ ?_
              simp only [List.drop_succ_cons, List.drop_zero, List.take_succ_cons, List.take_zero]
              repeat (go_big_quiet_step (fail))
              refine wpQuiet_nil ?_
              clear e0 e4 hne
              refine MixB.mix_one 6 4 (by kernel_rfl) rfl rfl ?_
              simp only [List.drop_succ_cons, List.drop_zero, List.take_succ_cons, List.take_zero]
              go_wp2_with fail
              refine (HC.out wd (HKWZ.out.trans HKD.out (fun _ _ e => e))).mono ?_
              rintro e w7 ⟨y, rfl, hxy, hsy, hyb, hyO, hk7⟩
              have hk8 : Keeps No wr w7 := HKD.out.trans hk7 (fun _ _ e => e)
              have HK8 := Lib.hid hk8
              have HO7 := Lib.hid (keeps_row HOB.out hk8 (fun _ _ e => e))
              have HB7 : Hid (bs.length = k ∧ sameRow Bx.same (bl.take k) bs = true ∧ (∀ y ∈ bs, SmallBx y ∧ (∀ i ∈ y.l, IxB i) ∧ OBx w7 G6 y)) := Lib.hid ⟨HBS.out.1, HBS.out.2.1, fun t ht => ⟨(HBS.out.2.2 t ht).1, (HBS.out.2.2 t ht).2.1, (HBS.out.2.2 t ht).2.2.no hk8⟩⟩
              have HYY : Hid (Bx.same ⟨ya, yn, yc, yl⟩ y = true ∧ SmallBx y ∧ (∀ i ∈ y.l, IxB i) ∧ OBx w7 G6 y) := Lib.hid ⟨hxy, hsy, hyb, hyO.mono (by have h1 := HKD.out.size; have h2 := HKZ.out.size; rw [HG6.out] at h2; omega)⟩
              have hr7 := (hk8.block gx (Array.getElem?_eq_some_iff.1 HRZ.out).1 (fun e => e)).trans HRZ.out
              have HR7 := Lib.hid hr7
              have HOA := Lib.hid (fun o : Obj => HO7.out.alloc o)
              obtain ⟨ua, un, uc, ul⟩ := y
              have HNW := Lib.hid (news_one w7 [.slice ua un uc] 45)
              have HMX : Hid (k + 1 ≤ maxLen) := Lib.hid (by unfold maxLen; omega)
              have HBB : Hid (∀ o : Obj, G6 ≤ (w7.alloc o).heap.size) := Lib.hid (fun o => by have h1 := hk8.size; have h2 := HKZ.out.size; rw [HG6.out] at h2; simp; omega)
              clear hxy hsy hyb hyO hk7 hk8 hr7 HC
              unfold Bx.v
              go_wp2_with fail
              refine ⟨.inr ⟨⟨w7, HK8.out.mono (fun _ _ e => e.elim)⟩, rfl⟩, ?_⟩
              refine MixB.mix_one 7 3 (by kernel_rfl) rfl rfl ?_
              simp only [List.drop_succ_cons, List.drop_zero, List.take_succ_cons, List.take_zero]
              go_wp2_with fail
              refine ⟨.inr ⟨⟨_, (HK8.out.mono (fun _ _ e => e.elim)).alloc _⟩, rfl⟩, ?_⟩
              refine MixB.mix_one 8 2 (by kernel_rfl) rfl rfl ?_
              simp only [List.drop_succ_cons, List.drop_zero, List.take_succ_cons, List.take_zero]
              refine wpList_append_lies _ rfl (.tmp 61) (.tmp 67) 40 rfl G6 45 tb _ 1 24 Tryd.underlying40 HIB.out.1 HIB.out.2.1 HIB.out.2.2.1 HIB.out.2.2.2 rfl (by decide) (.slice vb k cb) k (bs.map Bx.v) rfl (HOA.out _) ⟨w7.heap.size, 0, none⟩ 1 1 [.slice ua un uc] rfl rfl HNW.out (by intro u hu; simp at hu; subst hu; rfl) (by decide) HMX.out (by omega) (HBB.out _) _ rfl ?_
              intro g9 c9 w9 ho9 hg9 _ _
              have hka : Keeps No w7 (w7.alloc (.cells #[.slice ua un uc] 45)) := (Keeps.refl _ _).alloc _
              have hk9 : Keeps (fun q => (Value.slice vb k cb).ownBlock = some q) (w7.alloc (.cells #[.slice ua un uc] 45)) w9 := (Keeps.refl _ _).grown hg9 (fun q e => .inl e)
              have hOA := HOA.out (.cells #[.slice ua un uc] 45)
              have hcell : ∀ q, (Value.slice vb k cb).ownBlock = some q → ∃ cs e, (w7.alloc (.cells #[.slice ua un uc] 45)).heap[q]? = some (.cells cs e (0, 0)) ∧ e ≠ 3 ∧ e ≠ 2 ∧ e ≠ 27 := fun q e => by
                rcases hOA.2 with ⟨e2, _⟩ | ⟨g', cap, cur, e2, _, hh, _⟩
                · rw [e2] at e; simp [Value.ownBlock] at e
                · rw [e2] at e; simp [Value.ownBlock] at e; subst e; exact ⟨cur, _, hh, by decide, by decide, by decide⟩
              have hA := (hka.block gx (Array.getElem?_eq_some_iff.1 HR7.out).1 (fun e => e)).trans HR7.out
              have hr9 := (hk9.block gx (Array.getElem?_eq_some_iff.1 hA).1 (own_ne hOA hA (by decide))).trans hA
              have HR9 := Lib.hid hr9
              have HO9 : Hid (w9.ownsRow G6 45 1 (.slice (some ⟨g9, 0, none⟩) (k + 1) c9) (k + 1) ((bs ++ [Bx.mk ua un uc ul]).map Bx.v)) := Lib.hid (by rw [List.map_append]; simpa using ho9)
              have HKC : Hid (Keeps (fun q => (Value.slice vb k cb).ownBlock = some q) wr w9) := Lib.hid (((HK8.out.mono (fun _ _ e => e.elim)).trans hka (fun _ _ e => e.elim)).trans hk9 (fun _ _ e => e))
              have HKV : Hid (Keeps (fun q => q = gx) w6 w9) := Lib.hid (((HKZ.out.trans HK8.out (fun _ _ e => e.elim)).trans hka (fun _ _ e => e.elim)).trans hk9 (fun q hq e => by have := (hOA.lt q e).1; rw [HG6.out] at hq; omega))
              have HB9 : Hid ((bs ++ [Bx.mk ua un uc ul]).length = k + 1 ∧ sameRow Bx.same (bl.take (k + 1)) (bs ++ [Bx.mk ua un uc ul]) = true ∧ (∀ t ∈ bs ++ [Bx.mk ua un uc ul], SmallBx t ∧ (∀ i ∈ t.l, IxB i) ∧ OBx w9 G6 t)) := Lib.hid ⟨by simp [HB7.out.1], row_snoc _ HX.out HB7.out.1 HB7.out.2.1 HYY.out.1, fun t ht => by
                rcases List.mem_append.1 ht with h | h
                · have := HB7.out.2.2 t h; exact ⟨this.1, this.2.1, (this.2.2.no hka).keep hk9 hcell⟩
                · obtain rfl : t = Bx.mk ua un uc ul := by simpa using h
                  exact ⟨HYY.out.2.1, HYY.out.2.2.1, (HYY.out.2.2.2.no hka).keep hk9 hcell⟩⟩
              have s1 : w9.cell? ⟨gx, 4, none⟩ = some (.slice vb k cb) := by rw [cell_of_row w9 _ 4 _ _ _ hr9]; rfl
              have s2 : w9.frozen? ⟨gx, 4, none⟩ = false := frozen_of_row w9 _ 4 _ _ hr9
              clear ho9 hg9 hka hk9 hcell hOA hA hr9
              go_wp2_with fail
              refine ⟨.inr ⟨⟨w9, HKC.out⟩, rfl⟩, ?_⟩
              refine MixB.mix_one 9 1 (by kernel_rfl) rfl rfl ?_
              simp only [List.drop_succ_cons, List.drop_zero, List.take_succ_cons, List.take_zero]
              go_wp2_with fail
              refine ⟨.inr ⟨⟨w9, HKC.out⟩, rfl⟩, ?_⟩
              refine MixB.mix_one 10 0 (by kernel_rfl) rfl rfl ?_
              simp only [List.drop_succ_cons, List.drop_zero, List.take_succ_cons, List.take_zero]
              go_wp2_with fail
              refine ⟨.inl rfl, ?_⟩
              refine MixB.mix_end (by kernel_rfl) ?_
              have hr10 : (w9.setCell ⟨gx, 4, none⟩ (.slice (some ⟨g9, 0, none⟩) (k + 1) c9)).heap[gx]? = some (.cells #[.string zn, .int .i64 zp, .int .i64 zr, .slice va1 sn ca1, .slice (some ⟨g9, 0, none⟩) (k + 1) c9, .bool zv] 42 (0, 0)) := by rw [heap_setCell_same w9 gx 4 _ _ _ HR9.out]; rfl
              have hk10 : Keeps (fun q => q = gx) w9 (w9.setCell ⟨gx, 4, none⟩ (.slice (some ⟨g9, 0, none⟩) (k + 1) c9)) := (Keeps.refl (fun q => q = gx) w9).setCell (.inl rfl) _
              have hcell : ∀ q, q = gx → ∃ cs e, w9.heap[q]? = some (.cells cs e (0, 0)) ∧ e ≠ 3 ∧ e ≠ 2 ∧ e ≠ 27 := fun q e => by subst e; exact ⟨_, _, HR9.out, by decide, by decide, by decide⟩
              have HR10 := Lib.hid hr10
              have HO10 := Lib.hid (keeps_row HO9.out hk10 (fun q hq e => by subst e; exact own_ne HO9.out HR9.out (by decide) hq))
              have HK10 := Lib.hid (HKV.out.trans hk10 (fun _ _ e => e))
              have HB10 : Hid ((bs ++ [Bx.mk ua un uc ul]).length = k + 1 ∧ sameRow Bx.same (bl.take (k + 1)) (bs ++ [Bx.mk ua un uc ul]) = true ∧ (∀ t ∈ bs ++ [Bx.mk ua un uc ul], SmallBx t ∧ (∀ i ∈ t.l, IxB i) ∧ OBx (w9.setCell ⟨gx, 4, none⟩ (.slice (some ⟨g9, 0, none⟩) (k + 1) c9)) G6 t)) := Lib.hid ⟨HB9.out.1, HB9.out.2.1, fun t ht => ⟨(HB9.out.2.2 t ht).1, (HB9.out.2.2 t ht).2.1, (HB9.out.2.2 t ht).2.2.keep hk10 hcell⟩⟩
              clear hr10 hk10 hcell s1 s2
              go_wp2_with fail
              go_roundg (bn - (k + 1))
              case rel => exact ⟨k + 1, bs ++ [Bx.mk ua un uc ul], some ⟨g9, 0, none⟩, c9, by go_num, by omega, rfl, HB10, HO10, HK10, HR10⟩
              case measure => omega
            · obtain rfl : k = bn := by omega
              have hkl' : ¬ (k : Int) < (k : Int) := by omega
              have hkq : Keeps No wq wr := HKR6.out.trans HKZ.out (fun q hq e => by have := HXZ.out; omega)
              have HKQ := Lib.hid hkq
              have hro := (hkq.block (B0 + 2) (Array.getElem?_eq_some_iff.1 HRO.out).1 (fun e => e)).trans HRO.out
              have HRO7 := Lib.hid hro
              have HO7 := Lib.hid (keeps_row HOW.out hkq (fun _ _ e => e))
              have HY7 : Hid (ys.length = i ∧ sameRow Fx.same (p.fl.take i) ys = true ∧ (∀ y ∈ ys, SmallFx y ∧ FxB y ∧ OFx wr G y)) := Lib.hid ⟨HYS.out.1, HYS.out.2.1, fun t ht => ⟨(HYS.out.2.2 t ht).1, (HYS.out.2.2 t ht).2.1, (HYS.out.2.2 t ht).2.2.no hkq⟩⟩
              have hks7 : Keeps (fun q => q = gx) w5 wr := HK56.out.trans HKZ.out (fun _ _ e => e)
              have hG6 : G ≤ G6 := by have := HGX.out; have := HGL.out; omega
              have HYY : Hid ((Fx.mk zn zp zr (Sl.mk sa sn sc sl) ba k bc bl zv).same (Fx.mk zn zp zr (Sl.mk va1 sn ca1 sl) vb k cb bs zv) = true ∧ SmallFx (Fx.mk zn zp zr (Sl.mk va1 sn ca1 sl) vb k cb bs zv) ∧ FxB (Fx.mk zn zp zr (Sl.mk va1 sn ca1 sl) vb k cb bs zv) ∧ OFx wr G (Fx.mk zn zp zr (Sl.mk va1 sn ca1 sl) vb k cb bs zv)) := Lib.hid ⟨by
                have h := HBS.out.2.1
                have hl := HZO.out.len
                simp only at hl
                rw [List.take_of_length_le (by omega)] at h
                exact decide_eq_true ⟨rfl, rfl, rfl, rfl, rfl, h⟩, ⟨hsn, hbn, fun t ht => (HBS.out.2.2 t ht).1⟩, ⟨HZO.out.name, HZO.out.params, HZO.out.regs, HZO.out.slots.bd, fun t ht => (HBS.out.2.2 t ht).2.1⟩,
                ⟨⟨own_mono (keeps_row HSO.out hks7 (fun q hq e => by have := (HSO.out.lt q hq).1; omega)) (by have := HGX.out; omega), HSL.out.len⟩, own_mono HOB.out hG6, HBS.out.1, fun t ht => (HBS.out.2.2 t ht).2.2.mono hG6⟩⟩
              have d0 : wr.cell? ⟨gx, 0, none⟩ = some (.string zn) := by rw [cell_of_row wr gx 0 _ _ _ HRZ.out]; rfl
              have d1 : wr.cell? ⟨gx, 1, none⟩ = some (.int .i64 zp) := by rw [cell_of_row wr gx 1 _ _ _ HRZ.out]; rfl
              have d2 : wr.cell? ⟨gx, 2, none⟩ = some (.int .i64 zr) := by rw [cell_of_row wr gx 2 _ _ _ HRZ.out]; rfl
              have d3 : wr.cell? ⟨gx, 3, none⟩ = some (.slice va1 sn ca1) := by rw [cell_of_row wr gx 3 _ _ _ HRZ.out]; rfl
              have d4 : wr.cell? ⟨gx, 4, none⟩ = some (.slice vb k cb) := by rw [cell_of_row wr gx 4 _ _ _ HRZ.out]; rfl
              have d5 : wr.cell? ⟨gx, 5, none⟩ = some (.bool zv) := by rw [cell_of_row wr gx 5 _ _ _ HRZ.out]; rfl
              have e1 : wr.cell? ⟨B0 + 1 + 1, 1, none⟩ = some (.slice va i ca) := by rw [show B0 + 1 + 1 = B0 + 2 from rfl, cell_of_row wr _ 1 _ _ _ hro]; rfl
              have HOA := Lib.hid (fun o : Obj => HO7.out.alloc o)
              have HNW : Hid (∀ (j : Nat) u, (Fx.cells (Fx.mk zn zp zr (Sl.mk va1 sn ca1 sl) vb k cb bs zv))[j]? = some u → (wr.alloc (.cells #[.string zn, .int .i64 zp, .int .i64 zr, .slice va1 sn ca1, .slice vb k cb, .bool zv] 42)).cell? ((⟨wr.heap.size, 0, none⟩ : Addr).add j) = some u) := Lib.hid (news_one wr (Fx.cells (Fx.mk zn zp zr (Sl.mk va1 sn ca1 sl) vb k cb bs zv)) 42)
              have HON := Lib.hid (fx_one1 (Fx.mk zn zp zr (Sl.mk va1 sn ca1 sl) vb k cb bs zv))
              have HMX : Hid (i + 1 ≤ maxLen) := Lib.hid (by unfold maxLen; omega)
              have HBB : Hid (∀ o : Obj, G ≤ (wr.alloc o).heap.size) := Lib.hid (fun o => by have h1 := hkq.size; have := HXZ.out; have := HGX.out; simp; omega)
              clear hkq hro hks7 hG6
              go_wp2_with (first | (at_builtin; refine wpList_append_lies _ rfl (.tmp 71) (.tmp 73) 34 rfl G 42 ti _ 6 88 Tryd.underlying34 HI.out.1 HI.out.2.1 HI.out.2.2.1 HI.out.2.2.2 rfl (by decide) (.slice va i ca) i (ys.flatMap Fx.cells) rfl (HOA.out _) ⟨wr.heap.size, 0, none⟩ 1 1 (Fx.cells (Fx.mk zn zp zr (Sl.mk va1 sn ca1 sl) vb k cb bs zv)) rfl rfl HNW.out HON.out (by decide) HMX.out (by omega) (HBB.out _) _ rfl ?_))
              intro g9 c9 w9 ho9 hg9 _ _
              have hka : Keeps No wr (wr.alloc (.cells #[.string zn, .int .i64 zp, .int .i64 zr, .slice va1 sn ca1, .slice vb k cb, .bool zv] 42)) := (Keeps.refl _ _).alloc _
              have hk9 : Keeps (fun q => (Value.slice va i ca).ownBlock = some q) (wr.alloc (.cells #[.string zn, .int .i64 zp, .int .i64 zr, .slice va1 sn ca1, .slice vb k cb, .bool zv] 42)) w9 := (Keeps.refl _ _).grown hg9 (fun q e => .inl e)
              have hOA := HOA.out (.cells #[.string zn, .int .i64 zp, .int .i64 zr, .slice va1 sn ca1, .slice vb k cb, .bool zv] 42)
              have hcell : ∀ q, (Value.slice va i ca).ownBlock = some q → ∃ cs e, (wr.alloc (.cells #[.string zn, .int .i64 zp, .int .i64 zr, .slice va1 sn ca1, .slice vb k cb, .bool zv] 42)).heap[q]? = some (.cells cs e (0, 0)) ∧ e ≠ 3 ∧ e ≠ 2 ∧ e ≠ 27 ∧ e ≠ 45 := fun q e => by
                rcases hOA.2 with ⟨e2, _⟩ | ⟨g', cap, cur, e2, _, hh, _⟩
                · rw [e2] at e; simp [Value.ownBlock] at e
                · rw [e2] at e; simp [Value.ownBlock] at e; subst e; exact ⟨cur, _, hh, by decide, by decide, by decide, by decide⟩
              have hA := (hka.block (B0 + 2) (Array.getElem?_eq_some_iff.1 HRO7.out).1 (fun e => e)).trans HRO7.out
              have hr9 := (hk9.block (B0 + 2) (Array.getElem?_eq_some_iff.1 hA).1 (own_ne hOA hA (by decide))).trans hA
              have HR9 := Lib.hid hr9
              have HO9 : Hid (w9.ownsRow G 42 6 (.slice (some ⟨g9, 0, none⟩) (i + 1) c9) (i + 1) ((ys ++ [(Fx.mk zn zp zr (Sl.mk va1 sn ca1 sl) vb k cb bs zv)]).flatMap Fx.cells)) := Lib.hid (by rw [List.flatMap_append]; simpa using ho9)
              have HKG9 : Hid (Keeps (fun q => q = B0 + 2) wg w9) := Lib.hid (((HKG.out.trans HKQ.out (fun _ _ e => e.elim)).trans hka (fun _ _ e => e.elim)).trans hk9 (fun q hq e => by have := (hOA.lt q e).1; rw [HG.out] at hq; omega))
              have HY9 : Hid ((ys ++ [(Fx.mk zn zp zr (Sl.mk va1 sn ca1 sl) vb k cb bs zv)]).length = i + 1 ∧ sameRow Fx.same (p.fl.take (i + 1)) (ys ++ [(Fx.mk zn zp zr (Sl.mk va1 sn ca1 sl) vb k cb bs zv)]) = true ∧ (∀ t ∈ ys ++ [(Fx.mk zn zp zr (Sl.mk va1 sn ca1 sl) vb k cb bs zv)], SmallFx t ∧ FxB t ∧ OFx w9 G t)) := Lib.hid ⟨by simp [HY7.out.1], row_snoc _ HZ.out HY7.out.1 HY7.out.2.1 HYY.out.1, fun t ht => by
                rcases List.mem_append.1 ht with h | h
                · have := HY7.out.2.2 t h; exact ⟨this.1, this.2.1, (this.2.2.no hka).keep hk9 hcell⟩
                · obtain rfl : t = (Fx.mk zn zp zr (Sl.mk va1 sn ca1 sl) vb k cb bs zv) := by simpa using h
                  exact ⟨HYY.out.2.1, HYY.out.2.2.1, (HYY.out.2.2.2.no hka).keep hk9 hcell⟩⟩
              have s1 : w9.cell? ⟨B0 + 1 + 1, 1, none⟩ = some (.slice va i ca) := by rw [show B0 + 1 + 1 = B0 + 2 from rfl, cell_of_row w9 _ 1 _ _ _ hr9]; rfl
              have s2 : w9.frozen? ⟨B0 + 1 + 1, 1, none⟩ = false := frozen_of_row w9 _ 1 _ _ hr9
              clear ho9 hg9 hka hk9 hcell hOA hA hr9 d0 d1 d2 d3 d4 d5 e1
              have hr10 : (w9.setCell ⟨B0 + 1 + 1, 1, none⟩ (.slice (some ⟨g9, 0, none⟩) (i + 1) c9)).heap[B0 + 2]? = some (.cells #[.slice gva gn gca, .slice (some ⟨g9, 0, none⟩) (i + 1) c9, .int .i64 mn] 36 (0, 0)) := by rw [show B0 + 1 + 1 = B0 + 2 from rfl, heap_setCell_same w9 (B0 + 2) 1 _ _ _ HR9.out]; rfl
              have hk10 : Keeps (fun q => q = B0 + 2) w9 (w9.setCell ⟨B0 + 1 + 1, 1, none⟩ (.slice (some ⟨g9, 0, none⟩) (i + 1) c9)) := (Keeps.refl (fun q => q = B0 + 2) w9).setCell (.inl rfl) _
              have hcell : ∀ q, q = B0 + 2 → ∃ cs e, w9.heap[q]? = some (.cells cs e (0, 0)) ∧ e ≠ 3 ∧ e ≠ 2 ∧ e ≠ 27 ∧ e ≠ 45 := fun q e => by subst e; exact ⟨_, _, HR9.out, by decide, by decide, by decide, by decide⟩
              have HR10 := Lib.hid hr10
              have HO10 := Lib.hid (keeps_row HO9.out hk10 (fun q hq e => by subst e; exact own_ne HO9.out HR9.out (by decide) hq))
              have hkg : Keeps (fun q => q = B0 + 2) wg (w9.setCell ⟨B0 + 1 + 1, 1, none⟩ (.slice (some ⟨g9, 0, none⟩) (i + 1) c9)) := HKG9.out.trans hk10 (fun _ _ e => e)
              have HKG10 := Lib.hid hkg
              have HY10 : Hid ((ys ++ [(Fx.mk zn zp zr (Sl.mk va1 sn ca1 sl) vb k cb bs zv)]).length = i + 1 ∧ sameRow Fx.same (p.fl.take (i + 1)) (ys ++ [(Fx.mk zn zp zr (Sl.mk va1 sn ca1 sl) vb k cb bs zv)]) = true ∧ (∀ t ∈ ys ++ [(Fx.mk zn zp zr (Sl.mk va1 sn ca1 sl) vb k cb bs zv)], SmallFx t ∧ FxB t ∧ OFx (w9.setCell ⟨B0 + 1 + 1, 1, none⟩ (.slice (some ⟨g9, 0, none⟩) (i + 1) c9)) G t)) := Lib.hid ⟨HY9.out.1, HY9.out.2.1, fun t ht => ⟨(HY9.out.2.2 t ht).1, (HY9.out.2.2 t ht).2.1, (HY9.out.2.2 t ht).2.2.keep hk10 hcell⟩⟩
              have HC10 : Hid ((w9.setCell ⟨B0 + 1 + 1, 1, none⟩ (.slice (some ⟨g9, 0, none⟩) (i + 1) c9)).cell? ⟨B0, 1, none⟩ = some (.slice (some ⟨xb, xo, none⟩) fn fc)) := Lib.hid (by rw [cell_of_row _ _ 1 _ _ _ ((hkg.block B0 (Array.getElem?_eq_some_iff.1 HRR.out.1).1 (by omega)).trans HRR.out.1)]; rfl)
              clear hr10 hk10 hcell hkg
              go_wp2_with fail
              go_roundg (fn - (i + 1))
              case rel => exact ⟨i + 1, ys ++ [(Fx.mk zn zp zr (Sl.mk va1 sn ca1 sl) vb k cb bs zv)], some ⟨g9, 0, none⟩, c9, by go_num, by omega, rfl, HC10.out, HY10, HO10, HKG10, HR10⟩
              case measure => omega
        · obtain rfl : i = fn := by omega
          have hlt' : ¬ (i : Int) < (i : Int) := by omega
          have d0 : wr.cell? ⟨B0 + 2, 0, none⟩ = some (.slice gva gn gca) := by rw [cell_of_row wr _ 0 _ _ _ HRO.out]; rfl
          have d1 : wr.cell? ⟨B0 + 2, 1, none⟩ = some (.slice va i ca) := by rw [cell_of_row wr _ 1 _ _ _ HRO.out]; rfl
          have d2 : wr.cell? ⟨B0 + 2, 2, none⟩ = some (.int .i64 mn) := by rw [cell_of_row wr _ 2 _ _ _ HRO.out]; rfl
          have hr1 := (HKG.out.block (B0 + 1) (Array.getElem?_eq_some_iff.1 HRR.out.2.1).1 (by omega)).trans HRR.out.2.1
          have HR1 := Lib.hid hr1
          go_wp2_with (first | (refine wpList_store_row rfl _ _ _ rfl (B0 + 1) #[.slice gva gn gca, .slice va i ca, .int .i64 mn] rfl rfl _ _ HR1.out infoPgS rfl (by simp [Value.oneCell']) ?_))
          obtain ⟨w9, hw9⟩ : ∃ W, wr.setRow (B0 + 1) #[.slice gva gn gca, .slice va i ca, .int .i64 mn] = W := ⟨_, rfl⟩
          have hr9 : w9.heap[B0 + 1]? = some (.cells #[.slice gva gn gca, .slice va i ca, .int .i64 mn] 36 (0, 0)) := by rw [← hw9]; exact setRow_heap wr (B0 + 1) _ _ _ _ HR1.out
          have hk9 : Keeps (fun q => q = B0 + 1) wr w9 := by rw [← hw9]; exact (Keeps.refl (fun q => q = B0 + 1) wr).setRow (.inl rfl) _
          have hkw : Keeps No w w9 := HKW.out.trans hk9 (fun q hq e => by rw [HB0.out] at hq; omega)
          have hrc : ∀ j, w9.cell? ⟨B0 + 1, j, none⟩ = (#[.slice gva gn gca, .slice va i ca, .int .i64 mn] : Array Value)[j]? := fun j => cell_of_row w9 _ j _ _ _ hr9
          have hcell : ∀ q, q = B0 + 1 → ∃ cs e, wr.heap[q]? = some (.cells cs e (0, 0)) ∧ e ≠ 3 ∧ e ≠ 2 ∧ e ≠ 27 ∧ e ≠ 45 := fun q e => by subst e; exact ⟨_, _, HR1.out, by decide, by decide, by decide, by decide⟩
          have ho9 := own_mono (keeps_row HOW.out hk9 (fun q hq e => by subst e; exact own_ne HOW.out HR1.out (by decide) hq)) (show B0 ≤ G by have := HBG.out; omega)
          rw [hw9]
          refine bodyPost_ret (v := .agg #[.slice gva gn gca, .slice va i ca, .int .i64 mn]) ?_ ?_ ?_
          · simp [results, Tryd.results19, go_sem, hrc]
          · rfl
          · unfold CopyPg
            have hsl : ys.length = i := HYS.out.1
            have hGg : GG wg B0 (.slice gva gn gca) gn gs := ⟨HOG.out, HGS'.out.2.2⟩
            have hG8 : GG wr B0 (.slice gva gn gca) gn gs := hGg.keep HKG.out (fun q e => by subst e; exact ⟨_, _, HRR.out.2.2, by decide, by decide⟩)
            have hG9 : GG w9 B0 (.slice gva gn gca) gn gs := hG8.keep hk9 (fun q e => by subst e; exact ⟨_, _, HR1.out, by decide, by decide⟩)
            refine ⟨⟨gva, gn, gca, gs, va, i, ca, ys, mn⟩, rfl, HPP.out.2.2.1.symm, ?_, ?_, ?_, hkw⟩
            · have h := HGS'.out.2.1
              rw [List.take_of_length_le (by have := HP.out.glen; have := HPG.out.2; omega)] at h
              exact h
            · have h := HYS.out.2.1
              rw [List.take_of_length_le (by have := HP.out.flen; have := HPP.out.2.1; omega)] at h
              exact h
            · rw [HB0.out]
              exact ⟨by rw [← HPP.out.2.2.1]; exact HPP.out.2.2.2, hG9.o, HGS'.out.1, hG9.ok, ho9, hsl, fun y hy => ⟨(HYS.out.2.2 y hy).1, (HYS.out.2.2 y hy).2.1, ((HYS.out.2.2 y hy).2.2.keep hk9 hcell).mono (by have := HBG.out; omega)⟩⟩
end Go.Proofs.YtbfjmhfhhlncjaaDoor
