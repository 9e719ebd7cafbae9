/- Regions that draw their order, where some operations read and others make or write memory: the reading ones may be taken first. -/
import Derived.Deep.Quiet
import Derived.Deep.QuietTactic
import Derived.BigQuiet
import Derived.KernelRfl
namespace Go.Proofs.YtkiimljdoebclaaDoor.Mix
open Go
set_option linter.unusedVariables false
set_option linter.unusedSimpArgs false

def QF : Exit → Act → World → Prop := fun _ _ _ => False
/-- Operations that only read. -/
def pureOp : Op → Bool
  | .move _ | .assign _ | .pick .. | .load .. | .nilCheck _ | .binOp .. | .unOp .. | .convert .. | .fieldAddr .. | .field .. | .indexAddr .. | .index .. | .slice .. | .extract .. | .lookup .. | .build .. => true
  | _ => false
def NoEnter (s : Sem Next) : Prop := ∀ (P : Program) (w w' : World) (f : FuncId) (args : Array Value), s.run P w ≠ .ok (.enter f args) w'
theorem NoEnter.bind {α : Type} {s : Sem α} {k : α → Sem Next} (h : ∀ x, NoEnter (k x)) : NoEnter (s >>= k) := by
  intro P w w' f args
  rw [Sem.run_bind]
  cases s.run P w with
  | ok v w1 => exact h v P w1 w' f args
  | halt x w1 => simp
theorem NoEnter.value (v : Value) : NoEnter (pure (.value v)) := by intro P w w' f args; rw [Sem.run_pure]; simp
theorem NoEnter.panic : NoEnter (runtimePanic .nilDeref) := by
  intro P w w' f args; simp [runtimePanic, go_sem]
theorem NoEnter.unsupported (e : Unsupported) : NoEnter (unsupported e) := by
  intro P w w' f args; simp [go_sem]
theorem pure_noEnter {ρ : Operand → Value} {o : Oper} (h : pureOp o.op = true) : NoEnter (execOp ρ o) := by
  obtain ⟨dst, op, type, pos, after, guard⟩ := o
  cases op <;> first | (cases h; done) | exact NoEnter.bind (fun _ => NoEnter.value _) | exact NoEnter.value _ | skip
  all_goals unfold execOp; simp only
  all_goals repeat' first | exact NoEnter.value _ | exact NoEnter.panic | exact NoEnter.unsupported _ | refine NoEnter.bind (fun _ => ?_) | split
section
variable {P : Program} {md : Region.Mode} {ops : Array Oper} {C : World → Prop} {E : List Nat} {Q : Act → World → Prop}
/-- In every world of the class it yields v, and leaves the world alone. -/
def YieldsC (P : Program) (ops : Array Oper) (C : World → Prop) (o : Oper) (v : Value) (a : Act) : Prop :=
  (Region.wanted o (yielded ops a.tmps) = true ∧ ∀ w, C w → (execOp a.eval o).run P w = .ok (.value v) w ∨ ((execOp a.eval o).run P w = .ok .skip w ∧ v = undef)) ∨
  (Region.wanted o (yielded ops a.tmps) = false ∧ v = undef)
def mixOp (P : Program) (ops : Array Oper) (i : Nat) (K : Act → World → Prop) (a : Act) (w : World) : Prop :=
  match ops[i]? with
  | none => K a w
  | some o => if Region.wanted o (yielded ops a.tmps) then o.wp P a w K QF else K (a.put o.dst undef) w
def wpMix (P : Program) (md : Region.Mode) (ops : Array Oper) (C : World → Prop) (E : List Nat) (Q : Act → World → Prop) : Nat → Array Bool → Act → World → Prop
  | 0, listed, a, w => Region.ready md ops listed = [] ∧ Q a w
  | fuel + 1, listed, a, w =>
    (Region.ready md ops listed = [] → Q a w) ∧
    ∀ i ∈ Region.ready md ops listed, mixOp P ops i (fun a' w' => ((E.contains i = true ∧ fuel = 0) ∨ C w') ∧ wpMix P md ops C E Q fuel (listed.setIfInBounds i true) a' w') a w
theorem wp_monoF {o : Oper} {a : Act} {w : World} {K K' : Act → World → Prop} {Q' : Exit → Act → World → Prop} (h : ∀ a w, K a w → K' a w) (hh : o.wp P a w K QF) : o.wp P a w K' Q' := by
  unfold Oper.wp at *
  generalize (execOp a.eval o).run P w = r at *
  cases r with
  | ok n w' =>
    cases n <;> simp only [Oper.upon] at hh ⊢ <;>
      first
        | exact h _ _ hh
        | (refine Calls.mono hh (fun e w'' he => ?_); cases e with
            | returned u => exact h _ _ he
            | panicked c => exact (he : False).elim
            | outgrown => obtain ⟨_, _, hf⟩ := (he : LetsOut QF); exact (hf : False).elim)
        | exact Rows.mono hh (fun _ _ he => h _ _ he)
  | halt x w' => cases x <;> simp only [Oper.upon] at hh ⊢ <;> exact (hh : False).elim
theorem mixOp_mono {i : Nat} {a : Act} {w : World} {K K' : Act → World → Prop} (h : ∀ a w, K a w → K' a w) (hh : mixOp P ops i K a w) : mixOp P ops i K' a w := by
  unfold mixOp at *
  split
  · exact h _ _ (by simpa [*] using hh)
  · rename_i o ho
    simp only [ho] at hh
    split
    · rename_i hw; simp only [hw, if_true] at hh; exact wp_monoF h hh
    · rename_i hw; simp only [hw] at hh; exact h _ _ hh
theorem any_of_mix {Q' : Exit → Act → World → Prop} (hQ : ∀ a w, Q a w → Q' .normal a w) : ∀ (fuel : Nat) (listed : Array Bool) (a : Act) (w : World),
    wpMix P md ops C E Q fuel listed a w → wpAny P md ops Q' fuel listed a w
  | 0, _, _, _, h => ⟨h.1, hQ _ _ h.2⟩
  | fuel + 1, listed, a, w, h => ⟨fun h0 => hQ _ _ (h.1 h0), fun i hi => by
      have h1 := h.2 i hi
      unfold mixOp at h1
      unfold wpOp
      split
      · rename_i ho; simp only [ho] at h1; exact any_of_mix hQ fuel _ _ _ h1.2
      · rename_i o ho
        simp only [ho] at h1
        split
        · rename_i hw; simp only [hw, if_true] at h1; exact .inl (wp_monoF (fun a w h => any_of_mix hQ fuel _ _ _ h.2) h1)
        · rename_i hw; simp only [hw] at h1; exact any_of_mix hQ fuel _ _ _ h1.2⟩
theorem YieldsC.mixOp {i : Nat} {o : Oper} {v : Value} {a : Act} {w : World} (hi : ops[i]? = some o) (hy : YieldsC P ops C o v a) (hC : C w) {K : Act → World → Prop} (h : K (a.put o.dst v) w) : mixOp P ops i K a w := by
  unfold Mix.mixOp
  simp only [hi]
  rcases hy with ⟨hw, hv⟩ | ⟨hw, rfl⟩
  · simp only [hw, if_true]
    rcases hv w hC with e | ⟨e, rfl⟩
    · unfold Oper.wp; rw [e]; exact h
    · unfold Oper.wp; rw [e]; exact h
  · simp only [hw, Bool.false_eq_true, if_false]; exact h
theorem YieldsC.of_same {o : Oper} {v : Value} {a a' : Act} (hy : YieldsC P ops C o v a) (he : execOp a'.eval o = execOp a.eval o)
    (hw : Region.wanted o (yielded ops a'.tmps) = Region.wanted o (yielded ops a.tmps)) : YieldsC P ops C o v a' := by
  unfold YieldsC at *
  rw [he, hw]
  exact hy
theorem mixOp_put {j : Nat} {oi oj : Oper} {v : Value} (hj : ops[j]? = some oj) (hap : oi.apart ops oj = true)
    (hsi : ∀ cs b, oi.op ≠ .select cs b) (hsj : ∀ cs b, oj.op ≠ .select cs b) {K : Act → World → Prop} {a : Act} {w : World}
    (hy : YieldsC P ops C oi v a) (h : mixOp P ops j K (a.put oi.dst v) w) :
    mixOp P ops j (fun a' w' => YieldsC P ops C oi v a' ∧ K (a'.put oi.dst v) w') a w := by
  obtain ⟨h1, h2, h3⟩ := Oper.apart_spec hap
  have keep : ∀ (a : Act), YieldsC P ops C oi v a → ∀ u, YieldsC P ops C oi v (a.put oj.dst u) := fun a hy u =>
    hy.of_same (execOp_put oi hsi a oj.dst u h3) (wanted_put oi a oj.dst u h3)
  have keepD : ∀ d, YieldsC P ops C oi v { a with defers := d :: a.defers } := fun d => hy.of_same rfl rfl
  unfold Mix.mixOp at *
  simp only [hj] at *
  rw [wanted_put oj a oi.dst v h1] at h
  split
  · rename_i hw
    simp only [hw, if_true] at h
    unfold Oper.wp at *
    rw [execOp_put oj hsj a oi.dst v h1] at h
    generalize (execOp a.eval oj).run P w = r at *
    cases r with
    | ok n w' =>
      cases n <;> simp only [Oper.upon] at h ⊢
      case value u => exact ⟨keep a hy u, by rw [← Act.put_comm a v u h2]; exact h⟩
      case skip => exact ⟨keep a hy _, by rw [← Act.put_comm a v undef h2]; exact h⟩
      case defer d =>
        refine ⟨keep _ (keepD d) _, ?_⟩
        rw [← Act.put_comm _ v undef h2, ← Act.put_defers]
        exact h
      case enter f args =>
        refine Calls.mono h fun e w'' he => ?_
        cases e with
        | returned u => exact ⟨keep a hy u, by rw [← Act.put_comm a v u h2]; exact he⟩
        | panicked c => exact he
        | outgrown => exact he
      case row row args => exact Rows.mono h fun u w'' he => ⟨keep a hy u, by rw [← Act.put_comm a v u h2]; exact he⟩
    | halt x w' =>
      cases x <;> simp only [Oper.upon] at h ⊢
      case panic u => exact h
  · rename_i hw
    simp only [hw] at h
    exact ⟨keep a hy _, by rw [← Act.put_comm a v undef h2]; exact h⟩
theorem mix_first {i : Nat} {oi : Oper} {v : Value} (hi : ops[i]? = some oi) (hsel : ∀ (j : Nat) (o : Oper) cs b, ops[j]? = some o → o.op ≠ .select cs b) :
    ∀ (fuel : Nat) (listed : Array Bool) (a : Act) (w : World), C w →
      (∀ j oj, ops[j]? = some oj → j ≠ i → listed.getD j true = false → (∀ e ∈ oj.after, Region.binds md e = true → e.on ≠ i) → oi.apart ops oj = true ∧ E.contains j = false) →
      i ∈ Region.ready md ops listed → YieldsC P ops C oi v a →
      wpMix P md ops C E Q fuel (listed.setIfInBounds i true) (a.put oi.dst v) w → wpMix P md ops C E Q (fuel + 1) listed a w := by
  intro fuel
  induction fuel with
  | zero =>
    intro listed a w hC _ hr hy H
    refine ⟨fun h => (by rw [h] at hr; cases hr), fun j hj => ?_⟩
    by_cases hji : j = i
    · subst hji; exact hy.mixOp hi hC ⟨.inr hC, H⟩
    · have := ready_mono hj hji
      rw [H.1] at this
      cases this
  | succ fuel ih =>
    intro listed a w hC hfree hr hy H
    refine ⟨fun h => (by rw [h] at hr; cases hr), fun j hj => ?_⟩
    by_cases hji : j = i
    · subst hji; exact hy.mixOp hi hC ⟨.inr hC, H⟩
    · have h1 := H.2 j (ready_mono hj hji)
      obtain ⟨hjun, oj, hoj, hall⟩ := mem_ready.1 hj
      have hnot : ∀ e ∈ oj.after, Region.binds md e = true → e.on ≠ i := fun e he hb heq => by
        have h1 := hall e he hb
        have h0 := (mem_ready.1 hr).1
        rw [heq] at h1
        rcases Nat.lt_or_ge i listed.size with h' | h'
        · simp [h'] at h0 h1; rw [h0] at h1; cases h1
        · simp [Array.getElem?_eq_none h'] at h1
      obtain ⟨hap, hE⟩ := hfree j oj hoj hji hjun hnot
      have h2 := mixOp_put hoj hap (fun cs b => hsel i oi cs b hi) (fun cs b => hsel j oj cs b hoj) hy h1
      have hfree' : ∀ k ok, ops[k]? = some ok → k ≠ i → (listed.setIfInBounds j true).getD k true = false →
          (∀ e ∈ ok.after, Region.binds md e = true → e.on ≠ i) → oi.apart ops ok = true ∧ E.contains k = false := fun k ok hk hki hun hno => by
        refine hfree k ok hk hki ?_ hno
        by_cases hjk : j = k
        · subst hjk; exact hjun
        · rw [getD_set_ne true hjk] at hun; exact hun
      refine mixOp_mono (fun a' w' h3 => ?_) h2
      have hC' : C w' := by
        rcases h3.2.1 with ⟨e, _⟩ | e
        · rw [hE] at e; cases e
        · exact e
      refine ⟨.inr hC', ih (listed.setIfInBounds j true) a' w' hC' hfree' (ready_mono hr (Ne.symm hji)) h3.1 ?_⟩
      rw [Array.setIfInBounds_comm _ _ hji]
      exact h3.2.2
def pureAt (ops : Array Oper) (i : Nat) : Bool := match ops[i]? with | some o => pureOp o.op | none => false
def freeE (md : Region.Mode) (ops : Array Oper) (E : List Nat) (listed : Array Bool) (i : Nat) : Bool :=
  E.all fun j => j != i && match ops[j]? with
    | some oj => oj.after.any (fun e => Region.binds md e && e.on == i)
    | none => true
def mark : Nat → Nat → Array Bool → Array Bool
  | _, 0, listed => listed
  | k, n + 1, listed => mark (k + 1) n (listed.setIfInBounds k true)
def segB (md : Region.Mode) (ops : Array Oper) (E : List Nat) : Nat → Nat → Array Bool → Bool
  | _, 0, _ => true
  | k, n + 1, listed => pureAt ops k && (Region.ready md ops listed).contains k && Region.free md ops listed k && freeE md ops E listed k && segB md ops E (k + 1) n (listed.setIfInBounds k true)
theorem yieldsC_of_quiet {o : Oper} {a : Act} {K : Act → Prop} (hp : pureOp o.op = true)
    (h : if Region.wanted o (yielded ops a.tmps) then o.quiet P a C K else K (a.put o.dst undef)) : ∃ v, YieldsC P ops C o v a ∧ K (a.put o.dst v) := by
  by_cases hw : Region.wanted o (yielded ops a.tmps) = true
  · rw [if_pos hw] at h
    obtain ⟨v, h1, h2⟩ := h
    refine ⟨v, .inl ⟨hw, fun w hC => ?_⟩, h2⟩
    have h3 := h1 w hC
    unfold Oper.quietAt at h3
    have hne := pure_noEnter (ρ := a.eval) hp P w
    generalize (execOp a.eval o).run P w = r at *
    cases r with
    | ok n w' =>
      cases n <;> simp only [Oper.quietUpon] at h3
      case value u => obtain ⟨rfl, rfl⟩ := h3; exact .inl rfl
      case skip => obtain ⟨rfl, rfl⟩ := h3; exact .inr ⟨rfl, rfl⟩
      case enter f args => exact absurd rfl (hne w' f args)
    | halt x w' => simp only [Oper.quietUpon] at h3
  · rw [if_neg hw] at h
    exact ⟨undef, .inr ⟨by simpa using hw, rfl⟩, h⟩
theorem seg_go (hs : Region.noSelect ops = true) : ∀ (l : List Oper) (k : Nat) (listed : Array Bool) (a : Act) (w : World) (fuel : Nat), (∀ j, j < l.length → l[j]? = ops[k + j]?) →
    segB md ops E k l.length listed = true → C w → wpQuiet P ops C (fun a' => wpMix P md ops C E Q fuel (mark k l.length listed) a' w) l a → wpMix P md ops C E Q (fuel + l.length) listed a w
  | [], k, listed, a, w, fuel, _, _, _, h => h
  | o :: l, k, listed, a, w, fuel, hl, hB, hC, h => by
    have h0 : ops[k]? = some o := by simpa using (hl 0 (by simp)).symm
    simp only [List.length_cons, segB, Bool.and_eq_true] at hB
    obtain ⟨⟨⟨⟨hp, hr⟩, hf⟩, hE⟩, hB'⟩ := hB
    have hp' : pureOp o.op = true := by unfold pureAt at hp; rw [h0] at hp; exact hp
    obtain ⟨v, hy, hK⟩ := yieldsC_of_quiet hp' h
    have := seg_go hs l (k + 1) (listed.setIfInBounds k true) (a.put o.dst v) w fuel (fun j hj => by have := hl (j + 1) (by simpa using hj); simpa [Nat.add_assoc, Nat.add_comm 1 j] using this) hB' hC hK
    refine mix_first (C := C) h0 (Region.noSelect_spec hs) (fuel + l.length) listed a w hC (fun j oj hj hne hun hno => ⟨Region.free_spec h0 hf j oj hj hne hun hno, ?_⟩) (by simpa using hr) hy this
    cases hc : E.contains j with
    | false => rfl
    | true =>
      exfalso
      have h1 := List.all_eq_true.1 hE j (by simpa using hc)
      simp only [hj, Bool.and_eq_true] at h1
      obtain ⟨e, he, hb⟩ := Array.any_eq_true'.1 h1.2
      simp only [Bool.and_eq_true, beq_iff_eq] at hb
      exact hno e he hb.1 hb.2
end
section
variable {P : Program} {md : Region.Mode} {l : List Oper} {C : World → Prop} {E : List Nat} {Q : Act → World → Prop} {F : Nat} {listed : Array Bool} {a : Act} {w : World}
/-- So many reading operations, one behind the other in the text, are taken now. -/
theorem mix_seg (k n fuel : Nat) (hs : Region.noSelect l.toArray = true) (hB : segB md l.toArray E k n listed = true) (hn : ((l.drop k).take n).length = n) (hF : F = fuel + n) (hC : C w)
    (h : wpQuiet P l.toArray C (fun a' => wpMix P md l.toArray C E Q fuel (mark k n listed) a' w) ((l.drop k).take n) a) : wpMix P md l.toArray C E Q F listed a w := by
  subst hF
  have := seg_go (P := P) (md := md) (ops := l.toArray) (C := C) (E := E) (Q := Q) hs ((l.drop k).take n) k listed a w fuel (fun j hj => by
    rw [hn] at hj
    rw [List.getElem?_take, if_pos hj, List.getElem?_drop]; simp) (by rw [hn]; exact hB) hC (by rw [hn]; exact h)
  rwa [hn] at this
/-- What is asked behind an operation that makes or writes memory. -/
def MixPost (P : Program) (md : Region.Mode) (ops : Array Oper) (C : World → Prop) (E : List Nat) (Q : Act → World → Prop) (fuel i : Nat) (listed : Array Bool) : Exit → Act → World → Prop
  | .normal, a, w => ((E.contains i = true ∧ fuel = 0) ∨ C w) ∧ wpMix P md ops C E Q fuel (listed.setIfInBounds i true) a w
  | _, _, _ => False
theorem mixOp_of_list {i : Nat} {o : Oper} {fuel : Nat} (hi : l[i]? = some o) (h : wpList P l.toArray (MixPost P md l.toArray C E Q fuel i listed) [o] a w) :
    mixOp P l.toArray i (fun a' w' => ((E.contains i = true ∧ fuel = 0) ∨ C w') ∧ wpMix P md l.toArray C E Q fuel (listed.setIfInBounds i true) a' w') a w := by
  unfold mixOp
  rw [show l.toArray[i]? = some o by simpa using hi]
  simp only
  unfold wpList at h
  split
  · rename_i hw
    rw [if_pos hw] at h
    rcases h with h | ⟨_, _, _, h⟩
    · have hm : ∀ a w, wpList P l.toArray (MixPost P md l.toArray C E Q fuel i listed) [] a w → ((E.contains i = true ∧ fuel = 0) ∨ C w) ∧ wpMix P md l.toArray C E Q fuel (listed.setIfInBounds i true) a w := fun a w h => h
      unfold Oper.wp at *
      generalize (execOp a.eval o).run P w = r at *
      cases r with
      | ok n w' =>
        cases n <;> simp only [Oper.upon] at h ⊢ <;>
          first
            | exact hm _ _ h
            | (refine Calls.mono h (fun e w'' he => ?_); cases e with
                | returned u => exact hm _ _ he
                | panicked c => exact (he : False).elim
                | outgrown => obtain ⟨_, _, hf⟩ := he; exact (hf : False).elim)
            | exact Rows.mono h (fun _ _ he => hm _ _ he)
      | halt x w' => cases x <;> simp only [Oper.upon] at h ⊢ <;> exact (h : False).elim
    · exact (h : False).elim
  · rename_i hw
    rw [if_neg hw] at h
    exact h
theorem one_take {α : Type} {l : List α} {j : Nat} (hj : j < l.length) : (l.drop j).take 1 = [l[j]] := by rw [List.drop_eq_getElem_cons hj, List.take_succ_cons, List.take_zero]
/-- The one operation that can come up now. -/
theorem mix_one (i fuel : Nat) (hr : Region.ready md l.toArray listed = [i]) (hF : F = fuel + 1) (hn : ((l.drop i).take 1).length = 1)
    (h : wpList P l.toArray (MixPost P md l.toArray C E Q fuel i listed) ((l.drop i).take 1) a w) : wpMix P md l.toArray C E Q F listed a w := by
  subst hF
  refine ⟨fun h0 => (by rw [hr] at h0; cases h0), fun j hj => ?_⟩
  rw [hr] at hj
  obtain rfl : j = i := by simpa using hj
  have hj : j < l.length := by simp at hn; omega
  exact mixOp_of_list (o := l[j]) (List.getElem?_eq_getElem hj) (by rw [← one_take hj]; exact h)
/-- The two that can. -/
theorem mix_two (i j fuel : Nat) (hr : Region.ready md l.toArray listed = [i, j]) (hF : F = fuel + 1) (hn : ((l.drop i).take 1).length = 1) (hm : ((l.drop j).take 1).length = 1)
    (h : wpList P l.toArray (MixPost P md l.toArray C E Q fuel i listed) ((l.drop i).take 1) a w)
    (h' : wpList P l.toArray (MixPost P md l.toArray C E Q fuel j listed) ((l.drop j).take 1) a w) : wpMix P md l.toArray C E Q F listed a w := by
  subst hF
  refine ⟨fun h0 => (by rw [hr] at h0; cases h0), fun k hk => ?_⟩
  rw [hr] at hk
  simp only [List.mem_cons, List.not_mem_nil, or_false] at hk
  rcases hk with rfl | rfl
  · have hj : k < l.length := by simp at hn; omega
    exact mixOp_of_list (o := l[k]) (List.getElem?_eq_getElem hj) (by rw [← one_take hj]; exact h)
  · have hj : k < l.length := by simp at hm; omega
    exact mixOp_of_list (o := l[k]) (List.getElem?_eq_getElem hj) (by rw [← one_take hj]; exact h')
theorem mix_end (hr : Region.ready md l.toArray listed = []) (h : Q a w) : wpMix P md l.toArray C E Q 0 listed a w := ⟨hr, h⟩
end
/-- A region that draws: E: operations that are the last, and may leave the class. -/
theorem wp_region_mix {P : Program} {id : Nat} {Q : Exit → Act → World → Prop} {a : Act} {w : World} {l : List Oper} (C : World → Prop) (E : List Nat) (hm : P.follows .mixedOrders = true)
    (h : wpMix P .any l.toArray C E (fun a' w' => Q .normal a' w') l.length (Array.replicate l.length false) a w.drew) : (Code.region id l.toArray true).wp P Q a w :=
  wp_region_any hm (any_of_mix (C := C) (E := E) (Q := fun a' w' => Q .normal a' w') (fun _ _ h => h) _ _ _ _ (by simpa using h))
end Go.Proofs.YtkiimljdoebclaaDoor.Mix
