/- A law's post behind a call that made memory of its own and left what was there as it was (Below): nothing is asked of new blocks' frozen ranges. -/
import Derived.Below
import Derived.ChangeSame
import Derived.RowKit
namespace Go.Proofs.YtkiimljdoebclaaDoor
open Go.RowKit Go.WideShapes Go.ChangeShapes
set_option linter.unusedVariables false

theorem postKept {H : Type} {enc : TypeId × Value → H} {P : Program} {f : Func} {s : ChangeSpec} {x1 x2 x3 x4 : Bool} {w u : World} {as : Array Value} {r : Value} {ins gvs : List (DataW H)} {held qa qv : List MemPlace}
    (reads : DataW.Whole enc P f.params.toList s.vars x1 w as.toList ins gvs held) (split : held = qa ++ qv) (old : Below w.heap.size w u)
    (tells : ∀ (n : Nat) (k : Nat → Bool) (h : Bool), DataW.TrodAll enc P u n k h f.resultTypes.toList (r.resultList f.resultTypes.size) (s.fn H (ins ++ gvs)).results [])
    (wide : ∀ (i : Nat) (t : TypeId) (x : Value), f.resultTypes[i]? = some t → (r.resultList f.resultTypes.size)[i]? = some x → Value.okWide P u .any 0 t x)
    (argsAs : ∀ k : Nat → Bool, (∀ p ∈ held, k p.block = true) → DataW.TrodAll enc P u 0 k true f.params.toList as.toList (s.fn H (ins ++ gvs)).args qa)
    (varsAs : ∀ k : Nat → Bool, (∀ p ∈ held, k p.block = true) → DataW.TrodVars enc P u k s.vars (s.fn H (ins ++ gvs)).vars qv) :
    s.post enc P f x1 x2 x3 x4 w as r u := by
  have there : ∀ p ∈ held, p.block < w.heap.size := fun p hp => reads.lt p hp
  have all : ∀ p, p ∈ held ↔ p ∈ qa ∨ p ∈ qv := fun p => by rw [split, List.mem_append]
  have dec : ∀ p ∈ held, decide (p.block < w.heap.size) = true := fun p hp => decide_eq_true (there p hp)
  refine ⟨ins, gvs, held, [], qa, qv, reads, tells _ _ _, argsAs (fun b => decide (b < w.heap.size)) dec, varsAs (fun b => decide (b < w.heap.size)) dec, ?_, fun _ => ⟨wide, ?_⟩⟩
  · exact World.keptBut_mono (fun p hp => ⟨hp, by have := (all p).1 hp; simpa using this⟩) (old.frame fun p => p ∈ held)
  · obtain ⟨_, _, _, _, _, free, once⟩ := reads
    refine ⟨_, _, ([] ++ qa) ++ qv, ⟨[] ++ qa, qv, trodAll_append (argsAs (fun _ => true) fun _ _ => rfl) (tells _ _ _), varsAs (fun _ => true) fun _ _ => rfl, rfl, fun b o hp => ?_, fun ha => ?_⟩, fun p hp _ => ?_⟩
    · have hin : MemPlace.cell b o ∈ held := (all _).2 (by simpa using hp)
      exact (old.frozen (there _ hin)).trans (free b o hin)
    · have := once ha
      rw [split] at this
      simpa using this
    · have := (all p).2 (by simpa using hp)
      exact this
end Go.Proofs.YtkiimljdoebclaaDoor
