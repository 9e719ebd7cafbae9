/- What Order answers, all that is asked of it: pure. -/
import Derived.Test.YtheapamlhoogaaaMvRefE
import Derived.WideShapes
namespace Go.Proofs.Ytheapamlhoogaaa
open Go.RowKit Go.Maps
set_option linter.unusedVariables false
set_option linter.unusedSimpArgs false

theorem hasR_nil : Mv.hasR [] = fun x => x := rfl
theorem done_has (res : List Mv.Pr) (x : Int) : Mv.hasR (Mv.doneG res []) x = Mv.Hd res x := by rw [Mv.has_done]; rfl
/-- All that the law asks of what Order answers. -/
structure Asked (l : List Mv.Pr) (sp : Int) (res : List Mv.Pr) (ok : Bool) : Prop where
  is : Mv.orderM l sp = some (res, ok)
  ok_ : ok = (Mv.mayM l && (!Mv.touches l sp && decide (0 ≤ sp)))
  no : ok = false → res = []
  len : ok = true → res.length ≤ Mv.leastR l ∧ res.length ≤ 128
  ne : ∀ m ∈ res, m.1 ≠ m.2
  has : ok = true → ∀ m ∈ l, Mv.hasR (Mv.doneG res []) m.1 = m.2
  known : ∀ e ∈ Mv.doneG res [], e.1 = sp ∨ ∃ m ∈ l, m.1 = e.1
theorem asked (l : List Mv.Pr) (sp : Int) : ∃ res ok, Asked l sp res ok := by
  have none_ : ∀ {b : Bool}, b = false → Mv.orderM l sp = some ([], false) → b = (Mv.mayM l && (!Mv.touches l sp && decide (0 ≤ sp))) → ∃ res ok, Asked l sp res ok := fun hb h1 h2 =>
    ⟨[], false, ⟨h1, by rw [← h2, hb], fun _ => rfl, (fun h => by cases h), (fun m h => by cases h), (fun h => by cases h), (fun e h => by cases h)⟩⟩
  by_cases h1 : Mv.mayM l = false
  · exact none_ rfl (by unfold Mv.orderM; rw [if_pos h1]) (by rw [h1]; rfl)
  · have h1' : Mv.mayM l = true := by cases h : Mv.mayM l <;> simp_all
    by_cases h2 : sp < 0
    · exact none_ rfl (by unfold Mv.orderM; rw [if_neg h1, if_pos h2]) (by rw [decide_eq_false (by omega : ¬ 0 ≤ sp)]; simp)
    · by_cases h3 : Mv.touches l sp = true
      · exact none_ rfl (by unfold Mv.orderM; rw [if_neg h1, if_neg h2, if_pos h3]) (by rw [h3]; simp)
      · have h3' : Mv.touches l sp = false := by cases h : Mv.touches l sp <;> simp_all
        obtain ⟨hO, hn⟩ := Mv.ok_of h1' h3'
        obtain ⟨res, r1, r2, r3, r4, r5, r6⟩ := Mv.shuf_ok hO hn
        refine ⟨res, true, ⟨by unfold Mv.orderM; rw [if_neg h1, if_neg h2, if_neg h3, r1]; rfl, by rw [h1', h3', decide_eq_true (by omega : 0 ≤ sp)]; rfl, (fun h => by cases h), fun _ => ⟨r2, r3⟩, r4, fun _ m hm => ?_, fun e he => ?_⟩⟩
        · rw [done_has]; exact r5 m.1 m.2 hm
        · rcases Mv.done_in res [] e he with ⟨e', h, _⟩ | ⟨e', h, h'⟩
          · cases h
          · rcases r6 e' h with h6 | ⟨s, h6⟩
            · exact .inl (by rw [← h', h6])
            · exact .inr ⟨_, h6, h'⟩
/-- What append makes of a slice that came in, behind a nil one. -/
theorem wpList_appcopy (w : World) {ops : Array Oper} {rest : List Oper} {o : Oper} {ac : Act} {Q : Exit → Act → World → Prop} (hgd : o.guard = none) (s x : Operand) (t e : TypeId)
    (ho : o.op = .call { callee := .builtin .append, args := #[s, x], argTypes := #[t, t] }) (ht : Try.prog.underlying t = some (.slice e)) (hinf : (Try.prog.info? e).map (fun i => (i.zero, i.size, i.bytes)) = some (some (.agg #[.int .i64 0, .int .i64 0]), 2, 16))
    (hs : ac.eval s = .slice none 0 0) (a : Option Addr) (n cap : Nat) (l : List Mv.Pr) (hx : ac.eval x = .slice a n cap) (hM : Movs w a n l) (hna : a = none → n = 0 ∧ cap = 0) (hn : n ≤ 1000000)
    (h : ∀ v w', w'.ownsRow w.heap.size e 2 v n (mrow l) → Below w.heap.size w w' → wpList Try.prog ops Q rest (ac.put o.dst v) w') : wpList Try.prog ops Q (o :: rest) ac w := by
  obtain ⟨i0, hi, hz0, hz1, hz2⟩ := info_parts hinf
  cases a with
  | none =>
    obtain ⟨rfl, rfl⟩ := hna rfl
    have hl : l = [] := List.eq_nil_of_length_eq_zero hM.len
    subst hl
    have hrun := run_append_owned_none (P := Try.prog) w w.heap.size t o.type e i0 2 ht hi (.slice none 0 0) 0 [] (World.ownsRow_nil w _ e 2)
    refine wpList_plain hgd fun _ hK => ?_
    unfold Oper.wp execOp
    simp only [ho, resolve, invoke, builtin, Sem.run_bind, Sem.run_pure, Result.andThen_ok, List.map_toArray, List.map_cons, List.map_nil, hs, hx, hrun]
    exact hK _ _ (h _ _ (World.ownsRow_nil w _ e 2) (Below.refl _ _))
  | some ad =>
    refine wpList_append_own w hgd s x t ho w.heap.size e i0 (.agg #[.int .i64 0, .int .i64 0]) 2 16 ht hi hz0 hz1 hz2 rfl (by decide) (.slice none 0 0) 0 [] hs (World.ownsRow_nil w _ e 2) ad n cap (mrow l) hx (by rw [mrow_len, hM.len]) ?_ ?_ (by unfold maxLen; omega) (by omega) (Nat.le_refl _) ?_
    · intro j u hj
      have hjl : j < l.length * 2 := by rw [← mrow_len]; exact (List.getElem?_eq_some_iff.1 hj).1
      have hlen := hM.len
      obtain ⟨b, off, e', hc⟩ := hM.at_ (by omega)
      injection e' with e'; subst e'
      obtain ⟨t', ht'⟩ : ∃ t', l[j / 2]? = some t' := ⟨_, List.getElem?_eq_getElem (by omega)⟩
      obtain ⟨c1, c2⟩ := hc _ _ ht'
      obtain ⟨m1, m2⟩ := mrow_get l _ _ ht'
      rw [WideShapes.add_plain]
      rcases Nat.mod_two_eq_zero_or_one j with hp | hp
      · have : j = j / 2 * 2 := by omega
        rw [← this] at c1 m1
        rw [hj] at m1; rw [c1, ← m1]
      · have : j = j / 2 * 2 + 1 := by omega
        rw [Nat.add_assoc, ← this] at c2
        rw [← this] at m2
        rw [hj] at m2; rw [c2, ← m2]
    · intro u hu
      unfold mrow at hu
      obtain ⟨t', _, ht'⟩ := List.mem_flatMap.1 hu
      simp at ht'
      rcases ht' with rfl | rfl <;> rfl
    · intro v' w' h1 h2 _
      rw [Nat.zero_add, List.nil_append] at h1
      exact h v' w' h1 ((Below.refl _ w).grown h2 (Nat.le_refl _) (fun k e => by cases e))
end Go.Proofs.Ytheapamlhoogaaa
