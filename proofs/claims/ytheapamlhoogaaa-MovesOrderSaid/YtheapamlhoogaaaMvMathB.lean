/- Rings: what is left when no place that is to be written is read by none. -/
import Derived.Test.YtheapamlhoogaaaMvMath
namespace Go.Proofs.Ytheapamlhoogaaa.Mv
set_option linter.unusedVariables false

theorem perm_of_counts : ∀ (K V : List Int), K.Nodup → K.length = V.length → (∀ k ∈ K, 1 ≤ V.count k) → V.Perm K
  | [], V, _, hl, _ => by
    have : V = [] := List.eq_nil_of_length_eq_zero hl.symm
    rw [this]
  | k :: K, V, hn, hl, hc => by
    have hk : k ∈ V := List.count_pos_iff.1 (hc k (List.mem_cons_self ..))
    have hn' := List.nodup_cons.1 hn
    have h1 := List.perm_cons_erase hk
    refine h1.trans (List.Perm.cons k (perm_of_counts K (V.erase k) hn'.2 ?_ fun x hx => ?_))
    · rw [List.length_erase_of_mem hk]; simp at hl; omega
    · have hne : x ≠ k := fun e => hn'.1 (e ▸ hx)
      rw [List.count_erase_of_ne hne]
      exact hc x (List.mem_cons_of_mem _ hx)
theorem once_nodup : ∀ {al : List Pr}, Once al → (al.map (·.1)).Nodup
  | [], _ => List.nodup_nil
  | (a, b) :: al, h => by
    rw [List.map_cons, List.nodup_cons]
    refine ⟨fun hm => ?_, once_nodup h.2⟩
    obtain ⟨⟨x, y⟩, h1, h2⟩ := List.mem_map.1 hm
    simp only at h2
    subst h2
    have h3 : aget al x = none := h.1
    rw [mem_aget h.2 h1] at h3
    cases h3
theorem inj_of_nodup : ∀ {al : List Pr}, (al.map (·.2)).Nodup → ∀ {a b s : Int}, (a, s) ∈ al → (b, s) ∈ al → a = b
  | [], _, _, _, _, h, _ => by cases h
  | (x, y) :: al, hn, a, b, s, h1, h2 => by
    rw [List.map_cons, List.nodup_cons] at hn
    rcases List.mem_cons.1 h1 with e1 | e1
    · rcases List.mem_cons.1 h2 with e2 | e2
      · injection e1 with p1 p2; injection e2 with p3 p4; rw [p1, p3]
      · injection e1 with p1 p2; subst p2; exact absurd (List.mem_map.2 ⟨_, e2, rfl⟩) hn.1
    · rcases List.mem_cons.1 h2 with e2 | e2
      · injection e2 with p1 p2; subst p2; exact absurd (List.mem_map.2 ⟨_, e1, rfl⟩) hn.1
      · exact inj_of_nodup hn.2 e1 e2
/-- What is to be done is rings alone. -/
structure Rings (al : List Pr) : Prop where
  once : Once al
  inj : ∀ a b s, aget al a = some s → aget al b = some s → a = b
  closed : ∀ a s, aget al a = some s → ∃ r, aget al s = some r
theorem rings_of {al : List Pr} (ho : Once al) (hz : ∀ t, ¬ Zero al t) : Rings al := by
  have hp : (al.map (·.2)).Perm (al.map (·.1)) := by
    refine perm_of_counts _ _ (once_nodup ho) (by simp) fun k hk => ?_
    obtain ⟨⟨x, y⟩, h1, h2⟩ := List.mem_map.1 hk
    simp only at h2
    subst h2
    rw [← cnt_count]
    rcases Nat.eq_zero_or_pos (cnt al x) with h | h
    · exact absurd ⟨⟨y, mem_aget ho h1⟩, h⟩ (hz x)
    · exact h
  have hn : (al.map (·.2)).Nodup := hp.nodup_iff.2 (once_nodup ho)
  refine ⟨ho, fun a b s h1 h2 => inj_of_nodup hn (aget_mem h1) (aget_mem h2), fun a s h => ?_⟩
  have hs : s ∈ al.map (·.1) := hp.mem_iff.1 (List.mem_map.2 ⟨_, aget_mem h, rfl⟩)
  obtain ⟨⟨x, y⟩, h1, h2⟩ := List.mem_map.1 hs
  simp only at h2
  subst h2
  exact ⟨y, mem_aget ho h1⟩
/-- A way from a place over others to an end. -/
def chain (G : Int → Int) : Int → List Int → Int → Prop
  | a, [], e => G a = e
  | a, b :: r, e => G a = b ∧ chain G b r e
theorem chain_split {G : Int → Int} : ∀ {a : Int} {A : List Int} {b : Int} {D : List Int} {e : Int}, chain G a (A ++ b :: D) e → chain G a A b ∧ chain G b D e
  | a, [], b, D, e, h => h
  | a, x :: A, b, D, e, h => ⟨⟨h.1, (chain_split h.2).1⟩, (chain_split h.2).2⟩
theorem chain_join {G : Int → Int} : ∀ {a : Int} {A : List Int} {b : Int} {D : List Int} {e : Int}, chain G a A b → chain G b D e → chain G a (A ++ b :: D) e
  | a, [], b, D, e, h1, h2 => ⟨h1, h2⟩
  | a, x :: A, b, D, e, h1, h2 => ⟨h1.1, chain_join h1.2 h2⟩
section
variable {l : List Pr} {sp : Int} {al ol : List Pr}
/-- One round of a ring: from a place to the first one again. -/
theorem inner_ok (hO : Ok l sp) (B : Int → Bool) (G : Int → Int) (hG : ∀ t s, (t, s) ∈ l → t ≠ s → G t = s) : ∀ (n : Nat) (al ol : List Pr) (to first : Int), al.length ≤ n → Once al → (∀ a b s, aget al a = some s → aget al b = some s → a = b) → (∃ s, aget al to = some s) → (∀ a s, aget al a = some s → s = first ∨ ∃ r, aget al s = some r) → (∀ a, aget al a = some to → to = first) →
    Stt l sp al ol → Hd ol sp = first → to ≠ sp →
    ∃ al' ol' T, innerM n al ol to first sp = some (al', ol') ∧ Rings al' ∧ Stt l sp al' ol' ∧ chain G to T first ∧ (∀ c ∈ to :: T, ∃ s, aget al c = some s) ∧ ol'.length + al'.length = ol.length + al.length ∧ many B al' + ((to :: T).filter B).length = many B al ∧ (to :: T).Nodup ∧ (∀ a s, aget al' a = some s → aget al a = some s) ∧ aget al' to = none ∧ al'.length + (to :: T).length = al.length
  | 0, al, ol, to, first, hn, ho, hi, ⟨s, hs⟩, hc, hp, hS, hsp, hts => by
    have : al = [] := List.eq_nil_of_length_eq_zero (by omega)
    rw [this] at hs; cases hs
  | n + 1, al, ol, to, first, hn, ho, hi, ⟨f, hs⟩, hc, hp, hS, hsp, hts => by
    obtain ⟨hm, hne⟩ := hS.sub to f hs
    have hlen := adel_len_some ho hs
    have hmd := many_del B ho hs
    have hsub : ∀ a s, aget (adel al to) a = some s → aget al a = some s := fun a s e => (adel_some e).2
    unfold innerM
    rw [hs, Option.getD_some]
    by_cases hf : f = first
    · rw [if_pos hf]
      refine ⟨_, _, [], rfl, ⟨ho.del to, fun a b s h1 h2 => hi a b s (hsub a s h1) (hsub b s h2), fun a s h => ?_⟩, hS.move hO hs hts (by rw [hsp, hf]), by show G to = first; rw [← hf]; exact hG to f hm hne, fun c hc' => ?_, ?_, ?_, ?_, hsub, aget_del_same _ _, by simp; omega⟩
      · obtain ⟨h1, h2⟩ := adel_some h
        have hsf : s ≠ first := fun e => h1 (hi a to s h2 (by rw [e, ← hf]; exact hs))
        rcases hc a s h2 with e | ⟨r, e⟩
        · exact absurd e hsf
        · have hst : s ≠ to := fun e' => hsf (by rw [e']; exact hp a (by rw [← e']; exact h2))
          exact ⟨r, by rw [aget_del_other _ hst]; exact e⟩
      · simp at hc'; subst hc'; exact ⟨f, hs⟩
      · rw [List.length_append]; simp; omega
      · rw [hmd, List.filter_cons]; split <;> simp
      · simp
    · rw [if_neg hf]
      obtain ⟨r, hr⟩ : ∃ r, aget al f = some r := (hc to f hs).elim (fun e => absurd e hf) id
      have hft : f ≠ to := fun e => hne e.symm
      have hr' : aget (adel al to) f = some r := by rw [aget_del_other _ hft]; exact hr
      have hfs : f ≠ sp := (hO.free to f hm).2
      obtain ⟨al', ol', T, k1, k2, k3, k4, k5, k6, k7, k8, k9, k10, k11⟩ := inner_ok hO B G hG n (adel al to) (ol ++ [(to, f)]) f first (by omega) (ho.del to) (fun a b s h1 h2 => hi a b s (hsub a s h1) (hsub b s h2)) ⟨r, hr'⟩ (fun a s h => by
          obtain ⟨h1, h2⟩ := adel_some h
          rcases hc a s h2 with e | ⟨q, e⟩
          · exact .inl e
          · by_cases hst : s = to
            · exact .inl (by rw [hst]; exact hp a (by rw [← hst]; exact h2))
            · exact .inr ⟨q, by rw [aget_del_other _ hst]; exact e⟩) (fun a h => by
          obtain ⟨h1, h2⟩ := adel_some h
          exact absurd (hi a to f h2 hs) h1) (hS.move hO hs hne (hS.pend f r hr)) (by rw [Hd_snoc, if_neg (fun e => hts e.symm)]; exact hsp) hfs
      refine ⟨al', ol', f :: T, k1, k2, k3, ⟨hG to f hm hne, k4⟩, fun c hc' => ?_, ?_, ?_, ?_, fun a s h => hsub a s (k9 a s h), ?_, ?_⟩
      · rcases List.mem_cons.1 hc' with e | e
        · subst e; exact ⟨f, hs⟩
        · obtain ⟨s, h⟩ := k5 c e; exact ⟨s, hsub c s h⟩
      · rw [k6, List.length_append]; simp; omega
      · rw [hmd, List.filter_cons]
        split
        · rw [List.length_cons]; omega
        · omega
      · rw [List.nodup_cons]
        refine ⟨fun e => ?_, k8⟩
        obtain ⟨s, h⟩ := k5 to e
        rw [aget_del_same] at h; cases h
      · cases h : aget al' to with
        | none => rfl
        | some s => have := k9 to s h; rw [aget_del_same] at this; cases this
      · rw [List.length_cons]; omega
end
end Go.Proofs.Ytheapamlhoogaaa.Mv
