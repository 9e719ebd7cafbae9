/- What Order makes of moves that may be done at once, reckoned: what each place has then, and how many there are. -/
import Derived.Test.YtheapamlhoogaaaMvM
namespace Go.Proofs.Ytheapamlhoogaaa.Mv
set_option linter.unusedVariables false

/-- One move done. -/
def put1 (H : Int → Int) (t : Pr) : Int → Int := fun x => if x = t.1 then H t.2 else H x
def runM (l : List Pr) (H : Int → Int) : Int → Int := l.foldl put1 H
theorem runM_snoc (l : List Pr) (t : Pr) (H : Int → Int) : runM (l ++ [t]) H = put1 (runM l H) t := by simp [runM, List.foldl_append]
abbrev Hd (ol : List Pr) : Int → Int := runM ol (fun x => x)
theorem Hd_snoc (ol : List Pr) (t s x : Int) : Hd (ol ++ [(t, s)]) x = if x = t then Hd ol s else Hd ol x := by
  show runM (ol ++ [(t, s)]) _ x = _
  rw [runM_snoc]; rfl

theorem aget_mem {al : List Pr} {t s : Int} (h : aget al t = some s) : (t, s) ∈ al := by
  induction al with
  | nil => cases h
  | cons p al ih =>
    obtain ⟨a, b⟩ := p
    rw [aget_cons] at h
    split at h
    · next e => injection h with h; subst e h; exact List.mem_cons_self ..
    · exact List.mem_cons_of_mem _ (ih h)
theorem mem_aget {al : List Pr} (ho : Once al) {t s : Int} (h : (t, s) ∈ al) : aget al t = some s := by
  induction al with
  | nil => cases h
  | cons p al ih =>
    obtain ⟨a, b⟩ := p
    rw [aget_cons]
    rcases List.mem_cons.1 h with h | h
    · injection h with h1 h2; subst h1 h2; rw [if_pos rfl]
    · have := ih ho.2 h
      rw [if_neg]
      · exact this
      · intro e; subst e; rw [ho.1] at this; cases this
def cnt : List Pr → Int → Nat
  | [], _ => 0
  | (_, b) :: l, x => (if b = x then 1 else 0) + cnt l x
theorem cnt_del : ∀ {al : List Pr} {t s : Int}, Once al → aget al t = some s → ∀ x, cnt al x = cnt (adel al t) x + (if s = x then 1 else 0)
  | [], _, _, _, h, _ => by cases h
  | (a, b) :: al, t, s, ho, h, x => by
    rw [aget_cons] at h
    rw [adel, cnt]
    by_cases e : a = t
    · rw [if_pos e] at h ⊢
      injection h with h
      subst e h
      rw [adel_none ho.1]; omega
    · rw [if_neg e] at h ⊢
      rw [cnt, cnt_del ho.2 h x]; omega
theorem cnt_zero : ∀ {al : List Pr} {x : Int}, cnt al x = 0 → ∀ t, aget al t ≠ some x
  | [], _, _, _, h => by cases h
  | (a, b) :: al, x, hc, t, h => by
    rw [cnt] at hc
    rw [aget_cons] at h
    split at h
    · injection h with h; subst h; rw [if_pos rfl] at hc; omega
    · exact cnt_zero (by omega) t h
theorem cnt_le (al : List Pr) (x : Int) : cnt al x ≤ al.length := by
  induction al with
  | nil => exact Nat.le_refl _
  | cons p al ih => obtain ⟨a, b⟩ := p; rw [cnt, List.length_cons]; split <;> omega
theorem cnt_count (al : List Pr) (x : Int) : cnt al x = (al.map (·.2)).count x := by
  induction al with
  | nil => rfl
  | cons p al ih =>
    obtain ⟨a, b⟩ := p
    rw [cnt, List.map_cons, List.count_cons, ih]
    by_cases e : b = x
    · subst e; simp; omega
    · simp [e]
theorem w64_small {x : Int} (h : 0 ≤ x) (h2 : x ≤ 1000000) : w64 x = x := by
  unfold w64; simp only [IntKind.wrap, IntKind.bits, IntKind.signed]; simp; omega
/-- The readers are counted. -/
def RC (al rl : List Pr) : Prop := ∀ s, (aget rl s).getD 0 = (cnt al s : Int)
section
variable (l : List Pr) (sp : Int)
/-- What is asked of moves. -/
structure Ok : Prop where
  uniq : ∀ t s s', (t, s) ∈ l → (t, s') ∈ l → s = s'
  free : ∀ t s, (t, s) ∈ l → t ≠ sp ∧ s ≠ sp
  pos : ∀ t s, (t, s) ∈ l → 0 ≤ t ∧ 0 ≤ s
  len : l.length ≤ 64
/-- Some moves are done, others, al, are yet to be done. -/
structure Stt (al ol : List Pr) : Prop where
  once : Once al
  sub : ∀ t s, aget al t = some s → (t, s) ∈ l ∧ t ≠ s
  pend : ∀ t s, aget al t = some s → Hd ol t = t
  done : ∀ t s, (t, s) ∈ l → t ≠ s → aget al t = none → Hd ol t = s
  rest : ∀ p, (∀ s, (p, s) ∉ l) → p ≠ sp → Hd ol p = p
  keep : ∀ t, (t, t) ∈ l → Hd ol t = t
  ne : ∀ m ∈ ol, m.1 ≠ m.2
  wh : ∀ m ∈ ol, m.1 = sp ∨ ∃ s, (m.1, s) ∈ l
/-- Each source of what is to be done has its own yet. -/
def Src (al ol : List Pr) : Prop := ∀ t s, aget al t = some s → Hd ol s = s
end
section
variable {l : List Pr} {sp : Int} {al rl ol : List Pr}
theorem adel_none_iff (al : List Pr) {to t : Int} (ho : Once al) (h : aget (adel al to) t = none) : t = to ∨ aget al t = none := by
  by_cases e : t = to
  · exact .inl e
  · rw [aget_del_other _ e] at h; exact .inr h
theorem adel_some {al : List Pr} {to t s : Int} (h : aget (adel al to) t = some s) : t ≠ to ∧ aget al t = some s := by
  by_cases e : t = to
  · subst e; rw [aget_del_same] at h; cases h
  · rw [aget_del_other _ e] at h; exact ⟨e, h⟩
theorem Stt.move (hO : Ok l sp) (h : Stt l sp al ol) {to s x : Int} (ht : aget al to = some s) (hx : to ≠ x) (hs : Hd ol x = s) : Stt l sp (adel al to) (ol ++ [(to, x)]) := by
  obtain ⟨hm, hne⟩ := h.sub to s ht
  refine ⟨h.once.del to, fun t s' e => h.sub t s' (adel_some e).2, fun t s' e => ?_, fun t s' e1 e2 e3 => ?_, fun p e1 e2 => ?_, fun t e => ?_, fun m hm' => ?_, fun m hm' => ?_⟩
  · rw [Hd_snoc, if_neg (adel_some e).1]; exact h.pend t s' (adel_some e).2
  · rw [Hd_snoc]
    by_cases e : t = to
    · subst e; rw [if_pos rfl, hs]; exact hO.uniq _ _ _ hm e1
    · rw [if_neg e]
      rcases adel_none_iff al h.once e3 with e4 | e4
      · exact absurd e4 e
      · exact h.done t s' e1 e2 e4
  · rw [Hd_snoc, if_neg (show ¬ p = to from fun e => e1 s (by rw [e]; exact hm))]; exact h.rest p e1 e2
  · rw [Hd_snoc, if_neg (fun e' => by subst e'; exact hne (hO.uniq _ _ _ e hm))]; exact h.keep t e
  · rcases List.mem_append.1 hm' with hm' | hm'
    · exact h.ne m hm'
    · simp at hm'; subst hm'; exact hx
  · rcases List.mem_append.1 hm' with hm' | hm'
    · exact h.wh m hm'
    · simp at hm'; subst hm'; exact .inr ⟨s, hm⟩
theorem Src.move (h : Src al ol) {to x : Int} (hno : ∀ t, aget al t ≠ some to) : Src (adel al to) (ol ++ [(to, x)]) := by
  intro t s e
  obtain ⟨e1, e2⟩ := adel_some e
  rw [Hd_snoc, if_neg (show ¬ s = to from fun e' => hno t (by rw [← e']; exact e2))]
  exact h t s e2
/-- One that is to be done, whose place nobody reads. -/
def Zero (al : List Pr) (t : Int) : Prop := (∃ s, aget al t = some s) ∧ cnt al t = 0
/-- How many of what is to be done have a property. -/
def many (B : Int → Bool) : List Pr → Nat
  | [] => 0
  | (a, _) :: l => (if B a = true then 1 else 0) + many B l
theorem many_del (B : Int → Bool) : ∀ {al : List Pr} {t s : Int}, Once al → aget al t = some s → many B al = many B (adel al t) + (if B t = true then 1 else 0)
  | [], _, _, _, h => by cases h
  | (a, b) :: al, t, s, ho, h => by
    rw [aget_cons] at h
    rw [adel, many]
    by_cases e : a = t
    · rw [if_pos e]; subst e; rw [adel_none ho.1]; omega
    · rw [if_neg e] at h ⊢
      rw [many, many_del B ho.2 h]; omega
theorem drain_ok (hO : Ok l sp) (B : Int → Bool) : ∀ (n : Nat) (al rl ol : List Pr) (to : Int) (R : Int → Prop), al.length < n → al.length ≤ 64 → Stt l sp al ol → Src al ol → RC al rl → (∀ t, Zero al t → R t ∨ t = to) →
    Stt l sp (drainM n al rl ol to).1 (drainM n al rl ol to).2.2 ∧ Src (drainM n al rl ol to).1 (drainM n al rl ol to).2.2 ∧ RC (drainM n al rl ol to).1 (drainM n al rl ol to).2.1 ∧ (∀ t, Zero (drainM n al rl ol to).1 t → R t) ∧
    (drainM n al rl ol to).2.2.length + (drainM n al rl ol to).1.length = ol.length + al.length ∧ (drainM n al rl ol to).1.length ≤ al.length ∧ many B (drainM n al rl ol to).1 ≤ many B al
  | 0, al, rl, ol, to, R, h, _, _, _, _, _ => by omega
  | n + 1, al, rl, ol, to, R, hn, h64, hS, hs, hR, hZ => by
    unfold drainM
    cases hA : aget al to with
    | none => exact ⟨hS, hs, hR, fun t ht => (hZ t ht).elim id (fun e => by subst e; obtain ⟨⟨s, h⟩, _⟩ := ht; rw [hA] at h; cases h), rfl, Nat.le_refl _, Nat.le_refl _⟩
    | some s =>
      simp only
      rw [hR to]
      by_cases hc : 0 < (cnt al to : Int)
      · rw [if_pos hc]
        exact ⟨hS, hs, hR, fun t ht => (hZ t ht).elim id (fun e => by subst e; have : cnt al t = 0 := ht.2; omega), rfl, Nat.le_refl _, Nat.le_refl _⟩
      · rw [if_neg hc]
        have hc0 : cnt al to = 0 := by omega
        have hno := cnt_zero hc0
        obtain ⟨_, hne⟩ := hS.sub to s hA
        have hlen := adel_len_some hS.once hA
        have hcs := cnt_del hS.once hA
        have hS' := hS.move hO hA hne (hs to s hA)
        have hs' := hs.move (x := s) hno
        have hR' : RC (adel al to) (aput rl s (w64 ((aget rl s).getD 0 - 1))) := by
          intro x
          have h1 := hcs x
          have h2 := cnt_le al x
          by_cases e : x = s
          · subst e
            rw [aget_put_same, Option.getD_some, hR x]
            rw [if_pos rfl] at h1
            rw [w64_small (by omega) (by omega)]; omega
          · rw [aget_put_other _ _ e, hR x]
            rw [if_neg (fun e' => e e'.symm)] at h1
            omega
        have hZ' : ∀ t, Zero (adel al to) t → R t ∨ t = s := by
          rintro t ⟨⟨s', h1⟩, h2⟩
          obtain ⟨h3, h4⟩ := adel_some h1
          by_cases e : t = s
          · exact .inr e
          · have h5 := hcs t
            rw [if_neg (fun e' => e e'.symm)] at h5
            rcases hZ t ⟨⟨s', h4⟩, by omega⟩ with h | h
            · exact .inl h
            · exact absurd h h3
        obtain ⟨k1, k2, k3, k4, k5, k6, k7⟩ := drain_ok hO B n (adel al to) _ (ol ++ [(to, s)]) s R (by omega) (by omega) hS' hs' hR' hZ'
        have hmd := many_del B hS.once hA
        refine ⟨k1, k2, k3, k4, ?_, by omega, by omega⟩
        rw [k5, List.length_append]; simp; omega
theorem drainAll_ok (hO : Ok l sp) (B : Int → Bool) : ∀ (ms : List Pr) (al rl ol : List Pr), al.length ≤ 64 → Stt l sp al ol → Src al ol → RC al rl → (∀ t, Zero al t → ∃ s, (t, s) ∈ ms) →
    Stt l sp (drainAll ms (al, rl, ol)).1 (drainAll ms (al, rl, ol)).2.2 ∧ Src (drainAll ms (al, rl, ol)).1 (drainAll ms (al, rl, ol)).2.2 ∧ (∀ t, ¬ Zero (drainAll ms (al, rl, ol)).1 t) ∧
    (drainAll ms (al, rl, ol)).2.2.length + (drainAll ms (al, rl, ol)).1.length = ol.length + al.length ∧ (drainAll ms (al, rl, ol)).1.length ≤ al.length ∧ many B (drainAll ms (al, rl, ol)).1 ≤ many B al
  | [], al, rl, ol, _, hS, hs, hR, hZ => ⟨hS, hs, (fun t h => by obtain ⟨s, h⟩ := hZ t h; cases h), rfl, Nat.le_refl _, Nat.le_refl _⟩
  | (t, s) :: ms, al, rl, ol, h64, hS, hs, hR, hZ => by
    obtain ⟨k1, k2, k3, k4, k5, k6, k7⟩ := drain_ok hO B (al.length + 1) al rl ol t (fun x => ∃ s, (x, s) ∈ ms) (by omega) h64 hS hs hR (fun x hx => by
      obtain ⟨s', h⟩ := hZ x hx
      rcases List.mem_cons.1 h with h | h
      · injection h with h _; exact .inr h
      · exact .inl ⟨s', h⟩)
    obtain ⟨j1, j2, j3, j4, j5, j6⟩ := drainAll_ok hO B ms _ _ _ (by omega) k1 k2 k3 k4
    exact ⟨j1, j2, j3, j4.trans k5, Nat.le_trans j5 k6, Nat.le_trans j6 k7⟩
end
end Go.Proofs.Ytheapamlhoogaaa.Mv
