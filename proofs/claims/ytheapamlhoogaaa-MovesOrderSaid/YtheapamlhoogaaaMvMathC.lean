/- How few moves there must be; and that Order makes no more, which do what is asked. -/
import Derived.Test.YtheapamlhoogaaaMvMathB
namespace Go.Proofs.Ytheapamlhoogaaa.Mv
set_option linter.unusedVariables false

/-- The document's: where a place's comes from; -1. -/
def fromR : List Pr → Int → Int
  | [], _ => -1
  | (t, s) :: l, to => if t = to ∧ s ≠ to then s else fromR l to
def walkR (l : List Pr) (to : Int) : Nat → Int → Int → Int × Int
  | 0, least, at_ => (least, at_)
  | k + 1, least, at_ => if 0 ≤ at_ ∧ at_ ≠ to then walkR l to k (min least at_) (fromR l at_) else (least, at_)
/-- Is a place the least one of its ring? -/
def bonus (l : List Pr) (t s : Int) : Bool := let r := walkR l t l.length t s; decide (r.2 = t) && decide (r.1 = t)
def leastG (l : List Pr) : List Pr → Nat
  | [] => 0
  | (t, s) :: r => (if t = s then 0 else 1 + (if bonus l t s = true then 1 else 0)) + leastG l r
def leastR (l : List Pr) : Nat := leastG l l
def hasR : List Pr → Int → Int
  | [], x => x
  | (a, b) :: l, x => if a = x then b else hasR l x
def setR : List Pr → Int → Int → List Pr
  | [], _, _ => []
  | (a, b) :: l, t, v => (a, if a = t then v else b) :: setR l t v
def anyR : List Pr → Int → Bool
  | [], _ => false
  | (a, _) :: l, t => decide (a = t) || anyR l t
def stepR (h : List Pr) (t : Pr) : List Pr := if anyR h t.1 = true then setR h t.1 (hasR h t.2) else h ++ [(t.1, hasR h t.2)]
def doneG : List Pr → List Pr → List Pr
  | [], h => h
  | t :: l, h => doneG l (stepR h t)
theorem has_set : ∀ (h : List Pr) (t v x : Int), hasR (setR h t v) x = if x = t ∧ anyR h t = true then v else hasR h x
  | [], t, v, x => by simp [setR, hasR, anyR]
  | (a, b) :: h, t, v, x => by
    rw [setR, hasR, anyR, hasR, has_set h t v x]
    by_cases e1 : a = x
    · subst e1
      by_cases e2 : a = t
      · subst e2; simp
      · simp [e2]
    · by_cases e2 : x = t
      · subst e2; simp [e1]
      · simp [e1, e2]
theorem has_app : ∀ (h : List Pr) (t v x : Int), anyR h t = false → hasR (h ++ [(t, v)]) x = if x = t then v else hasR h x
  | [], t, v, x, _ => by
    show (if t = x then v else x) = if x = t then v else x
    by_cases e : t = x
    · subst e; simp
    · rw [if_neg e, if_neg (fun e' => e e'.symm)]
  | (a, b) :: h, t, v, x, hn => by
    rw [anyR] at hn
    simp only [Bool.or_eq_false_iff, decide_eq_false_iff_not] at hn
    show hasR ((a, b) :: (h ++ [(t, v)])) x = _
    rw [hasR, hasR, has_app h t v x hn.2]
    by_cases e1 : a = x
    · subst e1; simp [hn.1]
    · simp [e1]
theorem has_step (h : List Pr) (t : Pr) (x : Int) : hasR (stepR h t) x = if x = t.1 then hasR h t.2 else hasR h x := by
  unfold stepR
  cases e : anyR h t.1 with
  | true => rw [if_pos rfl, has_set, e]; simp
  | false => rw [if_neg (by simp), has_app h _ _ _ e]
theorem has_done : ∀ (ms h : List Pr) (x : Int), hasR (doneG ms h) x = runM ms (hasR h) x
  | [], h, x => rfl
  | t :: ms, h, x => by
    rw [doneG, has_done ms (stepR h t) x]
    show runM ms _ x = runM ms _ x
    congr 1
    funext y
    rw [has_step]; rfl
theorem set_in : ∀ (h : List Pr) (t v : Int), ∀ e ∈ setR h t v, ∃ e' ∈ h, e'.1 = e.1
  | [], _, _, e, he => by cases he
  | (a, b) :: h, t, v, e, he => by
    rw [setR] at he
    rcases List.mem_cons.1 he with he | he
    · exact ⟨_, List.mem_cons_self .., by rw [he]⟩
    · obtain ⟨e', h1, h2⟩ := set_in h t v e he
      exact ⟨e', List.mem_cons_of_mem _ h1, h2⟩
theorem done_in : ∀ (ms h : List Pr), ∀ e ∈ doneG ms h, (∃ e' ∈ h, e'.1 = e.1) ∨ ∃ e' ∈ ms, e'.1 = e.1
  | [], h, e, he => .inl ⟨e, he, rfl⟩
  | t :: ms, h, e, he => by
    rw [doneG] at he
    rcases done_in ms _ e he with ⟨e', h1, h2⟩ | ⟨e', h1, h2⟩
    · unfold stepR at h1
      split at h1
      · obtain ⟨e2, h3, h4⟩ := set_in _ _ _ e' h1
        exact .inl ⟨e2, h3, h4.trans h2⟩
      · rcases List.mem_append.1 h1 with h1 | h1
        · exact .inl ⟨e', h1, h2⟩
        · simp at h1; exact .inr ⟨t, List.mem_cons_self .., by rw [← h2, h1]⟩
    · exact .inr ⟨e', List.mem_cons_of_mem _ h1, h2⟩
section
variable {l : List Pr} {sp : Int}
theorem from_of (hu : ∀ t s s', (t, s) ∈ l → (t, s') ∈ l → s = s') {t s : Int} (h : (t, s) ∈ l) (hne : t ≠ s) : fromR l t = s := by
  induction l with
  | nil => cases h
  | cons p l ih =>
    obtain ⟨a, b⟩ := p
    rw [fromR]
    by_cases e : a = t ∧ b ≠ t
    · rw [if_pos e]
      obtain ⟨rfl, _⟩ := e
      exact hu a b s (List.mem_cons_self ..) h
    · rw [if_neg e]
      rcases List.mem_cons.1 h with h' | h'
      · injection h' with h1 h2
        exact absurd ⟨h1.symm, by rw [← h2]; exact fun e => hne e.symm⟩ e
      · exact ih (fun t s s' h1 h2 => hu t s s' (List.mem_cons_of_mem _ h1) (List.mem_cons_of_mem _ h2)) h'
theorem walk_chain {m : Int} : ∀ (L : List Int) (a : Int) (n : Nat), chain (fromR l) a L m → (∀ x ∈ L, 0 ≤ x ∧ x ≠ m ∧ m ≤ x) → L.length ≤ n → walkR l m n m (fromR l a) = (m, m)
  | [], a, n, h, _, _ => by
    rw [show fromR l a = m from h]
    cases n with
    | zero => rfl
    | succ n => rw [walkR, if_neg (fun e => e.2 rfl)]
  | b :: L, a, n, h, hL, hn => by
    obtain ⟨h1, h2⟩ := h
    obtain ⟨b1, b2, b3⟩ := hL b (List.mem_cons_self ..)
    rw [h1]
    cases n with
    | zero => simp at hn
    | succ n =>
      rw [walkR, if_pos ⟨b1, b2⟩, Int.min_eq_left b3]
      exact walk_chain L b n h2 (fun x hx => hL x (List.mem_cons_of_mem _ hx)) (by simp at hn; omega)
theorem min_of : ∀ (a : Int) (T : List Int), ∃ m ∈ a :: T, ∀ x ∈ a :: T, m ≤ x
  | a, [] => ⟨a, List.mem_cons_self .., fun x hx => by simp at hx; omega⟩
  | a, b :: T => by
    obtain ⟨m, h1, h2⟩ := min_of b T
    by_cases h : a ≤ m
    · exact ⟨a, List.mem_cons_self .., fun x hx => by
        rcases List.mem_cons.1 hx with e | e
        · omega
        · have := h2 x e; omega⟩
    · exact ⟨m, List.mem_cons_of_mem _ h1, fun x hx => by
        rcases List.mem_cons.1 hx with e | e
        · omega
        · exact h2 x e⟩
/-- Each ring has a least place. -/
theorem ring_bonus {first : Int} {T : List Int} (hc : chain (fromR l) first T first) (hp : ∀ c ∈ first :: T, 0 ≤ c) (hn : (first :: T).Nodup) (hlen : (first :: T).length ≤ l.length) : ∃ c ∈ first :: T, bonus l c (fromR l c) = true := by
  obtain ⟨m, hm, hmin⟩ := min_of first T
  obtain ⟨L, hL1, hL2, hL3⟩ : ∃ L, chain (fromR l) m L m ∧ (∀ x ∈ L, x ∈ first :: T ∧ x ≠ m) ∧ L.length ≤ l.length := by
    rcases List.mem_cons.1 hm with e | e
    · subst e
      exact ⟨T, hc, fun x hx => ⟨List.mem_cons_of_mem _ hx, fun e => (List.nodup_cons.1 hn).1 (e ▸ hx)⟩, by simp at hlen; omega⟩
    · obtain ⟨A, D, rfl⟩ := List.append_of_mem e
      obtain ⟨h1, h2⟩ := chain_split hc
      have hn2 : (first :: (A ++ m :: D)).Nodup := hn
      have hnd : (m :: (first :: (A ++ D))).Nodup := by
        refine (List.Perm.nodup_iff ?_).1 hn2
        have p1 : (A ++ m :: D).Perm (m :: (A ++ D)) := List.perm_middle
        exact (List.Perm.cons first p1).trans (List.Perm.swap m first _)
      have hm' := (List.nodup_cons.1 hnd).1
      refine ⟨D ++ first :: A, chain_join h2 h1, fun x hx => ⟨?_, fun e => hm' (e ▸ ?_)⟩, by simp at hlen ⊢; omega⟩
      · rcases List.mem_append.1 hx with h | h
        · exact List.mem_cons_of_mem _ (List.mem_append_right _ (List.mem_cons_of_mem _ h))
        · rcases List.mem_cons.1 h with h | h
          · rw [h]; exact List.mem_cons_self ..
          · exact List.mem_cons_of_mem _ (List.mem_append_left _ h)
      · rcases List.mem_append.1 hx with h | h
        · exact List.mem_cons_of_mem _ (List.mem_append_right _ h)
        · rcases List.mem_cons.1 h with h | h
          · rw [h]; exact List.mem_cons_self ..
          · exact List.mem_cons_of_mem _ (List.mem_append_left _ h)
  refine ⟨m, hm, ?_⟩
  unfold bonus
  rw [walk_chain L m l.length hL1 (fun x hx => ⟨hp x (hL2 x hx).1, (hL2 x hx).2, hmin x (hL2 x hx).1⟩) hL3]
  simp
abbrev bonK (l : List Pr) (c : Int) : Bool := bonus l c (fromR l c)
theorem filter_pos {B : Int → Bool} {L : List Int} {c : Int} (h : c ∈ L) (hb : B c = true) : 1 ≤ (L.filter B).length := by
  have : c ∈ L.filter B := List.mem_filter.2 ⟨h, hb⟩
  exact List.length_pos_of_mem this
theorem rings_ok (hO : Ok l sp) : ∀ (ms al ol : List Pr), (∀ m ∈ ms, m ∈ l) → al.length ≤ 64 → al.length ≤ l.length → Rings al → Stt l sp al ol → (∀ t s, aget al t = some s → ∃ s', (t, s') ∈ ms) →
    ∃ res, ringsM ms al ol sp = some res ∧ Stt l sp [] res ∧ res.length ≤ ol.length + al.length + many (bonK l) al
  | [], al, ol, _, _, _, hR, hS, hz => by
    have : al = [] := by
      cases al with
      | nil => rfl
      | cons p al => obtain ⟨a, b⟩ := p; obtain ⟨s, h⟩ := hz a b (by rw [aget_cons, if_pos rfl]); cases h
    subst this
    exact ⟨ol, rfl, hS, by omega⟩
  | (t, s0) :: ms, al, ol, hin, h64, hll, hR, hS, hz => by
    unfold ringsM
    have htl := hin _ (List.mem_cons_self ..)
    cases hA : aget al t with
    | none =>
      exact rings_ok hO ms al ol (fun m h => hin m (List.mem_cons_of_mem _ h)) h64 hll hR hS (fun x s h => by
        obtain ⟨s', h'⟩ := hz x s h
        rcases List.mem_cons.1 h' with e | e
        · injection e with e _; subst e; rw [hA] at h; cases h
        · exact ⟨s', e⟩)
    | some s =>
      simp only
      have htp := hS.pend t s hA
      have hfr := hO.free t s0 htl
      -- the spare place takes what the first one has
      have hS1 : Stt l sp al (ol ++ [(sp, t)]) := by
        refine ⟨hS.once, hS.sub, fun x y h => ?_, fun x y h1 h2 h3 => ?_, fun p h1 h2 => ?_, fun x h => ?_, fun m hm => ?_, fun m hm => ?_⟩
        · rw [Hd_snoc, if_neg (hO.free x y (hS.sub x y h).1).1]; exact hS.pend x y h
        · rw [Hd_snoc, if_neg (hO.free x y h1).1]; exact hS.done x y h1 h2 h3
        · rw [Hd_snoc, if_neg h2]; exact hS.rest p h1 h2
        · rw [Hd_snoc, if_neg (hO.free x x h).1]; exact hS.keep x h
        · rcases List.mem_append.1 hm with hm | hm
          · exact hS.ne m hm
          · simp at hm; subst hm; exact fun e => hfr.1 e.symm
        · rcases List.mem_append.1 hm with hm | hm
          · exact hS.wh m hm
          · simp at hm; subst hm; exact .inl rfl
      have hsp1 : Hd (ol ++ [(sp, t)]) sp = t := by rw [Hd_snoc, if_pos rfl]; exact htp
      obtain ⟨al', ol', T, k1, k2, k3, k4, k5, k6, k7, k8, k9, k10, k11⟩ := inner_ok hO (bonK l) (fromR l) (fun x y h1 h2 => from_of hO.uniq h1 h2) 65 al (ol ++ [(sp, t)]) t t (by omega) hR.once hR.inj ⟨s, hA⟩ (fun a s' h => .inr (hR.closed a s' h)) (fun a _ => rfl) hS1 hsp1 hfr.1
      rw [k1]
      simp only
      obtain ⟨c, hc1, hc2⟩ := ring_bonus k4 (fun c hc => by obtain ⟨s', h'⟩ := k5 c hc; exact (hO.pos c s' (hS.sub c s' h').1).1) k8 (by omega)
      have hb := filter_pos (B := bonK l) hc1 hc2
      obtain ⟨res, j1, j2, j3⟩ := rings_ok hO ms al' ol' (fun m h => hin m (List.mem_cons_of_mem _ h)) (by omega) (by omega) k2 k3 (fun x s' h => by
        obtain ⟨s2, h'⟩ := hz x s' (k9 x s' h)
        rcases List.mem_cons.1 h' with e | e
        · injection e with e _; subst e; rw [k10] at h; cases h
        · exact ⟨s2, e⟩)
      refine ⟨res, j1, j2, ?_⟩
      rw [List.length_append] at k6
      simp at k6
      omega
/-- How many are no moves from a place to itself. -/
def nontriv : List Pr → Nat
  | [] => 0
  | (t, s) :: l => (if t = s then 0 else 1) + nontriv l
theorem nontriv_le : ∀ l : List Pr, nontriv l ≤ l.length
  | [] => Nat.le_refl _
  | (t, s) :: l => by have := nontriv_le l; rw [nontriv, List.length_cons]; split <;> omega
def bonT (l : List Pr) : List Pr → Nat
  | [] => 0
  | (t, s) :: r => (if t = s then 0 else if bonus l t s = true then 1 else 0) + bonT l r
theorem least_is (l : List Pr) : ∀ r, leastG l r = nontriv r + bonT l r
  | [] => rfl
  | (t, s) :: r => by
    rw [leastG, nontriv, bonT, least_is l r]
    by_cases e : t = s
    · rw [if_pos e, if_pos e, if_pos e]; omega
    · rw [if_neg e, if_neg e, if_neg e]; omega
theorem bonT_le (l : List Pr) : ∀ r : List Pr, bonT l r ≤ r.length
  | [] => Nat.le_refl _
  | (t, s) :: r => by
    have := bonT_le l r
    rw [bonT, List.length_cons]
    split
    · omega
    · split <;> omega
theorem bld_ok (hO : Ok l sp) : ∀ (r p al rl : List Pr), l = p ++ r → (∀ t s s', (t, s) ∈ p → (t, s') ∉ r) → (r.map (·.1)).Nodup → Once al → RC al rl → al.length ≤ p.length → (∀ t s, aget al t = some s ↔ ((t, s) ∈ p ∧ t ≠ s)) →
    Once (bldM r al rl).1 ∧ RC (bldM r al rl).1 (bldM r al rl).2 ∧ (∀ t s, aget (bldM r al rl).1 t = some s ↔ ((t, s) ∈ l ∧ t ≠ s)) ∧ (bldM r al rl).1.length = al.length + nontriv r ∧ many (bonK l) (bldM r al rl).1 = many (bonK l) al + bonT l r
  | [], p, al, rl, hl, _, _, ho, hR, _, hi => ⟨ho, hR, by rw [hl, List.append_nil]; exact hi, rfl, rfl⟩
  | (t, s) :: r, p, al, rl, hl, hd, hn, ho, hR, hal, hi => by
    have hl' : l = (p ++ [(t, s)]) ++ r := by rw [hl]; simp
    have hn' := List.nodup_cons.1 (show (t :: r.map (·.1)).Nodup from hn)
    have hd' : ∀ x y y', (x, y) ∈ p ++ [(t, s)] → (x, y') ∉ r := fun x y y' h h' => by
      rcases List.mem_append.1 h with h | h
      · exact hd x y y' h (List.mem_cons_of_mem _ h')
      · simp at h; exact hn'.1 (List.mem_map.2 ⟨_, h', h.1⟩)
    have htl : (t, s) ∈ l := by rw [hl]; exact List.mem_append_right _ (List.mem_cons_self ..)
    have hpl : p.length < 64 := by have := hO.len; rw [hl] at this; simp at this; omega
    have hnone : aget al t = none := by
      cases h : aget al t with
      | none => rfl
      | some y => exact absurd (List.mem_cons_self ..) (hd t y s ((hi t y).1 h).1)
    rw [bldM, nontriv, bonT]
    by_cases e : t = s
    · rw [if_pos e, if_pos e, if_pos e]
      obtain ⟨k1, k2, k3, k4, k5⟩ := bld_ok hO r (p ++ [(t, s)]) al rl hl' hd' hn'.2 ho hR (by simp; omega) (fun x y => by
        rw [hi x y]
        constructor
        · rintro ⟨h1, h2⟩; exact ⟨List.mem_append_left _ h1, h2⟩
        · rintro ⟨h1, h2⟩
          rcases List.mem_append.1 h1 with h | h
          · exact ⟨h, h2⟩
          · simp at h; exact absurd (by rw [h.1, h.2, e]) h2)
      exact ⟨k1, k2, k3, by omega, by omega⟩
    · rw [if_neg e, if_neg e, if_neg e]
      have hput : ∀ x y, aget (aput al t s) x = some y ↔ ((x, y) ∈ p ++ [(t, s)] ∧ x ≠ y) := fun x y => by
        by_cases hx : x = t
        · subst hx
          rw [aget_put_same]
          constructor
          · intro h; injection h with h; subst h; exact ⟨List.mem_append_right _ (List.mem_cons_self ..), e⟩
          · rintro ⟨h1, h2⟩
            rcases List.mem_append.1 h1 with h | h
            · exact absurd (List.mem_cons_self ..) (hd x y s h)
            · simp at h; rw [h]
        · rw [aget_put_other _ _ hx, hi x y]
          constructor
          · rintro ⟨h1, h2⟩; exact ⟨List.mem_append_left _ h1, h2⟩
          · rintro ⟨h1, h2⟩
            rcases List.mem_append.1 h1 with h | h
            · exact ⟨h, h2⟩
            · simp at h; exact absurd h.1 hx
      have hlen : (aput al t s).length = al.length + 1 := by rw [aput_len ho, hnone]; rfl
      have hcn : ∀ x, cnt (aput al t s) x = (if s = x then 1 else 0) + cnt al x := fun x => by rw [aput, adel_none hnone]; rfl
      have hR' : RC (aput al t s) (aput rl s (w64 ((aget rl s).getD 0 + 1))) := fun x => by
        have h2 := cnt_le al x
        rw [hcn x]
        by_cases hx : x = s
        · subst hx
          rw [aget_put_same, Option.getD_some, hR x, if_pos rfl, w64_small (by omega) (by omega)]
          omega
        · rw [aget_put_other _ _ hx, hR x, if_neg (fun e' => hx e'.symm)]; simp
      have hmany : many (bonK l) (aput al t s) = many (bonK l) al + (if bonus l t s = true then 1 else 0) := by
        rw [aput, adel_none hnone, many]
        have : bonK l t = bonus l t s := by show bonus l t (fromR l t) = _; rw [from_of hO.uniq htl e]
        rw [this]; omega
      obtain ⟨k1, k2, k3, k4, k5⟩ := bld_ok hO r (p ++ [(t, s)]) _ _ hl' hd' hn'.2 (ho.put t s) hR' (by rw [hlen]; simp; omega) hput
      exact ⟨k1, k2, k3, by omega, by omega⟩
/-- What Order makes is what is asked of it. -/
theorem shuf_ok (hO : Ok l sp) (hn : (l.map (·.1)).Nodup) : ∃ res, shufM l sp = some res ∧ res.length ≤ leastR l ∧ res.length ≤ 128 ∧ (∀ m ∈ res, m.1 ≠ m.2) ∧ (∀ t s, (t, s) ∈ l → Hd res t = s) ∧ (∀ m ∈ res, m.1 = sp ∨ ∃ s, (m.1, s) ∈ l) := by
  obtain ⟨b1, b2, b3, b4, b5⟩ := bld_ok hO l [] [] [] rfl (fun t s s' h => by cases h) hn trivial (fun s => rfl) (Nat.le_refl _) (fun t s => ⟨fun h => (by cases h), fun h => (by cases h.1)⟩)
  have hnt := nontriv_le l
  have hbt := bonT_le l l
  have hlen := hO.len
  have h64 : (bldM l [] []).1.length ≤ 64 := by rw [b4]; simp; omega
  have hS0 : Stt l sp (bldM l [] []).1 [] := ⟨b1, fun t s h => (b3 t s).1 h, fun t s h => rfl, (fun t s h1 h2 h3 => by rw [(b3 t s).2 ⟨h1, h2⟩] at h3; cases h3), fun p _ _ => rfl, fun t _ => rfl, (fun m h => by cases h), (fun m h => by cases h)⟩
  obtain ⟨d1, d2, d3, d4, d5, d6⟩ := drainAll_ok hO (bonK l) l _ _ [] h64 hS0 (fun t s h => rfl) b2 (fun t h => by obtain ⟨⟨s, h⟩, _⟩ := h; exact ⟨s, ((b3 t s).1 h).1⟩)
  obtain ⟨res, r1, r2, r3⟩ := rings_ok hO l _ _ (fun m h => h) (Nat.le_trans d5 h64) (by rw [b4] at d5; simp at d5; omega) (rings_of d1.once d3) d1 (fun t s h => ⟨s, (d1.sub t s h).1⟩)
  have e1 : leastR l = nontriv l + bonT l l := least_is l l
  have hle : res.length ≤ nontriv l + bonT l l := by
    simp at d4 b4 b5
    rw [b4] at d4
    have : many (bonK l) [] = 0 := rfl
    omega
  refine ⟨res, r1, by omega, by omega, r2.ne, fun t s h => ?_, r2.wh⟩
  by_cases e : t = s
  · subst e; exact r2.keep t h
  · exact r2.done t s h e rfl
end
/-- The document's May. -/
def earlier (l : List Pr) (n : Nat) (t : Int) : Bool := (l.take n).any (fun m => decide (m.1 = t))
theorem may_iff : ∀ (r al : List Pr), (∀ t v, aget al t = some v → v = 1) → (mayL r al = true ↔ ((∀ t s, (t, s) ∈ r → 0 ≤ t ∧ 0 ≤ s) ∧ (r.map (·.1)).Nodup ∧ ∀ t s, (t, s) ∈ r → aget al t = none))
  | [], al, h => ⟨fun _ => ⟨(fun t s h => by cases h), List.nodup_nil, (fun t s h => by cases h)⟩, fun _ => rfl⟩
  | (t, s) :: r, al, h => by
    rw [mayL]
    by_cases h1 : t < 0
    · rw [if_pos h1]
      refine ⟨fun e => (by cases e), fun e => ?_⟩
      have := (e.1 t s (List.mem_cons_self ..)).1; omega
    · rw [if_neg h1]
      by_cases h2 : s < 0
      · rw [if_pos h2]
        refine ⟨fun e => (by cases e), fun e => ?_⟩
        have := (e.1 t s (List.mem_cons_self ..)).2; omega
      · rw [if_neg h2]
        cases hA : aget al t with
        | some v =>
          have hv := h t v hA
          subst hv
          rw [Option.getD_some, if_pos (by decide)]
          refine ⟨fun e => (by cases e), fun e => ?_⟩
          have := e.2.2 t s (List.mem_cons_self ..)
          rw [hA] at this; cases this
        | none =>
          rw [Option.getD_none, if_neg (by decide), may_iff r (aput al t 1) (fun x v hx => by
            by_cases e : x = t
            · subst e; rw [aget_put_same] at hx; injection hx with hx; exact hx.symm
            · rw [aget_put_other _ _ e] at hx; exact h x v hx)]
          rw [List.map_cons, List.nodup_cons]
          constructor
          · rintro ⟨k1, k2, k3⟩
            refine ⟨fun x y hx => ?_, ⟨fun hm => ?_, k2⟩, fun x y hx => ?_⟩
            · rcases List.mem_cons.1 hx with e | e
              · injection e with e1 e2; subst e1 e2; omega
              · exact k1 x y e
            · obtain ⟨⟨x, y⟩, e1, e2⟩ := List.mem_map.1 hm
              simp only at e2
              subst e2
              have := k3 x y e1
              rw [aget_put_same] at this; cases this
            · rcases List.mem_cons.1 hx with e | e
              · injection e with e1 e2; subst e1 e2; exact hA
              · have hk := k3 x y e
                by_cases e' : x = t
                · subst e'; rw [aget_put_same] at hk; cases hk
                · rw [aget_put_other _ _ e'] at hk; exact hk
          · rintro ⟨k1, ⟨k2, k3⟩, k4⟩
            refine ⟨fun x y hx => k1 x y (List.mem_cons_of_mem _ hx), k3, fun x y hx => ?_⟩
            have hne : x ≠ t := fun e => k2 (List.mem_map.2 ⟨_, hx, e⟩)
            rw [aget_put_other _ _ hne]
            exact k4 x y (List.mem_cons_of_mem _ hx)
theorem mayM_iff (l : List Pr) : mayM l = true ↔ ((∀ t s, (t, s) ∈ l → 0 ≤ t ∧ 0 ≤ s) ∧ (l.map (·.1)).Nodup ∧ l.length ≤ 64) := by
  unfold mayM
  by_cases h : 64 < l.length
  · rw [if_pos h]
    refine ⟨fun e => (by cases e), fun e => ?_⟩
    have := e.2.2; omega
  · rw [if_neg h, may_iff l [] (fun t v e => by cases e)]
    exact ⟨fun e => ⟨e.1, e.2.1, by omega⟩, fun e => ⟨e.1, e.2.1, fun t s _ => rfl⟩⟩
theorem nodup_uniq : ∀ {l : List Pr}, (l.map (·.1)).Nodup → ∀ t s s', (t, s) ∈ l → (t, s') ∈ l → s = s'
  | [], _, _, _, _, h, _ => by cases h
  | (a, b) :: l, hn, t, s, s', h1, h2 => by
    rw [List.map_cons, List.nodup_cons] at hn
    rcases List.mem_cons.1 h1 with e1 | e1
    · rcases List.mem_cons.1 h2 with e2 | e2
      · injection e1 with p1 p2; injection e2 with p3 p4; rw [p2, p4]
      · injection e1 with p1 p2; subst p1; exact absurd (List.mem_map.2 ⟨_, e2, rfl⟩) hn.1
    · rcases List.mem_cons.1 h2 with e2 | e2
      · injection e2 with p1 p2; subst p1; exact absurd (List.mem_map.2 ⟨_, e1, rfl⟩) hn.1
      · exact nodup_uniq hn.2 t s s' e1 e2
theorem ok_of {l : List Pr} {sp : Int} (h : mayM l = true) (ht : touches l sp = false) : Ok l sp ∧ (l.map (·.1)).Nodup := by
  obtain ⟨h1, h2, h3⟩ := (mayM_iff l).1 h
  refine ⟨⟨nodup_uniq h2, fun t s hm => ?_, h1, h3⟩, h2⟩
  unfold touches at ht
  rw [List.any_eq_false] at ht
  have := ht _ hm
  simp at this
  exact ⟨this.1, this.2⟩
end Go.Proofs.Ytheapamlhoogaaa.Mv
