/- Write, whole. -/
import Derived.Test.YtjchfldlmabblaaMmWriteC
namespace Go.Proofs.Ytjchfldlmabblaa
open Go.RowKit Go.Maps
set_option linter.unusedVariables false

section
variable {κ ε : Type} [DecidableEq κ]
def kmod : List (κ × ε) → κ → ε → List (κ × ε)
  | [], _, _ => []
  | (a, b) :: l, k, v => if a = k then (a, v) :: l else (a, b) :: kmod l k v
theorem kget_mod_same : ∀ (l : List (κ × ε)) {k : κ} {v u : ε}, kget l k = some u → kget (kmod l k v) k = some v
  | [], _, _, _, h => by cases h
  | (a, b) :: l, k, v, u, h => by
    unfold kmod
    by_cases e : a = k
    · rw [if_pos e, kget_cons, if_pos e]
    · rw [if_neg e, kget_cons, if_neg e]
      rw [kget_cons, if_neg e] at h
      exact kget_mod_same l h
theorem kget_mod_other : ∀ (l : List (κ × ε)) {k x : κ} (v : ε), x ≠ k → kget (kmod l k v) x = kget l x
  | [], _, _, _, _ => rfl
  | (a, b) :: l, k, x, v, h => by
    unfold kmod
    by_cases e : a = k
    · rw [if_pos e, kget_cons, kget_cons, if_neg (fun e' => h (e'.symm.trans e)), if_neg (fun e' => h (e'.symm.trans e))]
    · rw [if_neg e, kget_cons, kget_cons, kget_mod_other l v h]
theorem kmod_len : ∀ (l : List (κ × ε)) (k : κ) (v : ε), (kmod l k v).length = l.length
  | [], _, _ => rfl
  | (a, b) :: l, k, v => by
    unfold kmod
    split
    · rfl
    · rw [List.length_cons, List.length_cons, kmod_len l]
end
theorem ptrs_mod : ∀ (l : List (Int × Bk)) {k : Int} {d d' : Bk}, kget l k = some d → d'.kb = d.kb → ptrs (kmod l k d') = ptrs l
  | [], _, _, _, h, _ => by cases h
  | (a, b) :: l, k, d, d', h, e => by
    unfold kmod
    by_cases hk : a = k
    · rw [if_pos hk]
      rw [kget_cons, if_pos hk] at h
      injection h with h
      subst h
      show (a, some d'.kb) :: ptrs l = (a, some b.kb) :: ptrs l
      rw [e]
    · rw [if_neg hk]
      rw [kget_cons, if_neg hk] at h
      show (a, some b.kb) :: ptrs (kmod l k d') = (a, some b.kb) :: ptrs l
      rw [ptrs_mod l h e]
/-- What a call that writes leaves. -/
structure Wrote (w : World) (S : Sd) (V : View) (w' : World) (S' : Sd) : Prop where
  st : StoreAs w' S'
  s : S'.s = S.s
  made : S'.made = S.made
  v : S'.view = V
  has : ∀ a, S'.has a → S.has a ∨ w.heap.size ≤ a
  k : Keeps S.has w w'
theorem Wrote.none {w w' : World} {S : Sd} (h : StoreAs w S) (hk : Keeps No w w') : Wrote w S S.view w' S := ⟨h.no hk, rfl, rfl, rfl, fun a ha => .inl ha, hk.mono (fun _ _ e => e.elim)⟩
def setV (V : View) (k : Int) (b : Bv) : View := fun x => if x = k then some b else V x
/-- One block is another one now. -/
theorem StoreAs.upd {w w' : World} {S : Sd} (h : StoreAs w S) {k : Int} {d d' : Bk} (hd : kget S.bs k = some d) (e1 : d'.kb = d.kb) (e2 : d'.lm = d.lm) (e3 : d'.hm = d.hm ∨ ∃ m, d'.hm = some m ∧ w.heap.size ≤ m)
    (hb : BlkAs w' d') (F : Nat → Prop) (hF : ∀ a, F a → a = d.kb ∨ d.hm = some a) (hk : Keeps F w w') : ∃ S', Wrote w S (setV S.view k d'.view) w' S' := by
  have hts := h.ts
  obtain ⟨t1, t2, t3⟩ := h.tb k d hd
  have off : ∀ a, a < w.heap.size → S.tag a ≠ (k, 2) → S.tag a ≠ (k, 4) → w'.heap[a]? = w.heap[a]? := fun a ha n1 n2 => hk.block a ha (fun f => by
    rcases hF a f with rfl | e
    · exact n1 t1
    · exact n2 (t3 a e))
  refine ⟨{ S with bs := kmod S.bs k d', tag := fun a => if w.heap.size ≤ a then (k, 4) else S.tag a }, ?_, rfl, rfl, ?_, ?_, hk.mono (fun a _ f => ?_)⟩
  · have old : ∀ a, S.has a → ¬ w.heap.size ≤ a := fun a ha => by have := h.lt ha; omega
    refine ⟨(off _ (h.lt (.inl rfl)) (by rw [hts.1]; simp) (by rw [hts.1]; simp)).trans h.a, ?_, fun x y e => ?_, h.mb, by show (kmod S.bs k d').length ≤ _; rw [kmod_len]; exact h.ml, ?_, fun x y e => ?_⟩
    · show MapK mapIP w' S.bm (ptrs (kmod S.bs k d'))
      rw [ptrs_mod _ hd e1]
      exact h.m.block (off _ (h.lt (.inr (.inl rfl))) (by rw [hts.2]; simp) (by rw [hts.2]; simp))
    · by_cases hx : x = k
      · subst hx
        have e' : kget (kmod S.bs x d') x = some y := e
        rw [kget_mod_same _ hd] at e'
        injection e' with e'
        subst e'
        exact ⟨hb, (h.b x d hd).2⟩
      · have e' : kget (kmod S.bs k d') x = some y := e
        rw [kget_mod_other _ _ hx] at e'
        refine ⟨(h.b x y e').1.kept (fun a ha => ?_), (h.b x y e').2⟩
        obtain ⟨u1, u2, u3⟩ := h.tb x y e'
        have ht : ∃ n, S.tag a = (x, n) := by
          rcases ha with rfl | rfl | ha
          · exact ⟨_, u1⟩
          · exact ⟨_, u2⟩
          · exact ⟨_, u3 a ha⟩
        obtain ⟨n, hn⟩ := ht
        exact off a ((h.b x y e').1.lt ha) (by rw [hn]; intro e; exact hx (Prod.mk.inj e).1) (by rw [hn]; intro e; exact hx (Prod.mk.inj e).1)
    · exact ⟨by show (if _ then _ else _) = _; rw [if_neg (old _ (.inl rfl))]; exact hts.1, by show (if _ then _ else _) = _; rw [if_neg (old _ (.inr (.inl rfl)))]; exact hts.2⟩
    · by_cases hx : x = k
      · subst hx
        have e' : kget (kmod S.bs x d') x = some y := e
        rw [kget_mod_same _ hd] at e'
        injection e' with e'
        subst e'
        refine ⟨?_, ?_, fun m hm => ?_⟩
        · show (if _ then _ else _) = _
          rw [e1, if_neg (old _ (.inr (.inr ⟨x, d, hd, .inl rfl⟩)))]; exact t1
        · show (if _ then _ else _) = _
          rw [e2, if_neg (old _ (.inr (.inr ⟨x, d, hd, .inr (.inl rfl)⟩)))]; exact t2
        · show (if _ then _ else _) = _
          rcases e3 with e3 | ⟨m', e3, hm'⟩
          · rw [e3] at hm
            split
            · rfl
            · exact t3 m hm
          · rw [e3] at hm
            injection hm with hm
            subst hm
            rw [if_pos hm']
      · have e' : kget (kmod S.bs k d') x = some y := e
        rw [kget_mod_other _ _ hx] at e'
        obtain ⟨u1, u2, u3⟩ := h.tb x y e'
        refine ⟨?_, ?_, fun m hm => ?_⟩
        · show (if _ then _ else _) = _
          rw [if_neg (old _ (.inr (.inr ⟨x, y, e', .inl rfl⟩)))]; exact u1
        · show (if _ then _ else _) = _
          rw [if_neg (old _ (.inr (.inr ⟨x, y, e', .inr (.inl rfl)⟩)))]; exact u2
        · show (if _ then _ else _) = _
          rw [if_neg (old _ (.inr (.inr ⟨x, y, e', .inr (.inr hm)⟩)))]; exact u3 m hm
  · funext x
    unfold Sd.view setV
    by_cases hx : x = k
    · subst hx
      rw [if_pos rfl]
      show (kget (kmod S.bs x d') x).map Bk.view = _
      rw [kget_mod_same _ hd]; rfl
    · rw [if_neg hx]
      show (kget (kmod S.bs k d') x).map Bk.view = _
      rw [kget_mod_other _ _ hx]
  · rintro a (rfl | rfl | ⟨x, y, e, ha⟩)
    · exact .inl (.inl rfl)
    · exact .inl (.inr (.inl rfl))
    · by_cases hx : x = k
      · subst hx
        have e' : kget (kmod S.bs x d') x = some y := e
        rw [kget_mod_same _ hd] at e'
        injection e' with e'
        subst e'
        rcases ha with rfl | rfl | ha
        · exact .inl (.inr (.inr ⟨x, d, hd, .inl e1⟩))
        · exact .inl (.inr (.inr ⟨x, d, hd, .inr (.inl e2)⟩))
        · rcases e3 with e3 | ⟨m', e3, hm'⟩
          · exact .inl (.inr (.inr ⟨x, d, hd, .inr (.inr (by rw [← e3]; exact ha))⟩))
          · rw [e3] at ha
            injection ha with ha
            subst ha
            exact .inr hm'
      · have e' : kget (kmod S.bs k d') x = some y := e
        rw [kget_mod_other _ _ hx] at e'
        exact .inl (.inr (.inr ⟨x, y, e', ha⟩))
  · rcases hF a f with rfl | e
    · exact .inr (.inr ⟨k, d, hd, .inl rfl⟩)
    · exact .inr (.inr ⟨k, d, hd, .inr (.inr e)⟩)
theorem get_ext {a b : Bv} (h1 : a.size = b.size) (h2 : a.cell = b.cell) (h3 : a.val = b.val) : a = b := by
  cases a; cases b; simp_all
theorem held_sub {κ α β : Type} [DecidableEq κ] {a : List (κ × α)} {b : List (κ × β)} (h : ∀ k, (kget a k).isSome = true → (kget b k).isSome = true) {c : κ} (hc : (kget b c).isSome = true) (v : α) (k : κ) (hk : (kget (kput a c v) k).isSome = true) : (kget b k).isSome = true := by
  by_cases e : k = c
  · subst e; exact hc
  · rw [kget_put_other _ _ e] at hk; exact h k hk
theorem write_any (S : Sd) (p : Vl) (t : ByteArray) (x : Vl) (w : World) (h : StoreAs w S) (hp : vlOk p) (ht : t.size ≤ maxLen) :
    Calls Try.prog 33 #[.pointer (some ⟨S.s, 0, none⟩), va p, .string t, va x] w fun e w' => e = .returned (.bool (cellV S.view p t).isSome) ∧ ∃ S', Wrote w S (writeV S.view p t x) w' S' := by
  cases hX : (cellV S.view p t).isSome with
  | false =>
    have hv : writeV S.view p t x = S.view := by unfold writeV; rw [cell_not hX]
    rw [hv]
    exact (write_not S p t x w h hp ht hX).mono fun e w' ⟨he, hk⟩ => ⟨he, S, Wrote.none h hk⟩
  | true =>
    obtain ⟨d, hk, hd, hK, hc, hcl⟩ := cell_yes hX
    have hb := (h.b p.b d hd).1
    have hck : ckOk (p.o, t) := ⟨hp.2.2.2, ht⟩
    have hv : ∀ d' : Bk, d'.size = d.size → d'.cl = d.cl → d'.get = (fun c => if c = (p.o, t) then x else d.get c) → setV S.view p.b d'.view = writeV S.view p t x := by
      intro d' e1 e2 e3
      unfold writeV
      rw [hc]
      funext k
      show (if k = p.b then some d'.view else S.view k) = (if k = p.b then some (d.view.put (p.o, t) x) else S.view k)
      split
      · exact congrArg some (get_ext e1 (by show (fun c => (kget d'.cl c).isSome) = (fun c => (kget d.cl c).isSome); rw [e2]) e3)
      · rfl
    by_cases hw : d.wr = true
    · by_cases hf : d.f = (p.o, t)
      · refine (write_o S p t x w h hp ht d hX hd hK hw hf).mono fun e w' ⟨he, ha, hk⟩ => ⟨he, ?_⟩
        rw [← hv { d with one := x } rfl rfl (by
          funext c
          unfold Bk.get
          simp only
          by_cases hcc : c = (p.o, t)
          · rw [if_pos hcc, if_pos ⟨hw, hf.trans hcc.symm⟩]
          · rw [if_neg hcc, if_neg (fun e => hcc (e.2.symm.trans hf)), if_neg (fun e => hcc (e.2.symm.trans hf))])]
        refine h.upd hd rfl rfl (.inl rfl) ⟨ha, hb.l.block (hk.block _ hb.l.lt ?_), hb.hn, fun m hm => (hb.hs m hm).block (hk.block _ (hb.hs m hm).lt ?_), hb.sz, hb.cll, hb.sub, hb.fo⟩ _ (fun a e => .inl e) hk
        · intro e; have e' : d.lm = d.kb := e; have := (h.tb _ d hd); rw [← e', this.2.1] at this; simp at this
        · intro e; have e' : m = d.kb := e; have := (h.tb _ d hd); rw [← e', this.2.2 m hm] at this; simp at this
      · have hget : ∀ (hm' : Option Nat) (c : Ck), Bk.get { d with hm := hm', held := kput d.held (p.o, t) x } c = if c = (p.o, t) then x else d.get c := by
          intro hm' c
          unfold Bk.get
          simp only
          by_cases hcc : c = (p.o, t)
          · rw [if_pos hcc, if_neg (fun e => hf (e.2.trans hcc)), hcc, kget_put_same]; rfl
          · rw [if_neg hcc, kget_put_other _ _ hcc]
        cases hm : d.hm with
        | none =>
          have hn : Calls Try.prog 33 #[.pointer (some ⟨S.s, 0, none⟩), va p, .string t, va x] w fun e w' => e = .returned (.bool true) ∧ ∃ m, w.heap.size ≤ m ∧ w'.heap[d.kb]? = some (.cells (Bk.cells { d with hm := some m }) 99 (0, 0)) ∧ MapK mapCV w' m (kput [] (p.o, t) x) ∧ Keeps (fun a => a = d.kb) w w' := by
            by_cases ho : d.f.1 = p.o
            · exact write_ng S p t x w h hp ht d hX hd hK hw ho (fun e => hf (by rw [← ho, ← e])) hm
            · exact write_nf S p t x w h hp ht d hX hd hK hw ho hm
          refine hn.mono fun e w' ⟨he, m, hmm, ha, hmp, hk⟩ => ⟨he, ?_⟩
          rw [← hv { d with hm := some m, held := kput d.held (p.o, t) x } rfl rfl (funext (hget (some m)))]
          refine h.upd hd rfl rfl (.inr ⟨m, rfl, hmm⟩) ⟨ha, hb.l.block (hk.block _ hb.l.lt ?_), (fun e => by cases e), fun m' e => ?_, hb.sz, hb.cll, fun k hk => held_sub hb.sub hcl x k hk, hb.fo⟩ _ (fun a e => .inl e) hk
          · intro e; have e' : d.lm = d.kb := e; have := (h.tb _ d hd); rw [← e', this.2.1] at this; simp at this
          · injection e with e; subst e; rw [hb.hn hm]; exact hmp
        | some m =>
          have hn : Calls Try.prog 33 #[.pointer (some ⟨S.s, 0, none⟩), va p, .string t, va x] w fun e w' => e = .returned (.bool true) ∧ MapK mapCV w' m (kput d.held (p.o, t) x) ∧ Keeps (fun a => a = m) w w' := by
            by_cases ho : d.f.1 = p.o
            · exact write_sg S p t x w h hp ht d hX hd hK hw ho (fun e => hf (by rw [← ho, ← e])) m hm
            · exact write_sf S p t x w h hp ht d hX hd hK hw ho m hm
          refine hn.mono fun e w' ⟨he, hmp, hk⟩ => ⟨he, ?_⟩
          rw [← hv { d with hm := some m, held := kput d.held (p.o, t) x } rfl rfl (funext (hget (some m)))]
          have t0 := h.tb _ d hd
          refine h.upd hd rfl rfl (.inl hm.symm) ⟨(hk.block _ (hb.lt (.inl rfl)) ?_).trans ?_, hb.l.block (hk.block _ hb.l.lt ?_), (fun e => by cases e), fun m' e => ?_, hb.sz, hb.cll, fun k hk => held_sub hb.sub hcl x k hk, hb.fo⟩ _ (fun a e => .inr (by rw [hm, e])) hk
          · intro e; have e' : d.kb = m := e; have := t0.2.2 m hm; rw [← e', t0.1] at this; simp at this
          · have := hb.a; unfold Bk.cells at this ⊢; rw [hm] at this; exact this
          · intro e; have e' : d.lm = m := e; have := t0.2.2 m hm; rw [← e', t0.2.1] at this; simp at this
          · injection e with e; subst e; exact hmp
    · have hw' : d.wr = false := by cases e : d.wr with
        | false => rfl
        | true => exact absurd e hw
      refine (write_w S p t x w h hp ht d hX hd hK hw').mono fun e w' ⟨he, ha, hk⟩ => ⟨he, ?_⟩
      rw [← hv { d with wr := true, f := (p.o, t), one := x } rfl rfl (by
        funext c
        unfold Bk.get
        simp only
        by_cases hcc : c = (p.o, t)
        · rw [if_pos hcc, if_pos ⟨trivial, hcc.symm⟩]
        · rw [if_neg hcc, if_neg (fun e => hcc e.2.symm), if_neg (fun e => hw e.1)])]
      refine h.upd hd rfl rfl (.inl rfl) ⟨ha, hb.l.block (hk.block _ hb.l.lt ?_), hb.hn, fun m hm => (hb.hs m hm).block (hk.block _ (hb.hs m hm).lt ?_), hb.sz, hb.cll, hb.sub, fun _ => hck⟩ _ (fun a e => .inl e) hk
      · intro e; have e' : d.lm = d.kb := e; have := (h.tb _ d hd); rw [← e', this.2.1] at this; simp at this
      · intro e; have e' : m = d.kb := e; have := (h.tb _ d hd); rw [← e', this.2.2 m hm] at this; simp at this
end Go.Proofs.Ytjchfldlmabblaa
