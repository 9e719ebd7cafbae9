/- New, Add, End, Size. -/
import Derived.Test.YtjchfldlmabblaaMmWriteAny
namespace Go.Proofs.Ytjchfldlmabblaa
open Go.RowKit Go.Maps
set_option linter.unusedVariables false

set_option maxRecDepth 100000 in
set_option maxHeartbeats 1600000 in
theorem bsize_any (S : Sd) (b : Int) (w : World) (h : StoreAs w S) (hb : I64 b) :
    Calls Try.prog 43 #[.pointer (some ⟨S.s, 0, none⟩), .int .i64 b] w fun e w' => e = .returned (.int .i64 (((kget S.bs b).map fun d => d.size).getD 0)) ∧ Keeps No w w' := by
  have c0 := h.c0
  have hl := fun (n : Nat) => (h.no ((Keeps.refl No w).drewN n)).look hb
  have hl0 := h.look hb
  cases hg : kget S.bs b with
  | none =>
    simp only [hg, Option.map_none, ptrV] at hl hl0
    clear h hg
    go_enter Try.func43, Try.ntmps43
    go_wp2_with fail
    go_returns
    exact ⟨rfl, Keeps.refl _ _⟩
  | some d =>
    obtain ⟨d0, _⟩ := (h.b b d hg).1.c
    simp only [hg, Option.map_some, ptrV] at hl hl0
    clear h hg
    go_enter Try.func43, Try.ntmps43
    go_wp2_with fail
    go_returns
    exact ⟨rfl, Keeps.refl _ _⟩
set_option maxRecDepth 100000 in
set_option maxHeartbeats 1600000 in
theorem bnew_any (w : World) :
    Calls Try.prog 29 #[] w fun e w' => ∃ S, e = .returned (.pointer (some ⟨S.s, 0, none⟩)) ∧ StoreAs w' S ∧ S.made = 0 ∧ S.bs = [] ∧ (∀ a, S.has a → w.heap.size ≤ a) ∧ Keeps No w w' := by
  have hmm := @run_makeMap Try.prog
  go_enter Try.func29, Try.ntmps29
  go_wp2_with fail
  go_returns
  have e1 : ((w.alloc (.map #[] 0)).alloc (.cells #[.map (some w.heap.size), .int .i64 0] 91)).heap[w.heap.size + 1]? = some (.cells #[.map (some w.heap.size), .int .i64 0] 91 (0, 0)) := by
    have e := heap_alloc_new (w.alloc (.map #[] 0)) (.cells #[.map (some w.heap.size), .int .i64 0] 91)
    rw [heap_two] at e; exact e
  refine ⟨⟨w.heap.size + 1, w.heap.size, 0, [], fun a => if a = w.heap.size + 1 then (0, 0) else (0, 1)⟩, rfl, ⟨e1, (MapK.made w).alloc _, (fun k d e => by cases e), Nat.zero_le _, Nat.le_refl _, ⟨if_pos rfl, if_neg (by show w.heap.size ≠ w.heap.size + 1; omega)⟩, (fun k d e => by cases e)⟩, rfl, rfl, ?_, (by repeat (first | with_reducible exact Keeps.refl _ _ | with_reducible refine Keeps.alloc ?_ _ | with_reducible refine Keeps.drewN ?_ _ | with_reducible refine Keeps.drew ?_ | with_reducible refine Keeps.setCell ?_ (.inr (by simp)) _ | with_reducible refine Keeps.setRow ?_ (by simp) _))⟩
  rintro a (rfl | rfl | ⟨k, d, e, _⟩)
  · show w.heap.size ≤ w.heap.size + 1; omega
  · exact Nat.le_refl _
  · cases e
set_option maxRecDepth 100000 in
set_option maxHeartbeats 1600000 in
theorem bend_any (S : Sd) (b : Int) (w : World) (h : StoreAs w S) (hb : I64 b) :
    Calls Try.prog 32 #[.pointer (some ⟨S.s, 0, none⟩), .int .i64 b] w fun e w' => e = .returned (.tuple #[]) ∧ MapK mapIP w' S.bm (kdel (ptrs S.bs) b) ∧ Keeps (fun a => a = S.bm) w w' := by
  have c0 := h.c0
  have HM := Lib.hid h.m
  clear h
  go_enter Try.func32, Try.ntmps32
  go_wp2_with (at_delete; refine wpList_delK mapIP _ rfl _ _ rfl S.bm (ptrs S.bs) b rfl HM.out rfl hb ?_)
  intro w4 hm4 ht4
  have HM4 := Lib.hid hm4
  have HK4 := Lib.hid ((Keeps.refl (fun a => a = S.bm) w).turned ht4 (.inl rfl))
  clear hm4 ht4
  go_wp2_with fail
  go_returns
  exact ⟨rfl, HM4.out, HK4.out⟩
set_option maxRecDepth 100000 in
set_option maxHeartbeats 1600000 in
theorem badd_any (S : Sd) (n N : Int) (hN : (if n < 1 then 1 else n) = N) (lm : Nat) (w : World) (h : StoreAs w S) (hn : I64 n) (hm : S.made < 1000000) :
    Calls Try.prog 31 #[.pointer (some ⟨S.s, 0, none⟩), .int .i64 n, .iface 76 (.agg #[.map (some lm)])] w fun e w' => e = .returned (.int .i64 ((S.made : Int) + 1)) ∧ ∃ kb, w.heap.size ≤ kb ∧ w'.heap[S.s]? = some (.cells #[.map (some S.bm), .int .i64 ((S.made : Int) + 1)] 91 (0, 0)) ∧ MapK mapIP w' S.bm (kput (ptrs S.bs) ((S.made : Int) + 1) (some kb)) ∧ w'.heap[kb]? = some (.cells (Bk.cells ⟨kb, lm, none, N, [], false, (0, ⟨#[]⟩), v0, []⟩) 99 (0, 0)) ∧ Keeps (fun a => a = S.s ∨ a = S.bm) w w' := by
  have c0 := h.c0
  have c1 := h.c1
  have f := h.f
  have hm0 := h.m
  have ha0 := h.a
  have hml := h.ml
  have hne : S.bm ≠ S.s := fun e => by have t1 := h.ts; rw [e, t1.1] at t1; simp at t1
  have hs := h.lt (.inl rfl)
  clear h
  go_enter Try.func31, Try.ntmps31
  go_wp2_with fail
  obtain ⟨W1, hW1⟩ : ∃ W1, w.setCell ⟨S.s, 1, none⟩ (.int .i64 ((S.made : Int) + 1)) = W1 := ⟨_, rfl⟩
  rw [hW1]
  have hk1 : Keeps (fun a => a = S.s ∨ a = S.bm) w W1 := by rw [← hW1]; exact (Keeps.refl _ _).setCell (.inl (.inl rfl)) _
  have ha1 : W1.heap[S.s]? = some (.cells #[.map (some S.bm), .int .i64 ((S.made : Int) + 1)] 91 (0, 0)) := by rw [← hW1]; simp [World.setCell, Array.getElem?_modify, ha0]
  have hm1 : MapK mapIP W1 S.bm (ptrs S.bs) := by rw [← hW1]; exact hm0.setCell hne _
  have hs1 : S.s < W1.heap.size := (Array.getElem?_eq_some_iff.1 ha1).1
  have hs2 : S.s ≠ W1.heap.size := by omega
  have z0 : W1.cell? ⟨S.s, 0, none⟩ = some (.map (some S.bm)) := by simp [World.cell?, ha1]
  have z1 : W1.cell? ⟨S.s, 1, none⟩ = some (.int .i64 ((S.made : Int) + 1)) := by simp [World.cell?, ha1]
  obtain ⟨W5, hrun, hm5, ht5⟩ := ((hm1.alloc (.cells #[.int .i64 N, .iface 76 (.agg #[.map (some lm)]), .bool false, .int .i64 0, .string ⟨#[]⟩, .int .i64 0, .int .i64 0, .int .i64 0, .int .i64 0, .map none] 99)).drewN 1).put (k := (S.made : Int) + 1) (y := some W1.heap.size) (by have : (ptrs S.bs).length = S.bs.length := List.length_map _; unfold maxLen; omega) (show I64 _ by unfold I64; omega) trivial
  have hrun' : (Instr.mapUpdate 89 (.map (some S.bm)) (.int .i64 ((S.made : Int) + 1)) (.pointer (some ⟨W1.heap.size, 0, none⟩))).run Try.prog (W1.alloc (.cells #[.int .i64 N, .iface 76 (.agg #[.map (some lm)]), .bool false, .int .i64 0, .string ⟨#[]⟩, .int .i64 0, .int .i64 0, .int .i64 0, .int .i64 0, .map none] 99)).drew = .ok () W5 := hrun
  have hw5 := ht5.grown
  have ha5 : W5.heap[S.s]? = some (.cells #[.map (some S.bm), .int .i64 ((S.made : Int) + 1)] 91 (0, 0)) := (hw5.block _ (by simp; omega) (fun e => hne (by injection e with e; exact e.symm))).trans ((Below.heap_alloc W1 _ _ hs1).trans ha1)
  have hb5 : W5.heap[W1.heap.size]? = some (.cells #[.int .i64 N, .iface 76 (.agg #[.map (some lm)]), .bool false, .int .i64 0, .string ⟨#[]⟩, .int .i64 0, .int .i64 0, .int .i64 0, .int .i64 0, .map none] 99 (0, 0)) := (hw5.block _ (by simp) (fun e => by have := hm1.lt; injection e with e; omega)).trans (heap_alloc_new W1 _)
  have y1 : W5.cell? ⟨S.s, 1, none⟩ = some (.int .i64 ((S.made : Int) + 1)) := by simp [World.cell?, ha5]
  have HA5 := Lib.hid ha5
  have HB5 := Lib.hid hb5
  have HM5 : Hid (MapK mapIP W5 S.bm (kput (ptrs S.bs) ((S.made : Int) + 1) (some W1.heap.size))) := Lib.hid hm5
  have HK5 := Lib.hid ((hk1.alloc (.cells #[.int .i64 N, .iface 76 (.agg #[.map (some lm)]), .bool false, .int .i64 0, .string ⟨#[]⟩, .int .i64 0, .int .i64 0, .int .i64 0, .int .i64 0, .map none] 99)).drew.turned ht5 (.inl (.inr rfl)))
  have HG := Lib.hid hk1.size
  clear hW1 hm1 hm0 ha0 c0 c1 hk1 ha1 ha5 hb5 hm5 ht5 hw5 hrun
  go_region_with (fail)
  all_goals clear hrun' z0 z1
  all_goals go_wp2_with fail
  all_goals go_returns
  all_goals exact ⟨rfl, _, HG.out, HA5.out, HM5.out, HB5.out, HK5.out⟩
/-- What a call that makes, or ends, blocks leaves. -/
structure Made (w : World) (S : Sd) (V : View) (n : Nat) (w' : World) (S' : Sd) (E : Nat → Prop) : Prop where
  st : StoreAs w' S'
  s : S'.s = S.s
  made : S'.made = n
  v : S'.view = V
  has : ∀ a, S'.has a → S.has a ∨ E a ∨ w.heap.size ≤ a
  k : Keeps S.has w w'
def delV (V : View) (k : Int) : View := fun x => if x = k then none else V x
theorem end_any (S : Sd) (b : Int) (w : World) (h : StoreAs w S) (hb : I64 b) :
    Calls Try.prog 32 #[.pointer (some ⟨S.s, 0, none⟩), .int .i64 b] w fun e w' => e = .returned (.tuple #[]) ∧ ∃ S', Wrote w S (delV S.view b) w' S' := by
  refine (bend_any S b w h hb).mono fun e w' ⟨he, hm, hk⟩ => ⟨he, { S with bs := kdel S.bs b }, ?_, rfl, rfl, ?_, ?_, hk.mono (fun a _ e => .inr (.inl e))⟩
  · have hts := h.ts
    have off : ∀ a, a < w.heap.size → S.tag a ≠ (0, 1) → w'.heap[a]? = w.heap[a]? := fun a ha hn => hk.block a ha (fun e => hn (by have e' : a = S.bm := e; rw [e']; exact hts.2))
    have sub : ∀ k d, kget (kdel S.bs b) k = some d → kget S.bs k = some d := fun k d e => by
      by_cases hx : k = b
      · subst hx; rw [kget_del_same] at e; cases e
      · rw [kget_del_other _ hx] at e; exact e
    refine ⟨(off _ (h.lt (.inl rfl)) (by rw [hts.1]; simp)).trans h.a, ?_, fun k d e => ⟨(h.b k d (sub k d e)).1.kept (fun a ha => ?_), (h.b k d (sub k d e)).2⟩, h.mb, Nat.le_trans (kdel_len _ _) h.ml, hts, fun k d e => h.tb k d (sub k d e)⟩
    · show MapK mapIP w' S.bm (ptrs (kdel S.bs b))
      rw [← kdel_ptrs]; exact hm
    · obtain ⟨u1, u2, u3⟩ := h.tb k d (sub k d e)
      have ht : ∃ n, S.tag a = (k, n + 2) := by
        rcases ha with rfl | rfl | ha
        · exact ⟨_, u1⟩
        · exact ⟨1, u2⟩
        · exact ⟨2, u3 a ha⟩
      obtain ⟨n, hn⟩ := ht
      exact off a ((h.b k d (sub k d e)).1.lt ha) (by rw [hn]; intro e; have := (Prod.mk.inj e).2; omega)
  · funext x
    unfold Sd.view delV
    by_cases hx : x = b
    · subst hx; rw [if_pos rfl]; show (kget (kdel S.bs x) x).map Bk.view = _; rw [kget_del_same]; rfl
    · rw [if_neg hx]; show (kget (kdel S.bs b) x).map Bk.view = _; rw [kget_del_other _ hx]
  · rintro a (rfl | rfl | ⟨k, d, e, ha⟩)
    · exact .inl (.inl rfl)
    · exact .inl (.inr (.inl rfl))
    · have e' : kget S.bs k = some d := by
        by_cases hx : k = b
        · subst hx
          have e0 : kget (kdel S.bs k) k = some d := e
          rw [kget_del_same] at e0; cases e0
        · have e0 : kget (kdel S.bs b) k = some d := e
          rw [kget_del_other _ hx] at e0; exact e0
      exact .inl (.inr (.inr ⟨k, d, e', ha⟩))
/-- A new block of so many bytes, of these cells. -/
def newV (n : Int) (cl : List (Ck × Int)) : Bv := ⟨if n < 1 then 1 else n, fun c => (kget cl c).isSome, fun _ => v0⟩
theorem add_any (S : Sd) (n : Int) (lm : Nat) (cl : List (Ck × Int)) (w : World) (h : StoreAs w S) (hn : I64 n) (hm : S.made < 1000000) (hl : MapK mapCI w lm cl) (hcl : cl.length ≤ 1000000) (hlm : ¬ S.has lm) :
    Calls Try.prog 31 #[.pointer (some ⟨S.s, 0, none⟩), .int .i64 n, .iface 76 (.agg #[.map (some lm)])] w fun e w' => e = .returned (.int .i64 ((S.made : Int) + 1)) ∧ ∃ S', Made w S (setV S.view ((S.made : Int) + 1) (newV n cl)) (S.made + 1) w' S' (fun a => a = lm) := by
  refine (badd_any S n _ rfl lm w h hn hm).mono ?_
  rintro e w' ⟨he, kb, hkb, ha, hmp, hb, hk⟩
  refine ⟨he, ?_⟩
  have hts := h.ts
  have h0 : kget S.bs ((S.made : Int) + 1) = none := by
    cases e0 : kget S.bs ((S.made : Int) + 1) with
    | none => rfl
    | some d => have := (h.b _ d e0).2; omega
  have hget : ∀ k d, kget (kput S.bs ((S.made : Int) + 1) (⟨kb, lm, none, (if n < 1 then 1 else n), cl, false, (0, ⟨#[]⟩), v0, []⟩ : Bk)) k = some d → (k = (S.made : Int) + 1 ∧ d = ⟨kb, lm, none, (if n < 1 then 1 else n), cl, false, (0, ⟨#[]⟩), v0, []⟩) ∨ (k ≠ (S.made : Int) + 1 ∧ kget S.bs k = some d) := fun k d e => by
    by_cases hx : k = (S.made : Int) + 1
    · subst hx; rw [kget_put_same] at e; injection e with e; exact .inl ⟨rfl, e.symm⟩
    · rw [kget_put_other _ _ hx] at e; exact .inr ⟨hx, e⟩
  have hltl := hl.lt
  have off : ∀ a, a < w.heap.size → a ≠ S.s → a ≠ S.bm → w'.heap[a]? = w.heap[a]? := fun a ha n1 n2 => hk.block a ha (fun e => by rcases e with e | e; exact n1 e; exact n2 e)
  refine ⟨{ S with made := S.made + 1, bs := kput S.bs ((S.made : Int) + 1) ⟨kb, lm, none, (if n < 1 then 1 else n), cl, false, (0, ⟨#[]⟩), v0, []⟩, tag := fun a => if a = kb then ((S.made : Int) + 1, 2) else if a = lm then ((S.made : Int) + 1, 3) else S.tag a }, ?_, rfl, rfl, ?_, ?_, hk.mono (fun a _ e => ?_)⟩
  · have old : ∀ a, S.has a → a ≠ kb ∧ a ≠ lm := fun a ha => ⟨by have := h.lt ha; omega, fun e => hlm (e ▸ ha)⟩
    refine ⟨?_, ?_, fun k d e => ?_, by show S.made + 1 ≤ _; omega, ?_, ?_, fun k d e => ?_⟩
    · show w'.heap[S.s]? = some (.cells #[.map (some S.bm), .int .i64 ((S.made + 1 : Nat) : Int)] _ _)
      rw [ha]; simp
    · show MapK mapIP w' S.bm (ptrs (kput S.bs _ _))
      rw [← kput_ptrs]; exact hmp
    · rcases hget k d e with ⟨rfl, rfl⟩ | ⟨hx, e'⟩
      · refine ⟨⟨hb, hl.block (off _ hltl (fun e => hlm (.inl e)) (fun e => hlm (.inr (.inl e)))), fun _ => rfl, (fun m e => by cases e), ?_, hcl, (fun k hk => by cases hk), (fun e => by cases e)⟩, by omega, by show _ ≤ ((S.made + 1 : Nat) : Int); omega⟩
        show 1 ≤ (if n < 1 then 1 else n) ∧ (if n < 1 then 1 else n) ≤ 9223372036854775807
        have := hn.2
        split <;> omega
      · refine ⟨(h.b k d e').1.kept (fun a ha => ?_), (h.b k d e').2.1, by have := (h.b k d e').2.2; show _ ≤ ((S.made + 1 : Nat) : Int); omega⟩
        obtain ⟨u1, u2, u3⟩ := h.tb k d e'
        have hk1 := (h.b k d e').2.1
        have ht : ∃ n, S.tag a = (k, n) := by
          rcases ha with rfl | rfl | ha
          · exact ⟨_, u1⟩
          · exact ⟨_, u2⟩
          · exact ⟨_, u3 a ha⟩
        obtain ⟨q, hq⟩ := ht
        exact off a ((h.b k d e').1.lt ha) (fun e => by rw [e, hts.1] at hq; have := (Prod.mk.inj hq).1; omega) (fun e => by rw [e, hts.2] at hq; have := (Prod.mk.inj hq).1; omega)
    · show (kput S.bs _ _).length ≤ S.made + 1
      have := kput_le S.bs ((S.made : Int) + 1) (⟨kb, lm, none, (if n < 1 then 1 else n), cl, false, (0, ⟨#[]⟩), v0, []⟩ : Bk)
      have := h.ml
      omega
    · exact ⟨by show (if _ then _ else _) = _; rw [if_neg (old _ (.inl rfl)).1, if_neg (old _ (.inl rfl)).2]; exact hts.1, by show (if _ then _ else _) = _; rw [if_neg (old _ (.inr (.inl rfl))).1, if_neg (old _ (.inr (.inl rfl))).2]; exact hts.2⟩
    · rcases hget k d e with ⟨rfl, rfl⟩ | ⟨hx, e'⟩
      · refine ⟨if_pos rfl, ?_, (fun m e => by cases e)⟩
        show (if lm = kb then _ else _) = _
        rw [if_neg (by omega), if_pos rfl]
      · obtain ⟨u1, u2, u3⟩ := h.tb k d e'
        refine ⟨?_, ?_, fun m hm => ?_⟩
        · have o := old _ (.inr (.inr ⟨k, d, e', .inl rfl⟩))
          show (if _ then _ else _) = _; rw [if_neg o.1, if_neg o.2]; exact u1
        · have o := old _ (.inr (.inr ⟨k, d, e', .inr (.inl rfl)⟩))
          show (if _ then _ else _) = _; rw [if_neg o.1, if_neg o.2]; exact u2
        · have o := old _ (.inr (.inr ⟨k, d, e', .inr (.inr hm)⟩))
          show (if _ then _ else _) = _; rw [if_neg o.1, if_neg o.2]; exact u3 m hm
  · funext x
    unfold Sd.view setV
    by_cases hx : x = (S.made : Int) + 1
    · subst hx; rw [if_pos rfl]; show (kget (kput S.bs _ _) _).map Bk.view = _; rw [kget_put_same]
      show some (Bk.view _) = _
      refine congrArg some (get_ext rfl rfl ?_)
      funext c
      show Bk.get (⟨kb, lm, none, (if n < 1 then 1 else n), cl, false, (0, ⟨#[]⟩), v0, []⟩ : Bk) c = v0
      unfold Bk.get
      rw [if_neg (fun e => by cases e.1)]; rfl
    · rw [if_neg hx]; show (kget (kput S.bs _ _) x).map Bk.view = _; rw [kget_put_other _ _ hx]
  · rintro a (rfl | rfl | ⟨k, d, e, ha⟩)
    · exact .inl (.inl rfl)
    · exact .inl (.inr (.inl rfl))
    · rcases hget k d e with ⟨rfl, rfl⟩ | ⟨hx, e'⟩
      · rcases ha with rfl | rfl | ha
        · exact .inr (.inr hkb)
        · exact .inr (.inl rfl)
        · cases ha
      · exact .inl (.inr (.inr ⟨k, d, e', ha⟩))
  · rcases e with rfl | rfl
    · exact .inl rfl
    · exact .inr (.inl rfl)
end Go.Proofs.Ytjchfldlmabblaa
