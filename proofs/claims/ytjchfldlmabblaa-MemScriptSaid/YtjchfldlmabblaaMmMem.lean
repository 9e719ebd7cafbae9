/- The memory: its calls that read. -/
import Derived.Test.YtjchfldlmabblaaMmAdd
import Derived.Test.YtjchfldlmabblaaMmReadAny
import Derived.Test.YtjchfldlmabblaaMmStoreC
namespace Go.Proofs.Ytjchfldlmabblaa
open Go.RowKit Go.Maps
set_option linter.unusedVariables false

/-- A memory, at m. -/
structure MemAs (w : World) (m : Nat) (S : Sd) : Prop where
  a : w.heap[m]? = some (.cells #[.pointer (some ⟨S.s, 0, none⟩)] 73 (0, 0))
  st : StoreAs w S
  out : ¬ S.has m
section
variable {w w' : World} {m : Nat} {S : Sd}
theorem MemAs.lt (h : MemAs w m S) : m < w.heap.size := (Array.getElem?_eq_some_iff.1 h.a).1
theorem MemAs.c (h : MemAs w m S) : w.cell? ⟨m, 0, none⟩ = some (.pointer (some ⟨S.s, 0, none⟩)) := by simp [World.cell?, h.a]
theorem MemAs.kept {F : Nat → Prop} (h : MemAs w m S) (hk : Keeps F w w') (hF : ∀ a, F a → ¬ S.has a ∧ a ≠ m) : MemAs w' m S :=
  ⟨(hk.block _ h.lt (fun e => (hF _ e).2 rfl)).trans h.a, h.st.kept hk (fun a ha e => (hF a e).1 ha), h.out⟩
theorem MemAs.no (h : MemAs w m S) (hk : Keeps No w w') : MemAs w' m S := h.kept hk (fun _ e => e.elim)
end
set_option maxHeartbeats 800000 in
theorem mnone_any (m : Nat) (S : Sd) (w : World) (h : MemAs w m S) :
    Calls Try.prog 30 #[.pointer (some ⟨m, 0, none⟩)] w fun e w' => e = .returned (.bool false) ∧ w' = w := by
  have c := h.c
  clear h
  go_enter Try.func30, Try.ntmps30
  go_wp2_with fail
  go_returns
  exact ⟨rfl, rfl⟩
set_option maxHeartbeats 800000 in
theorem mnone_nil (w : World) :
    Calls Try.prog 30 #[.pointer none] w fun e w' => e = .returned (.bool true) ∧ w' = w := by
  go_enter Try.func30, Try.ntmps30
  go_wp2_with fail
  go_returns
  exact ⟨rfl, rfl⟩
theorem mnone_as (m : Nat) (S : Sd) (w W : World) (h : MemAs w m S) (hk : Keeps No w W) :
    Calls Try.prog 30 #[.pointer (some ⟨m, 0, none⟩)] W fun e w' => e = .returned (.bool false) ∧ w' = W := mnone_any m S W (h.no hk)
abbrev q1 (w : World) (p : Vl) : World := w.alloc (.cells #[.int .i64 p.k, .int .i64 p.n, .int .i64 p.b, .int .i64 p.o] 30)
theorem q1_k (w : World) (p : Vl) {W : World} (h : Keeps No (q1 w p) W) : Keeps No w W := ((Keeps.refl _ _).alloc _).tr h
abbrev q2 (w : World) (p q : Vl) : World := (w.alloc (.cells #[.int .i64 p.k, .int .i64 p.n, .int .i64 p.b, .int .i64 p.o] 30)).alloc (.cells #[.int .i64 q.k, .int .i64 q.n, .int .i64 q.b, .int .i64 q.o] 30)
theorem q2_k (w : World) (p q : Vl) {W : World} (h : Keeps No (q2 w p q) W) : Keeps No w W := (((Keeps.refl _ _).alloc _).alloc _).tr h
theorem q1_c (w : World) (p : Vl) {W : World} (h : Keeps No (q1 w p) W) :
    W.cell? ⟨w.heap.size, 0, none⟩ = some (.int .i64 p.k) ∧ W.cell? ⟨w.heap.size, 1, none⟩ = some (.int .i64 p.n) ∧ W.cell? ⟨w.heap.size, 2, none⟩ = some (.int .i64 p.b) ∧ W.cell? ⟨w.heap.size, 3, none⟩ = some (.int .i64 p.o) := by
  obtain ⟨a, b, c, d, _⟩ := four_cells (row_of h)
  exact ⟨a, b, c, d⟩
theorem q2_c (w : World) (p q : Vl) {W : World} (h : Keeps No (q2 w p q) W) :
    (W.cell? ⟨w.heap.size, 0, none⟩ = some (.int .i64 p.k) ∧ W.cell? ⟨w.heap.size, 1, none⟩ = some (.int .i64 p.n) ∧ W.cell? ⟨w.heap.size, 2, none⟩ = some (.int .i64 p.b) ∧ W.cell? ⟨w.heap.size, 3, none⟩ = some (.int .i64 p.o)) ∧
    (W.cell? ⟨w.heap.size + 1, 0, none⟩ = some (.int .i64 q.k) ∧ W.cell? ⟨w.heap.size + 1, 1, none⟩ = some (.int .i64 q.n) ∧ W.cell? ⟨w.heap.size + 1, 2, none⟩ = some (.int .i64 q.b) ∧ W.cell? ⟨w.heap.size + 1, 3, none⟩ = some (.int .i64 q.o)) := by
  obtain ⟨a, b, c, d, _⟩ := four_cells (row_of2 h)
  exact ⟨q1_c w p (((Keeps.refl _ _).alloc _).tr h), a, b, c, d⟩
set_option maxRecDepth 100000 in
set_option maxHeartbeats 800000 in
theorem mless_any (m : Nat) (S : Sd) (p q : Vl) (w : World) (h : MemAs w m S) (hp : vlOk p) (hq : vlOk q) :
    Calls Try.prog 20 #[.pointer (some ⟨m, 0, none⟩), va p, va q] w fun e w' => e = .returned (.tuple #[.bool (lessV S.view p q).1, .bool (lessV S.view p q).2]) ∧ Keeps No w w' := by
  have H0 := Lib.hid (fun W hk => mnone_as m S w W h hk)
  have H1 := Lib.hid (fun W hk => less_any S p q W (h.st.no hk) hp hq)
  have HM := fun (u : KW (q2 w p q)) => (h.no (q2_k w p q u.h)).c
  have hc := fun (u : KW (q2 w p q)) => q2_c w p q u.h
  have hne : Nonempty (KW (q2 w p q)) := ⟨KW.of _⟩
  clear h hp hq
  obtain ⟨⟨r1, r2⟩, hr⟩ : ∃ r, lessV S.view p q = r := ⟨_, rfl⟩
  rw [hr] at H1 ⊢
  clear hr
  obtain ⟨pk, pn, pb, po⟩ := p
  obtain ⟨qk, qn, qb, qo⟩ := q
  have a0 := fun u => (hc u).1.1
  have a1 := fun u => (hc u).1.2.1
  have a2 := fun u => (hc u).1.2.2.1
  have a3 := fun u => (hc u).1.2.2.2
  have b0 := fun u => (hc u).2.1
  have b1 := fun u => (hc u).2.2.1
  have b2 := fun u => (hc u).2.2.2.1
  have b3 := fun u => (hc u).2.2.2.2
  clear hc
  go_enter Try.func20, Try.ntmps20
  go_wp2_with fail
  refine (H0.out _ (by repeat (first | with_reducible exact Keeps.refl _ _ | with_reducible refine Keeps.alloc ?_ _ | with_reducible refine Keeps.drewN ?_ _ | with_reducible refine Keeps.drew ?_ | with_reducible refine Keeps.setCell ?_ (.inr (by simp)) _ | with_reducible refine Keeps.setRow ?_ (by simp) _))).mono ?_
  rintro e w1 ⟨rfl, rfl⟩
  go_wp2_with fail
  refine wp_region_class (C := fun W => ∃ u : KW (q2 w ⟨pk, pn, pb, po⟩ ⟨qk, qn, qb, qo⟩), W = u.W) (by kernel_rfl) (by kernel_rfl) ⟨⟨World.drew _, (by repeat (first | with_reducible exact Keeps.refl _ _ | with_reducible refine Keeps.alloc ?_ _ | with_reducible refine Keeps.drewN ?_ _ | with_reducible refine Keeps.drew ?_ | with_reducible refine Keeps.setCell ?_ (.inr (by simp)) _ | with_reducible refine Keeps.setRow ?_ (by simp) _))⟩, rfl⟩ ?_
  repeat (go_big_quiet_step (first | (go_at_call 37; with_reducible refine kw_call _ (H1.out _ (q2_k _ _ _ (KW.h _))))))
  refine wpQuiet_nil ?_
  rintro _ ⟨T, rfl⟩
  have HK := Lib.hid (q2_k _ _ _ T.h)
  go_wp2_with fail
  go_returns
  exact ⟨rfl, HK.out⟩
set_option maxRecDepth 100000 in
set_option maxHeartbeats 800000 in
theorem mequal_any (m : Nat) (S : Sd) (p q : Vl) (w : World) (h : MemAs w m S) (hp : vlOk p) (hq : vlOk q) :
    Calls Try.prog 22 #[.pointer (some ⟨m, 0, none⟩), va p, va q] w fun e w' => e = .returned (.tuple #[.bool (equalV S.view p q).1, .bool (equalV S.view p q).2]) ∧ Keeps No w w' := by
  have H0 := Lib.hid (fun W hk => mnone_as m S w W h hk)
  have H1 := Lib.hid (fun W hk => equal_any S p q W (h.st.no hk) hp hq)
  have HM := fun (u : KW (q2 w p q)) => (h.no (q2_k w p q u.h)).c
  have hc := fun (u : KW (q2 w p q)) => q2_c w p q u.h
  have hne : Nonempty (KW (q2 w p q)) := ⟨KW.of _⟩
  clear h hp hq
  obtain ⟨⟨r1, r2⟩, hr⟩ : ∃ r, equalV S.view p q = r := ⟨_, rfl⟩
  rw [hr] at H1 ⊢
  clear hr
  obtain ⟨pk, pn, pb, po⟩ := p
  obtain ⟨qk, qn, qb, qo⟩ := q
  have a0 := fun u => (hc u).1.1
  have a1 := fun u => (hc u).1.2.1
  have a2 := fun u => (hc u).1.2.2.1
  have a3 := fun u => (hc u).1.2.2.2
  have b0 := fun u => (hc u).2.1
  have b1 := fun u => (hc u).2.2.1
  have b2 := fun u => (hc u).2.2.2.1
  have b3 := fun u => (hc u).2.2.2.2
  clear hc
  go_enter Try.func22, Try.ntmps22
  go_wp2_with fail
  refine (H0.out _ (by repeat (first | with_reducible exact Keeps.refl _ _ | with_reducible refine Keeps.alloc ?_ _ | with_reducible refine Keeps.drewN ?_ _ | with_reducible refine Keeps.drew ?_ | with_reducible refine Keeps.setCell ?_ (.inr (by simp)) _ | with_reducible refine Keeps.setRow ?_ (by simp) _))).mono ?_
  rintro e w1 ⟨rfl, rfl⟩
  go_wp2_with fail
  refine wp_region_class (C := fun W => ∃ u : KW (q2 w ⟨pk, pn, pb, po⟩ ⟨qk, qn, qb, qo⟩), W = u.W) (by kernel_rfl) (by kernel_rfl) ⟨⟨World.drew _, (by repeat (first | with_reducible exact Keeps.refl _ _ | with_reducible refine Keeps.alloc ?_ _ | with_reducible refine Keeps.drewN ?_ _ | with_reducible refine Keeps.drew ?_ | with_reducible refine Keeps.setCell ?_ (.inr (by simp)) _ | with_reducible refine Keeps.setRow ?_ (by simp) _))⟩, rfl⟩ ?_
  repeat (go_big_quiet_step (first | (go_at_call 39; with_reducible refine kw_call _ (H1.out _ (q2_k _ _ _ (KW.h _))))))
  refine wpQuiet_nil ?_
  rintro _ ⟨T, rfl⟩
  have HK := Lib.hid (q2_k _ _ _ T.h)
  go_wp2_with fail
  go_returns
  exact ⟨rfl, HK.out⟩
set_option maxRecDepth 100000 in
set_option maxHeartbeats 800000 in
theorem mdist_any (m : Nat) (S : Sd) (p q : Vl) (w : World) (h : MemAs w m S) (hp : vlOk p) (hq : vlOk q) :
    Calls Try.prog 24 #[.pointer (some ⟨m, 0, none⟩), va p, va q] w fun e w' => e = .returned (.tuple #[.int .i64 (distV S.view p q).1, .bool (distV S.view p q).2]) ∧ Keeps No w w' := by
  have H0 := Lib.hid (fun W hk => mnone_as m S w W h hk)
  have H1 := Lib.hid (fun W hk => dist_any S p q W (h.st.no hk) hp hq)
  have HM := fun (u : KW (q2 w p q)) => (h.no (q2_k w p q u.h)).c
  have hc := fun (u : KW (q2 w p q)) => q2_c w p q u.h
  have hne : Nonempty (KW (q2 w p q)) := ⟨KW.of _⟩
  clear h hp hq
  obtain ⟨⟨r1, r2⟩, hr⟩ : ∃ r, distV S.view p q = r := ⟨_, rfl⟩
  rw [hr] at H1 ⊢
  clear hr
  obtain ⟨pk, pn, pb, po⟩ := p
  obtain ⟨qk, qn, qb, qo⟩ := q
  have a0 := fun u => (hc u).1.1
  have a1 := fun u => (hc u).1.2.1
  have a2 := fun u => (hc u).1.2.2.1
  have a3 := fun u => (hc u).1.2.2.2
  have b0 := fun u => (hc u).2.1
  have b1 := fun u => (hc u).2.2.1
  have b2 := fun u => (hc u).2.2.2.1
  have b3 := fun u => (hc u).2.2.2.2
  clear hc
  go_enter Try.func24, Try.ntmps24
  go_wp2_with fail
  refine (H0.out _ (by repeat (first | with_reducible exact Keeps.refl _ _ | with_reducible refine Keeps.alloc ?_ _ | with_reducible refine Keeps.drewN ?_ _ | with_reducible refine Keeps.drew ?_ | with_reducible refine Keeps.setCell ?_ (.inr (by simp)) _ | with_reducible refine Keeps.setRow ?_ (by simp) _))).mono ?_
  rintro e w1 ⟨rfl, rfl⟩
  go_wp2_with fail
  refine wp_region_class (C := fun W => ∃ u : KW (q2 w ⟨pk, pn, pb, po⟩ ⟨qk, qn, qb, qo⟩), W = u.W) (by kernel_rfl) (by kernel_rfl) ⟨⟨World.drew _, (by repeat (first | with_reducible exact Keeps.refl _ _ | with_reducible refine Keeps.alloc ?_ _ | with_reducible refine Keeps.drewN ?_ _ | with_reducible refine Keeps.drew ?_ | with_reducible refine Keeps.setCell ?_ (.inr (by simp)) _ | with_reducible refine Keeps.setRow ?_ (by simp) _))⟩, rfl⟩ ?_
  repeat (go_big_quiet_step (first | (go_at_call 42; with_reducible refine kw_call _ (H1.out _ (q2_k _ _ _ (KW.h _))))))
  refine wpQuiet_nil ?_
  rintro _ ⟨T, rfl⟩
  have HK := Lib.hid (q2_k _ _ _ T.h)
  go_wp2_with fail
  go_returns
  exact ⟨rfl, HK.out⟩
end Go.Proofs.Ytjchfldlmabblaa
