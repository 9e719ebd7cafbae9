/- The memory: New, Size, End, Write, and Add of no cells; of no memory. -/
import Derived.Test.YtjchfldlmabblaaMmMem
namespace Go.Proofs.Ytjchfldlmabblaa
open Go.RowKit Go.Maps
set_option linter.unusedVariables false

set_option maxHeartbeats 800000 in
theorem mnew_any (w : World) :
    Calls Try.prog 7 #[] w fun e w' => ∃ m S, e = .returned (.pointer (some ⟨m, 0, none⟩)) ∧ MemAs w' m S ∧ S.made = 0 ∧ S.view = (fun _ => none) ∧ (∀ a, S.has a → w.heap.size ≤ a) ∧ w.heap.size ≤ m ∧ Keeps No w w' := by
  have H1 := Lib.hid (bnew_any w)
  go_enter Try.func7, Try.ntmps7
  go_wp2_with fail
  refine H1.out.mono ?_
  rintro e w1 ⟨S, rfl, hst, hmade, hbs, hhas, hk⟩
  have HS := Lib.hid (And.intro hst (And.intro hmade (And.intro hbs (And.intro hhas hk))))
  clear hst hmade hbs hhas hk
  go_wp2_with fail
  go_returns
  obtain ⟨hst, hmade, hbs, hhas, hk⟩ := HS.out
  refine ⟨w1.heap.size, S, rfl, ⟨heap_alloc_new _ _, hst.no ((Keeps.refl _ _).alloc _), fun e => by have := hst.lt e; omega⟩, hmade, ?_, hhas, hk.size, hk.alloc _⟩
  funext x
  unfold Sd.view
  rw [hbs]; rfl
set_option maxHeartbeats 800000 in
theorem msize_any (m : Nat) (S : Sd) (b : Int) (w : World) (h : MemAs w m S) (hb : I64 b) :
    Calls Try.prog 27 #[.pointer (some ⟨m, 0, none⟩), .int .i64 b] w fun e w' => e = .returned (.int .i64 (((S.view b).map fun d => d.size).getD 0)) ∧ Keeps No w w' := by
  have H0 := Lib.hid (fun W hk => mnone_as m S w W h hk)
  have H1 := Lib.hid (bsize_any S b w h.st hb)
  have hv : (S.view b).map (fun d => d.size) = (kget S.bs b).map (fun d => d.size) := by unfold Sd.view; cases kget S.bs b <;> rfl
  rw [hv]
  have hc := h.c
  clear h hv
  go_enter Try.func27, Try.ntmps27
  go_wp2_with fail
  refine (H0.out _ (by repeat (first | with_reducible exact Keeps.refl _ _ | with_reducible refine Keeps.alloc ?_ _ | with_reducible refine Keeps.drewN ?_ _ | with_reducible refine Keeps.drew ?_ | with_reducible refine Keeps.setCell ?_ (.inr (by simp)) _ | with_reducible refine Keeps.setRow ?_ (by simp) _))).mono ?_
  rintro e w1 ⟨rfl, rfl⟩
  go_wp2_with fail
  refine H1.out.mono ?_
  rintro e w2 ⟨rfl, hk⟩
  have HK := Lib.hid hk
  clear hk
  go_wp2_with fail
  go_returns
  exact ⟨rfl, HK.out⟩
set_option maxHeartbeats 800000 in
theorem mend_any (m : Nat) (S : Sd) (b : Int) (w : World) (h : MemAs w m S) (hb : I64 b) :
    Calls Try.prog 11 #[.pointer (some ⟨m, 0, none⟩), .int .i64 b] w fun e w' => e = .returned (.tuple #[]) ∧ ∃ S', Wrote w S (delV S.view b) w' S' := by
  have H0 := Lib.hid (fun W hk => mnone_as m S w W h hk)
  have H1 := Lib.hid (end_any S b w h.st hb)
  have hc := h.c
  clear h
  go_enter Try.func11, Try.ntmps11
  go_wp2_with fail
  refine (H0.out _ (by repeat (first | with_reducible exact Keeps.refl _ _ | with_reducible refine Keeps.alloc ?_ _ | with_reducible refine Keeps.drewN ?_ _ | with_reducible refine Keeps.drew ?_ | with_reducible refine Keeps.setCell ?_ (.inr (by simp)) _ | with_reducible refine Keeps.setRow ?_ (by simp) _))).mono ?_
  rintro e w1 ⟨rfl, rfl⟩
  go_wp2_with fail
  refine H1.out.mono ?_
  rintro e w2 ⟨rfl, S', hW⟩
  have HW := Lib.hid hW
  clear hW
  go_wp2_with fail
  go_returns
  exact ⟨rfl, S', HW.out⟩
theorem Wrote.on {w W w' : World} {S S' : Sd} {V : View} (h : Wrote W S V w' S') (hk : Keeps No w W) : Wrote w S V w' S' :=
  ⟨h.st, h.s, h.made, h.v, fun a ha => (h.has a ha).imp_right (fun e => Nat.le_trans hk.size e), (hk.mono (T := S.has) (fun _ _ e => e.elim)).trans h.k (fun _ _ e => e)⟩
theorem MemAs.wrote {w w' : World} {m : Nat} {S S' : Sd} {V : View} (h : MemAs w m S) (hW : Wrote w S V w' S') : MemAs w' m S' :=
  ⟨by rw [hW.s]; exact (hW.k.block _ h.lt h.out).trans h.a, hW.st, fun e => by rcases hW.has _ e with e | e; exact h.out e; have := h.lt; omega⟩
set_option maxRecDepth 100000 in
set_option maxHeartbeats 1600000 in
theorem mwrite_any (m : Nat) (S : Sd) (p : Vl) (t : ByteArray) (x : Vl) (w : World) (h : MemAs w m S) (hp : vlOk p) (ht : t.size ≤ maxLen) :
    Calls Try.prog 13 #[.pointer (some ⟨m, 0, none⟩), va p, .string t, va x] w fun e w' => e = .returned (.bool (cellV S.view p t).isSome) ∧ ∃ S', Wrote w S (writeV S.view p t x) w' S' := by
  have H0 := Lib.hid (fun W hk => mnone_as m S w W h hk)
  have H1 := Lib.hid (fun W hk => write_any S p t x W (h.st.no hk) hp ht)
  have hc := h.c
  have hm := h.lt
  clear h hp
  obtain ⟨pk, pn, pb, po⟩ := p
  obtain ⟨xk, xn, xb, xo⟩ := x
  go_enter Try.func13, Try.ntmps13
  go_wp2_with fail
  have hm1 : m ≠ w.heap.size := by omega
  have hm2 : m ≠ w.heap.size + 1 := by omega
  have hm3 : m < w.heap.size + 1 := by omega
  obtain ⟨R, hR⟩ : ∃ R, (cellV S.view ⟨pk, pn, pb, po⟩ t).isSome = R := ⟨_, rfl⟩
  rw [hR] at H1
  go_region_with (first | (refine (H0.out _ (by repeat (first | with_reducible exact Keeps.refl _ _ | with_reducible refine Keeps.alloc ?_ _ | with_reducible refine Keeps.drewN ?_ _ | with_reducible refine Keeps.drew ?_ | with_reducible refine Keeps.setCell ?_ (.inr (by simp)) _ | with_reducible refine Keeps.setRow ?_ (by simp) _))).mono ?_; rintro e w9 ⟨rfl, rfl⟩) | (refine (H1.out _ (by repeat (first | with_reducible exact Keeps.refl _ _ | with_reducible refine Keeps.alloc ?_ _ | with_reducible refine Keeps.drewN ?_ _ | with_reducible refine Keeps.drew ?_ | with_reducible refine Keeps.setCell ?_ (.inr (by simp)) _ | with_reducible refine Keeps.setRow ?_ (by simp) _))).mono ?_; rintro e w9 ⟨rfl, S', hW⟩) | fail)
  all_goals go_wp2_with fail
  all_goals go_returns
  all_goals (rw [hR]; exact ⟨rfl, S', hW.on (by repeat (first | with_reducible exact Keeps.refl _ _ | with_reducible refine Keeps.alloc ?_ _ | with_reducible refine Keeps.drewN ?_ _ | with_reducible refine Keeps.drew ?_ | with_reducible refine Keeps.setCell ?_ (.inr (by simp)) _ | with_reducible refine Keeps.setRow ?_ (by simp) _))⟩)
set_option maxHeartbeats 800000 in
theorem zend_any (w : World) (b : Int) : Calls Try.prog 11 #[.pointer none, .int .i64 b] w fun e w' => e = .returned (.tuple #[]) ∧ Keeps No w w' := by
  go_enter Try.func11, Try.ntmps11
  go_wp2_with fail
  refine (mnone_nil _).mono ?_
  rintro e w1 ⟨rfl, rfl⟩
  go_wp2_with fail
  go_returns
  exact ⟨rfl, Keeps.refl _ _⟩
set_option maxHeartbeats 800000 in
theorem zsize_any (w : World) (b : Int) : Calls Try.prog 27 #[.pointer none, .int .i64 b] w fun e w' => e = .returned (.int .i64 0) ∧ Keeps No w w' := by
  go_enter Try.func27, Try.ntmps27
  go_wp2_with fail
  refine (mnone_nil _).mono ?_
  rintro e w1 ⟨rfl, rfl⟩
  go_wp2_with fail
  go_returns
  exact ⟨rfl, Keeps.refl _ _⟩
set_option maxHeartbeats 800000 in
theorem zread_any (w : World) (p : Vl) (t : ByteArray) : Calls Try.prog 16 #[.pointer none, va p, .string t] w fun e w' => e = .returned (.tuple #[va v0, .bool false]) ∧ Keeps No w w' := by
  obtain ⟨pk, pn, pb, po⟩ := p
  go_enter Try.func16, Try.ntmps16
  go_wp2_with fail
  refine (mnone_nil _).mono ?_
  rintro e w1 ⟨rfl, rfl⟩
  go_wp2_with fail
  go_returns
  exact ⟨rfl, (by repeat (first | with_reducible exact Keeps.refl _ _ | with_reducible refine Keeps.alloc ?_ _ | with_reducible refine Keeps.drewN ?_ _ | with_reducible refine Keeps.drew ?_ | with_reducible refine Keeps.setCell ?_ (.inr (by simp)) _ | with_reducible refine Keeps.setRow ?_ (by simp) _))⟩
set_option maxHeartbeats 800000 in
theorem zadd_any (w : World) (n : Int) (a : Option Addr) (l c : Nat) : Calls Try.prog 9 #[.pointer none, .int .i64 n, .slice a l c] w fun e w' => e = .returned (.int .i64 0) ∧ Keeps No w w' := by
  go_enter Try.func9, Try.ntmps9
  go_wp2_with fail
  refine (mnone_nil _).mono ?_
  rintro e w1 ⟨rfl, rfl⟩
  go_wp2_with fail
  go_returns
  exact ⟨rfl, (by repeat (first | with_reducible exact Keeps.refl _ _ | with_reducible refine Keeps.alloc ?_ _ | with_reducible refine Keeps.drewN ?_ _ | with_reducible refine Keeps.drew ?_ | with_reducible refine Keeps.setCell ?_ (.inr (by simp)) _ | with_reducible refine Keeps.setRow ?_ (by simp) _))⟩
end Go.Proofs.Ytjchfldlmabblaa
