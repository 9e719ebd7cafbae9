/- The closure that drains: its contract. -/
import Derived.Test.YtheapamlhoogaaaMvMay
namespace Go.Proofs.Ytheapamlhoogaaa
open Go.RowKit Go.Maps
set_option linter.unusedVariables false

theorem infoM : (Try.prog.info? 42).map (fun i => (i.zero, i.size, i.bytes)) = some (some (.agg #[.int .i64 0, .int .i64 0]), 2, 16) := by kernel_rfl
/-- What Order holds: two maps, each behind a variable of its own, and what was put out, behind another one. -/
structure St (B : Nat) (w0 : World) (po : Nat) (v : Value) (al rl ol : List Mv.Pr) (wr : World) : Prop where
  f : wr.heap[B + 1]? = some (.cells #[.map (some B)] 44 (0, 0))
  r : wr.heap[B + 3]? = some (.cells #[.map (some (B + 2))] 44 (0, 0))
  o : wr.heap[po]? = some (.cells #[v] 41 (0, 0))
  mf : MapAs wr B al
  mr : MapAs wr (B + 2) rl
  own : wr.ownsRow (B + 4) 42 2 v ol.length (mrow ol)
  p4 : B + 4 ≤ po
  below : Below B w0 wr
  obd : ∀ t ∈ ol, I64 t.1 ∧ I64 t.2
theorem own_ne {w : World} {B po n : Nat} {v u : Value} {xs : List Value} (h : w.ownsRow B 42 2 v n xs) (ho : w.heap[po]? = some (.cells #[u] 41 (0, 0))) : v.ownBlock ≠ some po := by
  rcases h.2 with ⟨rfl, _⟩ | ⟨g, cap, cur, rfl, _, hg, _⟩
  · exact fun e => by cases e
  · intro e
    have e' : g = po := by injection e
    subst e'
    rw [hg] at ho
    injection ho with ho
    injection ho with _ h2 _
    exact absurd h2 (by decide)
section
variable {B po : Nat} {w0 wr w1 : World} {v v' : Value} {al rl ol al' : List Mv.Pr}
theorem St.lt (h : St B w0 po v al rl ol wr) : B + 3 < wr.heap.size ∧ po < wr.heap.size := ⟨(Array.getElem?_eq_some_iff.1 h.r).1, (Array.getElem?_eq_some_iff.1 h.o).1⟩
theorem St.facts (h : St B w0 po v al rl ol wr) : wr.cell? ⟨B + 1, 0, none⟩ = some (.map (some B)) ∧ wr.cell? ⟨B + 3, 0, none⟩ = some (.map (some (B + 2))) ∧ wr.cell? ⟨po, 0, none⟩ = some v ∧ wr.frozen? ⟨po, 0, none⟩ = false := by
  refine ⟨?_, ?_, ?_, ?_⟩ <;> simp [World.cell?, World.frozen?, h.f, h.r, h.o]
theorem St.grown {row : Option Nat} (h : St B w0 po v al rl ol wr) (hg : wr.grownBy w1 row) (h1 : row ≠ some B) (h2 : row ≠ some (B + 1)) (h3 : row ≠ some (B + 2)) (h4 : row ≠ some (B + 3)) (h5 : row ≠ some po) (h6 : v.ownBlock = none ∨ v.ownBlock ≠ row) (h7 : ∀ q, row = some q → B ≤ q) : St B w0 po v al rl ol w1 := by
  have hl := h.lt
  refine ⟨(hg.block _ (by omega) (fun e => h2 e.symm)).trans h.f, (hg.block _ (by omega) (fun e => h4 e.symm)).trans h.r, (hg.block _ hl.2 (fun e => h5 e.symm)).trans h.o, h.mf.kept hg (fun e => h1 e.symm), h.mr.kept hg (fun e => h3 e.symm), h.own.kept hg h6, h.p4, h.below.grown hg (by omega) h7, h.obd⟩
theorem St.alloc (h : St B w0 po v al rl ol wr) (o : Obj) : St B w0 po v al rl ol (wr.alloc o) :=
  h.grown (row := none) (World.grownBy_alloc wr o none) (fun e => by cases e) (fun e => by cases e) (fun e => by cases e) (fun e => by cases e) (fun e => by cases e) (by cases hv : v.ownBlock with
    | none => exact .inl rfl
    | some q => exact .inr (fun e => by cases e)) (fun q e => by cases e)
theorem St.own_ge (h : St B w0 po v al rl ol wr) {k : Nat} (hk : k < B + 4) : v.ownBlock ≠ some k := fun e => by have := (h.own.lt k e).1; omega
theorem St.putF (h : St B w0 po v al rl ol wr) (hm : MapAs w1 B al') (hg : wr.grownBy w1 (some B)) : St B w0 po v al' rl ol w1 := by
  have hl := h.lt
  have hp := h.p4
  refine ⟨(hg.block _ (by omega) (fun e => by injection e; omega)).trans h.f, (hg.block _ (by omega) (fun e => by injection e; omega)).trans h.r, (hg.block _ hl.2 (fun e => by injection e; omega)).trans h.o, hm, h.mr.kept hg (fun e => by injection e; omega), h.own.kept hg (.inr (h.own_ge (by omega))), hp, h.below.grown hg (by omega) (fun q e => by cases e; exact Nat.le_refl _), h.obd⟩
theorem St.putR (h : St B w0 po v al rl ol wr) (hm : MapAs w1 (B + 2) al') (hg : wr.grownBy w1 (some (B + 2))) : St B w0 po v al al' ol w1 := by
  have hl := h.lt
  have hp := h.p4
  refine ⟨(hg.block _ (by omega) (fun e => by injection e; omega)).trans h.f, (hg.block _ (by omega) (fun e => by injection e; omega)).trans h.r, (hg.block _ hl.2 (fun e => by injection e; omega)).trans h.o, h.mf.kept hg (fun e => by injection e; omega), hm, h.own.kept hg (.inr (h.own_ge (by omega))), hp, h.below.grown hg (by omega) (fun q e => by cases e; omega), h.obd⟩
theorem St.app {o : Obj} {t : Mv.Pr} (h : St B w0 po v al rl ol wr) (hg : (wr.alloc o).grownBy w1 v.ownBlock) (hown : w1.ownsRow (B + 4) 42 2 v' (ol.length + 1) (mrow ol ++ [.int .i64 t.1, .int .i64 t.2])) (ht : I64 t.1 ∧ I64 t.2) :
    St B w0 po v' al rl (ol ++ [t]) (w1.setCell ⟨po, 0, none⟩ v') ∧ w1.cell? ⟨po, 0, none⟩ = some v ∧ w1.frozen? ⟨po, 0, none⟩ = false := by
  have a := h.alloc o
  have hl := a.lt
  have hp := a.p4
  have hne := own_ne a.own a.o
  have ho1 := (hg.block _ hl.2 (fun e => hne e.symm)).trans a.o
  have hne' := own_ne hown ho1
  have k : ∀ j, j < B + 4 → some j ≠ v.ownBlock := fun j hj e => a.own_ge hj e.symm
  refine ⟨⟨?_, ?_, one_setCell ho1, ?_, ?_, ?_, hp, ?_, ?_⟩, ?_, ?_⟩
  · exact (Below.heap_setCell _ _ _ _ (by show B + 1 ≠ po; omega)).trans ((hg.block _ (by omega) (k _ (by omega))).trans a.f)
  · exact (Below.heap_setCell _ _ _ _ (by show B + 3 ≠ po; omega)).trans ((hg.block _ (by omega) (k _ (by omega))).trans a.r)
  · exact (a.mf.kept hg (k _ (by omega))).setCell (by show B ≠ po; omega) _
  · exact (a.mr.kept hg (k _ (by omega))).setCell (by show B + 2 ≠ po; omega) _
  · rw [mrow_snoc, List.length_append]; exact ownsRow_setCell_other hown hne' _
  · exact (a.below.grown hg (by omega) (fun q e => by have := (a.own.lt q e).1; omega)).setCell (by show B ≤ po; omega) _
  · intro t' ht'
    rcases List.mem_append.1 ht' with ht' | ht'
    · exact h.obd t' ht'
    · simp at ht'; subst ht'; exact ht
  · simp [World.cell?, ho1]
  · simp [World.frozen?, ho1]
theorem St.form (h : St B w0 po v al rl ol wr) : ∃ a cap, v = .slice a ol.length cap := by
  obtain ⟨a, c, h1, _⟩ := own_form h.own; exact ⟨a, c, h1⟩
end
set_option maxRecDepth 100000 in
set_option maxHeartbeats 4000000 in
theorem drain_any (B po : Nat) (w0 : World) (v : Value) (al rl ol : List Mv.Pr) (to : Int) (C : Nat) (hto : I64 to) (hC : C ≤ 1000000) (h1 : rl.length + al.length ≤ C) (h2 : ol.length + al.length ≤ C) (w : World) (h : St B w0 po v al rl ol w) (D : Mv.Ds) (HD : Hid (Mv.drainM (al.length + 1) al rl ol to = D)) :
    Calls Try.prog 18 #[.int .i64 to, .pointer (some ⟨B + 1, 0, none⟩), .pointer (some ⟨B + 3, 0, none⟩), .pointer (some ⟨po, 0, none⟩)] w fun e w' => e = .returned (.tuple #[]) ∧ D.2.1.length + D.1.length ≤ C ∧ D.2.2.length + D.1.length ≤ C ∧ D.1.length ≤ al.length ∧ ∃ v', St B w0 po v' D.1 D.2.1 D.2.2 w' := by
  have HS := Lib.hid h
  obtain ⟨i0, hi, hz0, hz1, hz2⟩ := info_parts infoM
  have hp4 := h.p4
  clear h
  go_enter Try.func18, Try.ntmps18
  go_wp2_with fail
  go_loopg [0] al.length (fun g u wr => ∃ (al' rl' ol' : List Mv.Pr) (v' : Value) (to' : Int) (f' : Nat), u = .int .i64 to' ∧ I64 to' ∧ g = al'.length ∧ al'.length < f' ∧ Hid (Mv.drainM f' al' rl' ol' to' = D) ∧ rl'.length + al'.length ≤ C ∧ ol'.length + al'.length ≤ C ∧ al'.length ≤ al.length ∧ Hid (St B w0 po v' al' rl' ol' wr))
  case atStart => exact ⟨al, rl, ol, v, to, al.length + 1, rfl, hto, rfl, by omega, HD, h1, h2, Nat.le_refl _, HS⟩
  case round =>
    clear HD h1 h2 HS
    obtain ⟨al', rl', ol', v', to', f', rfl, hto', hg, hf, HX, h1, h2, h3, HS⟩ := hrel
    obtain ⟨f', rfl⟩ : ∃ f, f' = f + 1 := ⟨f' - 1, by omega⟩
    obtain ⟨c1, c2, c3, c4⟩ := HS.out.facts
    have k1 := HS.out.mf.lookok hto'
    have k2 := HS.out.mr.look hto'
    obtain ⟨R, hR⟩ : ∃ R, (Mv.aget rl' to').getD 0 = R := ⟨_, rfl⟩
    rw [hR] at k2
    cases hA : Mv.aget al' to' with
    | none =>
      have HX2 : Hid ((al', rl', ol') = D) := Lib.hid (by rw [← HX.out, Mv.drainM, hA])
      rw [hA] at k1
      simp only [Option.getD_none, Option.isSome_none] at k1
      clear HX hA
      go_wp2_with fail
      go_returns
      rw [← HX2.out]
      exact ⟨rfl, h1, h2, h3, v', HS.out⟩
    | some s =>
      have HX2 : Hid ((if 0 < R then (al', rl', ol') else Mv.drainM f' (Mv.adel al' to') (Mv.aput rl' s (Mv.w64 ((Mv.aget rl' s).getD 0 - 1))) (ol' ++ [(to', s)]) s) = D) := Lib.hid (by rw [← HX.out, Mv.drainM, hA, ← hR])
      have hs := HS.out.mf.bd to' s hA
      have hdl := Mv.adel_lt hA
      rw [hA] at k1
      simp only [Option.getD_some, Option.isSome_some] at k1
      clear HX hA hR
      by_cases hR0 : 0 < R
      · have HX3 : Hid ((al', rl', ol') = D) := Lib.hid (by rw [← HX2.out, if_pos hR0])
        clear HX2
        go_wp2_with fail
        go_returns
        rw [← HX3.out]
        exact ⟨rfl, h1, h2, h3, v', HS.out⟩
      · have HX3 : Hid (Mv.drainM f' (Mv.adel al' to') (Mv.aput rl' s (Mv.w64 ((Mv.aget rl' s).getD 0 - 1))) (ol' ++ [(to', s)]) s = D) := Lib.hid (by rw [← HX2.out, if_neg hR0])
        obtain ⟨a4, cap4, hv4⟩ := HS.out.form
        subst hv4
        have hlt := HS.out.lt
        clear HX2
        go_wp2_with (at_builtin; refine wpList_append_own _ rfl _ _ 41 rfl (B + 4) 42 i0 (.agg #[.int .i64 0, .int .i64 0]) 2 16 Try.underlying41 hi hz0 hz1 hz2 rfl (by decide) _ _ _ rfl (HS.out.own.alloc _) ⟨_, 0, none⟩ 1 1 [.int .i64 to', .int .i64 s] rfl rfl ?a1 ?b1 (by unfold maxLen; omega) (by omega) (by simp; omega) ?_)
        case b1 => exact ⟨rfl, rfl⟩
        intro v5 w5 hown hgrow _
        obtain ⟨a5, cap5, rfl, _⟩ := own_form hown
        obtain ⟨S5, x1, x2⟩ := HS.out.app (t := (to', s)) hgrow hown ⟨hto', hs⟩
        have H5 := Lib.hid S5
        obtain ⟨y1, y2, y3, y4⟩ := S5.facts
        clear S5 hown hgrow c1 c2 c3 c4 k1 k2
        go_wp2_with (at_delete; refine wpList_del _ rfl _ _ rfl B al' to' rfl H5.out.mf rfl hto' ?_)
        intro w6 hA6 hg6
        have S6 := H5.out.putF hA6 hg6
        obtain ⟨z1, z2, z3, z4⟩ := S6.facts
        have H6 := Lib.hid S6
        have k3 := S6.mr.look hs
        obtain ⟨R2, hR2⟩ : ∃ R2, (Mv.aget rl' s).getD 0 = R2 := ⟨_, rfl⟩
        rw [hR2] at k3 HX3
        have hRb : I64 R2 := by
          rw [← hR2]
          cases hq : Mv.aget rl' s with
          | none => unfold I64; simp
          | some z => exact S6.mr.bd s z hq
        have hW := w64_I64 (R2 - 1)
        have hW2 : IntKind.i64.wrap (R2 - 1) = Mv.w64 (R2 - 1) := rfl
        have hap := Mv.aput_le rl' s (Mv.w64 (R2 - 1))
        obtain ⟨Z, hZ⟩ : ∃ Z, Mv.w64 (R2 - 1) = Z := ⟨_, rfl⟩
        rw [hZ] at HX3 hW hW2 hap
        clear S6 hA6 hg6 y1 y2 y3 y4 x1 x2 hR2 hZ hRb
        go_wp2_with (at_mapUpdate; refine wpList_put _ rfl _ _ _ rfl (B + 2) rl' s Z rfl H6.out.mr (by unfold maxLen; omega) rfl rfl hs hW ?_)
        intro w7 hA7 hg7
        have H7 := Lib.hid (H6.out.putR hA7 hg7)
        clear hA7 hg7 z1 z2 z3 z4 k3 hW2
        go_wp2_with fail
        go_roundg (Mv.adel al' to').length
        case rel => exact ⟨Mv.adel al' to', Mv.aput rl' s Z, ol' ++ [(to', s)], _, s, f', rfl, hs, rfl, by omega, HX3, by omega, by rw [List.length_append]; simp; omega, by omega, H7⟩
        case measure => omega
end Go.Proofs.Ytheapamlhoogaaa
