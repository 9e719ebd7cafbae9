/- The document's Uses; rows held against one another; a row written over. -/
import Derived.Test.YtpjilcfmcbapcaaDoorIrUses
import Derived.Deep.LoopGhost
namespace Go.Proofs.YtpjilcfmcbapcaaDoor
open Go.RowKit
set_option linter.unusedVariables false
set_option linter.unusedSimpArgs false

theorem reads_has (op a : Int) : readsAI op a = (hasA op && !((op == 17) && (a == -1))) := by
  unfold readsAI hasA
  by_cases h : op = 17
  · subst h; by_cases ha : a = -1
    · subst ha; decide
    · have h1 : (a == -1) = false := beq_eq_false_iff_ne.2 ha
      have h2 : (a != -1) = true := bne_iff_ne.2 ha
      rw [h1, h2]; decide
  · have h1 : (op == 17) = false := beq_eq_false_iff_ne.2 h
    rw [h1]
    simp [Bool.or_comm, Bool.or_left_comm, Bool.or_assoc]
set_option maxRecDepth 100000 in
set_option maxHeartbeats 6400000 in
theorem ruses_any (x : Ix) (w : World) (hx : IxOk w x) (hn : x.args.n ≤ 100000) :
    Calls Tryd.prog 32 #[ia x] w fun e w' => ∃ v, e = .returned v ∧ Own w w' v x.uses := by
  have HOK := Lib.hid (fun (o : Obj) => hx.no ((Keeps.refl No w).alloc o))
  have HAT := Lib.hid (fun (t : TypeId) => ix_boxed x w t)
  clear hx
  obtain ⟨HH, hHH⟩ : ∃ R, hasA x.op = R := ⟨_, rfl⟩
  obtain ⟨P, hP⟩ : ∃ R, (x.op == 17) = R := ⟨_, rfl⟩
  obtain ⟨Q, hQ⟩ : ∃ R, (x.a == -1) = R := ⟨_, rfl⟩
  obtain ⟨RB, hRB⟩ : ∃ R, hasB x.op = R := ⟨_, rfl⟩
  obtain ⟨CC, hCC⟩ : ∃ R, callsI x.op = R := ⟨_, rfl⟩
  have HU : Hid (x.uses = opt (HH && !(P && Q)) [x.a] ++ opt RB [x.b] ++ opt CC x.args.l) := Lib.hid (by unfold Ix.uses; rw [reads_has, hHH, hP, hQ, show readsBI x.op = RB from hRB, hCC]; rfl)
  have HA := Lib.hid (fun (W : World) => has_any x.op W)
  rw [hHH, hRB] at HA
  have HC := Lib.hid (fun (W : World) => rcalls_any x.op W)
  rw [hCC] at HC
  have HP := Lib.hid hP
  have HQ := Lib.hid hQ
  clear hHH hRB hCC hP hQ
  go_enter Tryd.func32, Tryd.ntmps32
  go_wp2_with fail
  have HAW := Lib.hid (HAT.out 38)
  have HOW := Lib.hid (HOK.out (.cells #[.int .i64 x.op, .int .i64 x.sub, .int .i64 x.d, .int .i64 x.a, .int .i64 x.b, .int .i64 x.n, .int .i64 x.wb, .bool x.ws, x.args.v, x.to.v, x.cases_.v] 38))
  have HKW : Hid (Keeps No w (w.alloc (.cells #[.int .i64 x.op, .int .i64 x.sub, .int .i64 x.d, .int .i64 x.a, .int .i64 x.b, .int .i64 x.n, .int .i64 x.wb, .bool x.ws, x.args.v, x.to.v, x.cases_.v] 38))) := Lib.hid ((Keeps.refl _ _).alloc _)
  generalize (w.alloc (.cells #[.int .i64 x.op, .int .i64 x.sub, .int .i64 x.d, .int .i64 x.a, .int .i64 x.b, .int .i64 x.n, .int .i64 x.wb, .bool x.ws, x.args.v, x.to.v, x.cases_.v] 38)) = w1 at *
  clear HAT HOK
  refine (HA.out _).mono ?_
  rintro e w2 ⟨rfl, rfl⟩
  have HF := Lib.hid (fun (W : World) (hk : Keeps No w2 W) (j : Nat) (v : Value) (hj : x.cells[j]? = some v) => by have h := hk.cell0 (HAW.out j v hj); rw [Nat.zero_add] at h; exact h)
  have c0 := HF.out w2 (Keeps.refl _ _) 0 _ rfl
  have c3 := HF.out w2 (Keeps.refl _ _) 3 _ rfl
  go_upto_region 3 with fail
  go_cut [27] (fun v wx => v = .bool (HH && !(P && Q)) ∧ w2 = wx)
  case first =>
    have hP := HP.out
    have hQ := HQ.out
    cases HH <;> cases P <;> cases Q <;> (go_wp2_with fail; go_meet; exact ⟨rfl, rfl⟩)
  case rest =>
  obtain ⟨rfl, rfl⟩ := hcut
  obtain ⟨RA, hRA⟩ : ∃ R, (HH && !(P && Q)) = R := ⟨_, rfl⟩
  rw [hRA] at HU ⊢
  clear hRA
  go_upto_if 27 with fail
  go_cut [7] (fun v wx => Hid (Own w2 wx v (opt RA [x.a])))
  case first =>
    cases RA with
    | true =>
      go_wp2_with (at_builtin; refine wpList_appI _ rfl (.tmp 28) (.tmp 31) 22 rfl Tryd.underlying22 w2.heap.size (.slice none 0 0) 0 [] x.a w2.heap.size rfl (World.ownsRow_nil _ _ _ _) rfl (heap_alloc_new _ _) (by omega) (by simp) ?_)
      intro g2 cap2 w3 ho2 hg2
      have HO2 : Hid (Own w2 w3 (.slice (some ⟨g2, 0, none⟩) (0 + 1) cap2) [x.a]) := Lib.hid ⟨ho2, ((Keeps.refl _ _).alloc _).grown hg2 (fun q e => by cases e)⟩
      clear ho2 hg2
      go_wp2_with fail
      go_meet
      exact HO2
    | false =>
      go_wp2_with fail
      go_meet
      exact Lib.hid (Own.nil _)
  case rest =>
    have HO := hcut
    clear hcut c0 c3
    go_upto_if 33 with fail
    go_cut [7] (fun v wx => Hid (Own w2 wx v (opt RA [x.a] ++ opt RB [x.b])))
    case first =>
      have c4 := HF.out wc HO.out.k 4 _ rfl
      cases RB with
      | true =>
        obtain ⟨L, hL⟩ : ∃ L, opt RA [x.a] = L := ⟨_, rfl⟩
        have hl : L.length ≤ 1 := by rw [← hL]; exact opt_len _ _
        rw [hL] at HO
        have HLL := Lib.hid hL
        clear hL
        go_wp2_with (at_builtin; refine wpList_appI _ rfl (.tmp 34) (.tmp 37) 22 rfl Tryd.underlying22 w2.heap.size _ L.length L x.b wc.heap.size rfl (HO.out.o.alloc _) rfl (heap_alloc_new _ _) (by omega) (by have := HO.out.k.size; simp; omega) ?_)
        intro g3 cap3 w3 ho3 hg3
        have HO3 : Hid (Own w2 w3 (.slice (some ⟨g3, 0, none⟩) (L.length + 1) cap3) (L ++ [x.b])) := Lib.hid ⟨by rw [List.length_append]; exact ho3, (HO.out.k.alloc _).grown hg3 (fun q e => .inr (HO.out.o.lt q e).1)⟩
        clear ho3 hg3
        go_wp2_with fail
        go_meet
        rw [HLL.out, opt_t]
        exact HO3
      | false =>
        go_wp2_with fail
        go_meet
        rw [opt_f, List.append_nil]
        exact HO
    case rest =>
      have HO := hcut
      clear hcut
      have c0 := HF.out _ HO.out.k 0 _ rfl
      have c7 := HF.out _ HO.out.k 8 _ rfl
      obtain ⟨L, hL⟩ : ∃ L, opt RA [x.a] ++ opt RB [x.b] = L := ⟨_, rfl⟩
      have hl : L.length ≤ 2 := by rw [← hL, List.length_append]; have := opt_len RA x.a; have := opt_len RB x.b; omega
      rw [hL] at HO HU
      clear hL
      cases CC with
      | false =>
        go_wp2_with fail
        refine (HC.out _).mono ?_
        rintro e w4 ⟨rfl, rfl⟩
        go_wp2_with fail
        go_returns
        refine ⟨_, rfl, ?_⟩
        rw [HU.out, opt_f, List.append_nil]
        exact HO.out.of HKW.out
      | true =>
        go_wp2_with fail
        refine (HC.out _).mono ?_
        rintro e w4 ⟨rfl, rfl⟩
        have HS := HOW.out.args
        by_cases hn0 : x.args.n = 0
        · have HN0 := Lib.hid hn0
          have c7' : w4.cell? ⟨w.heap.size, 8, none⟩ = some (.slice x.args.a 0 x.args.cap) := by rw [← hn0]; exact c7
          clear c7 hn0
          go_wp2_with (at_builtin; refine wpList_app0 _ rfl (.tmp 42) (.tmp 44) 22 3 rfl Tryd.underlying22 infoI w2.heap.size _ L.length (irow L) HO.out.o rfl x.args.a x.args.cap rfl ?_)
          go_wp2_with fail
          go_returns
          refine ⟨_, rfl, ?_⟩
          rw [HU.out, opt_t, List.eq_nil_of_length_eq_zero (HS.len.trans HN0.out), List.append_nil]
          exact HO.out.of HKW.out
        · obtain ⟨b5, o5, hca, hcc⟩ := HS.at_ (by omega)
          have c7' : w4.cell? ⟨w.heap.size, 8, none⟩ = some (.slice (some ⟨b5, o5, none⟩) x.args.n x.args.cap) := by rw [← hca]; exact c7
          clear c7
          have HCC := Lib.hid (fun (j : Nat) z hj => HO.out.k.cell0 (hcc j z hj))
          clear hcc hca
          go_wp2_with (at_builtin; refine wpList_appIs _ rfl (.tmp 42) (.tmp 44) 22 rfl Tryd.underlying22 w2.heap.size _ L.length L x.args.l b5 o5 x.args.n x.args.cap _ rfl rfl HO.out.o rfl HS.len (by omega) HCC.out (by omega) HO.out.k.size ?_)
          intro g6 cap6 w6 ho6 hg6
          have HO6 : Hid (Own w2 w6 (.slice (some ⟨g6, 0, none⟩) (L.length + x.args.n) cap6) (L ++ x.args.l)) := Lib.hid ⟨by rw [List.length_append, HS.len]; exact ho6, HO.out.k.grown hg6 (fun q e => .inr (HO.out.o.lt q e).1)⟩
          clear ho6 hg6
          go_wp2_with fail
          go_returns
          refine ⟨_, rfl, ?_⟩
          rw [HU.out, opt_t]
          exact HO6.out.of HKW.out
theorem Own.sl {w0 w : World} {v : Value} {l : List Int} (h : Own w0 w v l) (hl : l.length ≤ 1000000) (hb : ∀ z ∈ l, I64 z) : ∃ s : Sl, s.v = v ∧ s.l = l ∧ SlAt w s ∧ (∀ b off, s.a = some ⟨b, off, none⟩ → off = 0 ∧ w0.heap.size ≤ b) := by
  obtain ⟨aa, ca, rfl, hg⟩ := own_form h.o
  have ho := h.o
  refine ⟨⟨aa, l.length, ca, l⟩, rfl, rfl, ⟨rfl, ?_, hb, fun hn => ?_⟩, fun b off e => ?_⟩
  · rcases h.o.2 with ⟨e, h0⟩ | ⟨g, cap, cur, e, _, _, h1, h2, _⟩
    · injection e with _ _ e; subst e; exact ⟨by show l.length ≤ 0; omega, Nat.zero_le _⟩
    · injection e with _ _ e; subst e; exact ⟨h1, h2⟩
  · obtain ⟨g, rfl⟩ := hg hn
    refine ⟨g, 0, rfl, fun i z hz => ?_⟩
    have hi : i < l.length := (List.getElem?_eq_some_iff.1 hz).1
    rw [Nat.zero_add]
    exact (ho.cellAt i (by omega)).trans (irow_get hz)
  · rcases h.o.2 with ⟨e', h0⟩ | ⟨g, cap, cur, e', h1, _⟩
    · injection e' with e' _ _; subst e'; cases e
    · injection e' with e' _ _; subst e'; injection e with e; injection e with e1 e2 _; exact ⟨e2.symm, e1 ▸ h1⟩
end Go.Proofs.YtpjilcfmcbapcaaDoor
