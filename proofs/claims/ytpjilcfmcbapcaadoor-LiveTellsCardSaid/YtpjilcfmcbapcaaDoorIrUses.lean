/- walk.Uses, ir.Uses. -/
import Derived.Test.YtpjilcfmcbapcaaDoorIrRow
namespace Go.Proofs.YtpjilcfmcbapcaaDoor
open Go.RowKit
set_option linter.unusedVariables false
set_option linter.unusedSimpArgs false

def opt (b : Bool) (l : List Int) : List Int := if b then l else []
theorem opt_t (l : List Int) : opt true l = l := rfl
theorem opt_f (l : List Int) : opt false l = [] := rfl
theorem opt_len (b : Bool) (z : Int) : (opt b [z]).length ≤ 1 := by cases b <;> simp [opt]
set_option maxRecDepth 100000 in
set_option maxHeartbeats 3200000 in
theorem wuses_any (x : Ix) (b off : Nat) (w : World) (h : x.at_ w b off) (hx : IxOk w x) (hn : x.args.n ≤ 100000) :
    Calls Tryd.prog 45 #[.pointer (some ⟨b, off, none⟩), .slice none 0 0] w fun e w' => ∃ v, e = .returned v ∧ Own w w' v x.uses := by
  have HAT := Lib.hid h
  have HOK := Lib.hid hx
  obtain ⟨RA, hRA⟩ : ∃ R, readsAI x.op x.a = R := ⟨_, rfl⟩
  obtain ⟨RB, hRB⟩ : ∃ R, readsBI x.op = R := ⟨_, rfl⟩
  obtain ⟨CC, hCC⟩ : ∃ R, callsI x.op = R := ⟨_, rfl⟩
  have HU : Hid (x.uses = opt RA [x.a] ++ opt RB [x.b] ++ opt CC x.args.l) := Lib.hid (by unfold Ix.uses; rw [hRA, hRB, hCC]; rfl)
  have HA := Lib.hid (fun (W : World) (hk : Keeps No w W) => readsA_any x b off W (HAT.out.no hk))
  have HB := Lib.hid (fun (W : World) (hk : Keeps No w W) => readsB_any x b off W (HAT.out.no hk))
  rw [hRA] at HA
  rw [hRB] at HB
  have HC := Lib.hid (fun (W : World) => calls_any x.op W)
  rw [hCC] at HC
  have HF := Lib.hid (fun (W : World) (hk : Keeps No w W) (j : Nat) (v : Value) (hj : x.cells[j]? = some v) => hk.cell0 (HAT.out j v hj))
  clear h hx hRA hRB hCC
  have c3 := HF.out w (Keeps.refl _ _) 3 _ rfl
  go_enter Tryd.func45, Tryd.ntmps45
  go_wp2_with fail
  refine (HA.out _ (Keeps.refl _ _)).mono ?_
  rintro e w1 ⟨rfl, rfl⟩
  go_upto_if 6 with fail
  go_cut [1] (fun v wx => Hid (Own w1 wx v (opt RA [x.a])))
  case first =>
    cases RA with
    | true =>
      go_wp2_with (at_builtin; refine wpList_appI _ rfl (.tmp 7) (.tmp 12) 22 rfl Tryd.underlying22 w1.heap.size (.slice none 0 0) 0 [] x.a w1.heap.size rfl (World.ownsRow_nil _ _ _ _) rfl (heap_alloc_new _ _) (by omega) (by simp) ?_)
      intro g2 cap2 w2 ho2 hg2
      have HO2 : Hid (Own w1 w2 (.slice (some ⟨g2, 0, none⟩) (0 + 1) cap2) [x.a]) := Lib.hid ⟨ho2, ((Keeps.refl _ _).alloc _).grown hg2 (fun q e => by cases e)⟩
      clear ho2 hg2
      go_wp2_with fail
      go_meet
      exact HO2
    | false =>
      go_wp2_with fail
      go_meet
      exact Lib.hid (Own.nil _)
  case rest =>
    have HO := hcut
    clear hcut
    go_wp2_with fail
    refine (HB.out _ HO.out.k).mono ?_
    rintro e w2 ⟨rfl, rfl⟩
    go_upto_if 15 with fail
    go_cut [1] (fun v wx => Hid (Own w1 wx v (opt RA [x.a] ++ opt RB [x.b])))
    case first =>
      have c4 := HF.out w2 HO.out.k 4 _ rfl
      cases RB with
      | true =>
        obtain ⟨L, hL⟩ : ∃ L, opt RA [x.a] = L := ⟨_, rfl⟩
        have hl : L.length ≤ 1 := by rw [← hL]; exact opt_len _ _
        rw [hL] at HO
        have HLL := Lib.hid hL
        clear hL
        go_wp2_with (at_builtin; refine wpList_appI _ rfl (.tmp 16) (.tmp 21) 22 rfl Tryd.underlying22 w1.heap.size _ L.length L x.b w2.heap.size rfl (HO.out.o.alloc _) rfl (heap_alloc_new _ _) (by omega) (by have := HO.out.k.size; simp; omega) ?_)
        intro g3 cap3 w3 ho3 hg3
        have HO3 : Hid (Own w1 w3 (.slice (some ⟨g3, 0, none⟩) (L.length + 1) cap3) (L ++ [x.b])) := Lib.hid ⟨by rw [List.length_append]; exact ho3, (HO.out.k.alloc _).grown hg3 (fun q e => .inr (HO.out.o.lt q e).1)⟩
        clear ho3 hg3
        go_wp2_with fail
        go_meet
        rw [HLL.out, opt_t]
        exact HO3
      | false =>
        go_wp2_with fail
        go_meet
        rw [opt_f, List.append_nil]
        exact HO
    case rest =>
      have HO := hcut
      clear hcut
      have c0 := HF.out _ HO.out.k 0 _ rfl
      have c7 := HF.out _ HO.out.k 8 _ rfl
      rw [Nat.add_zero] at c0
      obtain ⟨L, hL⟩ : ∃ L, opt RA [x.a] ++ opt RB [x.b] = L := ⟨_, rfl⟩
      have hl : L.length ≤ 2 := by rw [← hL, List.length_append]; have := opt_len RA x.a; have := opt_len RB x.b; omega
      rw [hL] at HO HU
      clear hL
      cases CC with
      | false =>
        go_wp2_with fail
        refine (HC.out _).mono ?_
        rintro e w4 ⟨rfl, rfl⟩
        go_wp2_with fail
        go_returns
        refine ⟨_, rfl, ?_⟩
        rw [HU.out, opt_f, List.append_nil]
        exact HO.out
      | true =>
        go_wp2_with fail
        refine (HC.out _).mono ?_
        rintro e w4 ⟨rfl, rfl⟩
        have HS := HOK.out.args
        by_cases hn0 : x.args.n = 0
        · have HN0 := Lib.hid hn0
          have c7' : w4.cell? ⟨b, off + 8, none⟩ = some (.slice x.args.a 0 x.args.cap) := by rw [← hn0]; exact c7
          clear c7 hn0
          go_wp2_with (at_builtin; refine wpList_app0 _ rfl (.tmp 28) (.tmp 32) 22 3 rfl Tryd.underlying22 infoI w1.heap.size _ L.length (irow L) HO.out.o rfl x.args.a x.args.cap rfl ?_)
          go_wp2_with fail
          go_returns
          refine ⟨_, rfl, ?_⟩
          rw [HU.out, opt_t, List.eq_nil_of_length_eq_zero (HS.len.trans HN0.out), List.append_nil]
          exact HO.out
        · obtain ⟨b5, o5, hca, hcc⟩ := HS.at_ (by omega)
          have c7' : w4.cell? ⟨b, off + 8, none⟩ = some (.slice (some ⟨b5, o5, none⟩) x.args.n x.args.cap) := by rw [← hca]; exact c7
          clear c7
          have HCC := Lib.hid (fun (j : Nat) z hj => HO.out.k.cell0 (hcc j z hj))
          clear hcc hca
          go_wp2_with (at_builtin; refine wpList_appIs _ rfl (.tmp 28) (.tmp 32) 22 rfl Tryd.underlying22 w1.heap.size _ L.length L x.args.l b5 o5 x.args.n x.args.cap _ rfl rfl HO.out.o rfl HS.len (by omega) HCC.out (by omega) HO.out.k.size ?_)
          intro g6 cap6 w6 ho6 hg6
          have HO6 : Hid (Own w1 w6 (.slice (some ⟨g6, 0, none⟩) (L.length + x.args.n) cap6) (L ++ x.args.l)) := Lib.hid ⟨by rw [List.length_append, HS.len]; exact ho6, HO.out.k.grown hg6 (fun q e => .inr (HO.out.o.lt q e).1)⟩
          clear ho6 hg6
          go_wp2_with fail
          go_returns
          refine ⟨_, rfl, ?_⟩
          rw [HU.out, opt_t]
          exact HO6.out
/-- The document's and the program's rows of what an instruction reads. -/
theorem ix_boxed (x : Ix) (w : World) (t : TypeId) : x.at_ (w.alloc (.cells #[.int .i64 x.op, .int .i64 x.sub, .int .i64 x.d, .int .i64 x.a, .int .i64 x.b, .int .i64 x.n, .int .i64 x.wb, .bool x.ws, x.args.v, x.to.v, x.cases_.v] t)) w.heap.size 0 := fun j v hj => by
  rw [World.cell?_alloc_at _ _ _ _ rfl, Nat.zero_add]
  rw [List.getElem?_toArray]; exact hj
theorem Own.of {w0 w w' : World} {v : Value} {l : List Int} (h : Own w w' v l) (hk : Keeps No w0 w) : Own w0 w' v l := ⟨own_mono h.o hk.size, hk.trans h.k (fun _ _ e => e)⟩
end Go.Proofs.YtpjilcfmcbapcaaDoor
