/- walk.Uses, into a room of eight numbers; walk.Def. -/
import Derived.Test.YtpjilcfmcbapcaaDoorLvSets
import Derived.Test.YtpjilcfmcbapcaaDoorIrUses
import Derived.ArgAppend
namespace Go.Proofs.YtpjilcfmcbapcaaDoor
open Go.RowKit
set_option linter.unusedVariables false
set_option linter.unusedSimpArgs false

theorem setCells_row (q : Nat) (t : TypeId) : ∀ (vs : List Value) (o : Nat) (w : World) (cur : List Value), w.heap[q]? = some (.cells cur.toArray t (0, 0)) → o + vs.length ≤ cur.length →
    ∃ cur' : List Value, (w.setCells q o vs).heap[q]? = some (.cells cur'.toArray t (0, 0)) ∧ cur'.length = cur.length ∧ cur'.take (o + vs.length) = cur.take o ++ vs ∧ Keeps (fun k => k = q) w (w.setCells q o vs)
  | [], o, w, cur, h, _ => ⟨cur, h, rfl, by simp, Keeps.refl _ _⟩
  | v :: r, o, w, cur, h, hl => by
    rw [List.length_cons] at hl
    have h1 : (w.setCell ⟨q, o, none⟩ v).heap[q]? = some (.cells (cur.set o v).toArray t (0, 0)) := by rw [heap_setCell_same w q o _ _ _ h]; simp
    obtain ⟨cur', e1, e2, e3, e4⟩ := setCells_row q t r (o + 1) _ (cur.set o v) h1 (by rw [List.length_set]; omega)
    refine ⟨cur', e1, by rw [e2, List.length_set], ?_, ?_⟩
    · rw [List.length_cons, show o + (r.length + 1) = o + 1 + r.length by omega, e3, List.take_succ_eq_append_getElem (by rw [List.length_set]; omega), List.take_set_of_le (by omega)]
      simp
    · exact ((Keeps.refl (fun k => k = q) w).setCell (.inl rfl) _).trans e4 (fun _ _ e => e)
/-- Room for eight numbers, the first ones laid. -/
structure Room8 (w : World) (q : Nat) (l : List Int) : Prop where
  r : ∃ cur : List Value, w.heap[q]? = some (.cells cur.toArray 82 (0, 0)) ∧ cur.length = 8 ∧ cur.take l.length = irow l
theorem irow_len (l : List Int) : (irow l).length = l.length := by unfold irow; rw [List.length_map]
theorem Room8.cell {w : World} {q : Nat} {l : List Int} (h : Room8 w q l) (j : Nat) (z : Int) (hj : l[j]? = some z) : w.cell? ⟨q, 0 + j, none⟩ = some (.int .i64 z) := by
  obtain ⟨cur, hc, _, ht⟩ := h.r
  have hl : j < l.length := (List.getElem?_eq_some_iff.1 hj).1
  rw [Nat.zero_add, cell_of_row w q j _ _ _ hc, List.getElem?_toArray]
  have h2 := irow_get hj
  rw [← ht, List.getElem?_take, if_pos hl] at h2
  exact h2
theorem Room8.keep {w w' : World} {q : Nat} {l : List Int} (h : Room8 w q l) (hq : w'.heap[q]? = w.heap[q]?) : Room8 w' q l := by
  obtain ⟨cur, hc, h6, ht⟩ := h.r
  exact ⟨cur, hq.trans hc, h6, ht⟩
theorem Room8.lt {w : World} {q : Nat} {l : List Int} (h : Room8 w q l) : q < w.heap.size := by
  obtain ⟨cur, hc, _⟩ := h.r; exact (Array.getElem?_eq_some_iff.1 hc).1
theorem Room8.cut {w : World} {q : Nat} {l : List Int} (h : Room8 w q l) : Room8 w q [] := by
  obtain ⟨cur, hc, h6, ht⟩ := h.r
  exact ⟨cur, hc, h6, by simp [irow]⟩
theorem Room8.alloc {w : World} {q : Nat} {l : List Int} (h : Room8 w q l) (o : Obj) : Room8 (w.alloc o) q l := h.keep (Below.heap_alloc w o q h.lt)
theorem one_new (w : World) (z : Int) : ∀ (j : Nat) y, [z][j]? = some y → (w.alloc (.cells #[.int .i64 z] 3)).cell? ⟨w.heap.size, 0 + j, none⟩ = some (.int .i64 y) := fun j y hy => by
  cases j with
  | zero => obtain rfl : z = y := by simpa using hy
            unfold World.cell?; simp only; rw [heap_alloc_new]; rfl
  | succ j => cases hy
/-- Numbers are appended to it, within it or not, at the operation. -/
theorem wpList_app8 (w : World) {ops : Array Oper} {rest : List Oper} {o : Oper} {a : Act} {Q : Exit → Act → World → Prop} (hgd : o.guard = none) (s x : Operand) (t : TypeId)
    (ho : o.op = .call { callee := .builtin .append, args := #[s, x], argTypes := #[t, t] }) (ht : Tryd.prog.underlying t = some (.slice 3))
    (q i : Nat) (l l2 : List Int) (hr : Room8 w q l) (hi : l.length = i) (hi8 : i ≤ 8) (q2 o2 m c : Nat) (hm : l2.length = m) (hm1 : m ≤ 1000000) (hs : a.eval s = .slice (some ⟨q, 0, none⟩) i 8) (hx : a.eval x = .slice (some ⟨q2, o2, none⟩) m c) (hq2 : ∀ (j : Nat) z, l2[j]? = some z → w.cell? ⟨q2, o2 + j, none⟩ = some (.int .i64 z))
    (h : i + m ≤ 8 → ∀ w', Room8 w' q (l ++ l2) → Keeps (fun k => k = q) w w' → wpList Tryd.prog ops Q rest (a.put o.dst (.slice (some ⟨q, 0, none⟩) (i + m) 8)) w')
    (hg : 8 < i + m → ∀ v' w', w'.ownsRow w.heap.size 3 1 v' (i + m) (irow (l ++ l2)) → Keeps No w w' → wpList Tryd.prog ops Q rest (a.put o.dst v') w') : wpList Tryd.prog ops Q (o :: rest) a w := by
  obtain ⟨i0, hi0, hz0, hz1, hz2⟩ := info_parts infoI
  obtain ⟨cur, hc, h6, htk⟩ := hr.r
  have hnews : ∀ (j : Nat) u, (irow l2)[j]? = some u → w.cell? ((⟨q2, o2, none⟩ : Addr).add j) = some u := fun j u hu => by
    obtain ⟨z, hz, rfl⟩ := irow_of hu
    have e : (⟨q2, o2, none⟩ : Addr).add j = ⟨q2, o2 + j, none⟩ := by unfold Addr.add; split <;> simp_all
    rw [e]; exact hq2 j z hz
  refine wpList_append_arg w hgd s x t ho 3 i0 (.int .i64 0) 1 8 ht hi0 hz0 hz1 hz2 rfl (by decide) q 0 i 8 (irow l) hs (by rw [irow_len, hi, Nat.mul_one]) (fun j u hj => ?_) ⟨q2, o2, none⟩ m c (irow l2) hx (by rw [irow_len, hm, Nat.mul_one]) hnews (irow_one l2) (fun hle j hj => ?_) (by unfold maxLen; omega) (by omega) (fun hle => ?_) (fun hlt v' w' k1 k2 => ?_)
  · obtain ⟨y, hy, rfl⟩ := irow_of hj
    exact hr.cell j y hy
  · rw [irow_len] at hj
    refine ⟨?_, frozen_of_row w q _ _ _ hc⟩
    rw [cell_of_row w q _ _ _ _ hc, List.getElem?_toArray, List.getElem?_eq_getElem (by omega)]; rfl
  · obtain ⟨cur', e1, e2, e3, e4⟩ := setCells_row q _ (irow l2) (0 + i * 1) w cur hc (by rw [irow_len]; omega)
    refine h hle _ ⟨cur', e1, by rw [e2, h6], ?_⟩ e4
    rw [List.length_append, irow_app, ← htk, hi]
    rw [irow_len, show 0 + i * 1 = i by omega] at e3
    exact e3
  · rw [← irow_app] at k1
    exact hg hlt v' w' k1 ((Keeps.refl _ _).grown k2 (fun q e => by cases e))
/-- Nothing is appended to it. -/
theorem wpList_app8n (w : World) {ops : Array Oper} {rest : List Oper} {o : Oper} {a : Act} {Q : Exit → Act → World → Prop} (hgd : o.guard = none) (s x : Operand) (t : TypeId)
    (ho : o.op = .call { callee := .builtin .append, args := #[s, x], argTypes := #[t, t] }) (ht : Tryd.prog.underlying t = some (.slice 3))
    (q i : Nat) (hi : i ≤ 8) (hs : a.eval s = .slice (some ⟨q, 0, none⟩) i 8) (ca : Option Addr) (c : Nat) (hx : a.eval x = .slice ca 0 c) (h : wpList Tryd.prog ops Q rest (a.put o.dst (.slice (some ⟨q, 0, none⟩) i 8)) w) : wpList Tryd.prog ops Q (o :: rest) a w := by
  obtain ⟨i0, hi0, hz0, hz1, hz2⟩ := info_parts infoI
  have hrun : ∀ ty, (Builtin.append_ #[t, t] ty #[.slice (some ⟨q, 0, none⟩) i 8, .slice ca 0 c]).run Tryd.prog w = .ok (.slice (some ⟨q, 0, none⟩) i 8) w := fun ty => by
    cases ca <;> simp [Builtin.append_, run_underlying ht, sizeOf, typeInfo, hi0, Builtin.lenOf, Builtin.firstCells, storeCells, loadCells, loadCellsFrom, hi]
  refine wpList_plain hgd fun K hK' => ?_
  unfold Oper.wp
  simp [execOp, ho, resolve, invoke, builtin, hs, hx, hrun, Result.andThen]
  exact hK' _ _ h
/-- A row of numbers, in the room or anew. -/
def U8 (w0 w : World) (q : Nat) (v : Value) (l : List Int) : Prop :=
  (v = .slice (some ⟨q, 0, none⟩) l.length 8 ∧ l.length ≤ 8 ∧ Room8 w q l) ∨ (w.ownsRow w0.heap.size 3 1 v l.length (irow l))
set_option maxRecDepth 100000 in
set_option maxHeartbeats 3200000 in
theorem wuses8_any (x : Ix) (b off q : Nat) (w : World) (h : x.at_ w b off) (hx : IxOk w x) (hn : x.args.n ≤ 100000) (hq : Room8 w q []) (hb : b ≠ q) (hxa : 0 < x.args.n → ∀ p o, x.args.a = some ⟨p, o, none⟩ → p ≠ q) :
    Calls Tryd.prog 45 #[.pointer (some ⟨b, off, none⟩), .slice (some ⟨q, 0, none⟩) 0 8] w fun e w' => ∃ v, e = .returned v ∧ U8 w w' q v x.uses ∧ Room8 w' q [] ∧ Keeps (fun k => k = q) w w' := by
  have HAT := Lib.hid h
  have HOK := Lib.hid hx
  have HQ := Lib.hid hq
  obtain ⟨RA, hRA⟩ : ∃ R, readsAI x.op x.a = R := ⟨_, rfl⟩
  obtain ⟨RB, hRB⟩ : ∃ R, readsBI x.op = R := ⟨_, rfl⟩
  obtain ⟨CC, hCC⟩ : ∃ R, callsI x.op = R := ⟨_, rfl⟩
  have HU : Hid (x.uses = opt RA [x.a] ++ opt RB [x.b] ++ opt CC x.args.l) := Lib.hid (by unfold Ix.uses; rw [hRA, hRB, hCC]; rfl)
  have HAK : Hid (∀ W, Keeps (fun k => k = q) w W → x.at_ W b off) := Lib.hid (fun W hk j v hj => hk.cell (HAT.out j v hj) hb)
  have HA := Lib.hid (fun (W : World) (hk : Keeps (fun k => k = q) w W) => readsA_any x b off W (HAK.out W hk))
  have HB := Lib.hid (fun (W : World) (hk : Keeps (fun k => k = q) w W) => readsB_any x b off W (HAK.out W hk))
  rw [hRA] at HA
  rw [hRB] at HB
  have HC := Lib.hid (fun (W : World) => calls_any x.op W)
  rw [hCC] at HC
  have HF := Lib.hid (fun (W : World) (hk : Keeps (fun k => k = q) w W) (j : Nat) (v : Value) (hj : x.cells[j]? = some v) => HAK.out W hk j v hj)
  clear h hx hRA hRB hCC hq
  have c3 := HF.out w (Keeps.refl _ _) 3 _ rfl
  go_enter Tryd.func45, Tryd.ntmps45
  go_wp2_with fail
  refine (HA.out _ (Keeps.refl _ _)).mono ?_
  rintro e w1 ⟨rfl, rfl⟩
  go_upto_if 6 with fail
  go_cut [1] (fun v wx => v = .slice (some ⟨q, 0, none⟩) (opt RA [x.a]).length 8 ∧ Hid (Room8 wx q (opt RA [x.a]) ∧ Keeps (fun k => k = q) w1 wx))
  case first =>
    cases RA with
    | true =>
      go_wp2_with (at_builtin; refine wpList_app8 _ rfl (.tmp 7) (.tmp 12) 22 rfl Tryd.underlying22 q 0 [] [x.a] (HQ.out.alloc _) rfl (by omega) w1.heap.size 0 1 1 rfl (by omega) rfl rfl (one_new _ _) (fun _ => ?_) (fun hlt => absurd hlt (by omega)))
      intro w2 hr2 hk2
      have HR : Hid (Room8 w2 q [x.a] ∧ Keeps (fun k => k = q) w1 w2) := Lib.hid ⟨hr2, ((Keeps.refl _ _).alloc _).trans hk2 (fun _ _ e => e)⟩
      clear hr2 hk2
      go_wp2_with fail
      go_meet
      exact ⟨rfl, HR⟩
    | false =>
      go_wp2_with fail
      go_meet
      exact ⟨rfl, Lib.hid ⟨HQ.out, Keeps.refl _ _⟩⟩
  case rest =>
    obtain ⟨rfl, HR⟩ := hcut
    go_wp2_with fail
    refine (HB.out _ HR.out.2).mono ?_
    rintro e w2 ⟨rfl, rfl⟩
    have hl1 := opt_len RA x.a
    obtain ⟨L1, hL1⟩ : ∃ L, opt RA [x.a] = L := ⟨_, rfl⟩
    rw [hL1] at HR hl1 HU
    rw [hL1]
    clear hL1
    obtain ⟨n1, hn1⟩ : ∃ n, L1.length = n := ⟨_, rfl⟩
    rw [hn1] at hl1
    rw [hn1]
    have HN1 := Lib.hid hn1
    clear hn1
    go_upto_if 15 with fail
    go_cut [1] (fun v wx => ∃ n2 : Nat, v = .slice (some ⟨q, 0, none⟩) n2 8 ∧ n2 ≤ 2 ∧ Hid ((L1 ++ opt RB [x.b]).length = n2) ∧ Hid (Room8 wx q (L1 ++ opt RB [x.b]) ∧ Keeps (fun k => k = q) w1 wx))
    case first =>
      have c4 := HF.out w2 HR.out.2 4 _ rfl
      cases RB with
      | true =>
        go_wp2_with (at_builtin; refine wpList_app8 _ rfl (.tmp 16) (.tmp 21) 22 rfl Tryd.underlying22 q n1 L1 [x.b] (HR.out.1.alloc _) HN1.out (by omega) w2.heap.size 0 1 1 rfl (by omega) rfl rfl (one_new _ _) (fun _ => ?_) (fun hlt => absurd hlt (by omega)))
        intro w3 hr3 hk3
        have HR3 : Hid (Room8 w3 q (L1 ++ [x.b]) ∧ Keeps (fun k => k = q) w1 w3) := Lib.hid ⟨hr3, (HR.out.2.alloc _).trans hk3 (fun _ _ e => e)⟩
        clear hr3 hk3
        go_wp2_with fail
        go_meet
        exact ⟨n1 + 1, rfl, by omega, Lib.hid (by rw [opt_t, List.length_append, HN1.out]; rfl), HR3⟩
      | false =>
        go_wp2_with fail
        go_meet
        exact ⟨n1, rfl, by omega, Lib.hid (by rw [opt_f, List.append_nil]; exact HN1.out), by rw [opt_f, List.append_nil]; exact HR⟩
    case rest =>
      obtain ⟨n2, rfl, hl2, HN2, HR2⟩ := hcut
      have c0 := HF.out _ HR2.out.2 0 _ rfl
      have c7 := HF.out _ HR2.out.2 8 _ rfl
      rw [Nat.add_zero] at c0
      obtain ⟨L, hL⟩ : ∃ L, L1 ++ opt RB [x.b] = L := ⟨_, rfl⟩
      rw [hL] at HN2 HR2 HU
      clear hL
      cases CC with
      | false =>
        go_wp2_with fail
        refine (HC.out _).mono ?_
        rintro e w4 ⟨rfl, rfl⟩
        go_wp2_with fail
        go_returns
        refine ⟨_, rfl, .inl ?_, HR2.out.1.cut, HR2.out.2⟩
        rw [HU.out, opt_f, List.append_nil, HN2.out]
        exact ⟨rfl, by omega, HR2.out.1⟩
      | true =>
        go_wp2_with fail
        refine (HC.out _).mono ?_
        rintro e w4 ⟨rfl, rfl⟩
        have HS := HOK.out.args
        by_cases hn0 : x.args.n = 0
        · have HN0 := Lib.hid hn0
          have c7' : w4.cell? ⟨b, off + 8, none⟩ = some (.slice x.args.a 0 x.args.cap) := by rw [← hn0]; exact c7
          clear c7 hn0
          go_wp2_with (at_builtin; refine wpList_app8n _ rfl (.tmp 28) (.tmp 32) 22 rfl Tryd.underlying22 q n2 (by omega) rfl x.args.a x.args.cap rfl ?_)
          go_wp2_with fail
          go_returns
          refine ⟨_, rfl, .inl ?_, HR2.out.1.cut, HR2.out.2⟩
          rw [HU.out, opt_t, List.eq_nil_of_length_eq_zero (HS.len.trans HN0.out), List.append_nil, HN2.out]
          exact ⟨rfl, by omega, HR2.out.1⟩
        · obtain ⟨b5, o5, hca, hcc⟩ := HS.at_ (by omega)
          have hb5 := hxa (by omega) b5 o5 hca
          have c7' : w4.cell? ⟨b, off + 8, none⟩ = some (.slice (some ⟨b5, o5, none⟩) x.args.n x.args.cap) := by rw [← hca]; exact c7
          clear c7
          have HCC := Lib.hid (fun (j : Nat) z hj => HR2.out.2.cell (hcc j z hj) hb5)
          clear hcc hca
          go_wp2_with (at_builtin; refine wpList_app8 _ rfl (.tmp 28) (.tmp 32) 22 rfl Tryd.underlying22 q n2 L x.args.l HR2.out.1 HN2.out (by omega) b5 o5 x.args.n x.args.cap HS.len (by omega) rfl rfl HCC.out (fun hle => ?_) (fun hlt => ?_))
          · intro w6 hr6 hk6
            have HK6 : Hid (Keeps (fun k => k = q) w1 w6) := Lib.hid (HR2.out.2.trans hk6 (fun _ _ e => e))
            have HR6 := Lib.hid hr6
            clear hr6 hk6
            go_wp2_with fail
            go_returns
            refine ⟨_, rfl, .inl ?_, HR6.out.cut, HK6.out⟩
            rw [HU.out, opt_t, List.length_append, HN2.out, HS.len]
            exact ⟨rfl, hle, HR6.out⟩
          · intro v6 w6 ho6 hk6
            have HK6 : Hid (Keeps (fun k => k = q) w1 w6) := Lib.hid (HR2.out.2.trans hk6 (fun _ _ e => e.elim))
            have HR6 : Hid (Room8 w6 q []) := Lib.hid (HR2.out.1.cut.keep (hk6.block q HR2.out.1.lt (fun e => e)))
            have HO6 := Lib.hid ho6
            clear ho6 hk6
            go_wp2_with fail
            go_returns
            refine ⟨_, rfl, .inr ?_, HR6.out, HK6.out⟩
            rw [HU.out, opt_t, List.length_append, HN2.out, HS.len]
            exact own_mono HO6.out HR2.out.2.size
end Go.Proofs.YtpjilcfmcbapcaaDoor
