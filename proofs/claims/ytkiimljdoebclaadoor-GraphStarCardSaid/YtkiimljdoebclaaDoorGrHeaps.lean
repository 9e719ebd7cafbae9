/- The heap's methods. -/
import Derived.Test.YtkiimljdoebclaaDoorGrFind
namespace Go.Proofs.YtkiimljdoebclaaDoor
open Go.RowKit Gm
theorem wrapnil (t : TypeId) (a : Addr) (s m : ByteArray) (P : Program) (w : World) : (Builtin.ssaWrapNilChk_ #[t] t #[.pointer (some a), .string s, .string m]).run P w = .ok (.pointer (some a)) w := rfl
set_option maxRecDepth 100000 in
theorem meth_any (f : FuncId) (nm : String) (hf : (Tryd.prog.info? 58).map (fun i => (i.methods.find? (·.name == nm)).map (fun m => (m.path.isEmpty, m.func))) = some (some (true, some (f, false)))) (fuel : Nat) {w : World} {NB k qc : Nat} {qa : Option Addr} (h : w.cell? ⟨NB, 0, none⟩ = some (.slice qa k qc)) : (Go.method (fuel + 1) 58 (.pointer (some ⟨NB, 0, none⟩)) nm).run Tryd.prog w = .ok (f, .slice qa k qc) w := by
  obtain ⟨i, hi, h1⟩ := Option.map_eq_some_iff.1 hf
  obtain ⟨m, hm, h2⟩ := Option.map_eq_some_iff.1 h1
  obtain ⟨h3, h4⟩ := Prod.mk.inj h2
  have h5 : m.path = #[] := by simpa using h3
  simp [Go.method, typeInfo, hi, hm, h4, h5, Go.follow, Go.receiverAt, Go.Place.get, run_underlying Tryd.underlying58, wrapnil, strVal, asAddr, loadVar, isAgg, run_underlying Tryd.underlying59, h]
theorem fact_len : (Tryd.prog.info? 58).map (fun i => (i.methods.find? (·.name == "Len")).map (fun m => (m.path.isEmpty, m.func))) = some (some (true, some (20, false))) := by kernel_rfl
theorem fact_less : (Tryd.prog.info? 58).map (fun i => (i.methods.find? (·.name == "Less")).map (fun m => (m.path.isEmpty, m.func))) = some (some (true, some (91, false))) := by kernel_rfl
theorem fact_swap : (Tryd.prog.info? 58).map (fun i => (i.methods.find? (·.name == "Swap")).map (fun m => (m.path.isEmpty, m.func))) = some (some (true, some (94, false))) := by kernel_rfl
theorem fact_pop : (Tryd.prog.info? 58).map (fun i => (i.methods.find? (·.name == "Pop")).map (fun m => (m.path.isEmpty, m.func))) = some (some (true, some (92, true))) := by kernel_rfl
end Go.Proofs.YtkiimljdoebclaaDoor
/- The heap of functions that are ready. -/
namespace Go.Proofs.YtkiimljdoebclaaDoor
open Go.RowKit Gm
set_option linter.unusedVariables false
set_option linter.unusedSimpArgs false

/-- The heap at NB. -/
structure HQ (w : World) (B NB : Nat) (q : List Int) (qa : Option Addr) (qc : Nat) : Prop where
  row : w.heap[NB]? = some (.cells #[.slice qa q.length qc] 59 (0, 0))
  own : w.ownsRow B 3 1 (.slice qa q.length qc) q.length (irow q)
theorem HQ.keep {w w' : World} {B NB : Nat} {q : List Int} {qa : Option Addr} {qc : Nat} {S : Nat → Prop} (h : HQ w B NB q qa qc) (hk : Keeps S w w') (h1 : ¬ S NB) (h2 : ∀ x, (Value.slice qa q.length qc).ownBlock = some x → ¬ S x) : HQ w' B NB q qa qc :=
  ⟨(hk.block _ (Array.getElem?_eq_some_iff.1 h.row).1 h1).trans h.row, own_kept h.own (fun x hx => hk.block x (ownG_lt h.own x hx) (h2 x hx))⟩
set_option maxRecDepth 100000 in
set_option maxHeartbeats 3200000 in
theorem len_ready (qa : Option Addr) (k qc : Nat) (w : World) : Calls Tryd.prog 20 #[.slice qa k qc] w fun e w' => e = .returned (.int .i64 (k : Int)) ∧ w' = w := by
  go_enter Tryd.func20, Tryd.ntmps20
  go_wp2_with fail
  go_returns
  exact ⟨rfl, rfl⟩
theorem assertI (z : Int) (w : World) : (Instr.typeAssert (.iface 3 (.int .i64 z)) 20 3 true).run Tryd.prog w = .ok (.tuple #[.int .i64 z, .bool true]) w := by
  simp [Instr.typeAssert, run_underlying Tryd.underlying3]
/-- A row of numbers in a block of one's own, whole. -/
structure RQ (w : World) (B g k qc : Nat) (q : List Int) : Prop where
  own : w.ownsRow B 3 1 (.slice (some ⟨g, 0, none⟩) k qc) k (irow q)
  small : k ≤ 1000000
theorem RQ.len {w : World} {B g k qc : Nat} {q : List Int} (h : RQ w B g k qc q) : q.length = k := by have := h.own.1; unfold irow at this; rw [List.length_map] at this; omega
theorem RQ.cap {w : World} {B g k qc : Nat} {q : List Int} (h : RQ w B g k qc q) : k ≤ qc ∧ qc ≤ 9223372036854775807 := by
  rcases h.own.2 with ⟨h1, _⟩ | ⟨g1, cap, cur, h1, _, _, h4, h5, _⟩
  · cases h1
  · injection h1 with _ _ e; subst e; exact ⟨h4, h5⟩
theorem RQ.lt {w : World} {B g k qc : Nat} {q : List Int} {x : Int} {j : Nat} (h : RQ w B g k qc q) (hx : q[j]? = some x) : j < k := by rw [← h.len]; exact (List.getElem?_eq_some_iff.1 hx).1
theorem RQ.cell {w : World} {B g k qc : Nat} {q : List Int} {x : Int} {j : Nat} (h : RQ w B g k qc q) (hx : q[j]? = some x) : w.cell? ⟨g, j, none⟩ = some (.int .i64 x) := by
  rw [World.ownsRow.cellAt h.own j (by have := h.lt hx; omega)]; exact irow_get hx
theorem irow_set (q : List Int) (i : Nat) (y : Int) : (irow q).set i (.int .i64 y) = irow (q.set i y) := by unfold irow; rw [List.map_set]
theorem RQ.swap {w : World} {B g k qc : Nat} {q : List Int} (h : RQ w B g k qc q) (i j : Nat) (x y : Int) : RQ ((w.setCell ⟨g, i, none⟩ (.int .i64 y)).setCell ⟨g, j, none⟩ (.int .i64 x)) B g k qc ((q.set i y).set j x) := by
  refine ⟨?_, h.small⟩
  rw [← irow_set, ← irow_set]
  exact (World.ownsRow.stored (World.ownsRow.stored h.own i (.int .i64 y)).1 j (.int .i64 x)).1
set_option maxRecDepth 100000 in
set_option maxHeartbeats 6400000 in
theorem less_rdy (w : World) (B g k qc : Nat) (q : List Int) (i j : Nat) (x y : Int) (h : RQ w B g k qc q) (hi : q[i]? = some x) (hj : q[j]? = some y) :
    Calls Tryd.prog 91 #[.slice (some ⟨g, 0, none⟩) k qc, .int .i64 (i : Int), .int .i64 (j : Int)] w fun e w' => e = .returned (.bool (decide (x < y))) ∧ Keeps No w w' := by
  have ci := h.cell hi
  have cj := h.cell hj
  have hik := h.lt hi
  have hjk := h.lt hj
  have hcap := h.cap
  have hsm := h.small
  clear h hi hj
  go_enter Tryd.func91, Tryd.ntmps91
  go_wp2_with fail
  go_region
  go_wp2_with fail
  go_returns
  exact ⟨rfl, (Keeps.refl No w).drew⟩
set_option maxRecDepth 100000 in
set_option maxHeartbeats 6400000 in
theorem swap_rdy (w : World) (B g k qc : Nat) (q : List Int) (i j : Nat) (x y : Int) (h : RQ w B g k qc q) (hi : q[i]? = some x) (hj : q[j]? = some y) :
    Calls Tryd.prog 94 #[.slice (some ⟨g, 0, none⟩) k qc, .int .i64 (i : Int), .int .i64 (j : Int)] w fun e w' => e = .returned (.tuple #[]) ∧ RQ w' B g k qc ((q.set i y).set j x) ∧ Keeps (fun x => x = g) w w' := by
  have ci := h.cell hi
  have cj := h.cell hj
  have fi := World.ownsRow.frozenAt h.own i
  have fj := World.ownsRow.frozenAt h.own j
  have hik := h.lt hi
  have hjk := h.lt hj
  have hcap := h.cap
  have hsm := h.small
  have H := Lib.hid h
  obtain ⟨z, cz⟩ : ∃ z, (w.setCell ⟨g, i, none⟩ (.int .i64 y)).cell? ⟨g, j, none⟩ = some z := by
    have e := (World.ownsRow.stored h.own i (.int .i64 y)).1
    rw [World.ownsRow.cellAt e j (by omega)]
    exact ⟨_, List.getElem?_eq_getElem (by have := h.len; unfold irow; simp; omega)⟩
  clear h hi hj
  go_enter Tryd.func94, Tryd.ntmps94
  go_region
  go_wp2_with fail
  go_returns
  have e1 := H.out.swap i j x y
  exact ⟨rfl, ⟨e1.own, e1.small⟩, ((((Keeps.refl (fun x => x = g) w).setCell (.inl rfl) _).setCell (.inl rfl) _)).drew⟩
/-- The heap at NB, its row in block g. -/
structure HR (w : World) (B NB g k qc : Nat) (q : List Int) : Prop where
  row : w.heap[NB]? = some (.cells #[.slice (some ⟨g, 0, none⟩) k qc] 59 (0, 0))
  rq : RQ w B g k qc q
  ne : NB ≠ g
theorem HR.cell {w : World} {B NB g k qc : Nat} {q : List Int} (h : HR w B NB g k qc q) : w.cell? ⟨NB, 0, none⟩ = some (.slice (some ⟨g, 0, none⟩) k qc) := by rw [cell_of_row w NB 0 _ _ _ h.row]; rfl
theorem RQ.no {w w' : World} {B g k qc : Nat} {q : List Int} (h : RQ w B g k qc q) (hk : Keeps No w w') : RQ w' B g k qc q := ⟨own_kept h.own (fun x hx => hk.block x (ownG_lt h.own x hx) (fun e => e)), h.small⟩
theorem HR.no {w w' : World} {B NB g k qc : Nat} {q : List Int} (h : HR w B NB g k qc q) (hk : Keeps No w w') : HR w' B NB g k qc q :=
  ⟨(hk.block _ (Array.getElem?_eq_some_iff.1 h.row).1 (fun e => e)).trans h.row, h.rq.no hk, h.ne⟩
theorem HR.to {w w' : World} {B NB g k qc : Nat} {q q' : List Int} (h : HR w B NB g k qc q) (hk : Keeps (fun x => x = g) w w') (hq : RQ w' B g k qc q') : HR w' B NB g k qc q' :=
  ⟨(hk.block _ (Array.getElem?_eq_some_iff.1 h.row).1 h.ne).trans h.row, hq, h.ne⟩
set_option maxRecDepth 100000 in
set_option maxHeartbeats 6400000 in
theorem up_rdy (fuel : Nat) (w : World) (B NB g k qc : Nat) (q q' : List Int) (j : Nat) (h : HR w B NB g k qc q) (hj : j ≤ 1000000) (hm : upM fuel q j = some q') :
    Calls Tryd.prog 32 #[.iface 58 (.pointer (some ⟨NB, 0, none⟩)), .int .i64 (j : Int)] w fun e w' => e = .returned (.tuple #[]) ∧ HR w' B NB g k qc q' ∧ Keeps (fun x => x = g) w w' := by
  have HH := Lib.hid h
  have HM := Lib.hid hm
  clear h hm
  go_enter Tryd.func32, Tryd.ntmps32
  go_wp2_with fail
  go_loopg [1] fuel (fun f v wr => ∃ j : Nat, ∃ q1, v = .int .i64 (j : Int) ∧ j ≤ 1000000 ∧ Hid (HR wr B NB g k qc q1) ∧ Hid (upM f q1 j = some q') ∧ Hid (Keeps (fun x => x = g) w wr))
  case atStart => exact ⟨j, q, rfl, hj, HH, HM, Lib.hid (Keeps.refl _ _)⟩
  case round =>
    obtain ⟨j, q1, rfl, hj, H1, M1, K1⟩ := hrel
    cases gk with
    | zero => have := M1.out; simp [upM] at this
    | succ f =>
      have hml := fun fuel => meth_any _ "Less" fact_less fuel H1.out.cell
      have hms := fun fuel => meth_any _ "Swap" fact_swap fuel H1.out.cell
      by_cases hz : j = 0
      · subst hz
        have e := M1.out
        simp [upM] at e
        subst e
        rw [show ((0 : Nat) : Int) = 0 from rfl]
        go_wp2_with fail
        go_returns
        exact ⟨rfl, H1.out, K1.out⟩
      · obtain ⟨i, hi⟩ : ∃ i, (j - 1) / 2 = i := ⟨_, rfl⟩
        have hij : i ≠ j := by omega
        have hil : i ≤ 1000000 := by omega
        have e := M1.out
        unfold upM at e
        rw [hi, if_neg hij] at e
        obtain ⟨x, hx, e⟩ := Option.bind_eq_some_iff.1 e
        obtain ⟨y, hy, e⟩ := Option.bind_eq_some_iff.1 e
        have e1 : IntKind.i64.wrap ((j : Int) - 1) = ((j - 1 : Nat) : Int) := by rw [IntKind.wrap_i64]; omega
        have e2 : ((j - 1 : Nat) : Int).tdiv 2 = (i : Int) := by rw [Int.tdiv_eq_ediv_of_nonneg (by omega)]; omega
        have e3 : IntKind.i64.wrap (i : Int) = (i : Int) := by rw [IntKind.wrap_i64]; omega
        have hij' : ¬ (i : Int) = (j : Int) := by omega
        have HLE := Lib.hid (less_rdy wr B g k qc q1 j i x y H1.out.rq hx hy)
        go_wp2_with fail
        refine HLE.out.mono ?_
        rintro e w1 ⟨rfl, hk1⟩
        have H2 := Lib.hid (H1.out.no hk1)
        have K2 := Lib.hid (K1.out.trans hk1 (fun _ _ e => e.elim))
        have HSW := Lib.hid (swap_rdy w1 B g k qc q1 i j y x H2.out.rq hy hx)
        have hms := fun fuel => meth_any _ "Swap" fact_swap fuel H2.out.cell
        clear hk1 HLE hml H1 K1 M1
        by_cases hxy : x < y
        · rw [if_pos hxy] at e
          have E := Lib.hid e
          clear e
          have hd : decide (x < y) = true := decide_eq_true hxy
          rw [hd]
          go_wp2_with fail
          refine HSW.out.mono ?_
          rintro e w2 ⟨rfl, hq2, hk2⟩
          have H3 := Lib.hid (H2.out.to hk2 hq2)
          have K3 := Lib.hid (K2.out.trans hk2 (fun _ _ e => e))
          clear hq2 hk2 HSW hms H2 K2
          go_wp2_with fail
          go_roundg f
          case rel => exact ⟨i, _, rfl, hil, H3, E, K3⟩
          case measure => omega
        · rw [if_neg hxy] at e
          obtain rfl := Option.some.inj e
          clear e
          have hd : decide (x < y) = false := decide_eq_false hxy
          rw [hd]
          go_wp2_with fail
          go_returns
          exact ⟨rfl, H2.out, K2.out⟩
set_option maxRecDepth 100000 in
set_option maxHeartbeats 12800000 in
theorem down_rdy (fuel : Nat) (w : World) (B NB g k qc : Nat) (q q' : List Int) (n i : Nat) (h : HR w B NB g k qc q) (hn : n ≤ 1000000) (hi : i ≤ 1000000) (hm : downM fuel q n i = some q') :
    Calls Tryd.prog 44 #[.iface 58 (.pointer (some ⟨NB, 0, none⟩)), .int .i64 (i : Int), .int .i64 (n : Int)] w fun e w' => (∃ b, e = .returned (.bool b)) ∧ HR w' B NB g k qc q' ∧ Keeps (fun x => x = g) w w' := by
  have HH := Lib.hid h
  have HM := Lib.hid hm
  obtain ⟨i0, hi0⟩ : ∃ i0, i0 = i := ⟨_, rfl⟩
  rw [← hi0] at HM hi ⊢
  clear h hm hi0
  go_enter Tryd.func44, Tryd.ntmps44
  go_wp2_with fail
  go_loopg [7] fuel (fun f v wr => ∃ i : Nat, ∃ q1, v = .int .i64 (i : Int) ∧ i ≤ 1000000 ∧ Hid (HR wr B NB g k qc q1) ∧ Hid (downM f q1 n i = some q') ∧ Hid (Keeps (fun x => x = g) w wr))
  case atStart => exact ⟨i0, q, rfl, hi, HH, HM, Lib.hid (Keeps.refl _ _)⟩
  case round =>
    obtain ⟨i, q1, rfl, hi1, H1, M1, K1⟩ := hrel
    cases gk with
    | zero => have := M1.out; simp [downM] at this
    | succ f =>
      obtain ⟨j1, hj1⟩ : ∃ j1, 2 * i + 1 = j1 := ⟨_, rfl⟩
      have hjl : j1 ≤ 2000001 := by omega
      have e1 : IntKind.i64.wrap (2 * (i : Int)) = 2 * (i : Int) := by rw [IntKind.wrap_i64]; omega
      have e2 : IntKind.i64.wrap (2 * (i : Int) + 1) = (j1 : Int) := by rw [IntKind.wrap_i64]; omega
      have e3 : IntKind.i64.wrap ((j1 : Int) + 1) = ((j1 + 1 : Nat) : Int) := by rw [IntKind.wrap_i64]; omega
      have e := M1.out
      unfold downM at e
      rw [hj1] at e
      have hml := fun fuel => meth_any _ "Less" fact_less fuel H1.out.cell
      by_cases hz : n ≤ j1
      · rw [if_pos hz] at e
        obtain rfl := Option.some.inj e
        clear e
        have hd : (decide ((j1 : Int) ≥ (n : Int))) = true := decide_eq_true (by omega)
        go_wp2_with fail
        go_returns
        exact ⟨⟨_, rfl⟩, H1.out, K1.out⟩
      · rw [if_neg hz] at e
        have hd : (decide ((j1 : Int) ≥ (n : Int))) = false := decide_eq_false (by omega)
        have hd2 : decide ((j1 : Int) < 0) = false := decide_eq_false (by omega)
        have hj1' : j1 ≤ 1000000 := by omega
        obtain ⟨a, ha, e⟩ := Option.bind_eq_some_iff.1 e
        obtain ⟨x, hx, e⟩ := Option.bind_eq_some_iff.1 e
        by_cases hb : j1 + 1 < n
        · rw [if_pos hb] at e
          have hd3 : decide (((j1 + 1 : Nat) : Int) < (n : Int)) = true := decide_eq_true (by omega)
          have hj2' : j1 + 1 ≤ 1000000 := by omega
          obtain ⟨b, hbb, e⟩ := Option.bind_eq_some_iff.1 e
          have HLE := Lib.hid (less_rdy wr B g k qc q1 (j1 + 1) j1 b a H1.out.rq hbb ha)
          have E := Lib.hid e
          clear e
          go_wp2_with fail
          refine HLE.out.mono ?_
          rintro e w1 ⟨rfl, hk1⟩
          have H2 := Lib.hid (H1.out.no hk1)
          have K2 := Lib.hid (K1.out.trans hk1 (fun _ _ e => e.elim))
          have hml := fun fuel => meth_any _ "Less" fact_less fuel H2.out.cell
          clear hk1 HLE H1 K1 M1
          by_cases hba : b < a
          · have hdb : decide (b < a) = true := decide_eq_true hba
            rw [hdb]
            have e := E.out
            rw [if_pos hba] at e
            have E2 := Lib.hid e
            have HL2 := Lib.hid (less_rdy w1 B g k qc q1 (j1 + 1) i b x H2.out.rq hbb hx)
            clear e E
            go_wp2_with fail
            refine HL2.out.mono ?_
            rintro e w2 ⟨rfl, hk2⟩
            have H3 := Lib.hid (H2.out.no hk2)
            have K3 := Lib.hid (K2.out.trans hk2 (fun _ _ e => e.elim))
            have HSW := Lib.hid (swap_rdy w2 B g k qc q1 i (j1 + 1) x b H3.out.rq hx hbb)
            have hms := fun fuel => meth_any _ "Swap" fact_swap fuel H3.out.cell
            clear hk2 HL2 hml H2 K2
            by_cases hxy : b < x
            · have e := E2.out
              rw [if_pos hxy] at e
              have E := Lib.hid e
              clear e E2
              have hd4 : decide (b < x) = true := decide_eq_true hxy
              rw [hd4]
              go_wp2_with fail
              refine HSW.out.mono ?_
              rintro e w3 ⟨rfl, hq3, hk3⟩
              have H4 := Lib.hid (H3.out.to hk3 hq3)
              have K4 := Lib.hid (K3.out.trans hk3 (fun _ _ e => e))
              clear hq3 hk3 HSW hms H3 K3
              go_wp2_with fail
              go_roundg f
              case rel => exact ⟨j1 + 1, _, rfl, hj2', H4, E, K4⟩
              case measure => omega
            · have e := E2.out
              rw [if_neg hxy] at e
              obtain rfl := Option.some.inj e
              clear e E2
              have hd4 : decide (b < x) = false := decide_eq_false hxy
              rw [hd4]
              go_wp2_with fail
              go_returns
              exact ⟨⟨_, rfl⟩, H3.out, K3.out⟩
          · have hdb : decide (b < a) = false := decide_eq_false hba
            rw [hdb]
            have e := E.out
            rw [if_neg hba] at e
            have E2 := Lib.hid e
            have HL2 := Lib.hid (less_rdy w1 B g k qc q1 j1 i a x H2.out.rq ha hx)
            clear e E
            go_wp2_with fail
            refine HL2.out.mono ?_
            rintro e w2 ⟨rfl, hk2⟩
            have H3 := Lib.hid (H2.out.no hk2)
            have K3 := Lib.hid (K2.out.trans hk2 (fun _ _ e => e.elim))
            have HSW := Lib.hid (swap_rdy w2 B g k qc q1 i j1 x a H3.out.rq hx ha)
            have hms := fun fuel => meth_any _ "Swap" fact_swap fuel H3.out.cell
            clear hk2 HL2 hml H2 K2
            by_cases hxy : a < x
            · have e := E2.out
              rw [if_pos hxy] at e
              have E := Lib.hid e
              clear e E2
              have hd4 : decide (a < x) = true := decide_eq_true hxy
              rw [hd4]
              go_wp2_with fail
              refine HSW.out.mono ?_
              rintro e w3 ⟨rfl, hq3, hk3⟩
              have H4 := Lib.hid (H3.out.to hk3 hq3)
              have K4 := Lib.hid (K3.out.trans hk3 (fun _ _ e => e))
              clear hq3 hk3 HSW hms H3 K3
              go_wp2_with fail
              go_roundg f
              case rel => exact ⟨j1, _, rfl, hj1', H4, E, K4⟩
              case measure => omega
            · have e := E2.out
              rw [if_neg hxy] at e
              obtain rfl := Option.some.inj e
              clear e E2
              have hd4 : decide (a < x) = false := decide_eq_false hxy
              rw [hd4]
              go_wp2_with fail
              go_returns
              exact ⟨⟨_, rfl⟩, H3.out, K3.out⟩
        · rw [if_neg hb] at e
          have hd3 : decide (((j1 + 1 : Nat) : Int) < (n : Int)) = false := decide_eq_false (by omega)
          have H2 := H1
          have K2 := K1
          obtain ⟨w1, hw1⟩ : ∃ w1, w1 = wr := ⟨_, rfl⟩
          subst hw1
          clear H1 K1 M1
          have E2 := Lib.hid e
          have HL2 := Lib.hid (less_rdy w1 B g k qc q1 j1 i a x H2.out.rq ha hx)
          clear e
          go_wp2_with fail
          refine HL2.out.mono ?_
          rintro e w2 ⟨rfl, hk2⟩
          have H3 := Lib.hid (H2.out.no hk2)
          have K3 := Lib.hid (K2.out.trans hk2 (fun _ _ e => e.elim))
          have HSW := Lib.hid (swap_rdy w2 B g k qc q1 i j1 x a H3.out.rq hx ha)
          have hms := fun fuel => meth_any _ "Swap" fact_swap fuel H3.out.cell
          clear hk2 HL2 hml H2 K2
          by_cases hxy : a < x
          · have e := E2.out
            rw [if_pos hxy] at e
            have E := Lib.hid e
            clear e E2
            have hd4 : decide (a < x) = true := decide_eq_true hxy
            rw [hd4]
            go_wp2_with fail
            refine HSW.out.mono ?_
            rintro e w3 ⟨rfl, hq3, hk3⟩
            have H4 := Lib.hid (H3.out.to hk3 hq3)
            have K4 := Lib.hid (K3.out.trans hk3 (fun _ _ e => e))
            clear hq3 hk3 HSW hms H3 K3
            go_wp2_with fail
            go_roundg f
            case rel => exact ⟨j1, _, rfl, hj1', H4, E, K4⟩
            case measure => omega
          · have e := E2.out
            rw [if_neg hxy] at e
            obtain rfl := Option.some.inj e
            clear e E2
            have hd4 : decide (a < x) = false := decide_eq_false hxy
            rw [hd4]
            go_wp2_with fail
            go_returns
            exact ⟨⟨_, rfl⟩, H3.out, K3.out⟩
theorem HR.hq {w : World} {B NB g k qc : Nat} {q : List Int} (h : HR w B NB g k qc q) : HQ w B NB q (some ⟨g, 0, none⟩) qc := by
  have e := h.rq.len
  subst e
  exact ⟨h.row, h.rq.own⟩
theorem wpList_appRG (w : World) {ops : Array Oper} {rest : List Oper} {o : Oper} {a : Act} {Q : Exit → Act → World → Prop} (hgd : o.guard = none) (s x : Operand)
    (ho : o.op = .call { callee := .builtin .append, args := #[s, x], argTypes := #[59, 59] })
    (B : Nat) (v : Value) (n : Nat) (l1 : List Int) (z : Int) (q : Nat) (hs : a.eval s = v) (hown : w.ownsRow B 3 1 v n (irow l1)) (hx : a.eval x = .slice (some ⟨q, 0, none⟩) 1 1) (hq : w.heap[q]? = some (.cells #[.int .i64 z] 3 (0, 0)))
    (hn : n ≤ 999999) (hB : B ≤ w.heap.size)
    (h : ∀ g' cap w', w'.ownsRow B 3 1 (.slice (some ⟨g', 0, none⟩) (n + 1) cap) (n + 1) (irow (l1 ++ [z])) → w.grownBy w' v.ownBlock → (v.ownBlock = some g' ∨ w.heap.size ≤ g') → wpList Tryd.prog ops Q rest (a.put o.dst (.slice (some ⟨g', 0, none⟩) (n + 1) cap)) w') : wpList Tryd.prog ops Q (o :: rest) a w := by
  obtain ⟨i0, hi, hz0, hz1, hz2⟩ := info_parts infoI
  refine wpList_append_lies w hgd s x _ ho B 3 i0 (.int .i64 0) 1 8 Tryd.underlying59 hi hz0 hz1 hz2 rfl (by decide) v n (irow l1) hs hown ⟨q, 0, none⟩ 1 1 [.int .i64 z] hx rfl (fun j y hy => ?_) (fun y hy => by simp at hy; subst hy; rfl) (by decide) (by unfold maxLen; omega) (by omega) hB _ rfl (fun g' cap w' k1 k2 k3 _ => h g' cap w' (by rw [irow_app]; exact k1) k2 (k3.imp id (fun e => by omega)))
  cases j with
  | zero => obtain rfl : Value.int .i64 z = y := by simpa using hy
            have e : (⟨q, 0, none⟩ : Addr).add 0 = ⟨q, 0, none⟩ := by unfold Addr.add; split <;> simp_all
            rw [e]; unfold World.cell?; simp only; rw [hq]; rfl
  | succ j => cases hy
set_option maxRecDepth 100000 in
set_option maxHeartbeats 6400000 in
theorem push_rdy (w : World) (B NB k : Nat) (q : List Int) (z : Int) (qa : Option Addr) (qc : Nat) (hrow : w.heap[NB]? = some (.cells #[.slice qa k qc] 59 (0, 0))) (hown : w.ownsRow B 3 1 (.slice qa k qc) k (irow q)) (hk : k ≤ 999999) (hB : B ≤ w.heap.size) :
    Calls Tryd.prog 93 #[.pointer (some ⟨NB, 0, none⟩), .iface 3 (.int .i64 z)] w fun e w' => e = .returned (.tuple #[]) ∧ ∃ g' qc', HR w' B NB g' (k + 1) qc' (q ++ [z]) ∧ ((Value.slice qa k qc).ownBlock = some g' ∨ w.heap.size ≤ g') ∧ Keeps (fun x => x = NB ∨ (Value.slice qa k qc).ownBlock = some x) w w' := by
  have HROW := Lib.hid hrow
  have c0 : w.cell? ⟨NB, 0, none⟩ = some (.slice qa k qc) := by rw [cell_of_row w NB 0 _ _ _ hrow]; rfl
  have HO := Lib.hid hown
  clear hrow hown
  have hta := assertI z
  go_enter Tryd.func93, Tryd.ntmps93
  go_wp2_with (at_builtin; refine wpList_appRG _ rfl (.tmp 15) (.tmp 17) rfl B (.slice qa k qc) k q z w.heap.size rfl (HO.out.alloc _) rfl (heap_alloc_new _ _) (by omega) (by simp; omega) ?_)
  intro g' cap w2 ho hg hgo
  have hk2 : Keeps (fun x => (Value.slice qa k qc).ownBlock = some x) w w2 := ((Keeps.refl _ _).alloc _).grown hg (fun q e => .inl e)
  have hr : w2.heap[NB]? = some (.cells #[.slice qa k qc] 59 (0, 0)) := (hk2.block _ (Array.getElem?_eq_some_iff.1 HROW.out).1 (fun e => by obtain ⟨cs, hc⟩ := own_typ HO.out e; exact ne_type HROW.out hc (by decide) rfl)).trans HROW.out
  have c2 : w2.cell? ⟨NB, 0, none⟩ = some (.slice qa k qc) := by rw [cell_of_row w2 NB 0 _ _ _ hr]; rfl
  have f2 : w2.frozen? ⟨NB, 0, none⟩ = false := frozen_of_row w2 NB 0 _ _ hr
  have HZ := Lib.hid (And.intro ho (And.intro hk2 (And.intro hr hgo)))
  clear ho hg hk2 hr hgo c0
  go_wp2_with fail
  go_returns
  obtain ⟨ho, hk2, hr, hgo⟩ := HZ.out
  have hs := setC w2 ⟨NB, 0, none⟩ (.slice (some ⟨g', 0, none⟩) (k + 1) cap)
  refine ⟨rfl, g', cap, ⟨?_, ⟨?_, by omega⟩, ?_⟩, hgo.imp id (fun e => by first | omega | (simp at e; omega)), ?_⟩
  · rw [heap_setCell_same w2 NB 0 _ _ _ hr]; rfl
  · exact own_kept ho (fun q hq => hs.block q (ownG_lt ho q hq) (fun e => by obtain ⟨cs, hc⟩ := own_typ ho hq; exact ne_type hr hc (by decide) e.symm))
  · obtain ⟨cs, hc⟩ := own_typ ho rfl
    exact ne_type hr hc (by decide)
  · exact (hk2.mono (fun _ _ e => .inr e)).trans hs (fun q _ e => .inl e)
set_option maxRecDepth 100000 in
set_option maxHeartbeats 6400000 in
theorem heapPushN (w : World) (B NB : Nat) (q q' : List Int) (z : Int) (qa : Option Addr) (qc : Nat) (h : HQ w B NB q qa qc) (hB : B ≤ w.heap.size) (hm : pushM q z = some q') :
    Calls Tryd.prog 19 #[.iface 58 (.pointer (some ⟨NB, 0, none⟩)), .iface 3 (.int .i64 z)] w fun e w' => e = .returned (.tuple #[]) ∧ ∃ qa' qc', HQ w' B NB q' qa' qc' ∧ Keeps (fun x => x = NB ∨ (Value.slice qa q.length qc).ownBlock = some x) w w' := by
  unfold pushM at hm
  by_cases hl : q.length ≤ 999999
  case neg => rw [if_neg hl] at hm; cases hm
  rw [if_pos hl] at hm
  obtain ⟨k, hk⟩ : ∃ k, q.length = k := ⟨_, rfl⟩
  have hr := h.row
  have ho := h.own
  rw [hk] at hl hm hr ho ⊢
  have HM := Lib.hid hm
  have HP := Lib.hid (push_rdy w B NB k q z qa qc hr ho hl hB)
  clear h hr ho hk hm
  go_enter Tryd.func19, Tryd.ntmps19
  go_wp2_with fail
  refine HP.out.mono ?_
  rintro e w2 ⟨rfl, g', qc', h2, hgo, hk2⟩
  have H2 := Lib.hid h2
  have HK2 := Lib.hid hk2
  have HGO := Lib.hid hgo
  have hml := fun fuel => meth_any _ "Len" fact_len fuel h2.cell
  have e1 : IntKind.i64.wrap (((k + 1 : Nat) : Int) - 1) = (k : Int) := by rw [IntKind.wrap_i64]; omega
  clear h2 hk2 hgo HP
  go_wp2_with fail
  refine (len_ready _ _ _ w2).mono ?_
  rintro e w3 ⟨rfl, rfl⟩
  go_wp2_with fail
  refine (up_rdy 40 _ B NB g' (k + 1) qc' (q ++ [z]) q' k H2.out (by omega) HM.out).mono ?_
  rintro e w3 ⟨rfl, h3, hk3⟩
  have H3 := Lib.hid (And.intro h3 hk3)
  clear h3 hk3 hml
  go_wp2_with fail
  go_returns
  exact ⟨rfl, _, _, H3.out.1.hq, HK2.out.trans H3.out.2 (fun x hx e => by subst e; exact HGO.out.elim .inr (fun e => by omega))⟩
set_option maxRecDepth 100000 in
set_option maxHeartbeats 6400000 in
theorem pop_rdy (w : World) (B NB g n qc : Nat) (q : List Int) (z : Int) (h : HR w B NB g (n + 1) qc q) (hz : q[n]? = some z) :
    Calls Tryd.prog 92 #[.pointer (some ⟨NB, 0, none⟩)] w fun e w' => e = .returned (.iface 3 (.int .i64 z)) ∧ HR w' B NB g n qc (q.take n) ∧ Keeps (fun x => x = NB) w w' := by
  have H := Lib.hid h
  have c0 := h.cell
  have f0 : w.frozen? ⟨NB, 0, none⟩ = false := frozen_of_row w NB 0 _ _ h.row
  have cz := h.rq.cell hz
  have hcap := h.rq.cap
  have hsm := h.rq.small
  have e1 : IntKind.i64.wrap (((n + 1 : Nat) : Int) - 1) = (n : Int) := by rw [IntKind.wrap_i64]; omega
  clear h hz
  go_enter Tryd.func92, Tryd.ntmps92
  go_wp2_with fail
  go_returns
  have hs := setC w ⟨NB, 0, none⟩ (.slice (some ⟨g, 0, none⟩) n qc)
  refine ⟨rfl, ⟨?_, ⟨⟨?_, ?_⟩, by omega⟩, H.out.ne⟩, hs⟩
  · rw [heap_setCell_same w NB 0 _ _ _ H.out.row]; rfl
  · have := H.out.rq.len; unfold irow; simp; omega
  · rcases H.out.rq.own.2 with ⟨h1, _⟩ | ⟨g1, cap, cur, h1, h2, h3, h4, h5, h6, h7⟩
    · cases h1
    · cases h1
      refine .inr ⟨g, qc, cur, rfl, h2, ?_, by omega, h5, h6, ?_⟩
      · exact (hs.block g (Array.getElem?_eq_some_iff.1 h3).1 (fun e => H.out.ne e.symm)).trans h3
      · rw [show irow (q.take n) = (irow q).take n by unfold irow; rw [List.map_take], ← h7, List.take_take]
        congr 1; omega
set_option maxRecDepth 100000 in
set_option maxHeartbeats 6400000 in
theorem heapPopN (w : World) (B NB : Nat) (q q' : List Int) (z : Int) (qa : Option Addr) (qc : Nat) (h : HQ w B NB q qa qc) (hm : popM q = some (z, q')) :
    Calls Tryd.prog 33 #[.iface 58 (.pointer (some ⟨NB, 0, none⟩))] w fun e w' => e = .returned (.iface 3 (.int .i64 z)) ∧ HQ w' B NB q' qa qc ∧ Keeps (fun x => x = NB ∨ (Value.slice qa q.length qc).ownBlock = some x) w w' := by
  unfold popM at hm
  obtain ⟨k, hk⟩ : ∃ k, q.length = k := ⟨_, rfl⟩
  have hr := h.row
  have ho := h.own
  rw [hk] at hm hr ho ⊢
  cases k with
  | zero => simp at hm
  | succ n =>
    simp only at hm
    by_cases hl : n ≤ 999999
    case neg => rw [if_neg hl] at hm; cases hm
    rw [if_pos hl] at hm
    obtain ⟨x, hx, hm⟩ := Option.bind_eq_some_iff.1 hm
    obtain ⟨y, hy, hm⟩ := Option.bind_eq_some_iff.1 hm
    obtain ⟨q2, hq2, hm⟩ := Option.bind_eq_some_iff.1 hm
    obtain ⟨z', hz, hm⟩ := Option.bind_eq_some_iff.1 hm
    obtain ⟨rfl, rfl⟩ := Prod.mk.inj (Option.some.inj hm)
    obtain ⟨g, rfl⟩ : ∃ g, qa = some ⟨g, 0, none⟩ := by
      rcases ho.2 with ⟨h1, h2⟩ | ⟨g1, cap, cur, h1, _⟩
      · cases h2
      · injection h1 with h1 _ _; exact ⟨g1, h1⟩
    have H : Hid (HR w B NB g (n + 1) qc q) := Lib.hid ⟨hr, ⟨ho, by omega⟩, by obtain ⟨cs, hc⟩ := own_typ ho rfl; exact ne_type hr hc (by decide)⟩
    have HD := Lib.hid hq2
    have HZ := Lib.hid hz
    have HSW := Lib.hid (swap_rdy w B g (n + 1) qc q 0 n x y H.out.rq hx hy)
    have hml := fun fuel => meth_any _ "Len" fact_len fuel H.out.cell
    have hms := fun fuel => meth_any _ "Swap" fact_swap fuel H.out.cell
    have e1 : IntKind.i64.wrap (((n + 1 : Nat) : Int) - 1) = (n : Int) := by rw [IntKind.wrap_i64]; omega
    rw [show ((0 : Nat) : Int) = 0 from rfl] at HSW
    clear h hr ho hk hx hy hq2 hz hm
    go_enter Tryd.func33, Tryd.ntmps33
    go_wp2_with fail
    refine (len_ready _ _ _ w).mono ?_
    rintro e w1 ⟨rfl, rfl⟩
    go_wp2_with fail
    refine HSW.out.mono ?_
    rintro e w2 ⟨rfl, ho2, hk2⟩
    have H2 := Lib.hid (H.out.to hk2 ho2)
    have HK2 := Lib.hid hk2
    have HDN := Lib.hid (down_rdy 40 w2 B NB g (n + 1) qc _ q2 n 0 H2.out (by omega) (by omega) HD.out)
    rw [show ((0 : Nat) : Int) = 0 from rfl] at HDN
    clear ho2 hk2 hml hms HSW
    go_wp2_with fail
    refine HDN.out.mono ?_
    rintro e w3 ⟨⟨b, rfl⟩, h3, hk3⟩
    have HP := Lib.hid (pop_rdy w3 B NB g n qc q2 z' h3 HZ.out)
    have HK3 := Lib.hid (HK2.out.trans hk3 (fun _ _ e => e))
    clear hk3 h3 HDN HK2 H2
    go_wp2_with fail
    refine HP.out.mono ?_
    rintro e w4 ⟨rfl, h4, hk4⟩
    have H4 := Lib.hid (And.intro h4 hk4)
    clear h4 hk4 HP
    go_wp2_with fail
    go_returns
    exact ⟨rfl, H4.out.1.hq, (HK3.out.mono (fun x _ e => .inr (by rw [e]; rfl))).trans H4.out.2 (fun x _ e => .inl e)⟩
set_option maxRecDepth 100000 in
set_option maxHeartbeats 6400000 in
theorem takeN (w : World) (B NB : Nat) (q q' : List Int) (z : Int) (qa : Option Addr) (qc : Nat) (h : HQ w B NB q qa qc) (hm : popM q = some (z, q')) :
    Calls Tryd.prog 21 #[.pointer (some ⟨NB, 0, none⟩)] w fun e w' => e = .returned (.int .i64 z) ∧ HQ w' B NB q' qa qc ∧ Keeps (fun x => x = NB ∨ (Value.slice qa q.length qc).ownBlock = some x) w w' := by
  have HP := Lib.hid (heapPopN w B NB q q' z qa qc h hm)
  have hta := assertI z
  clear h hm
  go_enter Tryd.func21, Tryd.ntmps21
  go_wp2_with fail
  refine HP.out.mono ?_
  rintro e w4 ⟨rfl, h4, hk4⟩
  have H4 := Lib.hid (And.intro h4 hk4)
  clear h4 hk4 HP
  go_wp2_with fail
  go_returns
  exact ⟨rfl, H4.out⟩
end Go.Proofs.YtkiimljdoebclaaDoor
