/- The law MemCells, walked. -/
import Derived.Test.YtjchfldlmabblaaMmCellsM
import Derived.Test.YtjchfldlmabblaaMmRow
import Derived.Test.YtjchfldlmabblaaBaseI
import Derived.BigQuiet
import Derived.Deep.QuietTactic
import Derived.StillTailTactics
import Derived.Deep.DeepCutAuto
namespace Go.Proofs.Ytjchfldlmabblaa
open Go.RowKit Go.Maps
set_option linter.unusedVariables false

/-- The law's own twenty numbers. -/
structure Arr (P : Nat) (f : Nat → Int) (wr : World) : Prop where
  lt : P < wr.heap.size
  c : ∀ i < 20, wr.cell? ⟨P, i, none⟩ = some (.int .i64 (f i))
  fr : ∀ i, wr.frozen? ⟨P, i, none⟩ = false
theorem Arr.set {P a : Nat} {f f' : Nat → Int} {wr : World} {v : Int} (h : Arr P f wr) (hf : ∀ i < 20, f' i = if i = a then v else f i) (ha : a < 20) : Arr P f' (wr.setCell ⟨P, a, none⟩ (.int .i64 v)) := by
  refine ⟨by simp [World.setCell]; exact h.lt, fun i hi => ?_, fun i => ?_⟩
  · rw [hf i hi]
    by_cases e : i = a
    · subst e; rw [if_pos rfl]; exact World.cell?_setCell_same _ _ _ (h.c i hi)
    · rw [if_neg e, World.cell?_setCell_other _ _ _ _ (fun e' => e (by injection e' with _ e' _; exact e'.symm))]; exact h.c i hi
  · rw [World.frozen?_setCell]; exact h.fr i
theorem Arr.block {P : Nat} {f : Nat → Int} {w w' : World} (h : Arr P f w) (hs : w.heap.size ≤ w'.heap.size) (hb : w'.heap[P]? = w.heap[P]?) : Arr P f w' := by
  refine ⟨Nat.lt_of_lt_of_le h.lt hs, fun i hi => ?_, fun i => ?_⟩
  · have := h.c i hi; unfold World.cell? at this ⊢; simp only at this ⊢; rw [hb]; exact this
  · have := h.fr i; unfold World.frozen? at this ⊢; simp only at this ⊢; rw [hb]; exact this
theorem arr_of (w : World) (cur : Array Value) (T : TypeId) (hc : ∀ i < 20, cur[i]? = some (.int .i64 0)) : Arr w.heap.size (fun _ => 0) (w.alloc (.cells cur T)) := by
  have h := heap_alloc_new w (.cells cur T)
  refine ⟨by rw [heap_two]; exact Nat.lt_succ_self _, fun i hi => ?_, fun i => ?_⟩
  · rw [World.cell?_alloc_at _ _ _ _ rfl]; exact hc i hi
  · simp only [World.frozen?, h]; simp
theorem rep_at (n : Nat) (v : Value) (i : Nat) (hi : i < n) : (List.replicate n v).toArray[i]? = some v := by simp [hi]
theorem arr_made (w : World) : Arr w.heap.size (fun _ => 0) (w.alloc (.cells (List.replicate 20 (.int .i64 0)).toArray 67)) := arr_of w _ _ (fun i hi => rep_at 20 _ i hi)
set_option maxRecDepth 100000 in
set_option maxHeartbeats 8000000 in
theorem memCells_walk (many : Int) (a : Option Addr) (n cap : Nat) (z : Nat → Int) (wm : (Lit.int .i64 many).wf = true) (w : World) (hI : IntsIn w a n z) : Calls Try.prog 4 #[.int .i64 many, .slice a n cap] w fun e w' => e = .returned (.bool true) ∧ Below w.heap.size w w' := by
  have hm := wf_I64 wm
  obtain ⟨k, hk, hkz⟩ := low_nat many 20 hm (by decide)
  have HK := Lib.hid hkz
  have hk20 : k < 20 := by omega
  obtain ⟨M, hM⟩ : ∃ M, k + 1 = M := ⟨_, rfl⟩
  have hk2 : (1 : Int) + (k : Int) = (M : Int) := by omega
  have hM20 : M ≤ 20 := by omega
  have hM0 : 0 < M := by omega
  have HI := Lib.hid hI
  clear hkz wm hk hI
  by_cases h40 : 40 < n
  · have h40' : (40 : Int) < (n : Int) := by omega
    go_enter Try.func4, Try.ntmps4
    go_wp2_with fail
    refine (low_as many 20 _ hm (by decide) HK _).mono ?_
    rintro e w1 ⟨rfl, rfl⟩
    go_wp2_with fail
    refine (awake_true _).mono ?_
    rintro e w1 ⟨rfl, hb⟩
    have HB := Lib.hid hb
    clear hb
    go_wp2_with fail
    go_returns
    exact ⟨rfl, HB.out⟩
  · have h40' : ¬ (40 : Int) < (n : Int) := by omega
    go_enter Try.func4, Try.ntmps4
    go_wp2_with fail
    refine (low_as many 20 _ hm (by decide) HK _).mono ?_
    rintro e w1 ⟨rfl, rfl⟩
    go_wp2_with fail
    refine (mem_b w (fun _ => False) (fun _ e => e.elim)).mono ?_
    rintro e w1 ⟨m, rfl, hm1, _⟩
    have HM := Lib.hid hm1
    clear hm1 HK
    go_wp2_with fail
    go_loopg [6, 7] M (fun g x v wr => ∃ i : Nat, v = .int .i64 (i : Int) ∧ i ≤ M ∧ g = M - i ∧ Hid (wr.ownsRow w1.heap.size 35 2 x i (crow (cellsF 0 i))) ∧ Hid (Below w1.heap.size w1 wr))
    case atStart => exact ⟨0, rfl, Nat.zero_le _, rfl, Lib.hid (World.ownsRow_nil _ _ _ _), Lib.hid (Below.refl _ _)⟩
    case round =>
      obtain ⟨i, rfl, hi, hg, HO, HB⟩ := hrel
      by_cases hlt : i < M
      · have hlt' : (i : Int) < (M : Int) := by omega
        have hsz := HB.out.size
        have HNE : Hid (∀ q, u6.ownBlock = some q → w1.heap.size ≤ q) := Lib.hid (fun q e => (HO.out.lt q e).1)
        obtain ⟨aa, ca, hv5, _⟩ := own_form HO.out
        subst hv5
        go_wp2_with (at_builtin; refine wpList_app2 _ rfl _ _ 28 35 rfl Try.underlying28 infoC w1.heap.size _ i (cellsF 0 i) (4 * (i : Int)) tI32 wr.heap.size rfl (HO.out.alloc _) rfl (heap_alloc_new _ _) (by omega) (by rw [heap_two]; omega) (wr.heap.size + 1) (heap_two _ _) ?_)
        intro g5 cap5 w5 hown hgrow _
        have HOW : Hid (w5.ownsRow w1.heap.size 35 2 (.slice (some ⟨g5, 0, none⟩) (i + 1) cap5) (i + 1) (crow (cellsF 0 (i + 1)))) := Lib.hid (by rw [cellsF_snoc, crow_snoc, Nat.zero_add]; exact hown)
        have HBW : Hid (Below w1.heap.size w1 w5) := Lib.hid ((HB.out.alloc (by omega) _).grown hgrow (by rw [heap_two]; omega) HNE.out)
        clear hown hgrow
        go_wp2_with fail
        go_roundg (M - (i + 1))
        case rel => exact ⟨i + 1, by go_num, by omega, rfl, HOW, HBW⟩
        case measure => omega
      · obtain rfl : i = M := by omega
        have hlt' : ¬ (i : Int) < (i : Int) := by omega
        obtain ⟨aa, ca, hv5, _⟩ := own_form HO.out
        subst hv5
        have HCL : Hid (CellsIn wr aa i (cellsF 0 i)) := Lib.hid (CellsIn.of_row HO.out (cellsF_len 0 i) (fun t ht => by
          obtain ⟨j, hj⟩ := List.getElem?_of_mem ht
          have hji : j < i := by have := (List.getElem?_eq_some_iff.1 hj).1; rw [cellsF_len] at this; exact this
          rw [cellsF_get 0 i j hji] at hj
          injection hj with hj
          subst hj
          exact ⟨by unfold I64; simp only; omega, awT⟩))
        have HMR : Hid (MemB w wr m (fun _ => none) 0 (fun _ => False)) := Lib.hid (HM.out.others (F := fun a => w1.heap.size ≤ a) ⟨HB.out.os, HB.out.tape, HB.out.output, HB.out.size, fun q hq hn => HB.out.block q (by omega)⟩ (fun q hq e => by omega) (fun q e => e.elim))
        clear HO HB HM
        go_wp2_with fail
        refine (add_b (4 * (i : Int)) 1 rfl aa i ca (cellsF 0 i) _ (vw_start i) HMR.out (by unfold I64; omega) HCL.out (by omega) (by omega)).mono ?_
        rintro e w2 ⟨rfl, hm2, _⟩
        have HM2 := Lib.hid hm2
        clear hm2 HMR HCL
        obtain ⟨P, hP⟩ : ∃ P, w2.heap.size = P := ⟨_, rfl⟩
        have A0 : Hid (Arr P (fun _ => 0) (w2.alloc (.cells (List.replicate 20 (.int .i64 0)).toArray 67))) := Lib.hid (by rw [← hP]; exact arr_made w2)
        have HM3 : Hid (MemB w (w2.alloc (.cells (List.replicate 20 (.int .i64 0)).toArray 67)) m (VW i (fun _ => 0)) 1 (fun a => a = P)) := Lib.hid (HM2.out.keep ((Keeps.refl No w2).alloc _) (fun a e => .inr (by subst e; rw [← hP]; simp)))
        have hPw : w.heap.size ≤ P := by rw [← hP]; exact HM2.out.below.size
        clear HM2
        go_wp2_with fail
        try rw [hP]
        clear hP
        go_loopg [10] n (fun g v wx => ∃ (j : Nat) (La : Nat → Int), v = .int .i64 (j : Int) ∧ j ≤ n ∧ g = n - j ∧ Hid (∀ x, 0 ≤ La x ∧ La x ≤ 40) ∧ Hid (Arr P La wx) ∧ Hid (MemB w wx m (VW i La) 1 (fun a => a = P)))
        case atStart => exact ⟨0, _, rfl, Nat.zero_le _, rfl, Lib.hid (fun x => by omega), A0, HM3⟩
        case round =>
          clear A0 HM3
          obtain ⟨j, La, rfl, hj, hgj, HL, HA, HM⟩ := hrel
          by_cases hlj : j < n
          · have hlj' : (j : Int) < (n : Int) := by omega
            have j0 : (0 : Int) ≤ (j : Int) := by omega
            obtain ⟨b, off, rfl, hz⟩ := HI.out.at_ (by omega)
            have k1 := hz j hlj
            have k1 := (HM.out.below.cell (p := ⟨b, _, none⟩) (block_lt_of_cell k1)).trans k1
            have hbd := HI.out.bd j hlj
            obtain ⟨Z, hZ⟩ : ∃ Z, z j = Z := ⟨_, rfl⟩
            rw [hZ] at k1 hbd
            obtain ⟨q, hq, hqz⟩ := low_nat Z (i : Int) hbd (by omega)
            have HQ := Lib.hid hqz
            have hq2 : q < i := by omega
            have hq20 : q < 20 := by omega
            have q20 : (q : Int) < 20 := by omega
            have q0 : (0 : Int) ≤ (q : Int) := by omega
            have f1 := HA.out.fr q
            have f2 := HA.out.c q hq20
            clear hqz hz hZ hq
            go_wp2_with fail
            refine (low_as Z (i : Int) _ hbd (by omega) HQ _).mono ?_
            rintro e w3 ⟨rfl, rfl⟩
            go_wp2_with fail
            have HA2 : Hid (Arr P (updL La q ((j : Int) + 1)) (wr.setCell ⟨P, q, none⟩ (.int .i64 ((j : Int) + 1)))) := Lib.hid (HA.out.set (fun x hx => rfl) hq20)
            have HM4 : Hid (MemB w (wr.setCell ⟨P, q, none⟩ (.int .i64 ((j : Int) + 1))) m (VW i La) 1 (fun a => a = P)) := Lib.hid (HM.out.others (F := fun a => a = P) ((Keeps.refl (fun a => a = P) wr).at q _) (fun a _ e => ⟨e, by have e' : a = P := e; omega⟩) (fun a e => .inl e))
            have hvo : vlOk ⟨2, 0, 1, 4 * (q : Int)⟩ := vl3 _ (by omega) (by omega)
            refine (write_b ⟨2, 0, 1, 4 * (q : Int)⟩ tI32 ⟨1, (j : Int) + 1, 0, 0⟩ true _ (by rw [vw_cell i La q hq2]; rfl) (vw_write i La q hq2 ((j : Int) + 1) (by omega)) HM4.out hvo awT).mono ?_
            rintro e w4 ⟨rfl, hm4, hk4⟩
            have HA3 : Hid (Arr P (updL La q ((j : Int) + 1)) w4) := Lib.hid (HA2.out.block hk4.size (hk4.block P HA2.out.lt (fun e => e.1 rfl)))
            have HM5 := Lib.hid hm4
            have HL2 : Hid (∀ x, 0 ≤ updL La q ((j : Int) + 1) x ∧ updL La q ((j : Int) + 1) x ≤ 40) := Lib.hid (fun x => by unfold updL; split; omega; exact HL.out x)
            clear hm4 hk4 HA2 HM4 HA HM f1 f2 k1
            go_wp2_with fail
            go_roundg (n - (j + 1))
            case rel => exact ⟨j + 1, _, by go_num, by omega, rfl, HL2, HA3, HM5⟩
            case measure => omega
          · obtain rfl : j = n := by omega
            have hlj' : ¬ (j : Int) < (j : Int) := by omega
            clear HI hgj
            go_wp2_with fail
            go_loopg [12] i (fun g v wr => ∃ k2 : Nat, v = .int .i64 (k2 : Int) ∧ k2 ≤ i ∧ g = i - k2 ∧ Hid (Arr P La wr) ∧ Hid (MemB w wr m (VW i La) 1 (fun a => a = P)))
            case atStart => exact ⟨0, rfl, Nat.zero_le _, rfl, HA, HM⟩
            case round =>
              clear HA HM
              obtain ⟨c, rfl, hc, hgc, HA, HM⟩ := hrel
              by_cases hlc : c < i
              · have hlc' : (c : Int) < (i : Int) := by omega
                have c0 : (0 : Int) ≤ (c : Int) := by omega
                have c20 : (c : Int) < 20 := by omega
                go_wp2_with fail
                obtain ⟨g, hg⟩ : ∃ g, wr.heap.size = g := ⟨_, rfl⟩
                have hPg : P < g := by rw [← hg]; exact HA.out.lt
                obtain ⟨⟨⟨xk, xn, xb, xo⟩, ok⟩, hr⟩ : ∃ r, readV (VW i La) ⟨2, 0, 1, 4 * (c : Int)⟩ tI32 = r := ⟨_, rfl⟩
                have hr2 := hr
                rw [vw_read i La c hlc] at hr2
                have hLc := HL.out c
                obtain ⟨Lc, hLc2⟩ : ∃ Lc, La c = Lc := ⟨_, rfl⟩
                rw [hLc2] at hr2 hLc
                have hvo : vlOk ⟨2, 0, 1, 4 * (c : Int)⟩ := vl3 _ (by omega) (by omega)
                have hvo2 : vlOk ⟨2, 0, 1, 4 * (c : Int) + 1⟩ := vl3 _ (by omega) (by omega)
                have HXN : Hid (xn = Lc ∧ ok = decide (0 < Lc)) := Lib.hid (by
                  by_cases h : 0 < Lc
                  · rw [if_pos h] at hr2
                    injection hr2 with h1 h2
                    injection h1 with _ h1 _ _
                    exact ⟨h1.symm, by rw [← h2]; exact (decide_eq_true h).symm⟩
                  · rw [if_neg h] at hr2
                    injection hr2 with h1 h2
                    injection h1 with _ h1 _ _
                    exact ⟨by omega, by rw [← h2]; exact (decide_eq_false h).symm⟩)
                have HLC := Lib.hid hLc2
                have HM2 := Lib.hid (HM.out.keep (Y := fun a => a = P ∨ a = g) ((Keeps.refl No wr).alloc (.cells #[.int .i64 2, .int .i64 0, .int .i64 1, .int .i64 (4 * (c : Int))] 30)) (fun a e => by rcases e with e | e; exact .inl e; exact .inr (by subst e; rw [← hg]; simp)))
                refine (read_b ⟨2, 0, 1, 4 * (c : Int)⟩ tI32 _ hr HM2.out hvo awT).mono ?_
                rintro e w3 ⟨rfl, hm3, hk3⟩
                have hp3 := row_of hk3
                rw [hg] at hp3 ⊢
                have HA3 : Hid (Arr P La w3) := Lib.hid (HA.out.block (((Keeps.refl No wr).alloc _).tr hk3).size ((((Keeps.refl No wr).alloc _).tr hk3).block P HA.out.lt (fun e => e)))
                obtain ⟨p0, p1, p2, p3, _⟩ := four_cells hp3
                have HP3 := Lib.hid hp3
                have gl : g < w3.heap.size := (Array.getElem?_eq_some_iff.1 hp3).1
                have gn : g ≠ w3.heap.size := by omega
                have HM3 := Lib.hid hm3
                clear hm3 hk3 hp3 hr hr2 hLc2 hg HM HA HM2
                go_wp2_with fail
                refine (read_b ⟨2, 0, 1, 4 * (c : Int)⟩ tU32 _ (vw_other i La c) (HM3.out.no (by repeat (first | with_reducible exact Keeps.refl _ _ | with_reducible refine Keeps.alloc ?_ _ | with_reducible refine Keeps.drewN ?_ _ | with_reducible refine Keeps.drew ?_ | with_reducible refine Keeps.setCell ?_ (.inr (by simp)) _ | with_reducible refine Keeps.setRow ?_ (by simp) _))) hvo (by decide)).mono ?_
                rintro e w4 ⟨rfl, hm4, hk4⟩
                have hv4 := row_of hk4
                have hkk : Keeps No w3 w4 := ((Keeps.refl No w3).alloc _).tr hk4
                have hp4 := (hkk.block g gl (fun e => e)).trans HP3.out
                have HA4 : Hid (Arr P La w4) := Lib.hid (HA3.out.block hkk.size (hkk.block P HA3.out.lt (fun e => e)))
                obtain ⟨h, hh⟩ : ∃ h, w3.heap.size = h := ⟨_, rfl⟩
                rw [hh] at hv4 gl gn ⊢
                clear p0 p1 p2 p3
                obtain ⟨p0, p1, p2, p3, p4⟩ := four_cells hp4
                have HP4 := Lib.hid (And.intro hp4 hv4)
                have gl4 : g < w4.heap.size := (Array.getElem?_eq_some_iff.1 hp4).1
                have gn4 : g ≠ w4.heap.size := by omega
                have HM4 := Lib.hid hm4
                have hgh : h ≠ g := fun e => gn e.symm
                clear hm4 hk4 hp4 hv4 hkk hh HM3 HA3 HP3 gl
                go_wp2_with fail
                have hks : Keeps (fun a => a = g) w4 (w4.setCell ⟨g, 3, none⟩ (.int .i64 (4 * (c : Int) + 1))) := (Keeps.refl _ _).at _ _
                have HM5 : Hid (MemB w (w4.setCell ⟨g, 3, none⟩ (.int .i64 (4 * (c : Int) + 1))) m (VW i La) 1 (fun a => a = P)) := Lib.hid (HM4.out.others hks (fun a _ e => ⟨.inr e, by have e' : a = g := e; omega⟩) (fun a e => .inl (.inl e)))
                have HA5 : Hid (Arr P La (w4.setCell ⟨g, 3, none⟩ (.int .i64 (4 * (c : Int) + 1)))) := Lib.hid (HA4.out.block hks.size (hks.block P HA4.out.lt (by omega)))
                have hv5 : (w4.setCell ⟨g, 3, none⟩ (.int .i64 (4 * (c : Int) + 1))).heap[h]? = some (.cells #[.int .i64 xk, .int .i64 xn, .int .i64 xb, .int .i64 xo] 30 (0, 0)) := (hks.block h (Array.getElem?_eq_some_iff.1 HP4.out.2).1 hgh).trans HP4.out.2
                obtain ⟨W5, hW5⟩ : ∃ W5, w4.setCell ⟨g, 3, none⟩ (.int .i64 (4 * (c : Int) + 1)) = W5 := ⟨_, rfl⟩
                rw [hW5] at HM5 HA5 hv5 ⊢
                have HV5 := Lib.hid hv5
                clear hks hv5 HM4 HA4 HP4 p0 p1 p2 p3 p4 gl4 gn4 gn hW5
                refine (read_b ⟨2, 0, 1, 4 * (c : Int) + 1⟩ tI32 _ (vw_beside i La c) (HM5.out.no (by repeat (first | with_reducible exact Keeps.refl _ _ | with_reducible refine Keeps.alloc ?_ _ | with_reducible refine Keeps.drewN ?_ _ | with_reducible refine Keeps.drew ?_ | with_reducible refine Keeps.setCell ?_ (.inr (by simp)) _ | with_reducible refine Keeps.setRow ?_ (by simp) _))) hvo2 awT).mono ?_
                rintro e w6 ⟨rfl, hm6, hk6⟩
                have hkk : Keeps No W5 w6 := ((Keeps.refl No W5).alloc _).tr hk6
                have hv6 := (hkk.block h (Array.getElem?_eq_some_iff.1 HV5.out).1 (fun e => e)).trans HV5.out
                have hA6 := HA5.out.block hkk.size (hkk.block P HA5.out.lt (fun e => e))
                obtain ⟨_, v1, _⟩ := four_cells hv6
                have hl6 : h < w6.heap.size := (Array.getElem?_eq_some_iff.1 hv6).1
                have hn6 : h ≠ w6.heap.size := by omega
                have f2 := hA6.c c (by omega)
                rw [HLC.out] at f2
                have hPl := hA6.lt
                have hPn : P ≠ w6.heap.size := by omega
                have HA6 := Lib.hid hA6
                have HM6 := Lib.hid hm6
                obtain ⟨hx1, hx2⟩ := HXN.out
                subst hx1 hx2
                clear hm6 hk6 hkk hv6 hA6 HM5 HA5 HV5
                go_wp2_with fail
                go_quiet (fail)
                go_wp2_with fail
                go_roundg (i - (c + 1))
                case rel => exact ⟨c + 1, by go_num, by omega, rfl, Lib.hid (HA6.out.block (by simp) (Below.heap_alloc w6 _ _ HA6.out.lt)), Lib.hid (HM6.out.no (by repeat (first | with_reducible exact Keeps.refl _ _ | with_reducible refine Keeps.alloc ?_ _ | with_reducible refine Keeps.drewN ?_ _ | with_reducible refine Keeps.drew ?_ | with_reducible refine Keeps.setCell ?_ (.inr (by simp)) _ | with_reducible refine Keeps.setRow ?_ (by simp) _)))⟩
                case measure => omega
              · obtain rfl : c = i := by omega
                have hlc' : ¬ (c : Int) < (c : Int) := by omega
                clear HA
                go_wp2_with fail
                refine (end_b 1 _ (vw_end c La) HM.out i64_1).mono ?_
                rintro e w3 ⟨rfl, hm3, _⟩
                have HM3 := Lib.hid hm3
                clear hm3 HM
                go_wp2_with fail
                refine (read_b ⟨2, 0, 1, 0⟩ tI32 (v0, false) rfl HM3.out awOk awT).mono ?_
                rintro e w4 ⟨rfl, hm4, _⟩
                have HM4 := Lib.hid hm4
                clear hm4 HM3
                go_wp2_with fail
                refine (zend_any _ 1).mono ?_
                rintro e w5 ⟨rfl, hk5⟩
                have HM5 := Lib.hid (HM4.out.no (((Keeps.refl No w4).alloc _).tr hk5))
                clear hk5 HM4
                go_wp2_with fail
                refine (zread_any _ v0 ⟨#[]⟩).mono ?_
                rintro e w6 ⟨rfl, hk6⟩
                have HM6 := Lib.hid (HM5.out.no hk6)
                clear hk6 HM5
                go_wp2_with fail
                refine (zadd_any _ 4 none 0 0).mono ?_
                rintro e w7 ⟨rfl, hk7⟩
                have HM7 := Lib.hid (HM6.out.no (((Keeps.refl No w6).alloc _).tr hk7))
                clear hk7 HM6
                go_wp2_with fail
                refine (zsize_any _ 1).mono ?_
                rintro e w8 ⟨rfl, hk8⟩
                have HM8 := Lib.hid (HM7.out.no hk8)
                clear hk8 HM7
                go_wp2_with fail
                refine (size_b 1 0 rfl HM8.out i64_1).mono ?_
                rintro e w9 ⟨rfl, hm9, _⟩
                have HB9 := Lib.hid hm9.below
                clear hm9 HM8
                go_wp2_with fail
                refine (awake_true _).mono ?_
                rintro e w10 ⟨rfl, hb10⟩
                have HB := Lib.hid (HB9.out.trans (hb10.mono HB9.out.size))
                clear hb10
                go_wp2_with fail
                go_returns
                exact ⟨rfl, HB.out⟩
end Go.Proofs.Ytjchfldlmabblaa
