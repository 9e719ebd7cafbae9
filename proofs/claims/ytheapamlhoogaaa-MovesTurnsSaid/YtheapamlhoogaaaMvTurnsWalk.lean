/- The law MovesTurns, walked. -/
import Derived.Test.YtheapamlhoogaaaMvLow
import Derived.Test.YtheapamlhoogaaaMvTurnsM
import Derived.BigQuiet
import Derived.Deep.QuietTactic
import Derived.StillTailTactics
import Derived.Deep.DeepCutAuto
namespace Go.Proofs.Ytheapamlhoogaaa
open Go.RowKit Go.Maps
set_option linter.unusedVariables false

theorem Arr.set {P a : Nat} {f f' : Nat → Int} {wr : World} {v : Int} (h : Arr P f wr) (hf : ∀ i < 31, f' i = if i = a then v else f i) (ha : a < 31) : Arr P f' (wr.setCell ⟨P, a, none⟩ (.int .i64 v)) := by
  refine ⟨by simp [World.setCell]; exact h.lt, fun i hi => ?_, fun i => ?_⟩
  · rw [hf i hi]
    by_cases e : i = a
    · subst e; rw [if_pos rfl]; exact World.cell?_setCell_same _ _ _ (h.c i hi)
    · rw [if_neg e, World.cell?_setCell_other _ _ _ _ (fun e' => e (by injection e' with _ e' _; exact e'.symm))]; exact h.c i hi
  · rw [World.frozen?_setCell]; exact h.fr i
theorem Arr.drew {P : Nat} {f : Nat → Int} {wr : World} (h : Arr P f wr) : Arr P f wr.drew := ⟨h.lt, h.c, h.fr⟩
theorem Arr.drewN {P : Nat} {f : Nat → Int} {wr : World} (h : Arr P f wr) (n : Nat) : Arr P f (wr.drewN n) := ⟨h.lt, h.c, h.fr⟩
theorem below_drewN {B : Nat} {a w : World} (h : Below B a w) (n : Nat) : Below B a (w.drewN n) := ⟨h.os, h.tape, h.output, h.size, h.block⟩
theorem arr_of (w : World) (cur : Array Value) (T : TypeId) (hc : ∀ i < 31, cur[i]? = some (.int .i64 0)) : Arr w.heap.size (fun _ => 0) (w.alloc (.cells cur T)) := by
  have h := heap_alloc_new w (.cells cur T)
  refine ⟨by rw [heap_two]; exact Nat.lt_succ_self _, fun i hi => ?_, fun i => ?_⟩
  · rw [World.cell?_alloc_at _ _ _ _ rfl]; exact hc i hi
  · simp only [World.frozen?, h]; simp
theorem rep_at (n : Nat) (v : Value) (i : Nat) (hi : i < n) : (List.replicate n v).toArray[i]? = some v := by simp [hi]
theorem arr_made (w : World) : Arr w.heap.size (fun _ => 0) (w.alloc (.cells (List.replicate 31 (.int .i64 0)).toArray 40)) := arr_of w _ _ (fun i hi => rep_at 31 _ i hi)
set_option maxRecDepth 100000 in
set_option maxHeartbeats 8000000 in
theorem movesTurns_walk (many by_ : Int) (wm : (Lit.int .i64 many).wf = true) (wb : (Lit.int .i64 by_).wf = true) (w : World) : Calls Try.prog 5 #[.int .i64 many, .int .i64 by_] w fun e w' => e = .returned (.bool true) ∧ Below w.heap.size w w' := by
  have hm := wf_I64 wm
  have hb := wf_I64 wb
  obtain ⟨k, hk, hkz⟩ := low_nat many 24 hm (by decide)
  have HK := Lib.hid hkz
  have hk24 : k < 24 := by omega
  obtain ⟨u, hu, huz⟩ := low_nat by_ ((k + 1 : Nat) : Int) hb (by omega)
  have HU := Lib.hid huz
  have hu2 : u < k + 1 := by omega
  clear hkz huz wm wb hu hk
  obtain ⟨r, hr1, hr2, hr3, hr4, hr5⟩ := turns_one hk24 hu2
  obtain ⟨M, hM⟩ : ∃ M, k + 1 = M := ⟨_, rfl⟩
  have hk2 : (1 : Int) + (k : Int) = (M : Int) := by omega
  rw [hM] at HU hu2 hr1 hr3 hr5
  have hM24 : M ≤ 24 := by omega
  have hM0 : 0 < M := by omega
  have HR1 := Lib.hid hr1
  have HR2 := Lib.hid hr2
  have HR5 := Lib.hid hr5
  obtain ⟨N, hN⟩ : ∃ N, r.length = N := ⟨_, rfl⟩
  have HN := Lib.hid hN
  rw [hN] at hr3 hr4
  clear hr1 hr2 hr5 hN
  go_enter Try.func5, Try.ntmps5
  go_wp2_with fail
  refine (low_as many 24 _ hm (by decide) HK _).mono ?_
  rintro e w1 ⟨rfl, rfl⟩
  go_wp2_with fail
  refine (low_as by_ (M : Int) (u : Int) hb (by omega) HU _).mono ?_
  rintro e w1 ⟨rfl, rfl⟩
  go_wp2_with fail
  clear HK HU hk2 hM hk24
  go_loopg [5, 6] M (fun g x v wr => ∃ i : Nat, v = .int .i64 (i : Int) ∧ i ≤ M ∧ g = M - i ∧ Hid (wr.ownsRow w.heap.size 32 2 x i (mrow (turnP M u i))) ∧ Hid (Below w.heap.size w wr))
  case atStart => exact ⟨0, rfl, Nat.zero_le _, rfl, Lib.hid (World.ownsRow_nil _ _ _ _), Lib.hid (Below.refl _ _)⟩
  case round =>
    obtain ⟨i, rfl, hi, hg, HO, HB⟩ := hrel
    by_cases hlt : i < M
    · have hlt' : (i : Int) < (M : Int) := by omega
      have hsz := HB.out.size
      have HNE : Hid (∀ q, u5.ownBlock = some q → w.heap.size ≤ q) := Lib.hid (fun q e => (HO.out.lt q e).1)
      obtain ⟨aa, ca, hv5, _⟩ := own_form HO.out
      subst hv5
      have hmd : Int.tmod ((i : Int) + (u : Int)) (M : Int) = (((i + u) % M : Nat) : Int) := by
        have := Int.ofNat_tmod (i + u) M
        push_cast at this ⊢
        exact this.symm
      obtain ⟨s, hs⟩ : ∃ s : Nat, (i + u) % M = s := ⟨_, rfl⟩
      rw [hs] at hmd
      have HS := Lib.hid hs
      have hMne : ¬ (M : Int) = 0 := by omega
      clear hs
      go_wp2_with (at_builtin; refine wpList_app1 _ rfl _ _ 22 32 rfl Try.underlying22 infoV w.heap.size _ i (turnP M u i) (i : Int) (s : Int) wr.heap.size rfl (HO.out.alloc _) rfl (heap_alloc_new _ _) (by omega) (by rw [heap_two]; omega) (wr.heap.size + 1) (heap_two _ _) ?_)
      intro g5 cap5 w5 hown hgrow _
      have HOW : Hid (w5.ownsRow w.heap.size 32 2 (.slice (some ⟨g5, 0, none⟩) (i + 1) cap5) (i + 1) (mrow (turnP M u (i + 1)))) := Lib.hid (by rw [turnP_succ, mrow_snoc, HS.out]; exact hown)
      have HBW : Hid (Below w.heap.size w w5) := Lib.hid ((HB.out.alloc (by omega) _).grown hgrow (by rw [heap_two]; omega) HNE.out)
      clear hown hgrow hmd
      go_wp2_with fail
      go_roundg (M - (i + 1))
      case rel => exact ⟨i + 1, by go_num, by omega, rfl, HOW, HBW⟩
      case measure => omega
    · obtain rfl : i = M := by omega
      have hlt' : ¬ (i : Int) < (i : Int) := by omega
      have h30 : I64 30 := by unfold I64; decide
      obtain ⟨aa, ca, hv5, _⟩ := own_form HO.out
      subst hv5
      have HMV : Hid (Movs wr aa i (turnP i u i)) := Lib.hid (Movs.of_row HO.out (turnP_len _ _ _) (turnP_bd _ _ _ (by omega) (by omega) (by omega)))
      go_wp2_with fail
      refine (order_as aa i ca (turnP i u i) 30 r true N wr HMV.out (by omega) h30 HR1.out HN.out).mono ?_
      rintro e w1 ⟨a1, c1, rfl, ho1, hb1⟩
      obtain ⟨a1', c1', he1, h01⟩ := own_form ho1
      injection he1 with e1 e2 e3
      subst e1 e3
      have H01 := Lib.hid h01
      have HO1 := Lib.hid ho1
      have HB1 : Hid (Below w.heap.size w w1) := Lib.hid (HB.out.trans (hb1.mono HB.out.size))
      have hr3' : ¬ (2 * (i : Int) < (N : Int)) := by omega
      clear ho1 hb1 HMV e2 h01 HR1
      go_upto_region 9 with fail
      go_cut [57] (fun v wx => v = .bool false ∧ w1 = wx)
      case first =>
        by_cases hu0 : u = 0
        · obtain rfl : N = 0 := hr4 hu0
          subst hu0
          go_wp2_with fail
          go_meet
          all_goals exact ⟨congrArg Value.bool (decide_eq_false (by omega)), rfl⟩
        · have hu0' : ((u : Int) == 0) = false := beq_eq_false_iff_ne.2 (by omega)
          go_wp2_with fail
          go_meet
          all_goals exact ⟨congrArg Value.bool (decide_eq_false (by omega)), rfl⟩
      case rest =>
        obtain ⟨rfl, rfl⟩ := hcut
        have hs1 := HB1.out.size
        have A0 := arr_made w1
        have HA0 := Lib.hid A0
        have HBA := Lib.hid (HB1.out.alloc hs1 (.cells (List.replicate 31 (.int .i64 0)).toArray 40))
        have HBQ := Lib.hid ((Below.refl w1.heap.size w1).alloc (Nat.le_refl _) (.cells (List.replicate 31 (.int .i64 0)).toArray 40))
        obtain ⟨P, hP⟩ : ∃ P, w1.heap.size = P := ⟨_, rfl⟩
        clear A0
        go_wp2_with fail
        rw [hP] at HA0 HBQ
        go_loopg [10] 31 (fun g v wx => ∃ (j : Nat) (f : Nat → Int), v = .int .i64 (j : Int) ∧ j ≤ 31 ∧ g = 31 - j ∧ Hid (∀ x, f x = if x < j then (x : Int) else 0) ∧ Hid (Arr P f wx) ∧ Hid (Below P w1 wx))
        case atStart => exact ⟨0, fun _ => 0, rfl, by decide, rfl, Lib.hid (fun x => by rw [if_neg (by omega)]), HA0, HBQ⟩
        case round =>
          obtain ⟨j, f, rfl, hj, hgj, HF, HA, HX⟩ := hrel
          clear HA0 HBQ
          by_cases hlj : j < 31
          · have hlj' : (j : Int) < 31 := by omega
            have j0 : (0 : Int) ≤ (j : Int) := by omega
            have k1 := HA.out.c j hlj
            have k2 := HA.out.fr j
            go_wp2_with fail
            go_roundg (31 - (j + 1))
            case rel =>
              refine ⟨j + 1, fun x => if x < j + 1 then (x : Int) else 0, by go_num, by omega, rfl, Lib.hid (fun x => rfl), Lib.hid (HA.out.set (fun x hx => ?_) hlj), Lib.hid (HX.out.setCell (Nat.le_refl _) _)⟩
              rw [HF.out x]
              by_cases e : x = j
              · subst e; rw [if_pos (by omega), if_pos rfl]
              · rw [if_neg e]
                by_cases e2 : x < j
                · rw [if_pos (by omega), if_pos e2]
                · rw [if_neg (by omega), if_neg e2]
            case measure => omega
          · obtain rfl : j = 31 := by omega
            have HPP := Lib.hid hP
            clear hP
            go_wp2_with fail
            go_loopg [11] (i + 1) (fun g v wx => ∃ (s : Nat) (f : Nat → Int), v = .int .i64 ((s : Int) + 1) ∧ s ≤ i ∧ g = i + 1 - s ∧ Hid (∀ x < i, f x = (((x + s * u) % i : Nat) : Int)) ∧ Hid (Arr P f wx) ∧ Hid (Below P w1 wx))
            case atStart =>
              refine ⟨0, f, rfl, by omega, rfl, Lib.hid (fun x hx => ?_), HA, HX⟩
              rw [HF.out x, if_pos (by omega), Nat.zero_mul, Nat.add_zero, Nat.mod_eq_of_lt hx]
            case round =>
              clear HF HA HX hj hgj hlj
              obtain ⟨s, f, rfl, hs, hgs, HF, HA, HX⟩ := hrel
              by_cases hls : s + 1 ≤ i
              · have hls' : (s : Int) + 1 ≤ (i : Int) := by omega
                go_wp2_with fail
                go_loopg [12] N (fun g v wx => ∃ (j : Nat) (f' : Nat → Int), v = .int .i64 (j : Int) ∧ j ≤ N ∧ g = N - j ∧ Hid (∀ x, f' x = app (r.take j) f x) ∧ Hid (Arr P f' wx) ∧ Hid (Below P w1 wx))
                case atStart => exact ⟨0, f, rfl, Nat.zero_le _, rfl, Lib.hid (fun x => rfl), HA, HX⟩
                case round =>
                  obtain ⟨j, f', rfl, hj, hgj, HF', HA', HX'⟩ := hrel
                  clear HA HX
                  by_cases hlj : j < N
                  · have hlj' : (j : Int) < (N : Int) := by omega
                    have j0 : (0 : Int) ≤ (j : Int) := by omega
                    obtain ⟨ga, rfl⟩ := H01.out (by omega)
                    obtain ⟨t, ht⟩ : ∃ t, r[j]? = some t := ⟨_, List.getElem?_eq_getElem (by rw [HN.out]; exact hlj)⟩
                    obtain ⟨b1, b2, b3, b4⟩ := HR2.out t (List.mem_of_getElem? ht)
                    have hown3 := own_to HO1.out (HPP.out ▸ HX'.out)
                    obtain ⟨r1, r2⟩ := mrow_get r j t ht
                    have k1 := (hown3.cellAt (j * 2) (by omega)).trans r1
                    have k2 := (hown3.cellAt (j * 2 + 1) (by omega)).trans r2
                    obtain ⟨T, hT⟩ : ∃ T : Nat, t.1 = (T : Int) := ⟨t.1.toNat, by omega⟩
                    obtain ⟨S, hS⟩ : ∃ S : Nat, t.2 = (S : Int) := ⟨t.2.toNat, by omega⟩
                    have HST : Hid (∀ x, app (r.take (j + 1)) f x = if x = T then app (r.take j) f S else app (r.take j) f x) := Lib.hid (fun x => by
                      rw [List.take_add_one, ht]
                      show app (r.take j ++ [t]) f x = _
                      rw [app_snoc]; unfold app1; rw [hT, hS]; rfl)
                    rw [hT] at k1 b1 b2
                    rw [hS] at k2 b3 b4
                    have hT30 : T < 31 := by omega
                    have hS30 : S < 31 := by omega
                    have k3 := HA'.out.c S hS30
                    have k4 := HA'.out.fr T
                    have k5 := HA'.out.c T hT30
                    obtain ⟨V, hV⟩ : ∃ V, f' S = V := ⟨_, rfl⟩
                    rw [hV] at k3
                    have HV := Lib.hid hV
                    clear hown3 r1 r2 ht hT hS hV
                    go_wp2_with fail
                    have hT31 : (T : Int) < 31 := by omega
                    have hS31 : (S : Int) < 31 := by omega
                    go_still_tail 13, (by kernel_rfl)
                    repeat still_step
                    try refine wpStill_nil ?_
                    change wpList _ _ _ _ _ wr.drew
                    go_wp2_with fail
                    go_roundg (N - (j + 1))
                    case rel =>
                      refine ⟨j + 1, app (r.take (j + 1)) f, by go_num, by omega, rfl, Lib.hid (fun x => rfl), Lib.hid (HA'.out.drew.set (fun x hx => ?_) hT30), Lib.hid (HX'.out.drew.setCell (Nat.le_refl _) _)⟩
                      rw [HST.out x, ← HF'.out S, HV.out, HF'.out x]
                    case measure => omega
                  · obtain rfl : j = N := by omega
                    have hlj' : ¬ (j : Int) < (j : Int) := by omega
                    obtain ⟨p, hp⟩ : ∃ p : Nat, (s + 1) * u = p := ⟨_, rfl⟩
                    have hp6 : p ≤ 576 := by
                      rw [← hp]
                      have := Nat.mul_le_mul (show s + 1 ≤ 24 by omega) (show u ≤ 24 by omega)
                      omega
                    have hpp : ((s : Int) + 1) * (u : Int) = (p : Int) := by rw [← hp]; push_cast; rfl
                    have HF2 : Hid (∀ x < i, f' x = (((x + p) % i : Nat) : Int)) := Lib.hid (fun x hx => by
                      have h := HF'.out x
                      rw [List.take_of_length_le (by rw [HN.out]; exact Nat.le_refl _)] at h
                      rw [h, ← hp]
                      exact rounds_done hM0 HR5.out f s HF.out x hx)
                    have HPX := Lib.hid hp
                    clear hp HF'
                    go_wp2_with fail
                    go_loopg [13] i (fun g v wx => ∃ x n : Nat, v = .int .i64 (x : Int) ∧ x ≤ i ∧ g = i - x ∧ wr.drewN n = wx)
                    case atStart => exact ⟨0, 0, rfl, Nat.zero_le _, rfl, rfl⟩
                    case round =>
                      obtain ⟨x, m, rfl, hx, hgx, rfl⟩ := hrel
                      by_cases hlx : x < i
                      · have hlx' : (x : Int) < (i : Int) := by omega
                        have x0 : (0 : Int) ≤ (x : Int) := by omega
                        have x30 : (x : Int) < 31 := by omega
                        have k1 := HA'.out.c x (by omega)
                        rw [HF2.out x hlx] at k1
                        have hmd : Int.tmod ((x : Int) + (p : Int)) (i : Int) = (((x + p) % i : Nat) : Int) := by
                          have := Int.ofNat_tmod (x + p) i
                          push_cast at this ⊢
                          exact this.symm
                        obtain ⟨V, hV⟩ : ∃ V : Nat, (x + p) % i = V := ⟨_, rfl⟩
                        rw [hV] at hmd k1
                        have hine : ¬ (i : Int) = 0 := by omega
                        clear hV
                        go_wp2_with fail
                        go_quiet (fail)
                        go_wp2_with fail
                        go_roundg (i - (x + 1))
                        case rel => exact ⟨x + 1, _, by go_num, by omega, rfl, rfl⟩
                        case measure => omega
                      · obtain rfl : x = i := by omega
                        have hlx' : ¬ (x : Int) < (x : Int) := by omega
                        go_wp2_with fail
                        go_roundg (x + 1 - (s + 1))
                        case rel => exact ⟨s + 1, f', by go_num, by omega, by omega, Lib.hid (fun y hy => by rw [HPX.out]; exact HF2.out y hy), Lib.hid (HA'.out.drewN m), Lib.hid (below_drewN HX'.out m)⟩
                        case measure => omega
              · obtain rfl : s = i := by omega
                have hls' : ¬ (s : Int) + 1 ≤ (s : Int) := by omega
                go_wp2_with fail
                refine (awake_true _).mono ?_
                rintro e w7 ⟨rfl, hb7⟩
                have HB7 := Lib.hid hb7
                clear hb7
                go_wp2_with fail
                go_returns
                have t5 := HB1.out.size
                have t6 := HX.out.size
                have hp := HPP.out
                refine ⟨rb rfl rfl, (HB1.out.trans ((HPP.out ▸ HX.out : Below w1.heap.size w1 wr).mono t5)).trans (HB7.out.mono (by omega))⟩
end Go.Proofs.Ytheapamlhoogaaa
