/- shuffle.Order, walked. -/
import Derived.Test.YtheapamlhoogaaaMvShuf
namespace Go.Proofs.Ytheapamlhoogaaa
open Go.RowKit Go.Maps
set_option linter.unusedVariables false

theorem movs_at {w wr : World} {b off : Nat} {l : List Mv.Pr} {i : Nat} {t : Mv.Pr} (hb : Below w.heap.size w wr) (hc : ∀ i t, l[i]? = some t → w.cell? ⟨b, off + i * 2, none⟩ = some (.int .i64 t.1) ∧ w.cell? ⟨b, off + i * 2 + 1, none⟩ = some (.int .i64 t.2)) (ht : l[i]? = some t) :
    wr.cell? ⟨b, off + i * 2, none⟩ = some (.int .i64 t.1) ∧ wr.cell? ⟨b, off + i * 2 + 1, none⟩ = some (.int .i64 t.2) := by
  obtain ⟨c1, c2⟩ := hc i t ht
  exact ⟨(hb.cell (p := ⟨b, _, none⟩) (block_lt_of_cell c1)).trans c1, (hb.cell (p := ⟨b, _, none⟩) (block_lt_of_cell c2)).trans c2⟩
set_option maxRecDepth 100000 in
set_option maxHeartbeats 8000000 in
theorem shuf_any (a : Option Addr) (n cap : Nat) (l : List Mv.Pr) (sp : Int) (res : List Mv.Pr) (w : World) (hM : Movs w a n l) (hn : n ≤ 64) (hsp : I64 sp) (hres : Mv.shufM l sp = some res) :
    Calls Try.prog 16 #[.slice a n cap, .int .i64 sp] w fun e w' => ∃ v, e = .returned v ∧ w'.ownsRow w.heap.size 42 2 v res.length (mrow res) ∧ (∀ t ∈ res, I64 t.1 ∧ I64 t.2) ∧ res.length ≤ 10000 ∧ Below w.heap.size w w' := by
  have HR := Lib.hid hM
  have HS := Lib.hid hres
  have hmm := @run_makeMap Try.prog
  have M0 := Lib.hid (Mp.made w)
  clear hM hres
  go_enter Try.func16, Try.ntmps16
  go_wp2_with fail
  rw [show w.heap.size + 1 + 1 + 1 = w.heap.size + 3 from rfl, show w.heap.size + 1 + 1 = w.heap.size + 2 from rfl]
  go_loopg [23] n (fun g v wr => ∃ (i : Nat) (al rl : List Mv.Pr), v = .int .i64 (i : Int) ∧ i ≤ n ∧ g = n - i ∧ Hid (Mv.bldM l [] [] = Mv.bldM (l.drop i) al rl) ∧ al.length ≤ i ∧ rl.length ≤ i ∧ Hid (Mp w.heap.size w al rl wr))
  case atStart => exact ⟨0, [], [], rfl, Nat.zero_le _, rfl, Lib.hid rfl, Nat.zero_le _, Nat.zero_le _, M0⟩
  case round =>
    obtain ⟨i, al, rl, rfl, hi, hg, HX, ha, hr, HP⟩ := hrel
    clear M0
    by_cases hlt : i < n
    · have hlt' : (i : Int) < (n : Int) := by omega
      have i0 : (0 : Int) ≤ (i : Int) := by omega
      obtain ⟨b, off, rfl, hc⟩ := HR.out.at_ (by omega)
      obtain ⟨t, ht⟩ : ∃ t, l[i]? = some t := ⟨_, List.getElem?_eq_getElem (by rw [HR.out.len]; exact hlt)⟩
      obtain ⟨b1, b2⟩ := HR.out.bd t (List.mem_of_getElem? ht)
      obtain ⟨k1, k2⟩ := movs_at HP.out.below hc ht
      obtain ⟨T, S⟩ := t
      have HX2 : Hid (Mv.bldM l [] [] = if T = S then Mv.bldM (l.drop (i + 1)) al rl else Mv.bldM (l.drop (i + 1)) (Mv.aput al T S) (Mv.aput rl S (Mv.w64 ((Mv.aget rl S).getD 0 + 1)))) := Lib.hid (by rw [HX.out, drop_at ht]; rfl)
      simp only at b1 b2 k1 k2
      clear HX ht hc
      by_cases hTS : T = S
      · have HX3 : Hid (Mv.bldM l [] [] = Mv.bldM (l.drop (i + 1)) al rl) := Lib.hid (by rw [HX2.out, if_pos hTS])
        have HP2 := fun o => Lib.hid (HP.out.alloc o)
        clear HX2
        subst hTS
        go_wp2_with fail
        go_roundg (n - (i + 1))
        case rel => exact ⟨i + 1, _, _, by go_num, by omega, rfl, HX3, by omega, by omega, HP2 _⟩
        case measure => omega
      · have HX3 : Hid (Mv.bldM l [] [] = Mv.bldM (l.drop (i + 1)) (Mv.aput al T S) (Mv.aput rl S (Mv.w64 ((Mv.aget rl S).getD 0 + 1)))) := Lib.hid (by rw [HX2.out, if_neg hTS])
        have hTS1 : (T == S) = false := beq_eq_false_iff_ne.2 hTS
        have hTS2 : (T != S) = true := bne_iff_ne.2 hTS
        have P1 := HP.out.alloc (.cells #[.int .i64 T, .int .i64 S] 42)
        have m1 := heap_alloc_new wr (.cells #[.int .i64 T, .int .i64 S] 42)
        obtain ⟨W1, hW1⟩ : ∃ W1, wr.alloc (.cells #[.int .i64 T, .int .i64 S] 42) = W1 := ⟨_, rfl⟩
        rw [hW1] at P1 m1
        have hlq := HP.out.lt
        obtain ⟨q, hq⟩ : ∃ q, wr.heap.size = q := ⟨_, rfl⟩
        rw [hq] at m1 hlq
        have HP1 := Lib.hid P1
        obtain ⟨f1, f2⟩ := P1.facts
        have g1 : W1.cell? ⟨q, 0, none⟩ = some (.int .i64 T) := by simp [World.cell?, m1]
        have g2 : W1.cell? ⟨q, 1, none⟩ = some (.int .i64 S) := by simp [World.cell?, m1]
        clear HX2 P1
        go_wp2_with (at_mapUpdate; refine wpList_put _ rfl _ _ _ rfl w.heap.size al T S rfl HP1.out.mf (by unfold maxLen; omega) rfl rfl b1 b2 ?_)
        intro w2 hA2 hg2
        have P2 := HP1.out.putF hA2 hg2
        have m2 : w2.heap[q]? = some (.cells #[.int .i64 T, .int .i64 S] 42 (0, 0)) := (hg2.block q (by rw [← hW1, heap_two]; omega) (fun e => by injection e; omega)).trans m1
        have HP2 := Lib.hid P2
        obtain ⟨f3, f4⟩ := P2.facts
        have g4 : w2.cell? ⟨q, 1, none⟩ = some (.int .i64 S) := by simp [World.cell?, m2]
        have k3 := P2.mr.look b2
        obtain ⟨R, hR⟩ : ∃ R, (Mv.aget rl S).getD 0 = R := ⟨_, rfl⟩
        rw [hR] at k3 HX3
        have hW := w64_I64 (R + 1)
        have hW2 : IntKind.i64.wrap (R + 1) = Mv.w64 (R + 1) := rfl
        have hap := Mv.aput_le rl S (Mv.w64 (R + 1))
        have hap2 := Mv.aput_le al T S
        obtain ⟨Z, hZ⟩ : ∃ Z, Mv.w64 (R + 1) = Z := ⟨_, rfl⟩
        rw [hZ] at HX3 hW hW2 hap
        clear P2 hA2 hg2 hR hZ f1 f2 g1 g2 m1 m2 hW1 hq k1 k2
        go_wp2_with (at_mapUpdate; refine wpList_put _ rfl _ _ _ rfl (w.heap.size + 2) rl S Z rfl HP2.out.mr (by unfold maxLen; omega) rfl rfl b2 hW ?_)
        intro w3 hA3 hg3
        have HP3 := Lib.hid (HP2.out.putR hA3 hg3)
        clear hA3 hg3 f3 f4 g4 k3 hW2
        go_wp2_with fail
        go_roundg (n - (i + 1))
        case rel => exact ⟨i + 1, _, _, by go_num, by omega, rfl, HX3, by omega, by omega, HP3⟩
        case measure => omega
    · obtain rfl : i = n := by omega
      have hlt' : ¬ (i : Int) < (i : Int) := by omega
      have HX3 : Hid (Mv.bldM l [] [] = (al, rl)) := Lib.hid (by rw [HX.out, List.drop_of_length_le (by rw [HR.out.len]; exact Nat.le_refl _)]; rfl)
      have HS2 : Hid (Mv.ringsM l (Mv.drainAll l (al, rl, [])).1 (Mv.drainAll l (al, rl, [])).2.2 sp = some res) := Lib.hid (by have := HS.out; unfold Mv.shufM at this; rw [HX3.out] at this; exact this)
      have hmf : ∀ (fn : Fn) (first cap : Array Value) (w : World), (Instr.makeFunc fn first cap).run Try.prog w = .ok (.func fn first cap) w := fun _ _ _ _ => rfl
      have S0 := Lib.hid (HP.out.st)
      clear HX HX3 HS HP
      go_wp2_with fail
      clear hmf
      generalize hpo : wr.heap.size = po at S0 ⊢
      clear hpo
      go_loopg [46] i (fun g v wx => ∃ (j : Nat) (al' rl' ol' : List Mv.Pr) (v' : Value), v = .int .i64 (j : Int) ∧ j ≤ i ∧ g = i - j ∧ Hid (Mv.drainAll l (al, rl, []) = Mv.drainAll (l.drop j) (al', rl', ol')) ∧ rl'.length + al'.length ≤ 128 ∧ ol'.length + al'.length ≤ 128 ∧ al'.length ≤ 64 ∧ Hid (St w.heap.size w po v' al' rl' ol' wx))
      case atStart => exact ⟨0, al, rl, [], _, rfl, Nat.zero_le _, rfl, Lib.hid rfl, by omega, by simp; omega, by omega, S0⟩
      case round =>
        obtain ⟨j, al', rl', ol', v', rfl, hj, hgj, HD, d1, d2, d3, HS3⟩ := hrel
        clear S0
        by_cases hlj : j < i
        · have hlj' : (j : Int) < (i : Int) := by omega
          have j0 : (0 : Int) ≤ (j : Int) := by omega
          obtain ⟨b, off, rfl, hc⟩ := HR.out.at_ (by omega)
          obtain ⟨t, ht⟩ : ∃ t, l[j]? = some t := ⟨_, List.getElem?_eq_getElem (by rw [HR.out.len]; exact hlj)⟩
          obtain ⟨b1, b2⟩ := HR.out.bd t (List.mem_of_getElem? ht)
          obtain ⟨k1, k2⟩ := movs_at HS3.out.below hc ht
          obtain ⟨T, S⟩ := t
          obtain ⟨D, hD⟩ : ∃ D, Mv.drainM (al'.length + 1) al' rl' ol' T = D := ⟨_, rfl⟩
          have HD2 : Hid (Mv.drainAll l (al, rl, []) = Mv.drainAll (l.drop (j + 1)) D) := Lib.hid (by rw [HD.out, drop_at ht, ← hD]; rfl)
          have HDD := Lib.hid hD
          have HS4 := fun o => Lib.hid (HS3.out.alloc o)
          simp only at b1 b2 k1 k2
          clear HD ht hc hD
          go_wp2_with fail
          refine (drain_any w.heap.size po w v' al' rl' ol' T 128 b1 (by decide) d1 d2 _ (HS4 _).out D HDD).mono ?_
          rintro e w5 ⟨rfl, h1, h2, h3, v5, hS5⟩
          have HS5 := Lib.hid hS5
          clear hS5 HS4 k1 k2
          go_wp2_with fail
          go_roundg (i - (j + 1))
          case rel => exact ⟨j + 1, D.1, D.2.1, D.2.2, v5, by go_num, by omega, rfl, HD2, h1, h2, by omega, HS5⟩
          case measure => omega
        · obtain rfl : j = i := by omega
          have hlj' : ¬ (j : Int) < (j : Int) := by omega
          have HS6 : Hid (Mv.ringsM l al' ol' sp = some res) := Lib.hid (by have h := HS2.out; rw [HD.out, List.drop_of_length_le (by rw [HR.out.len]; exact Nat.le_refl _)] at h; exact h)
          clear HS2 HD
          go_wp2_with fail
          go_loopg [57] j (fun g v wx => ∃ (k : Nat) (al2 ol2 : List Mv.Pr) (v2 : Value), v = .int .i64 (k : Int) ∧ k ≤ j ∧ g = j - k ∧ Hid (Mv.ringsM (l.drop k) al2 ol2 sp = some res) ∧ ol2.length ≤ 128 + 66 * k ∧ Hid (St w.heap.size w po v2 al2 rl' ol2 wx))
          case atStart => exact ⟨0, al', ol', v', rfl, Nat.zero_le _, rfl, HS6, by omega, HS3⟩
          case round =>
            obtain ⟨k, al2, ol2, v2, rfl, hk, hgk, HG, hol, HS7⟩ := hrel
            clear HS6 HS3
            by_cases hlk : k < j
            · have hlk' : (k : Int) < (j : Int) := by omega
              have k0 : (0 : Int) ≤ (k : Int) := by omega
              obtain ⟨b, off, rfl, hc⟩ := HR.out.at_ (by omega)
              obtain ⟨t, ht⟩ : ∃ t, l[k]? = some t := ⟨_, List.getElem?_eq_getElem (by rw [HR.out.len]; exact hlk)⟩
              obtain ⟨b1, b2⟩ := HR.out.bd t (List.mem_of_getElem? ht)
              obtain ⟨k1, k2⟩ := movs_at HS7.out.below hc ht
              obtain ⟨T, S⟩ := t
              have HG2 := Lib.hid (HG.out.symm.trans (congrArg (fun x => Mv.ringsM x al2 ol2 sp) (drop_at ht)))
              have H8 := Lib.hid (HS7.out.withM T S)
              simp only at b1 b2 k1 k2
              obtain ⟨W1, hW1⟩ : ∃ W1, wr.alloc (.cells #[.int .i64 T, .int .i64 S] 42) = W1 := ⟨_, rfl⟩
              obtain ⟨q, hq⟩ : ∃ q, wr.heap.size = q := ⟨_, rfl⟩
              rw [hW1, hq] at H8
              obtain ⟨c1, c2, c3, c4⟩ := H8.out.s.facts
              obtain ⟨g1, g2⟩ := H8.out.facts
              have k3 := H8.out.s.mf.lookok b1
              have hlq := H8.out.lt
              have hls := H8.out.s.lt
              clear HG ht hc
              cases hA : Mv.aget al2 T with
              | none =>
                have HG3 : Hid (Mv.ringsM (l.drop (k + 1)) al2 ol2 sp = some res) := Lib.hid (by have h := HG2.out; rw [Mv.ringsM, hA] at h; exact h.symm)
                rw [hA] at k3
                simp only [Option.getD_none, Option.isSome_none] at k3
                clear HG2 hA
                go_wp2_with fail
                go_roundg (j - (k + 1))
                case rel => exact ⟨k + 1, al2, ol2, v2, by go_num, by omega, rfl, HG3, by omega, Lib.hid H8.out.s⟩
                case measure => omega
              | some x0 =>
                have hI : ∃ al9 ol9, Mv.innerM 65 al2 (ol2 ++ [(sp, T)]) T T sp = some (al9, ol9) ∧ Mv.ringsM (l.drop (k + 1)) al9 ol9 sp = some res := by
                  have h := HG2.out
                  rw [Mv.ringsM, hA] at h
                  simp only at h
                  cases hi : Mv.innerM 65 al2 (ol2 ++ [(sp, T)]) T T sp with
                  | none => rw [hi] at h; cases h
                  | some d => obtain ⟨al9, ol9⟩ := d; rw [hi] at h; exact ⟨al9, ol9, rfl, h.symm⟩
                obtain ⟨al9, ol9, hI1, hI2⟩ := hI
                have HI1 := Lib.hid hI1
                have HI2 := Lib.hid hI2
                rw [hA] at k3
                simp only [Option.getD_some, Option.isSome_some] at k3
                obtain ⟨a4, cap4, hv4⟩ := H8.out.s.form
                subst hv4
                clear HG2 hA hI1 hI2
                go_wp2_with (at_builtin; refine wpList_app1 _ rfl _ _ 41 42 rfl Try.underlying41 infoM (w.heap.size + 4) _ ol2.length ol2 sp T W1.heap.size rfl (H8.out.s.own.alloc _) rfl (heap_alloc_new _ _) (by omega) (by rw [heap_two]; omega) (W1.heap.size + 1) (heap_two _ _) ?_)
                intro g5 cap5 w5 hown hgrow hat
                obtain ⟨S5, x1, x2⟩ := H8.out.app (t := (sp, T)) hgrow hown ⟨hsp, b1⟩ hat
                have H9 := Lib.hid S5
                obtain ⟨c1, c2, c3, c4⟩ := S5.s.facts
                obtain ⟨g1, g2⟩ := S5.facts
                have hqn := S5.qp
                clear S5 hown hgrow hat hW1 hq k1 k2 k3
                go_wp2_with fail
                clear c1 c2 c3 c4 g1 g2 x1 x2
                go_loopg [17] 65 (fun g v wx => ∃ (al3 ol3 : List Mv.Pr) (v3 : Value) (to3 : Int), v = .int .i64 to3 ∧ I64 to3 ∧ Hid (Mv.innerM g al3 ol3 to3 T sp = some (al9, ol9)) ∧ ol3.length + g ≤ 128 + 66 * k + 66 ∧ Hid (StM w.heap.size w po v3 al3 rl' ol3 q T S wx))
                case atStart => exact ⟨al2, ol2 ++ [(sp, T)], _, T, rfl, b1, HI1, by rw [List.length_append]; simp; omega, H9⟩
                case round =>
                  obtain ⟨al3, ol3, v3, to3, rfl, ht3, HI3, hl3, H10⟩ := hrel
                  clear HI1 H9
                  obtain ⟨f3, rfl⟩ : ∃ f, gk = f + 1 := ⟨gk - 1, by
                    cases gk with
                    | zero => exact absurd HI3.out (by rw [Mv.innerM]; exact fun h => by cases h)
                    | succ f => rfl⟩
                  have HI4 := Lib.hid (HI3.out.symm.trans (show Mv.innerM (f3 + 1) al3 ol3 to3 T sp = if (Mv.aget al3 to3).getD 0 = T then some (Mv.adel al3 to3, ol3 ++ [(to3, sp)]) else Mv.innerM f3 (Mv.adel al3 to3) (ol3 ++ [(to3, (Mv.aget al3 to3).getD 0)]) ((Mv.aget al3 to3).getD 0) T sp from rfl))
                  obtain ⟨c1, c2, c3, c4⟩ := H10.out.s.facts
                  obtain ⟨g1, g2⟩ := H10.out.facts
                  have k3 := H10.out.s.mf.look ht3
                  have hX : I64 ((Mv.aget al3 to3).getD 0) := by
                    cases hq : Mv.aget al3 to3 with
                    | none => unfold I64; simp
                    | some z => exact H10.out.s.mf.bd to3 z hq
                  obtain ⟨X, hXe⟩ : ∃ X, (Mv.aget al3 to3).getD 0 = X := ⟨_, rfl⟩
                  rw [hXe] at HI4 k3 hX
                  clear HI3 hXe
                  go_wp2_with (at_delete; refine wpList_del _ rfl _ _ rfl w.heap.size al3 to3 rfl H10.out.s.mf rfl ht3 ?_)
                  intro w6 hA6 hg6
                  have S6 := H10.out.putF hA6 hg6
                  have H11 := Lib.hid S6
                  have hlq := S6.lt
                  have hls := S6.s.lt
                  obtain ⟨c1, c2, c3, c4⟩ := S6.s.facts
                  obtain ⟨g1, g2⟩ := S6.facts
                  obtain ⟨a4, cap4, hv4⟩ := S6.s.form
                  subst hv4
                  clear S6 hA6 hg6 k3
                  by_cases hXT : X = T
                  · have HI5 : Hid ((Mv.adel al3 to3, ol3 ++ [(to3, sp)]) = (al9, ol9)) := Lib.hid (by have h := HI4.out; rw [if_pos hXT] at h; injection h with h; exact h.symm)
                    subst hXT
                    clear HI4
                    go_wp2_with (at_builtin; refine wpList_app1 _ rfl _ _ 41 42 rfl Try.underlying41 infoM (w.heap.size + 4) _ ol3.length ol3 to3 sp w6.heap.size rfl (H11.out.s.own.alloc _) rfl (heap_alloc_new _ _) (by omega) (by rw [heap_two]; omega) (w6.heap.size + 1) (heap_two _ _) ?_)
                    intro g7 cap7 w7 hown hgrow hat
                    obtain ⟨S7, y1, y2⟩ := H11.out.app (t := (to3, sp)) hgrow hown ⟨ht3, hsp⟩ hat
                    have H12 := Lib.hid S7.s
                    clear S7 hown hgrow hat c1 c2 c3 c4 g1 g2
                    go_wp2_with fail
                    have e9 := HI5.out
                    injection e9 with e1 e2
                    go_roundg (j - (k + 1))
                    case rel => exact ⟨k + 1, al9, ol9, _, by go_num, by omega, rfl, HI2, by rw [← e2, List.length_append]; simp; omega, by rw [← e1, ← e2]; exact H12⟩
                    case measure => omega
                  · have HI5 : Hid (Mv.innerM f3 (Mv.adel al3 to3) (ol3 ++ [(to3, X)]) X T sp = some (al9, ol9)) := Lib.hid (by have h := HI4.out; rw [if_neg hXT] at h; exact h.symm)
                    have hX1 : (X == T) = false := beq_eq_false_iff_ne.2 hXT
                    clear HI4
                    go_wp2_with (at_builtin; refine wpList_app1 _ rfl _ _ 41 42 rfl Try.underlying41 infoM (w.heap.size + 4) _ ol3.length ol3 to3 X w6.heap.size rfl (H11.out.s.own.alloc _) rfl (heap_alloc_new _ _) (by omega) (by rw [heap_two]; omega) (w6.heap.size + 1) (heap_two _ _) ?_)
                    intro g7 cap7 w7 hown hgrow hat
                    obtain ⟨S7, y1, y2⟩ := H11.out.app (t := (to3, X)) hgrow hown ⟨ht3, hX⟩ hat
                    have H12 := Lib.hid S7
                    clear S7 hown hgrow hat c1 c2 c3 c4 g1 g2
                    go_wp2_with fail
                    go_roundg f3
                    case rel => exact ⟨_, _, _, X, rfl, hX, HI5, by rw [List.length_append]; simp; omega, H12⟩
                    case measure => omega
            · obtain rfl : k = j := by omega
              have hlk' : ¬ (k : Int) < (k : Int) := by omega
              have hres : ol2 = res := by
                have h := HG.out
                rw [List.drop_of_length_le (by rw [HR.out.len]; exact Nat.le_refl _)] at h
                injection h
              subst hres
              obtain ⟨c1, c2, c3, c4⟩ := HS7.out.facts
              clear HG
              go_wp2_with fail
              go_returns
              exact ⟨v2, rfl, World.ownsRow.mono HS7.out.own (by omega), (fun a b h => HS7.out.obd (a, b) h), by omega, HS7.out.below⟩
end Go.Proofs.Ytheapamlhoogaaa
