/- The law IrWords: walked. -/
import Derived.Test.YtbfjmhfhhlncjaaDoorIrWordsD
import Derived.Test.YtbfjmhfhhlncjaaDoorIrAwake
import Derived.Test.YtbfjmhfhhlncjaaDoorWordLow
import Derived.Test.YtbfjmhfhhlncjaaDoorFr
import Derived.Deep.CutBlock
import Derived.Deep.DeepCutAuto
namespace Go.Proofs.YtbfjmhfhhlncjaaDoor
open Go.RowKit
set_option linter.unusedVariables false
set_option linter.unusedSimpArgs false
set_option maxRecDepth 100000 in
theorem eta157 (l : List Value) (h : l.length = 157) : ∃ f : Nat → Value, l = [f 0, f 1, f 2, f 3, f 4, f 5, f 6, f 7, f 8, f 9, f 10, f 11, f 12, f 13, f 14, f 15, f 16, f 17, f 18, f 19, f 20, f 21, f 22, f 23, f 24, f 25, f 26, f 27, f 28, f 29, f 30, f 31, f 32, f 33, f 34, f 35, f 36, f 37, f 38, f 39, f 40, f 41, f 42, f 43, f 44, f 45, f 46, f 47, f 48, f 49, f 50, f 51, f 52, f 53, f 54, f 55, f 56, f 57, f 58, f 59, f 60, f 61, f 62, f 63, f 64, f 65, f 66, f 67, f 68, f 69, f 70, f 71, f 72, f 73, f 74, f 75, f 76, f 77, f 78, f 79, f 80, f 81, f 82, f 83, f 84, f 85, f 86, f 87, f 88, f 89, f 90, f 91, f 92, f 93, f 94, f 95, f 96, f 97, f 98, f 99, f 100, f 101, f 102, f 103, f 104, f 105, f 106, f 107, f 108, f 109, f 110, f 111, f 112, f 113, f 114, f 115, f 116, f 117, f 118, f 119, f 120, f 121, f 122, f 123, f 124, f 125, f 126, f 127, f 128, f 129, f 130, f 131, f 132, f 133, f 134, f 135, f 136, f 137, f 138, f 139, f 140, f 141, f 142, f 143, f 144, f 145, f 146, f 147, f 148, f 149, f 150, f 151, f 152, f 153, f 154, f 155, f 156] := by
  refine ⟨fun k => l.getD k undef, ?_⟩
  have e := list_eta l
  rw [h] at e
  exact e.trans (by kernel_rfl)
set_option maxRecDepth 100000 in
theorem frW (c0 c1 c6 c9 c10 c11 : Value) (a : Act) (h : Fr 157 [(0, c0), (1, c1), (6, c6), (9, c9), (10, c10), (11, c11)] a) : ∃ f : Nat → Value, a = ⟨#[c0, c1, f 2, f 3, f 4, f 5, c6, f 7, f 8, c9, c10, c11, f 12, f 13, f 14, f 15, f 16, f 17, f 18, f 19, f 20, f 21, f 22, f 23, f 24, f 25, f 26, f 27, f 28, f 29, f 30, f 31, f 32, f 33, f 34, f 35, f 36, f 37, f 38, f 39, f 40, f 41, f 42, f 43, f 44, f 45, f 46, f 47, f 48, f 49, f 50, f 51, f 52, f 53, f 54, f 55, f 56, f 57, f 58, f 59, f 60, f 61, f 62, f 63, f 64, f 65, f 66, f 67, f 68, f 69, f 70, f 71, f 72, f 73, f 74, f 75, f 76, f 77, f 78, f 79, f 80, f 81, f 82, f 83, f 84, f 85, f 86, f 87, f 88, f 89, f 90, f 91, f 92, f 93, f 94, f 95, f 96, f 97, f 98, f 99, f 100, f 101, f 102, f 103, f 104, f 105, f 106, f 107, f 108, f 109, f 110, f 111, f 112, f 113, f 114, f 115, f 116, f 117, f 118, f 119, f 120, f 121, f 122, f 123, f 124, f 125, f 126, f 127, f 128, f 129, f 130, f 131, f 132, f 133, f 134, f 135, f 136, f 137, f 138, f 139, f 140, f 141, f 142, f 143, f 144, f 145, f 146, f 147, f 148, f 149, f 150, f 151, f 152, f 153, f 154, f 155, f 156], []⟩ := by
  obtain ⟨l, hl, h, rfl⟩ := h
  obtain ⟨f, rfl⟩ := eta157 l hl
  obtain ⟨e0, e1, e6, e9, e10, e11, _⟩ := h
  cases (show f 0 = c0 from Option.some.inj e0)
  cases (show f 1 = c1 from Option.some.inj e1)
  cases (show f 6 = c6 from Option.some.inj e6)
  cases (show f 9 = c9 from Option.some.inj e9)
  cases (show f 10 = c10 from Option.some.inj e10)
  cases (show f 11 = c11 from Option.some.inj e11)
  exact ⟨f, rfl⟩
set_option maxRecDepth 100000 in
theorem frL (c6 c9 c10 c12 c13 c14 : Value) (a : Act) (h : Fr 157 [(6, c6), (9, c9), (10, c10), (12, c12), (13, c13), (14, c14)] a) : ∃ f : Nat → Value, a = ⟨#[f 0, f 1, f 2, f 3, f 4, f 5, c6, f 7, f 8, c9, c10, f 11, c12, c13, c14, f 15, f 16, f 17, f 18, f 19, f 20, f 21, f 22, f 23, f 24, f 25, f 26, f 27, f 28, f 29, f 30, f 31, f 32, f 33, f 34, f 35, f 36, f 37, f 38, f 39, f 40, f 41, f 42, f 43, f 44, f 45, f 46, f 47, f 48, f 49, f 50, f 51, f 52, f 53, f 54, f 55, f 56, f 57, f 58, f 59, f 60, f 61, f 62, f 63, f 64, f 65, f 66, f 67, f 68, f 69, f 70, f 71, f 72, f 73, f 74, f 75, f 76, f 77, f 78, f 79, f 80, f 81, f 82, f 83, f 84, f 85, f 86, f 87, f 88, f 89, f 90, f 91, f 92, f 93, f 94, f 95, f 96, f 97, f 98, f 99, f 100, f 101, f 102, f 103, f 104, f 105, f 106, f 107, f 108, f 109, f 110, f 111, f 112, f 113, f 114, f 115, f 116, f 117, f 118, f 119, f 120, f 121, f 122, f 123, f 124, f 125, f 126, f 127, f 128, f 129, f 130, f 131, f 132, f 133, f 134, f 135, f 136, f 137, f 138, f 139, f 140, f 141, f 142, f 143, f 144, f 145, f 146, f 147, f 148, f 149, f 150, f 151, f 152, f 153, f 154, f 155, f 156], []⟩ := by
  obtain ⟨l, hl, h, rfl⟩ := h
  obtain ⟨f, rfl⟩ := eta157 l hl
  obtain ⟨e6, e9, e10, e12, e13, e14, _⟩ := h
  cases (show f 6 = c6 from Option.some.inj e6)
  cases (show f 9 = c9 from Option.some.inj e9)
  cases (show f 10 = c10 from Option.some.inj e10)
  cases (show f 12 = c12 from Option.some.inj e12)
  cases (show f 13 = c13 from Option.some.inj e13)
  cases (show f 14 = c14 from Option.some.inj e14)
  exact ⟨f, rfl⟩
theorem cutW {l : List Value} {wx : World} {c0 c1 c6 c9 c10 c11 : Value} (e0 : l[0]? = some c0) (e1 : l[1]? = some c1) (e6 : l[6]? = some c6) (e9 : l[9]? = some c9) (e10 : l[10]? = some c10) (e11 : l[11]? = some c11) (hl : l.length = 157) :
    Fr 157 [(0, c0), (1, c1), (6, c6), (9, c9), (10, c10), (11, c11)] ⟨l.toArray, []⟩ ∧ wx = wx := ⟨⟨l, hl, ⟨e0, e1, e6, e9, e10, e11, trivial⟩, rfl⟩, rfl⟩
set_option maxRecDepth 100000 in
set_option maxHeartbeats 12800000 in
theorem words_walk (a b which : Int) (ha : I64 a) (hb : I64 b) (hw : I64 which) (w : World) (L : Laid w) : Calls Tryd.prog 5 #[.int .i64 a, .int .i64 b, .int .i64 which] w fun e w' => e = .returned (.bool true) ∧ Keeps No w w' := by
  have HL := Lib.hid L
  have HA := Lib.hid (And.intro ha (And.intro hb hw))
  clear L ha hb hw
  obtain ⟨K, hK⟩ : ∃ K, IntKind.u64.wrap which % 10 = K := ⟨_, rfl⟩
  have hK1 : 0 ≤ K ∧ K < 10 := by rw [← hK]; exact ⟨Int.emod_nonneg _ (by decide), Int.emod_lt_of_pos _ (by decide)⟩
  have HK := Lib.hid hK
  clear hK
  go_enter Tryd.func5, Tryd.ntmps5
  go_wp2_with fail
  refine (low_as which 10 K HA.out.2.2 (by decide) HK _).mono ?_
  rintro e w1 ⟨rfl, rfl⟩
  go_upto_block 0 with fail
  refine wp_cut (fun a' wx => Fr 157 [(0, .int .i64 a), (1, .int .i64 b), (6, .bool false), (9, .bool (Wd.plainOk (1 + K) a b)), (10, .int .i64 (Wd.plainV (1 + K) a b)), (11, .int .i64 (1 + K))] a' ∧ wx = w) ?_ ?_
  · rintro a' wx ⟨hF, rfl⟩
    obtain ⟨f, rfl⟩ := frW _ _ _ _ _ _ _ hF
    clear hF
    obtain ⟨S, hS⟩ : ∃ S, 1 + K = S := ⟨_, rfl⟩
    rw [hS]
    have hS1 : 1 ≤ S ∧ S ≤ 10 := by omega
    obtain ⟨OK, hOK⟩ : ∃ O, Wd.plainOk S a b = O := ⟨_, rfl⟩
    obtain ⟨n, hn⟩ : ∃ O, Wd.plainV S a b = O := ⟨_, rfl⟩
    have HNI : Hid (I64 n) := Lib.hid (by rw [← hn]; exact plainV_I64 S a b hS1 HA.out.1 HA.out.2.1)
    rw [hOK, hn]
    have HOK := Lib.hid hOK
    have HN := Lib.hid hn
    have HS := Lib.hid hS1
    clear hOK hn hS1 hS HK hK1
    go_wp2_with fail
    refine wp_loop_ghost_k (fun g a' wo => ∃ (i : Nat) (v12 v13 : Value), Fr 157 [(6, .bool false), (9, .bool OK), (10, .int .i64 n), (12, v12), (13, v13), (14, .int .i64 (i : Int))] a' ∧ i ≤ 8 ∧ g = 8 - i ∧ Hid (wo.ownsRow wx.heap.size 27 11 v12 (4 + 2 * i) (icells (whead a b S ++ wpairs i))) ∧ Hid (wo.ownsRow wx.heap.size 5 1 v13 i (brow (bytes8 n i))) ∧ Hid (Keeps No wx wo)) 8 ?_ ?_
    · exact ⟨0, _, _, ⟨_, rfl, ⟨rfl, rfl, rfl, rfl, rfl, rfl, trivial⟩, rfl⟩, Nat.zero_le _, rfl, Lib.hid (own_lit (alloc_at _ _ _ rfl) (Nat.le_refl _) rfl (by unfold maxLen; omega)), Lib.hid (World.ownsRow_nil _ _ _ _), Lib.hid ((Keeps.refl _ _).alloc _)⟩
    · rintro g a' wo ⟨i, v12, v13, hF, hi, hg, HOX, HOB, HKO⟩ J K3 hJ hK
      obtain ⟨f2, rfl⟩ := frL _ _ _ _ _ _ _ hF
      clear hF
      by_cases hlt : i < 8
      · have hlt' : (i : Int) < 8 := by omega
        have i0 : (0 : Int) ≤ (i : Int) := by omega
        go_wp2_with (at_builtin; refine wpList_appX _ rfl (.tmp 111) (.tmp 114) 43 rfl Tryd.underlying43 wx.heap.size v12 (4 + 2 * i) _ [xo 2, xb 12 2 2 3] 2 wo.heap.size rfl (HOX.out.alloc _) rfl (heap_alloc_new _ _) rfl (by decide) (by omega) (by have := HKO.out.size; simp; omega) (4 + 2 * (i + 1)) (by omega) ?_)
        intro g12 cap12 w3 ho3 hg3
        have HX3 : Hid (w3.ownsRow wx.heap.size 27 11 (.slice (some ⟨g12, 0, none⟩) (4 + 2 * (i + 1)) cap12) (4 + 2 * (i + 1)) (icells (whead a b S ++ wpairs (i + 1)))) := Lib.hid (by
          rw [show whead a b S ++ wpairs (i + 1) = whead a b S ++ wpairs i ++ [xo 2, xb 12 2 2 3] by rw [List.append_assoc]; rfl]; exact ho3)
        have HK3 : Hid (Keeps No wx w3) := Lib.hid ((HKO.out.alloc _).grown hg3 (fun q e => .inr (HOX.out.lt q e).1))
        have HB3 : Hid (w3.ownsRow wx.heap.size 5 1 v13 i (brow (bytes8 n i))) := Lib.hid (by
          have h1 := HOB.out.alloc (.cells (icells [xo 2, xb 12 2 2 3]).toArray 27)
          exact own_kept h1 (fun q hq => hg3.block q (h1.lt q hq).2 (fun e => own_ne2 (HOX.out.alloc _) h1 (by decide) hq e.symm)))
        clear ho3 hg3 HOX HOB HKO
        have hby : IntKind.u64.wrap n / 2 ^ (8 * i) % 256 = shr8 n i % 256 := by
          rw [shr8_low, Int.pow_mul]; rfl
        have HBY := Lib.hid hby
        clear hby
        go_wp2_with (at_builtin; refine wpList_appB _ rfl (.tmp 116) (.tmp 123) 55 rfl Tryd.underlying55 wx.heap.size v13 i (bytes8 n i) (IntKind.u64.wrap n / 2 ^ (8 * i) % 256) w3.heap.size rfl (HB3.out.alloc _) rfl (heap_alloc_new _ _) (by omega) (by have := HK3.out.size; simp; omega) ?_)
        intro g13 cap13 w4 ho4 hg4 _
        have HB4 : Hid (w4.ownsRow wx.heap.size 5 1 (.slice (some ⟨g13, 0, none⟩) (i + 1) cap13) (i + 1) (brow (bytes8 n (i + 1)))) := Lib.hid (by rw [bytes8_succ, ← HBY.out]; exact ho4)
        have HK4 : Hid (Keeps No wx w4) := Lib.hid ((HK3.out.alloc _).grown hg4 (fun q e => .inr (HB3.out.lt q e).1))
        have HX4 : Hid (w4.ownsRow wx.heap.size 27 11 (.slice (some ⟨g12, 0, none⟩) (4 + 2 * (i + 1)) cap12) (4 + 2 * (i + 1)) (icells (whead a b S ++ wpairs (i + 1)))) := Lib.hid (by
          have h1 := HX3.out.alloc (.cells #[.int .u8 (IntKind.u64.wrap n / 2 ^ (8 * i) % 256)] 5)
          exact own_kept h1 (fun q hq => hg4.block q (h1.lt q hq).2 (fun e => own_ne2 (HB3.out.alloc _) h1 (by decide) hq e.symm)))
        clear ho4 hg4 HB3 HX3 HK3 HBY
        go_wp2_with fail
        exact Handed.intro (8 - (i + 1)) (by omega) (hJ _ _ _ ⟨i + 1, _, _, ⟨_, rfl, ⟨rfl, rfl, rfl, rfl, rfl, congrArg some (by go_num), trivial⟩, rfl⟩, by omega, rfl, HX4, HB4, HK4⟩)
      · obtain rfl : i = 8 := by omega
        have hlt' : ¬ ((8 : Nat) : Int) < 8 := by decide
        clear hJ hK hlt hi
        obtain ⟨aa12, ca12, rfl, hg12⟩ := own_form HOX.out
        obtain ⟨ib0, rfl⟩ := hg12 (by decide)
        obtain ⟨aa13, ca13, rfl, hg13⟩ := own_form HOB.out
        obtain ⟨bb0, rfl⟩ := hg13 (by decide)
        go_wp2_with (at_builtin; refine wpList_appX _ rfl (.tmp 125) (.tmp 127) 43 rfl Tryd.underlying43 wx.heap.size (.slice (some ⟨ib0, 0, none⟩) (4 + 2 * 8) ca12) (4 + 2 * 8) _ [xr 2] 1 wo.heap.size rfl (HOX.out.alloc _) rfl (heap_alloc_new _ _) rfl (by decide) (by omega) (by have := HKO.out.size; simp; omega) 21 rfl ?_)
        intro ib ic w3 ho3 hg3
        have HX3 : Hid (w3.ownsRow wx.heap.size 27 11 (.slice (some ⟨ib, 0, none⟩) 21 ic) 21 (icells (wixs a b S))) := Lib.hid ho3
        have HK3 : Hid (Keeps No wx w3) := Lib.hid ((HKO.out.alloc _).grown hg3 (fun q e => .inr (HOX.out.lt q e).1))
        have HB3 : Hid (w3.ownsRow wx.heap.size 5 1 (.slice (some ⟨bb0, 0, none⟩) 8 ca13) 8 (brow (bytes8 n 8))) := Lib.hid (by
          have h1 := HOB.out.alloc (.cells (icells [xr 2]).toArray 27)
          exact own_kept h1 (fun q hq => hg3.block q (h1.lt q hq).2 (fun e => own_ne2 (HOX.out.alloc _) h1 (by decide) hq e.symm)))
        clear ho3 hg3 HOX HOB HKO hlt' hg12 hg13
        go_wp2_with fail
        obtain ⟨bb, hbb⟩ : ∃ q, w3.heap.size = q := ⟨_, rfl⟩
        obtain ⟨wr, hwr⟩ : ∃ W, (w3.alloc (.cells #[.slice (some ⟨ib, 0, none⟩) 21 ic] 45)).alloc (.cells #[.string ⟨#[109, 97, 105, 110]⟩, .int .i64 0, .int .i64 4, .slice none 0 0, .slice (some ⟨bb, 0, none⟩) 1 1, .bool true] 42) = W := ⟨_, rfl⟩
        have h1 : wr.heap[bb]? = some (.cells #[.slice (some ⟨ib, 0, none⟩) 21 ic] 45 (0, 0)) := by
          rw [← hwr, Below.heap_alloc _ _ _ (by simp; omega)]; exact alloc_at _ _ _ hbb
        have h2 : wr.heap[bb + 1]? = some (.cells ((wfn a b S ib ic bb).cells).toArray 42 (0, 0)) := by
          rw [← hwr]; exact alloc_at _ _ _ (by simp; omega)
        have h3 : wr.ownsRow wx.heap.size 27 11 (.slice (some ⟨ib, 0, none⟩) 21 ic) 21 (icells (wixs a b S)) := by rw [← hwr]; exact (HX3.out.alloc _).alloc _
        have h4 : 21 ≤ ic ∧ ic ≤ maxLen := by
          rcases HX3.out.2 with ⟨e, h0⟩ | ⟨g, cap, cur, e, _, _, h1, h2, _⟩
          · cases e
          · injection e with _ _ e; subst e; exact ⟨h1, h2⟩
        have hS1 : I64 S := by have := HS.out; unfold I64; omega
        have HPG : Hid (PgOk wr (wpg a b S ib ic bb (bb + 1))) := Lib.hid (wpg_ok a b S HA.out.1 HA.out.2.1 hS1 ib ic bb (bb + 1) _ wr h3 h4 h1 h2)
        have HKR : Hid (Keeps No wx wr) := Lib.hid (by rw [← hwr]; exact (HK3.out.alloc _).alloc _)
        have HBR : Hid (wr.ownsRow wx.heap.size 5 1 (.slice (some ⟨bb0, 0, none⟩) 8 ca13) 8 (brow (bytes8 n 8))) := Lib.hid (by rw [← hwr]; exact (HB3.out.alloc _).alloc _)
        simp only [hbb]
        rw [hwr]
        clear h1 h2 h3 h4 hS1 hwr hbb HK3 HB3 HX3
        cases OK with
        | true =>
          refine (words_yes a b S HA.out.1 HA.out.2.1 HS.out ib ic bb (bb + 1) wr HPG.out (HL.out.no HKR.out) HOK.out n HN.out HNI.out).mono ?_
          rintro e w4 ⟨⟨sa, sn, sc, sl⟩, rfl, hsl, hsb, hk4⟩
          have HS4 := Lib.hid (And.intro hsl hsb)
          have HK4 := Lib.hid (HKR.out.trans hk4 (fun _ _ e => e))
          have HB4 : Hid (w4.ownsRow wx.heap.size 5 1 (.slice (some ⟨bb0, 0, none⟩) 8 ca13) 8 (brow (bytes8 n 8))) := Lib.hid (own_kept HBR.out (fun q hq => hk4.block q (HBR.out.lt q hq).2 (fun e => e)))
          clear hsl hsb hk4 HPG HKR HBR
          dsimp only [ov, Sl.v]
          go_wp2_with fail
          obtain ⟨w5, hw5⟩ : ∃ W, w4.alloc (.cells #[.int .i64 1, .int .i64 0, .slice sa sn sc] 57) = W := ⟨_, rfl⟩
          rw [hw5]
          have hk5 : Keeps No w4 w5 := by rw [← hw5]; exact (Keeps.refl _ _).alloc _
          have hb5 : w5.ownsRow wx.heap.size 5 1 (.slice (some ⟨bb0, 0, none⟩) 8 ca13) (bytes8 n 8).length (brow (bytes8 n 8)) := by
            rw [bytes8_len, ← hw5]; exact HB4.out.alloc _
          obtain ⟨⟨ta, tn, tc, tl⟩, htv, htl, htb⟩ := own_bytes hb5
          injection htv with e1 e2 e3
          subst e1 e2 e3
          have hsn : sn ≤ 1000000 := by have h := HS4.out.2.len; rw [HS4.out.1, bytes8_len] at h; simp only at h; omega
          have hso := same_outcome 1 0 1 0 ⟨sa, sn, sc, sl⟩ ⟨some ⟨bb0, 0, none⟩, 8, tc, tl⟩ w5 (HS4.out.2.no hk5) htb hsn rfl rfl
          rw [decide_eq_true (HS4.out.1.trans htl.symm)] at hso
          have HK5 := Lib.hid (HK4.out.trans hk5 (fun _ _ e => e))
          clear hw5 hk5 hb5 htl htb HB4 HK4
          refine hso.mono ?_
          rintro e w6 ⟨rfl, hk6⟩
          have HK6 := Lib.hid (HK5.out.trans hk6 (fun _ _ e => e))
          clear hk6 hso HK5
          go_wp2_with fail
          refine (awake_any _ (HL.out.no HK6.out)).mono ?_
          rintro e w7 ⟨rfl, hk7⟩
          go_wp2_with fail
          go_returns
          exact ⟨rb rfl rfl, HK6.out.trans hk7 (fun _ _ e => e)⟩
        | false =>
          refine (words_no a b S HA.out.1 HA.out.2.1 HS.out ib ic bb (bb + 1) wr HPG.out (HL.out.no HKR.out) HOK.out).mono ?_
          rintro e w4 ⟨⟨sa, sn, sc, sl⟩, rfl, hsl, hsb, hk4⟩
          have hsn : sn = 0 := by have := hsb.len; rw [hsl] at this; exact this.symm
          have HK4 := Lib.hid (HKR.out.trans hk4 (fun _ _ e => e))
          clear hsl hsb hk4 HPG HKR HBR
          subst hsn
          dsimp only [ov, Sl.v]
          go_wp2_with fail
          refine (awake_any _ (HL.out.no (HK4.out.alloc _))).mono ?_
          rintro e w5 ⟨rfl, hk5⟩
          go_wp2_with fail
          go_returns
          exact ⟨rb rfl rfl, (HK4.out.alloc _).trans hk5 (fun _ _ e => e)⟩
  · intro J K' hJ hK'
    obtain ⟨HA1, HA2, _⟩ := HA.out
    unfold I64 at HA1 HA2
    clear HK HL HA
    have hc : K = 0 ∨ K = 1 ∨ K = 2 ∨ K = 3 ∨ K = 4 ∨ K = 5 ∨ K = 6 ∨ K = 7 ∨ K = 8 ∨ K = 9 := by omega
    rcases hc with rfl | rfl | rfl | rfl | rfl | rfl | rfl | rfl | rfl | rfl
    · go_wp2_with fail
      exact Met.intro (hJ _ _ (cutW (by rfl) (by rfl) (by rfl) (by rfl) (by rfl) (by rfl) rfl))
    · go_wp2_with fail
      exact Met.intro (hJ _ _ (cutW (by rfl) (by rfl) (by rfl) (by rfl) (by rfl) (by rfl) rfl))
    · go_wp2_with fail
      exact Met.intro (hJ _ _ (cutW (by rfl) (by rfl) (by rfl) (by rfl) (by rfl) (by rfl) rfl))
    · by_cases hb0 : b = 0
      · have hO : Wd.plainOk (1 + 3) a b = false := by rw [hb0]; simp [Wd.plainOk]
        have hV : Wd.plainV (1 + 3) a b = 0 := by unfold Wd.plainV; rw [hO]; rfl
        simp only [hO, hV] at hJ
        subst hb0
        go_wp2_with fail
        exact Met.intro (hJ _ _ (cutW (by rfl) (by rfl) (by rfl) (by rfl) (by rfl) (by rfl) rfl))
      by_cases hab : a = -9223372036854775808 ∧ b = -1
      · obtain ⟨rfl, rfl⟩ := hab
        have hO : Wd.plainOk (1 + 3) (-9223372036854775808) (-1) = false := by rfl
        have hV : Wd.plainV (1 + 3) (-9223372036854775808) (-1) = 0 := by rfl
        simp only [hO, hV] at hJ
        go_wp2_with fail
        exact Met.intro (hJ _ _ (cutW (by rfl) (by rfl) (by rfl) (by rfl) (by rfl) (by rfl) rfl))
      · have hO : Wd.plainOk (1 + 3) a b = true := by
          have : ¬ (a = -9223372036854775808 ∧ b = -1) := hab
          unfold Wd.plainOk
          rw [if_pos (by decide)]
          have e1 : (b == 0) = false := beq_eq_false_iff_ne.2 hb0
          rw [e1]
          rcases Bool.eq_false_or_eq_true (a == -9223372036854775808 && b == -1) with h | h
          · rw [Bool.and_eq_true, beq_iff_eq, beq_iff_eq] at h; exact absurd h hab
          · rw [h]; rfl
        have hV : Wd.plainV (1 + 3) a b = wrap64 (a.tdiv b) := by unfold Wd.plainV; rw [hO]; rfl
        simp only [hO, hV] at hJ
        have e0 : (b != 0) = true := by rw [bne_iff_ne]; exact hb0
        by_cases ha1 : a = -9223372036854775808
        · have e1 : (a == -9223372036854775808) = true := beq_iff_eq.2 ha1
          have e2 : (b == -1) = false := beq_eq_false_iff_ne.2 (fun e => hab ⟨ha1, e⟩)
          clear ha1 hab hO hV
          go_wp2_with fail
          all_goals exact Met.intro (hJ _ _ (cutW (by rfl) (by rfl) (by rfl) (by rfl) (by rfl) (by rfl) rfl))
        · have e1 : (a == -9223372036854775808) = false := beq_eq_false_iff_ne.2 ha1
          clear hab ha1 hO hV
          go_wp2_with fail
          all_goals exact Met.intro (hJ _ _ (cutW (by rfl) (by rfl) (by rfl) (by rfl) (by rfl) (by rfl) rfl))
    · by_cases hb0 : b = 0
      · have hO : Wd.plainOk (1 + 4) a b = false := by rw [hb0]; simp [Wd.plainOk]
        have hV : Wd.plainV (1 + 4) a b = 0 := by unfold Wd.plainV; rw [hO]; rfl
        simp only [hO, hV] at hJ
        subst hb0
        go_wp2_with fail
        exact Met.intro (hJ _ _ (cutW (by rfl) (by rfl) (by rfl) (by rfl) (by rfl) (by rfl) rfl))
      by_cases hab : a = -9223372036854775808 ∧ b = -1
      · obtain ⟨rfl, rfl⟩ := hab
        have hO : Wd.plainOk (1 + 4) (-9223372036854775808) (-1) = false := by rfl
        have hV : Wd.plainV (1 + 4) (-9223372036854775808) (-1) = 0 := by rfl
        simp only [hO, hV] at hJ
        go_wp2_with fail
        exact Met.intro (hJ _ _ (cutW (by rfl) (by rfl) (by rfl) (by rfl) (by rfl) (by rfl) rfl))
      · have hO : Wd.plainOk (1 + 4) a b = true := by
          have : ¬ (a = -9223372036854775808 ∧ b = -1) := hab
          unfold Wd.plainOk
          rw [if_pos (by decide)]
          have e1 : (b == 0) = false := beq_eq_false_iff_ne.2 hb0
          rw [e1]
          rcases Bool.eq_false_or_eq_true (a == -9223372036854775808 && b == -1) with h | h
          · rw [Bool.and_eq_true, beq_iff_eq, beq_iff_eq] at h; exact absurd h hab
          · rw [h]; rfl
        have hV : Wd.plainV (1 + 4) a b = a.tmod b := by unfold Wd.plainV; rw [hO]; rfl
        simp only [hO, hV] at hJ
        have e0 : (b != 0) = true := by rw [bne_iff_ne]; exact hb0
        by_cases ha1 : a = -9223372036854775808
        · have e1 : (a == -9223372036854775808) = true := beq_iff_eq.2 ha1
          have e2 : (b == -1) = false := beq_eq_false_iff_ne.2 (fun e => hab ⟨ha1, e⟩)
          clear ha1 hab hO hV
          go_wp2_with fail
          all_goals exact Met.intro (hJ _ _ (cutW (by rfl) (by rfl) (by rfl) (by rfl) (by rfl) (by rfl) rfl))
        · have e1 : (a == -9223372036854775808) = false := beq_eq_false_iff_ne.2 ha1
          clear hab ha1 hO hV
          go_wp2_with fail
          all_goals exact Met.intro (hJ _ _ (cutW (by rfl) (by rfl) (by rfl) (by rfl) (by rfl) (by rfl) rfl))
    · by_cases hb0 : b = 0
      · have hO : Wd.plainOk (1 + 5) a b = false := by rw [hb0]; simp [Wd.plainOk]
        have hV : Wd.plainV (1 + 5) a b = 0 := by unfold Wd.plainV; rw [hO]; rfl
        simp only [hO, hV] at hJ
        subst hb0
        have hu : IntKind.u64.wrap 0 = 0 := rfl
        go_wp2_with fail
        exact Met.intro (hJ _ _ (cutW (by rfl) (by rfl) (by rfl) (by rfl) (by rfl) (by rfl) rfl))
      · have hO : Wd.plainOk (1 + 5) a b = true := by simp [Wd.plainOk, hb0]
        have hV : Wd.plainV (1 + 5) a b = wrap64 (IntKind.u64.wrap ((IntKind.u64.wrap a).tdiv (IntKind.u64.wrap b))) := by unfold Wd.plainV; rw [hO]; rfl
        simp only [hO, hV] at hJ
        have hu : ¬ IntKind.u64.wrap b = 0 := fun e => hb0 ((Wd.u64_zero b HA2).1 e)
        have hub : (IntKind.u64.wrap b != 0) = true := by rw [bne_iff_ne]; exact hu
        clear hO hV
        go_wp2_with fail
        all_goals exact Met.intro (hJ _ _ (cutW (by rfl) (by rfl) (by rfl) (by rfl) (by rfl) (by rfl) rfl))
    · by_cases hb0 : b = 0
      · have hO : Wd.plainOk (1 + 6) a b = false := by rw [hb0]; simp [Wd.plainOk]
        have hV : Wd.plainV (1 + 6) a b = 0 := by unfold Wd.plainV; rw [hO]; rfl
        simp only [hO, hV] at hJ
        subst hb0
        have hu : IntKind.u64.wrap 0 = 0 := rfl
        go_wp2_with fail
        exact Met.intro (hJ _ _ (cutW (by rfl) (by rfl) (by rfl) (by rfl) (by rfl) (by rfl) rfl))
      · have hO : Wd.plainOk (1 + 6) a b = true := by simp [Wd.plainOk, hb0]
        have hV : Wd.plainV (1 + 6) a b = wrap64 ((IntKind.u64.wrap a).tmod (IntKind.u64.wrap b)) := by unfold Wd.plainV; rw [hO]; rfl
        simp only [hO, hV] at hJ
        have hu : ¬ IntKind.u64.wrap b = 0 := fun e => hb0 ((Wd.u64_zero b HA2).1 e)
        have hub : (IntKind.u64.wrap b != 0) = true := by rw [bne_iff_ne]; exact hu
        clear hO hV
        go_wp2_with fail
        all_goals exact Met.intro (hJ _ _ (cutW (by rfl) (by rfl) (by rfl) (by rfl) (by rfl) (by rfl) rfl))
    · go_wp2_with fail
      exact Met.intro (hJ _ _ (cutW (by rfl) (by rfl) (by rfl) (by rfl) (by rfl) (by rfl) rfl))
    · go_wp2_with fail
      exact Met.intro (hJ _ _ (cutW (by rfl) (by rfl) (by rfl) (by rfl) (by rfl) (by rfl) rfl))
    · go_wp2_with fail
      exact Met.intro (hJ _ _ (cutW (by rfl) (by rfl) (by rfl) (by rfl) (by rfl) (by rfl) rfl))
end Go.Proofs.YtbfjmhfhhlncjaaDoor
