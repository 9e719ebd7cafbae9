/- The law WordTells: its walk, the width of 32 bits. -/
import Derived.Test.YtmappfpolbkbcaaDoorWordTellsB
namespace Go.Proofs.YtmappfpolbkbcaaDoor
open Go.RowKit
set_option linter.unusedVariables false
set_option linter.unusedSimpArgs false

set_option maxRecDepth 100000 in
set_option maxHeartbeats 8000000 in
theorem tells_32 (c b sub x y V PV NV A UB PB N M : Int) (s t O PO NO US PS I : Bool) (T : ByteArray)
    (e32 : (b == 32) = true)
    (HR : Hid (Wd.reck b = true)) (HM : Hid (Wd.may b = true))
    (hx : -9223372036854775808 ≤ x ∧ x ≤ 9223372036854775807) (hy : -9223372036854775808 ≤ y ∧ y ≤ 9223372036854775807)
    (HV : Hid (Wd.bval b s sub x y = V)) (HO : Hid (Wd.bok b s sub x y = O)) (HPV : Hid (Wd.plainV sub x y = PV)) (HPO : Hid (Wd.plainOk sub x y = PO))
    (HNV : Hid (Wd.bval b s 2 0 x = NV)) (HNO : Hid (Wd.bok b s 2 0 x = NO)) (HA : Hid (Wd.wrap b s x = A))
    (HUB : Hid (Wd.ub c t b s = UB)) (HUS : Hid (Wd.us c t b s = US)) (HPB : Hid (Wd.pb b = PB)) (HPS : Hid (Wd.ps b s = PS)) (HT : Hid (Wd.text b s = T))
    (HN : Hid (bits BinOp.xor IntKind.i64 (-1) x = N)) (hN : -9223372036854775808 ≤ N ∧ N ≤ 9223372036854775807) (HW : Hid (Wd.wrap b s N = M))
    (HI : Hid ((A == x) = I))
    (w : World) (L : Laid w) :
    Calls Tryd.prog 3 #[.agg #[.int .i64 c, .bool t], .agg #[.int .i64 b, .bool s], .int .i64 sub, .int .i64 x, .int .i64 y] w fun e w' => e = .returned (.bool true) ∧ Gr w w' := by
  have HL := Lib.hid L
  clear L
  go_enter Tryd.func3, Tryd.ntmps3
  go_wp2_with fail
  refine (binary_as b s sub x y V O hx hy HV HO _ (HL.out.gr ((Gr.refl _).alloc _ _ |>.alloc _ _))).mono ?_
  rintro e w1 ⟨rfl, hg⟩
  have T1 := two_at w c t b s _ hg
  clear hg
  obtain ⟨p1, p2, p3, p4, p5, p6⟩ := T1
  have T1 := And.intro p1 (And.intro p2 (And.intro p3 (And.intro p4 (And.intro p5 p6))))
  go_wp2_with fail
  refine (rbinary_as b s sub x y V O hx hy HV HO _).mono ?_
  rintro e w2 ⟨rfl, hg⟩
  have T2 := two_on T1 hg
  clear hg T1 p1 p2 p3 p4 p5 p6
  obtain ⟨p1, p2, p3, p4, p5, p6⟩ := T2
  have T2 := And.intro p1 (And.intro p2 (And.intro p3 (And.intro p4 (And.intro p5 p6))))
  go_wp2_with fail
  refine (wplain_as sub x y PV PO hx hy HPV HPO _).mono ?_
  rintro e w3 ⟨rfl, hw⟩
  cases hw
  go_wp2_with fail
  refine (rplain_as sub x y PV PO hx hy HPV HPO _).mono ?_
  rintro e w4 ⟨rfl, hw⟩
  cases hw
  go_wp2_with fail
  refine (wneg_as b s x NV NO hx HNV HNO _ (HL.out.gr (two_gr T2))).mono ?_
  rintro e w5 ⟨rfl, hg⟩
  have T5 := two_on T2 hg
  clear hg T2 p1 p2 p3 p4 p5 p6
  obtain ⟨p1, p2, p3, p4, p5, p6⟩ := T5
  have T5 := And.intro p1 (And.intro p2 (And.intro p3 (And.intro p4 (And.intro p5 p6))))
  go_wp2_with fail
  refine (rneg_as b s x NV NO hx HNV HNO _).mono ?_
  rintro e w6 ⟨rfl, hg⟩
  have T6 := two_on T5 hg
  clear hg T5 p1 p2 p3 p4 p5 p6
  obtain ⟨p1, p2, p3, p4, p5, p6⟩ := T6
  have T6 := And.intro p1 (And.intro p2 (And.intro p3 (And.intro p4 (And.intro p5 p6))))
  go_wp2_with fail
  rw [HN.out]
  refine (rwrap_as b s N M hN HW _).mono ?_
  rintro e w7 ⟨rfl, hg⟩
  have T7 := two_on T6 hg
  clear hg T6 p1 p2 p3 p4 p5 p6
  obtain ⟨p1, p2, p3, p4, p5, p6⟩ := T7
  have T7 := And.intro p1 (And.intro p2 (And.intro p3 (And.intro p4 (And.intro p5 p6))))
  go_wp2_with fail
  have hI : (A == x) = I := HI.out
  have l0 : ∀ u : Held w c t b s, u.W.cell? ⟨w.heap.size, 0, none⟩ = some (.int .i64 c) := fun u => u.h.1
  have l1 : ∀ u : Held w c t b s, u.W.cell? ⟨w.heap.size, 1, none⟩ = some (.bool t) := fun u => u.h.2.1
  have l2 : ∀ u : Held w c t b s, u.W.cell? ⟨w.heap.size + 1, 0, none⟩ = some (.int .i64 b) := fun u => u.h.2.2.1
  have l3 : ∀ u : Held w c t b s, u.W.cell? ⟨w.heap.size + 1, 1, none⟩ = some (.bool s) := fun u => u.h.2.2.2.1
  have hne : Nonempty (Held w c t b s) := ⟨⟨_, T7⟩⟩
  simp only [List.append_eq, List.cons_append, List.nil_append]
  refine wp_region_class (C := fun W => ∃ u : Held w c t b s, W = u.W) (by kernel_rfl) (by kernel_rfl) ⟨⟨_, two_on T7 (Gr.refl _).drew⟩, rfl⟩ ?_
  repeat (go_big_quiet_step (first
      | (go_at_call 17; with_reducible refine held_call _ (winvert_yes b s x N M hx HR HN HW _ (HL.out.gr (two_gr (Held.h _)))))
      | (go_at_call 18; with_reducible refine held_call _ (wwrap_as b s x A hx HA _))
      | (go_at_call 16; with_reducible refine held_call _ (rwrap_as b s x A hx HA _))
      | (go_at_call 19; with_reducible refine held_call _ (wis_as b s x A I hx HM HA HI _ (HL.out.gr (two_gr (Held.h _)))))
      | (go_at_call 20; with_reducible refine held_call _ (rmay_as b s true HM _))
      | (go_at_call 21; with_reducible refine held_call _ (usual_as c t b s UB US HUB HUS _ (HL.out.gr (two_gr (Held.h _)))))
      | (go_at_call 22; with_reducible refine held_call _ (rusual_as c t b s UB US HUB HUS _))
      | (go_at_call 23; with_reducible refine held_call _ (wpromote_as b s PB PS HPB HPS _))
      | (go_at_call 24; with_reducible refine held_call _ (rpromote_as b s PB PS HPB HPS _))
      | (go_at_call 25; with_reducible refine held_call _ (text_as b s T HT _ (HL.out.gr (two_gr (Held.h _)))))
      | (go_at_call 26; with_reducible refine held_call _ (rtext_as b s T HT _))
      | (go_at_call 27; with_reducible refine held_call _ (wmay_as b s true HM _ (HL.out.gr (two_gr (Held.h _)))))
      | (go_at_call 28; with_reducible refine held_call _ (awake_true _ (HL.out.gr (two_gr (Held.h _)))))))
  refine wpQuiet_nil ?_
  rintro _ ⟨nq, rfl⟩
  go_wp2_with fail
  go_returns
  exact ⟨rb rfl rfl, two_gr nq.h⟩
end Go.Proofs.YtmappfpolbkbcaaDoor
