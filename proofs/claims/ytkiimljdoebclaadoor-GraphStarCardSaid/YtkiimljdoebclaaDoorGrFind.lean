/- newFinder. (find_gen.py writes this.) -/
import Derived.Test.YtkiimljdoebclaaDoorGrVisit
import Derived.Test.YtkiimljdoebclaaDoorGrCalls
namespace Go.Proofs.YtkiimljdoebclaaDoor
open Go.RowKit Gm
set_option linter.unusedVariables false
set_option linter.unusedSimpArgs false

theorem visit_any (n : Nat) (cs : List (List Int)) (hn1 : n ≤ 1000000) : ∀ fuel, VisitC n fuel cs
  | 0 => fun w0 w R W L P ca cc s z s' S hS hSc hF hm => by rw [visitM] at hm; cases hm
  | fuel + 1 => visit_step n fuel cs hn1 (visit_any n cs hn1 fuel)
/-- The finder at first, i functions told that they have no set. -/
def fdz (n i : Nat) : Fdr := ⟨List.replicate n 0, List.replicate n 0, List.replicate i (-1) ++ List.replicate (n - i) 0, [], 0, []⟩
theorem fdz_zero (n : Nat) : (fdz n 0).part = List.replicate n 0 := by unfold fdz; simp
theorem fdz_len (n i : Nat) (h : i ≤ n) : (fdz n i).part.length = n := by unfold fdz; simp; omega
theorem fdz_at {n i : Nat} (h : i < n) : (fdz n i).part[i]? = some 0 := by
  unfold fdz
  simp only
  rw [List.getElem?_append_right (by simp), List.length_replicate, Nat.sub_self, List.getElem?_replicate, if_pos (by omega)]
theorem fdz_set {n i : Nat} (h : i < n) : fdz n (i + 1) = { fdz n i with part := (fdz n i).part.set i (-1) } := by
  have e : List.replicate (i + 1) (-1 : Int) ++ List.replicate (n - (i + 1)) 0 = (List.replicate i (-1) ++ List.replicate (n - i) 0).set i (-1) := by
    rw [List.set_append_right _ _ (by simp), List.length_replicate, Nat.sub_self, show n - i = (n - (i + 1)) + 1 by omega, List.replicate_succ (n := n - (i + 1)), List.set_cons_zero, List.replicate_succ' (n := i), List.append_assoc]
    rfl
  unfold fdz
  simp only [e]
theorem fdz_full (n : Nat) : fdz n n = fd0 n := by unfold fdz fd0; simp
section
variable {P : Program} {md : Region.Mode} {l : List Oper} {C : World → Prop} {E : List Nat} {Q : Act → World → Prop} {F : Nat} {listed : Array Bool} {a : Act} {w : World}
theorem mix_three (i j k fuel : Nat) (hr : Region.ready md l.toArray listed = [i, j, k]) (hF : F = fuel + 1) (hi : ((l.drop i).take 1).length = 1) (hj : ((l.drop j).take 1).length = 1) (hk : ((l.drop k).take 1).length = 1)
    (h1 : wpList P l.toArray (Mix.MixPost P md l.toArray C E Q fuel i listed) ((l.drop i).take 1) a w)
    (h2 : wpList P l.toArray (Mix.MixPost P md l.toArray C E Q fuel j listed) ((l.drop j).take 1) a w)
    (h3 : wpList P l.toArray (Mix.MixPost P md l.toArray C E Q fuel k listed) ((l.drop k).take 1) a w) : Mix.wpMix P md l.toArray C E Q F listed a w := by
  subst hF
  refine ⟨fun h0 => (by rw [hr] at h0; cases h0), fun q hq => ?_⟩
  rw [hr] at hq
  simp only [List.mem_cons, List.not_mem_nil, or_false] at hq
  rcases hq with rfl | rfl | rfl
  · have hj : q < l.length := by simp at hi; omega
    exact Mix.mixOp_of_list (o := l[q]) (List.getElem?_eq_getElem hj) (by rw [← Mix.one_take hj]; exact h1)
  · have hj : q < l.length := by simp at hj; omega
    exact Mix.mixOp_of_list (o := l[q]) (List.getElem?_eq_getElem hj) (by rw [← Mix.one_take hj]; exact h2)
  · have hj : q < l.length := by simp at hk; omega
    exact Mix.mixOp_of_list (o := l[q]) (List.getElem?_eq_getElem hj) (by rw [← Mix.one_take hj]; exact h3)
end
set_option maxRecDepth 100000 in
set_option maxHeartbeats 12800000 in
theorem newFinder_any (n fuel : Nat) (cs : List (List Int)) (w : World) (ca : Option Addr) (cc : Nat) (S : List Sl) (s : Fdr) (hn0 : 0 < n) (hn1 : n ≤ 1000000) (hS : LsAt w ca n cc S) (hSc : S.map Sl.l = cs) (hm : finderM n cs fuel = some s) :
    Calls Tryd.prog 17 #[.slice ca n cc] w fun e w' => ∃ R, e = .returned (.pointer (some ⟨R, 0, none⟩)) ∧ ∃ W L P, FDx w w' R W L P n ca cc s := by
  have HS := Lib.hid hS
  have HSC := Lib.hid hSc
  have HM := Lib.hid hm
  have hcc := hS.cap
  unfold maxLen at hcc
  clear hS hSc hm
  go_enter Tryd.func17, Tryd.ntmps17
  go_upto_region 2 with fail
  have HV00 : Hid (Keeps No w w.drew) := Lib.hid ((Keeps.refl _ w).drew)
  refine Mix.wp_region_mix (fun W' => ∃ u : KS No w, W' = u.W) [] (by kernel_rfl) ?_
  have hne : Nonempty (KS No w) := ⟨⟨w, Keeps.refl _ _⟩⟩
  have HV0 := HV00
  clear HV00
  generalize w.drew = v0 at HV0 ⊢
  refine Mix.mix_seg 0 2 8 (by kernel_rfl) (by kernel_rfl) rfl rfl ⟨⟨v0, HV0.out⟩, rfl⟩ ?_
  simp only [List.drop_succ_cons, List.drop_zero, List.take_succ_cons, List.take_zero]
  repeat (go_big_quiet_step (fail))
  refine wpQuiet_nil ?_
  refine Mix.mix_seg 3 1 7 (by kernel_rfl) (by kernel_rfl) rfl rfl ⟨⟨v0, HV0.out⟩, rfl⟩ ?_
  simp only [List.drop_succ_cons, List.drop_zero, List.take_succ_cons, List.take_zero]
  repeat (go_big_quiet_step (fail))
  refine wpQuiet_nil ?_
  refine Mix.mix_seg 5 1 6 (by kernel_rfl) (by kernel_rfl) rfl rfl ⟨⟨v0, HV0.out⟩, rfl⟩ ?_
  simp only [List.drop_succ_cons, List.drop_zero, List.take_succ_cons, List.take_zero]
  repeat (go_big_quiet_step (fail))
  refine wpQuiet_nil ?_
  refine mix_three 2 4 6 5 (by kernel_rfl) rfl rfl rfl rfl ?_ ?_ ?_
  case' refine_1 =>
    simp only [List.drop_succ_cons, List.drop_zero, List.take_succ_cons, List.take_zero]
    go_wp2_with (at_make; refine wpList_makeI _ rfl (.tmp 10) rfl n rfl hn1 ?_)
    intro v1 hr hk
    obtain ⟨W, hW⟩ : ∃ q, v0.heap.size = q := ⟨_, rfl⟩
    rw [hW] at hr ⊢
    have HRW := Lib.hid hr
    have HKv1 := Lib.hid hk
    have HSW := Lib.hid hW
    clear hr hk hW
    go_wp2_with fail
    have HV1 : Hid (Keeps No w v1) := Lib.hid (HV0.out.trans HKv1.out (fun _ _ e => e))
    refine ⟨.inr ⟨⟨v1, HV1.out⟩, rfl⟩, ?_⟩
    refine Mix.mix_two 4 6 4 (by kernel_rfl) rfl rfl rfl ?_ ?_
    case' refine_1 =>
      simp only [List.drop_succ_cons, List.drop_zero, List.take_succ_cons, List.take_zero]
      go_wp2_with (at_make; refine wpList_makeI _ rfl (.tmp 12) rfl n rfl hn1 ?_)
      intro v2 hr hk
      obtain ⟨L, hL⟩ : ∃ q, v1.heap.size = q := ⟨_, rfl⟩
      rw [hL] at hr ⊢
      have HRL := Lib.hid hr
      have HKv2 := Lib.hid hk
      have HSL := Lib.hid hL
      clear hr hk hL
      go_wp2_with fail
      have HV2 : Hid (Keeps No w v2) := Lib.hid (HV1.out.trans HKv2.out (fun _ _ e => e))
      refine ⟨.inr ⟨⟨v2, HV2.out⟩, rfl⟩, ?_⟩
      refine Mix.mix_one 6 3 (by kernel_rfl) rfl rfl ?_
      simp only [List.drop_succ_cons, List.drop_zero, List.take_succ_cons, List.take_zero]
      go_wp2_with (at_make; refine wpList_makeI _ rfl (.tmp 14) rfl n rfl hn1 ?_)
      intro v3 hr hk
      obtain ⟨P, hP⟩ : ∃ q, v2.heap.size = q := ⟨_, rfl⟩
      rw [hP] at hr ⊢
      have HRP := Lib.hid hr
      have HKv3 := Lib.hid hk
      have HSP := Lib.hid hP
      clear hr hk hP
      go_wp2_with fail
      have HV3 : Hid (Keeps No w v3) := Lib.hid (HV2.out.trans HKv3.out (fun _ _ e => e))
      refine ⟨.inr ⟨⟨v3, HV3.out⟩, rfl⟩, ?_⟩
      have HXW : Hid (v3.heap[W]? = some (.cells (List.replicate n (Value.int .i64 0)).toArray 3 (0, 0))) := Lib.hid (by exact ((HKv3.out.block _ (Array.getElem?_eq_some_iff.1 (((HKv2.out.block _ (Array.getElem?_eq_some_iff.1 (HRW.out)).1 (fun e => e)).trans (HRW.out)))).1 (fun e => e)).trans (((HKv2.out.block _ (Array.getElem?_eq_some_iff.1 (HRW.out)).1 (fun e => e)).trans (HRW.out)))))
      have HXL : Hid (v3.heap[L]? = some (.cells (List.replicate n (Value.int .i64 0)).toArray 3 (0, 0))) := Lib.hid (by exact ((HKv3.out.block _ (Array.getElem?_eq_some_iff.1 (HRL.out)).1 (fun e => e)).trans (HRL.out)))
      have HXP : Hid (v3.heap[P]? = some (.cells (List.replicate n (Value.int .i64 0)).toArray 3 (0, 0))) := Lib.hid (by exact HRP.out)
      have HNE : Hid (w.heap.size ≤ W ∧ W < L ∧ L < P ∧ P < v3.heap.size) := Lib.hid (by
        have h1 := HV0.out.size; have h2 := HSW.out; have h3 := HSL.out; have h4 := HSP.out
        have h5 := (Array.getElem?_eq_some_iff.1 HRW.out).1; have h6 := (Array.getElem?_eq_some_iff.1 HRL.out).1; have h7 := (Array.getElem?_eq_some_iff.1 HRP.out).1
        omega)
      have HNF : Hid (w.heap.size ≤ W ∧ w.heap.size ≤ L ∧ w.heap.size ≤ P ∧ W ≠ L ∧ W ≠ P ∧ L ≠ P ∧ W < v3.heap.size ∧ L < v3.heap.size ∧ P < v3.heap.size) := Lib.hid (by have := HNE.out; omega)
      clear HKv1 HKv2 HKv3 HSW HSL HSP HRW HRL HRP HNE HV1 HV2 HV0 hne
    case' refine_2 =>
      simp only [List.drop_succ_cons, List.drop_zero, List.take_succ_cons, List.take_zero]
      go_wp2_with (at_make; refine wpList_makeI _ rfl (.tmp 14) rfl n rfl hn1 ?_)
      intro v2 hr hk
      obtain ⟨P, hP⟩ : ∃ q, v1.heap.size = q := ⟨_, rfl⟩
      rw [hP] at hr ⊢
      have HRP := Lib.hid hr
      have HKv2 := Lib.hid hk
      have HSP := Lib.hid hP
      clear hr hk hP
      go_wp2_with fail
      have HV2 : Hid (Keeps No w v2) := Lib.hid (HV1.out.trans HKv2.out (fun _ _ e => e))
      refine ⟨.inr ⟨⟨v2, HV2.out⟩, rfl⟩, ?_⟩
      refine Mix.mix_one 4 3 (by kernel_rfl) rfl rfl ?_
      simp only [List.drop_succ_cons, List.drop_zero, List.take_succ_cons, List.take_zero]
      go_wp2_with (at_make; refine wpList_makeI _ rfl (.tmp 12) rfl n rfl hn1 ?_)
      intro v3 hr hk
      obtain ⟨L, hL⟩ : ∃ q, v2.heap.size = q := ⟨_, rfl⟩
      rw [hL] at hr ⊢
      have HRL := Lib.hid hr
      have HKv3 := Lib.hid hk
      have HSL := Lib.hid hL
      clear hr hk hL
      go_wp2_with fail
      have HV3 : Hid (Keeps No w v3) := Lib.hid (HV2.out.trans HKv3.out (fun _ _ e => e))
      refine ⟨.inr ⟨⟨v3, HV3.out⟩, rfl⟩, ?_⟩
      have HXW : Hid (v3.heap[W]? = some (.cells (List.replicate n (Value.int .i64 0)).toArray 3 (0, 0))) := Lib.hid (by exact ((HKv3.out.block _ (Array.getElem?_eq_some_iff.1 (((HKv2.out.block _ (Array.getElem?_eq_some_iff.1 (HRW.out)).1 (fun e => e)).trans (HRW.out)))).1 (fun e => e)).trans (((HKv2.out.block _ (Array.getElem?_eq_some_iff.1 (HRW.out)).1 (fun e => e)).trans (HRW.out)))))
      have HXP : Hid (v3.heap[P]? = some (.cells (List.replicate n (Value.int .i64 0)).toArray 3 (0, 0))) := Lib.hid (by exact ((HKv3.out.block _ (Array.getElem?_eq_some_iff.1 (HRP.out)).1 (fun e => e)).trans (HRP.out)))
      have HXL : Hid (v3.heap[L]? = some (.cells (List.replicate n (Value.int .i64 0)).toArray 3 (0, 0))) := Lib.hid (by exact HRL.out)
      have HNE : Hid (w.heap.size ≤ W ∧ W < P ∧ P < L ∧ L < v3.heap.size) := Lib.hid (by
        have h1 := HV0.out.size; have h2 := HSW.out; have h3 := HSP.out; have h4 := HSL.out
        have h5 := (Array.getElem?_eq_some_iff.1 HRW.out).1; have h6 := (Array.getElem?_eq_some_iff.1 HRP.out).1; have h7 := (Array.getElem?_eq_some_iff.1 HRL.out).1
        omega)
      have HNF : Hid (w.heap.size ≤ W ∧ w.heap.size ≤ L ∧ w.heap.size ≤ P ∧ W ≠ L ∧ W ≠ P ∧ L ≠ P ∧ W < v3.heap.size ∧ L < v3.heap.size ∧ P < v3.heap.size) := Lib.hid (by have := HNE.out; omega)
      clear HKv1 HKv2 HKv3 HSW HSL HSP HRW HRL HRP HNE HV1 HV2 HV0 hne
  case' refine_2 =>
    simp only [List.drop_succ_cons, List.drop_zero, List.take_succ_cons, List.take_zero]
    go_wp2_with (at_make; refine wpList_makeI _ rfl (.tmp 12) rfl n rfl hn1 ?_)
    intro v1 hr hk
    obtain ⟨L, hL⟩ : ∃ q, v0.heap.size = q := ⟨_, rfl⟩
    rw [hL] at hr ⊢
    have HRL := Lib.hid hr
    have HKv1 := Lib.hid hk
    have HSL := Lib.hid hL
    clear hr hk hL
    go_wp2_with fail
    have HV1 : Hid (Keeps No w v1) := Lib.hid (HV0.out.trans HKv1.out (fun _ _ e => e))
    refine ⟨.inr ⟨⟨v1, HV1.out⟩, rfl⟩, ?_⟩
    refine Mix.mix_two 2 6 4 (by kernel_rfl) rfl rfl rfl ?_ ?_
    case' refine_1 =>
      simp only [List.drop_succ_cons, List.drop_zero, List.take_succ_cons, List.take_zero]
      go_wp2_with (at_make; refine wpList_makeI _ rfl (.tmp 10) rfl n rfl hn1 ?_)
      intro v2 hr hk
      obtain ⟨W, hW⟩ : ∃ q, v1.heap.size = q := ⟨_, rfl⟩
      rw [hW] at hr ⊢
      have HRW := Lib.hid hr
      have HKv2 := Lib.hid hk
      have HSW := Lib.hid hW
      clear hr hk hW
      go_wp2_with fail
      have HV2 : Hid (Keeps No w v2) := Lib.hid (HV1.out.trans HKv2.out (fun _ _ e => e))
      refine ⟨.inr ⟨⟨v2, HV2.out⟩, rfl⟩, ?_⟩
      refine Mix.mix_one 6 3 (by kernel_rfl) rfl rfl ?_
      simp only [List.drop_succ_cons, List.drop_zero, List.take_succ_cons, List.take_zero]
      go_wp2_with (at_make; refine wpList_makeI _ rfl (.tmp 14) rfl n rfl hn1 ?_)
      intro v3 hr hk
      obtain ⟨P, hP⟩ : ∃ q, v2.heap.size = q := ⟨_, rfl⟩
      rw [hP] at hr ⊢
      have HRP := Lib.hid hr
      have HKv3 := Lib.hid hk
      have HSP := Lib.hid hP
      clear hr hk hP
      go_wp2_with fail
      have HV3 : Hid (Keeps No w v3) := Lib.hid (HV2.out.trans HKv3.out (fun _ _ e => e))
      refine ⟨.inr ⟨⟨v3, HV3.out⟩, rfl⟩, ?_⟩
      have HXL : Hid (v3.heap[L]? = some (.cells (List.replicate n (Value.int .i64 0)).toArray 3 (0, 0))) := Lib.hid (by exact ((HKv3.out.block _ (Array.getElem?_eq_some_iff.1 (((HKv2.out.block _ (Array.getElem?_eq_some_iff.1 (HRL.out)).1 (fun e => e)).trans (HRL.out)))).1 (fun e => e)).trans (((HKv2.out.block _ (Array.getElem?_eq_some_iff.1 (HRL.out)).1 (fun e => e)).trans (HRL.out)))))
      have HXW : Hid (v3.heap[W]? = some (.cells (List.replicate n (Value.int .i64 0)).toArray 3 (0, 0))) := Lib.hid (by exact ((HKv3.out.block _ (Array.getElem?_eq_some_iff.1 (HRW.out)).1 (fun e => e)).trans (HRW.out)))
      have HXP : Hid (v3.heap[P]? = some (.cells (List.replicate n (Value.int .i64 0)).toArray 3 (0, 0))) := Lib.hid (by exact HRP.out)
      have HNE : Hid (w.heap.size ≤ L ∧ L < W ∧ W < P ∧ P < v3.heap.size) := Lib.hid (by
        have h1 := HV0.out.size; have h2 := HSL.out; have h3 := HSW.out; have h4 := HSP.out
        have h5 := (Array.getElem?_eq_some_iff.1 HRL.out).1; have h6 := (Array.getElem?_eq_some_iff.1 HRW.out).1; have h7 := (Array.getElem?_eq_some_iff.1 HRP.out).1
        omega)
      have HNF : Hid (w.heap.size ≤ W ∧ w.heap.size ≤ L ∧ w.heap.size ≤ P ∧ W ≠ L ∧ W ≠ P ∧ L ≠ P ∧ W < v3.heap.size ∧ L < v3.heap.size ∧ P < v3.heap.size) := Lib.hid (by have := HNE.out; omega)
      clear HKv1 HKv2 HKv3 HSW HSL HSP HRW HRL HRP HNE HV1 HV2 HV0 hne
    case' refine_2 =>
      simp only [List.drop_succ_cons, List.drop_zero, List.take_succ_cons, List.take_zero]
      go_wp2_with (at_make; refine wpList_makeI _ rfl (.tmp 14) rfl n rfl hn1 ?_)
      intro v2 hr hk
      obtain ⟨P, hP⟩ : ∃ q, v1.heap.size = q := ⟨_, rfl⟩
      rw [hP] at hr ⊢
      have HRP := Lib.hid hr
      have HKv2 := Lib.hid hk
      have HSP := Lib.hid hP
      clear hr hk hP
      go_wp2_with fail
      have HV2 : Hid (Keeps No w v2) := Lib.hid (HV1.out.trans HKv2.out (fun _ _ e => e))
      refine ⟨.inr ⟨⟨v2, HV2.out⟩, rfl⟩, ?_⟩
      refine Mix.mix_one 2 3 (by kernel_rfl) rfl rfl ?_
      simp only [List.drop_succ_cons, List.drop_zero, List.take_succ_cons, List.take_zero]
      go_wp2_with (at_make; refine wpList_makeI _ rfl (.tmp 10) rfl n rfl hn1 ?_)
      intro v3 hr hk
      obtain ⟨W, hW⟩ : ∃ q, v2.heap.size = q := ⟨_, rfl⟩
      rw [hW] at hr ⊢
      have HRW := Lib.hid hr
      have HKv3 := Lib.hid hk
      have HSW := Lib.hid hW
      clear hr hk hW
      go_wp2_with fail
      have HV3 : Hid (Keeps No w v3) := Lib.hid (HV2.out.trans HKv3.out (fun _ _ e => e))
      refine ⟨.inr ⟨⟨v3, HV3.out⟩, rfl⟩, ?_⟩
      have HXL : Hid (v3.heap[L]? = some (.cells (List.replicate n (Value.int .i64 0)).toArray 3 (0, 0))) := Lib.hid (by exact ((HKv3.out.block _ (Array.getElem?_eq_some_iff.1 (((HKv2.out.block _ (Array.getElem?_eq_some_iff.1 (HRL.out)).1 (fun e => e)).trans (HRL.out)))).1 (fun e => e)).trans (((HKv2.out.block _ (Array.getElem?_eq_some_iff.1 (HRL.out)).1 (fun e => e)).trans (HRL.out)))))
      have HXP : Hid (v3.heap[P]? = some (.cells (List.replicate n (Value.int .i64 0)).toArray 3 (0, 0))) := Lib.hid (by exact ((HKv3.out.block _ (Array.getElem?_eq_some_iff.1 (HRP.out)).1 (fun e => e)).trans (HRP.out)))
      have HXW : Hid (v3.heap[W]? = some (.cells (List.replicate n (Value.int .i64 0)).toArray 3 (0, 0))) := Lib.hid (by exact HRW.out)
      have HNE : Hid (w.heap.size ≤ L ∧ L < P ∧ P < W ∧ W < v3.heap.size) := Lib.hid (by
        have h1 := HV0.out.size; have h2 := HSL.out; have h3 := HSP.out; have h4 := HSW.out
        have h5 := (Array.getElem?_eq_some_iff.1 HRL.out).1; have h6 := (Array.getElem?_eq_some_iff.1 HRP.out).1; have h7 := (Array.getElem?_eq_some_iff.1 HRW.out).1
        omega)
      have HNF : Hid (w.heap.size ≤ W ∧ w.heap.size ≤ L ∧ w.heap.size ≤ P ∧ W ≠ L ∧ W ≠ P ∧ L ≠ P ∧ W < v3.heap.size ∧ L < v3.heap.size ∧ P < v3.heap.size) := Lib.hid (by have := HNE.out; omega)
      clear HKv1 HKv2 HKv3 HSW HSL HSP HRW HRL HRP HNE HV1 HV2 HV0 hne
  case' refine_3 =>
    simp only [List.drop_succ_cons, List.drop_zero, List.take_succ_cons, List.take_zero]
    go_wp2_with (at_make; refine wpList_makeI _ rfl (.tmp 14) rfl n rfl hn1 ?_)
    intro v1 hr hk
    obtain ⟨P, hP⟩ : ∃ q, v0.heap.size = q := ⟨_, rfl⟩
    rw [hP] at hr ⊢
    have HRP := Lib.hid hr
    have HKv1 := Lib.hid hk
    have HSP := Lib.hid hP
    clear hr hk hP
    go_wp2_with fail
    have HV1 : Hid (Keeps No w v1) := Lib.hid (HV0.out.trans HKv1.out (fun _ _ e => e))
    refine ⟨.inr ⟨⟨v1, HV1.out⟩, rfl⟩, ?_⟩
    refine Mix.mix_two 2 4 4 (by kernel_rfl) rfl rfl rfl ?_ ?_
    case' refine_1 =>
      simp only [List.drop_succ_cons, List.drop_zero, List.take_succ_cons, List.take_zero]
      go_wp2_with (at_make; refine wpList_makeI _ rfl (.tmp 10) rfl n rfl hn1 ?_)
      intro v2 hr hk
      obtain ⟨W, hW⟩ : ∃ q, v1.heap.size = q := ⟨_, rfl⟩
      rw [hW] at hr ⊢
      have HRW := Lib.hid hr
      have HKv2 := Lib.hid hk
      have HSW := Lib.hid hW
      clear hr hk hW
      go_wp2_with fail
      have HV2 : Hid (Keeps No w v2) := Lib.hid (HV1.out.trans HKv2.out (fun _ _ e => e))
      refine ⟨.inr ⟨⟨v2, HV2.out⟩, rfl⟩, ?_⟩
      refine Mix.mix_one 4 3 (by kernel_rfl) rfl rfl ?_
      simp only [List.drop_succ_cons, List.drop_zero, List.take_succ_cons, List.take_zero]
      go_wp2_with (at_make; refine wpList_makeI _ rfl (.tmp 12) rfl n rfl hn1 ?_)
      intro v3 hr hk
      obtain ⟨L, hL⟩ : ∃ q, v2.heap.size = q := ⟨_, rfl⟩
      rw [hL] at hr ⊢
      have HRL := Lib.hid hr
      have HKv3 := Lib.hid hk
      have HSL := Lib.hid hL
      clear hr hk hL
      go_wp2_with fail
      have HV3 : Hid (Keeps No w v3) := Lib.hid (HV2.out.trans HKv3.out (fun _ _ e => e))
      refine ⟨.inr ⟨⟨v3, HV3.out⟩, rfl⟩, ?_⟩
      have HXP : Hid (v3.heap[P]? = some (.cells (List.replicate n (Value.int .i64 0)).toArray 3 (0, 0))) := Lib.hid (by exact ((HKv3.out.block _ (Array.getElem?_eq_some_iff.1 (((HKv2.out.block _ (Array.getElem?_eq_some_iff.1 (HRP.out)).1 (fun e => e)).trans (HRP.out)))).1 (fun e => e)).trans (((HKv2.out.block _ (Array.getElem?_eq_some_iff.1 (HRP.out)).1 (fun e => e)).trans (HRP.out)))))
      have HXW : Hid (v3.heap[W]? = some (.cells (List.replicate n (Value.int .i64 0)).toArray 3 (0, 0))) := Lib.hid (by exact ((HKv3.out.block _ (Array.getElem?_eq_some_iff.1 (HRW.out)).1 (fun e => e)).trans (HRW.out)))
      have HXL : Hid (v3.heap[L]? = some (.cells (List.replicate n (Value.int .i64 0)).toArray 3 (0, 0))) := Lib.hid (by exact HRL.out)
      have HNE : Hid (w.heap.size ≤ P ∧ P < W ∧ W < L ∧ L < v3.heap.size) := Lib.hid (by
        have h1 := HV0.out.size; have h2 := HSP.out; have h3 := HSW.out; have h4 := HSL.out
        have h5 := (Array.getElem?_eq_some_iff.1 HRP.out).1; have h6 := (Array.getElem?_eq_some_iff.1 HRW.out).1; have h7 := (Array.getElem?_eq_some_iff.1 HRL.out).1
        omega)
      have HNF : Hid (w.heap.size ≤ W ∧ w.heap.size ≤ L ∧ w.heap.size ≤ P ∧ W ≠ L ∧ W ≠ P ∧ L ≠ P ∧ W < v3.heap.size ∧ L < v3.heap.size ∧ P < v3.heap.size) := Lib.hid (by have := HNE.out; omega)
      clear HKv1 HKv2 HKv3 HSW HSL HSP HRW HRL HRP HNE HV1 HV2 HV0 hne
    case' refine_2 =>
      simp only [List.drop_succ_cons, List.drop_zero, List.take_succ_cons, List.take_zero]
      go_wp2_with (at_make; refine wpList_makeI _ rfl (.tmp 12) rfl n rfl hn1 ?_)
      intro v2 hr hk
      obtain ⟨L, hL⟩ : ∃ q, v1.heap.size = q := ⟨_, rfl⟩
      rw [hL] at hr ⊢
      have HRL := Lib.hid hr
      have HKv2 := Lib.hid hk
      have HSL := Lib.hid hL
      clear hr hk hL
      go_wp2_with fail
      have HV2 : Hid (Keeps No w v2) := Lib.hid (HV1.out.trans HKv2.out (fun _ _ e => e))
      refine ⟨.inr ⟨⟨v2, HV2.out⟩, rfl⟩, ?_⟩
      refine Mix.mix_one 2 3 (by kernel_rfl) rfl rfl ?_
      simp only [List.drop_succ_cons, List.drop_zero, List.take_succ_cons, List.take_zero]
      go_wp2_with (at_make; refine wpList_makeI _ rfl (.tmp 10) rfl n rfl hn1 ?_)
      intro v3 hr hk
      obtain ⟨W, hW⟩ : ∃ q, v2.heap.size = q := ⟨_, rfl⟩
      rw [hW] at hr ⊢
      have HRW := Lib.hid hr
      have HKv3 := Lib.hid hk
      have HSW := Lib.hid hW
      clear hr hk hW
      go_wp2_with fail
      have HV3 : Hid (Keeps No w v3) := Lib.hid (HV2.out.trans HKv3.out (fun _ _ e => e))
      refine ⟨.inr ⟨⟨v3, HV3.out⟩, rfl⟩, ?_⟩
      have HXP : Hid (v3.heap[P]? = some (.cells (List.replicate n (Value.int .i64 0)).toArray 3 (0, 0))) := Lib.hid (by exact ((HKv3.out.block _ (Array.getElem?_eq_some_iff.1 (((HKv2.out.block _ (Array.getElem?_eq_some_iff.1 (HRP.out)).1 (fun e => e)).trans (HRP.out)))).1 (fun e => e)).trans (((HKv2.out.block _ (Array.getElem?_eq_some_iff.1 (HRP.out)).1 (fun e => e)).trans (HRP.out)))))
      have HXL : Hid (v3.heap[L]? = some (.cells (List.replicate n (Value.int .i64 0)).toArray 3 (0, 0))) := Lib.hid (by exact ((HKv3.out.block _ (Array.getElem?_eq_some_iff.1 (HRL.out)).1 (fun e => e)).trans (HRL.out)))
      have HXW : Hid (v3.heap[W]? = some (.cells (List.replicate n (Value.int .i64 0)).toArray 3 (0, 0))) := Lib.hid (by exact HRW.out)
      have HNE : Hid (w.heap.size ≤ P ∧ P < L ∧ L < W ∧ W < v3.heap.size) := Lib.hid (by
        have h1 := HV0.out.size; have h2 := HSP.out; have h3 := HSL.out; have h4 := HSW.out
        have h5 := (Array.getElem?_eq_some_iff.1 HRP.out).1; have h6 := (Array.getElem?_eq_some_iff.1 HRL.out).1; have h7 := (Array.getElem?_eq_some_iff.1 HRW.out).1
        omega)
      have HNF : Hid (w.heap.size ≤ W ∧ w.heap.size ≤ L ∧ w.heap.size ≤ P ∧ W ≠ L ∧ W ≠ P ∧ L ≠ P ∧ W < v3.heap.size ∧ L < v3.heap.size ∧ P < v3.heap.size) := Lib.hid (by have := HNE.out; omega)
      clear HKv1 HKv2 HKv3 HSW HSL HSP HRW HRL HRP HNE HV1 HV2 HV0 hne
  all_goals
    refine Mix.mix_one 7 2 (by kernel_rfl) rfl rfl ?_
    simp only [List.drop_succ_cons, List.drop_zero, List.take_succ_cons, List.take_zero]
    go_wp2_with fail
    refine ⟨.inr ⟨⟨v3, HV3.out⟩, rfl⟩, ?_⟩
    refine Mix.mix_one 8 1 (by kernel_rfl) rfl rfl ?_
    simp only [List.drop_succ_cons, List.drop_zero, List.take_succ_cons, List.take_zero]
    go_wp2_with fail
    have hka := (Keeps.refl No v3).alloc (.cells #[.slice ca n cc, .slice (some ⟨W, 0, none⟩) n n, .slice (some ⟨L, 0, none⟩) n n, .slice (some ⟨P, 0, none⟩) n n, .slice none 0 0, .int .i64 0, .slice none 0 0] 56)
    have hrow : (v3.alloc (.cells #[.slice ca n cc, .slice (some ⟨W, 0, none⟩) n n, .slice (some ⟨L, 0, none⟩) n n, .slice (some ⟨P, 0, none⟩) n n, .slice none 0 0, .int .i64 0, .slice none 0 0] 56)).heap[v3.heap.size]? = some (.cells _ 56 (0, 0)) := heap_alloc_new _ _
    generalize v3.alloc (.cells #[.slice ca n cc, .slice (some ⟨W, 0, none⟩) n n, .slice (some ⟨L, 0, none⟩) n n, .slice (some ⟨P, 0, none⟩) n n, .slice none 0 0, .int .i64 0, .slice none 0 0] 56) = w4 at hka hrow ⊢
    obtain ⟨R, hR⟩ : ∃ q, v3.heap.size = q := ⟨_, rfl⟩
    rw [hR] at hrow ⊢
    have HF : Hid (FD w w4 R W L P n ca cc (fdz n 0) none 0 none 0) := Lib.hid (by
      obtain ⟨n1, n2, n3, n4, n5, n6, n7, n8, n9⟩ := HNF.out
      have rr : irow (List.replicate n 0) = List.replicate n (Value.int .i64 0) := by unfold irow; rw [List.map_replicate]
      have k := fun {q : Nat} (hq : v3.heap[q]? = some (.cells (List.replicate n (Value.int .i64 0)).toArray 3 (0, 0))) => ((by unfold RowAt; rw [rr]; exact (hka.block q (Array.getElem?_eq_some_iff.1 hq).1 (fun e => e)).trans hq) : RowAt w4 q (List.replicate n 0))
      refine ⟨HV3.out.trans hka (fun _ _ e => e), ⟨by rw [← hR]; exact HV3.out.size, n1, n2, n3⟩, ⟨n4, n5, n6⟩, hrow, k HXW.out, k HXL.out, by rw [fdz_zero]; exact k HXP.out, ⟨List.length_replicate, List.length_replicate, by rw [fdz_len _ _ (Nat.zero_le _)]⟩, World.ownsRow_nil _ _ _ _, (fun q e => nomatch e), ⟨[], World.ownsRow_nil _ _ _ _, (fun i l e => nomatch e)⟩⟩)
    refine ⟨.inr ⟨⟨w4, HV3.out.trans hka (fun _ _ e => e)⟩, rfl⟩, ?_⟩
    refine Mix.mix_one 9 0 (by kernel_rfl) rfl rfl ?_
    simp only [List.drop_succ_cons, List.drop_zero, List.take_succ_cons, List.take_zero]
    have HKW := Lib.hid (HV3.out.trans hka (fun _ _ e => e))
    clear hka hrow hR HXW HXL HXP HNF HV3
    go_wp2_with fail
    refine ⟨.inr ⟨⟨w4, HKW.out⟩, rfl⟩, ?_⟩
    refine Mix.mix_end (by kernel_rfl) ?_
    have c3 : w4.cell? ⟨R, 3, none⟩ = some (.slice (some ⟨P, 0, none⟩) n n) := HF.out.cell rfl
    go_wp2_with fail
    clear c3
    go_loopg [23] n (fun k x wr => ∃ i : Nat, x = .int .i64 (i : Int) ∧ i ≤ n ∧ k = n - i ∧ Hid (FD w wr R W L P n ca cc (fdz n i) none 0 none 0))
    case' atStart => exact ⟨0, rfl, Nat.zero_le _, rfl, HF⟩
    case' round =>
      obtain ⟨i, rfl, hi, hg, HR⟩ := hrel
      by_cases hlt : i < n
      · have hlt' : (i : Int) < (n : Int) := by omega
        have i0 : (0 : Int) ≤ (i : Int) := by omega
        have c3 : wr.cell? ⟨R, 3, none⟩ = some (.slice (some ⟨P, 0, none⟩) n n) := HR.out.cell rfl
        have cp : wr.cell? ⟨P, i, none⟩ = some (.int .i64 0) := HR.out.pt.cell (fdz_at hlt)
        have fp := HR.out.pt.frozen i
        have HN := Lib.hid (HR.out.setP i (-1))
        go_wp2_with fail
        go_roundg (n - (i + 1))
        case rel => exact ⟨i + 1, by go_num, by omega, rfl, Lib.hid (by rw [fdz_set hlt]; exact HN.out)⟩
        case measure => omega
      · obtain rfl : i = n := by omega
        have hlt' : ¬ (i : Int) < (i : Int) := by omega
        have HF2 : Hid (FDx w wr R W L P i ca cc (fd0 i)) := Lib.hid (by rw [← fdz_full]; exact ⟨_, _, _, _, HR.out⟩)
        clear HF HR
        go_wp2_with fail
        have HM0 : Hid (findsM i cs fuel ((List.range i).drop 0) (fd0 i) = some s) := Lib.hid HM.out
        obtain ⟨wA, rfl⟩ : ∃ W', W' = wr := ⟨_, rfl⟩
        go_loopg [35] i (fun k x wr => ∃ j : Nat, ∃ sj : Fdr, x = .int .i64 (j : Int) ∧ j ≤ i ∧ k = i - j ∧ Hid (FDx w wr R W L P i ca cc sj) ∧ Hid (findsM i cs fuel ((List.range i).drop j) sj = some s))
        case' atStart => exact ⟨0, fd0 i, rfl, Nat.zero_le _, rfl, HF2, HM0⟩
        case' round =>
          obtain ⟨j, sj, rfl, hj, hg2, HFJ, HMJ⟩ := hrel
          by_cases hjl : j < i
          · have hjl' : (j : Int) < (i : Int) := by omega
            have j0 : (0 : Int) ≤ (j : Int) := by omega
            have hm := HMJ.out
            rw [List.drop_eq_getElem_cons (by rw [List.length_range]; exact hjl), List.getElem_range, findsM] at hm
            obtain ⟨x, hx, hm2⟩ := Option.bind_eq_some_iff.1 hm
            obtain ⟨oa1, oc1, qa1, qc1, hf⟩ := HFJ.out
            have c1 : wr.cell? ⟨R, 1, none⟩ = some (.slice (some ⟨W, 0, none⟩) i i) := hf.cell rfl
            have cx : wr.cell? ⟨W, j, none⟩ = some (.int .i64 x) := hf.wh.cell hx
            clear hm hf hx
            by_cases hx0 : x = 0
            · rw [if_pos hx0] at hm2
              obtain ⟨s3, hv, hm3⟩ := Option.bind_eq_some_iff.1 hm2
              have e0 : (x == 0) = true := beq_iff_eq.2 hx0
              have HM3 := Lib.hid hm3
              have HVV := Lib.hid (fun (W1 : World) (h : FDx w W1 R W L P i ca cc sj) => visit_any i cs hn1 fuel w W1 R W L P ca cc sj (j : Int) s3 S HS.out HSC.out h hv)
              clear hm2 hx0 hv hm3
              go_wp2_with fail
              refine (HVV.out wr HFJ.out).mono ?_
              rintro e w6 ⟨rfl, hf6⟩
              have HF6 := Lib.hid hf6
              clear hf6 HVV c1 cx e0
              go_wp2_with fail
              go_roundg (i - (j + 1))
              case rel => exact ⟨j + 1, s3, by go_num, by omega, rfl, HF6, HM3⟩
              case measure => omega
            · rw [if_neg hx0] at hm2
              have e0 : (x == 0) = false := beq_eq_false_iff_ne.2 hx0
              have HM3 := Lib.hid hm2
              clear hm2 hx0
              go_wp2_with fail
              go_roundg (i - (j + 1))
              case rel => exact ⟨j + 1, sj, by go_num, by omega, rfl, HFJ, HM3⟩
              case measure => omega
          · obtain rfl : j = i := by omega
            have hjl' : ¬ (j : Int) < (j : Int) := by omega
            have HE : Hid (sj = s) := Lib.hid (by
              have h := HMJ.out
              rw [List.drop_eq_nil_of_le (by rw [List.length_range]; exact Nat.le_refl _), findsM] at h
              injection h)
            go_wp2_with fail
            go_returns
            exact ⟨R, rfl, W, L, P, by rw [← HE.out]; exact HFJ.out⟩
end Go.Proofs.YtkiimljdoebclaaDoor
