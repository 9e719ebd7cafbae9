/- rising: a set's numbers, the least one first. -/
import Derived.Test.YtkiimljdoebclaaDoorGrOfs
import Derived.Test.YtkiimljdoebclaaDoorGrPdqs
import Derived.Maps.RangeWalk
import Derived.Sort.KeysCollected
namespace Go.Proofs.YtkiimljdoebclaaDoor
open Go.RowKit Go.Maps
set_option linter.unusedVariables false
set_option linter.unusedSimpArgs false

def keys (al : List (Int × Int)) : List Int := al.map Prod.fst
theorem kget_key {al : List (Int × Int)} {x : Int} : (kget al x).isSome = true ↔ x ∈ keys al := by
  induction al with
  | nil => simp [kget, keys]
  | cons p t ih =>
    obtain ⟨a, b⟩ := p
    rw [kget_cons]
    unfold keys at ih ⊢
    rw [List.map_cons, List.mem_cons]
    by_cases h : a = x
    · simp [h]
    · rw [if_neg h, ih]
      constructor
      · exact .inr
      · rintro (e | e)
        · exact absurd e.symm h
        · exact e
theorem keys_nodup {al : List (Int × Int)} (h : KOnce al) : (keys al).Nodup := by
  induction al with
  | nil => exact List.nodup_nil
  | cons p t ih =>
    obtain ⟨a, b⟩ := p
    refine List.nodup_cons.2 ⟨fun hm => ?_, ih h.2⟩
    have := kget_key.2 hm
    rw [h.1] at this
    cases this
/-- What was met so far. -/
def CollI (al : List (Int × Int)) (left : Lit → Bool) (ss : List Int) : Prop := ss.Nodup ∧ ∀ x, x ∈ ss ↔ (x ∈ keys al ∧ left (.int .i64 x) = false)
theorem CollI.len {al : List (Int × Int)} {left : Lit → Bool} {ss : List Int} (h : CollI al left ss) (ho : KOnce al) : ss.length ≤ al.length := by
  have h1 : ss.length ≤ (keys al).length := List.Nodup.length_le_of_subset h.1 (fun x hx => ((h.2 x).1 hx).1)
  simpa [keys] using h1
theorem CollI.perm {al : List (Int × Int)} {left : Lit → Bool} {ss : List Int} (h : CollI al left ss) (ho : KOnce al) (hl : ∀ kl, left kl = false) : ss.Perm (keys al) :=
  (List.perm_ext_iff_of_nodup h.1 (keys_nodup ho)).2 (fun x => by rw [h.2 x, hl]; simp)
theorem wfG_I64 {x : Int} (h : (Lit.int .i64 x).wf = true) : I64 x := by
  have h1 : IntKind.i64.min = -9223372036854775808 := rfl
  have h2 : IntKind.i64.max = 9223372036854775807 := rfl
  simp [Lit.wf] at h
  unfold I64; omega
theorem CollI.step {al : List (Int × Int)} {left : Lit → Bool} {ss : List Int} (h : CollI al left ss) {x : Int} (hlk : left (.int .i64 x) = true) (hx : x ∈ keys al) : CollI al (fun z => left z && !z.sameKey (.int .i64 x)) (ss ++ [x]) := by
  have hnew : x ∉ ss := fun hx => by have := ((h.2 x).1 hx).2; rw [hlk] at this; cases this
  refine ⟨List.nodup_append.2 ⟨h.1, by simp, fun a ha b hb => by simp at hb; subst hb; exact fun e => hnew (e ▸ ha)⟩, fun y => ?_⟩
  by_cases hy : y = x
  · subst hy; simp [hx, Lit.sameKey]
  · simp [h.2 y, hy, Lit.sameKey]
set_option maxRecDepth 100000 in
set_option maxHeartbeats 6400000 in
/-- A set's numbers, rising. -/
theorem rising_any (w : World) (m : Nat) (al : List (Int × Int)) (h : MapK mapII w m al) (hl : al.length ≤ 13) :
    Calls Tryd.prog 26 #[.map (some m)] w fun e w' => ∃ v, e = .returned v ∧ w'.ownsRow w.heap.size 3 1 v al.length (irow (isort (keys al))) ∧ Keeps No w w' := by
  obtain ⟨n, D, hown, htidy, hsize, hall⟩ := h.ex
  have hlt := h.lt
  have HM := Lib.hid h
  have HALL : Hid (∀ x, I64 x → has D (.int .i64 x) = (kget al x).isSome) := Lib.hid (fun x hx => (hall x hx).1)
  have HLT := Lib.hid hlt
  have HL := Lib.hid hl
  have hStart : CollI al (has D) [] := ⟨List.nodup_nil, fun x => ⟨(fun h => nomatch h), fun ⟨h1, h2⟩ => by
    have hk := kget_key.2 h1
    obtain ⟨v, hv⟩ := Option.isSome_iff_exists.1 hk
    rw [HALL.out x (HM.out.kok x v hv).1, hk] at h2
    cases h2⟩⟩
  have HST := Lib.hid hStart
  have HOWN := Lib.hid hown
  have HSZ := Lib.hid hsize
  clear h hall hlt hStart htidy hl hown hsize
  go_enter Tryd.func26, Tryd.ntmps26
  go_wp2_with (first | (at_range; refine wpList_range_own _ rfl _ 57 rfl 3 3 (int_keyed Tryd.underlying3) Tryd.underlying57 (plainElem Tryd.prog 3) m n D rfl HOWN.out ?_; intro w0 hrg0 hg0 hs0) | fail)
  go_frame
  have HRG0 := Lib.hid hrg0
  have HG0 := Lib.hid hg0
  obtain ⟨r, hr⟩ : ∃ r, w.heap.size = r := ⟨_, rfl⟩
  rw [hr] at HRG0 hs0 HLT ⊢
  have HR := Lib.hid hr
  clear hrg0 hg0 hr
  have HS0 := Lib.hid hs0
  clear hs0
  go_loopg [3] (Maps.size D) (fun k u wr => ∃ left ss, Hid (wr.ranges Tryd.prog 3 (plainElem Tryd.prog 3) m r n D left k) ∧ Hid (CollI al left ss ∧ wr.ownsRow (r + 1) 3 1 u ss.length (irow ss)) ∧ Hid (Keeps No w wr))
  case atStart => exact ⟨has D, [], HRG0, Lib.hid ⟨HST.out, World.ownsRow_nil _ _ _ _⟩, Lib.hid ((Keeps.refl _ w).grown HG0.out (fun q e => by cases e))⟩
  case round =>
    obtain ⟨left, ss, HRG, HC, HK⟩ := hrel
    have hsl : ss.length ≤ 13 := Nat.le_trans (HC.out.1.len HM.out.once) HL.out
    go_wp2_with (first | (at_next; refine wpList_next_ranges_ii _ rfl _ rfl 3 3 .i64 .i64 (int_keyed Tryd.underlying3) Tryd.underlying3 Tryd.underlying3 m r n D left gk rfl HRG.out ?_ ?_) | fail)
    · intro hc0 hl0
      have HO := Lib.hid (HC.out.2)
      have HP := Lib.hid (HC.out.1.perm HM.out.once hl0)
      have HS := Lib.hid (fun (W : World) h => sort_more W (r + 1) ss.length u3 ss hsl h)
      clear hc0 hl0
      go_wp2_with fail
      refine (HS.out _ HO.out).mono ?_
      rintro e w2 ⟨rfl, ho, hk⟩
      have HO2 := Lib.hid ho
      have HK2 := Lib.hid hk
      clear ho hk
      go_wp2_with fail
      go_returns
      have e1 : ss.length = al.length := by rw [HP.out.length_eq]; simp [keys]
      have e2 : isort ss = isort (keys al) := rising_one ((isort_perm ss).trans (HP.out.trans (isort_perm _).symm)) (isort_rising _) (isort_rising _)
      refine ⟨_, rfl, own_mono (by have := HO2.out; rw [e1, e2] at this; exact this) (by have := HR.out; omega), HK.out.trans HK2.out (fun q hq e => by have := ownG_lo HO.out q e; have := HR.out; omega)⟩
    · intro x c w1 cnt1 hwx hwc hlx hat hrg1 hlt1 hg1 hs1 hen
      have hk1 : x ∈ keys al := kget_key.1 (by rw [← HALL.out x (wfG_I64 hwx)]; exact has_true_of_atKey hat)
      have HST1 := Lib.hid (HC.out.1.step hlx hk1)
      have HRG1 := Lib.hid hrg1
      have HO1 : Hid (w1.ownsRow (r + 1) 3 1 u3 ss.length (irow ss)) := Lib.hid (HC.out.2.kept hg1 (by
        by_cases e : u3.ownBlock = none
        · exact .inl e
        · refine .inr (fun e2 => ?_)
          have := ownG_lo HC.out.2 r e2
          omega))
      have HK1 : Hid (Keeps No w w1) := Lib.hid (HK.out.grown hg1 (fun q e => by injection e with e; subst e; exact .inr (by rw [HR.out]; exact Nat.le_refl _)))
      have HLT1 := Lib.hid hlt1
      have hsz : r + 1 ≤ w1.heap.size := HRG1.out.lt
      clear hwx hwc hlx hat hrg1 hg1 hk1 hlt1 hs1
      go_wp2_with (at_builtin; refine wpList_appG _ rfl (.tmp 11) (.tmp 13) rfl (r + 1) u3 ss.length ss x w1.heap.size rfl (HO1.out.alloc _) rfl (heap_alloc_new _ _) (by omega) (by simp; omega) ?_)
      intro g' cap w2 ho hg hgo
      have hk2 : Keeps (fun q => u3.ownBlock = some q) w1 w2 := ((Keeps.refl _ _).alloc _).grown hg (fun q e => .inl e)
      have hlo : ∀ q, u3.ownBlock = some q → r + 1 ≤ q := fun q e => ownG_lo HO1.out q e
      have HK2 : Hid (Keeps No w w2) := Lib.hid (HK1.out.trans hk2 (fun q hq e => by have := hlo q e; have := HR.out; omega))
      have HRG2 : Hid (w2.ranges Tryd.prog 3 (plainElem Tryd.prog 3) m r n D (fun z => left z && !z.sameKey (.int .i64 x)) cnt1) := Lib.hid (((HRG1.out.alloc _).kept hg (fun e => by have := hlo m e.symm; have := HLT.out; omega) (fun e => by have := hlo r e.symm; omega)))
      have HC2 : Hid (CollI al (fun z => left z && !z.sameKey (.int .i64 x)) (ss ++ [x]) ∧ w2.ownsRow (r + 1) 3 1 (.slice (some ⟨g', 0, none⟩) (ss.length + 1) cap) (ss ++ [x]).length (irow (ss ++ [x]))) := Lib.hid ⟨HST1.out, by rw [List.length_append, List.length_singleton]; exact ho⟩
      clear ho hg hgo hk2 hlo hsz
      go_wp2_with fail
      go_roundg cnt1
      case rel => exact ⟨_, ss ++ [x], HRG2, HC2, HK2⟩
      case measure => exact HLT1.out

end Go.Proofs.YtkiimljdoebclaaDoor
