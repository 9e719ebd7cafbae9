/- live.In, Out: what is live at each block's beginning, and behind its end. -/
import Derived.Test.YtpjilcfmcbapcaaDoorLvReckon
import Derived.Test.YtpjilcfmcbapcaaDoorLvOpen
namespace Go.Proofs.YtpjilcfmcbapcaaDoor
open Go.RowKit
set_option linter.unusedVariables false
set_option linter.unusedSimpArgs false

/-- What is gone over. -/
structure SmF (f : Fx) : Prop where
  bn : f.bn ≤ 1000
  tos : ∀ b ∈ f.bl, (lastTo b.l).length ≤ 100
  args : ∀ b ∈ f.bl, ∀ x ∈ b.l, x.args.n ≤ 100000
def Fx.may (f : Fx) : Bool := decide (0 ≤ f.params) && f.formOk
theorem may_any (f : Fx) (fb fo : Nat) (w : World) (hf : f.at_ w fb fo) (hok : FxOk w f) :
    Calls Tryd.prog 22 #[.pointer (some ⟨fb, fo, none⟩)] w fun e w' => e = .returned (.bool f.may) ∧ Keeps No w w' := by
  have HF := Lib.hid (form_any f fb fo w hf hok)
  have c1 := hf 1 _ rfl
  have HM : Hid (f.may = (decide (0 ≤ f.params) && f.formOk)) := Lib.hid rfl
  clear hf hok
  by_cases hp : 0 ≤ f.params
  · have hp1 : f.params ≥ 0 := hp
    have HP := Lib.hid hp
    clear hp
    go_enter Tryd.func22, Tryd.ntmps22
    go_wp2_with fail
    refine HF.out.mono ?_
    rintro e w1 ⟨rfl, hk⟩
    have HK := Lib.hid hk
    clear hk
    go_wp2_with fail
    go_returns
    exact ⟨rb rfl (by rw [HM.out, decide_eq_true HP.out, Bool.true_and]), HK.out⟩
  · have hp1 : ¬ f.params ≥ 0 := hp
    have HP := Lib.hid hp
    clear hp
    go_enter Tryd.func22, Tryd.ntmps22
    go_wp2_with fail
    go_returns
    exact ⟨rb rfl (by rw [HM.out, decide_eq_false (by have := HP.out; omega), Bool.false_and]), Keeps.refl _ _⟩
theorem may_regs {f : Fx} (h : f.may = true) : ∃ R : Nat, f.regs = (R : Int) ∧ R ≤ 100000 ∧ f.formOk = true ∧ 0 < f.bl.length := by
  unfold Fx.may at h
  rw [Bool.and_eq_true, decide_eq_true_eq] at h
  have h2 := h.2
  unfold Fx.formOk at h2
  rw [Bool.and_eq_true, Bool.and_eq_true, Bool.and_eq_true, Bool.and_eq_true, decide_eq_true_eq, decide_eq_true_eq, decide_eq_true_eq] at h2
  obtain ⟨⟨⟨⟨h3, h4⟩, h5⟩, h6⟩, _⟩ := h2
  exact ⟨f.regs.toNat, by omega, by omega, h.2, by cases hl : f.bl with
    | nil => rw [hl] at h6; simp at h6
    | cons x t => simp⟩
/-- The answer of the work list, in memory. -/
structure LvR (w w' : World) (f : Fx) (fb fo M R : Nat) (I O : Nat → Nat) : Prop where
  least : Least (bls f) O
  bd : ∀ b, b < f.bn → I b = backs (blk (bls f) b) (O b) ∧ O b < 2 ^ R ∧ I b < 2 ^ R
  lv : Lv w w' M fb fo f.bn (wordsOf R) I O
  k : Keeps No w w'
theorem of_any (w : World) (f : Fx) (fb fo R : Nat) (hf : f.at_ w fb fo) (hok : FxOk w f) (hform : f.formOk = true) (hR : f.regs = (R : Int)) (hR2 : R ≤ 100000) (hs : SmF f) (ht : LaidT w) :
    Calls Tryd.prog 24 #[.pointer (some ⟨fb, fo, none⟩)] w fun e w' => ∃ M I O, e = .returned (.pointer (some ⟨M, 0, none⟩)) ∧ LvR w w' f fb fo M R I O := by
  have HR := Lib.hid (reckon_any w f fb fo R f.bn hf hok hform hR hR2 rfl hs.bn hs.tos hs.args ht)
  clear hf hok hform hR hs ht
  go_enter Tryd.func24, Tryd.ntmps24
  go_wp2_with fail
  refine HR.out.mono ?_
  rintro e w1 ⟨M, I, O, rfl, h1, h2, h3, h4⟩
  have H := Lib.hid (LvR.mk h1 h2 h3 h4)
  clear h1 h2 h3 h4
  go_wp2_with fail
  go_returns
  exact ⟨M, I, O, rfl, H.out⟩
/-- Rows of numbers, in a row of the call's own. -/
structure LL (B : Nat) (w : World) (v : Value) (ls : List (List Int)) : Prop where
  ex : ∃ vs : List Value, w.ownsRow B 22 1 v ls.length vs ∧ ∀ (i : Nat) (l : List Int), ls[i]? = some l → ∃ u, vs[i]? = some u ∧ w.ownsRow B 3 1 u l.length (irow l)
theorem wpList_appV (w : World) {ops : Array Oper} {rest : List Oper} {o : Oper} {a : Act} {Q : Exit → Act → World → Prop} (hgd : o.guard = none) (s x : Operand) (t : TypeId)
    (ho : o.op = .call { callee := .builtin .append, args := #[s, x], argTypes := #[t, t] }) (ht : Tryd.prog.underlying t = some (.slice 22))
    (B : Nat) (v : Value) (n : Nat) (xs : List Value) (u : Value) (q : Nat) (hs : a.eval s = v) (hown : w.ownsRow B 22 1 v n xs) (hx : a.eval x = .slice (some ⟨q, 0, none⟩) 1 1) (hq : w.heap[q]? = some (.cells #[u] 22 (0, 0))) (hu : u.oneCell' = true)
    (hn : n ≤ 999999) (hB : B ≤ w.heap.size)
    (h : ∀ g' cap w', w'.ownsRow B 22 1 (.slice (some ⟨g', 0, none⟩) (n + 1) cap) (n + 1) (xs ++ [u]) → w.grownBy w' v.ownBlock → wpList Tryd.prog ops Q rest (a.put o.dst (.slice (some ⟨g', 0, none⟩) (n + 1) cap)) w') : wpList Tryd.prog ops Q (o :: rest) a w := by
  obtain ⟨i0, hi, hz0, hz1, hz2⟩ := info_parts infoSI
  refine wpList_append_lies w hgd s x t ho B 22 i0 (.slice none 0 0) 1 24 ht hi hz0 hz1 hz2 rfl (by decide) v n xs hs hown ⟨q, 0, none⟩ 1 1 [u] hx rfl (fun j y hy => ?_) (fun y hy => by simp at hy; subst hy; exact hu) (by decide) (by unfold maxLen; omega) (by omega) hB _ rfl (fun g' cap w' k1 k2 k3 _ => h g' cap w' k1 k2)
  cases j with
  | zero => obtain rfl : u = y := by simpa using hy
            have e : (⟨q, 0, none⟩ : Addr).add 0 = ⟨q, 0, none⟩ := by unfold Addr.add; split <;> simp_all
            rw [e]; unfold World.cell?; simp only; rw [hq]; rfl
  | succ j => cases hy
set_option maxRecDepth 100000 in
set_option maxHeartbeats 3200000 in
theorem lists_any (w : World) (G n W R : Nat) (gi X : Nat → Nat) (hR : R ≤ 64 * W) (hW : W ≤ 10000) (hn : n ≤ 1000) (hG : w.heap[G]? = some (.cells (slotRow n n gi W).toArray 66 (0, 0))) (hX : ∀ b, b < n → WdAt w (gi b) (X b) W ∧ X b < 2 ^ R) (ht : LaidT w) :
    Calls Tryd.prog 23 #[.slice (some ⟨G, 0, none⟩) n n] w fun e w' => ∃ v, e = .returned v ∧ LL w.heap.size w' v ((List.range n).map (fun b => listB (X b) R)) ∧ Keeps No w w' := by
  have HG := Lib.hid hG
  have HX := Lib.hid hX
  have HT := Lib.hid ht
  clear hG hX ht
  go_enter Tryd.func23, Tryd.ntmps23
  go_wp2_with fail
  go_loopg [3, 8] n (fun k v u wr => ∃ i : Nat, u = .int .i64 (i : Int) ∧ i ≤ n ∧ k = n - i ∧ Hid (LL w.heap.size wr v ((List.range i).map (fun b => listB (X b) R))) ∧ Hid (Keeps No w wr))
  case atStart => exact ⟨0, rfl, Nat.zero_le _, rfl, Lib.hid ⟨⟨[], World.ownsRow_nil _ _ _ _, fun i l h => by cases h⟩⟩, Lib.hid (Keeps.refl _ _)⟩
  case round =>
    obtain ⟨i, rfl, hi, hg, HL, HK⟩ := hrel
    by_cases hlt : i < n
    · have hlt' : (i : Int) < (n : Int) := by omega
      have i0 : (0 : Int) ≤ (i : Int) := by omega
      have hc : wr.cell? ⟨G, i, none⟩ = some (wv (gi i) W) := HK.out.cell0 (by rw [cell_of_row w G i _ _ _ HG.out, List.getElem?_toArray]; exact slotRow_get _ _ hlt hlt)
      have HLS := Lib.hid (list_any wr (gi i) (X i) W hW ((HX.out i hlt).1.keep HK.out (fun e => e)) (HT.out.keep HK.out (fun e => e)))
      go_wp2_with fail
      refine HLS.out.mono ?_
      rintro e w1 ⟨u, rfl, hu⟩
      rw [listB_more (HX.out i hlt).2 (64 * W) hR] at hu
      obtain ⟨aa, ca, rfl, _⟩ := own_form hu.o
      have HU := Lib.hid hu
      have HK1 : Hid (Keeps No w w1) := Lib.hid (HK.out.trans hu.k (fun _ _ e => e))
      obtain ⟨vs, hvs, hall⟩ := HL.out.ex
      rw [List.length_map, List.length_range] at hvs
      have HV : Hid (w1.ownsRow w.heap.size 22 1 u3 i vs) := Lib.hid (own_keep hvs hu.k (fun _ e => e.elim))
      have HALL : Hid (∀ (j : Nat) (l : List Int), ((List.range i).map (fun b => listB (X b) R))[j]? = some l → ∃ y, vs[j]? = some y ∧ w1.ownsRow w.heap.size 3 1 y l.length (irow l)) := Lib.hid (fun j l hl => by
        obtain ⟨y, h1, h2⟩ := hall j l hl
        exact ⟨y, h1, own_keep h2 hu.k (fun _ e => e.elim)⟩)
      obtain ⟨ul, hul⟩ : ∃ k, (listB (X i) R).length = k := ⟨_, rfl⟩
      rw [hul] at HU ⊢
      have HUL := Lib.hid hul
      clear hul
      clear hu hvs hall
      go_wp2_with (at_builtin; refine wpList_appV _ rfl (.tmp 12) (.tmp 15) 40 rfl Tryd.underlying40 w.heap.size u3 i vs (.slice aa ul ca) w1.heap.size rfl (HV.out.alloc _) rfl (heap_alloc_new _ _) rfl (by omega) (by have := HK1.out.size; simp; omega) ?_)
      intro g2 cap2 w2 ho2 hg2
      have hk2 : Keeps (fun q => u3.ownBlock = some q) w1 w2 := ((Keeps.refl _ _).alloc _).grown hg2 (fun q e => .inl e)
      have HK2 : Hid (Keeps No w w2) := Lib.hid (HK1.out.trans hk2 (fun q hq e => by have := own_lo HV.out q e; omega))
      have hno : ∀ (y : Value) (k : Nat) (xs : List Value), w1.ownsRow w.heap.size 3 1 y k xs → w2.ownsRow w.heap.size 3 1 y k xs := fun y k xs hy => own_keep hy hk2 (fun q e hq => by
        obtain ⟨c1, h1⟩ := own_typ HV.out e
        obtain ⟨c2, h2⟩ := own_typ hy hq
        exact type_ne h1 h2 (by decide) rfl)
      have HL2 : Hid (LL w.heap.size w2 (.slice (some ⟨g2, 0, none⟩) (i + 1) cap2) ((List.range (i + 1)).map (fun b => listB (X b) R))) := Lib.hid ⟨⟨vs ++ [.slice aa ul ca], by rw [List.length_map, List.length_range]; exact ho2, fun j l hl => by
        have hvl : vs.length = i := by have := HV.out.1; omega
        rw [List.range_succ, List.map_append] at hl
        by_cases hj : j < i
        · rw [List.getElem?_append_left (by rw [List.length_map, List.length_range]; exact hj)] at hl
          obtain ⟨y, h1, h2⟩ := HALL.out j l hl
          exact ⟨y, by rw [List.getElem?_append_left (by omega)]; exact h1, hno _ _ _ h2⟩
        · have hj2 : j = i := by
            have := (List.getElem?_eq_some_iff.1 hl).1
            simp at this; omega
          subst hj2
          rw [List.getElem?_append_right (by simp), List.length_map, List.length_range, Nat.sub_self] at hl
          obtain rfl : listB (X j) R = l := by simpa using hl
          exact ⟨_, by rw [List.getElem?_append_right (by omega), hvl, Nat.sub_self]; rfl, hno _ _ _ (by rw [HUL.out]; exact own_mono (by have := HU.out.o; rw [HUL.out] at this; exact this) HK.out.size)⟩⟩⟩
      clear ho2 hg2 hk2 hno
      go_wp2_with fail
      go_roundg (n - (i + 1))
      case rel => exact ⟨i + 1, by go_num, by omega, rfl, HL2, HK2⟩
      case measure => omega
    · obtain rfl : i = n := by omega
      have hlt' : ¬ (i : Int) < (i : Int) := by omega
      go_wp2_with fail
      go_returns
      exact ⟨_, rfl, HL.out, HK.out⟩
end Go.Proofs.YtpjilcfmcbapcaaDoor
