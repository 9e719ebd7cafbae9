/- calls' closure add: each function once. -/
import Derived.Test.YtkiimljdoebclaaDoorGrTaken
import Derived.Test.YtkiimljdoebclaaDoorGrFds
namespace Go.Proofs.YtkiimljdoebclaaDoor
open Go.RowKit Gm
set_option linter.unusedVariables false
set_option linter.unusedSimpArgs false

/-- What add writes: the flags' row SE, the list's variable LB. -/
structure AD (w2 w : World) (SB SE FB LB n f : Nat) (acc : List Int) (la : Option Addr) (lc : Nat) : Prop where
  kp : Keeps (fun q => q = SE ∨ q = LB) w2 w
  sb : w.heap[SB]? = some (.cells #[.slice (some ⟨SE, 0, none⟩) n n] 28 (0, 0))
  fb : w.heap[FB]? = some (.cells #[.int .i64 (f : Int)] 3 (0, 0))
  lb : w.heap[LB]? = some (.cells #[.slice la acc.length lc] 28 (0, 0))
  se : ∃ sn, RowAt w SE sn ∧ sn.length = n ∧ (∀ (g : Nat) x, sn[g]? = some x → x ≤ ((f + 1 : Nat) : Int)) ∧ ∀ g, g < n → (sn[g]? = some ((f + 1 : Nat) : Int) ↔ (g : Int) ∈ acc)
  own : w.ownsRow w2.heap.size 3 1 (.slice la acc.length lc) acc.length (irow acc)
  lt : SB < w2.heap.size ∧ SE < w2.heap.size ∧ FB < w2.heap.size ∧ LB < w2.heap.size
  ne : SB ≠ LB ∧ SE ≠ FB
section
variable {w2 w w' : World} {SB SE FB LB n f : Nat} {acc : List Int} {la : Option Addr} {lc : Nat}
theorem AD.no (h : AD w2 w SB SE FB LB n f acc la lc) (hk : Keeps No w w') : AD w2 w' SB SE FB LB n f acc la lc := by
  have b := fun {q : Nat} (hq : q < w2.heap.size) => hk.block q (Nat.lt_of_lt_of_le hq h.kp.size) (fun e => e)
  obtain ⟨sn, h1, h2, h3⟩ := h.se
  exact ⟨h.kp.trans hk (fun _ _ e => e.elim), (b h.lt.1).trans h.sb, (b h.lt.2.2.1).trans h.fb, (b h.lt.2.2.2).trans h.lb, ⟨sn, h1.keep hk (fun e => e), h2, h3⟩, own_kept h.own (fun q hq => hk.block q (ownG_lt h.own q hq) (fun e => e)), h.lt, h.ne⟩
/-- One that was there. -/
theorem AD.mark (h : AD w2 w SB SE FB LB n f acc la lc) (u : Nat) (hu : u < n) (hnew : (u : Int) ∉ acc) :
    ∃ sn, RowAt (w.setCell ⟨SE, u, none⟩ (.int .i64 ((f + 1 : Nat) : Int))) SE sn ∧ sn.length = n ∧ (∀ (g : Nat) x, sn[g]? = some x → x ≤ ((f + 1 : Nat) : Int)) ∧ ∀ g, g < n → (sn[g]? = some ((f + 1 : Nat) : Int) ↔ (g : Int) ∈ acc ++ [(u : Int)]) := by
  obtain ⟨sn, h1, h2, h3, h4⟩ := h.se
  refine ⟨_, h1.set u _, by rw [List.length_set]; exact h2, fun g x hx => ?_, fun g hg => ?_⟩
  · by_cases e : u = g
    · subst e; rw [List.getElem?_set_self (by omega)] at hx; injection hx with hx; omega
    · rw [List.getElem?_set_ne e] at hx; exact h3 g x hx
  · by_cases e : u = g
    · subst e; rw [List.getElem?_set_self (by omega)]; simp
    · rw [List.getElem?_set_ne e, h4 g hg, List.mem_append, List.mem_singleton]
      constructor
      · exact .inl
      · rintro (e2 | e2)
        · exact e2
        · exact absurd (by omega) e
/-- One more. -/
theorem AD.push {u g' cap : Nat} (h : AD w2 w SB SE FB LB n f acc la lc) (hu : u < n) (hnew : (u : Int) ∉ acc)
    (hk : Keeps (fun q => (Value.slice la acc.length lc).ownBlock = some q) (w.setCell ⟨SE, u, none⟩ (.int .i64 ((f + 1 : Nat) : Int))) w')
    (ho : w'.ownsRow w2.heap.size 3 1 (.slice (some ⟨g', 0, none⟩) (acc.length + 1) cap) (acc.length + 1) (irow (acc ++ [(u : Int)]))) :
    AD w2 (w'.setCell ⟨LB, 0, none⟩ (.slice (some ⟨g', 0, none⟩) (acc.length + 1) cap)) SB SE FB LB n f (acc ++ [(u : Int)]) (some ⟨g', 0, none⟩) cap := by
  have hl : (acc ++ [(u : Int)]).length = acc.length + 1 := by simp
  obtain ⟨sn, h1, h2, h3⟩ := h.mark u hu hnew
  have hk1 := setC w ⟨SE, u, none⟩ (.int .i64 ((f + 1 : Nat) : Int))
  have hk2 := setC w' ⟨LB, 0, none⟩ (.slice (some ⟨g', 0, none⟩) (acc.length + 1) cap)
  have hlo : ∀ q, (Value.slice la acc.length lc).ownBlock = some q → w2.heap.size ≤ q := fun q e => ownG_lo h.own q e
  have hSELB : SE ≠ LB := by obtain ⟨s0, t0, _⟩ := h.se; exact (ne_type h.lb t0 (by decide)).symm
  have b : ∀ {q : Nat}, q < w2.heap.size → q ≠ SE → q ≠ LB → (w'.setCell ⟨LB, 0, none⟩ (.slice (some ⟨g', 0, none⟩) (acc.length + 1) cap)).heap[q]? = w.heap[q]? := fun {q} hq e1 e2 => by
    have hq1 := Nat.lt_of_lt_of_le hq h.kp.size
    have hq2 := Nat.lt_of_lt_of_le hq1 hk1.size
    exact ((hk2.block q (Nat.lt_of_lt_of_le hq2 hk.size) e2).trans (hk.block q hq2 (fun e => by have := hlo q e; omega))).trans (hk1.block q hq1 e1)
  have hLB : w'.heap[LB]? = some (.cells #[.slice la acc.length lc] 28 (0, 0)) := by
    have hq1 := Nat.lt_of_lt_of_le h.lt.2.2.2 h.kp.size
    exact ((hk.block LB (Nat.lt_of_lt_of_le hq1 hk1.size) (fun e => by have := hlo LB e; have := h.lt; omega)).trans (hk1.block LB hq1 (fun e => hSELB e.symm))).trans h.lb
  refine ⟨?_, (b h.lt.1 (fun e => ?_) h.ne.1).trans h.sb, (b h.lt.2.2.1 (fun e => h.ne.2 e.symm) (fun e => ?_)).trans h.fb, ?_, ⟨sn, (h1.keep hk (fun e => by have := hlo SE e; have := h.lt; omega)).keep hk2 hSELB, h2, h3⟩, ?_, h.lt, h.ne⟩
  · exact ((h.kp.trans hk1 (fun q _ e => .inl e)).trans hk (fun q hq e => by have := hlo q e; omega)).trans hk2 (fun q _ e => .inr e)
  · obtain ⟨s0, t0, _⟩ := h.se; exact ne_type h.sb t0 (by decide) e
  · exact ne_type h.fb h.lb (by decide) e
  · rw [hl, heap_setCell_same w' LB 0 _ _ _ hLB]; rfl
  · rw [hl]
    exact own_kept ho (fun q hq => hk2.block q (ownG_lt ho q hq) (fun e => by have := ownG_lo ho q hq; have := h.lt; simp only at e; omega))
end
set_option maxRecDepth 100000 in
set_option maxHeartbeats 12800000 in
theorem add_any {w2 w : World} {SB SE FB LB n f : Nat} {acc : List Int} {la : Option Addr} {lc : Nat} (s : Sl) (hn : n ≤ 1000000) (hf : f ≤ 1000000) (h : AD w2 w SB SE FB LB n f acc la lc) (hs : SlAt w2 s) (hsb : ∀ b o, s.a = some ⟨b, o, none⟩ → b ≠ SE ∧ b ≠ LB)
    (hr : ∀ z ∈ s.l, ∃ u : Nat, z = (u : Int) ∧ u < n) (hl : acc.length + s.n ≤ 999999) :
    Calls Tryd.prog 30 (#[s.v, .pointer (some ⟨SB, 0, none⟩), .pointer (some ⟨FB, 0, none⟩), .pointer (some ⟨LB, 0, none⟩)]) w fun e w' => e = .returned (.tuple #[]) ∧ ∃ la lc, AD w2 w' SB SE FB LB n f (addM acc s.l) la lc := by
  have HS := Lib.hid hs
  have H0 := Lib.hid h
  have HSB := Lib.hid hsb
  have HR := Lib.hid hr
  have hcs := hs.cap
  unfold maxLen at hcs
  clear hs h hsb hr
  obtain ⟨sa, sn, sc, sl⟩ := s
  simp only at hl hcs HSB HR
  have HLEN : Hid (sl.length = sn) := Lib.hid HS.out.len
  change Calls Tryd.prog 30 #[.slice sa sn sc, .pointer (some ⟨SB, 0, none⟩), .pointer (some ⟨FB, 0, none⟩), .pointer (some ⟨LB, 0, none⟩)] w _
  go_enter Tryd.func30, Tryd.ntmps30
  go_wp2_with fail
  go_loopg [9] sn (fun k x wr => ∃ i : Nat, ∃ ac : List Int, ∃ la lc, x = .int .i64 (i : Int) ∧ i ≤ sn ∧ k = sn - i ∧ Hid (AD w2 wr SB SE FB LB n f ac la lc) ∧ Hid (addM ac (sl.drop i) = addM acc sl ∧ ac.length ≤ acc.length + i))
  case atStart => exact ⟨0, acc, la, lc, rfl, Nat.zero_le _, rfl, H0, Lib.hid ⟨rfl, Nat.le_refl _⟩⟩
  case round =>
    obtain ⟨i, ac, la1, lc1, rfl, hi, hg, HA, HE⟩ := hrel
    by_cases hlt : i < sn
    · have hlt' : (i : Int) < (sn : Int) := by omega
      have i0 : (0 : Int) ≤ (i : Int) := by omega
      obtain ⟨b1, o1, z, hz, e1, cz⟩ := HS.out.get hlt
      simp only at hz e1 cz
      subst e1
      obtain ⟨u, rfl, hun⟩ := HR.out z (List.mem_of_getElem? hz)
      have hdrop : sl.drop i = (u : Int) :: sl.drop (i + 1) := by
        rw [List.drop_eq_getElem_cons (by have := HLEN.out; omega)]
        congr 1
        exact (List.getElem?_eq_some_iff.1 hz).2
      have he := HE.out.1
      rw [hdrop, addM] at he
      have u0 : (0 : Int) ≤ (u : Int) := by omega
      have un : (u : Int) < (n : Int) := by omega
      obtain ⟨ss, s1, s2, s3, s4⟩ := HA.out.se
      obtain ⟨y, hy⟩ : ∃ y, ss[u]? = some y := ⟨_, List.getElem?_eq_getElem (by omega)⟩
      have cz' := HA.out.kp.cell cz (fun e => by obtain ⟨e1, e2⟩ := HSB.out _ _ rfl; rcases e with e | e; exact e1 e; exact e2 e)
      have cs : wr.cell? ⟨SB, 0, none⟩ = some (.slice (some ⟨SE, 0, none⟩) n n) := by rw [cell_of_row wr SB 0 _ _ _ HA.out.sb]; rfl
      have cy := s1.cell hy
      have cf : wr.cell? ⟨FB, 0, none⟩ = some (.int .i64 (f : Int)) := by rw [cell_of_row wr FB 0 _ _ _ HA.out.fb]; rfl
      obtain ⟨fn, hfn⟩ : ∃ k, f + 1 = k := ⟨_, rfl⟩
      have ef : IntKind.i64.wrap ((f : Int) + 1) = (fn : Int) := by rw [IntKind.wrap_i64]; omega
      have HFN := Lib.hid hfn
      by_cases hmem : (u : Int) ∈ ac
      · have hy2 : y = (fn : Int) := by have := (s4 u hun).2 hmem; rw [hy] at this; injection this with e; omega
        rw [if_pos hmem] at he
        have HE2 := Lib.hid he
        have hb : (y != (fn : Int)) = false := by rw [hy2]; simp
        clear hmem he hdrop hz cz s1 s2 s3 s4 hy hy2 hfn
        go_wp2_with fail
        go_quiet (fail)
        have HA2 := Lib.hid (HA.out.no ((Keeps.refl No wr).drewN nq))
        go_wp2_with fail
        go_roundg (sn - (i + 1))
        case rel => exact ⟨i + 1, ac, la1, lc1, by go_num, by omega, rfl, HA2, Lib.hid ⟨HE2.out, by have := HE.out.2; omega⟩⟩
        case measure => omega
      · have hy2 : y ≠ (fn : Int) := fun e => hmem ((s4 u hun).1 (by rw [hy, e, ← hfn]))
        rw [if_neg hmem] at he
        have HE2 := Lib.hid he
        have HM := Lib.hid hmem
        have hb : (y != (fn : Int)) = true := bne_iff_ne.2 hy2
        clear hmem he hdrop hz cz s1 s2 s3 s4 hy hy2 hfn
        go_wp2_with fail
        go_quiet (fail)
        have HA2 := Lib.hid (HA.out.no ((Keeps.refl No wr).drewN nq))
        generalize wr.drewN nq = w3 at HA2 ⊢
        clear cs cy cf cz'
        obtain ⟨ss2, s1, s2, s3, s4⟩ := HA2.out.se
        obtain ⟨y2, hy2⟩ : ∃ y, ss2[u]? = some y := ⟨_, List.getElem?_eq_getElem (by omega)⟩
        have cs : w3.cell? ⟨SB, 0, none⟩ = some (.slice (some ⟨SE, 0, none⟩) n n) := by rw [cell_of_row w3 SB 0 _ _ _ HA2.out.sb]; rfl
        have cy := s1.cell hy2
        have fy := s1.frozen u
        have cf : w3.cell? ⟨FB, 0, none⟩ = some (.int .i64 (f : Int)) := by rw [cell_of_row w3 FB 0 _ _ _ HA2.out.fb]; rfl
        clear s1 s2 s3 s4 hy2 HA
        go_upto_region 5 with fail
        obtain ⟨an, han⟩ : ∃ k, ac.length = k := ⟨_, rfl⟩
        have HAN := Lib.hid han
        have hlo : ∀ q, (Value.slice la1 ac.length lc1).ownBlock = some q → w2.heap.size ≤ q := fun q e => ownG_lo HA2.out.own q e
        have hkm := setC w3 ⟨SE, u, none⟩ (.int .i64 (fn : Int))
        have HOM : Hid ((w3.setCell ⟨SE, u, none⟩ (.int .i64 (fn : Int))).ownsRow w2.heap.size 3 1 (.slice la1 an lc1) an (irow ac)) := Lib.hid (by
          rw [← han]
          exact own_kept HA2.out.own (fun q hq => hkm.block q (ownG_lt HA2.out.own q hq) (fun e => by have := hlo q hq; have := HA2.out.lt; simp only at e; omega)))
        have hnLB : SE ≠ LB := by obtain ⟨s0, t0, _⟩ := HA2.out.se; exact (ne_type HA2.out.lb t0 (by decide)).symm
        have hLBm : (w3.setCell ⟨SE, u, none⟩ (.int .i64 (fn : Int))).heap[LB]? = some (.cells #[.slice la1 an lc1] 28 (0, 0)) := by
          rw [← han]
          exact (hkm.block LB (Array.getElem?_eq_some_iff.1 HA2.out.lb).1 (fun e => hnLB e.symm)).trans HA2.out.lb
        have HLBM := Lib.hid hLBm
        have cl : (w3.setCell ⟨SE, u, none⟩ (.int .i64 (fn : Int))).cell? ⟨LB, 0, none⟩ = some (.slice la1 an lc1) := by rw [cell_of_row _ LB 0 _ _ _ hLBm]; rfl
        have hsm : w2.heap.size ≤ (w3.setCell ⟨SE, u, none⟩ (.int .i64 (fn : Int))).heap.size := Nat.le_trans HA2.out.kp.size hkm.size
        obtain ⟨w4, hw4⟩ : ∃ W, w3.setCell ⟨SE, u, none⟩ (.int .i64 (fn : Int)) = W := ⟨_, rfl⟩
        rw [hw4] at HOM HLBM cl hsm ⊢
        have HW4 := Lib.hid hw4
        have han9 : an ≤ 999999 := by have := HE.out.2; omega
        clear hw4 han hlo hkm hnLB hLBm cs cy fy cf
        go_wp2_with (at_builtin; refine wpList_appG _ rfl (.tmp 25) (.tmp 27) rfl w2.heap.size (.slice la1 an lc1) an ac (u : Int) w4.heap.size rfl (HOM.out.alloc _) rfl (heap_alloc_new _ _) han9 (by simp; omega) ?_)
        intro g' cap w5 ho hg5 hgo
        have hk5 : Keeps (fun q => (Value.slice la1 an lc1).ownBlock = some q) w4 w5 := ((Keeps.refl _ _).alloc _).grown hg5 (fun q e => .inl e)
        have HA5 : Hid (AD w2 (w5.setCell ⟨LB, 0, none⟩ (.slice (some ⟨g', 0, none⟩) (an + 1) cap)) SB SE FB LB n f (ac ++ [(u : Int)]) (some ⟨g', 0, none⟩) cap) := Lib.hid (by
          have e := HAN.out
          subst e
          refine HA2.out.push hun HM.out ?_ ho
          rw [HFN.out, HW4.out]
          exact hk5)
        have hr5 : w5.heap[LB]? = some (.cells #[.slice la1 an lc1] 28 (0, 0)) := (hk5.block LB (Array.getElem?_eq_some_iff.1 HLBM.out).1 (fun e => by obtain ⟨cs, hc⟩ := own_typ HOM.out e; exact ne_type HLBM.out hc (by decide) rfl)).trans HLBM.out
        have c5 : w5.cell? ⟨LB, 0, none⟩ = some (.slice la1 an lc1) := by rw [cell_of_row w5 LB 0 _ _ _ hr5]; rfl
        have f5 : w5.frozen? ⟨LB, 0, none⟩ = false := frozen_of_row w5 LB 0 _ _ hr5
        clear ho hg5 hgo hk5 hr5 cl
        go_wp2_with fail
        go_roundg (sn - (i + 1))
        case rel => exact ⟨i + 1, _, _, _, by go_num, by omega, rfl, HA5, Lib.hid ⟨HE2.out, by have := HE.out.2; simp; omega⟩⟩
        case measure => omega
    · obtain rfl : i = sn := by omega
      have hlt' : ¬ (i : Int) < (i : Int) := by omega
      have HF : Hid (ac = addM acc sl) := Lib.hid (by
        have h := HE.out.1
        rw [List.drop_eq_nil_of_le (by have := HLEN.out; omega), addM] at h
        exact h)
      go_wp2_with fail
      go_returns
      exact ⟨rfl, la1, lc1, by rw [← HF.out]; exact HA.out⟩
end Go.Proofs.YtkiimljdoebclaaDoor
