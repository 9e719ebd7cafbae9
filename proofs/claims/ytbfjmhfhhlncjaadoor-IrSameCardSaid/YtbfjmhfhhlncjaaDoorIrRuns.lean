/- ir.packed, of functions of few registers: a copy. -/
import Derived.Test.YtbfjmhfhhlncjaaDoorIrMay
import Derived.Test.YtbfjmhfhhlncjaaDoorIrMachs
import Derived.Deep.LoopGhost
import Derived.OwnWalk
import Derived.Lib.AppendZerosOnto
import Derived.Shelf.Spec.SlicesGrow
import Derived.Test.YtbfjmhfhhlncjaaDoorIrSteps
import Derived.Laws.CopyOwn
import Derived.Deep.DeepCutAuto
import Derived.Deep.CutBlock
namespace Go.Proofs.YtbfjmhfhhlncjaaDoor
open Go.RowKit
set_option linter.unusedVariables false
set_option linter.unusedSimpArgs false

theorem flat_len {α : Type} (f : α → List Value) (m : Nat) (hm : ∀ x, (f x).length = m) (l : List α) : (l.flatMap f).length = l.length * m := by
  induction l with
  | nil => simp
  | cons a t ih => rw [List.flatMap_cons, List.length_append, ih, hm, List.length_cons, Nat.succ_mul]; omega
theorem flat_get {α : Type} (f : α → List Value) (m : Nat) (hm : ∀ x, (f x).length = m) : ∀ (l : List α) (k : Nat) (x : α), l[k]? = some x → ∀ (j : Nat) (v : Value), (f x)[j]? = some v → (l.flatMap f)[k * m + j]? = some v := by
  intro l
  induction l with
  | nil => intro k x hx; cases hx
  | cons a t ih =>
    intro k x hx j v hv
    rw [List.flatMap_cons]
    have hla := hm a
    cases k with
    | zero =>
      obtain rfl : a = x := by simpa using hx
      have hj : j < m := by rw [← hla]; exact (List.getElem?_eq_some_iff.1 hv).1
      rw [List.getElem?_append_left (by rw [hla]; omega), Nat.zero_mul, Nat.zero_add]; exact hv
    | succ k =>
      rw [Nat.succ_mul, List.getElem?_append_right (by rw [hla]; omega), hla, show k * m + m + j - m = k * m + j by omega]
      exact ih k x (by simpa using hx) j v hv
theorem flat_of {α : Type} (f : α → List Value) (m : Nat) (hm : ∀ x, (f x).length = m) (hm0 : 0 < m) (l : List α) (i : Nat) (v : Value) (h : (l.flatMap f)[i]? = some v) : ∃ x, l[i / m]? = some x ∧ (f x)[i % m]? = some v := by
  have hi : i < l.length * m := by rw [← flat_len f m hm l]; exact (List.getElem?_eq_some_iff.1 h).1
  have hk : i / m < l.length := Nat.div_lt_of_lt_mul (by rw [Nat.mul_comm]; exact hi)
  obtain ⟨x, hx⟩ : ∃ x, l[i / m]? = some x := ⟨_, List.getElem?_eq_getElem hk⟩
  obtain ⟨u, hu⟩ : ∃ u, (f x)[i % m]? = some u := ⟨_, List.getElem?_eq_getElem (by rw [hm]; exact Nat.mod_lt _ hm0)⟩
  have := flat_get f m hm l (i / m) x hx (i % m) u hu
  rw [Nat.div_add_mod' i m, h] at this
  exact ⟨x, hx, by rw [hu]; exact this.symm⟩
theorem infoF : (Tryd.prog.info? 42).map (fun i => (i.zero, i.size, i.bytes)) = some (some (.agg #[.string ⟨#[]⟩, .int .i64 0, .int .i64 0, .slice none 0 0, .slice none 0 0, .bool false]), 6, 88) := by kernel_rfl
theorem fx_len (f : Fx) : f.cells.length = 6 := rfl
theorem PgOk.news {w : World} {p : Pg} (h : PgOk w p) {b off : Nat} (hfa : p.fa = some ⟨b, off, none⟩) : ∀ j u, (p.fl.flatMap Fx.cells)[j]? = some u → w.cell? ⟨b, off + j, none⟩ = some u := fun j u hu => by
  obtain ⟨x, hx, hv⟩ := flat_of Fx.cells 6 fx_len (by decide) p.fl j u hu
  obtain ⟨b', off', e, hc⟩ := h.fat (by rw [← h.flen]; have := (List.getElem?_eq_some_iff.1 hx).1; omega)
  rw [hfa] at e
  injection e with e
  injection e with e1 e2 _
  subst e1; subst e2
  have := hc (j / 6) x hx (j % 6) u hv
  rwa [Nat.add_assoc, Nat.div_add_mod' j 6] at this
theorem fx_one (l : List Fx) : ∀ u ∈ l.flatMap Fx.cells, u.oneCell' = true := by
  intro u hu
  obtain ⟨f, _, hf⟩ := List.mem_flatMap.1 hu
  unfold Fx.cells at hf
  simp at hf
  rcases hf with rfl | rfl | rfl | rfl | rfl | rfl <;> rfl
set_option maxRecDepth 100000 in
set_option maxHeartbeats 1600000 in
theorem clone_fns (p : Pg) (w : World) (h : PgOk w p) (hn : 0 < p.fn) (hs : p.fn ≤ 100000) :
    Calls Tryd.prog 58 #[.slice p.fa p.fn p.fc] w fun e w' => ∃ g cap, e = .returned (.slice (some ⟨g, 0, none⟩) p.fn cap) ∧ w'.ownsRow w.heap.size 42 6 (.slice (some ⟨g, 0, none⟩) p.fn cap) p.fn (p.fl.flatMap Fx.cells) ∧ Keeps No w w' := by
  obtain ⟨b, off, hfa, _⟩ := h.fat hn
  have HN := Lib.hid (fun (o : Obj) j u (hj : (p.fl.flatMap Fx.cells)[j]? = some u) => ((Keeps.refl No w).alloc o).cell0 (h.news hfa j u hj))
  have HL : Hid ((p.fl.flatMap Fx.cells).length = p.fn * 6) := Lib.hid (by rw [flat_len _ 6 fx_len, h.flen])
  obtain ⟨i0, hi, hz0, hz1, hz2⟩ := info_parts infoF
  have HI := Lib.hid (And.intro hi (And.intro hz0 (And.intro hz1 hz2)))
  rw [hfa]
  obtain ⟨pn, hpn⟩ : ∃ n, p.fn = n := ⟨_, rfl⟩
  obtain ⟨pc, hpc⟩ : ∃ n, p.fc = n := ⟨_, rfl⟩
  rw [hpn] at hn hs HL ⊢
  rw [hpc]
  clear hi hz0 hz1 hz2 h hfa hpn hpc
  have q34 : ∀ (w : World) (a : Option Addr) (n c n' c' : Nat), (binOp .eql 34 (.slice a n c) (.slice none n' c')).run Tryd.prog w = .ok (.bool a.isNone) w := fun w a n c n' c' => Lib.run_eql_slice_nil w _ _ a n c n' c' Tryd.underlying34
  go_enter Tryd.func58, Tryd.ntmps58
  have HM : Hid (pn ≤ maxLen) := Lib.hid (by unfold maxLen; omega)
  go_wp2_with (at_builtin; refine wpList_append_lies _ rfl (.tmp 5) (.tmp 6) 34 rfl w.heap.size 42 i0 _ 6 88 Tryd.underlying34 HI.out.1 HI.out.2.1 HI.out.2.2.1 HI.out.2.2.2 rfl (by decide) _ 0 [] rfl (World.ownsRow_made w #[] 0 (Nat.le_refl _) (Nat.zero_le _) (by simp)) ⟨b, off, none⟩ pn pc (p.fl.flatMap Fx.cells) rfl HL.out (fun j u hj => by rw [show (⟨b, off, none⟩ : Addr).add j = ⟨b, off + j, none⟩ by unfold Addr.add; split <;> simp_all]; exact HN.out _ j u hj) (fx_one _) hn (by rw [Nat.zero_add]; exact HM.out) (by omega) (by simp) _ rfl ?_)
  intro g cap w1 ho hg _ _
  have HO := Lib.hid ho
  have HG : Hid (Keeps No w w1) := Lib.hid (((Keeps.refl No w).alloc _).grown hg (fun q e => .inr (by simp [Value.ownBlock] at e; omega)))
  clear ho hg
  go_wp2_with fail
  go_returns
  exact ⟨g, cap, rfl, HO.out, HG.out⟩
def fewRegs (p : Pg) : Prop := ∀ f ∈ p.fl, f.regs ≤ 256
set_option maxRecDepth 100000 in
set_option maxHeartbeats 3200000 in
theorem packed_any (p : Pg) (w : World) (h : PgOk w p) (hn : 0 < p.fn) (hs : p.fn ≤ 100000) (hr : fewRegs p) :
    Calls Tryd.prog 40 #[.slice p.fa p.fn p.fc] w fun e w' => ∃ g cap, e = .returned (.slice (some ⟨g, 0, none⟩) p.fn cap) ∧ w'.ownsRow w.heap.size 42 6 (.slice (some ⟨g, 0, none⟩) p.fn cap) p.fn (p.fl.flatMap Fx.cells) ∧ Keeps No w w' := by
  have HC := Lib.hid (clone_fns p w h hn hs)
  have HL := Lib.hid h.flen
  have HR : Hid (fewRegs p) := Lib.hid hr
  obtain ⟨pn, hpn⟩ : ∃ n, p.fn = n := ⟨_, rfl⟩
  obtain ⟨pc, hpc⟩ : ∃ n, p.fc = n := ⟨_, rfl⟩
  obtain ⟨pa, hpa⟩ : ∃ n, p.fa = n := ⟨_, rfl⟩
  rw [hpn] at hn hs HL
  rw [hpn, hpc, hpa] at HC
  rw [hpn, hpc, hpa]
  clear h hr hpn hpc hpa
  go_enter Tryd.func40, Tryd.ntmps40
  go_wp2_with fail
  refine HC.out.mono ?_
  rintro e w1 ⟨g, cap, rfl, ho, hk⟩
  have HO := Lib.hid ho
  have HK := Lib.hid hk
  clear ho hk HC
  go_wp2_with fail
  go_loopg [9] pn (fun gg v wr => ∃ i : Nat, v = .int .i64 (i : Int) ∧ i ≤ pn ∧ gg = pn - i ∧ w1 = wr)
  case atStart => exact ⟨0, rfl, Nat.zero_le _, rfl, rfl⟩
  case round =>
    obtain ⟨i, rfl, hi, hg, rfl⟩ := hrel
    by_cases hlt : i < pn
    · have hlt' : (i : Int) < (pn : Int) := by omega
      have i0 : (0 : Int) ≤ (i : Int) := by omega
      obtain ⟨z, hz⟩ : ∃ z, p.fl[i]? = some z := ⟨_, List.getElem?_eq_getElem (by rw [HL.out]; exact hlt)⟩
      have c2 : w1.cell? ⟨g, i * 6 + 2, none⟩ = some (.int .i64 z.regs) := (HO.out.cellAt _ (by omega)).trans (flat_get Fx.cells 6 fx_len p.fl i z hz 2 _ rfl)
      have hzr : z.regs ≤ 256 := HR.out z (List.mem_of_getElem? hz)
      have hzr' : ¬ 256 < z.regs := by omega
      obtain ⟨zr, hzz⟩ : ∃ q, z.regs = q := ⟨_, rfl⟩
      rw [hzz] at c2 hzr hzr'
      clear hz hzz
      go_wp2_with fail
      go_roundg (pn - (i + 1))
      case rel => exact ⟨i + 1, by go_num, by omega, rfl, rfl⟩
      case measure => omega
    · obtain rfl : i = pn := by omega
      have hlt' : ¬ (i : Int) < (i : Int) := by omega
      go_wp2_with fail
      go_returns
      exact ⟨g, cap, rfl, HO.out, HK.out⟩
/-- The program behind it. -/
def Pg.re (p : Pg) (g cap : Nat) : Pg := { p with fa := some ⟨g, 0, none⟩, fc := cap }
theorem PgOk.re {w : World} {p : Pg} (h : PgOk w p) {B g cap : Nat} (ho : w.ownsRow B 42 6 (.slice (some ⟨g, 0, none⟩) p.fn cap) p.fn (p.fl.flatMap Fx.cells)) : PgOk w (p.re g cap) := by
  have hc : p.fn ≤ cap ∧ cap ≤ maxLen := by
    rcases ho.2 with ⟨e, _⟩ | ⟨g', cap', cur, e, _, _, h1, h2, _⟩
    · cases e
    · injection e with _ _ e; subst e; exact ⟨h1, h2⟩
  refine ⟨h.main, h.glen, h.gcap, h.gok, h.gat, h.flen, hc, h.fok, fun _ => ⟨g, 0, rfl, fun k f hf j v hj => ?_⟩⟩
  have hk : k < p.fl.length := (List.getElem?_eq_some_iff.1 hf).1
  have hj6 : j < 6 := (List.getElem?_eq_some_iff.1 hj).1
  have hfl := h.flen
  rw [show 0 + k * 6 + j = k * 6 + j by omega]
  exact (ho.cellAt _ (by omega)).trans (flat_get Fx.cells 6 fx_len p.fl k f hf j v hj)
end Go.Proofs.YtbfjmhfhhlncjaaDoor
/- fill, of a program without globals whose functions have no slots. -/
namespace Go.Proofs.YtbfjmhfhhlncjaaDoor
open Go.RowKit
set_option linter.unusedVariables false
set_option linter.unusedSimpArgs false

abbrev nil : Value := .slice none 0 0
def rawc (pb : Nat) (vin : Value) (fuel : Int) (st sl dt : Value) : Array Value := #[.pointer (some ⟨pb, 0, none⟩), nil, nil, st, sl, dt, nil, vin, .int .i64 0, nil, .int .i64 fuel, .int .i64 0, .int .i64 0, .int .i64 0]
theorem infoS : (Tryd.prog.info? 25).map (fun i => (i.zero, i.size, i.bytes)) = some (some (.slice none 0 0), 1, 24) := by kernel_rfl
def plain (p : Pg) : Prop := p.gn = 0 ∧ ∀ f ∈ p.fl, f.slots.n = 0
set_option maxRecDepth 100000 in
set_option maxHeartbeats 12800000 in
theorem fill0 (p : Pg) (pb M : Nat) (vin : Value) (fuel : Int) (w : World) (hp : p.at_ w pb 0) (h : PgOk w p) (hpl : plain p) (hM : w.heap[M]? = some (.cells (rawc pb vin fuel nil nil nil) 84 (0, 0))) (hs : p.fn ≤ 100000)
    (hpm : pb ≠ M) (hfb : ∀ b off, p.fa = some ⟨b, off, none⟩ → b ≠ M) :
    Calls Tryd.prog 41 #[.pointer (some ⟨M, 0, none⟩)] w fun e w' => e = .returned (.tuple #[]) ∧ ∃ sl dt, w'.heap[M]? = some (.cells (rawc pb vin fuel nil sl dt) 84 (0, 0)) ∧ Keeps (fun q => q = M) w w' ∧ w'.ownsRow w.heap.size 5 1 dt 0 [] := by
  have HM := Lib.hid hM
  have HML : Hid (M < w.heap.size) := Lib.hid (Array.getElem?_eq_some_iff.1 hM).1
  have HP := Lib.hid h
  have HPT := Lib.hid hp
  have HPL := Lib.hid hpl
  have HNE := Lib.hid hfb
  have HNP := Lib.hid hpm
  have hfc := h.fcap
  unfold maxLen at hfc
  obtain ⟨pn, hpn⟩ : ∃ n, p.fn = n := ⟨_, rfl⟩
  obtain ⟨pc, hpc⟩ : ∃ n, p.fc = n := ⟨_, rfl⟩
  obtain ⟨pa, hpa⟩ : ∃ n, p.fa = n := ⟨_, rfl⟩
  obtain ⟨ga, hga⟩ : ∃ n, p.ga = n := ⟨_, rfl⟩
  obtain ⟨gc, hgc⟩ : ∃ n, p.gc = n := ⟨_, rfl⟩
  rw [hpn] at hs hfc
  rw [hpc] at hfc
  have HPN := Lib.hid hpn
  have HPA := Lib.hid hpa
  have HC1 : Hid (∀ W, Keeps (fun q => q = M) w W → W.cell? ⟨pb, 1, none⟩ = some (.slice pa pn pc)) := Lib.hid (fun W hk => by
    have := hk.cell (hp 1 _ rfl) (fun e => hpm e); simp only [Nat.zero_add] at this; rw [hpa, hpn, hpc] at this; exact this)
  have HC0 : Hid (∀ W, Keeps (fun q => q = M) w W → W.cell? ⟨pb, 0, none⟩ = some (.slice ga 0 gc)) := Lib.hid (fun W hk => by
    have := hk.cell (hp 0 _ rfl) (fun e => hpm e); simp only [Nat.zero_add] at this; rw [hga, hpl.1, hgc] at this; exact this)
  have HI : ∀ (W : World) sl dt, W.heap[M]? = some (.cells (rawc pb vin fuel nil sl dt) 84 (0, 0)) → (W.cell? ⟨M, 0, none⟩ = some (.pointer (some ⟨pb, 0, none⟩)) ∧ W.cell? ⟨M, 3, none⟩ = some nil ∧ W.cell? ⟨M, 4, none⟩ = some sl ∧ W.cell? ⟨M, 5, none⟩ = some dt ∧ W.frozen? ⟨M, 4, none⟩ = false ∧ W.frozen? ⟨M, 5, none⟩ = false) := fun W sl dt hr =>
    ⟨by rw [cell_of_row W M 0 _ _ _ hr]; rfl, by rw [cell_of_row W M 3 _ _ _ hr]; rfl, by rw [cell_of_row W M 4 _ _ _ hr]; rfl, by rw [cell_of_row W M 5 _ _ _ hr]; rfl, frozen_of_row W M 4 _ _ hr, frozen_of_row W M 5 _ _ hr⟩
  have HI := Lib.hid HI
  clear hM h hp hpl hfb hpm hpn hpc hpa hga hgc
  obtain ⟨m0, m3, m4, m5, z4, z5⟩ := HI.out w _ _ HM.out
  have c1 := HC1.out w (Keeps.refl _ _)
  go_enter Tryd.func41, Tryd.ntmps41
  go_wp2_with fail
  clear m0 m3 m4 m5 z4 z5 c1
  go_loopg [24] pn (fun gg v wr => ∃ (i : Nat) (sl : Value), v = .int .i64 (i : Int) ∧ i ≤ pn ∧ gg = pn - i ∧ Hid (wr.heap[M]? = some (.cells (rawc pb vin fuel nil sl nil) 84 (0, 0))) ∧ Hid (Keeps (fun q => q = M) w wr) ∧ Hid (wr.ownsRow w.heap.size 25 1 sl i (List.replicate i nil)))
  case atStart => exact ⟨0, nil, rfl, Nat.zero_le _, rfl, HM, Lib.hid (Keeps.refl _ _), Lib.hid (World.ownsRow_nil _ _ _ _)⟩
  case round =>
    obtain ⟨i, sl, rfl, hi, hg, HR, HK, HO⟩ := hrel
    by_cases hlt : i < pn
    · have hlt' : (i : Int) < (pn : Int) := by omega
      have i0 : (0 : Int) ≤ (i : Int) := by omega
      obtain ⟨fb, fo, f, hf, hfa, hft, hfo⟩ := Pg.fget HP.out (i := i) (by rw [HPN.out]; exact hlt)
      obtain rfl := HPA.out.symm.trans hfa
      have hf3 := HK.out.cell (hft 3 _ rfl) (HNE.out fb fo hfa)
      obtain ⟨sa, hsa⟩ : ∃ a, f.slots.a = a := ⟨_, rfl⟩
      obtain ⟨sc, hsc⟩ : ∃ a, f.slots.cap = a := ⟨_, rfl⟩
      rw [Sl.v, HPL.out.2 f (List.mem_of_getElem? hf), hsa, hsc] at hf3
      obtain ⟨m0, m3, m4, m5, z4, z5⟩ := HI.out wr _ _ HR.out
      have c1 := HC1.out wr HK.out
      clear hf hfa hft hfo hsa hsc
      go_wp2_with fail
      go_loopg [3, 39] 0 (fun gg l v wx => l = nil ∧ v = .int .i64 0 ∧ gg = 0 ∧ wr = wx)
      case atStart => exact ⟨rfl, rfl, rfl, rfl⟩
      case round =>
        obtain ⟨rfl, rfl, hg0, rfl⟩ := hrel
        obtain ⟨i1, hi1, hz0, hz1, hz2⟩ := info_parts infoS
        have HIS := Lib.hid (And.intro hi1 (And.intro hz0 (And.intro hz1 hz2)))
        have hB : w.heap.size ≤ wr.heap.size := HK.out.size
        have HOA := Lib.hid (fun o : Obj => HO.out.alloc o)
        have HNW : Hid (∀ (j : Nat) u, [nil][j]? = some u → (wr.alloc (.cells #[nil] 25)).cell? ((⟨wr.heap.size, 0, none⟩ : Addr).add j) = some u) := Lib.hid (fun j u hu => by
          cases j with
          | zero =>
            obtain rfl : nil = u := by simpa using hu
            have e : (⟨wr.heap.size, 0, none⟩ : Addr).add 0 = ⟨wr.heap.size, 0, none⟩ := by unfold Addr.add; split <;> simp_all
            rw [e, World.cell?_alloc_at _ _ _ _ rfl]; rfl
          | succ j => cases hu)
        have HMX : Hid (i + 1 ≤ maxLen) := Lib.hid (by unfold maxLen; omega)
        clear hi1 hz0 hz1 hz2
        go_wp2_with (at_builtin; refine wpList_append_lies _ rfl (.tmp 56) (.tmp 58) 82 rfl w.heap.size 25 i1 _ 1 24 Tryd.underlying82 HIS.out.1 HIS.out.2.1 HIS.out.2.2.1 HIS.out.2.2.2 rfl (by decide) sl i (List.replicate i nil) rfl (HOA.out _) ⟨wr.heap.size, 0, none⟩ 1 1 [nil] rfl rfl HNW.out (by intro u hu; simp at hu; subst hu; rfl) (by decide) HMX.out (by omega) (by simp; omega) _ rfl ?_)
        intro g cap w1 ho hgr hl _
        have hslM : ∀ q, sl.ownBlock = some q → M ≠ q := fun q hq e => by
          have := (HO.out.lt q hq).1; have := HML.out; omega
        have HR1 := Lib.hid ((hgr.block M (by simp; have := HML.out; omega) (fun e => hslM _ e.symm rfl)).trans ((Below.heap_alloc wr _ M (by have := HML.out; omega)).trans HR.out))
        have HK1 : Hid (Keeps (fun q => q = M) w w1) := Lib.hid ((HK.out.alloc _).grown hgr (fun q e => .inr (HO.out.lt q e).1))
        have HO1 : Hid (w1.ownsRow w.heap.size 25 1 (.slice (some ⟨g, 0, none⟩) (i + 1) cap) (i + 1) (List.replicate (i + 1) nil)) := Lib.hid (by rw [List.replicate_succ']; exact ho)
        clear ho hgr hl hslM m0 m3 m4 m5 z4 z5 c1 hf3
        obtain ⟨m0, m3, m4, m5, z4, z5⟩ := HI.out w1 _ _ HR1.out
        go_wp2_with fail
        have HR2 : Hid ((w1.setCell ⟨M, 4, none⟩ (.slice (some ⟨g, 0, none⟩) (i + 1) cap)).heap[M]? = some (.cells (rawc pb vin fuel nil (.slice (some ⟨g, 0, none⟩) (i + 1) cap) nil) 84 (0, 0))) := Lib.hid (heap_setCell_same w1 M 4 _ _ _ HR1.out)
        have hgM : g ≠ M := fun e => by
          have := (HO1.out.lt g rfl).1; have := HML.out; omega
        have HO2 : Hid ((w1.setCell ⟨M, 4, none⟩ (.slice (some ⟨g, 0, none⟩) (i + 1) cap)).ownsRow w.heap.size 25 1 (.slice (some ⟨g, 0, none⟩) (i + 1) cap) (i + 1) (List.replicate (i + 1) nil)) := Lib.hid (own_far HO1.out (by simp [Value.ownBlock]; exact hgM) _)
        have HK2 := Lib.hid (HK1.out.setCell (p := ⟨M, 4, none⟩) (.inl rfl) (.slice (some ⟨g, 0, none⟩) (i + 1) cap))
        clear m0 m3 m4 m5 z4 z5 hgM
        go_roundg (pn - (i + 1))
        case rel => exact ⟨i + 1, _, by go_num, by omega, rfl, HR2, HK2, HO2⟩
        case measure => omega
    · obtain rfl : i = pn := by omega
      have hlt' : ¬ (i : Int) < (i : Int) := by omega
      obtain ⟨m0, m3, m4, m5, z4, z5⟩ := HI.out wr _ _ HR.out
      have c0 := HC0.out wr HK.out
      go_wp2_with fail
      go_loopg [7, 71] 0 (fun gg l v wx => l = .int .i64 0 ∧ v = .int .i64 0 ∧ gg = 0 ∧ wr = wx)
      case atStart => exact ⟨rfl, rfl, rfl, rfl⟩
      case round =>
        obtain ⟨rfl, rfl, hg0, rfl⟩ := hrel
        obtain ⟨i1, hi1, hz0, hz1, hz2⟩ := info_parts infoB
        have HIS := Lib.hid (And.intro hi1 (And.intro hz0 (And.intro hz1 hz2)))
        have hB : w.heap.size ≤ wr.heap.size := HK.out.size
        clear hi1 hz0 hz1 hz2
        go_wp2_with (at_make; refine wpList_make_full _ rfl (.tmp 92) (.tmp 92) 55 rfl w.heap.size 5 i1 _ 1 Tryd.underlying55 HIS.out.1 HIS.out.2.1 HIS.out.2.2.1 .i64 .i64 0 0 0 rfl rfl rfl rfl (by simp) (by unfold maxLen; omega) hB ?_)
        intro w1 ho hgr
        have HR1 := Lib.hid ((hgr.block M (by have := HML.out; omega) (fun e => by cases e)).trans HR.out)
        have HK1 : Hid (Keeps (fun q => q = M) w w1) := Lib.hid (HK.out.grown hgr (fun q e => by cases e))
        have HO1 : Hid (w1.ownsRow w.heap.size 5 1 (.slice (some ⟨wr.heap.size, 0, none⟩) 0 0) 0 []) := Lib.hid (by have h := ho; rw [toList_madeCells_one] at h; exact h)
        clear ho hgr m0 m3 m4 m5 z4 z5 c0
        obtain ⟨m0, m3, m4, m5, z4, z5⟩ := HI.out w1 _ _ HR1.out
        have hgM : wr.heap.size ≠ M := fun e => by have := HML.out; omega
        have HO2 : Hid ((w1.setCell ⟨M, 5, none⟩ (.slice (some ⟨wr.heap.size, 0, none⟩) 0 0)).ownsRow w.heap.size 5 1 (.slice (some ⟨wr.heap.size, 0, none⟩) 0 0) 0 []) := Lib.hid (own_far HO1.out (by simp [Value.ownBlock]; exact hgM) _)
        have HR2 : Hid ((w1.setCell ⟨M, 5, none⟩ (.slice (some ⟨wr.heap.size, 0, none⟩) 0 0)).heap[M]? = some (.cells (rawc pb vin fuel nil sl (.slice (some ⟨wr.heap.size, 0, none⟩) 0 0)) 84 (0, 0))) := Lib.hid (heap_setCell_same w1 M 5 _ _ _ HR1.out)
        have HK2 := Lib.hid (HK1.out.setCell (p := ⟨M, 5, none⟩) (.inl rfl) (.slice (some ⟨wr.heap.size, 0, none⟩) 0 0))
        have hpM := HNP.out
        have c0 := HC0.out w1 HK1.out
        clear hgM
        go_wp2_with fail
        clear m0 m3 m4 m5 z4 z5 c0
        generalize w1.setCell ⟨M, 5, none⟩ (.slice (some ⟨wr.heap.size, 0, none⟩) 0 0) = w2 at HO2 HR2 HK2 ⊢
        go_loopg [104] 0 (fun gg v wx => v = .int .i64 0 ∧ gg = 0 ∧ w2 = wx)
        case atStart => exact ⟨rfl, rfl, rfl⟩
        case round =>
          obtain ⟨rfl, hg0, rfl⟩ := hrel
          go_wp2_with fail
          go_returns
          exact ⟨rfl, _, _, HR2.out, HK2.out, HO2.out⟩
end Go.Proofs.YtbfjmhfhhlncjaaDoor
/- slices.Grow of a row of numbers. -/
namespace Go.Proofs.YtbfjmhfhhlncjaaDoor
open Go.RowKit
set_option linter.unusedVariables false
set_option linter.unusedSimpArgs false

/-- A row of numbers with room behind it. -/
structure Room (w : World) (B g cap : Nat) (l : List Int) (n : Nat) : Prop where
  ex : ∃ cur : Array Value, w.heap[g]? = some (.cells cur 2 (0, 0)) ∧ cur.size = cap ∧ cur.toList.take l.length = irow l
  room : l.length + n ≤ cap
  cap : cap ≤ maxLen
  base : B ≤ g
theorem irow_len (l : List Int) : (irow l).length = l.length := by unfold irow; rw [List.length_map]
set_option maxRecDepth 100000 in
set_option maxHeartbeats 6400000 in
theorem grow_any (w : World) (B : Nat) (v : Value) (l : List Int) (n : Nat) (ho : w.ownsRow B 2 1 v l.length (irow l)) (hl : l.length ≤ 1000000) (hn : n ≤ 1000000) (hn0 : 0 < n) (hB : B ≤ w.heap.size) :
    Calls Tryd.prog 64 #[v, .int .i64 n] w fun e w' => ∃ g cap, e = .returned (.slice (some ⟨g, 0, none⟩) l.length cap) ∧ Room w' B g cap l n ∧ Keeps No w w' ∧ (v.ownBlock = some g ∨ w.heap.size ≤ g) := by
  obtain ⟨i0, hi, hz0, hz1, hz2⟩ := info_parts infoI64
  have HI := Lib.hid (And.intro hi (And.intro hz0 (And.intro hz1 hz2)))
  obtain ⟨L, hL⟩ : ∃ L, l.length = L := ⟨_, rfl⟩
  have HL := Lib.hid hL
  have HO := Lib.hid ho
  have hfit := ho.2
  rw [hL] at hl hfit ⊢
  clear hi hz0 hz1 hz2 ho hL
  have key : ∃ (base : Option Addr) (c : Nat) (cs : List Value), v = .slice base L c ∧ L ≤ c ∧ c ≤ maxLen ∧ cs.length = c ∧ cs.take L = irow l ∧ (base = none → c = 0) ∧ (∀ a, base = some a → ∃ g, a = ⟨g, 0, none⟩ ∧ B ≤ g ∧ w.heap[g]? = some (.cells cs.toArray 2 (0, 0))) := by
    rcases hfit with ⟨rfl, h0⟩ | ⟨g, cap, cur, rfl, h1, h2, h3, h4, h5, h6⟩
    · refine ⟨none, 0, [], by rw [h0], by omega, Nat.zero_le _, rfl, ?_, fun _ => rfl, fun a e => by cases e⟩
      have : l.length = 0 := by rw [HL.out, h0]
      rw [List.eq_nil_of_length_eq_zero this, List.take_nil]; rfl
    · exact ⟨_, cap, cur.toList, rfl, h3, h4, by simpa using h5, by simpa using h6, fun e => by (cases e), fun a e => ⟨g, by injection e with e; exact e.symm, h1, h2⟩⟩
  obtain ⟨base, c, cs, rfl, hlc, hc63, hcl, hct, hnil, hsome⟩ := key
  have HCS := Lib.hid (And.intro hcl (And.intro hct (And.intro hnil hsome)))
  have hc63' := hc63
  unfold maxLen at hc63'
  clear hcl hct hnil hsome hfit HO
  by_cases hroom : L + n ≤ c
  · have h1 : ¬ ((n : Int) < 0) := by omega
    have h4 : ¬ ((n : Int) - ((c : Int) - (L : Int)) > 0) := by omega
    have hb : ∃ g, base = some ⟨g, 0, none⟩ := by
      cases base with
      | none => have := HCS.out.2.2.1 rfl; omega
      | some a => obtain ⟨g, e, _⟩ := HCS.out.2.2.2 a rfl; exact ⟨g, by rw [e]⟩
    obtain ⟨g, rfl⟩ := hb
    have h2 : IntKind.i64.wrap ((c : Int) - (L : Int)) = (c : Int) - (L : Int) := by rw [IntKind.wrap_i64]; omega
    have h3 : IntKind.i64.wrap ((n : Int) - ((c : Int) - (L : Int))) = (n : Int) - ((c : Int) - (L : Int)) := by rw [IntKind.wrap_i64]; omega
    have HR : Hid (Room w B g c l n) := Lib.hid (by
      obtain ⟨g', e, hb, hh⟩ := HCS.out.2.2.2 _ rfl
      injection e with e1 _ _
      subst e1
      exact ⟨⟨cs.toArray, hh, by simpa using HCS.out.1, by rw [HL.out]; simpa using HCS.out.2.1⟩, by rw [HL.out]; exact hroom, hc63, hb⟩)
    clear hroom
    go_enter Tryd.func64, Tryd.ntmps64
    go_wp2_with fail
    go_returns
    exact ⟨g, c, rfl, HR.out, Keeps.refl _ _, .inl rfl⟩
  · have h1 : ¬ ((n : Int) < 0) := by omega
    have h4 : (n : Int) - ((c : Int) - (L : Int)) > 0 := by omega
    have hck : c + (L + n - c) = L + n := by omega
    have hold : (Builtin.firstCells i0.size c (.slice base c c)).run Tryd.prog w.drew = .ok cs.toArray w.drew := by
      have hs1 := HI.out.2.2.1
      cases base with
      | none =>
        have h0 := HCS.out.2.2.1 rfl
        subst h0
        rw [List.length_eq_zero_iff.1 HCS.out.1]
        exact run_firstCells_none w.drew i0.size 0 0 0
      | some a =>
        obtain ⟨g', rfl, hb, hh⟩ := HCS.out.2.2.2 a rfl
        refine run_firstCells_some w.drew i0.size c _ c c cs (by rw [HCS.out.1, hs1, Nat.mul_one]) (fun j v hj => ?_)
        have e : (⟨g', 0, none⟩ : Addr).add j = ⟨g', j, none⟩ := by unfold Addr.add; split <;> simp_all
        rw [e]
        show w.cell? ⟨g', j, none⟩ = some v
        rw [cell_of_row w g' j _ _ _ hh]; simpa using hj
    have hrz : ∀ ty, (Builtin.append_ #[25, 3] ty #[.slice base c c, .int .i64 ((n : Int) - ((c : Int) - (L : Int)))]).run Tryd.prog w =
        .ok (.slice (some ⟨w.heap.size, 0, none⟩) (L + n) (grownCap w (L + n) c 2)) (w.drew.alloc (.cells (cs.toArray ++ Builtin.zeroCells (Value.int .i64 0).cells (L + n - c) ++ Builtin.zeroCells (Value.int .i64 0).cells (grownCap w (L + n) c 2 - (L + n))) 2)) := fun ty => by
      have h := Lib.run_append_grow_zeros w 25 3 ty 2 i0 (.int .i64 0) .i64 .i64 Tryd.underlying25 Tryd.underlying3 HI.out.1 HI.out.2.1 base c c cs hold (L + n - c) (by omega) (by rw [HI.out.2.2.1]; decide) (by omega) (by omega)
        (by rw [HI.out.2.2.2]; omega) (by rw [hck, HI.out.2.2.2]; exact growslice_fits (by omega) (by omega))
      rw [hck] at h
      rw [show (n : Int) - ((c : Int) - (L : Int)) = ((L + n - c : Nat) : Int) by omega]
      exact h
    have hGn : L + n ≤ grownCap w (L + n) c 2 := grownCap_ge w _ _ _
    have hG63 := grownCap_le_maxLen w (L + n) c 2 (by unfold maxLen; omega)
    obtain ⟨G, hG⟩ : ∃ G, G = grownCap w (L + n) c 2 := ⟨_, rfl⟩
    rw [← hG] at hrz hGn hG63
    have h2 : IntKind.i64.wrap ((c : Int) - (L : Int)) = (c : Int) - (L : Int) := by rw [IntKind.wrap_i64]; omega
    have h3 : IntKind.i64.wrap ((n : Int) - ((c : Int) - (L : Int))) = (n : Int) - ((c : Int) - (L : Int)) := by rw [IntKind.wrap_i64]; omega
    obtain ⟨WX, hWX⟩ : ∃ WX, w.drew.alloc (.cells (cs.toArray ++ Builtin.zeroCells (Value.int .i64 0).cells (L + n - c) ++ Builtin.zeroCells (Value.int .i64 0).cells (G - (L + n))) 2) = WX := ⟨_, rfl⟩
    rw [hWX] at hrz
    have HR : Hid (Room WX B w.heap.size G l n) := Lib.hid (by
      rw [← hWX]
      refine ⟨⟨_, heap_alloc_new _ _, ?_, ?_⟩, by rw [HL.out]; exact hGn, hG63, hB⟩
      · simp [Builtin.zeroCells, HCS.out.1, Value.cells]; omega
      · rw [HL.out, ← HCS.out.2.1]
        simp [HCS.out.1]
        rw [List.take_append_of_le_length (by rw [HCS.out.1]; exact hlc)])
    have HKX : Hid (Keeps No w WX) := Lib.hid (by rw [← hWX]; exact (Keeps.refl _ _).drew.alloc _)
    clear hWX
    unfold maxLen at hG63
    clear hold hck hG hroom
    go_enter Tryd.func64, Tryd.ntmps64
    cases base with
    | none =>
      have h0 := HCS.out.2.2.1 rfl
      subst h0
      obtain rfl : L = 0 := by omega
      go_wp2_with (at_builtin; refine Lib.wpList_append_run _ rfl _ _ _ _ rfl _ _ rfl rfl _ _ (hrz _) ?_)
      go_returns
      exact ⟨_, _, rfl, HR.out, HKX.out, .inr (Nat.le_refl _)⟩
    | some a =>
      obtain ⟨ab, ao, asp⟩ := a
      go_wp2_with (at_builtin; refine Lib.wpList_append_run _ rfl _ _ _ _ rfl _ _ rfl rfl _ _ (hrz _) ?_)
      go_returns
      exact ⟨_, _, rfl, HR.out, HKX.out, .inr (Nat.le_refl _)⟩
end Go.Proofs.YtbfjmhfhhlncjaaDoor
/- A call begins: rows that are laid anew. -/
namespace Go.Proofs.YtbfjmhfhhlncjaaDoor
open Go.RowKit
set_option linter.unusedVariables false
set_option linter.unusedSimpArgs false

theorem setCells_row (g : Nat) (t : TypeId) : ∀ (vs : List Value) (o : Nat) (w : World) (cur : List Value), w.heap[g]? = some (.cells cur.toArray t (0, 0)) → o + vs.length ≤ cur.length →
    (w.setCells g o vs).heap[g]? = some (.cells (cur.take o ++ (vs ++ cur.drop (o + vs.length))).toArray t (0, 0)) := by
  intro vs
  induction vs with
  | nil => intro o w cur h _; simp [World.setCells, h]
  | cons v r ih =>
    intro o w cur h hl
    unfold World.setCells
    have hlo : o < cur.length := by simp at hl; omega
    have h1 : (w.setCell ⟨g, o, none⟩ v).heap[g]? = some (.cells (cur.set o v).toArray t (0, 0)) := by
      rw [heap_setCell_same w g o _ t v h]; simp
    rw [ih (o + 1) _ (cur.set o v) h1 (by simp at hl ⊢; omega)]
    have e1 : (cur.set o v).take (o + 1) = cur.take o ++ [v] := by
      rw [List.take_succ_eq_append_getElem (by simpa using hlo)]
      rw [List.take_set_of_le (by omega)]
      simp
    have e2 : (cur.set o v).drop (o + 1 + r.length) = cur.drop (o + (v :: r).length) := by
      rw [List.drop_set_of_lt (by omega)]
      simp [Nat.add_comm, Nat.add_left_comm, Nat.add_assoc]
    rw [e1, e2]
    simp
theorem keeps_setCells {S : Nat → Prop} {a : World} (g : Nat) (hS : S g ∨ a.heap.size ≤ g) : ∀ (vs : List Value) (o : Nat) (w : World), Keeps S a w → Keeps S a (w.setCells g o vs) := by
  intro vs
  induction vs with
  | nil => intro o w h; exact h
  | cons v r ih => intro o w h; unfold World.setCells; exact ih (o + 1) _ (h.setCell hS v)
theorem enter_cells (C a b : List Value) (z : Value) (rl R ll cap : Nat) (hl : C.length = cap) (ha : C.take rl = a) (hle : rl + R ≤ cap) (hb : b.length = ll) (hll : ll ≤ R) :
    (C.take rl |>.append (List.replicate R z ++ C.drop (rl + R))).length = cap ∧
    ((C.take rl ++ (List.replicate R z ++ C.drop (rl + R))).take rl ++ (b ++ (C.take rl ++ (List.replicate R z ++ C.drop (rl + R))).drop (rl + b.length))).length = cap ∧
    ((C.take rl ++ (List.replicate R z ++ C.drop (rl + R))).take rl ++ (b ++ (C.take rl ++ (List.replicate R z ++ C.drop (rl + R))).drop (rl + b.length))).take (rl + R) = a ++ (b ++ List.replicate (R - ll) z) := by
  have hal : a.length = rl := by rw [← ha, List.length_take]; omega
  have e1 : (C.take rl ++ (List.replicate R z ++ C.drop (rl + R))).take rl = a := by
    rw [ha, List.take_append_of_le_length (by omega), List.take_of_length_le (by omega)]
  have e2 : (C.take rl ++ (List.replicate R z ++ C.drop (rl + R))).drop (rl + b.length) = List.replicate (R - ll) z ++ C.drop (rl + R) := by
    rw [ha, List.drop_append, List.drop_eq_nil_of_le (by omega), List.nil_append, hal, hb, show rl + ll - rl = ll by omega, List.drop_append, List.drop_replicate, List.length_replicate, show ll - R = 0 by omega, List.drop_zero]
  refine ⟨?_, ?_, ?_⟩
  · show (C.take rl ++ (List.replicate R z ++ C.drop (rl + R))).length = cap
    simp; omega
  · rw [e1, e2]; simp; omega
  · rw [e1, e2, ← List.append_assoc b, ← List.append_assoc a]
    rw [List.take_append_of_le_length (by simp; omega)]
    rw [List.take_of_length_le (by simp; omega)]
theorem wpList_clear_run (w : World) {ops : Array Oper} {rest : List Oper} {o : Oper} {a : Act} {Q : Exit → Act → World → Prop} (hgd : o.guard = none) (s : Operand) (t : TypeId)
    (ho : o.op = .call { callee := .builtin .clear, args := #[s], argTypes := #[t] }) (vs : Value) (hs : a.eval s = vs) (w' : World) (hr : (Builtin.clear_ #[t] o.type #[vs]).run Tryd.prog w = .ok (.tuple #[]) w')
    (h : wpList Tryd.prog ops Q rest (a.put o.dst (.tuple #[])) w') : wpList Tryd.prog ops Q (o :: rest) a w :=
  wpList_plain hgd fun _ hK => by
    unfold Oper.wp execOp
    simp only [ho, resolve, invoke, builtin, Sem.run_bind, Sem.run_pure, Result.andThen_ok, List.map_toArray, List.map_cons, List.map_nil, hs, hr]
    exact hK _ _ h
theorem wpList_copy_any {w : World} {ops : Array Oper} {rest : List Oper} {o : Oper} {a : Act} {Q : Exit → Act → World → Prop} (hgd : o.guard = none) (d s : Operand) (dT sT : TypeId)
    (ho : o.op = .call { callee := .builtin .copy, args := #[d, s], argTypes := #[dT, sT] }) (elem : TypeId) (hu : Tryd.prog.underlying dT = some (.slice elem)) (hsz : (Tryd.prog.info? elem).map (·.size) = some 1)
    (sp : Option Addr) (dLen dCap sLen sCap : Nat) (g off : Nat) (hd : a.eval d = .slice (some ⟨g, off, none⟩) dLen dCap) (hs : a.eval s = .slice sp sLen sCap)
    (cur : List Value) (t : TypeId) (hg : w.heap[g]? = some (.cells cur.toArray t (0, 0))) (cs : List Value) (hn : cs.length = Nat.min sLen dLen)
    (hpos : 0 < cs.length → ∃ ad, sp = some ad ∧ ∀ j v, cs[j]? = some v → w.cell? (ad.add j) = some v)
    (hfit : off + cs.length ≤ cur.length) (h1 : ∀ v ∈ cs, v.oneCell' = true)
    (h : ∀ w', w'.heap[g]? = some (.cells (cur.take off ++ (cs ++ cur.drop (off + cs.length))).toArray t (0, 0)) → Keeps (fun q => q = g) w w' → wpList Tryd.prog ops Q rest (a.put o.dst (goInt cs.length)) w') :
    wpList Tryd.prog ops Q (o :: rest) a w := by
  by_cases h0 : cs.length = 0
  · obtain rfl : cs = [] := List.eq_nil_of_length_eq_zero h0
    refine wpList_copy_nothing hgd d s dT sT ho elem hu hsz _ sp dLen dCap sLen sCap hd hs (by simpa using hn.symm) ?_
    exact h w (by simpa using hg) (Keeps.refl _ _)
  · obtain ⟨ad, rfl, hsrc⟩ := hpos (by omega)
    refine wpList_copy_own hgd d s dT sT ho elem hu hsz g off dLen dCap ad sLen sCap hd hs cur.toArray t hg cs hn hsrc (by simpa using hfit) h1 ?_
    exact h _ (by simpa using setRow_heap w g _ _ t _ hg) ((Keeps.refl (fun q => q = g) w).setRow (.inl rfl) _)
section
variable {X : Sx} {w w' : World} {c : Cs} {s : St}
theorem keeps_row {w w' : World} {S : Nat → Prop} {B z n : Nat} {e : TypeId} {v : Value} {xs : List Value} (h : w.ownsRow B e z v n xs) (hk : Keeps S w w') (hS : ∀ q, v.ownBlock = some q → ¬ S q) : w'.ownsRow B e z v n xs :=
  own_kept h (fun q hq => hk.block q (h.lt q hq).2 (hS q hq))
/-- The registers' row is another one. -/
theorem MAt.newR (h : MAt X w c s) {v' : Value} {rg' : List Int} (hrow : w'.heap[X.M]? = some (.cells (mcells X { c with rg := v' } s) 84 (0, 0))) (ho : w'.ownsRow X.B 2 1 v' rg'.length (irow rg'))
    (hk : Keeps (fun q => q = X.M ∨ c.rg.ownBlock = some q) w w') (hl : ∀ q, v'.ownBlock = some q → c.rg.ownBlock = some q ∨ w.heap.size ≤ q) : MAt X w' { c with rg := v' } { s with rg := rg' } := by
  have R := h.rows
  have hfx : ∀ q, X.Fx q → q < w.heap.size := fun q hq => Nat.lt_of_lt_of_le (h.fx q hq) R.k1.size
  have nM : ∀ {B z n : Nat} {e : TypeId} {v : Value} {xs : List Value}, w.ownsRow B e z v n xs → 84 ≠ e → 2 ≠ e → ∀ q, v.ownBlock = some q → ¬ (q = X.M ∨ c.rg.ownBlock = some q) := by
    intro B z n e v xs ho h1 h2 q hq hc
    rcases hc with rfl | hc
    · exact own_ne ho h.row h1 hq
    · exact own_ne2 ho R.r h2 hc hq
  have hm : ∀ q, c.rg.ownBlock = some q → X.Mut q := fun q hq => ⟨(R.r.lt q hq).1, R.nr q hq⟩
  refine ⟨hrow, ⟨keeps_row R.f hk (nM R.f (by decide) (by decide)), ho, keeps_row R.o hk (nM R.o (by decide) (by decide)), keeps_row R.t hk (nM R.t (by decide) (by decide)), keeps_row R.k hk (nM R.k (by decide) (by decide)), ?_, ?_, R.nf, ?_, R.no, R.nt, R.nk, R.d1, R.d2, R.d3⟩, h.hM, h.fx⟩
  · refine ⟨hk.os.trans R.k0.os, hk.tape.trans R.k0.tape, hk.output.trans R.k0.output, Nat.le_trans R.k0.size hk.size, fun k hk' _ => (hk.block k (Nat.lt_of_lt_of_le hk' R.k0.size) (fun e => ?_)).trans (R.k0.block k hk' (fun e => e))⟩
    rcases e with e | e
    · have := h.hM.1; subst e; exact absurd hk' (Nat.not_lt.2 this)
    · exact absurd hk' (Nat.not_lt.2 (R.r.lt k e).1)
  · refine R.k1.trans hk (fun q _ e => ?_)
    rcases e with e | e
    · subst e; exact h.hM
    · exact hm q e
  · intro q hq hf
    rcases hl q hq with e | e
    · exact R.nr q e hf
    · exact absurd (hfx q hf) (Nat.not_lt.2 e)
/-- The frames' row is another one. -/
theorem MAt.newF (h : MAt X w c s) {v' : Value} {fs' : List Fr1} (hrow : w'.heap[X.M]? = some (.cells (mcells X { c with fs := v' } s) 84 (0, 0))) (ho : w'.ownsRow X.B 104 8 v' fs'.length (frow X fs'))
    (hk : Keeps (fun q => q = X.M ∨ c.fs.ownBlock = some q) w w') (hl : ∀ q, v'.ownBlock = some q → c.fs.ownBlock = some q ∨ w.heap.size ≤ q) : MAt X w' { c with fs := v' } { s with fs := fs' } := by
  have R := h.rows
  have hfx : ∀ q, X.Fx q → q < w.heap.size := fun q hq => Nat.lt_of_lt_of_le (h.fx q hq) R.k1.size
  have nM : ∀ {B z n : Nat} {e : TypeId} {v : Value} {xs : List Value}, w.ownsRow B e z v n xs → 84 ≠ e → 104 ≠ e → ∀ q, v.ownBlock = some q → ¬ (q = X.M ∨ c.fs.ownBlock = some q) := by
    intro B z n e v xs ho h1 h2 q hq hc
    rcases hc with rfl | hc
    · exact own_ne ho h.row h1 hq
    · exact own_ne2 ho R.f h2 hc hq
  have hm : ∀ q, c.fs.ownBlock = some q → X.Mut q := fun q hq => ⟨(R.f.lt q hq).1, R.nf q hq⟩
  refine ⟨hrow, ⟨ho, keeps_row R.r hk (nM R.r (by decide) (by decide)), keeps_row R.o hk (nM R.o (by decide) (by decide)), keeps_row R.t hk (nM R.t (by decide) (by decide)), keeps_row R.k hk (nM R.k (by decide) (by decide)), ?_, ?_, ?_, R.nr, R.no, R.nt, R.nk, R.d1, R.d2, R.d3⟩, h.hM, h.fx⟩
  · refine ⟨hk.os.trans R.k0.os, hk.tape.trans R.k0.tape, hk.output.trans R.k0.output, Nat.le_trans R.k0.size hk.size, fun k hk' _ => (hk.block k (Nat.lt_of_lt_of_le hk' R.k0.size) (fun e => ?_)).trans (R.k0.block k hk' (fun e => e))⟩
    rcases e with e | e
    · have := h.hM.1; subst e; exact absurd hk' (Nat.not_lt.2 this)
    · exact absurd hk' (Nat.not_lt.2 (R.f.lt k e).1)
  · refine R.k1.trans hk (fun q _ e => ?_)
    rcases e with e | e
    · subst e; exact h.hM
    · exact hm q e
  · intro q hq hf
    rcases hl q hq with e | e
    · exact R.nf q e hf
    · exact absurd (hfx q hf) (Nat.not_lt.2 e)
end
end Go.Proofs.YtbfjmhfhhlncjaaDoor
/- A call begins: enter, of a function without slots. -/
namespace Go.Proofs.YtbfjmhfhhlncjaaDoor
open Go.RowKit
set_option linter.unusedVariables false
set_option linter.unusedSimpArgs false

/-- What is handed in lies in memory, apart from what the run writes. -/
def ArgsAt (X : Sx) (w : World) (c : Cs) (aa : Option Addr) (la : List Int) : Prop := la = [] ∨ ∃ ab ao, aa = some ⟨ab, ao, none⟩ ∧ ab ≠ X.M ∧ c.rg.ownBlock ≠ some ab ∧ ∀ (j : Nat) z, la[j]? = some z → w.cell? ⟨ab, ao + j, none⟩ = some (.int .i64 z)
def St.enter (s : St) (fi R : Nat) (la : List Int) (d top : Int) : St := { s with fs := s.fs ++ [⟨fi, 0, 0, s.rg.length, top, top, d⟩], rg := s.rg ++ (la ++ List.replicate (R - la.length) 0) }
theorem infoFr : (Tryd.prog.info? 104).map (fun i => (i.zero, i.size, i.bytes)) = some (some (.agg #[.pointer none, .int .i64 0, .int .i64 0, .int .i64 0, .int .i64 0, .int .i64 0, .int .i64 0, .int .i64 0]), 8, 64) := by kernel_rfl
set_option maxRecDepth 100000 in
set_option maxHeartbeats 12800000 in
theorem enter0 (X : Sx) (hX : SxOk X) (w : World) (c : Cs) (s : St) (h : MAt X w c s) (fi : Nat) (F : Fx) (hF : X.P.fl[fi]? = some F) (hsl : F.slots.n = 0) (R : Nat) (hR : F.regs = R) (hR1 : 1 ≤ R ∧ R ≤ 256)
    (aa : Option Addr) (ca : Nat) (la : List Int) (hla : la.length ≤ R) (hA : ArgsAt X w c aa la) (d top : Int) (htop : 15728640 ≤ top) (hrl : s.rg.length ≤ 900000) (hfl : s.fs.length ≤ 100000) :
    Calls Tryd.prog 42 #[.pointer (some ⟨X.M, 0, none⟩), .int .i64 fi, .slice aa la.length ca, .int .i64 d, .int .i64 top] w (StepTo X (s.enter fi R la d top)) := by
  have hP := hX.pok
  have hfi : fi < X.P.fn := by rw [← hP.flen]; exact (List.getElem?_eq_some_iff.1 hF).1
  obtain ⟨fb, fo, F', hF', hfa, hft, hfo⟩ := Pg.fget hP hfi
  obtain rfl : F = F' := by rw [hF] at hF'; exact Option.some.inj hF'
  have hpe := hX.fa
  rw [hfa] at hpe
  injection hpe with hpe
  injection hpe with ep1 ep2 _
  subst ep1; subst ep2
  have hfc := hP.fcap
  unfold maxLen at hfc
  have HP := Lib.hid (fun (W : World) (hk : Keeps No X.w0 W) => (show W.cell? ⟨X.pb, 1, none⟩ = some (.slice (some ⟨X.fb, X.fo, none⟩) X.P.fn X.P.fc) by
    have := hk.cell0 (hX.pat 1 _ rfl); simp only [Nat.zero_add] at this; rw [hfa] at this; exact this))
  have HF := Lib.hid (fun (W : World) (hk : Keeps No X.w0 W) => (show W.cell? ⟨X.fb, X.fo + fi * 6 + 2, none⟩ = some (.int .i64 R) ∧ W.cell? ⟨X.fb, X.fo + fi * 6 + 3, none⟩ = some (.slice F.slots.a 0 F.slots.cap) by
    have h2 := hk.cell0 (hft 2 _ rfl); have h3 := hk.cell0 (hft 3 _ rfl)
    rw [hR] at h2; rw [Sl.v, hsl] at h3; exact ⟨h2, h3⟩))
  obtain ⟨pn, hpn⟩ : ∃ n, X.P.fn = n := ⟨_, rfl⟩
  obtain ⟨pc, hpc⟩ : ∃ n, X.P.fc = n := ⟨_, rfl⟩
  obtain ⟨sa, hsa⟩ : ∃ n, F.slots.a = n := ⟨_, rfl⟩
  obtain ⟨sc, hsc⟩ : ∃ n, F.slots.cap = n := ⟨_, rfl⟩
  rw [hpn] at HP hfi hfc
  rw [hpc] at HP hfc
  rw [hsa, hsc] at HF
  have H := Lib.hid h
  have HAA := Lib.hid hA
  have c0 : w.cell? ⟨X.M, 0, none⟩ = some (.pointer (some ⟨X.pb, 0, none⟩)) := h.cell 0 _ rfl
  have c2 : w.cell? ⟨X.M, 2, none⟩ = some c.rg := h.cell 2 _ rfl
  have p1 := HP.out w h.rows.k0
  obtain ⟨q2, q3⟩ := HF.out w h.rows.k0
  obtain ⟨rl, hrll⟩ : ∃ r, s.rg.length = r := ⟨_, rfl⟩
  have HRL := Lib.hid hrll
  obtain ⟨ll, hll⟩ : ∃ r, la.length = r := ⟨_, rfl⟩
  have HLL := Lib.hid hll
  have hrg : ∃ ra rc, c.rg = .slice ra rl rc ∧ rl ≤ rc ∧ rc ≤ maxLen := by
    rcases h.rows.r.2 with ⟨e, h0⟩ | ⟨g, cap, cur, e, _, _, h1, h2, _⟩
    · exact ⟨none, 0, by rw [e, ← hrll, h0], by omega, Nat.zero_le _⟩
    · exact ⟨_, cap, by rw [e, ← hrll], by omega, h2⟩
  obtain ⟨ra, rc, hrg, hrc⟩ := hrg
  unfold maxLen at hrc
  rw [hrg] at c2
  have HRG := Lib.hid hrg
  rw [hrll] at hrl
  rw [hll] at hla ⊢
  clear hP hF hsl hR hA h hX hfa hft hfo hpn hpc hsa hsc hrll hll hrg hF'
  have hfi' : (fi : Int) < (pn : Int) := by omega
  have hfi0 : (0 : Int) ≤ (fi : Int) := by omega
  go_enter Tryd.func42, Tryd.ntmps42
  go_wp2_with fail
  have hMl := (Array.getElem?_eq_some_iff.1 H.out.row).1
  have x2 : ∀ u : KW w, u.W.cell? ⟨X.M, 2, none⟩ = some (.slice ra rl rc) := fun u => u.cell c2
  have y2 : ∀ u : KW w, u.W.cell? ⟨X.fb, X.fo + fi * 6 + 2, none⟩ = some (.int .i64 R) := fun u => u.cell q2
  have hne : Nonempty (KW w) := ⟨KW.of _⟩
  have hs1 : IntKind.i64.wrap ((rl : Int) + (R : Int)) = (rl : Int) + (R : Int) := by rw [IntKind.wrap_i64]; omega
  refine Mix.wp_region_mix (fun W => ∃ u : KW w, W = u.W) [19] (by kernel_rfl) ?_
  have HK4 : Hid (Keeps No w w.drew) := Lib.hid ((Keeps.refl _ w).drew)
  have H4 := Lib.hid H.out.drew
  clear c0 c2 p1 q2 q3 hMl
  generalize w.drew = w4 at HK4 H4 ⊢
  refine Mix.mix_seg 0 9 11 (by kernel_rfl) (by kernel_rfl) rfl rfl ⟨⟨w4, HK4.out⟩, rfl⟩ ?_
  simp only [List.drop_succ_cons, List.drop_zero, List.take_succ_cons, List.take_zero]
  repeat (go_big_quiet_step (fail))
  refine wpQuiet_nil ?_
  refine Mix.mix_seg 10 6 5 (by kernel_rfl) (by kernel_rfl) rfl rfl ⟨⟨w4, HK4.out⟩, rfl⟩ ?_
  simp only [List.drop_succ_cons, List.drop_zero, List.take_succ_cons, List.take_zero]
  repeat (go_big_quiet_step (fail))
  refine wpQuiet_nil ?_
  clear x2 y2 hne hs1
  refine Mix.mix_one 9 4 (by kernel_rfl) rfl rfl ?_
  simp only [List.drop_succ_cons, List.drop_zero, List.take_succ_cons, List.take_zero]
  have HRW : Hid (w4.ownsRow X.B 2 1 (.slice ra rl rc) s.rg.length (irow s.rg)) := Lib.hid (by have := H4.out.rows.r; rw [HRG.out] at this; exact this)
  have HB4 : Hid (X.B ≤ w4.heap.size) := Lib.hid H4.out.rows.k0.size
  have HG := Lib.hid (grow_any w4 X.B (.slice ra rl rc) s.rg R HRW.out (by rw [HRL.out]; omega) (by omega) (by omega) HB4.out)
  rw [HRL.out] at HG
  go_wp2_with fail
  refine HG.out.mono ?_
  rintro e w5 ⟨g, cap, rfl, hroom, hk5, hg5⟩
  have HRM := Lib.hid hroom
  have HK5 := Lib.hid (HK4.out.trans hk5 (fun _ _ e => e))
  have HG5 := Lib.hid hg5
  have HK45 := Lib.hid hk5
  have H5 := Lib.hid (H4.out.keep hk5)
  have hcr := hroom.room
  have hcm := hroom.cap
  unfold maxLen at hcm
  rw [HRL.out] at hcr
  clear hroom hk5 hg5 HG
  go_wp2_with fail
  refine ⟨.inr ⟨⟨w5, HK5.out⟩, rfl⟩, ?_⟩
  refine Mix.mix_one 16 3 (by kernel_rfl) rfl rfl ?_
  simp only [List.drop_succ_cons, List.drop_zero, List.take_succ_cons, List.take_zero]
  go_wp2_with fail
  refine ⟨.inr ⟨⟨w5, HK5.out⟩, rfl⟩, ?_⟩
  refine Mix.mix_one 17 2 (by kernel_rfl) rfl rfl ?_
  simp only [List.drop_succ_cons, List.drop_zero, List.take_succ_cons, List.take_zero]
  go_wp2_with fail
  refine ⟨.inr ⟨⟨w5, HK5.out⟩, rfl⟩, ?_⟩
  refine Mix.mix_one 18 1 (by kernel_rfl) rfl rfl ?_
  simp only [List.drop_succ_cons, List.drop_zero, List.take_succ_cons, List.take_zero]
  go_wp2_with fail
  refine ⟨.inr ⟨⟨w5, HK5.out⟩, rfl⟩, ?_⟩
  have c2 : w5.cell? ⟨X.M, 2, none⟩ = some c.rg := H5.out.cell 2 _ rfl
  have f2 := H5.out.frozen 2
  refine Mix.mix_one 19 0 (by kernel_rfl) rfl rfl ?_
  simp only [List.drop_succ_cons, List.drop_zero, List.take_succ_cons, List.take_zero]
  go_wp2_with fail
  refine ⟨.inl ⟨rfl, rfl⟩, ?_⟩
  refine Mix.mix_end (by kernel_rfl) ?_
  obtain ⟨cur, hcur, hsz, htk⟩ := HRM.out.ex
  have hgM : g ≠ X.M := fun e => by
    have := H5.out.row; rw [e] at hcur; rw [hcur] at this; injection this with this; injection this with _ h2 _; exact absurd h2 (by decide)
  obtain ⟨w6, hw6⟩ : ∃ w6, w5.setCell ⟨X.M, 2, none⟩ (.slice (some ⟨g, 0, none⟩) (rl + R) cap) = w6 := ⟨_, rfl⟩
  have hM6 : w6.heap[X.M]? = some (.cells (mcells X { c with rg := .slice (some ⟨g, 0, none⟩) (rl + R) cap } s) 84 (0, 0)) := by
    rw [← hw6]; exact heap_setCell_same w5 X.M 2 _ _ _ H5.out.row
  have hg6 : w6.heap[g]? = some (.cells cur.toList.toArray 2 (0, 0)) := by
    rw [← hw6, Below.heap_setCell _ _ _ _ (fun e => hgM e), hcur]
  have hk6 : Keeps (fun q => q = X.M) w5 w6 := by rw [← hw6]; exact (Keeps.refl (fun q => q = X.M) w5).setCell (.inl rfl) _
  have hl0 : cur.toList.length = cap := by simpa using hsz
  rw [HRL.out] at htk
  have e2 : w6.cell? ⟨X.M, 2, none⟩ = some (.slice (some ⟨g, 0, none⟩) (rl + R) cap) := by rw [cell_of_row w6 X.M 2 _ _ _ hM6]; rfl
  have hclr : ∀ ty, (Builtin.clear_ #[25] ty #[.slice (some ⟨g, rl, none⟩) R (cap - rl)]).run Tryd.prog w6 = .ok (.tuple #[]) (w6.setCells g rl (List.replicate R (.int .i64 0))) := fun ty =>
    Lib.run_clear_slice w6 25 2 ty (.int .i64 0) Tryd.underlying25 Tryd.zeroValue2 rfl rfl g rl R (cap - rl) (by omega)
      (fun j hj => by rw [cell_of_row w6 g _ _ _ _ hg6]; simp; omega) (fun j hj => frozen_of_row w6 g _ _ _ hg6)
  have hg7 := setCells_row g 2 (List.replicate R (.int .i64 0)) rl w6 cur.toList hg6 (by simp; omega)
  have hk7 := keeps_setCells (S := fun q => q = g) (a := w6) g (.inl rfl) (List.replicate R (.int .i64 0)) rl w6 (Keeps.refl _ _)
  obtain ⟨w7, hw7⟩ : ∃ w7, w6.setCells g rl (List.replicate R (.int .i64 0)) = w7 := ⟨_, rfl⟩
  rw [hw7] at hg7 hk7 hclr
  have hcr1 : ¬ cap = rl := by omega
  have e7 : w7.cell? ⟨X.M, 2, none⟩ = some (.slice (some ⟨g, 0, none⟩) (rl + R) cap) := hk7.cell e2 (fun e => hgM e.symm)
  have hlaw : Hid (∀ (j : Nat) (u : Value), (irow la)[j]? = some u → ∃ ad, aa = some ad ∧ w7.cell? (ad.add j) = some u) := Lib.hid (fun j u hu => by
    obtain ⟨z, hz, rfl⟩ := irow_of hu
    rcases HAA.out with e | ⟨ab, ao, e, hab, hrb, hc⟩
    · rw [e] at hz; cases hz
    · refine ⟨_, e, ?_⟩
      have ea : (⟨ab, ao, none⟩ : Addr).add j = ⟨ab, ao + j, none⟩ := by unfold Addr.add; split <;> simp_all
      rw [ea]
      have hw := hc j z hz
      have hbl : ab < w.heap.size := World.block_lt_of_cell? w _ hw
      have h5 := HK5.out.cell0 hw
      have hgab : ab ≠ g := fun e => by
        rcases HG5.out with e2 | e2
        · rw [HRG.out] at hrb; exact hrb (by rw [e2, e])
        · have := HK4.out.size; omega
      exact hk7.cell (hk6.cell h5 hab) hgab)
  have HX := Lib.hid (And.intro hM6 (And.intro hg6 (And.intro hk6 (And.intro hg7 (And.intro hk7 (And.intro hl0 htk))))))
  have HCL := Lib.hid hclr
  have HGM := Lib.hid hgM
  have HCU : Hid ((cur.toList.take rl ++ (List.replicate R (Value.int .i64 0) ++ cur.toList.drop (rl + (List.replicate R (Value.int .i64 0)).length))).length = cap) := Lib.hid (by simp; simp at hl0; omega)
  have HIN : Hid ((Tryd.prog.info? 2).map (·.size) = some 1) := Lib.hid (by kernel_rfl)
  have HMIN : Hid ((irow la).length = Nat.min ll R) := Lib.hid (by rw [irow_len, HLL.out]; exact (Nat.min_eq_left hla).symm)
  have HPOS : Hid (0 < (irow la).length → ∃ ad, aa = some ad ∧ ∀ j v, (irow la)[j]? = some v → w7.cell? (ad.add j) = some v) := Lib.hid (fun hp => by
    obtain ⟨u, hu⟩ : ∃ u, (irow la)[0]? = some u := ⟨_, List.getElem?_eq_getElem hp⟩
    obtain ⟨ad, e, _⟩ := hlaw.out 0 u hu
    exact ⟨ad, e, fun j v hv => by obtain ⟨ad', e', hc⟩ := hlaw.out j v hv; rw [e] at e'; injection e' with e'; subst e'; exact hc⟩)
  clear hcur hsz htk hgM hM6 hg6 hk6 hg7 hk7 hl0 hclr hw7 c2 f2 hlaw
  rw [hw6]
  clear hw6
  go_wp2_with (first | (refine wpList_clear_run _ rfl (.tmp 98) 25 rfl _ rfl w7 (HCL.out _) ?_) | (with_reducible refine wpList_copy_any rfl (.tmp 104) (.tmp 105) 25 25 rfl 2 Tryd.underlying25 HIN.out aa R (cap - rl) ll ca g rl rfl rfl _ 2 HX.out.2.2.2.1 (irow la) HMIN.out HPOS.out (by rw [HCU.out, irow_len, HLL.out]; omega) (irow_one la) ?_))
  intro w8 hg8 hk8
  obtain ⟨C2, hg8', hCl, hCt⟩ : ∃ C2 : List Value, w8.heap[g]? = some (.cells C2.toArray 2 (0, 0)) ∧ C2.length = cap ∧ C2.take (rl + R) = irow s.rg ++ (irow la ++ List.replicate (R - ll) (Value.int .i64 0)) :=
    ⟨_, hg8, (enter_cells cur.toList (irow s.rg) (irow la) (Value.int .i64 0) rl R ll cap HX.out.2.2.2.2.2.1 HX.out.2.2.2.2.2.2 hcr (by rw [irow_len, HLL.out]) hla).2⟩
  have hE : (s.rg ++ (la ++ List.replicate (R - ll) 0)).length = rl + R := by simp [HRL.out, HLL.out]; omega
  have hB8 : X.B ≤ g := HRM.out.base
  have hM8 : w8.heap[X.M]? = some (.cells (mcells X { c with rg := .slice (some ⟨g, 0, none⟩) (rl + R) cap } s) 84 (0, 0)) := by
    have hMs := (Array.getElem?_eq_some_iff.1 HX.out.1).1
    have a1 := HX.out.2.2.2.2.1.block X.M hMs (fun e => HGM.out e.symm)
    have a2 := hk8.block X.M (Nat.lt_of_lt_of_le hMs HX.out.2.2.2.2.1.size) (fun e => HGM.out e.symm)
    rw [a2, a1]; exact HX.out.1
  have hO8 : w8.ownsRow X.B 2 1 (.slice (some ⟨g, 0, none⟩) (rl + R) cap) (s.rg ++ (la ++ List.replicate (R - ll) 0)).length (irow (s.rg ++ (la ++ List.replicate (R - ll) 0))) := by
    rw [hE]
    refine ⟨by rw [irow_len, hE, Nat.mul_one], .inr ⟨g, cap, C2.toArray, rfl, hB8, hg8', hcr, HRM.out.cap, by simpa using hCl, ?_⟩⟩
    rw [Nat.mul_one]
    show C2.take (rl + R) = _
    rw [hCt, irow_app, irow_app]
    unfold irow
    rw [List.map_replicate]
  have hG : c.rg.ownBlock = some g ∨ w4.heap.size ≤ g := by
    rcases HG5.out with e | e
    · left; rw [HRG.out]; exact e
    · exact .inr e
  have hK8 : Keeps (fun q => q = X.M ∨ c.rg.ownBlock = some q) w4 w8 := by
    have k5 : Keeps (fun q => q = X.M ∨ c.rg.ownBlock = some q) w4 w5 := HK45.out.mono (fun _ _ e => e.elim)
    have k6 := k5.trans HX.out.2.2.1 (fun q _ e => .inl e)
    have k7 : Keeps (fun q => q = X.M ∨ c.rg.ownBlock = some q) w4 w7 := k6.trans HX.out.2.2.2.2.1 (fun q hq e => by
      rcases hG with e2 | e2
      · exact .inr (by rw [e2, e])
      · omega)
    exact k7.trans hk8 (fun q hq e => by
      rcases hG with e2 | e2
      · exact .inr (by rw [e2, e])
      · omega)
  have H8 : Hid (MAt X w8 { c with rg := .slice (some ⟨g, 0, none⟩) (rl + R) cap } { s with rg := s.rg ++ (la ++ List.replicate (R - ll) 0) }) := Lib.hid (H4.out.newR hM8 hO8 hK8 (fun q hq => by
    obtain rfl : g = q := by simpa [Value.ownBlock] using hq
    exact hG))
  clear hG
  clear hg8 hg8' hk8 hCl hCt hE hB8 hM8 hO8 hK8 e7
  clear HX HCL HCU HMIN HPOS HIN
  obtain ⟨vf, hvf⟩ : ∃ v, c.fs = v := ⟨_, rfl⟩
  have HVF := Lib.hid hvf
  have g1 : w8.cell? ⟨X.M, 1, none⟩ = some vf := by rw [← hvf]; exact H8.out.cell 1 _ rfl
  have z1 := H8.out.frozen 1
  have HFO : Hid (∀ o : Obj, (w8.alloc o).ownsRow X.B 104 8 vf s.fs.length (frow X s.fs)) := Lib.hid (fun o => by rw [← hvf]; exact H8.out.rows.f.alloc o)
  obtain ⟨i0, hi, hz0, hz1, hz2⟩ := info_parts infoFr
  have HI := Lib.hid (And.intro hi (And.intro hz0 (And.intro hz1 hz2)))
  have HB8 : Hid (X.B ≤ w8.heap.size) := Lib.hid H8.out.rows.k0.size
  have HNW : Hid (∀ (j : Nat) u, (fcells X ⟨fi, 0, 0, rl, top, top, d⟩)[j]? = some u → (w8.alloc (.cells #[.pointer (some ⟨X.fb, X.fo + fi * 6, none⟩), .int .i64 fi, .int .i64 0, .int .i64 0, .int .i64 rl, .int .i64 top, .int .i64 top, .int .i64 d] 104)).cell? ((⟨w8.heap.size, 0, none⟩ : Addr).add j) = some u) := Lib.hid (fun j u hu => by
    have e : (⟨w8.heap.size, 0, none⟩ : Addr).add j = ⟨w8.heap.size, j, none⟩ := by unfold Addr.add; split <;> simp_all
    rw [e, World.cell?_alloc_at _ _ _ _ rfl]; rw [List.getElem?_toArray]; exact hu)
  have HONE : Hid (∀ u ∈ fcells X ⟨fi, 0, 0, rl, top, top, d⟩, u.oneCell' = true) := Lib.hid (by
    intro u hu; unfold fcells at hu; simp at hu; rcases hu with rfl | rfl | rfl | rfl | rfl | rfl | rfl | rfl <;> rfl)
  have HMX : Hid (s.fs.length + 1 ≤ maxLen) := Lib.hid (by unfold maxLen; omega)
  have hn1 : (s.fs.length + 1) * 64 ≤ 140737488355328 := by omega
  clear hi hz0 hz1 hz2 hvf
  go_wp2_with (at_builtin; refine wpList_append_lies _ rfl (.tmp 111) (.tmp 119) 81 rfl X.B 104 i0 _ 8 64 Tryd.underlying81 HI.out.1 HI.out.2.1 HI.out.2.2.1 HI.out.2.2.2 rfl (by decide) vf s.fs.length (frow X s.fs) rfl (HFO.out _) ⟨w8.heap.size, 0, none⟩ 1 1 (fcells X ⟨fi, 0, 0, rl, top, top, d⟩) rfl rfl HNW.out HONE.out (by decide) HMX.out hn1 (Nat.le_trans HB8.out (by simp)) _ rfl ?_)
  intro g9 cap9 w9 ho9 hg9 hl9 _
  have H8A := Lib.hid (H8.out.alloc (.cells #[.pointer (some ⟨X.fb, X.fo + fi * 6, none⟩), .int .i64 fi, .int .i64 0, .int .i64 0, .int .i64 rl, .int .i64 top, .int .i64 top, .int .i64 d] 104))
  have hvM : vf.ownBlock ≠ some X.M := by rw [← HVF.out]; exact own_ne H8.out.rows.f H8.out.row (by decide)
  have hM9 := (hg9.block X.M (Array.getElem?_eq_some_iff.1 H8A.out.row).1 (fun e => hvM e.symm)).trans H8A.out.row
  have g1' : w9.cell? ⟨X.M, 1, none⟩ = some vf := by rw [cell_of_row w9 X.M 1 _ _ _ hM9, ← HVF.out]; rfl
  have z1' : w9.frozen? ⟨X.M, 1, none⟩ = false := frozen_of_row w9 X.M 1 _ _ hM9
  have hgM : g9 ≠ X.M := fun e => by subst e; exact own_ne ho9 hM9 (by decide) rfl
  have hFl : (s.fs ++ [(⟨fi, 0, 0, rl, top, top, d⟩ : Fr1)]).length = s.fs.length + 1 := by simp
  have hFr : frow X (s.fs ++ [(⟨fi, 0, 0, rl, top, top, d⟩ : Fr1)]) = frow X s.fs ++ fcells X ⟨fi, 0, 0, rl, top, top, d⟩ := by unfold frow; rw [List.flatMap_append]; simp
  have hO9 : (w9.setCell ⟨X.M, 1, none⟩ (.slice (some ⟨g9, 0, none⟩) (s.fs.length + 1) cap9)).ownsRow X.B 104 8 (.slice (some ⟨g9, 0, none⟩) (s.fs.length + 1) cap9) (s.fs ++ [(⟨fi, 0, 0, rl, top, top, d⟩ : Fr1)]).length (frow X (s.fs ++ [(⟨fi, 0, 0, rl, top, top, d⟩ : Fr1)])) := by
    rw [hFl, hFr]; exact own_far ho9 (by simp [Value.ownBlock]; exact hgM) _
  have hK9 : Keeps (fun q => q = X.M ∨ c.fs.ownBlock = some q) (w8.alloc (.cells #[.pointer (some ⟨X.fb, X.fo + fi * 6, none⟩), .int .i64 fi, .int .i64 0, .int .i64 0, .int .i64 rl, .int .i64 top, .int .i64 top, .int .i64 d] 104)) (w9.setCell ⟨X.M, 1, none⟩ (.slice (some ⟨g9, 0, none⟩) (s.fs.length + 1) cap9)) :=
    ((Keeps.refl _ _).grown hg9 (fun q e => .inl (.inr (by rw [HVF.out]; exact e)))).setCell (.inl (.inl rfl)) _
  have H9 := Lib.hid (H8A.out.newF (v' := .slice (some ⟨g9, 0, none⟩) (s.fs.length + 1) cap9) (fs' := s.fs ++ [(⟨fi, 0, 0, rl, top, top, d⟩ : Fr1)]) (heap_setCell_same w9 X.M 1 _ _ _ hM9) hO9 hK9 (fun q hq => by
    obtain rfl : g9 = q := by simpa [Value.ownBlock] using hq
    rcases hl9 with e | e
    · exact .inl (by rw [← e]; exact congrArg _ HVF.out)
    · exact .inr (by simp; omega)))
  clear ho9 hg9 hl9 hvM hM9 hgM hFl hFr hO9 hK9 H8A g1 z1
  go_wp2_with fail
  go_returns
  unfold StepTo St.enter
  rw [HRL.out, HLL.out]
  exact ⟨rfl, _, H9.out⟩
end Go.Proofs.YtbfjmhfhhlncjaaDoor
/- A run goes on elsewhere: answer of the last call, lead of OpRet. -/
namespace Go.Proofs.YtbfjmhfhhlncjaaDoor
open Go.RowKit
set_option linter.unusedVariables false
set_option linter.unusedSimpArgs false

set_option maxRecDepth 100000 in
set_option maxHeartbeats 3200000 in
theorem answer_one (X : Sx) (w : World) (c : Cs) (s : St) (h : MAt X w c s) (hl : s.fs.length = 1) (n : Int) :
    Calls Tryd.prog 82 #[.pointer (some ⟨X.M, 0, none⟩), .int .i64 n] w (StepTo X (s.stop 1 n)) := by
  obtain ⟨g, cap, e1, e2, e3⟩ := h.fform (by rw [hl]; omega)
  rw [hl] at e1
  have c1 : w.cell? ⟨X.M, 1, none⟩ = some c.fs := h.cell 1 _ rfl
  rw [e1] at c1
  have HS := Lib.hid (stop_any X w c s h 1 n)
  clear h hl e1 e2
  go_enter Tryd.func82, Tryd.ntmps82
  go_wp2_with fail
  refine HS.out.mono ?_
  rintro e w1 ⟨rfl, h1⟩
  have H1 := Lib.hid h1
  clear h1
  go_wp2_with fail
  go_returns
  exact ⟨rfl, _, H1.out⟩
set_option maxRecDepth 100000 in
set_option maxHeartbeats 3200000 in
theorem lead_ret (X : Sx) (w : World) (s' : St) (ib io rb base ln rc a : Nat) (vf : Value) (z : Int) (hx0 : w.cell? ⟨ib, io, none⟩ = some (.int .i64 17)) (hx3 : w.cell? ⟨ib, io + 3, none⟩ = some (.int .i64 a)) (ha : a < ln) (hl : ln ≤ 1000000)
    (hz : w.cell? ⟨rb, base + a, none⟩ = some (.int .i64 z)) (HA : Calls Tryd.prog 82 #[.pointer (some ⟨X.M, 0, none⟩), .int .i64 z] w (StepTo X s')) :
    Calls Tryd.prog 69 #[.pointer (some ⟨X.M, 0, none⟩), vf, .pointer (some ⟨ib, io, none⟩), .slice (some ⟨rb, base, none⟩) ln rc] w (StepTo X s') := by
  have HAA := Lib.hid HA
  clear HA
  have ha1 : (a : Int) < (ln : Int) := by omega
  have ha0 : (0 : Int) ≤ (a : Int) := by omega
  go_enter Tryd.func69, Tryd.ntmps69
  go_wp2_with fail
  refine HAA.out.mono ?_
  rintro e w1 ⟨rfl, c', h1⟩
  have H1 := Lib.hid h1
  clear h1
  go_wp2_with fail
  go_returns
  exact ⟨rfl, _, H1.out⟩
end Go.Proofs.YtbfjmhfhhlncjaaDoor
/- ir.Run, of plain programs: what a run comes to, step by step. -/
namespace Go.Proofs.YtbfjmhfhhlncjaaDoor
open Go.RowKit
set_option linter.unusedVariables false
set_option linter.unusedSimpArgs false

/-- A step, wherever the run lies. -/
def StepsTo (fl : List Fx) (fuel : Int) (s s' : St) : Prop := ∀ (X : Sx) (w : World) (c : Cs), SxOk X → X.P.fl = fl → X.fuel = fuel → MAt X w c s → Calls Tryd.prog 43 #[.pointer (some ⟨X.M, 0, none⟩)] w (StepTo X s')
inductive Runs (fl : List Fx) (fuel : Int) : Nat → St → St → Prop
  | done (s : St) (h : s.kind ≠ 0) : Runs fl fuel 0 s s
  | step (n : Nat) (s s' t : St) (h : s.kind = 0) (hs : StepsTo fl fuel s s') (hr : Runs fl fuel n s' t) : Runs fl fuel (n + 1) s t
theorem Runs.inv0 {fl : List Fx} {fuel : Int} {k : Nat} {s t : St} (h : Runs fl fuel k s t) (hk : s.kind = 0) : ∃ k' s', k = k' + 1 ∧ StepsTo fl fuel s s' ∧ Runs fl fuel k' s' t := by
  cases h with
  | done _ h => exact absurd hk h
  | step n _ s' _ _ hs hr => exact ⟨n, s', rfl, hs, hr⟩
theorem Runs.inv1 {fl : List Fx} {fuel : Int} {k : Nat} {s t : St} (h : Runs fl fuel k s t) (hk : s.kind ≠ 0) : s = t := by
  cases h with
  | done _ h => rfl
  | step n _ s' _ h0 hs hr => exact absurd h0 hk
def St.start : St := ⟨[], [], [], [], [], 0, 0, 0, 0⟩
theorem out_cells (w : World) (g : Nat) (a b d : Value) (x y z : Value) (t : TypeId) (h : w.heap[g]? = some (.cells #[x, y, z] t (0, 0))) :
    (((w.setCell ⟨g, 0, none⟩ a).setCell ⟨g, 1, none⟩ b).setCell ⟨g, 2, none⟩ d).heap[g]? = some (.cells #[a, b, d] t (0, 0)) := by
  rw [heap_setCell_same _ g 2 _ t d (heap_setCell_same _ g 1 _ t b (heap_setCell_same w g 0 _ t a h))]; rfl
set_option maxRecDepth 100000 in
set_option maxHeartbeats 12800000 in
theorem run_any (p : Pg) (w : World) (hpo : PgOk w p) (L : Laid w) (hok : p.ok = true) (hfew : fewRegs p) (hpl : plain p) (hfn : p.fn ≤ 100000) (ia : Option Addr) (il ic : Nat) (hil : il ≤ 4096) (fuel : Int) (hfu : 0 ≤ fuel ∧ fuel ≤ 1048576)
    (m : Nat) (hm : p.main = m) (F : Fx) (hF : p.fl[m]? = some F) (R : Nat) (hR : F.regs = R) (hR1 : 1 ≤ R ∧ R ≤ 256) (n : Nat) (sF : St) (hr : Runs p.fl fuel n (St.start.enter m R [] (-1) 16777216) sF) :
    Calls Tryd.prog 22 #[pv p, .slice ia il ic, .int .i64 fuel] w fun e w' => ∃ vo, e = .returned (.agg #[.int .i64 sF.kind, .int .i64 sF.code, vo]) ∧ w'.ownsRow w.heap.size 5 1 vo sF.out.length (brow sF.out) ∧ Keeps No w w' := by
  have HC := Lib.hid (fun (W : World) (hk : Keeps No w W) => check_any p W (hpo.no hk) (L.no hk))
  have HPK := Lib.hid (fun (W : World) (hk : Keeps No w W) => packed_any p W (hpo.no hk) (by have := (List.getElem?_eq_some_iff.1 hF).1; rw [hpo.flen] at this; omega) hfn hfew)
  rw [hok] at HC
  have HPO := Lib.hid hpo
  have HPL := Lib.hid hpl
  have HFN := Lib.hid hfn
  have HF := Lib.hid (And.intro hm (And.intro hF (And.intro hR hR1)))
  have HR := Lib.hid hr
  obtain ⟨ga, hga⟩ : ∃ A, p.ga = A := ⟨_, rfl⟩
  obtain ⟨gn, hgn⟩ : ∃ A, p.gn = A := ⟨_, rfl⟩
  obtain ⟨gc, hgc⟩ : ∃ A, p.gc = A := ⟨_, rfl⟩
  obtain ⟨fa, hfa⟩ : ∃ A, p.fa = A := ⟨_, rfl⟩
  obtain ⟨fn, hfn'⟩ : ∃ A, p.fn = A := ⟨_, rfl⟩
  obtain ⟨fc, hfc⟩ : ∃ A, p.fc = A := ⟨_, rfl⟩
  unfold pv
  unfold pv at HC
  rw [hga, hgn, hgc, hfa, hfn', hfc, hm]
  rw [hga, hgn, hgc, hfa, hfn', hfc, hm] at HC
  rw [hfa, hfn', hfc] at HPK
  have HG := Lib.hid (And.intro hga (And.intro hgn (And.intro hgc (And.intro hfa (And.intro hfn' hfc)))))
  clear hpo L hok hfew hpl hfn hm hF hR hR1 hr hga hgn hgc hfa hfn' hfc
  have u1 : ¬ fuel < 0 := by omega
  have u2 : ¬ 1048576 < fuel := by omega
  have u3 : ¬ 4096 < (il : Int) := by omega
  go_enter Tryd.func22, Tryd.ntmps22
  go_wp2_with fail
  obtain ⟨pb, hpb⟩ : ∃ q, w.heap.size = q := ⟨_, rfl⟩
  obtain ⟨w1, hw1⟩ : ∃ W, (w.alloc (.cells #[.slice ga gn gc, .slice fa fn fc, .int .i64 m] 36)).alloc (.cells #[.int .i64 0, .int .i64 0, .slice none 0 0] 57) = W := ⟨_, rfl⟩
  have hk1 : Keeps No w w1 := by rw [← hw1]; exact ((Keeps.refl _ _).alloc _).alloc _
  have hrp : w1.heap[pb]? = some (.cells #[.slice ga gn gc, .slice fa fn fc, .int .i64 m] 36 (0, 0)) := by
    rw [← hw1, Below.heap_alloc _ _ _ (by simp; omega), ← hpb]; exact heap_alloc_new _ _
  have hro : w1.heap[pb + 1]? = some (.cells #[.int .i64 0, .int .i64 0, .slice none 0 0] 57 (0, 0)) := by
    rw [← hw1, ← hpb]
    have := heap_alloc_new (w.alloc (.cells #[.slice ga gn gc, .slice fa fn fc, .int .i64 m] 36)) (.cells #[.int .i64 0, .int .i64 0, .slice none 0 0] 57)
    simpa using this
  rw [hw1]
  simp only [hpb]
  refine (HC.out w1 hk1).mono ?_
  rintro e w2 ⟨rfl, hk2⟩
  have hrp2 := (hk2.block pb (Array.getElem?_eq_some_iff.1 hrp).1 (fun e => e)).trans hrp
  have hro2 := (hk2.block (pb + 1) (Array.getElem?_eq_some_iff.1 hro).1 (fun e => e)).trans hro
  have HK2 := Lib.hid (hk1.trans hk2 (fun _ _ e => e))
  have HRP2 := Lib.hid hrp2
  have HRO2 := Lib.hid hro2
  have HPB := Lib.hid hpb
  have b1 : w2.cell? ⟨pb, 1, none⟩ = some (.slice fa fn fc) := by rw [cell_of_row w2 pb 1 _ _ _ hrp2]; rfl
  clear hk1 hk2 hrp hro hrp2 hro2 hw1 hpb HC
  go_wp2_with fail
  refine (HPK.out w2 HK2.out).mono ?_
  rintro e w3 ⟨g, cap, rfl, ho, hk3⟩
  have hrp3 := (hk3.block pb (Array.getElem?_eq_some_iff.1 HRP2.out).1 (fun e => e)).trans HRP2.out
  have hro3 := (hk3.block (pb + 1) (Array.getElem?_eq_some_iff.1 HRO2.out).1 (fun e => e)).trans HRO2.out
  have HK3 := Lib.hid (HK2.out.trans hk3 (fun _ _ e => e))
  have HRP3 := Lib.hid hrp3
  have HRO3 := Lib.hid hro3
  have HO3 := Lib.hid ho
  have HS3 : Hid (pb + 1 < w2.heap.size) := Lib.hid (Array.getElem?_eq_some_iff.1 HRO2.out).1
  have b1' : w3.cell? ⟨pb, 1, none⟩ = some (.slice fa fn fc) := by rw [cell_of_row w3 pb 1 _ _ _ hrp3]; rfl
  have f1' : w3.frozen? ⟨pb, 1, none⟩ = false := frozen_of_row w3 pb 1 _ _ hrp3
  clear hk3 hrp3 hro3 ho HPK b1 HRP2 HRO2
  go_wp2_with fail
  obtain ⟨w4, hw4⟩ : ∃ W, w3.setCell ⟨pb, 1, none⟩ (.slice (some ⟨g, 0, none⟩) fn cap) = W := ⟨_, rfl⟩
  have hsz : w4.heap.size = w3.heap.size := by rw [← hw4]; simp [World.setCell]
  have hrp4 : w4.heap[pb]? = some (.cells #[.slice ga gn gc, .slice (some ⟨g, 0, none⟩) fn cap, .int .i64 m] 36 (0, 0)) := by
    rw [← hw4, heap_setCell_same w3 pb 1 _ _ _ HRP3.out]; rfl
  have hro4 : w4.heap[pb + 1]? = some (.cells #[.int .i64 0, .int .i64 0, .slice none 0 0] 57 (0, 0)) := by
    rw [← hw4, Below.heap_setCell _ _ _ _ (by simp)]; exact HRO3.out
  have hk4 : Keeps No w w4 := by rw [← hw4]; exact HK3.out.setCell (.inr (by rw [HPB.out]; exact Nat.le_refl _)) _
  have hgb : w2.heap.size ≤ g ∧ g < w3.heap.size := HO3.out.lt g rfl
  have hgpb : g ≠ pb := by have := HS3.out; omega
  have ho4 : w4.ownsRow w2.heap.size 42 6 (.slice (some ⟨g, 0, none⟩) fn cap) fn (p.fl.flatMap Fx.cells) := by
    rw [← hw4]; exact own_far HO3.out (by simp [Value.ownBlock]; exact hgpb) _
  have hQ : PgOk w4 (p.re g cap) := (HPO.out.no hk4).re (by rw [HG.out.2.2.2.2.1]; exact ho4)
  have hQa : (p.re g cap).at_ w4 pb 0 := fun j v hj => by
    rw [Nat.zero_add, cell_of_row w4 pb j _ _ _ hrp4, List.getElem?_toArray]
    unfold Pg.cells Pg.re at hj
    simp only [HG.out.1, HG.out.2.1, HG.out.2.2.1, HG.out.2.2.2.2.1, HF.out.1] at hj
    exact hj
  have hQp : plain (p.re g cap) := HPL.out
  have hQn : (p.re g cap).fn ≤ 100000 := HFN.out
  rw [hw4, ← hsz]
  obtain ⟨M, hM⟩ : ∃ q, w4.heap.size = q := ⟨_, rfl⟩
  rw [hM]
  have hM5 : (w4.alloc (.cells (rawc pb (.slice ia il ic) fuel nil nil nil) 84)).heap[M]? = some (.cells (rawc pb (.slice ia il ic) fuel nil nil nil) 84 (0, 0)) := by
    rw [← hM]; exact heap_alloc_new _ _
  have hka : Keeps No w4 (w4.alloc (.cells (rawc pb (.slice ia il ic) fuel nil nil nil) 84)) := (Keeps.refl _ _).alloc _
  have hMpb : pb + 1 < M := by have := HS3.out; omega
  have hgM : g < M := by omega
  refine (fill0 (p.re g cap) pb M (.slice ia il ic) fuel _ (hQa.no hka) (hQ.no hka) hQp hM5 hQn (by omega) (fun b off e => by
    have : (p.re g cap).fa = some ⟨g, 0, none⟩ := rfl
    rw [this] at e; injection e with e; injection e with e _ _; omega)).mono ?_
  rintro e w6 ⟨rfl, sl, dt, hM6, hk6, hd6⟩
  have hk46 : Keeps No w4 w6 := by
    refine ⟨hk6.os, hk6.tape, hk6.output, by have := hk6.size; simp at this; omega, fun q hq _ => ?_⟩
    rw [hk6.block q (by simp; omega) (by omega), Below.heap_alloc w4 _ q hq]
  have hM6' : M < w6.heap.size := (Array.getElem?_eq_some_iff.1 hM6).1
  obtain ⟨X, hX⟩ : ∃ X : Sx, X = ⟨p.re g cap, pb, g, 0, .slice ia il ic, fuel, nil, sl, M, w4, w6, fun _ => False⟩ := ⟨_, rfl⟩
  have hXok : SxOk X := by rw [hX]; exact ⟨hQ, hQa, rfl⟩
  have hXM : MAt X w6 ⟨nil, nil, nil, dt, nil⟩ St.start := by
    rw [hX]
    refine ⟨hM6, ⟨World.ownsRow_nil _ _ _ _, World.ownsRow_nil _ _ _ _, World.ownsRow_nil _ _ _ _, own_mono hd6 (by simp), World.ownsRow_nil _ _ _ _, hk46, Keeps.refl _ _, fun _ _ e => e, fun _ _ e => e, fun _ _ e => e, fun _ _ e => e, fun _ _ e => e, (fun q e => by cases e), (fun q e => by cases e), (fun q e1 e2 => by cases e2)⟩, ⟨by rw [← hM]; exact Nat.le_refl _, fun e => e⟩, fun q e => e.elim⟩
  have hXP : X.P.fl = p.fl := by rw [hX]; rfl
  have hXf : X.fuel = fuel := by rw [hX]
  have hXMM : X.M = M := by rw [hX]
  have hXw : X.w0 = w4 := by rw [hX]
  have HX := Lib.hid (And.intro hXok (And.intro hXP (And.intro hXf (And.intro hXMM hXw))))
  have HXM := Lib.hid hXM
  have HRP4 := Lib.hid hrp4
  have HRO4 := Lib.hid hro4
  have HK4 := Lib.hid hk4
  have HK46 := Lib.hid hk46
  have b2 : w6.cell? ⟨pb, 2, none⟩ = some (.int .i64 m) := hk46.cell0 (by rw [cell_of_row w4 pb 2 _ _ _ hrp4]; rfl)
  have HE := Lib.hid (enter0 X hXok w6 _ _ hXM m F (by rw [hXP]; exact HF.out.2.1) (HPL.out.2 F (List.mem_of_getElem? HF.out.2.1)) R HF.out.2.2.1 HF.out.2.2.2 none 0 [] (Nat.zero_le _) (.inl rfl) (-1) 16777216 (by decide) (by simp [St.start]) (by simp [St.start]))
  rw [hXMM] at HE
  have HHM : Hid (pb + 1 < M) := Lib.hid hMpb
  clear hsz hrp4 hro4 hk4 hgb hgpb ho4 hQ hQa hQp hQn hM5 hka hMpb hgM hM6 hk6 hd6 hk46 hM6' hX hXok hXM hXP hXf hXMM hXw hw4 hM b1' f1'
  go_wp2_with fail
  refine HE.out.mono ?_
  rintro e w7 ⟨rfl, c7, h7⟩
  have H7 := Lib.hid h7
  clear h7 HE b2
  go_wp2_with fail
  go_loopg [] n (fun gk wr => ∃ (c : Cs) (s : St), Hid (MAt X wr c s) ∧ Hid (Runs p.fl fuel gk s sF))
  case atStart => exact ⟨_, _, H7, HR⟩
  case round =>
    obtain ⟨c, s, HS, HRU⟩ := hrel
    have m12 : wr.cell? ⟨X.M, 12, none⟩ = some (.int .i64 s.kind) := HS.out.cell 12 _ rfl
    rw [HX.out.2.2.2.1] at m12
    by_cases hkd : s.kind = 0
    · rw [hkd] at m12
      obtain ⟨gk', s', hg', hst, hrr⟩ := HRU.out.inv0 hkd
      have HRR := Lib.hid hrr
      have HST := Lib.hid (hst X wr c HX.out.1 HX.out.2.1 HX.out.2.2.1 HS.out)
      have HGK := Lib.hid hg'
      rw [HX.out.2.2.2.1] at HST
      clear hkd hg' hst hrr
      go_wp2_with fail
      refine HST.out.mono ?_
      rintro e w8 ⟨rfl, c8, h8⟩
      have H8 := Lib.hid h8
      clear h8 m12
      go_wp2_with fail
      go_roundg gk'
      case rel => exact ⟨_, _, H8, HRR⟩
      case measure => rw [HGK.out]; omega
    · have hf : (s.kind == 0) = false := beq_eq_false_iff_ne.2 hkd
      have HFE : Hid (s = sF) := Lib.hid (HRU.out.inv1 hkd)
      have m13 : wr.cell? ⟨X.M, 13, none⟩ = some (.int .i64 s.code) := HS.out.cell 13 _ rfl
      have m9 : wr.cell? ⟨X.M, 9, none⟩ = some c.out := HS.out.cell 9 _ rfl
      obtain ⟨oa, oc, hoe, _⟩ := own_form HS.out.rows.o
      obtain ⟨on, hon⟩ : ∃ q, s.out.length = q := ⟨_, rfl⟩
      rw [hoe, hon] at m9
      rw [HX.out.2.2.2.1] at m13 m9
      rw [hon] at hoe
      have HOE := Lib.hid (And.intro hoe hon)
      clear hoe hon
      have hk0 : Keeps No w4 wr := by rw [← HX.out.2.2.2.2]; exact HS.out.rows.k0
      have hro := (hk0.block (pb + 1) (Array.getElem?_eq_some_iff.1 HRO4.out).1 (fun e => e)).trans HRO4.out
      have HRO := Lib.hid hro
      have HKR := Lib.hid (HK4.out.trans hk0 (fun _ _ e => e))
      have r0 : wr.cell? ⟨pb + 1, 0, none⟩ = some (.int .i64 0) := by rw [cell_of_row wr (pb + 1) 0 _ _ _ hro]; rfl
      have r1 : wr.cell? ⟨pb + 1, 1, none⟩ = some (.int .i64 0) := by rw [cell_of_row wr (pb + 1) 1 _ _ _ hro]; rfl
      have r2 : wr.cell? ⟨pb + 1, 2, none⟩ = some (.slice none 0 0) := by rw [cell_of_row wr (pb + 1) 2 _ _ _ hro]; rfl
      have f0 : wr.frozen? ⟨pb + 1, 0, none⟩ = false := frozen_of_row wr _ 0 _ _ hro
      have f1 : wr.frozen? ⟨pb + 1, 1, none⟩ = false := frozen_of_row wr _ 1 _ _ hro
      have f2 : wr.frozen? ⟨pb + 1, 2, none⟩ = false := frozen_of_row wr _ 2 _ _ hro
      clear hkd hro hk0
      go_wp2_with fail
      obtain ⟨w9, hw9⟩ : ∃ W, ((wr.setCell ⟨pb + 1, 0, none⟩ (.int .i64 s.kind)).setCell ⟨pb + 1, 1, none⟩ (.int .i64 s.code)).setCell ⟨pb + 1, 2, none⟩ (.slice oa on oc) = W := ⟨_, rfl⟩
      rw [hw9]
      have hr9 : w9.heap[pb + 1]? = some (.cells #[.int .i64 s.kind, .int .i64 s.code, .slice oa on oc] 57 (0, 0)) := by rw [← hw9]; exact out_cells wr _ _ _ _ _ _ _ _ HRO.out
      have hpw : w.heap.size ≤ pb + 1 := by rw [HPB.out]; omega
      have hk9 : Keeps No w w9 := by
        rw [← hw9]; exact ((HKR.out.setCell (.inr hpw) _).setCell (.inr hpw) _).setCell (.inr hpw) _
      have ho9 : w9.ownsRow w.heap.size 5 1 (.slice oa on oc) s.out.length (brow s.out) := by
        have ho := HS.out.rows.o
        rw [HOE.out.1] at ho
        have hne : (Value.slice oa on oc).ownBlock ≠ some (pb + 1) := own_ne ho HRO.out (by decide)
        have hbb : w.heap.size ≤ X.B := by have := HK4.out.size; unfold Sx.B; rw [HX.out.2.2.2.2]; exact this
        rw [← hw9]
        exact own_mono (own_far (own_far (own_far ho hne _) hne _) hne _) hbb
      have q0 : w9.cell? ⟨pb + 1, 0, none⟩ = some (.int .i64 s.kind) := by rw [cell_of_row w9 _ 0 _ _ _ hr9]; rfl
      have q1 : w9.cell? ⟨pb + 1, 1, none⟩ = some (.int .i64 s.code) := by rw [cell_of_row w9 _ 1 _ _ _ hr9]; rfl
      have q2 : w9.cell? ⟨pb + 1, 2, none⟩ = some (.slice oa on oc) := by rw [cell_of_row w9 _ 2 _ _ _ hr9]; rfl
      rw [HFE.out] at q0 q1 ho9
      refine bodyPost_ret (v := .agg #[.int .i64 sF.kind, .int .i64 sF.code, .slice oa on oc]) ?_ ?_ ⟨_, rfl, ho9, hk9⟩
      · simp [results, Tryd.results22, go_sem, q0, q1, q2]
      · rfl
end Go.Proofs.YtbfjmhfhhlncjaaDoor
