/- byParams, of a program whose functions that are taken have no parameters. -/
import Derived.Test.YtkiimljdoebclaaDoorGrTaken
import Derived.Test.YtkiimljdoebclaaDoorGrFds
namespace Go.Proofs.YtkiimljdoebclaaDoor
open Go.RowKit Go.Maps
set_option linter.unusedVariables false
set_option linter.unusedSimpArgs false

structure TkOk (p : Pg) : Prop where
  few : p.tk.length ≤ 12
  zero : ∀ z ∈ keys p.tk, ∃ (v : Nat) (f : Fx), z = (v : Int) ∧ p.fl[v]? = some f ∧ f.params = 0
theorem TkOk.nil {p : Pg} (h : p.tk = []) : TkOk p := ⟨by rw [h]; simp, fun z hz => by rw [h] at hz; simp [keys] at hz⟩
/-- A row in an array of seven, ahead of six that are none. -/
def sev (v : Value) : Array Value := #[v, .slice none 0 0, .slice none 0 0, .slice none 0 0, .slice none 0 0, .slice none 0 0, .slice none 0 0]
theorem sev_sets {w : World} {a : Nat} (v : Value) (h : w.heap[a]? = some (.cells (sev (.slice none 0 0)) 63 (0, 0))) : Keeps (fun q => q = a) w (((((((w.setCell ⟨a, 0, none⟩ v).setCell ⟨a, 1, none⟩ (.slice none 0 0)).setCell ⟨a, 2, none⟩ (.slice none 0 0)).setCell ⟨a, 3, none⟩ (.slice none 0 0)).setCell ⟨a, 4, none⟩ (.slice none 0 0)).setCell ⟨a, 5, none⟩ (.slice none 0 0)).setCell ⟨a, 6, none⟩ (.slice none 0 0)) ∧ (((((((w.setCell ⟨a, 0, none⟩ v).setCell ⟨a, 1, none⟩ (.slice none 0 0)).setCell ⟨a, 2, none⟩ (.slice none 0 0)).setCell ⟨a, 3, none⟩ (.slice none 0 0)).setCell ⟨a, 4, none⟩ (.slice none 0 0)).setCell ⟨a, 5, none⟩ (.slice none 0 0)).setCell ⟨a, 6, none⟩ (.slice none 0 0)).heap[a]? = some (.cells (sev v) 63 (0, 0)) := by
  refine ⟨((((((((Keeps.refl (fun q => q = a) w).setCell (.inl rfl) _).setCell (.inl rfl) _).setCell (.inl rfl) _).setCell (.inl rfl) _).setCell (.inl rfl) _).setCell (.inl rfl) _).setCell (.inl rfl) _), ?_⟩
  have h0 : (w.setCell ⟨a, 0, none⟩ v).heap[a]? = some (.cells (sev v) 63 (0, 0)) := by rw [heap_setCell_same w a 0 _ _ _ h]; rfl
  have st : ∀ {W : World} (j : Nat), 1 ≤ j → j < 7 → W.heap[a]? = some (.cells (sev v) 63 (0, 0)) → (W.setCell ⟨a, j, none⟩ (.slice none 0 0)).heap[a]? = some (.cells (sev v) 63 (0, 0)) := by
    intro W j h1 h7 hW
    rw [heap_setCell_same W a j _ _ _ hW]
    have hh : j = 1 ∨ j = 2 ∨ j = 3 ∨ j = 4 ∨ j = 5 ∨ j = 6 := by omega
    rcases hh with rfl | rfl | rfl | rfl | rfl | rfl <;> rfl
  exact st 6 (by omega) (by omega) (st 5 (by omega) (by omega) (st 4 (by omega) (by omega) (st 3 (by omega) (by omega) (st 2 (by omega) (by omega) (st 1 (by omega) (by omega) h0)))))
theorem sev_cell {w : World} {a : Nat} {v : Value} (h : w.heap[a]? = some (.cells (sev v) 63 (0, 0))) (j : Nat) (x : Value) (hj : (sev v)[j]? = some x) : w.cell? ⟨a, j, none⟩ = some x := by rw [cell_of_row w a j _ _ _ h]; exact hj
set_option maxRecDepth 100000 in
set_option maxHeartbeats 12800000 in
theorem byParams_any (p : Pg) (pb po : Nat) (w : World) (hp : p.at_ w pb po) (hok : PgOk w p) (hg : p.gn = 0) (hn : p.ins.length ≤ 999999) (ht : TkOk p) :
    Calls Tryd.prog 23 #[.pointer (some ⟨pb, po, none⟩)] w fun e w' => ∃ ta tk tc, e = .returned (.agg (sev (.slice ta tk tc))) ∧ Keeps No w w' := by
  have HT : Hid (∀ W, Keeps No w W → Calls Tryd.prog 27 #[.pointer (some ⟨pb, po, none⟩)] W fun e w' => ∃ v, e = .returned v ∧ w'.ownsRow W.heap.size 3 1 v p.tk.length (irow (isort (keys p.tk))) ∧ Keeps No W w') := Lib.hid (fun W hk => taken_any p pb po W (hp.no hk) (hok.no hk) hg hn ht.few)
  have HZ : Hid (∀ (j : Nat) (z : Int), (isort (keys p.tk))[j]? = some z → ∃ (v : Nat) (f : Fx) (b off : Nat), z = (v : Int) ∧ v < p.fn ∧ p.fa = some ⟨b, off, none⟩ ∧ w.cell? ⟨b, off + v * 6 + 1, none⟩ = some (.int .i64 0)) := Lib.hid (fun j z hz => by
    have hm := (isort_perm (keys p.tk)).mem_iff.1 (List.mem_of_getElem? hz)
    obtain ⟨v, f, e, hf, h0⟩ := ht.zero z hm
    have hv : v < p.fn := by rw [← hok.flen]; exact (List.getElem?_eq_some_iff.1 hf).1
    obtain ⟨b, off, e2, hat⟩ := hok.fat (by omega)
    exact ⟨v, f, b, off, e, hv, e2, by have := hat v f hf 1 _ rfl; rw [h0] at this; exact this⟩)
  have hfc := hok.fcap
  unfold maxLen at hfc
  have c1 := hp 1 _ rfl
  have hl12 := ht.few
  obtain ⟨n, hn2⟩ : ∃ n, p.tk.length = n := ⟨_, rfl⟩
  rw [hn2] at HT hl12
  have HC1 := Lib.hid c1
  clear hp hok hg hn ht hn2 c1
  go_enter Tryd.func23, Tryd.ntmps23
  go_upto_region 2 with fail
  have hk1 : Keeps No w ((w.alloc (.cells (sev (.slice none 0 0)) 63)).alloc (.cells (sev (.slice none 0 0)) 63)) := ((Keeps.refl No w).alloc _).alloc _
  have hra : ((w.alloc (.cells (sev (.slice none 0 0)) 63)).alloc (.cells (sev (.slice none 0 0)) 63)).heap[w.heap.size]? = some (.cells (sev (.slice none 0 0)) 63 (0, 0)) := by
    rw [Below.heap_alloc _ _ _ (by simp)]; exact heap_alloc_new _ _
  have hrb : ((w.alloc (.cells (sev (.slice none 0 0)) 63)).alloc (.cells (sev (.slice none 0 0)) 63)).heap[w.heap.size + 1]? = some (.cells (sev (.slice none 0 0)) 63 (0, 0)) := by
    have h := heap_alloc_new (w.alloc (.cells (sev (.slice none 0 0)) 63)) (.cells (sev (.slice none 0 0)) 63)
    simpa using h
  unfold sev at hk1 hra hrb
  generalize (w.alloc (.cells #[.slice none 0 0, .slice none 0 0, .slice none 0 0, .slice none 0 0, .slice none 0 0, .slice none 0 0, .slice none 0 0] 63)).alloc (.cells #[.slice none 0 0, .slice none 0 0, .slice none 0 0, .slice none 0 0, .slice none 0 0, .slice none 0 0, .slice none 0 0] 63) = w1 at hk1 hra hrb ⊢
  obtain ⟨b, hb⟩ : ∃ c, w.heap.size + 1 = c := ⟨_, rfl⟩
  obtain ⟨a, ha⟩ : ∃ c, w.heap.size = c := ⟨_, rfl⟩
  rw [hb] at hrb ⊢
  rw [ha] at hra ⊢
  have HA : Hid (w.heap.size = a ∧ w.heap.size + 1 = b) := Lib.hid ⟨ha, hb⟩
  have HRA := Lib.hid (And.intro hra hrb)
  have HK1 := Lib.hid hk1
  clear hb ha hra hrb hk1
  go_wp2_with fail
  refine (HT.out w1 HK1.out).mono ?_
  rintro e w2 ⟨vt, rfl, ho2, hk2⟩
  obtain ⟨aa, ca, rfl, _⟩ := own_form ho2
  have HO2 := Lib.hid ho2
  have hra2 := (hk2.block a (Array.getElem?_eq_some_iff.1 HRA.out.1).1 (fun e => e)).trans HRA.out.1
  have hrb2 := (hk2.block b (Array.getElem?_eq_some_iff.1 HRA.out.2).1 (fun e => e)).trans HRA.out.2
  have HK2 := Lib.hid (HK1.out.trans hk2 (fun _ _ e => e))
  have HRA2 := Lib.hid hra2
  have HRB2 := Lib.hid hrb2
  clear hra2 hrb2 hk2 ho2 HRA HT HK1
  go_wp2_with fail
  go_loopg [10] n (fun k x wr => ∃ i : Nat, ∃ ua uc l, x = .int .i64 (i : Int) ∧ i ≤ n ∧ k = n - i ∧ Hid (Keeps (fun q => q = b) w2 wr) ∧ Hid (wr.heap[b]? = some (.cells (sev (.slice ua i uc)) 63 (0, 0))) ∧ Hid (wr.ownsRow w2.heap.size 3 1 (.slice ua i uc) i (irow l)))
  case atStart => exact ⟨0, none, 0, [], rfl, Nat.zero_le _, rfl, Lib.hid (Keeps.refl _ _), Lib.hid HRB2.out, Lib.hid (World.ownsRow_nil _ _ _ _)⟩
  case round =>
    obtain ⟨i, ua, uc, l, rfl, hi, hg, HKI, HBI, HOI⟩ := hrel
    by_cases hlt : i < n
    · have hlt' : (i : Int) < (n : Int) := by omega
      have i0 : (0 : Int) ≤ (i : Int) := by omega
      obtain ⟨z, hz⟩ : ∃ z, (isort (keys p.tk))[i]? = some z := ⟨_, List.getElem?_eq_getElem (by have := HO2.out.1; unfold irow at this; rw [List.length_map] at this; omega)⟩
      obtain ⟨v, f, fb, fo, rfl, hv, hfa, hpar⟩ := HZ.out i z hz
      obtain ⟨g, rfl⟩ : ∃ g, aa = some ⟨g, 0, none⟩ := by
        rcases HO2.out.2 with ⟨h1, h2⟩ | ⟨g1, cap, cur, h1, _⟩
        · omega
        · injection h1 with h1 _ _; exact ⟨g1, h1⟩
      have hgb : g ≠ b := by obtain ⟨cs, hc⟩ := own_typ HO2.out rfl; exact (ne_type HRB2.out hc (by decide)).symm
      have hcap : n ≤ ca ∧ ca ≤ 9223372036854775807 := by
        rcases HO2.out.2 with ⟨h1, _⟩ | ⟨g1, cap, cur, h1, _, _, h4, h5, _⟩
        · cases h1
        · injection h1 with _ _ e; subst e; exact ⟨h4, h5⟩
      have c2 : w2.cell? ⟨g, i, none⟩ = some (.int .i64 (v : Int)) := by rw [World.ownsRow.cellAt HO2.out i (by omega)]; exact irow_get hz
      have ci := HKI.out.cell c2 hgb
      have hkw : Keeps No w wr := HK2.out.trans HKI.out (fun q hq e => by have := HA.out; omega)
      have d1 := hkw.cell0 HC1.out
      have d2 := hkw.cell0 hpar
      rw [hfa] at d1
      have v0 : (0 : Int) ≤ (v : Int) := by omega
      have vn : (v : Int) < (p.fn : Int) := by omega
      have b0 : wr.cell? ⟨b, 0, none⟩ = some (.slice ua i uc) := sev_cell HBI.out 0 _ rfl
      have HSB : Hid (w2.heap.size ≤ wr.heap.size) := Lib.hid HKI.out.size
      clear hz hpar c2 hkw hfa
      go_wp2_with (at_builtin; refine wpList_appG _ rfl (.tmp 27) (.tmp 29) rfl w2.heap.size (.slice ua i uc) i l (v : Int) wr.heap.size rfl (HOI.out.alloc _) rfl (heap_alloc_new _ _) (by omega) (by have := HSB.out; simp; omega) ?_)
      intro g' cap w5 ho5 hg5 hgo5
      have hk5 : Keeps (fun q => (Value.slice ua i uc).ownBlock = some q) wr w5 := ((Keeps.refl _ _).alloc _).grown hg5 (fun q e => .inl e)
      have hb5 : w5.heap[b]? = some (.cells (sev (.slice ua i uc)) 63 (0, 0)) := (hk5.block b (Array.getElem?_eq_some_iff.1 HBI.out).1 (fun e => by obtain ⟨cs, hc⟩ := own_typ HOI.out e; exact ne_type HBI.out hc (by decide) rfl)).trans HBI.out
      have x0 : w5.cell? ⟨b, 0, none⟩ = some (.slice ua i uc) := sev_cell hb5 0 _ rfl
      have y0 : w5.frozen? ⟨b, 0, none⟩ = false := frozen_of_row w5 b 0 _ _ hb5
      have H5 := Lib.hid (And.intro ho5 (And.intro hk5 hb5))
      clear ho5 hg5 hgo5 hk5 hb5 ci d1 d2 b0
      go_wp2_with fail
      obtain ⟨ho5, hk5, hb5⟩ := H5.out
      have hs := setC w5 ⟨b, 0, none⟩ (.slice (some ⟨g', 0, none⟩) (i + 1) cap)
      have HB6 : Hid ((w5.setCell ⟨b, 0, none⟩ (.slice (some ⟨g', 0, none⟩) (i + 1) cap)).heap[b]? = some (.cells (sev (.slice (some ⟨g', 0, none⟩) (i + 1) cap)) 63 (0, 0))) := Lib.hid (by rw [heap_setCell_same w5 b 0 _ _ _ hb5]; rfl)
      have HO6 : Hid ((w5.setCell ⟨b, 0, none⟩ (.slice (some ⟨g', 0, none⟩) (i + 1) cap)).ownsRow w2.heap.size 3 1 (.slice (some ⟨g', 0, none⟩) (i + 1) cap) (i + 1) (irow (l ++ [(v : Int)]))) := Lib.hid (own_kept ho5 (fun q hq => hs.block q (ownG_lt ho5 q hq) (fun e => by obtain ⟨cs, hc⟩ := own_typ ho5 hq; exact ne_type hb5 hc (by decide) e.symm)))
      have HK6 : Hid (Keeps (fun q => q = b) w2 (w5.setCell ⟨b, 0, none⟩ (.slice (some ⟨g', 0, none⟩) (i + 1) cap))) := Lib.hid ((HKI.out.trans hk5 (fun q hq e => by have := ownG_lo HOI.out q e; omega)).trans hs (fun q _ e => e))
      clear ho5 hk5 hb5 hs x0 y0
      go_roundg (n - (i + 1))
      case rel => exact ⟨i + 1, _, _, _, by go_num, by omega, rfl, HK6, HB6, HO6⟩
      case measure => omega
    · obtain rfl : i = n := by omega
      have hlt' : ¬ (i : Int) < (i : Int) := by omega
      have hb2 := HBI.out
      have hab : a ≠ b := by have := HA.out; omega
      have ha2 : wr.heap[a]? = some (.cells (sev (.slice none 0 0)) 63 (0, 0)) := (HKI.out.block a (Array.getElem?_eq_some_iff.1 HRA2.out).1 hab).trans HRA2.out
      have b0 : wr.cell? ⟨b, 0, none⟩ = some (.slice ua i uc) := sev_cell hb2 0 _ rfl
      have b1 : wr.cell? ⟨b, 1, none⟩ = some (.slice none 0 0) := sev_cell hb2 1 _ rfl
      have b2 : wr.cell? ⟨b, 2, none⟩ = some (.slice none 0 0) := sev_cell hb2 2 _ rfl
      have b3 : wr.cell? ⟨b, 3, none⟩ = some (.slice none 0 0) := sev_cell hb2 3 _ rfl
      have b4 : wr.cell? ⟨b, 4, none⟩ = some (.slice none 0 0) := sev_cell hb2 4 _ rfl
      have b5 : wr.cell? ⟨b, 5, none⟩ = some (.slice none 0 0) := sev_cell hb2 5 _ rfl
      have b6 : wr.cell? ⟨b, 6, none⟩ = some (.slice none 0 0) := sev_cell hb2 6 _ rfl
      have a0 : wr.cell? ⟨a, 0, none⟩ = some (.slice none 0 0) := sev_cell ha2 0 _ rfl
      have a1 : wr.cell? ⟨a, 1, none⟩ = some (.slice none 0 0) := sev_cell ha2 1 _ rfl
      have a2 : wr.cell? ⟨a, 2, none⟩ = some (.slice none 0 0) := sev_cell ha2 2 _ rfl
      have a3 : wr.cell? ⟨a, 3, none⟩ = some (.slice none 0 0) := sev_cell ha2 3 _ rfl
      have a4 : wr.cell? ⟨a, 4, none⟩ = some (.slice none 0 0) := sev_cell ha2 4 _ rfl
      have a5 : wr.cell? ⟨a, 5, none⟩ = some (.slice none 0 0) := sev_cell ha2 5 _ rfl
      have a6 : wr.cell? ⟨a, 6, none⟩ = some (.slice none 0 0) := sev_cell ha2 6 _ rfl
      have z0 : wr.frozen? ⟨a, 0, none⟩ = false := frozen_of_row wr a 0 _ _ ha2
      have z1 : wr.frozen? ⟨a, 1, none⟩ = false := frozen_of_row wr a 1 _ _ ha2
      have z2 : wr.frozen? ⟨a, 2, none⟩ = false := frozen_of_row wr a 2 _ _ ha2
      have z3 : wr.frozen? ⟨a, 3, none⟩ = false := frozen_of_row wr a 3 _ _ ha2
      have z4 : wr.frozen? ⟨a, 4, none⟩ = false := frozen_of_row wr a 4 _ _ ha2
      have z5 : wr.frozen? ⟨a, 5, none⟩ = false := frozen_of_row wr a 5 _ _ ha2
      have z6 : wr.frozen? ⟨a, 6, none⟩ = false := frozen_of_row wr a 6 _ _ ha2
      have HA2 := Lib.hid ha2
      clear ha2 hb2
      go_wp2_with fail
      obtain ⟨hk5, hr5⟩ := sev_sets (.slice ua i uc) HA2.out
      generalize (((((((wr.setCell ⟨a, 0, none⟩ (.slice ua i uc)).setCell ⟨a, 1, none⟩ (.slice none 0 0)).setCell ⟨a, 2, none⟩ (.slice none 0 0)).setCell ⟨a, 3, none⟩ (.slice none 0 0)).setCell ⟨a, 4, none⟩ (.slice none 0 0)).setCell ⟨a, 5, none⟩ (.slice none 0 0)).setCell ⟨a, 6, none⟩ (.slice none 0 0)) = w5 at hk5 hr5 ⊢
      have t0 : w5.cell? ⟨a, 0, none⟩ = some (.slice ua i uc) := sev_cell hr5 0 _ rfl
      have t1 : w5.cell? ⟨a, 1, none⟩ = some (.slice none 0 0) := sev_cell hr5 1 _ rfl
      have t2 : w5.cell? ⟨a, 2, none⟩ = some (.slice none 0 0) := sev_cell hr5 2 _ rfl
      have t3 : w5.cell? ⟨a, 3, none⟩ = some (.slice none 0 0) := sev_cell hr5 3 _ rfl
      have t4 : w5.cell? ⟨a, 4, none⟩ = some (.slice none 0 0) := sev_cell hr5 4 _ rfl
      have t5 : w5.cell? ⟨a, 5, none⟩ = some (.slice none 0 0) := sev_cell hr5 5 _ rfl
      have t6 : w5.cell? ⟨a, 6, none⟩ = some (.slice none 0 0) := sev_cell hr5 6 _ rfl
      refine bodyPost_ret (v := .agg (sev (.slice ua i uc))) (by simp [sev, results, Tryd.results23, go_sem, t0, t1, t2, t3, t4, t5, t6]) rfl ?_
      exact ⟨⟨ua, i, uc, rfl⟩, (HK2.out.trans HKI.out (fun q hq e => by have := HA.out; omega)).trans hk5 (fun q hq e => by have := HA.out; omega)⟩
end Go.Proofs.YtkiimljdoebclaaDoor
