/- taken, byParams. -/
import Derived.Test.YtkiimljdoebclaaDoorGrSorts
namespace Go.Proofs.YtkiimljdoebclaaDoor
open Go.RowKit Go.Maps
set_option linter.unusedVariables false
set_option linter.unusedSimpArgs false

theorem Pg.ins_ok {w : World} {p : Pg} (h : PgOk w p) : ∀ x ∈ p.ins, IxOk w x := by
  intro x hx
  unfold Pg.ins at hx
  obtain ⟨f, hf, hx⟩ := List.mem_flatMap.1 hx
  unfold Fx.ins at hx
  obtain ⟨B, hB, hx⟩ := List.mem_flatMap.1 hx
  exact ((h.fok f hf).ok B hB).ok x hx
theorem takenX_len (al : List (Int × Int)) (x : Ix) : (takenX al x).length ≤ al.length + 1 := by
  unfold takenX
  split
  · exact kput_le _ _ _
  · omega
theorem taken_len (l : List Ix) : ∀ al : List (Int × Int), (l.foldl takenX al).length ≤ al.length + l.length := by
  induction l with
  | nil => intro al; simp
  | cons x t ih => intro al; rw [List.foldl_cons, List.length_cons]; have := ih (takenX al x); have := takenX_len al x; omega
/-- The functions whose address something has, as a map. -/
def Pg.tk (p : Pg) : List (Int × Int) := p.ins.foldl takenX []
set_option maxRecDepth 100000 in
set_option maxHeartbeats 12800000 in
theorem taken_any (p : Pg) (pb po : Nat) (w : World) (hp : p.at_ w pb po) (hok : PgOk w p) (hg : p.gn = 0) (hn : p.ins.length ≤ 999999) (ht : p.tk.length ≤ 12) :
    Calls Tryd.prog 27 #[.pointer (some ⟨pb, po, none⟩)] w fun e w' => ∃ v, e = .returned v ∧ w'.ownsRow w.heap.size 3 1 v p.tk.length (irow (isort (keys p.tk))) ∧ Keeps No w w' := by
  have HP := Lib.hid hp
  have HOK := Lib.hid hok
  have HE : Hid (∀ (w1 : World) (c m : Nat), TK w w1 c m [] → Calls Tryd.prog 37 #[.pointer (some ⟨pb, po, none⟩), .func (.func 38) #[] #[.pointer (some ⟨c, 0, none⟩)]] w1 fun e w' => e = .returned (.tuple #[]) ∧ TK w w' c m p.tk) := Lib.hid (fun w1 c m h0 => by
    refine eachOf_any p pb po w w1 38 #[.pointer (some ⟨c, 0, none⟩)] (fun l W => TK w W c m (l.foldl takenX [])) hp hok (fun _ _ => rfl) h0 (fun l W h => h.kp) (fun l x b off W h hx ht => ?_)
    obtain ⟨t, ht⟩ := ht
    have hxm : x ∈ p.ins := by rw [← ht]; simp
    have hll := congrArg List.length ht
    rw [List.length_append, List.length_cons] at hll
    refine (taken1_any w W hx (Pg.ins_ok hok x hxm).n h (by have := taken_len l []; simp only [List.length_nil] at this; omega)).mono ?_
    rintro e W' ⟨rfl, q⟩
    refine ⟨rfl, ?_⟩
    rw [List.foldl_append]
    exact q)
  have HPC : Hid (∀ W, Keeps No w W → Calls Tryd.prog 24 #[.pointer (some ⟨pb, po, none⟩)] W fun e w' => e = .returned (.slice none 0 0) ∧ Keeps No W w') := Lib.hid (fun W hk => pieces_none p pb po W (hp.no hk) hg)
  have HR : Hid (∀ (W : World) (m : Nat), MapK mapII W m p.tk → Calls Tryd.prog 26 #[.map (some m)] W fun e w' => ∃ v, e = .returned v ∧ w'.ownsRow W.heap.size 3 1 v p.tk.length (irow (isort (keys p.tk))) ∧ Keeps No W w') := Lib.hid (fun W m h => rising_any W m p.tk h ht)
  clear hp hok hg hn ht
  have hmm := @run_makeMap Tryd.prog
  go_enter Tryd.func27, Tryd.ntmps27
  go_upto_region 2 with fail
  have hTK : TK w ((w.alloc (.map #[] 0)).alloc (.cells #[.map (some w.heap.size)] 57)) (w.heap.size + 1) w.heap.size [] := by
    refine ⟨((Keeps.refl No w).alloc _).alloc _, ⟨by omega, Nat.le_refl _⟩, ?_, (MapK.made w).alloc _, by omega⟩
    have h := heap_alloc_new (w.alloc (.map #[] 0)) (.cells #[.map (some w.heap.size)] 57)
    simpa using h
  have HTK := Lib.hid hTK
  clear hTK hmm
  obtain ⟨w1, hw1⟩ : ∃ W, (w.alloc (.map #[] 0)).alloc (.cells #[.map (some w.heap.size)] 57) = W := ⟨_, rfl⟩
  obtain ⟨c, hc⟩ : ∃ c, w.heap.size + 1 = c := ⟨_, rfl⟩
  obtain ⟨m, hm⟩ : ∃ c, w.heap.size = c := ⟨_, rfl⟩
  rw [hw1, hc, hm] at HTK
  rw [hw1, hc]
  simp only [hm]
  have HM := Lib.hid hm
  clear hw1 hc hm
  go_wp2_with fail
  refine (HE.out w1 c m HTK.out).mono ?_
  rintro e w2 ⟨rfl, h2⟩
  have HT2 := Lib.hid h2
  clear h2 HE HTK
  go_upto_region 3 with fail
  go_wp2_with fail
  refine (HPC.out w2 HT2.out.kp).mono ?_
  rintro e w3 ⟨rfl, hk3⟩
  have HT3 := Lib.hid (HT2.out.no hk3)
  clear hk3 HPC HT2
  go_wp2_with fail
  go_loopg [13] 0 (fun k x wr => x = .int .i64 0 ∧ wr = w3)
  case atStart => exact ⟨rfl, rfl⟩
  case round =>
    obtain ⟨rfl, rfl⟩ := hrel
    have c0 : wr.cell? ⟨c, 0, none⟩ = some (.map (some m)) := by rw [cell_of_row wr c 0 _ _ _ HT3.out.row]; rfl
    go_wp2_with fail
    refine (HR.out wr m HT3.out.mp).mono ?_
    rintro e w4 ⟨v, rfl, ho, hk⟩
    have HO := Lib.hid (And.intro (own_mono ho HT3.out.kp.size) (HT3.out.kp.trans hk (fun _ _ e => e)))
    obtain ⟨aa, ca, rfl, _⟩ := own_form ho
    clear ho hk c0 HR
    go_wp2_with fail
    go_returns
    exact ⟨_, rfl, HO.out.1, HO.out.2⟩
theorem nil_set {w : World} {a : Nat} (h : w.heap[a]? = some (.cells #[.slice none 0 0, .slice none 0 0, .slice none 0 0, .slice none 0 0, .slice none 0 0, .slice none 0 0, .slice none 0 0] 63 (0, 0))) (j : Nat) (hj : j < 7) : (w.setCell ⟨a, j, none⟩ (.slice none 0 0)).heap[a]? = some (.cells #[.slice none 0 0, .slice none 0 0, .slice none 0 0, .slice none 0 0, .slice none 0 0, .slice none 0 0, .slice none 0 0] 63 (0, 0)) := by
  rw [heap_setCell_same w a j _ _ _ h]
  have hh : j = 0 ∨ j = 1 ∨ j = 2 ∨ j = 3 ∨ j = 4 ∨ j = 5 ∨ j = 6 := by omega
  rcases hh with rfl | rfl | rfl | rfl | rfl | rfl | rfl <;> rfl
theorem nil_sets {w : World} {a : Nat} (h : w.heap[a]? = some (.cells #[.slice none 0 0, .slice none 0 0, .slice none 0 0, .slice none 0 0, .slice none 0 0, .slice none 0 0, .slice none 0 0] 63 (0, 0))) : Keeps (fun q => q = a) w (((((((w.setCell ⟨a, 0, none⟩ (.slice none 0 0)).setCell ⟨a, 1, none⟩ (.slice none 0 0)).setCell ⟨a, 2, none⟩ (.slice none 0 0)).setCell ⟨a, 3, none⟩ (.slice none 0 0)).setCell ⟨a, 4, none⟩ (.slice none 0 0)).setCell ⟨a, 5, none⟩ (.slice none 0 0)).setCell ⟨a, 6, none⟩ (.slice none 0 0)) ∧ (((((((w.setCell ⟨a, 0, none⟩ (.slice none 0 0)).setCell ⟨a, 1, none⟩ (.slice none 0 0)).setCell ⟨a, 2, none⟩ (.slice none 0 0)).setCell ⟨a, 3, none⟩ (.slice none 0 0)).setCell ⟨a, 4, none⟩ (.slice none 0 0)).setCell ⟨a, 5, none⟩ (.slice none 0 0)).setCell ⟨a, 6, none⟩ (.slice none 0 0)).heap[a]? = some (.cells #[.slice none 0 0, .slice none 0 0, .slice none 0 0, .slice none 0 0, .slice none 0 0, .slice none 0 0, .slice none 0 0] 63 (0, 0)) := by
  refine ⟨((((((((Keeps.refl (fun q => q = a) w).setCell (.inl rfl) _).setCell (.inl rfl) _).setCell (.inl rfl) _).setCell (.inl rfl) _).setCell (.inl rfl) _).setCell (.inl rfl) _).setCell (.inl rfl) _), ?_⟩
  exact nil_set (nil_set (nil_set (nil_set (nil_set (nil_set (nil_set h 0 (by omega)) 1 (by omega)) 2 (by omega)) 3 (by omega)) 4 (by omega)) 5 (by omega)) 6 (by omega)
def nil7 : Value := .agg #[.slice none 0 0, .slice none 0 0, .slice none 0 0, .slice none 0 0, .slice none 0 0, .slice none 0 0, .slice none 0 0]
set_option maxRecDepth 100000 in
set_option maxHeartbeats 12800000 in
theorem byParams_none (p : Pg) (pb po : Nat) (w : World) (hp : p.at_ w pb po) (hok : PgOk w p) (hg : p.gn = 0) (hn : p.ins.length ≤ 999999) (ht : p.tk = []) :
    Calls Tryd.prog 23 #[.pointer (some ⟨pb, po, none⟩)] w fun e w' => e = .returned nil7 ∧ Keeps No w w' := by
  have HT : Hid (∀ W, Keeps No w W → Calls Tryd.prog 27 #[.pointer (some ⟨pb, po, none⟩)] W fun e w' => ∃ aa ca, e = .returned (.slice aa 0 ca) ∧ Keeps No W w') := Lib.hid (fun W hk => by
    refine (taken_any p pb po W (hp.no hk) (hok.no hk) hg hn (by rw [ht]; simp)).mono ?_
    rintro e w' ⟨v, rfl, ho, hk2⟩
    rw [ht] at ho
    obtain ⟨aa, ca, rfl, _⟩ := own_form ho
    exact ⟨aa, ca, rfl, hk2⟩)
  clear hp hok hg hn ht
  go_enter Tryd.func23, Tryd.ntmps23
  go_upto_region 2 with fail
  have hk1 : Keeps No w ((w.alloc (.cells #[.slice none 0 0, .slice none 0 0, .slice none 0 0, .slice none 0 0, .slice none 0 0, .slice none 0 0, .slice none 0 0] 63)).alloc (.cells #[.slice none 0 0, .slice none 0 0, .slice none 0 0, .slice none 0 0, .slice none 0 0, .slice none 0 0, .slice none 0 0] 63)) := ((Keeps.refl No w).alloc _).alloc _
  have hra : ((w.alloc (.cells #[.slice none 0 0, .slice none 0 0, .slice none 0 0, .slice none 0 0, .slice none 0 0, .slice none 0 0, .slice none 0 0] 63)).alloc (.cells #[.slice none 0 0, .slice none 0 0, .slice none 0 0, .slice none 0 0, .slice none 0 0, .slice none 0 0, .slice none 0 0] 63)).heap[w.heap.size]? = some (.cells #[.slice none 0 0, .slice none 0 0, .slice none 0 0, .slice none 0 0, .slice none 0 0, .slice none 0 0, .slice none 0 0] 63 (0, 0)) := by
    rw [Below.heap_alloc _ _ _ (by simp)]; exact heap_alloc_new _ _
  have hrb : ((w.alloc (.cells #[.slice none 0 0, .slice none 0 0, .slice none 0 0, .slice none 0 0, .slice none 0 0, .slice none 0 0, .slice none 0 0] 63)).alloc (.cells #[.slice none 0 0, .slice none 0 0, .slice none 0 0, .slice none 0 0, .slice none 0 0, .slice none 0 0, .slice none 0 0] 63)).heap[w.heap.size + 1]? = some (.cells #[.slice none 0 0, .slice none 0 0, .slice none 0 0, .slice none 0 0, .slice none 0 0, .slice none 0 0, .slice none 0 0] 63 (0, 0)) := by
    have h := heap_alloc_new (w.alloc (.cells #[.slice none 0 0, .slice none 0 0, .slice none 0 0, .slice none 0 0, .slice none 0 0, .slice none 0 0, .slice none 0 0] 63)) (.cells #[.slice none 0 0, .slice none 0 0, .slice none 0 0, .slice none 0 0, .slice none 0 0, .slice none 0 0, .slice none 0 0] 63)
    simpa using h
  generalize (w.alloc (.cells #[.slice none 0 0, .slice none 0 0, .slice none 0 0, .slice none 0 0, .slice none 0 0, .slice none 0 0, .slice none 0 0] 63)).alloc (.cells #[.slice none 0 0, .slice none 0 0, .slice none 0 0, .slice none 0 0, .slice none 0 0, .slice none 0 0, .slice none 0 0] 63) = w1 at hk1 hra hrb ⊢
  obtain ⟨b, hb⟩ : ∃ c, w.heap.size + 1 = c := ⟨_, rfl⟩
  obtain ⟨a, ha⟩ : ∃ c, w.heap.size = c := ⟨_, rfl⟩
  rw [hb] at hrb ⊢
  rw [ha] at hra ⊢
  have HA := Lib.hid ha
  have HRA := Lib.hid (And.intro hra hrb)
  have HK1 := Lib.hid hk1
  clear hb ha hra hrb hk1
  go_wp2_with fail
  refine (HT.out w1 HK1.out).mono ?_
  rintro e w2 ⟨aa, ca, rfl, hk2⟩
  have hra2 := (hk2.block a (Array.getElem?_eq_some_iff.1 HRA.out.1).1 (fun e => e)).trans HRA.out.1
  have hrb2 := (hk2.block b (Array.getElem?_eq_some_iff.1 HRA.out.2).1 (fun e => e)).trans HRA.out.2
  have HK2 := Lib.hid (HK1.out.trans hk2 (fun _ _ e => e))
  have b0 : w2.cell? ⟨b, 0, none⟩ = some (.slice none 0 0) := by rw [cell_of_row w2 b 0 _ _ _ hrb2]; rfl
  have a0 : w2.cell? ⟨a, 0, none⟩ = some (.slice none 0 0) := by rw [cell_of_row w2 a 0 _ _ _ hra2]; rfl
  have z0 : w2.frozen? ⟨a, 0, none⟩ = false := frozen_of_row w2 a 0 _ _ hra2
  have b1 : w2.cell? ⟨b, 1, none⟩ = some (.slice none 0 0) := by rw [cell_of_row w2 b 1 _ _ _ hrb2]; rfl
  have a1 : w2.cell? ⟨a, 1, none⟩ = some (.slice none 0 0) := by rw [cell_of_row w2 a 1 _ _ _ hra2]; rfl
  have z1 : w2.frozen? ⟨a, 1, none⟩ = false := frozen_of_row w2 a 1 _ _ hra2
  have b2 : w2.cell? ⟨b, 2, none⟩ = some (.slice none 0 0) := by rw [cell_of_row w2 b 2 _ _ _ hrb2]; rfl
  have a2 : w2.cell? ⟨a, 2, none⟩ = some (.slice none 0 0) := by rw [cell_of_row w2 a 2 _ _ _ hra2]; rfl
  have z2 : w2.frozen? ⟨a, 2, none⟩ = false := frozen_of_row w2 a 2 _ _ hra2
  have b3 : w2.cell? ⟨b, 3, none⟩ = some (.slice none 0 0) := by rw [cell_of_row w2 b 3 _ _ _ hrb2]; rfl
  have a3 : w2.cell? ⟨a, 3, none⟩ = some (.slice none 0 0) := by rw [cell_of_row w2 a 3 _ _ _ hra2]; rfl
  have z3 : w2.frozen? ⟨a, 3, none⟩ = false := frozen_of_row w2 a 3 _ _ hra2
  have b4 : w2.cell? ⟨b, 4, none⟩ = some (.slice none 0 0) := by rw [cell_of_row w2 b 4 _ _ _ hrb2]; rfl
  have a4 : w2.cell? ⟨a, 4, none⟩ = some (.slice none 0 0) := by rw [cell_of_row w2 a 4 _ _ _ hra2]; rfl
  have z4 : w2.frozen? ⟨a, 4, none⟩ = false := frozen_of_row w2 a 4 _ _ hra2
  have b5 : w2.cell? ⟨b, 5, none⟩ = some (.slice none 0 0) := by rw [cell_of_row w2 b 5 _ _ _ hrb2]; rfl
  have a5 : w2.cell? ⟨a, 5, none⟩ = some (.slice none 0 0) := by rw [cell_of_row w2 a 5 _ _ _ hra2]; rfl
  have z5 : w2.frozen? ⟨a, 5, none⟩ = false := frozen_of_row w2 a 5 _ _ hra2
  have b6 : w2.cell? ⟨b, 6, none⟩ = some (.slice none 0 0) := by rw [cell_of_row w2 b 6 _ _ _ hrb2]; rfl
  have a6 : w2.cell? ⟨a, 6, none⟩ = some (.slice none 0 0) := by rw [cell_of_row w2 a 6 _ _ _ hra2]; rfl
  have z6 : w2.frozen? ⟨a, 6, none⟩ = false := frozen_of_row w2 a 6 _ _ hra2
  have HR2 := Lib.hid hra2
  clear hra2 hrb2 hk2 HRA HT HK1
  go_wp2_with fail
  go_loopg [10] 0 (fun k x wr => x = .int .i64 0 ∧ wr = w2)
  case atStart => exact ⟨rfl, rfl⟩
  case round =>
    obtain ⟨rfl, rfl⟩ := hrel
    go_wp2_with fail
    obtain ⟨hk5, hr5⟩ := nil_sets HR2.out
    generalize (((((((wr.setCell ⟨a, 0, none⟩ (.slice none 0 0)).setCell ⟨a, 1, none⟩ (.slice none 0 0)).setCell ⟨a, 2, none⟩ (.slice none 0 0)).setCell ⟨a, 3, none⟩ (.slice none 0 0)).setCell ⟨a, 4, none⟩ (.slice none 0 0)).setCell ⟨a, 5, none⟩ (.slice none 0 0)).setCell ⟨a, 6, none⟩ (.slice none 0 0)) = w5 at hk5 hr5 ⊢
    have t0 : w5.cell? ⟨a, 0, none⟩ = some (.slice none 0 0) := by rw [cell_of_row w5 a 0 _ _ _ hr5]; rfl
    have t1 : w5.cell? ⟨a, 1, none⟩ = some (.slice none 0 0) := by rw [cell_of_row w5 a 1 _ _ _ hr5]; rfl
    have t2 : w5.cell? ⟨a, 2, none⟩ = some (.slice none 0 0) := by rw [cell_of_row w5 a 2 _ _ _ hr5]; rfl
    have t3 : w5.cell? ⟨a, 3, none⟩ = some (.slice none 0 0) := by rw [cell_of_row w5 a 3 _ _ _ hr5]; rfl
    have t4 : w5.cell? ⟨a, 4, none⟩ = some (.slice none 0 0) := by rw [cell_of_row w5 a 4 _ _ _ hr5]; rfl
    have t5 : w5.cell? ⟨a, 5, none⟩ = some (.slice none 0 0) := by rw [cell_of_row w5 a 5 _ _ _ hr5]; rfl
    have t6 : w5.cell? ⟨a, 6, none⟩ = some (.slice none 0 0) := by rw [cell_of_row w5 a 6 _ _ _ hr5]; rfl
    refine bodyPost_ret (v := nil7) (by simp [nil7, results, Tryd.results23, go_sem, t0, t1, t2, t3, t4, t5, t6]) rfl ⟨rfl, HK2.out.trans hk5 (fun q hq e => by have := HA.out; omega)⟩
end Go.Proofs.YtkiimljdoebclaaDoor
