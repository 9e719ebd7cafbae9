/- taken, byParams. -/
import Derived.Test.YtkiimljdoebclaaDoorGrRise
namespace Go.Proofs.YtkiimljdoebclaaDoor
open Go.RowKit Go.Maps
set_option linter.unusedVariables false
set_option linter.unusedSimpArgs false

theorem Pg.ins_ok {w : World} {p : Pg} (h : PgOk w p) : ∀ x ∈ p.ins, IxOk w x := by
  intro x hx
  unfold Pg.ins at hx
  obtain ⟨f, hf, hx⟩ := List.mem_flatMap.1 hx
  unfold Fx.ins at hx
  obtain ⟨B, hB, hx⟩ := List.mem_flatMap.1 hx
  exact ((h.fok f hf).ok B hB).ok x hx
theorem takenX_len (al : List (Int × Int)) (x : Ix) : (takenX al x).length ≤ al.length + 1 := by
  unfold takenX
  split
  · exact kput_le _ _ _
  · omega
theorem taken_len (l : List Ix) : ∀ al : List (Int × Int), (l.foldl takenX al).length ≤ al.length + l.length := by
  induction l with
  | nil => intro al; simp
  | cons x t ih => intro al; rw [List.foldl_cons, List.length_cons]; have := ih (takenX al x); have := takenX_len al x; omega
/-- The functions whose address something has, as a map. -/
def Pg.tk (p : Pg) : List (Int × Int) := p.ins.foldl takenX []
set_option maxRecDepth 100000 in
set_option maxHeartbeats 12800000 in
theorem taken_any (p : Pg) (pb po : Nat) (w : World) (hp : p.at_ w pb po) (hok : PgOk w p) (hg : p.gn = 0) (hn : p.ins.length ≤ 999999) (ht : p.tk.length ≤ 12) :
    Calls Tryd.prog 27 #[.pointer (some ⟨pb, po, none⟩)] w fun e w' => ∃ v, e = .returned v ∧ w'.ownsRow w.heap.size 3 1 v p.tk.length (irow (isort (keys p.tk))) ∧ Keeps No w w' := by
  have HP := Lib.hid hp
  have HOK := Lib.hid hok
  have HE : Hid (∀ (w1 : World) (c m : Nat), TK w w1 c m [] → Calls Tryd.prog 37 #[.pointer (some ⟨pb, po, none⟩), .func (.func 38) #[] #[.pointer (some ⟨c, 0, none⟩)]] w1 fun e w' => e = .returned (.tuple #[]) ∧ TK w w' c m p.tk) := Lib.hid (fun w1 c m h0 => by
    refine eachOf_any p pb po w w1 38 #[.pointer (some ⟨c, 0, none⟩)] (fun l W => TK w W c m (l.foldl takenX [])) hp hok (fun _ _ => rfl) h0 (fun l W h => h.kp) (fun l x b off W h hx ht => ?_)
    obtain ⟨t, ht⟩ := ht
    have hxm : x ∈ p.ins := by rw [← ht]; simp
    have hll := congrArg List.length ht
    rw [List.length_append, List.length_cons] at hll
    refine (taken1_any w W hx (Pg.ins_ok hok x hxm).n h (by have := taken_len l []; simp only [List.length_nil] at this; omega)).mono ?_
    rintro e W' ⟨rfl, q⟩
    refine ⟨rfl, ?_⟩
    rw [List.foldl_append]
    exact q)
  have HPC : Hid (∀ W, Keeps No w W → Calls Tryd.prog 24 #[.pointer (some ⟨pb, po, none⟩)] W fun e w' => e = .returned (.slice none 0 0) ∧ Keeps No W w') := Lib.hid (fun W hk => pieces_none p pb po W (hp.no hk) hg)
  have HR : Hid (∀ (W : World) (m : Nat), MapK mapII W m p.tk → Calls Tryd.prog 26 #[.map (some m)] W fun e w' => ∃ v, e = .returned v ∧ w'.ownsRow W.heap.size 3 1 v p.tk.length (irow (isort (keys p.tk))) ∧ Keeps No W w') := Lib.hid (fun W m h => rising_any W m p.tk h (by omega))
  clear hp hok hg hn ht
  have hmm := @run_makeMap Tryd.prog
  go_enter Tryd.func27, Tryd.ntmps27
  go_upto_region 2 with fail
  have hTK : TK w ((w.alloc (.map #[] 0)).alloc (.cells #[.map (some w.heap.size)] 57)) (w.heap.size + 1) w.heap.size [] := by
    refine ⟨((Keeps.refl No w).alloc _).alloc _, ⟨by omega, Nat.le_refl _⟩, ?_, (MapK.made w).alloc _, by omega⟩
    have h := heap_alloc_new (w.alloc (.map #[] 0)) (.cells #[.map (some w.heap.size)] 57)
    simpa using h
  have HTK := Lib.hid hTK
  clear hTK hmm
  obtain ⟨w1, hw1⟩ : ∃ W, (w.alloc (.map #[] 0)).alloc (.cells #[.map (some w.heap.size)] 57) = W := ⟨_, rfl⟩
  obtain ⟨c, hc⟩ : ∃ c, w.heap.size + 1 = c := ⟨_, rfl⟩
  obtain ⟨m, hm⟩ : ∃ c, w.heap.size = c := ⟨_, rfl⟩
  rw [hw1, hc, hm] at HTK
  rw [hw1, hc]
  simp only [hm]
  have HM := Lib.hid hm
  clear hw1 hc hm
  go_wp2_with fail
  refine (HE.out w1 c m HTK.out).mono ?_
  rintro e w2 ⟨rfl, h2⟩
  have HT2 := Lib.hid h2
  clear h2 HE HTK
  go_upto_region 3 with fail
  go_wp2_with fail
  refine (HPC.out w2 HT2.out.kp).mono ?_
  rintro e w3 ⟨rfl, hk3⟩
  have HT3 := Lib.hid (HT2.out.no hk3)
  clear hk3 HPC HT2
  go_wp2_with fail
  go_loopg [13] 0 (fun k x wr => x = .int .i64 0 ∧ wr = w3)
  case atStart => exact ⟨rfl, rfl⟩
  case round =>
    obtain ⟨rfl, rfl⟩ := hrel
    have c0 : wr.cell? ⟨c, 0, none⟩ = some (.map (some m)) := by rw [cell_of_row wr c 0 _ _ _ HT3.out.row]; rfl
    go_wp2_with fail
    refine (HR.out wr m HT3.out.mp).mono ?_
    rintro e w4 ⟨v, rfl, ho, hk⟩
    have HO := Lib.hid (And.intro (own_mono ho HT3.out.kp.size) (HT3.out.kp.trans hk (fun _ _ e => e)))
    obtain ⟨aa, ca, rfl, _⟩ := own_form ho
    clear ho hk c0 HR
    go_wp2_with fail
    go_returns
    exact ⟨_, rfl, HO.out.1, HO.out.2⟩
end Go.Proofs.YtkiimljdoebclaaDoor
