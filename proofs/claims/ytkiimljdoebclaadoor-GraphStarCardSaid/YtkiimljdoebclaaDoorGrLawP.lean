/- Taken, Calls, from outside; Parts of nothing. -/
import Derived.Test.YtkiimljdoebclaaDoorGrRings
namespace Go.Proofs.YtkiimljdoebclaaDoor
open Go.RowKit Gm Go.Maps
set_option linter.unusedVariables false
set_option linter.unusedSimpArgs false

set_option maxRecDepth 100000 in
set_option maxHeartbeats 12800000 in
theorem takenD_any (p : Pg) (w : World) (hok : PgOk w p) (hl : Laid w) (h : Plain p) (ht : TkOk p) (hpo : p.ok = true) :
    Calls Tryd.prog 15 #[pv p] w fun e w' => ∃ v, e = .returned v ∧ w'.ownsRow w.heap.size 3 1 v p.tk.length (irow (isort (keys p.tk))) ∧ Keeps No w w' := by
  have HCH := Lib.hid (fun (W : World) (hk : Keeps No w W) => check_any p W (hok.no hk) (hl.no hk))
  rw [hpo] at HCH
  have HTA : Hid (∀ (W : World) (hk : Keeps No w W) (pb : Nat) (hp : p.at_ W pb 0), Calls Tryd.prog 27 #[.pointer (some ⟨pb, 0, none⟩)] W fun e w' => ∃ v, e = .returned v ∧ w'.ownsRow W.heap.size 3 1 v p.tk.length (irow (isort (keys p.tk))) ∧ Keeps No W w') := Lib.hid (fun W hk pb hp => taken_any p pb 0 W hp (hok.no hk) h.g h.ins ht.few)
  clear hok hl h ht hpo
  go_enter Tryd.func15, Tryd.ntmps15
  go_upto_region 1 with fail
  have hp1 := pg_boxed p w 26
  have hk1 : Keeps No w (w.alloc (.cells #[.slice p.ga p.gn p.gc, .slice p.fa p.fn p.fc, .int .i64 p.main] 26)) := (Keeps.refl _ _).alloc _
  generalize w.alloc (.cells #[.slice p.ga p.gn p.gc, .slice p.fa p.fn p.fc, .int .i64 p.main] 26) = w1 at hp1 hk1 ⊢
  obtain ⟨PB, hPB⟩ : ∃ q, w.heap.size = q := ⟨_, rfl⟩
  rw [hPB] at hp1 ⊢
  have p0 : w1.cell? ⟨PB, 0, none⟩ = some (.slice p.ga p.gn p.gc) := hp1 0 _ rfl
  have p1 : w1.cell? ⟨PB, 1, none⟩ = some (.slice p.fa p.fn p.fc) := hp1 1 _ rfl
  have p2 : w1.cell? ⟨PB, 2, none⟩ = some (.int .i64 p.main) := hp1 2 _ rfl
  have HP1 := Lib.hid hp1
  have HK1 := Lib.hid hk1
  clear hp1 hk1 hPB
  go_wp2_with fail
  refine (HCH.out w1 HK1.out).mono ?_
  rintro e w2 ⟨rfl, hk2⟩
  have HK2 := Lib.hid (HK1.out.trans hk2 (fun _ _ e => e))
  have HP2 := Lib.hid (HP1.out.no hk2)
  clear hk2 p0 p1 p2 HCH HK1 HP1
  go_upto_region 3 with fail
  go_wp2_with fail
  refine (HTA.out w2 HK2.out PB HP2.out).mono ?_
  rintro e w3 ⟨vt, rfl, ho3, hk3⟩
  obtain ⟨aa, ca, rfl, _⟩ := own_form ho3
  have HO3 := Lib.hid (own_mono ho3 HK2.out.size)
  clear ho3
  have HK3 := Lib.hid (HK2.out.trans hk3 (fun _ _ e => e))
  clear hk3 HTA HK2
  go_wp2_with fail
  go_returns
  exact ⟨_, rfl, HO3.out, HK3.out⟩
set_option maxRecDepth 100000 in
set_option maxHeartbeats 12800000 in
theorem callsD_any (p : Pg) (w : World) (hok : PgOk w p) (hl : Laid w) (h : Plain p) (ht : TkOk p) (hpo : p.ok = true) :
    Calls Tryd.prog 13 #[pv p] w fun e w' => ∃ OB, e = .returned (.slice (some ⟨OB, 0, none⟩) p.fn p.fn) ∧ (∃ S, LsAt w' (some ⟨OB, 0, none⟩) p.fn p.fn S ∧ S.map Sl.l = callsM p.nm) ∧ Keeps No w w' := by
  have HCH := Lib.hid (fun (W : World) (hk : Keeps No w W) => check_any p W (hok.no hk) (hl.no hk))
  rw [hpo] at HCH
  have HCA := Lib.hid (fun (W : World) (hk : Keeps No w W) (pb : Nat) (hp : p.at_ W pb 0) => gcalls_any p pb 0 W hp (hok.no hk) h ht)
  clear hok hl h ht hpo
  go_enter Tryd.func13, Tryd.ntmps13
  go_upto_region 1 with fail
  have hp1 := pg_boxed p w 26
  have hk1 : Keeps No w (w.alloc (.cells #[.slice p.ga p.gn p.gc, .slice p.fa p.fn p.fc, .int .i64 p.main] 26)) := (Keeps.refl _ _).alloc _
  generalize w.alloc (.cells #[.slice p.ga p.gn p.gc, .slice p.fa p.fn p.fc, .int .i64 p.main] 26) = w1 at hp1 hk1 ⊢
  obtain ⟨PB, hPB⟩ : ∃ q, w.heap.size = q := ⟨_, rfl⟩
  rw [hPB] at hp1 ⊢
  have p0 : w1.cell? ⟨PB, 0, none⟩ = some (.slice p.ga p.gn p.gc) := hp1 0 _ rfl
  have p1 : w1.cell? ⟨PB, 1, none⟩ = some (.slice p.fa p.fn p.fc) := hp1 1 _ rfl
  have p2 : w1.cell? ⟨PB, 2, none⟩ = some (.int .i64 p.main) := hp1 2 _ rfl
  have HP1 := Lib.hid hp1
  have HK1 := Lib.hid hk1
  clear hp1 hk1 hPB
  go_wp2_with fail
  refine (HCH.out w1 HK1.out).mono ?_
  rintro e w2 ⟨rfl, hk2⟩
  have HK2 := Lib.hid (HK1.out.trans hk2 (fun _ _ e => e))
  have HP2 := Lib.hid (HP1.out.no hk2)
  clear hk2 p0 p1 p2 HCH HK1 HP1
  go_upto_region 3 with fail
  go_wp2_with fail
  refine (HCA.out w2 HK2.out PB HP2.out).mono ?_
  rintro e w3 ⟨OB, rfl, hS, hk3⟩
  have HK3 := Lib.hid (HK2.out.trans hk3 (fun _ _ e => e))
  have HS := Lib.hid hS
  clear hS hk3 HCA HK2
  go_wp2_with fail
  go_returns
  exact ⟨OB, rfl, HS.out, HK3.out⟩
def pz : Pg := ⟨none, 0, 0, [], none, 0, 0, [], 0⟩
theorem pz_ok (w : World) : PgOk w pz := ⟨i64s 0 (by decide), rfl, ⟨Nat.le_refl _, Nat.zero_le _⟩, (fun g hg => by cases hg), (fun h => absurd h (Nat.lt_irrefl 0)), rfl, ⟨Nat.le_refl _, Nat.zero_le _⟩, (fun g hg => by cases hg), (fun h => absurd h (Nat.lt_irrefl 0))⟩
set_option maxRecDepth 100000 in
set_option maxHeartbeats 12800000 in
theorem parts_none (w : World) (hl : Laid w) : Calls Tryd.prog 8 #[.agg #[.slice none 0 0, .slice none 0 0, .int .i64 0]] w fun e w' => e = .returned (.slice none 0 0) ∧ Keeps No w w' := by
  have HCH : Hid (∀ (W : World), Keeps No w W → Calls Tryd.prog 16 #[.agg #[.slice none 0 0, .slice none 0 0, .int .i64 0]] W fun e w' => e = .returned (.bool false) ∧ Keeps No W w') := Lib.hid (fun W hk => check_any pz W (pz_ok W) (hl.no hk))
  clear hl
  go_enter Tryd.func8, Tryd.ntmps8
  go_upto_region 1 with fail
  have hk1 : Keeps No w (w.alloc (.cells #[.slice none 0 0, .slice none 0 0, .int .i64 0] 26)) := (Keeps.refl _ _).alloc _
  have hr1 : (w.alloc (.cells #[.slice none 0 0, .slice none 0 0, .int .i64 0] 26)).heap[w.heap.size]? = some (.cells #[.slice none 0 0, .slice none 0 0, .int .i64 0] 26 (0, 0)) := heap_alloc_new _ _
  generalize w.alloc (.cells #[.slice none 0 0, .slice none 0 0, .int .i64 0] 26) = w1 at hk1 hr1 ⊢
  obtain ⟨PB, hPB⟩ : ∃ q, w.heap.size = q := ⟨_, rfl⟩
  rw [hPB] at hr1 ⊢
  have p0 : w1.cell? ⟨PB, 0, none⟩ = some (.slice none 0 0) := by rw [cell_of_row w1 PB 0 _ _ _ hr1]; rfl
  have p1 : w1.cell? ⟨PB, 1, none⟩ = some (.slice none 0 0) := by rw [cell_of_row w1 PB 1 _ _ _ hr1]; rfl
  have p2 : w1.cell? ⟨PB, 2, none⟩ = some (.int .i64 0) := by rw [cell_of_row w1 PB 2 _ _ _ hr1]; rfl
  have HK1 := Lib.hid hk1
  clear hk1 hr1 hPB
  go_wp2_with fail
  refine (HCH.out w1 HK1.out).mono ?_
  rintro e w2 ⟨rfl, hk2⟩
  have HK2 := Lib.hid (HK1.out.trans hk2 (fun _ _ e => e))
  clear hk2
  go_wp2_with fail
  go_returns
  exact ⟨rfl, HK2.out⟩
end Go.Proofs.YtkiimljdoebclaaDoor
/- What is known of a ring; rows written out; Low. -/
namespace Go.Proofs.YtkiimljdoebclaaDoor
open Go.RowKit Gm Go.Maps
set_option linter.unusedVariables false
set_option linter.unusedSimpArgs false

def partL (m b : Nat) : List Int := (List.range (m - b)).map fun i => ((b + i : Nat) : Int)
structure RingF (p : Pg) (m b : Nat) : Prop where
  calls : callsM p.nm = ringC m b
  parts : partsM p.fn (callsM p.nm) 40 = some (wantM m b)
  cyc : cyclicM p.fn (callsM p.nm) 40 = some (partL m b)
  reach : ∃ al, reachM p.fn p.nm p.fs 40 [p.main] [] = some al ∧ al.length = m ∧ isort (keys al) = (List.range m).map fun i => ((i : Nat) : Int)
theorem IsRing.facts {p : Pg} {m b : Nat} (h : IsRing p m b) (hm : 0 < m) (hm2 : m ≤ 12) (hb : b < m) : RingF p m b := by
  have hr := ring_ok hm hm2 hb
  unfold ringOk at hr
  simp only [Bool.and_eq_true, decide_eq_true_eq] at hr
  obtain ⟨⟨⟨h1, h2⟩, h3⟩, h4⟩ := hr
  have e1 : callsM p.nm = ringC m b := by rw [h.nm]; exact h1
  refine ⟨e1, by rw [e1, h.fn]; exact h2, by rw [e1, h.fn]; exact h3, ?_⟩
  rw [h.fn, h.nm, h.fs, h.main]
  cases hq : reachM m (ringC m b) (List.replicate m []) 40 [0] [] with
  | none => rw [hq] at h4; cases h4
  | some al =>
    rw [hq] at h4
    simp only [Bool.and_eq_true, decide_eq_true_eq] at h4
    exact ⟨al, rfl, h4.1, h4.2⟩
/-- A row of numbers that is new. -/
theorem sl_new (w : World) (l : List Int) (hl : l.length ≤ 1000000) (hb : ∀ z ∈ l, I64 z) : SlAt (w.alloc (.cells (irow l).toArray 3)) ⟨some ⟨w.heap.size, 0, none⟩, l.length, l.length, l⟩ := by
  refine ⟨rfl, ⟨Nat.le_refl _, by show l.length ≤ maxLen; unfold maxLen; omega⟩, hb, fun _ => ⟨w.heap.size, 0, rfl, fun i z hz => ?_⟩⟩
  rw [Nat.zero_add, cell_of_row _ w.heap.size i _ _ _ (heap_alloc_new _ _), List.getElem?_toArray]
  exact irow_get hz
theorem ls_new (w : World) (S : List Sl) (hn : S.length ≤ 1000000) (hs : ∀ s ∈ S, SlAt w s ∧ s.n ≤ 1000000) : LsAt (w.alloc (.cells (S.map Sl.v).toArray 28)) (some ⟨w.heap.size, 0, none⟩) S.length S.length S := by
  refine ⟨rfl, ⟨Nat.le_refl _, by unfold maxLen; omega⟩, fun i s hi => ?_⟩
  obtain ⟨h1, h2⟩ := hs s (List.mem_of_getElem? hi)
  refine ⟨w.heap.size, 0, rfl, ?_, h1.no ((Keeps.refl _ _).alloc _), h2⟩
  rw [Nat.zero_add, cell_of_row _ w.heap.size i _ _ _ (heap_alloc_new _ _), List.getElem?_toArray, List.getElem?_map, hi]; rfl
theorem alloc_size (w : World) (o : Obj) : (w.alloc o).heap.size = w.heap.size + 1 := by simp
set_option maxHeartbeats 400000 in
theorem low_any (x n : Int) (hx : I64 x) (hn : 1 ≤ n ∧ n ≤ 4611686018427387904) (w : World) :
    Calls Tryd.prog 5 #[.int .i64 x, .int .i64 n] w fun e w' => e = .returned (.int .i64 (IntKind.u64.wrap x % n)) ∧ Keeps No w w' := by
  unfold I64 at hx
  have hb : 0 ≤ IntKind.u64.wrap x ∧ IntKind.u64.wrap x ≤ 18446744073709551615 := by simp only [IntKind.wrap, IntKind.bits, IntKind.signed]; simp; omega
  have h0 : ¬ n = 0 := by omega
  have h1 : 0 ≤ IntKind.u64.wrap x % n ∧ IntKind.u64.wrap x % n < n := ⟨Int.emod_nonneg _ h0, Int.emod_lt_of_pos _ (by omega)⟩
  go_enter Tryd.func5, Tryd.ntmps5
  go_wp2
  go_returns
  exact ⟨rfl, Keeps.refl _ _⟩
theorem low_nat (x n : Int) (hn : 1 ≤ n) : ∃ k : Nat, (k : Int) < n ∧ IntKind.u64.wrap x % n = (k : Int) := by
  have h0 : ¬ n = 0 := by omega
  have h1 : 0 ≤ IntKind.u64.wrap x % n ∧ IntKind.u64.wrap x % n < n := ⟨Int.emod_nonneg _ h0, Int.emod_lt_of_pos _ (by omega)⟩
  exact ⟨(IntKind.u64.wrap x % n).toNat, by omega, by omega⟩
theorem three_new (w : World) (l1 l2 l3 : List Int) (h1 : l1.length ≤ 1000000 ∧ ∀ z ∈ l1, I64 z) (h2 : l2.length ≤ 1000000 ∧ ∀ z ∈ l2, I64 z) (h3 : l3.length ≤ 1000000 ∧ ∀ z ∈ l3, I64 z) : LsAt ((((w.alloc (.cells (irow l1).toArray 3)).alloc (.cells (irow l2).toArray 3)).alloc (.cells (irow l3).toArray 3)).alloc (.cells #[.slice (some ⟨w.heap.size, 0, none⟩) l1.length l1.length, .slice (some ⟨w.heap.size + 1, 0, none⟩) l2.length l2.length, .slice (some ⟨w.heap.size + 1 + 1, 0, none⟩) l3.length l3.length] 28)) (some ⟨w.heap.size + 1 + 1 + 1, 0, none⟩) 3 3 [⟨some ⟨w.heap.size, 0, none⟩, l1.length, l1.length, l1⟩, ⟨some ⟨w.heap.size + 1, 0, none⟩, l2.length, l2.length, l2⟩, ⟨some ⟨w.heap.size + 1 + 1, 0, none⟩, l3.length, l3.length, l3⟩] := by
  have s1 := sl_new w l1 h1.1 h1.2
  have s2 := sl_new (w.alloc (.cells (irow l1).toArray 3)) l2 h2.1 h2.2
  have z2 : (w.alloc (.cells (irow l1).toArray 3)).heap.size = w.heap.size + 1 := by simp
  rw [z2] at s2
  have s3 := sl_new ((w.alloc (.cells (irow l1).toArray 3)).alloc (.cells (irow l2).toArray 3)) l3 h3.1 h3.2
  have z3 : ((w.alloc (.cells (irow l1).toArray 3)).alloc (.cells (irow l2).toArray 3)).heap.size = w.heap.size + 1 + 1 := by simp
  rw [z3] at s3
  have zz : (((w.alloc (.cells (irow l1).toArray 3)).alloc (.cells (irow l2).toArray 3)).alloc (.cells (irow l3).toArray 3)).heap.size = w.heap.size + 1 + 1 + 1 := by simp
  have t1 : SlAt (((w.alloc (.cells (irow l1).toArray 3)).alloc (.cells (irow l2).toArray 3)).alloc (.cells (irow l3).toArray 3)) ⟨some ⟨w.heap.size, 0, none⟩, l1.length, l1.length, l1⟩ := ((s1.no ((Keeps.refl No _).alloc _)).no ((Keeps.refl No _).alloc _))
  have t2 : SlAt (((w.alloc (.cells (irow l1).toArray 3)).alloc (.cells (irow l2).toArray 3)).alloc (.cells (irow l3).toArray 3)) ⟨some ⟨w.heap.size + 1, 0, none⟩, l2.length, l2.length, l2⟩ := (s2.no ((Keeps.refl No _).alloc _))
  have t3 : SlAt (((w.alloc (.cells (irow l1).toArray 3)).alloc (.cells (irow l2).toArray 3)).alloc (.cells (irow l3).toArray 3)) ⟨some ⟨w.heap.size + 1 + 1, 0, none⟩, l3.length, l3.length, l3⟩ := s3
  have h := ls_new (((w.alloc (.cells (irow l1).toArray 3)).alloc (.cells (irow l2).toArray 3)).alloc (.cells (irow l3).toArray 3)) [⟨some ⟨w.heap.size, 0, none⟩, l1.length, l1.length, l1⟩, ⟨some ⟨w.heap.size + 1, 0, none⟩, l2.length, l2.length, l2⟩, ⟨some ⟨w.heap.size + 1 + 1, 0, none⟩, l3.length, l3.length, l3⟩] (by simp) (fun s hs => by
    simp only [List.mem_cons, List.not_mem_nil, or_false] at hs
    rcases hs with rfl | rfl | rfl
    · exact ⟨t1, h1.1⟩
    · exact ⟨t2, h2.1⟩
    · exact ⟨t3, h3.1⟩)
  rw [zz] at h
  exact h
theorem four_new (w : World) (l1 l2 l3 l4 : List Int) (h1 : l1.length ≤ 1000000 ∧ ∀ z ∈ l1, I64 z) (h2 : l2.length ≤ 1000000 ∧ ∀ z ∈ l2, I64 z) (h3 : l3.length ≤ 1000000 ∧ ∀ z ∈ l3, I64 z) (h4 : l4.length ≤ 1000000 ∧ ∀ z ∈ l4, I64 z) : LsAt (((((w.alloc (.cells (irow l1).toArray 3)).alloc (.cells (irow l2).toArray 3)).alloc (.cells (irow l3).toArray 3)).alloc (.cells (irow l4).toArray 3)).alloc (.cells #[.slice (some ⟨w.heap.size, 0, none⟩) l1.length l1.length, .slice (some ⟨w.heap.size + 1, 0, none⟩) l2.length l2.length, .slice (some ⟨w.heap.size + 1 + 1, 0, none⟩) l3.length l3.length, .slice (some ⟨w.heap.size + 1 + 1 + 1, 0, none⟩) l4.length l4.length] 28)) (some ⟨w.heap.size + 1 + 1 + 1 + 1, 0, none⟩) 4 4 [⟨some ⟨w.heap.size, 0, none⟩, l1.length, l1.length, l1⟩, ⟨some ⟨w.heap.size + 1, 0, none⟩, l2.length, l2.length, l2⟩, ⟨some ⟨w.heap.size + 1 + 1, 0, none⟩, l3.length, l3.length, l3⟩, ⟨some ⟨w.heap.size + 1 + 1 + 1, 0, none⟩, l4.length, l4.length, l4⟩] := by
  have s1 := sl_new w l1 h1.1 h1.2
  have s2 := sl_new (w.alloc (.cells (irow l1).toArray 3)) l2 h2.1 h2.2
  have z2 : (w.alloc (.cells (irow l1).toArray 3)).heap.size = w.heap.size + 1 := by simp
  rw [z2] at s2
  have s3 := sl_new ((w.alloc (.cells (irow l1).toArray 3)).alloc (.cells (irow l2).toArray 3)) l3 h3.1 h3.2
  have z3 : ((w.alloc (.cells (irow l1).toArray 3)).alloc (.cells (irow l2).toArray 3)).heap.size = w.heap.size + 1 + 1 := by simp
  rw [z3] at s3
  have s4 := sl_new (((w.alloc (.cells (irow l1).toArray 3)).alloc (.cells (irow l2).toArray 3)).alloc (.cells (irow l3).toArray 3)) l4 h4.1 h4.2
  have z4 : (((w.alloc (.cells (irow l1).toArray 3)).alloc (.cells (irow l2).toArray 3)).alloc (.cells (irow l3).toArray 3)).heap.size = w.heap.size + 1 + 1 + 1 := by simp
  rw [z4] at s4
  have zz : ((((w.alloc (.cells (irow l1).toArray 3)).alloc (.cells (irow l2).toArray 3)).alloc (.cells (irow l3).toArray 3)).alloc (.cells (irow l4).toArray 3)).heap.size = w.heap.size + 1 + 1 + 1 + 1 := by simp
  have t1 : SlAt ((((w.alloc (.cells (irow l1).toArray 3)).alloc (.cells (irow l2).toArray 3)).alloc (.cells (irow l3).toArray 3)).alloc (.cells (irow l4).toArray 3)) ⟨some ⟨w.heap.size, 0, none⟩, l1.length, l1.length, l1⟩ := (((s1.no ((Keeps.refl No _).alloc _)).no ((Keeps.refl No _).alloc _)).no ((Keeps.refl No _).alloc _))
  have t2 : SlAt ((((w.alloc (.cells (irow l1).toArray 3)).alloc (.cells (irow l2).toArray 3)).alloc (.cells (irow l3).toArray 3)).alloc (.cells (irow l4).toArray 3)) ⟨some ⟨w.heap.size + 1, 0, none⟩, l2.length, l2.length, l2⟩ := ((s2.no ((Keeps.refl No _).alloc _)).no ((Keeps.refl No _).alloc _))
  have t3 : SlAt ((((w.alloc (.cells (irow l1).toArray 3)).alloc (.cells (irow l2).toArray 3)).alloc (.cells (irow l3).toArray 3)).alloc (.cells (irow l4).toArray 3)) ⟨some ⟨w.heap.size + 1 + 1, 0, none⟩, l3.length, l3.length, l3⟩ := (s3.no ((Keeps.refl No _).alloc _))
  have t4 : SlAt ((((w.alloc (.cells (irow l1).toArray 3)).alloc (.cells (irow l2).toArray 3)).alloc (.cells (irow l3).toArray 3)).alloc (.cells (irow l4).toArray 3)) ⟨some ⟨w.heap.size + 1 + 1 + 1, 0, none⟩, l4.length, l4.length, l4⟩ := s4
  have h := ls_new ((((w.alloc (.cells (irow l1).toArray 3)).alloc (.cells (irow l2).toArray 3)).alloc (.cells (irow l3).toArray 3)).alloc (.cells (irow l4).toArray 3)) [⟨some ⟨w.heap.size, 0, none⟩, l1.length, l1.length, l1⟩, ⟨some ⟨w.heap.size + 1, 0, none⟩, l2.length, l2.length, l2⟩, ⟨some ⟨w.heap.size + 1 + 1, 0, none⟩, l3.length, l3.length, l3⟩, ⟨some ⟨w.heap.size + 1 + 1 + 1, 0, none⟩, l4.length, l4.length, l4⟩] (by simp) (fun s hs => by
    simp only [List.mem_cons, List.not_mem_nil, or_false] at hs
    rcases hs with rfl | rfl | rfl | rfl
    · exact ⟨t1, h1.1⟩
    · exact ⟨t2, h2.1⟩
    · exact ⟨t3, h3.1⟩
    · exact ⟨t4, h4.1⟩)
  rw [zz] at h
  exact h
theorem lists_true (a1 a2 : Option Addr) (n1 n2 c1 c2 : Nat) (S1 S2 : List Sl) (w : World) (h1 : LsAt w a1 n1 c1 S1) (h2 : LsAt w a2 n2 c2 S2) (hn : n2 ≤ 1000000) (h : S1.map Sl.l = S2.map Sl.l) :
    Calls Tryd.prog 7 #[.slice a1 n1 c1, .slice a2 n2 c2] w fun e w' => e = .returned (.bool true) ∧ Keeps No w w' := by
  have hl : n1 = n2 := by rw [← h1.len, ← h2.len]; have := congrArg List.length h; simpa using this
  refine (same_lists a1 a2 n1 n2 c1 c2 S1 S2 w h1 h2 (by omega)).mono ?_
  rintro e w' ⟨rfl, hk⟩
  exact ⟨by rw [decide_eq_true h], hk⟩
theorem ints_true (s t : Sl) (w : World) (hs : SlAt w s) (ht : SlAt w t) (hn : t.n ≤ 1000000) (h : s.l = t.l) :
    Calls Tryd.prog 9 #[s.v, t.v] w fun e w' => e = .returned (.bool true) ∧ Keeps No w w' := by
  have hl : s.n = t.n := by rw [← hs.len, ← ht.len, h]
  refine (same_ints s t w hs ht (by omega)).mono ?_
  rintro e w' ⟨rfl, m, rfl⟩
  exact ⟨by rw [decide_eq_true h], (Keeps.refl _ _).drewN m⟩
/-- A row of the call's own, its parts named. -/
theorem own_parts {w : World} {B n : Nat} {v : Value} {l : List Int} (h : w.ownsRow B 3 1 v n (irow l)) (hb : ∀ z ∈ l, I64 z) : ∃ a c, v = .slice a n c ∧ SlAt w ⟨a, n, c, l⟩ := by
  have hl : l.length = n := by have := h.1; unfold irow at this; rw [List.length_map] at this; omega
  subst hl
  obtain ⟨s, e1, e2, e3, e4⟩ := own_sl h hb
  obtain ⟨a, k, c, l2⟩ := s
  simp only at e2 e3
  subst e2 e3
  exact ⟨a, c, e1.symm, e4⟩
end Go.Proofs.YtkiimljdoebclaaDoor
/- awake. -/
namespace Go.Proofs.YtkiimljdoebclaaDoor
open Go.RowKit Gm Go.Maps
set_option linter.unusedVariables false
set_option linter.unusedSimpArgs false

set_option maxRecDepth 100000 in
set_option maxHeartbeats 25600000 in
theorem awake_any (w : World) (hl : Laid w) : Calls Tryd.prog 12 #[] w fun e w' => e = .returned (.bool true) ∧ Keeps No w w' := by
  have HL := Lib.hid hl
  have HRI := Lib.hid (ring_any 4 2 w (by decide) (by decide) (by decide))
  clear hl
  go_enter Tryd.func12, Tryd.ntmps12
  go_wp2_with fail
  refine HRI.out.mono ?_
  rintro e w1 ⟨p, rfl, hr, hok, hk1⟩
  have HR := Lib.hid hr
  have HPL := Lib.hid (hr.plain (by decide) (by decide) (by decide))
  have HPO := Lib.hid (hr.ok (by decide) (by decide))
  have HTK0 := Lib.hid hr.tk
  have HTK := Lib.hid (TkOk.nil hr.tk)
  have HF := Lib.hid (hr.facts (by decide) (by decide) (by decide))
  have HOK := Lib.hid hok
  have HK1 := Lib.hid hk1
  clear hr hok hk1 HRI
  go_upto_region 2 with fail
  have hp2 := pg_boxed p w1 26
  have hk2 : Keeps No w1 (w1.alloc (.cells #[.slice p.ga p.gn p.gc, .slice p.fa p.fn p.fc, .int .i64 p.main] 26)) := (Keeps.refl _ _).alloc _
  generalize w1.alloc (.cells #[.slice p.ga p.gn p.gc, .slice p.fa p.fn p.fc, .int .i64 p.main] 26) = w2 at hp2 hk2 ⊢
  obtain ⟨PB, hPB⟩ : ∃ q, w1.heap.size = q := ⟨_, rfl⟩
  rw [hPB] at hp2 ⊢
  have HPB2 := Lib.hid hp2
  have HK2 := Lib.hid (HK1.out.trans hk2 (fun _ _ e => e))
  have HOK2 := Lib.hid (HOK.out.no hk2)
  clear hp2 hk2 hPB HOK HK1
  have p0 : w2.cell? ⟨PB, 0, none⟩ = some (.slice p.ga p.gn p.gc) := HPB2.out 0 _ rfl
  have p1 : w2.cell? ⟨PB, 1, none⟩ = some (.slice p.fa p.fn p.fc) := HPB2.out 1 _ rfl
  have p2 : w2.cell? ⟨PB, 2, none⟩ = some (.int .i64 p.main) := HPB2.out 2 _ rfl
  have HPA := Lib.hid (parts_any p w2 40 (wantM 4 2) HOK2.out (HL.out.no HK2.out) HPL.out HTK.out HPO.out HF.out.parts)
  go_wp2_with fail
  refine HPA.out.mono ?_
  rintro e w3 ⟨a3, k3, c3, rfl, ⟨S3, hs3, hm3⟩, hk3⟩
  have HK3 := Lib.hid (HK2.out.trans hk3 (fun _ _ e => e))
  have HOK3 := Lib.hid (HOK2.out.no hk3)
  have HPB3 := Lib.hid (HPB2.out.no hk3)
  have HS3 := Lib.hid hs3
  have HM3 := Lib.hid hm3
  clear hs3 hm3 hk3 HPA p0 p1 p2 HPB2 HOK2 HK2
  go_wp2_with fail
  have hk4 : Keeps No w3 ((((w3.alloc (.cells (irow [2, 3]).toArray 3)).alloc (.cells (irow [1]).toArray 3)).alloc (.cells (irow [0]).toArray 3)).alloc (.cells #[.slice (some ⟨w3.heap.size, 0, none⟩) 2 2, .slice (some ⟨w3.heap.size + 1, 0, none⟩) 1 1, .slice (some ⟨w3.heap.size + 1 + 1, 0, none⟩) 1 1] 28)) := ((((Keeps.refl No w3).alloc _).alloc _).alloc _).alloc _
  have HL4 : Hid (Calls Tryd.prog 7 #[.slice a3 k3 c3, .slice (some ⟨w3.heap.size + 1 + 1 + 1, 0, none⟩) 3 3] ((((w3.alloc (.cells (irow [2, 3]).toArray 3)).alloc (.cells (irow [1]).toArray 3)).alloc (.cells (irow [0]).toArray 3)).alloc (.cells #[.slice (some ⟨w3.heap.size, 0, none⟩) 2 2, .slice (some ⟨w3.heap.size + 1, 0, none⟩) 1 1, .slice (some ⟨w3.heap.size + 1 + 1, 0, none⟩) 1 1] 28)) fun e w' => e = .returned (.bool true) ∧ Keeps No ((((w3.alloc (.cells (irow [2, 3]).toArray 3)).alloc (.cells (irow [1]).toArray 3)).alloc (.cells (irow [0]).toArray 3)).alloc (.cells #[.slice (some ⟨w3.heap.size, 0, none⟩) 2 2, .slice (some ⟨w3.heap.size + 1, 0, none⟩) 1 1, .slice (some ⟨w3.heap.size + 1 + 1, 0, none⟩) 1 1] 28)) w') := Lib.hid (lists_true a3 _ k3 3 c3 3 S3 _ _ (HS3.out.no hk4) (three_new w3 [2, 3] [1] [0] ⟨by decide, by intro z hz; simp at hz; unfold I64; omega⟩ ⟨by decide, by intro z hz; simp at hz; unfold I64; omega⟩ ⟨by decide, by intro z hz; simp at hz; unfold I64; omega⟩) (by omega) (by rw [HM3.out]; rfl))
  refine HL4.out.mono ?_
  rintro e w5 ⟨rfl, hk5⟩
  have hk35 := hk4.trans hk5 (fun _ _ e => e)
  have HK5 := Lib.hid (HK3.out.trans hk35 (fun _ _ e => e))
  have HOK5 := Lib.hid (HOK3.out.no hk35)
  have HPB5 := Lib.hid (HPB3.out.no hk35)
  clear hk4 hk5 hk35 HL4 HK3 HOK3 HPB3 HS3 HM3
  have p0 : w5.cell? ⟨PB, 0, none⟩ = some (.slice p.ga p.gn p.gc) := HPB5.out 0 _ rfl
  have p1 : w5.cell? ⟨PB, 1, none⟩ = some (.slice p.fa p.fn p.fc) := HPB5.out 1 _ rfl
  have p2 : w5.cell? ⟨PB, 2, none⟩ = some (.int .i64 p.main) := HPB5.out 2 _ rfl
  have HCY := Lib.hid (cyclic_any p w5 40 (partL 4 2) HOK5.out (HL.out.no HK5.out) HPL.out HTK.out HPO.out HF.out.cyc)
  go_wp2_with fail
  refine HCY.out.mono ?_
  rintro e w6 ⟨v6, rfl, ho6, hk6⟩
  obtain ⟨a6, c6, rfl, hs6⟩ := own_parts ho6 (by intro z hz; simp [partL] at hz; unfold I64; omega)
  have HK6 := Lib.hid (HK5.out.trans hk6 (fun _ _ e => e))
  have HOK6 := Lib.hid (HOK5.out.no hk6)
  have HPB6 := Lib.hid (HPB5.out.no hk6)
  have HS6 := Lib.hid hs6
  clear ho6 hs6 hk6 HCY p0 p1 p2 HK5 HOK5 HPB5
  go_wp2_with fail
  have hk7 : Keeps No w6 (w6.alloc (.cells (irow [2, 3]).toArray 3)) := (Keeps.refl No w6).alloc _
  have HI7 : Hid (Calls Tryd.prog 9 #[.slice a6 2 c6, .slice (some ⟨w6.heap.size, 0, none⟩) 2 2] (w6.alloc (.cells (irow [2, 3]).toArray 3)) fun e w' => e = .returned (.bool true) ∧ Keeps No (w6.alloc (.cells (irow [2, 3]).toArray 3)) w') := Lib.hid (ints_true ⟨a6, 2, c6, [2, 3]⟩ ⟨some ⟨w6.heap.size, 0, none⟩, 2, 2, [2, 3]⟩ _ (HS6.out.no hk7) (sl_new w6 [2, 3] (by decide) (by intro z hz; simp at hz; unfold I64; omega)) (by simp only; omega) rfl)
  refine HI7.out.mono ?_
  rintro e w8 ⟨rfl, hk8⟩
  have hk68 := hk7.trans hk8 (fun _ _ e => e)
  have HK8 := Lib.hid (HK6.out.trans hk68 (fun _ _ e => e))
  have HOK8 := Lib.hid (HOK6.out.no hk68)
  have HPB8 := Lib.hid (HPB6.out.no hk68)
  clear hk7 hk8 hk68 HI7 HK6 HOK6 HPB6 HS6
  have p0 : w8.cell? ⟨PB, 0, none⟩ = some (.slice p.ga p.gn p.gc) := HPB8.out 0 _ rfl
  have p1 : w8.cell? ⟨PB, 1, none⟩ = some (.slice p.fa p.fn p.fc) := HPB8.out 1 _ rfl
  have p2 : w8.cell? ⟨PB, 2, none⟩ = some (.int .i64 p.main) := HPB8.out 2 _ rfl
  obtain ⟨al, hal1, hal2, hal3⟩ := HF.out.reach
  have HRE := Lib.hid (reach_any p w8 40 al HOK8.out (HL.out.no HK8.out) HPL.out HTK.out HPO.out hal1 (by omega))
  have HAL := Lib.hid (And.intro hal2 hal3)
  clear hal1 hal2 hal3
  go_wp2_with fail
  refine HRE.out.mono ?_
  rintro e w9 ⟨v9, rfl, ho9, hk9⟩
  rw [HAL.out.1, HAL.out.2] at ho9
  obtain ⟨a9, c9, rfl, hs9⟩ := own_parts ho9 (by intro z hz; simp at hz; unfold I64; omega)
  have HK9 := Lib.hid (HK8.out.trans hk9 (fun _ _ e => e))
  have HOK9 := Lib.hid (HOK8.out.no hk9)
  have HPB9 := Lib.hid (HPB8.out.no hk9)
  have HS9 := Lib.hid hs9
  clear ho9 hs9 hk9 HRE p0 p1 p2 HK8 HOK8 HPB8
  go_wp2_with fail
  have hk7 : Keeps No w9 (w9.alloc (.cells (irow [0, 1, 2, 3]).toArray 3)) := (Keeps.refl No w9).alloc _
  have HI7 : Hid (Calls Tryd.prog 9 #[.slice a9 4 c9, .slice (some ⟨w9.heap.size, 0, none⟩) 4 4] (w9.alloc (.cells (irow [0, 1, 2, 3]).toArray 3)) fun e w' => e = .returned (.bool true) ∧ Keeps No (w9.alloc (.cells (irow [0, 1, 2, 3]).toArray 3)) w') := Lib.hid (ints_true ⟨a9, 4, c9, [0, 1, 2, 3]⟩ ⟨some ⟨w9.heap.size, 0, none⟩, 4, 4, [0, 1, 2, 3]⟩ _ (HS9.out.no hk7) (sl_new w9 [0, 1, 2, 3] (by decide) (by intro z hz; simp at hz; unfold I64; omega)) (by simp only; omega) rfl)
  refine HI7.out.mono ?_
  rintro e w10 ⟨rfl, hk8⟩
  have hk68 := hk7.trans hk8 (fun _ _ e => e)
  have HK10 := Lib.hid (HK9.out.trans hk68 (fun _ _ e => e))
  have HOK10 := Lib.hid (HOK9.out.no hk68)
  have HPB10 := Lib.hid (HPB9.out.no hk68)
  clear hk7 hk8 hk68 HI7 HK9 HOK9 HPB9 HS9
  have p0 : w10.cell? ⟨PB, 0, none⟩ = some (.slice p.ga p.gn p.gc) := HPB10.out 0 _ rfl
  have p1 : w10.cell? ⟨PB, 1, none⟩ = some (.slice p.fa p.fn p.fc) := HPB10.out 1 _ rfl
  have p2 : w10.cell? ⟨PB, 2, none⟩ = some (.int .i64 p.main) := HPB10.out 2 _ rfl
  have HTA := Lib.hid (takenD_any p w10 HOK10.out (HL.out.no HK10.out) HPL.out HTK.out HPO.out)
  go_wp2_with fail
  refine HTA.out.mono ?_
  rintro e w10b ⟨vb, rfl, hob, hkb⟩
  rw [HTK0.out] at hob
  obtain ⟨ab, cb, rfl, _⟩ := own_form hob
  clear hob
  have HK10b := Lib.hid (HK10.out.trans hkb (fun _ _ e => e))
  have HOK10b := Lib.hid (HOK10.out.no hkb)
  have HPB10b := Lib.hid (HPB10.out.no hkb)
  clear hkb HTA p0 p1 p2 HK10 HOK10 HPB10
  have p0 : w10b.cell? ⟨PB, 0, none⟩ = some (.slice p.ga p.gn p.gc) := HPB10b.out 0 _ rfl
  have p1 : w10b.cell? ⟨PB, 1, none⟩ = some (.slice p.fa p.fn p.fc) := HPB10b.out 1 _ rfl
  have p2 : w10b.cell? ⟨PB, 2, none⟩ = some (.int .i64 p.main) := HPB10b.out 2 _ rfl
  have HCA := Lib.hid (callsD_any p w10b HOK10b.out (HL.out.no HK10b.out) HPL.out HTK.out HPO.out)
  go_wp2_with fail
  refine HCA.out.mono ?_
  rintro e w11 ⟨OB, rfl, ⟨S11, hs11, hm11⟩, hk11⟩
  rw [HR.out.fn] at hs11
  have HK11 := Lib.hid (HK10b.out.trans hk11 (fun _ _ e => e))
  have HOK11 := Lib.hid (HOK10b.out.no hk11)
  have HPB11 := Lib.hid (HPB10b.out.no hk11)
  have HS11 := Lib.hid hs11
  have HM11 : Hid (S11.map Sl.l = ringC 4 2) := Lib.hid (hm11.trans HF.out.calls)
  clear hs11 hm11 hk11 HCA p0 p1 p2 HK10b HOK10b HPB10b
  have hfn : p.fn = 4 := HR.out.fn
  rw [hfn]
  clear hfn
  go_wp2_with fail
  have hk4 : Keeps No w11 (((((w11.alloc (.cells (irow [1]).toArray 3)).alloc (.cells (irow [2]).toArray 3)).alloc (.cells (irow [3]).toArray 3)).alloc (.cells (irow [2]).toArray 3)).alloc (.cells #[.slice (some ⟨w11.heap.size, 0, none⟩) 1 1, .slice (some ⟨w11.heap.size + 1, 0, none⟩) 1 1, .slice (some ⟨w11.heap.size + 1 + 1, 0, none⟩) 1 1, .slice (some ⟨w11.heap.size + 1 + 1 + 1, 0, none⟩) 1 1] 28)) := (((((Keeps.refl No w11).alloc _).alloc _).alloc _).alloc _).alloc _
  have HL4 : Hid (Calls Tryd.prog 7 #[.slice (some ⟨OB, 0, none⟩) 4 4, .slice (some ⟨w11.heap.size + 1 + 1 + 1 + 1, 0, none⟩) 4 4] (((((w11.alloc (.cells (irow [1]).toArray 3)).alloc (.cells (irow [2]).toArray 3)).alloc (.cells (irow [3]).toArray 3)).alloc (.cells (irow [2]).toArray 3)).alloc (.cells #[.slice (some ⟨w11.heap.size, 0, none⟩) 1 1, .slice (some ⟨w11.heap.size + 1, 0, none⟩) 1 1, .slice (some ⟨w11.heap.size + 1 + 1, 0, none⟩) 1 1, .slice (some ⟨w11.heap.size + 1 + 1 + 1, 0, none⟩) 1 1] 28)) fun e w' => e = .returned (.bool true) ∧ Keeps No (((((w11.alloc (.cells (irow [1]).toArray 3)).alloc (.cells (irow [2]).toArray 3)).alloc (.cells (irow [3]).toArray 3)).alloc (.cells (irow [2]).toArray 3)).alloc (.cells #[.slice (some ⟨w11.heap.size, 0, none⟩) 1 1, .slice (some ⟨w11.heap.size + 1, 0, none⟩) 1 1, .slice (some ⟨w11.heap.size + 1 + 1, 0, none⟩) 1 1, .slice (some ⟨w11.heap.size + 1 + 1 + 1, 0, none⟩) 1 1] 28)) w') := Lib.hid (lists_true (some ⟨OB, 0, none⟩) _ 4 4 4 4 S11 _ _ (HS11.out.no hk4) (four_new w11 [1] [2] [3] [2] ⟨by decide, by intro z hz; simp at hz; unfold I64; omega⟩ ⟨by decide, by intro z hz; simp at hz; unfold I64; omega⟩ ⟨by decide, by intro z hz; simp at hz; unfold I64; omega⟩ ⟨by decide, by intro z hz; simp at hz; unfold I64; omega⟩) (by omega) (by rw [HM11.out]; rfl))
  refine HL4.out.mono ?_
  rintro e w12 ⟨rfl, hk5⟩
  have hk35 := hk4.trans hk5 (fun _ _ e => e)
  have HK12 := Lib.hid (HK11.out.trans hk35 (fun _ _ e => e))
  clear hk4 hk5 hk35 HL4 HK11 HOK11 HPB11 HS11 HM11
  have HPZ := Lib.hid (parts_none w12 (HL.out.no HK12.out))
  go_wp2_with fail
  refine HPZ.out.mono ?_
  rintro e w13 ⟨rfl, hk13⟩
  have HK13 := Lib.hid (HK12.out.trans hk13 (fun _ _ e => e))
  clear hk13 HPZ HK12
  go_wp2_with fail
  go_returns
  exact ⟨rb rfl rfl, HK13.out⟩
end Go.Proofs.YtkiimljdoebclaaDoor
/- Lists that a law writes out. -/
namespace Go.Proofs.YtkiimljdoebclaaDoor
open Go.RowKit Gm Go.Maps
set_option linter.unusedVariables false
set_option linter.unusedSimpArgs false

structure LV (w : World) (B : Nat) (v : Value) (ls : List (List Int)) : Prop where
  ex : ∃ vs : List Value, w.ownsRow B 28 1 v ls.length vs ∧ ∀ (i : Nat) (l : List Int), ls[i]? = some l → ∃ s : Sl, vs[i]? = some s.v ∧ s.l = l ∧ SlAt w s ∧ s.n ≤ 1000000 ∧ ∀ b o, s.a = some ⟨b, o, none⟩ → ∃ cs, w.heap[b]? = some (.cells cs 3 (0, 0))
section
variable {w w' : World} {B : Nat} {v : Value} {ls : List (List Int)}
theorem LV.no (h : LV w B v ls) (hk : Keeps No w w') : LV w' B v ls := by
  obtain ⟨vs, h1, h2⟩ := h.ex
  refine ⟨vs, own_kept h1 (fun q hq => hk.block q (ownG_lt h1 q hq) (fun e => e)), fun i l hl => ?_⟩
  obtain ⟨s, e1, e2, e3, e4, e5⟩ := h2 i l hl
  exact ⟨s, e1, e2, e3.no hk, e4, fun b o e => by obtain ⟨cs, hc⟩ := e5 b o e; exact ⟨cs, (hk.block b (Array.getElem?_eq_some_iff.1 hc).1 (fun e => e)).trans hc⟩⟩
theorem LV.push {g' cap : Nat} {s : Sl} (vs : List Value) (h1 : w.ownsRow B 28 1 v ls.length vs) (h2 : ∀ (i : Nat) (l : List Int), ls[i]? = some l → ∃ s : Sl, vs[i]? = some s.v ∧ s.l = l ∧ SlAt w s ∧ s.n ≤ 1000000 ∧ ∀ b o, s.a = some ⟨b, o, none⟩ → ∃ cs, w.heap[b]? = some (.cells cs 3 (0, 0)))
    (hk : Keeps (fun q => v.ownBlock = some q) w w') (ho : w'.ownsRow B 28 1 (.slice (some ⟨g', 0, none⟩) (ls.length + 1) cap) (ls.length + 1) (vs ++ [s.v])) (hs : SlAt w s) (hsn : s.n ≤ 1000000) (hst : ∀ b o, s.a = some ⟨b, o, none⟩ → ∃ cs, w.heap[b]? = some (.cells cs 3 (0, 0))) :
    LV w' B (.slice (some ⟨g', 0, none⟩) (ls.length + 1) cap) (ls ++ [s.l]) := by
  have hne : ∀ b, (∃ cs, w.heap[b]? = some (.cells cs 3 (0, 0))) → v.ownBlock ≠ some b := fun b ⟨cs, hc⟩ e => by
    obtain ⟨c2, h⟩ := own_typ h1 e
    exact ne_type h hc (by decide) rfl
  have kp : ∀ y : Sl, SlAt w y → (∀ b o, y.a = some ⟨b, o, none⟩ → ∃ cs, w.heap[b]? = some (.cells cs 3 (0, 0))) → SlAt w' y ∧ ∀ b o, y.a = some ⟨b, o, none⟩ → ∃ cs, w'.heap[b]? = some (.cells cs 3 (0, 0)) := fun y hy ht =>
    ⟨hy.keep hk (fun b o e => hne b (ht b o e)), fun b o e => by obtain ⟨cs, hc⟩ := ht b o e; exact ⟨cs, (hk.block b (Array.getElem?_eq_some_iff.1 hc).1 (hne b ⟨cs, hc⟩)).trans hc⟩⟩
  refine ⟨vs ++ [s.v], by rw [List.length_append, List.length_singleton]; exact ho, fun i l hl => ?_⟩
  have hvl : vs.length = ls.length := by have := h1.1; omega
  by_cases hi : i < ls.length
  · rw [List.getElem?_append_left hi] at hl
    obtain ⟨y, e1, e2, e3, e4, e5⟩ := h2 i l hl
    obtain ⟨k1, k2⟩ := kp y e3 e5
    exact ⟨y, by rw [List.getElem?_append_left (by omega)]; exact e1, e2, k1, e4, k2⟩
  · have hi2 : i = ls.length := by have := (List.getElem?_eq_some_iff.1 hl).1; simp at this; omega
    subst hi2
    rw [List.getElem?_append_right (Nat.le_refl _), Nat.sub_self] at hl
    obtain rfl : s.l = l := by simpa using hl
    obtain ⟨k1, k2⟩ := kp s hs hst
    exact ⟨s, by rw [List.getElem?_append_right (by omega), hvl, Nat.sub_self]; rfl, rfl, k1, hsn, k2⟩
theorem LV.lists (h : LV w B v ls) : ∃ a c S, v = .slice a ls.length c ∧ LsAt w a ls.length c S ∧ S.map Sl.l = ls := by
  obtain ⟨vs, h1, h2⟩ := h.ex
  have pick : ∀ i : Nat, ∃ s : Sl, ∀ l, ls[i]? = some l → vs[i]? = some s.v ∧ s.l = l ∧ SlAt w s ∧ s.n ≤ 1000000 := fun i => by
    cases hl : ls[i]? with
    | none => exact ⟨⟨none, 0, 0, []⟩, fun l e => by cases e⟩
    | some l =>
      obtain ⟨s, e1, e2, e3, e4, _⟩ := h2 i l hl
      exact ⟨s, fun l' e => by injection e with e; subst e; exact ⟨e1, e2, e3, e4⟩⟩
  obtain ⟨F, hF⟩ := Classical.axiomOfChoice pick
  have hmap : ((List.range ls.length).map F).map Sl.l = ls := by
    refine List.ext_getElem? fun i => ?_
    rw [List.map_map, List.getElem?_map]
    by_cases hi : i < ls.length
    · rw [List.getElem?_range hi, List.getElem?_eq_getElem hi]
      have := (hF i ls[i] (List.getElem?_eq_getElem hi)).2.1
      simp [this]
    · rw [List.getElem?_eq_none (by simp; omega), List.getElem?_eq_none (by omega)]; rfl
  have hgo : ∀ (i : Nat) (s : Sl), ((List.range ls.length).map F)[i]? = some s → vs[i]? = some s.v ∧ SlAt w s ∧ s.n ≤ 1000000 := fun i s hs => by
    have hi : i < ls.length := by have := (List.getElem?_eq_some_iff.1 hs).1; simpa using this
    rw [List.getElem?_map, List.getElem?_range hi] at hs
    injection hs with hs
    obtain ⟨f1, f2, f3, f4⟩ := hF i ls[i] (List.getElem?_eq_getElem hi)
    subst hs
    exact ⟨f1, f3, f4⟩
  rcases h1.2 with ⟨e1, e2⟩ | ⟨g, cap, cur, e1, e2, e3, e4, e5, e6, e7⟩
  · refine ⟨none, 0, (List.range ls.length).map F, by rw [e2]; exact e1, ⟨by simp, ⟨by omega, Nat.zero_le _⟩, fun i s hs => ?_⟩, hmap⟩
    have := (List.getElem?_eq_some_iff.1 hs).1
    simp [e2] at this
  · subst e1
    refine ⟨some ⟨g, 0, none⟩, cap, (List.range ls.length).map F, rfl, ⟨by simp, ⟨e4, e5⟩, fun i s hs => ?_⟩, hmap⟩
    obtain ⟨f1, f2, f3⟩ := hgo i s hs
    refine ⟨g, 0, rfl, ?_, f2, f3⟩
    rw [Nat.zero_add, World.ownsRow.cellAt h1 i (by have := (List.getElem?_eq_some_iff.1 hs).1; simp at this; omega)]
    exact f1
end
def wantL (m b j : Nat) : List (List Int) := partL m b :: (List.range j).map fun i => [((b - 1 - i : Nat) : Int)]
theorem wantL_full (m b : Nat) : wantL m b b = wantM m b := rfl
theorem wantL_more (m b j : Nat) : wantL m b (j + 1) = wantL m b j ++ [[((b - 1 - j : Nat) : Int)]] := by
  unfold wantL
  rw [List.range_succ, List.map_append]; rfl
def partI (b i : Nat) : List Int := (List.range i).map fun k => ((b + k : Nat) : Int)
theorem partI_more (b i : Nat) : partI b (i + 1) = partI b i ++ [((b + i : Nat) : Int)] := by
  unfold partI
  rw [List.range_succ, List.map_append]; rfl
theorem partI_full (m b : Nat) : partI b (m - b) = partL m b := rfl
theorem partI_len (b i : Nat) : (partI b i).length = i := by unfold partI; simp
theorem partI_bd {b i : Nat} (hb : b ≤ 12) (hi : i ≤ 12) : ∀ z ∈ partI b i, I64 z := by
  intro z hz
  unfold partI at hz
  obtain ⟨k, hk, rfl⟩ := List.mem_map.1 hz
  have := List.mem_range.1 hk
  unfold I64
  omega
end Go.Proofs.YtkiimljdoebclaaDoor
