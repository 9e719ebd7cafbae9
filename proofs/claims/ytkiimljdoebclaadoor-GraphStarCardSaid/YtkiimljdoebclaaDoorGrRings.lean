/- A ring of functions, as data. -/
import Derived.Test.YtkiimljdoebclaaDoorGrReach
namespace Go.Proofs.YtkiimljdoebclaaDoor
open Go.RowKit Gm Go.Maps
set_option linter.unusedVariables false
set_option linter.unusedSimpArgs false

def sl0 : Sl := ⟨none, 0, 0, []⟩
def rixs (tg : Int) : List Ix := [⟨10, 0, -1, 0, 0, tg, 0, false, sl0, sl0, sl0⟩, ⟨17, 0, 0, -1, 0, 0, 0, false, sl0, sl0, sl0⟩]
def rblk (tg : Int) (ib : Nat) : Bx := ⟨some ⟨ib, 0, none⟩, 2, 2, rixs tg⟩
def rfx (tg : Int) (ib bb : Nat) : Fx := ⟨⟨#[]⟩, 0, 0, sl0, some ⟨bb, 0, none⟩, 1, 1, [rblk tg ib], false⟩
def rto (m b i : Nat) : Nat := if i + 1 = m then b else i + 1
structure IsRing (p : Pg) (m b : Nat) : Prop where
  ga : p.ga = none ∧ p.gn = 0 ∧ p.gc = 0 ∧ p.gl = []
  main : p.main = 0
  fn : p.fn = m
  len : p.fl.length = m
  fl : ∀ i, i < m → ∃ ib bb, p.fl[i]? = some (rfx (rto m b i : Int) ib bb)
theorem rfx_ins (tg : Int) (ib bb : Nat) : (rfx tg ib bb).ins = rixs tg := by simp [Fx.ins, rfx, rblk]
theorem rixs_named (tg : Int) : (rixs tg).flatMap namedX = [tg] := by simp [rixs, namedX]
theorem rixs_funcs (tg : Int) : (rixs tg).flatMap funcsX = [] := by simp [rixs, funcsX]
section
variable {p : Pg} {m b : Nat}
theorem IsRing.mem (h : IsRing p m b) {f : Fx} (hf : f ∈ p.fl) : ∃ i ib bb, i < m ∧ f = rfx (rto m b i : Int) ib bb := by
  obtain ⟨i, hi⟩ := List.mem_iff_getElem?.1 hf
  have him : i < m := by rw [← h.len]; exact (List.getElem?_eq_some_iff.1 hi).1
  obtain ⟨ib, bb, e⟩ := h.fl i him
  rw [hi] at e
  injection e with e
  exact ⟨i, ib, bb, him, e⟩
theorem IsRing.x (h : IsRing p m b) {x : Ix} (hx : x ∈ p.ins) : ∃ i, i < m ∧ x ∈ rixs (rto m b i : Int) := by
  unfold Pg.ins at hx
  obtain ⟨f, hf, hx⟩ := List.mem_flatMap.1 hx
  obtain ⟨i, ib, bb, hi, rfl⟩ := h.mem hf
  rw [rfx_ins] at hx
  exact ⟨i, hi, hx⟩
theorem IsRing.nm (h : IsRing p m b) : p.nm = ringC m b := by
  refine List.ext_getElem? fun i => ?_
  unfold Pg.nm ringC
  rw [List.getElem?_map, List.getElem?_map]
  by_cases hi : i < m
  · obtain ⟨ib, bb, e⟩ := h.fl i hi
    rw [e, List.getElem?_range hi]
    simp only [Option.map_some, rfx_ins, rixs_named]
    rfl
  · rw [List.getElem?_eq_none (by rw [h.len]; omega), List.getElem?_eq_none (by simp; omega)]; rfl
theorem IsRing.fs (h : IsRing p m b) : p.fs = List.replicate m [] := by
  refine List.ext_getElem? fun i => ?_
  unfold Pg.fs
  rw [List.getElem?_map, List.getElem?_replicate]
  by_cases hi : i < m
  · obtain ⟨ib, bb, e⟩ := h.fl i hi
    rw [e, if_pos hi]
    simp only [Option.map_some, rfx_ins, rixs_funcs]
  · rw [List.getElem?_eq_none (by rw [h.len]; omega), if_neg hi]; rfl
theorem no_taken : ∀ (l : List Ix) (al : List (Int × Int)), (∀ x ∈ l, x.op ≠ 9) → l.foldl takenX al = al
  | [], al, _ => rfl
  | x :: t, al, h => by
    rw [List.foldl_cons]
    have e : takenX al x = al := if_neg (h x List.mem_cons_self)
    rw [e]
    exact no_taken t al (fun y hy => h y (List.mem_cons_of_mem _ hy))
theorem rixs_op {tg : Int} {x : Ix} (hx : x ∈ rixs tg) : x.op = 10 ∨ x.op = 17 := by
  unfold rixs at hx
  simp only [List.mem_cons, List.not_mem_nil, or_false] at hx
  rcases hx with rfl | rfl
  · exact .inl rfl
  · exact .inr rfl
theorem IsRing.tk (h : IsRing p m b) : p.tk = [] := no_taken _ _ (fun x hx => by obtain ⟨i, _, hi⟩ := h.x hx; rcases rixs_op hi with e | e <;> omega)
theorem two_len : ∀ (l : List Fx), (∀ f ∈ l, f.ins.length = 2) → (l.flatMap Fx.ins).length = 2 * l.length
  | [], _ => rfl
  | f :: t, h => by rw [List.flatMap_cons, List.length_append, h f List.mem_cons_self, two_len t (fun g hg => h g (List.mem_cons_of_mem _ hg)), List.length_cons]; omega
theorem rto_lt (hm : 0 < m) (hb : b < m) {i : Nat} (hi : i < m) : rto m b i < m := by unfold rto; split <;> omega
theorem IsRing.plain (h : IsRing p m b) (hm : 0 < m) (hm2 : m ≤ 12) (hb : b < m) : Plain p := by
  refine ⟨h.ga.2.1, by rw [h.fn]; exact hm, by rw [h.fn]; omega, ?_, fun x hx => ?_, fun l hl => ?_, fun l hl z hz => ?_⟩
  · unfold Pg.ins
    rw [two_len _ (fun f hf => by obtain ⟨i, ib, bb, _, rfl⟩ := h.mem hf; rw [rfx_ins]; rfl), h.len]; omega
  · obtain ⟨i, _, hi⟩ := h.x hx
    rcases rixs_op hi with e | e <;> omega
  · unfold Pg.nm at hl
    obtain ⟨f, hf, rfl⟩ := List.mem_map.1 hl
    obtain ⟨i, ib, bb, _, rfl⟩ := h.mem hf
    rw [rfx_ins, rixs_named]; simp
  · unfold Pg.nm at hl
    obtain ⟨f, hf, rfl⟩ := List.mem_map.1 hl
    obtain ⟨i, ib, bb, hi, rfl⟩ := h.mem hf
    rw [rfx_ins, rixs_named] at hz
    obtain rfl : z = (rto m b i : Int) := by simpa using hz
    exact ⟨rto m b i, rfl, by rw [h.fn]; exact rto_lt hm hb hi⟩
theorem IsRing.ok (h : IsRing p m b) (hm : 0 < m) (hb : b < m) : p.ok = true := by
  unfold Pg.ok Pg.mainOk
  obtain ⟨ib, bb, e0⟩ := h.fl 0 hm
  rw [h.main, h.fn, h.ga.2.2.2, h.ga.2.1]
  rw [show p.fl[(0 : Int).toNat]? = some (rfx (rto m b 0 : Int) ib bb) from e0]
  simp only [List.all_nil, Bool.true_and, Bool.and_eq_true, decide_eq_true_eq]
  refine ⟨Int.le_refl _, by omega, rfl, List.all_eq_true.2 fun f hf => ?_⟩
  obtain ⟨i, ib, bb, hi, rfl⟩ := h.mem hf
  have ht := rto_lt hm hb hi
  obtain ⟨ib2, bb2, e2⟩ := h.fl (rto m b i) ht
  have hcall : Ix.callOk ⟨10, 0, -1, 0, 0, (rto m b i : Int), 0, false, sl0, sl0, sl0⟩ p.fl true = true := by
    unfold Ix.callOk
    simp only [Int.toNat_natCast]
    rw [e2]
    have h1 : ((rto m b i : Nat) : Int) < (p.fl.length : Int) := by rw [h.len]; omega
    simp [Ix.below, h1, rfx, sl0]
  unfold Fx.ok
  have hf2 : (rfx (rto m b i : Int) ib bb).formOk = true := by
    simp [Fx.formOk, rfx, rblk, rixs, formRow, Ix.formOk, endsI, Ix.regsOk, readsAI, readsBI, writesI, callsI, Ix.leadsOk, Ix.many, sl0, hasReg]
  rw [hf2]
  simp only [rfx, rblk, sl0, List.all_cons, List.all_nil, Bool.and_true, Bool.true_and]
  simp only [rixs, List.all_cons, List.all_nil, Bool.and_true, Ix.fitsOk]
  simpa [sl0] using hcall
end
end Go.Proofs.YtkiimljdoebclaaDoor
/- ring, walked. -/
namespace Go.Proofs.YtkiimljdoebclaaDoor
open Go.RowKit Gm Go.Maps
set_option linter.unusedVariables false
set_option linter.unusedSimpArgs false

theorem flatG_len {α : Type} (f : α → List Value) (m : Nat) (hm : ∀ x, (f x).length = m) (l : List α) : (l.flatMap f).length = l.length * m := by
  induction l with
  | nil => simp
  | cons a t ih => rw [List.flatMap_cons, List.length_append, ih, hm, List.length_cons, Nat.succ_mul]; omega
theorem flatG_get {α : Type} (f : α → List Value) (m : Nat) (hm : ∀ x, (f x).length = m) : ∀ (l : List α) (k : Nat) (x : α), l[k]? = some x → ∀ (j : Nat) (v : Value), (f x)[j]? = some v → (l.flatMap f)[k * m + j]? = some v := by
  intro l
  induction l with
  | nil => intro k x hx; cases hx
  | cons a t ih =>
    intro k x hx j v hv
    rw [List.flatMap_cons]
    have hla := hm a
    cases k with
    | zero =>
      obtain rfl : a = x := by simpa using hx
      have hj : j < m := by rw [← hla]; exact (List.getElem?_eq_some_iff.1 hv).1
      rw [List.getElem?_append_left (by rw [hla]; omega), Nat.zero_mul, Nat.zero_add]; exact hv
    | succ k =>
      rw [Nat.succ_mul, List.getElem?_append_right (by rw [hla]; omega), hla, show k * m + m + j - m = k * m + j by omega]
      exact ih k x (by simpa using hx) j v hv
theorem infoFG : (Tryd.prog.info? 46).map (fun i => (i.zero, i.size, i.bytes)) = some (some (.agg #[.string ⟨#[]⟩, .int .i64 0, .int .i64 0, .slice none 0 0, .slice none 0 0, .bool false]), 6, 88) := by kernel_rfl
theorem wpList_appF (w : World) {ops : Array Oper} {rest : List Oper} {o : Oper} {a : Act} {Q : Exit → Act → World → Prop} (hgd : o.guard = none) (s x : Operand)
    (ho : o.op = .call { callee := .builtin .append, args := #[s, x], argTypes := #[24, 24] })
    (B : Nat) (v : Value) (n : Nat) (fl : List Fx) (f : Fx) (q : Nat) (hs : a.eval s = v) (hown : w.ownsRow B 46 6 v n (fl.flatMap Fx.cells)) (hx : a.eval x = .slice (some ⟨q, 0, none⟩) 1 1) (hq : w.heap[q]? = some (.cells f.cells.toArray 46 (0, 0)))
    (hn : n ≤ 1000) (hB : B ≤ w.heap.size)
    (h : ∀ g' cap w', w'.ownsRow B 46 6 (.slice (some ⟨g', 0, none⟩) (n + 1) cap) (n + 1) ((fl ++ [f]).flatMap Fx.cells) → w.grownBy w' v.ownBlock → wpList Tryd.prog ops Q rest (a.put o.dst (.slice (some ⟨g', 0, none⟩) (n + 1) cap)) w') : wpList Tryd.prog ops Q (o :: rest) a w := by
  obtain ⟨i0, hi, hz0, hz1, hz2⟩ := info_parts infoFG
  refine wpList_append_lies w hgd s x _ ho B 46 i0 (.agg #[.string ⟨#[]⟩, .int .i64 0, .int .i64 0, .slice none 0 0, .slice none 0 0, .bool false]) 6 88 Tryd.underlying24 hi hz0 hz1 hz2 rfl (by decide) v n (fl.flatMap Fx.cells) hs hown ⟨q, 0, none⟩ 1 1 f.cells hx rfl (fun j u hu => ?_) (fun u hu => ?_) (by decide) (by unfold maxLen; omega) (by omega) hB _ rfl (fun g' cap w' k1 k2 k3 _ => h g' cap w' (by rw [List.flatMap_append]; simpa using k1) k2)
  · have e : (⟨q, 0, none⟩ : Addr).add j = ⟨q, j, none⟩ := by unfold Addr.add; split <;> simp_all
    rw [e, cell_of_row w q j _ _ _ hq, List.getElem?_toArray]; exact hu
  · unfold Fx.cells at hu
    simp only [List.mem_cons, List.not_mem_nil, or_false] at hu
    rcases hu with rfl | rfl | rfl | rfl | rfl | rfl <;> rfl
theorem sl0_at (w : World) : SlAt w sl0 := ⟨rfl, ⟨Nat.le_refl _, Nat.zero_le _⟩, fun z hz => (by cases hz), fun h => absurd h (by decide)⟩
theorem i64s (z : Int) (h : -1000 ≤ z ∧ z ≤ 1000) : I64 z := by unfold I64; omega
/-- One function of a ring, in memory. -/
theorem rfx_ok (z : Int) (hz : -1000 ≤ z ∧ z ≤ 1000) (ib bb : Nat) (w : World) (hi : w.heap[ib]? = some (.cells ((rixs z).flatMap Ix.cells).toArray 40 (0, 0))) (hb : w.heap[bb]? = some (.cells #[.slice (some ⟨ib, 0, none⟩) 2 2] 43 (0, 0))) : FxOk w (rfx z ib bb) := by
  have hix : ∀ x ∈ rixs z, IxOk w x := by
    intro x hx
    unfold rixs at hx
    simp at hx
    rcases hx with rfl | rfl
    · exact ⟨i64s 10 (by decide), i64s 0 (by decide), i64s (-1) (by decide), i64s 0 (by decide), i64s 0 (by decide), i64s z hz, i64s 0 (by decide), sl0_at w, sl0_at w, sl0_at w⟩
    · exact ⟨i64s 17 (by decide), i64s 0 (by decide), i64s 0 (by decide), i64s (-1) (by decide), i64s 0 (by decide), i64s 0 (by decide), i64s 0 (by decide), sl0_at w, sl0_at w, sl0_at w⟩
  have hbx : BxAt w (rblk z ib) := ⟨rfl, ⟨Nat.le_refl _, by show 2 ≤ maxLen; unfold maxLen; omega⟩, hix, fun _ => ⟨ib, 0, rfl, fun k x hx j v hj => by
    rw [Nat.zero_add, cell_of_row w ib _ _ _ _ hi, List.getElem?_toArray]
    exact flatG_get Ix.cells 11 (fun _ => rfl) (rixs z) k x hx j v hj⟩⟩
  exact ⟨by show 0 ≤ maxLen; omega, i64s 0 (by decide), i64s 0 (by decide), sl0_at w, rfl, ⟨Nat.le_refl _, by show 1 ≤ maxLen; unfold maxLen; omega⟩, fun x hx => by
    obtain rfl : x = rblk z ib := by simpa [rfx] using hx
    exact hbx, fun _ => ⟨bb, 0, rfl, fun k x hx => by
      cases k with
      | zero => obtain rfl : rblk z ib = x := by simpa [rfx] using hx
                rw [cell_of_row w bb _ _ _ _ hb]; rfl
      | succ k => simp [rfx] at hx⟩⟩
/-- ring under way: i functions made. -/
structure RG (w0 w : World) (VB m b i : Nat) (fa : Option Addr) (fc : Nat) (fl : List Fx) : Prop where
  kp : Keeps No w0 w
  lo : w0.heap.size ≤ VB
  row : w.heap[VB]? = some (.cells #[.slice none 0 0, .slice fa i fc, .int .i64 0] 26 (0, 0))
  own : w.ownsRow w0.heap.size 46 6 (.slice fa i fc) i (fl.flatMap Fx.cells)
  len : fl.length = i
  fl_ : ∀ j, j < i → ∃ ib bb, fl[j]? = some (rfx (rto m b j : Int) ib bb) ∧ w.heap[ib]? = some (.cells ((rixs (rto m b j : Int)).flatMap Ix.cells).toArray 40 (0, 0)) ∧ w.heap[bb]? = some (.cells #[.slice (some ⟨ib, 0, none⟩) 2 2] 43 (0, 0))
/-- What was made is a ring. -/
theorem RG.ring {w0 w : World} {VB m b : Nat} {fa : Option Addr} {fc : Nat} {fl : List Fx} (h : RG w0 w VB m b m fa fc fl) (hm : m ≤ 12) (hb : b < m) : IsRing ⟨none, 0, 0, [], fa, m, fc, fl, 0⟩ m b ∧ PgOk w ⟨none, 0, 0, [], fa, m, fc, fl, 0⟩ := by
  refine ⟨⟨⟨rfl, rfl, rfl, rfl⟩, rfl, rfl, h.len, fun i hi => ?_⟩, ?_⟩
  · obtain ⟨ib, bb, e, _⟩ := h.fl_ i hi
    exact ⟨ib, bb, e⟩
  · have hcap : m ≤ fc ∧ fc ≤ maxLen := by
      rcases h.own.2 with ⟨h1, h2⟩ | ⟨g, cap, cur, h1, _, _, h4, h5, _⟩
      · omega
      · injection h1 with _ _ e; subst e; exact ⟨h4, h5⟩
    refine ⟨i64s 0 (by decide), rfl, ⟨Nat.le_refl _, Nat.zero_le _⟩, (fun g hg => by cases hg), (fun h => absurd h (Nat.lt_irrefl 0)), h.len, hcap, fun f hf => ?_, fun _ => ?_⟩
    · obtain ⟨i, hi⟩ := List.mem_iff_getElem?.1 hf
      have him : i < m := by rw [← h.len]; exact (List.getElem?_eq_some_iff.1 hi).1
      obtain ⟨ib, bb, e, e1, e2⟩ := h.fl_ i him
      simp only at hi
      rw [hi] at e
      injection e with e
      subst e
      have hr := rto_lt (by omega) hb him
      exact rfx_ok _ (by omega) ib bb w e1 e2
    · rcases h.own.2 with ⟨h1, h2⟩ | ⟨g, cap, cur, h1, _, _, h4, h5, _⟩
      · omega
      · injection h1 with h1 _ e
        subst h1 e
        refine ⟨g, 0, rfl, fun k f hf j v hj => ?_⟩
        simp only at hf
        have hk : k < m := by rw [← h.len]; exact (List.getElem?_eq_some_iff.1 hf).1
        have hjl : j < 6 := by have := (List.getElem?_eq_some_iff.1 hj).1; simpa [Fx.cells] using this
        rw [Nat.zero_add, World.ownsRow.cellAt h.own (k * 6 + j) (by omega)]
        exact flatG_get Fx.cells 6 (fun _ => rfl) fl k f hf j v hj
set_option maxRecDepth 100000 in
set_option maxHeartbeats 12800000 in
theorem ring_any (m b : Nat) (w : World) (hm0 : 0 < m) (hm : m ≤ 12) (hb : b < m) :
    Calls Tryd.prog 6 #[.int .i64 m, .int .i64 b] w fun e w' => ∃ p : Pg, e = .returned (pv p) ∧ IsRing p m b ∧ PgOk w' p ∧ Keeps No w w' := by
  go_enter Tryd.func6, Tryd.ntmps6
  go_wp2_with fail
  have hk0 : Keeps No w ((w.alloc (.cells #[.slice none 0 0, .slice none 0 0, .int .i64 0] 26)).alloc (.cells #[.slice none 0 0, .slice none 0 0, .int .i64 0] 26)) := ((Keeps.refl No w).alloc _).alloc _
  have hra : ((w.alloc (.cells #[.slice none 0 0, .slice none 0 0, .int .i64 0] 26)).alloc (.cells #[.slice none 0 0, .slice none 0 0, .int .i64 0] 26)).heap[w.heap.size]? = some (.cells #[.slice none 0 0, .slice none 0 0, .int .i64 0] 26 (0, 0)) := by
    rw [Below.heap_alloc _ _ _ (by first | (simp; done) | (simp; omega))]; exact heap_alloc_new _ _
  have hrb : ((w.alloc (.cells #[.slice none 0 0, .slice none 0 0, .int .i64 0] 26)).alloc (.cells #[.slice none 0 0, .slice none 0 0, .int .i64 0] 26)).heap[w.heap.size + 1]? = some (.cells #[.slice none 0 0, .slice none 0 0, .int .i64 0] 26 (0, 0)) := by
    have h := heap_alloc_new (w.alloc (.cells #[.slice none 0 0, .slice none 0 0, .int .i64 0] 26)) (.cells #[.slice none 0 0, .slice none 0 0, .int .i64 0] 26)
    simpa using h
  generalize (w.alloc (.cells #[.slice none 0 0, .slice none 0 0, .int .i64 0] 26)).alloc (.cells #[.slice none 0 0, .slice none 0 0, .int .i64 0] 26) = w1 at hk0 hra hrb ⊢
  obtain ⟨VB, hVB⟩ : ∃ c, w.heap.size + 1 = c := ⟨_, rfl⟩
  obtain ⟨AB, hAB⟩ : ∃ c, w.heap.size = c := ⟨_, rfl⟩
  rw [hVB] at hrb ⊢
  rw [hAB] at hra ⊢
  have HAB : Hid (AB < VB ∧ w.heap.size = AB) := Lib.hid (by omega)
  have HRG : Hid (RG w w1 VB m b 0 none 0 []) := Lib.hid ⟨hk0, by omega, hrb, World.ownsRow_nil _ _ _ _, rfl, fun j hj => absurd hj (Nat.not_lt_zero j)⟩
  have HRA := Lib.hid hra
  clear hVB hAB hra hrb hk0
  go_loopg [6] m (fun k x wr => ∃ i : Nat, ∃ fa fc fl, x = .int .i64 (i : Int) ∧ i ≤ m ∧ k = m - i ∧ Hid (RG w wr VB m b i fa fc fl) ∧ Hid (wr.heap[AB]? = some (.cells #[.slice none 0 0, .slice none 0 0, .int .i64 0] 26 (0, 0))))
  case atStart => exact ⟨0, none, 0, [], rfl, Nat.zero_le _, rfl, HRG, HRA⟩
  case round =>
    obtain ⟨i, fa, fc, fl, rfl, hi, hg, HR, HA⟩ := hrel
    by_cases hlt : i < m
    · have hlt' : (i : Int) < (m : Int) := by omega
      have i0 : (0 : Int) ≤ (i : Int) := by omega
      obtain ⟨i1, hi1⟩ : ∃ k, i + 1 = k := ⟨_, rfl⟩
      have e1 : IntKind.i64.wrap ((i : Int) + 1) = (i1 : Int) := by rw [IntKind.wrap_i64]; omega
      have HI1 := Lib.hid hi1
      have cv : wr.cell? ⟨VB, 1, none⟩ = some (.slice fa i fc) := by rw [cell_of_row wr VB 1 _ _ _ HR.out.row]; rfl
      have hsz : w.heap.size ≤ wr.heap.size := HR.out.kp.size
      obtain ⟨z, hz⟩ : ∃ z, rto m b i = z := ⟨_, rfl⟩
      have HZ := Lib.hid hz
      by_cases hlast : i1 = m
      · have hz2 : z = b := by rw [← hz]; unfold rto; rw [if_pos (by omega)]
        have e2 : ((i1 : Int) == (m : Int)) = true := by rw [hlast]; simp
        subst hz2
        clear hz hi1
        go_upto_region 8 with fail
        go_wp2_with (at_builtin; refine stop_here ?_)
        unfold Stop
        change wpList _ _ _ _ _ (((wr.alloc (.cells ((rixs (z : Int)).flatMap Ix.cells).toArray 40)).alloc (.cells #[.slice (some ⟨wr.heap.size, 0, none⟩) 2 2] 43)).alloc (.cells (rfx (z : Int) wr.heap.size (wr.heap.size + 1)).cells.toArray 46))
        have hk2 : Keeps No wr (((wr.alloc (.cells ((rixs (z : Int)).flatMap Ix.cells).toArray 40)).alloc (.cells #[.slice (some ⟨wr.heap.size, 0, none⟩) 2 2] 43)).alloc (.cells (rfx (z : Int) wr.heap.size (wr.heap.size + 1)).cells.toArray 46)) := (((Keeps.refl No wr).alloc _).alloc _).alloc _
        have q0 : (((wr.alloc (.cells ((rixs (z : Int)).flatMap Ix.cells).toArray 40)).alloc (.cells #[.slice (some ⟨wr.heap.size, 0, none⟩) 2 2] 43)).alloc (.cells (rfx (z : Int) wr.heap.size (wr.heap.size + 1)).cells.toArray 46)).heap[wr.heap.size]? = some (.cells ((rixs (z : Int)).flatMap Ix.cells).toArray 40 (0, 0)) := by
          rw [Below.heap_alloc _ _ _ (by first | (simp; done) | (simp; omega)), Below.heap_alloc _ _ _ (by first | (simp; done) | (simp; omega))]; exact heap_alloc_new _ _
        have q1 : (((wr.alloc (.cells ((rixs (z : Int)).flatMap Ix.cells).toArray 40)).alloc (.cells #[.slice (some ⟨wr.heap.size, 0, none⟩) 2 2] 43)).alloc (.cells (rfx (z : Int) wr.heap.size (wr.heap.size + 1)).cells.toArray 46)).heap[wr.heap.size + 1]? = some (.cells #[.slice (some ⟨wr.heap.size, 0, none⟩) 2 2] 43 (0, 0)) := by
          rw [Below.heap_alloc _ _ _ (by first | (simp; done) | (simp; omega))]
          have h := heap_alloc_new (wr.alloc (.cells ((rixs (z : Int)).flatMap Ix.cells).toArray 40)) (.cells #[.slice (some ⟨wr.heap.size, 0, none⟩) 2 2] 43)
          simpa using h
        have q2 : (((wr.alloc (.cells ((rixs (z : Int)).flatMap Ix.cells).toArray 40)).alloc (.cells #[.slice (some ⟨wr.heap.size, 0, none⟩) 2 2] 43)).alloc (.cells (rfx (z : Int) wr.heap.size (wr.heap.size + 1)).cells.toArray 46)).heap[wr.heap.size + 1 + 1]? = some (.cells (rfx (z : Int) wr.heap.size (wr.heap.size + 1)).cells.toArray 46 (0, 0)) := by
          have h := heap_alloc_new ((wr.alloc (.cells ((rixs (z : Int)).flatMap Ix.cells).toArray 40)).alloc (.cells #[.slice (some ⟨wr.heap.size, 0, none⟩) 2 2] 43)) (.cells (rfx (z : Int) wr.heap.size (wr.heap.size + 1)).cells.toArray 46)
          simpa using h
        generalize ((wr.alloc (.cells ((rixs (z : Int)).flatMap Ix.cells).toArray 40)).alloc (.cells #[.slice (some ⟨wr.heap.size, 0, none⟩) 2 2] 43)).alloc (.cells (rfx (z : Int) wr.heap.size (wr.heap.size + 1)).cells.toArray 46) = w2 at hk2 q0 q1 q2 ⊢
        obtain ⟨IB, hIB⟩ : ∃ q, wr.heap.size = q := ⟨_, rfl⟩
        rw [hIB] at q0 q1 q2 ⊢
        have HQ := Lib.hid (And.intro q0 (And.intro q1 q2))
        have HK2 := Lib.hid hk2
        have HO2 : Hid (w2.ownsRow w.heap.size 46 6 (.slice fa i fc) i (fl.flatMap Fx.cells)) := Lib.hid (own_kept HR.out.own (fun q hq => hk2.block q (ownG_lt HR.out.own q hq) (fun e => e)))
        have hs2 : w.heap.size ≤ w2.heap.size := Nat.le_trans HR.out.kp.size hk2.size
        have HIB := Lib.hid hIB
        clear q0 q1 q2 hk2 hIB
        refine wpList_appF _ rfl (.tmp 21) (.tmp 29) rfl w.heap.size (.slice fa i fc) i fl (rfx (z : Int) IB (IB + 1)) (IB + 1 + 1) rfl HO2.out rfl HQ.out.2.2 (by omega) hs2 ?_
        intro g' cap w4 ho hg4
        have hk4 : Keeps (fun q => (Value.slice fa i fc).ownBlock = some q) w2 w4 := (Keeps.refl _ _).grown hg4 (fun q e => .inl e)
        have hty : ∀ q, (Value.slice fa i fc).ownBlock = some q → ∃ cs, w2.heap[q]? = some (.cells cs 46 (0, 0)) := fun q e => own_typ HO2.out e
        have hV2 := (HK2.out.block VB (Array.getElem?_eq_some_iff.1 HR.out.row).1 (fun e => e)).trans HR.out.row
        have hV4 := (hk4.block VB (Array.getElem?_eq_some_iff.1 hV2).1 (fun e => by obtain ⟨cs, hc⟩ := hty VB e; exact ne_type hV2 hc (by decide) rfl)).trans hV2
        have hA2 := (HK2.out.block AB (Array.getElem?_eq_some_iff.1 HA.out).1 (fun e => e)).trans HA.out
        have hA4 := (hk4.block AB (Array.getElem?_eq_some_iff.1 hA2).1 (fun e => by obtain ⟨cs, hc⟩ := hty AB e; exact ne_type hA2 hc (by decide) rfl)).trans hA2
        have hs := setC w4 ⟨VB, 1, none⟩ (.slice (some ⟨g', 0, none⟩) (i + 1) cap)
        have HA5 : Hid ((w4.setCell ⟨VB, 1, none⟩ (.slice (some ⟨g', 0, none⟩) (i + 1) cap)).heap[AB]? = some (.cells #[.slice none 0 0, .slice none 0 0, .int .i64 0] 26 (0, 0))) := Lib.hid ((hs.block AB (Array.getElem?_eq_some_iff.1 hA4).1 (fun e => by have := HAB.out.1; simp only at e; omega)).trans hA4)
        have HR5 : Hid (RG w (w4.setCell ⟨VB, 1, none⟩ (.slice (some ⟨g', 0, none⟩) (i + 1) cap)) VB m z (i + 1) (some ⟨g', 0, none⟩) cap (fl ++ [rfx (z : Int) IB (IB + 1)])) := Lib.hid (by
          have kk : ∀ {q : Nat} {cs : Array Value} {t : TypeId}, w2.heap[q]? = some (.cells cs t (0, 0)) → t ≠ 46 → t ≠ 26 → (w4.setCell ⟨VB, 1, none⟩ (.slice (some ⟨g', 0, none⟩) (i + 1) cap)).heap[q]? = some (.cells cs t (0, 0)) := fun {q cs t} hq h1 h2 => by
            have hq4 := (hk4.block q (Array.getElem?_eq_some_iff.1 hq).1 (fun e => by obtain ⟨c2, hc⟩ := hty q e; exact ne_type hq hc h1 rfl)).trans hq
            exact (hs.block q (Array.getElem?_eq_some_iff.1 hq4).1 (fun e => ne_type hq4 hV4 h2 e)).trans hq4
          refine ⟨((HR.out.kp.trans HK2.out (fun _ _ e => e)).trans hk4 (fun q hq e => by have := ownG_lo HO2.out q e; omega)).trans hs (fun q hq e => by have := HR.out.lo; simp only at e; omega), HR.out.lo, ?_, ?_, by rw [List.length_append, HR.out.len]; rfl, fun j hj => ?_⟩
          · rw [heap_setCell_same w4 VB 1 _ _ _ hV4]; rfl
          · exact own_kept ho (fun q hq => hs.block q (ownG_lt ho q hq) (fun e => by obtain ⟨cs, hc⟩ := own_typ ho hq; exact ne_type hV4 hc (by decide) e.symm))
          · by_cases hji : j < i
            · obtain ⟨ib, bb, f1, f2, f3⟩ := HR.out.fl_ j hji
              refine ⟨ib, bb, by rw [List.getElem?_append_left (by rw [HR.out.len]; exact hji)]; exact f1, ?_, ?_⟩
              · exact kk ((HK2.out.block ib (Array.getElem?_eq_some_iff.1 f2).1 (fun e => e)).trans f2) (by decide) (by decide)
              · exact kk ((HK2.out.block bb (Array.getElem?_eq_some_iff.1 f3).1 (fun e => e)).trans f3) (by decide) (by decide)
            · obtain rfl : j = i := by omega
              rw [HZ.out]
              exact ⟨IB, IB + 1, by rw [List.getElem?_append_right (by rw [HR.out.len]; exact Nat.le_refl _), HR.out.len, Nat.sub_self]; rfl, kk HQ.out.1 (by decide) (by decide), kk HQ.out.2.1 (by decide) (by decide)⟩)
        have c4 : w4.cell? ⟨VB, 1, none⟩ = some (.slice fa i fc) := by rw [cell_of_row w4 VB 1 _ _ _ hV4]; rfl
        have f4 : w4.frozen? ⟨VB, 1, none⟩ = false := frozen_of_row w4 VB 1 _ _ hV4
        clear ho hg4 hk4 hty hV2 hV4 hA2 hA4 hs HQ HK2 HO2 hs2 cv
        go_wp2_with fail
        go_roundg (m - (i + 1))
        case rel => exact ⟨i + 1, _, _, _, by rw [HI1.out]; try rw [hlast], by omega, rfl, HR5, HA5⟩
        case measure => omega
      · have hz2 : z = i1 := by rw [← hz]; unfold rto; rw [if_neg (by omega)]; exact hi1
        have e2 : ((i1 : Int) == (m : Int)) = false := by rw [beq_eq_false_iff_ne]; omega
        subst hz2
        clear hz hi1 hlast
        go_upto_region 8 with fail
        go_wp2_with (at_builtin; refine stop_here ?_)
        unfold Stop
        change wpList _ _ _ _ _ (((wr.alloc (.cells ((rixs (z : Int)).flatMap Ix.cells).toArray 40)).alloc (.cells #[.slice (some ⟨wr.heap.size, 0, none⟩) 2 2] 43)).alloc (.cells (rfx (z : Int) wr.heap.size (wr.heap.size + 1)).cells.toArray 46))
        have hk2 : Keeps No wr (((wr.alloc (.cells ((rixs (z : Int)).flatMap Ix.cells).toArray 40)).alloc (.cells #[.slice (some ⟨wr.heap.size, 0, none⟩) 2 2] 43)).alloc (.cells (rfx (z : Int) wr.heap.size (wr.heap.size + 1)).cells.toArray 46)) := (((Keeps.refl No wr).alloc _).alloc _).alloc _
        have q0 : (((wr.alloc (.cells ((rixs (z : Int)).flatMap Ix.cells).toArray 40)).alloc (.cells #[.slice (some ⟨wr.heap.size, 0, none⟩) 2 2] 43)).alloc (.cells (rfx (z : Int) wr.heap.size (wr.heap.size + 1)).cells.toArray 46)).heap[wr.heap.size]? = some (.cells ((rixs (z : Int)).flatMap Ix.cells).toArray 40 (0, 0)) := by
          rw [Below.heap_alloc _ _ _ (by first | (simp; done) | (simp; omega)), Below.heap_alloc _ _ _ (by first | (simp; done) | (simp; omega))]; exact heap_alloc_new _ _
        have q1 : (((wr.alloc (.cells ((rixs (z : Int)).flatMap Ix.cells).toArray 40)).alloc (.cells #[.slice (some ⟨wr.heap.size, 0, none⟩) 2 2] 43)).alloc (.cells (rfx (z : Int) wr.heap.size (wr.heap.size + 1)).cells.toArray 46)).heap[wr.heap.size + 1]? = some (.cells #[.slice (some ⟨wr.heap.size, 0, none⟩) 2 2] 43 (0, 0)) := by
          rw [Below.heap_alloc _ _ _ (by first | (simp; done) | (simp; omega))]
          have h := heap_alloc_new (wr.alloc (.cells ((rixs (z : Int)).flatMap Ix.cells).toArray 40)) (.cells #[.slice (some ⟨wr.heap.size, 0, none⟩) 2 2] 43)
          simpa using h
        have q2 : (((wr.alloc (.cells ((rixs (z : Int)).flatMap Ix.cells).toArray 40)).alloc (.cells #[.slice (some ⟨wr.heap.size, 0, none⟩) 2 2] 43)).alloc (.cells (rfx (z : Int) wr.heap.size (wr.heap.size + 1)).cells.toArray 46)).heap[wr.heap.size + 1 + 1]? = some (.cells (rfx (z : Int) wr.heap.size (wr.heap.size + 1)).cells.toArray 46 (0, 0)) := by
          have h := heap_alloc_new ((wr.alloc (.cells ((rixs (z : Int)).flatMap Ix.cells).toArray 40)).alloc (.cells #[.slice (some ⟨wr.heap.size, 0, none⟩) 2 2] 43)) (.cells (rfx (z : Int) wr.heap.size (wr.heap.size + 1)).cells.toArray 46)
          simpa using h
        generalize ((wr.alloc (.cells ((rixs (z : Int)).flatMap Ix.cells).toArray 40)).alloc (.cells #[.slice (some ⟨wr.heap.size, 0, none⟩) 2 2] 43)).alloc (.cells (rfx (z : Int) wr.heap.size (wr.heap.size + 1)).cells.toArray 46) = w2 at hk2 q0 q1 q2 ⊢
        obtain ⟨IB, hIB⟩ : ∃ q, wr.heap.size = q := ⟨_, rfl⟩
        rw [hIB] at q0 q1 q2 ⊢
        have HQ := Lib.hid (And.intro q0 (And.intro q1 q2))
        have HK2 := Lib.hid hk2
        have HO2 : Hid (w2.ownsRow w.heap.size 46 6 (.slice fa i fc) i (fl.flatMap Fx.cells)) := Lib.hid (own_kept HR.out.own (fun q hq => hk2.block q (ownG_lt HR.out.own q hq) (fun e => e)))
        have hs2 : w.heap.size ≤ w2.heap.size := Nat.le_trans HR.out.kp.size hk2.size
        have HIB := Lib.hid hIB
        clear q0 q1 q2 hk2 hIB
        refine wpList_appF _ rfl (.tmp 21) (.tmp 29) rfl w.heap.size (.slice fa i fc) i fl (rfx (z : Int) IB (IB + 1)) (IB + 1 + 1) rfl HO2.out rfl HQ.out.2.2 (by omega) hs2 ?_
        intro g' cap w4 ho hg4
        have hk4 : Keeps (fun q => (Value.slice fa i fc).ownBlock = some q) w2 w4 := (Keeps.refl _ _).grown hg4 (fun q e => .inl e)
        have hty : ∀ q, (Value.slice fa i fc).ownBlock = some q → ∃ cs, w2.heap[q]? = some (.cells cs 46 (0, 0)) := fun q e => own_typ HO2.out e
        have hV2 := (HK2.out.block VB (Array.getElem?_eq_some_iff.1 HR.out.row).1 (fun e => e)).trans HR.out.row
        have hV4 := (hk4.block VB (Array.getElem?_eq_some_iff.1 hV2).1 (fun e => by obtain ⟨cs, hc⟩ := hty VB e; exact ne_type hV2 hc (by decide) rfl)).trans hV2
        have hA2 := (HK2.out.block AB (Array.getElem?_eq_some_iff.1 HA.out).1 (fun e => e)).trans HA.out
        have hA4 := (hk4.block AB (Array.getElem?_eq_some_iff.1 hA2).1 (fun e => by obtain ⟨cs, hc⟩ := hty AB e; exact ne_type hA2 hc (by decide) rfl)).trans hA2
        have hs := setC w4 ⟨VB, 1, none⟩ (.slice (some ⟨g', 0, none⟩) (i + 1) cap)
        have HA5 : Hid ((w4.setCell ⟨VB, 1, none⟩ (.slice (some ⟨g', 0, none⟩) (i + 1) cap)).heap[AB]? = some (.cells #[.slice none 0 0, .slice none 0 0, .int .i64 0] 26 (0, 0))) := Lib.hid ((hs.block AB (Array.getElem?_eq_some_iff.1 hA4).1 (fun e => by have := HAB.out.1; simp only at e; omega)).trans hA4)
        have HR5 : Hid (RG w (w4.setCell ⟨VB, 1, none⟩ (.slice (some ⟨g', 0, none⟩) (i + 1) cap)) VB m b (i + 1) (some ⟨g', 0, none⟩) cap (fl ++ [rfx (z : Int) IB (IB + 1)])) := Lib.hid (by
          have kk : ∀ {q : Nat} {cs : Array Value} {t : TypeId}, w2.heap[q]? = some (.cells cs t (0, 0)) → t ≠ 46 → t ≠ 26 → (w4.setCell ⟨VB, 1, none⟩ (.slice (some ⟨g', 0, none⟩) (i + 1) cap)).heap[q]? = some (.cells cs t (0, 0)) := fun {q cs t} hq h1 h2 => by
            have hq4 := (hk4.block q (Array.getElem?_eq_some_iff.1 hq).1 (fun e => by obtain ⟨c2, hc⟩ := hty q e; exact ne_type hq hc h1 rfl)).trans hq
            exact (hs.block q (Array.getElem?_eq_some_iff.1 hq4).1 (fun e => ne_type hq4 hV4 h2 e)).trans hq4
          refine ⟨((HR.out.kp.trans HK2.out (fun _ _ e => e)).trans hk4 (fun q hq e => by have := ownG_lo HO2.out q e; omega)).trans hs (fun q hq e => by have := HR.out.lo; simp only at e; omega), HR.out.lo, ?_, ?_, by rw [List.length_append, HR.out.len]; rfl, fun j hj => ?_⟩
          · rw [heap_setCell_same w4 VB 1 _ _ _ hV4]; rfl
          · exact own_kept ho (fun q hq => hs.block q (ownG_lt ho q hq) (fun e => by obtain ⟨cs, hc⟩ := own_typ ho hq; exact ne_type hV4 hc (by decide) e.symm))
          · by_cases hji : j < i
            · obtain ⟨ib, bb, f1, f2, f3⟩ := HR.out.fl_ j hji
              refine ⟨ib, bb, by rw [List.getElem?_append_left (by rw [HR.out.len]; exact hji)]; exact f1, ?_, ?_⟩
              · exact kk ((HK2.out.block ib (Array.getElem?_eq_some_iff.1 f2).1 (fun e => e)).trans f2) (by decide) (by decide)
              · exact kk ((HK2.out.block bb (Array.getElem?_eq_some_iff.1 f3).1 (fun e => e)).trans f3) (by decide) (by decide)
            · obtain rfl : j = i := by omega
              rw [HZ.out]
              exact ⟨IB, IB + 1, by rw [List.getElem?_append_right (by rw [HR.out.len]; exact Nat.le_refl _), HR.out.len, Nat.sub_self]; rfl, kk HQ.out.1 (by decide) (by decide), kk HQ.out.2.1 (by decide) (by decide)⟩)
        have c4 : w4.cell? ⟨VB, 1, none⟩ = some (.slice fa i fc) := by rw [cell_of_row w4 VB 1 _ _ _ hV4]; rfl
        have f4 : w4.frozen? ⟨VB, 1, none⟩ = false := frozen_of_row w4 VB 1 _ _ hV4
        clear ho hg4 hk4 hty hV2 hV4 hA2 hA4 hs HQ HK2 HO2 hs2 cv
        go_wp2_with fail
        go_roundg (m - (i + 1))
        case rel => exact ⟨i + 1, _, _, _, by rw [HI1.out]; try rw [hlast], by omega, rfl, HR5, HA5⟩
        case measure => omega
    · obtain rfl : i = m := by omega
      have hlt' : ¬ (i : Int) < (i : Int) := by omega
      have v0 : wr.cell? ⟨VB, 0, none⟩ = some (.slice none 0 0) := by rw [cell_of_row wr VB 0 _ _ _ HR.out.row]; rfl
      have v1 : wr.cell? ⟨VB, 1, none⟩ = some (.slice fa i fc) := by rw [cell_of_row wr VB 1 _ _ _ HR.out.row]; rfl
      have v2 : wr.cell? ⟨VB, 2, none⟩ = some (.int .i64 0) := by rw [cell_of_row wr VB 2 _ _ _ HR.out.row]; rfl
      have a0 : wr.cell? ⟨AB, 0, none⟩ = some (.slice none 0 0) := by rw [cell_of_row wr AB 0 _ _ _ HA.out]; rfl
      have a1 : wr.cell? ⟨AB, 1, none⟩ = some (.slice none 0 0) := by rw [cell_of_row wr AB 1 _ _ _ HA.out]; rfl
      have a2 : wr.cell? ⟨AB, 2, none⟩ = some (.int .i64 0) := by rw [cell_of_row wr AB 2 _ _ _ HA.out]; rfl
      have z0 : wr.frozen? ⟨AB, 0, none⟩ = false := frozen_of_row wr AB 0 _ _ HA.out
      have z1 : wr.frozen? ⟨AB, 1, none⟩ = false := frozen_of_row wr AB 1 _ _ HA.out
      have z2 : wr.frozen? ⟨AB, 2, none⟩ = false := frozen_of_row wr AB 2 _ _ HA.out
      go_wp2_with fail
      obtain ⟨hk3, hr3⟩ := three_set (a := .slice none 0 0) (b := .slice fa i fc) (c := .int .i64 0) HA.out
      generalize ((wr.setCell ⟨AB, 0, none⟩ (.slice none 0 0)).setCell ⟨AB, 1, none⟩ (.slice fa i fc)).setCell ⟨AB, 2, none⟩ (.int .i64 0) = w3 at hk3 hr3 ⊢
      have t0 : w3.cell? ⟨AB, 0, none⟩ = some (.slice none 0 0) := by rw [cell_of_row w3 AB 0 _ _ _ hr3]; rfl
      have t1 : w3.cell? ⟨AB, 1, none⟩ = some (.slice fa i fc) := by rw [cell_of_row w3 AB 1 _ _ _ hr3]; rfl
      have t2 : w3.cell? ⟨AB, 2, none⟩ = some (.int .i64 0) := by rw [cell_of_row w3 AB 2 _ _ _ hr3]; rfl
      obtain ⟨h1, h2⟩ := HR.out.ring hm hb
      refine bodyPost_ret (v := .agg #[.slice none 0 0, .slice fa i fc, .int .i64 0]) (by simp [results, Tryd.results6, go_sem, t0, t1, t2]) rfl ⟨_, rfl, h1, ?_, HR.out.kp.trans hk3 (fun q hq e => by have := HAB.out.2; omega)⟩
      have hb2 : ∀ (q : Nat) (cs : Array Value) (t : TypeId), wr.heap[q]? = some (Obj.cells cs t (0, 0)) → t ≠ 26 → w3.heap[q]? = some (Obj.cells cs t (0, 0)) := fun q cs t hq ht => (hk3.block q (Array.getElem?_eq_some_iff.1 hq).1 (ne_type hq HA.out ht)).trans hq
      have hR3 : RG w w3 VB i b i fa fc fl := ⟨HR.out.kp.trans hk3 (fun q hq e => by have := HAB.out.2; omega), HR.out.lo, (hk3.block VB (Array.getElem?_eq_some_iff.1 HR.out.row).1 (fun e => by have := HAB.out.1; omega)).trans HR.out.row, own_kept HR.out.own (fun q hq => hk3.block q (ownG_lt HR.out.own q hq) (fun e => by obtain ⟨cs, hc⟩ := own_typ HR.out.own hq; exact ne_type HA.out hc (by decide) e.symm)), HR.out.len, fun j hj => by
        obtain ⟨ib, bb, f1, f2, f3⟩ := HR.out.fl_ j hj
        exact ⟨ib, bb, f1, hb2 _ _ _ f2 (by decide), hb2 _ _ _ f3 (by decide)⟩⟩
      exact (hR3.ring hm hb).2
end Go.Proofs.YtkiimljdoebclaaDoor
