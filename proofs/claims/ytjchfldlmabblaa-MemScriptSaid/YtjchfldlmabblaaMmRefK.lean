/- The document's memory: Add. -/
import Derived.Test.YtjchfldlmabblaaMmRefJ
import Derived.Test.YtjchfldlmabblaaMix
namespace Go.Proofs.Ytjchfldlmabblaa
open Go.RowKit Go.Maps
set_option linter.unusedVariables false
set_option linter.unusedSimpArgs false

theorem infoR6 : cellInfo 36 := by unfold cellInfo; kernel_rfl
theorem infoV6 : (Try.prog.info? 42).map (fun i => (i.zero, i.size, i.bytes)) = some (some (.agg #[.int .i64 0, .int .i64 0, .int .i64 0, .int .i64 0]), 4, 32) := by kernel_rfl
theorem infoB6 : (Try.prog.info? 59).map (fun i => (i.zero, i.size, i.bytes)) = some (some (.agg #[.int .i64 0, .slice none 0 0, .slice none 0 0, .bool false]), 4, 64) := by kernel_rfl
theorem made_zero (n : Nat) : (madeCells (Value.agg #[.int .i64 0, .int .i64 0, .int .i64 0, .int .i64 0]).cells (n * 4)).toList = vrow (List.replicate n v0) := by
  have e : (Value.agg #[.int .i64 0, .int .i64 0, .int .i64 0, .int .i64 0]).cells = #[.int .i64 0, .int .i64 0, .int .i64 0, .int .i64 0] := by kernel_rfl
  rw [e]
  have hv : vrow (List.replicate n v0) = List.replicate (n * 4) (.int .i64 0) := by
    induction n with
    | zero => rfl
    | succ n ih => unfold vrow at *; rw [List.replicate_succ, List.flatMap_cons, ih, show (n + 1) * 4 = n * 4 + 1 + 1 + 1 + 1 by omega, List.replicate_succ, List.replicate_succ, List.replicate_succ, List.replicate_succ]; rfl
  rw [hv]
  apply List.ext_getElem?
  intro j
  by_cases hj : j < n * 4
  · have h4 : j % 4 < 4 := Nat.mod_lt _ (by decide)
    rw [List.getElem?_replicate, if_pos hj]
    simp only [madeCells, Array.getElem?_toList, Array.getElem?_map]
    rw [Array.getElem?_range, if_pos hj]
    simp only [Option.map_some, Option.some.injEq]
    have : j % 4 = 0 ∨ j % 4 = 1 ∨ j % 4 = 2 ∨ j % 4 = 3 := by omega
    show (#[Value.int .i64 0, .int .i64 0, .int .i64 0, .int .i64 0])[j % 4]! = _
    rcases this with e | e | e | e <;> rw [e] <;> rfl
  · rw [List.getElem?_eq_none (by rw [Array.length_toList, size_madeCells]; omega), List.getElem?_eq_none (by simp; omega)]
/-- A world that is w0 but for blocks of S, and new ones. -/
structure KS (S : Nat → Prop) (w0 : World) where
  W : World
  h : Keeps S w0 W
theorem KS.cell {S : Nat → Prop} {w0 : World} (u : KS S w0) {p : Addr} {v : Value} (h : w0.cell? p = some v) (hp : ¬ S p.block) : u.W.cell? p = some v := by
  have hb := u.h.block p.block (World.block_lt_of_cell? w0 p h) hp
  unfold World.cell? at h ⊢; rw [hb]; exact h
/-- Add's own block, while its cells are laid. -/
structure Bld (w0 w : World) (H : Nat) (z : Int) (c : List Ck) (ca : Option Addr) (cc : Nat) : Prop where
  k : Keeps No w0 w
  a : w.heap[H]? = some (.cells #[.int .i64 z, .slice ca c.length cc, .slice none 0 0, .bool true] 59 (0, 0))
  o : w.ownsRow (H + 1) 36 2 (.slice ca c.length cc) c.length (crow c)
  ck : ∀ t ∈ c, ckOk t
  up : c.Pairwise (fun a b => a.1 < b.1)
  h0 : w0.heap.size = H
theorem Bld.drewN {w0 w : World} {H : Nat} {z : Int} {c : List Ck} {ca : Option Addr} {cc : Nat} (h : Bld w0 w H z c ca cc) (m : Nat) : Bld w0 (w.drewN m) H z c ca cc :=
  ⟨h.k.drewN m, h.a, h.o, h.ck, h.up, h.h0⟩
theorem Bld.c {w0 w : World} {H : Nat} {z : Int} {c : List Ck} {ca : Option Addr} {cc : Nat} (h : Bld w0 w H z c ca cc) : w.cell? ⟨H, 1, none⟩ = some (.slice ca c.length cc) ∧ ∀ o, w.frozen? ⟨H, o, none⟩ = false :=
  ⟨by simp [World.cell?, h.a], fun o => by simp [World.frozen?, h.a]⟩
theorem Bld.at_ {w0 w : World} {H : Nat} {z : Int} {c : List Ck} {ca : Option Addr} {cc : Nat} (h : Bld w0 w H z c ca cc) {i : Nat} {x : Ck} (hi : c[i]? = some x) : ∃ g, ca = some ⟨g, 0, none⟩ ∧ w.cell? ⟨g, i * 2, none⟩ = some (.int .i64 x.1) ∧ w.cell? ⟨g, i * 2 + 1, none⟩ = some (.string x.2) := by
  have hl : i < c.length := (List.getElem?_eq_some_iff.1 hi).1
  obtain ⟨aa, cap, he, hg⟩ := own_form h.o
  injection he with e1 e2 e3
  obtain ⟨g, hgg⟩ := hg (by omega)
  obtain ⟨r1, r2⟩ := crow_get c i x hi
  have hco := h.o
  rw [e1, hgg] at hco
  exact ⟨g, e1.trans hgg, (hco.cellAt (i * 2) (by omega)).trans r1, (hco.cellAt (i * 2 + 1) (by omega)).trans r2⟩
theorem CellsIn.get {W : World} {a : Option Addr} {n : Nat} {l : List Ck} (h : CellsIn W a n l) {i : Nat} (hi : i < n) : ∃ (x : Ck) (b off : Nat), l[i]? = some x ∧ a = some ⟨b, off, none⟩ ∧ W.cell? ⟨b, off + i * 2, none⟩ = some (.int .i64 x.1) ∧ W.cell? ⟨b, off + i * 2 + 1, none⟩ = some (.string x.2) ∧ ckOk x ∧ b < W.heap.size := by
  obtain ⟨b, off, e, hc⟩ := h.at_ (by omega)
  obtain ⟨x, hx⟩ : ∃ x, l[i]? = some x := ⟨_, List.getElem?_eq_getElem (by rw [h.len]; exact hi)⟩
  obtain ⟨c1, c2⟩ := hc i x hx
  exact ⟨x, b, off, hx, e, c1, c2, h.bd x (List.mem_of_getElem? hx), block_lt_of_cell c1⟩
/-- A cell has been laid into the row. -/
theorem Bld.ins {w0 w w5 : World} {H : Nat} {z : Int} {c : List Ck} {ca : Option Addr} {cc k g cap : Nat} {x : Ck} (h : Bld w0 w H z c ca cc) (hk : Keeps (fun q => (Value.slice ca c.length cc).ownBlock = some q) w w5) (hkl : k ≤ c.length) (hx : ckOk x)
    (h1 : ∀ (j : Nat) (y : Ck), j < k → c[j]? = some y → y.1 < x.1) (h2 : ∀ (j : Nat) (y : Ck), k ≤ j → c[j]? = some y → x.1 < y.1)
    (ho : w5.ownsRow (H + 1) 36 2 (.slice (some ⟨g, 0, none⟩) (c.length + 1) cap) (c.length + 1) (crow (insAt c k x))) :
    Bld w0 (w5.setCell ⟨H, 1, none⟩ (.slice (some ⟨g, 0, none⟩) (c.length + 1) cap)) H z (insAt c k x) (some ⟨g, 0, none⟩) cap := by
  have hso : ∀ q, (Value.slice ca c.length cc).ownBlock = some q → H + 1 ≤ q := fun q e => (h.o.lt q e).1
  have ha := hk.block H (Array.getElem?_eq_some_iff.1 h.a).1 (fun e => by have := hso H e; omega)
  rw [h.a] at ha
  refine ⟨((h.k.trans hk (T := _) (fun q hq e => by have := hso q e; have := h.h0; omega))).setCell (.inr (by show w0.heap.size ≤ H; rw [h.h0]; exact Nat.le_refl _)) _, ?_, ?_, fun t ht => ?_, insAt_up h.up hkl h1 h2, h.h0⟩
  · rw [insAt_len c x hkl]
    simp [World.setCell, Array.getElem?_modify, ha]
  · rw [insAt_len c x hkl]
    exact ownsRow_setCell_below ho (by show H < H + 1; omega) _
  · rcases insAt_mem.1 ht with ht | rfl
    · exact h.ck t ht
    · exact hx
theorem Rel.zero {c : List Ck} {pl : List (Int × Int)} {cl : List (Ck × Int)} (h : Rel c pl cl) {k : Nat} {X : Int} (h1 : ∀ (j : Nat) (y : Ck), j < k → c[j]? = some y → y.1 < X) (h2 : ∀ (j : Nat) (y : Ck), k ≤ j → c[j]? = some y → X < y.1) : (kget pl X).getD 0 = 0 := by
  by_cases e : (kget pl X).getD 0 = 0
  · exact e
  · obtain ⟨y, hy, hyx⟩ := (h.p X).1 e
    obtain ⟨j, hj⟩ := List.getElem?_of_mem hy
    rcases Nat.lt_or_ge j k with h | h
    · have := h1 j y h hj; omega
    · have := h2 j y h hj; omega
theorem crow_one (l : List Ck) : ∀ u ∈ crow l, u.oneCell' = true := by
  intro u hu
  unfold crow at hu
  obtain ⟨x, _, hx⟩ := List.mem_flatMap.1 hu
  simp at hx; rcases hx with rfl | rfl <;> rfl
/-- Cells are appended, at the operation. -/
theorem wpList_appN (w : World) {ops : Array Oper} {rest : List Oper} {o : Oper} {a : Act} {Q : Exit → Act → World → Prop} (hgd : o.guard = none) (s x : Operand) (t e : TypeId)
    (ho : o.op = .call { callee := .builtin .append, args := #[s, x], argTypes := #[t, t] }) (ht : Try.prog.underlying t = some (.slice e)) (hinf : cellInfo e)
    (B : Nat) (v : Value) (n : Nat) (l1 l2 : List Ck) (g off m c T : Nat) (hT : n + m = T) (hs : a.eval s = v) (hown : w.ownsRow B e 2 v n (crow l1)) (hx : a.eval x = .slice (some ⟨g, off, none⟩) m c) (hl : l2.length = m) (hm : 0 < m) (hc : ∀ j u, (crow l2)[j]? = some u → w.cell? ⟨g, off + j, none⟩ = some u)
    (hn : n + m ≤ 1000000) (hB : B ≤ w.heap.size)
    (h : ∀ g' cap w', w'.ownsRow B e 2 (.slice (some ⟨g', 0, none⟩) T cap) T (crow (l1 ++ l2)) → w.grownBy w' v.ownBlock → wpList Try.prog ops Q rest (a.put o.dst (.slice (some ⟨g', 0, none⟩) T cap)) w') : wpList Try.prog ops Q (o :: rest) a w := by
  subst hT
  obtain ⟨i0, hi, hz0, hz1, hz2⟩ := info_parts hinf
  refine wpList_append_lies w hgd s x t ho B e i0 (.agg #[.int .i64 0, .string ⟨#[]⟩]) 2 24 ht hi hz0 hz1 hz2 rfl (by decide) v n (crow l1) hs hown ⟨g, off, none⟩ m c (crow l2) hx (by rw [crow_len, hl]) (fun j u hu => ?_) (crow_one l2) hm (by unfold maxLen; omega) (by omega) hB _ rfl (fun g' cap w' k1 k2 k3 _ => h g' cap w' (by rw [crow_app]; exact k1) k2)
  have := hc j u hu
  have e : (⟨g, off, none⟩ : Addr).add j = ⟨g, off + j, none⟩ := by unfold Addr.add; split <;> simp_all
  rw [e]; exact this
theorem below_q {c : List Ck} {q : Nat} {X Y : Int} {T : ByteArray} (hu : c.Pairwise (fun a b => a.1 < b.1)) (hq : c[q]? = some (Y, T)) (h1 : ¬ X < Y) (h2 : ¬ Y = X) (j : Nat) (y : Ck) (hj : j < q + 1) (e : c[j]? = some y) : y.1 < X := by
  by_cases hjq : j = q
  · subst hjq; rw [hq] at e; injection e with e; rw [← e]; simp only; omega
  · have := up_lt hu e hq (by omega); simp only at this; omega
theorem insAt_end (c : List Ck) (x : Ck) : insAt c c.length x = c ++ [x] := by unfold insAt; simp
theorem Bld.row {w0 w : World} {H : Nat} {z : Int} {c : List Ck} {ca : Option Addr} {cc : Nat} (h : Bld w0 w H z c ca cc) {g : Nat} (hg : ca = some ⟨g, 0, none⟩) : (∀ (j : Nat) (u : Value), (crow c)[j]? = some u → w.cell? ⟨g, j, none⟩ = some u) ∧ c.length ≤ cc ∧ cc ≤ maxLen := by
  have hco := h.o
  rw [hg] at hco
  refine ⟨fun j u hu => ?_, ?_⟩
  · have hj : j < c.length * 2 := by have := (List.getElem?_eq_some_iff.1 hu).1; rw [crow_len] at this; exact this
    exact (hco.cellAt j hj).trans hu
  · rcases hco.2 with ⟨h', _⟩ | ⟨g', cap', cur, h', _, _, h1, h2, _⟩
    · cases h'
    · injection h' with _ _ e; subst e; exact ⟨h1, h2⟩
set_option maxRecDepth 100000 in
set_option maxHeartbeats 3200000 in
theorem radd_any (B : Nat) (R : Rd) (z : Int) (a : Option Addr) (n cap : Nat) (l : List Ck) (w : World) (h : RefAs B w R) (hl : CellsIn w a n l) (hn : n ≤ 500) (hz : I64 z) (hlt : R.bs.length < 1000) :
    Calls Try.prog 10 #[.pointer (some ⟨R.r, 0, none⟩), .int .i64 z, .slice a n cap] w fun e w' => e = .returned (.int .i64 (R.bs.length : Int)) ∧ ∃ R', RDone B w R (setV R.view (R.bs.length : Int) (newV z (addM l [] []))) (R.bs.length + 1) w' R' := by
  have HH := Lib.hid h
  have HL := Lib.hid hl
  clear h hl
  obtain ⟨Z, hN⟩ : ∃ Z, (if z < 1 then 1 else z) = Z := ⟨_, rfl⟩
  go_enter Try.func10, Try.ntmps10
  go_wp2_with fail
  have HZ := Lib.hid hN
  have HZI := Lib.hid hz
  have HLT := Lib.hid hlt
  clear hN hz
  go_loopg [8] n (fun g v wr => ∃ (i : Nat) (c : List Ck) (ca : Option Addr) (cc : Nat) (pl : List (Int × Int)) (cl : List (Ck × Int)), v = .int .i64 (i : Int) ∧ i ≤ n ∧ g = n - i ∧ c.length ≤ i ∧ Hid (Bld w wr w.heap.size Z c ca cc) ∧ Hid (Rel c pl cl) ∧ Hid (addM l [] [] = addM (l.drop i) pl cl))
  case atStart => exact ⟨0, [], none, 0, [], [], rfl, Nat.zero_le _, rfl, Nat.le_refl _, Lib.hid ⟨(by repeat (first | with_reducible exact Keeps.refl _ _ | with_reducible refine Keeps.alloc ?_ _ | with_reducible refine Keeps.drewN ?_ _ | with_reducible refine Keeps.drew ?_ | with_reducible refine Keeps.setCell ?_ (.inr (by simp)) _ | with_reducible refine Keeps.setRow ?_ (by simp) _)), heap_alloc_new _ _, World.ownsRow_nil _ _ _ _, (fun t ht => by cases ht), List.Pairwise.nil, rfl⟩, Lib.hid rel_nil, Lib.hid rfl⟩
  case round =>
    obtain ⟨i, c, ca, cc, pl, cl, rfl, hi, hg, hcl, HB, HR, HX⟩ := hrel
    by_cases hlt : i < n
    · have hlt' : (i : Int) < (n : Int) := by omega
      have i0 : (0 : Int) ≤ (i : Int) := by omega
      obtain ⟨x, b, off, hx, rfl, q1, q2, hxo, qb⟩ := HL.out.get hlt
      obtain ⟨f1, ff⟩ := HB.out.c
      have HXL := Lib.hid hx
      have HXO := Lib.hid hxo
      have HQB := Lib.hid qb
      obtain ⟨X, S⟩ := x
      simp only at q1 q2
      have HQ1 := Lib.hid q1
      have HQ2 := Lib.hid q2
      have k1 := HB.out.k.cell q1
      have k2 := HB.out.k.cell q2
      clear q1 q2 qb
      obtain ⟨N, hN⟩ : ∃ N, c.length = N := ⟨_, rfl⟩
      have hN5 : N ≤ 500 := by omega
      have hNi : N ≤ i := by omega
      rw [hN] at f1
      have HN := Lib.hid hN
      clear hx hxo hN
      go_wp2_with fail
      go_loopg [9] N (fun g v wx => ∃ k m : Nat, v = .int .i64 (k : Int) ∧ k ≤ N ∧ g = k ∧ Hid (∀ (j : Nat) (y : Ck), k ≤ j → c[j]? = some y → X < y.1) ∧ wr.drewN m = wx)
      case atStart => exact ⟨N, 0, rfl, Nat.le_refl _, rfl, Lib.hid (fun j y hj e => by have := (List.getElem?_eq_some_iff.1 e).1; have := HN.out; omega), rfl⟩
      case round =>
        obtain ⟨k, m, rfl, hk, hg2, HG, rfl⟩ := hrel
        by_cases hk0 : k = 0
        · subst hk0
          rw [show (((0 : Nat) : Int)) = 0 from rfl]
          by_cases hN0 : N = 0
          · have e1 : ((0 : Int) == (N : Int)) = true := by rw [beq_iff_eq]; omega
            have HQN := Lib.hid hN0
            have HG1 : Hid (∀ (j : Nat) (y : Ck), j < 0 → c[j]? = some y → y.1 < X) := Lib.hid (fun j y hj => by omega)
            have HLE : Hid (0 ≤ c.length) := Lib.hid (Nat.zero_le _)
            clear hN0
            go_wp2_with fail
            go_quiet (fail)
            go_wp2_with fail
            go_quiet (fail)
            go_wp2_with fail
            generalize hW1 : wr.drewN _ = W1
            have HB1 : Hid (Bld w W1 w.heap.size Z c ca cc) := Lib.hid (by rw [← hW1]; exact HB.out.drewN _)
            clear hW1
            clear f1 ff k1 k2 
            have hso : ∀ q, (Value.slice ca c.length cc).ownBlock = some q → w.heap.size + 1 ≤ q := fun q e => (HB1.out.o.lt q e).1
            have hne : Nonempty (KS (fun q => (Value.slice ca c.length cc).ownBlock = some q) W1) := ⟨⟨W1, Keeps.refl _ _⟩⟩
            have j1 : ∀ u : KS (fun q => (Value.slice ca c.length cc).ownBlock = some q) W1, u.W.cell? ⟨b, off + i * 2, none⟩ = some (.int .i64 X) := fun u => u.cell (HB1.out.k.cell HQ1.out) (fun e => by have h1 : w.heap.size + 1 ≤ b := hso _ e; have := HQB.out; omega)
            have j2 : ∀ u : KS (fun q => (Value.slice ca c.length cc).ownBlock = some q) W1, u.W.cell? ⟨b, off + i * 2 + 1, none⟩ = some (.string S) := fun u => u.cell (HB1.out.k.cell HQ2.out) (fun e => by have h1 : w.heap.size + 1 ≤ b := hso _ e; have := HQB.out; omega)
            have j3 : ∀ u : KS (fun q => (Value.slice ca c.length cc).ownBlock = some q) W1, u.W.cell? ⟨w.heap.size, 1, none⟩ = some (.slice ca N cc) := fun u => u.cell (by rw [← HN.out]; exact HB1.out.c.1) (fun e => by have h1 : w.heap.size + 1 ≤ w.heap.size := hso _ e; omega)
            have HSO := Lib.hid hso
            clear hso
            refine Mix.wp_region_mix (fun W => ∃ u : KS (fun q => (Value.slice ca c.length cc).ownBlock = some q) W1, W = u.W) [9] (by kernel_rfl) ?_
            refine Mix.mix_seg 0 6 4 (by kernel_rfl) (by kernel_rfl) rfl rfl ⟨⟨W1.drew, (Keeps.refl _ _).drew⟩, rfl⟩ ?_
            simp only [List.drop_succ_cons, List.drop_zero, List.take_succ_cons, List.take_zero]
            repeat (go_big_quiet_step (fail))
            refine wpQuiet_nil ?_
            clear j1 j2 j3
            refine Mix.mix_one 6 3 (by kernel_rfl) rfl rfl ?_
            simp only [List.drop_succ_cons, List.drop_zero, List.take_succ_cons, List.take_zero]
            go_wp2_with fail
            refine ⟨.inr ⟨⟨_, ((Keeps.refl _ _).alloc _).drew⟩, rfl⟩, ?_⟩
            refine Mix.mix_one 7 2 (by kernel_rfl) rfl rfl ?_
            simp only [List.drop_succ_cons, List.drop_zero, List.take_succ_cons, List.take_zero]
            have HOW : Hid ((W1.alloc (Obj.cells #[.int .i64 X, .string S] 36)).drew.ownsRow (w.heap.size + 1) 36 2 (.slice ca N cc) N (crow c)) := Lib.hid (by rw [← HN.out]; exact HB1.out.o.alloc _)
            have HWS : Hid (w.heap.size + 1 ≤ W1.heap.size) := Lib.hid (Nat.succ_le_of_lt (Array.getElem?_eq_some_iff.1 HB1.out.a).1)
            refine wpList_app2 _ rfl (.tmp 64) (.tmp 69) 33 36 rfl Try.underlying33 infoR6 (w.heap.size + 1) (.slice ca N cc) N c X S W1.heap.size rfl HOW.out rfl (heap_alloc_new _ _) (by omega) (by have := HWS.out; simp; omega) _ rfl ?_
            intro g5 cap5 w5 hown5 hgr5 _
            have HO5 : Hid (w5.ownsRow (w.heap.size + 1) 36 2 (.slice (some ⟨g5, 0, none⟩) (N + 1) cap5) (N + 1) (crow (insAt c 0 (X, S)))) := Lib.hid (by rw [show crow (insAt c 0 (X, S)) = crow c ++ [.int .i64 X, .string S] by rw [show c = [] from List.eq_nil_of_length_eq_zero (HN.out.trans HQN.out)]; rfl]; exact hown5)
            have HK5 : Hid (Keeps (fun q => (Value.slice ca c.length cc).ownBlock = some q) W1 w5) := Lib.hid ((((Keeps.refl _ _).alloc _).drew).grown hgr5 (fun q e => .inl (by rw [HN.out]; exact e)))
            have HI5 := Lib.hid (HB1.out.ins (k := 0) HK5.out HLE.out HXO.out HG1.out HG.out (by rw [HN.out]; exact HO5.out))
            have HA5 := Lib.hid (HK5.out.block w.heap.size (by have := HWS.out; omega) (fun e => by have h1 : w.heap.size + 1 ≤ w.heap.size := HSO.out _ e; omega))
            have y1 : w5.cell? ⟨w.heap.size, 1, none⟩ = some (.slice ca N cc) := by unfold World.cell?; simp only; rw [HA5.out, HB1.out.a, ← HN.out]; rfl
            have y2 : w5.frozen? ⟨w.heap.size, 1, none⟩ = false := by unfold World.frozen?; simp only; rw [HA5.out, HB1.out.a]; rfl
            clear hown5 hgr5
            go_wp2_with fail
            refine ⟨.inr ⟨⟨w5, HK5.out⟩, rfl⟩, ?_⟩
            refine Mix.mix_seg 8 1 1 (by kernel_rfl) (by kernel_rfl) rfl rfl ⟨⟨w5, HK5.out⟩, rfl⟩ ?_
            simp only [List.drop_succ_cons, List.drop_zero, List.take_succ_cons, List.take_zero]
            repeat (go_big_quiet_step (fail))
            refine wpQuiet_nil ?_
            refine Mix.mix_one 9 0 (by kernel_rfl) rfl rfl ?_
            simp only [List.drop_succ_cons, List.drop_zero, List.take_succ_cons, List.take_zero]
            go_wp2_with fail
            refine ⟨.inl ⟨rfl, rfl⟩, Mix.mix_end (by kernel_rfl) ?_⟩
            clear y1 y2
            go_wp2_with fail
            go_roundg (n - (i + 1))
            case rel => exact ⟨i + 1, insAt c 0 (X, S), some ⟨g5, 0, none⟩, cap5, kput pl X 1, kput cl (X, S) 1, by go_num, by omega, rfl, (by rw [insAt_len _ _ HLE.out]; omega), Lib.hid (by have h := HI5.out; rw [HN.out] at h; exact h), Lib.hid (HR.out.ins _ _), Lib.hid (by rw [HX.out, addM_step HXL.out, if_pos (HR.out.zero HG1.out HG.out)])⟩
            case measure => omega
          · have e1 : ((0 : Int) == (N : Int)) = false := by rw [beq_eq_false_iff_ne]; omega
            have HG1 : Hid (∀ (j : Nat) (y : Ck), j < 0 → c[j]? = some y → y.1 < X) := Lib.hid (fun j y hj => by omega)
            have HLE : Hid (0 ≤ c.length) := Lib.hid (Nat.zero_le _)
            obtain ⟨y, hy⟩ : ∃ y, c[0]? = some y := ⟨_, List.getElem?_eq_getElem (by have := HN.out; omega)⟩
            obtain ⟨g, hca, r1, r2⟩ := HB.out.at_ hy
            clear hy
            subst hca
            go_wp2_with fail
            go_quiet (fail)
            go_wp2_with fail
            go_quiet (fail)
            go_wp2_with fail
            generalize hW1 : wr.drewN _ = W1
            have HB1 : Hid (Bld w W1 w.heap.size Z c (some ⟨g, 0, none⟩) cc) := Lib.hid (by rw [← hW1]; exact HB.out.drewN _)
            clear hW1
            clear f1 ff k1 k2 r1 r2
            have hne : Nonempty (KW W1) := ⟨KW.of _⟩
            have j1 : ∀ u : KW W1, u.W.cell? ⟨b, off + i * 2, none⟩ = some (.int .i64 X) := fun u => u.cell (HB1.out.k.cell HQ1.out)
            have j2 : ∀ u : KW W1, u.W.cell? ⟨b, off + i * 2 + 1, none⟩ = some (.string S) := fun u => u.cell (HB1.out.k.cell HQ2.out)
            have j3 : ∀ u : KW W1, u.W.cell? ⟨w.heap.size, 1, none⟩ = some (.slice (some ⟨g, 0, none⟩) N cc) := fun u => u.cell (by rw [← HN.out]; exact HB1.out.c.1)
            have HWS : Hid (w.heap.size + 1 ≤ W1.heap.size) := Lib.hid (Nat.succ_le_of_lt (Array.getElem?_eq_some_iff.1 HB1.out.a).1)
            have HRW := Lib.hid (fun (W : World) (hk : Keeps No W1 W) j u (hj : (crow c)[j]? = some u) => hk.cell ((HB1.out.row rfl).1 j u hj))
            obtain ⟨_, hNc, hcm⟩ := HB1.out.row rfl
            rw [HN.out] at hNc
            unfold maxLen at hcm
            have hN1 : 0 < N := by omega
            have hN2 : (0 : Int) < (N : Int) := by omega
            have hN3 : (0 : Int) < (cc : Int) := by omega
            refine Mix.wp_region_mix (fun W => ∃ u : KW W1, W = u.W) [17] (by kernel_rfl) ?_
            refine Mix.mix_seg 0 4 14 (by kernel_rfl) (by kernel_rfl) rfl rfl ⟨⟨W1.drew, (Keeps.refl _ _).drew⟩, rfl⟩ ?_
            simp only [List.drop_succ_cons, List.drop_zero, List.take_succ_cons, List.take_zero]
            repeat (go_big_quiet_step (fail))
            refine wpQuiet_nil ?_
            refine Mix.mix_seg 5 4 10 (by kernel_rfl) (by kernel_rfl) rfl rfl ⟨⟨W1.drew, (Keeps.refl _ _).drew⟩, rfl⟩ ?_
            simp only [List.drop_succ_cons, List.drop_zero, List.take_succ_cons, List.take_zero]
            repeat (go_big_quiet_step (fail))
            refine wpQuiet_nil ?_
            refine Mix.mix_seg 11 4 6 (by kernel_rfl) (by kernel_rfl) rfl rfl ⟨⟨W1.drew, (Keeps.refl _ _).drew⟩, rfl⟩ ?_
            simp only [List.drop_succ_cons, List.drop_zero, List.take_succ_cons, List.take_zero]
            repeat (go_big_quiet_step (fail))
            refine wpQuiet_nil ?_
            clear j1 j2 j3
            refine Mix.mix_two 4 9 5 (by kernel_rfl) rfl rfl rfl ?_ ?_
            all_goals simp only [List.drop_succ_cons, List.drop_zero, List.take_succ_cons, List.take_zero]
            · go_wp2_with fail
              refine ⟨.inr ⟨⟨_, (Keeps.refl _ _).drew⟩, rfl⟩, ?_⟩
              refine Mix.mix_one 9 4 (by kernel_rfl) rfl rfl ?_
              simp only [List.drop_succ_cons, List.drop_zero, List.take_succ_cons, List.take_zero]
              go_wp2_with fail
              refine ⟨.inr ⟨⟨_, ((Keeps.refl _ _).alloc _).drew⟩, rfl⟩, ?_⟩
              have HK2 : Hid (Keeps No W1 (W1.alloc (Obj.cells #[.int .i64 X, .string S] 36)).drew) := Lib.hid (((Keeps.refl _ _).alloc _).drew)
              have HO2 : Hid ((W1.alloc (Obj.cells #[.int .i64 X, .string S] 36)).drew.ownsRow W1.heap.size 36 2 (.slice none 0 0) 0 (crow (c.take 0))) := Lib.hid (World.ownsRow_nil _ _ _ _)
              have HA2 : Hid ((W1.alloc (Obj.cells #[.int .i64 X, .string S] 36)).drew.heap[W1.heap.size]? = some (.cells #[.int .i64 X, .string S] 36 (0, 0))) := Lib.hid (heap_alloc_new _ _)
              refine Mix.mix_one 10 3 (by kernel_rfl) rfl rfl ?_
              simp only [List.drop_succ_cons, List.drop_zero, List.take_succ_cons, List.take_zero]
              refine wpList_app2 _ rfl (.tmp 76) (.tmp 81) 33 36 rfl Try.underlying33 infoR6 W1.heap.size _ 0 (c.take 0) X S _ rfl HO2.out rfl HA2.out (by omega) HK2.out.size _ rfl ?_
              intro g3 cap3 w3 ho3 hg3 _
              have HO3 : Hid (w3.ownsRow W1.heap.size 36 2 (.slice (some ⟨g3, 0, none⟩) (0 + 1) cap3) (0 + 1) (crow (c.take 0 ++ [(X, S)]))) := Lib.hid (by rw [crow_snoc]; exact ho3)
              have HK3 : Hid (Keeps No W1 w3) := Lib.hid (HK2.out.grown hg3 (fun q e => .inr (HO2.out.lt q e).1))
              clear ho3 hg3
              go_wp2_with fail
              refine ⟨.inr ⟨⟨w3, HK3.out⟩, rfl⟩, ?_⟩
              refine Mix.mix_one 15 2 (by kernel_rfl) rfl rfl ?_
              simp only [List.drop_succ_cons, List.drop_zero, List.take_succ_cons, List.take_zero]
              refine wpList_appN _ rfl (.tmp 82) (.tmp 86) 33 36 rfl Try.underlying33 infoR6 W1.heap.size (.slice (some ⟨g3, 0, none⟩) (0 + 1) cap3) (0 + 1) (c.take 0 ++ [(X, S)]) (c.drop 0) g 0 N cc (N + 1) (by omega) rfl HO3.out rfl (by rw [List.length_drop, HN.out]; try rfl) (by omega) (fun j u hj => ?_) (by omega) HK3.out.size ?_
              · rw [crow_drop, List.getElem?_drop] at hj
                exact HRW.out _ HK3.out _ u (by simpa using hj)
              intro g5 cap5 w5 ho5 hg5
              have HO5 : Hid (w5.ownsRow (w.heap.size + 1) 36 2 (.slice (some ⟨g5, 0, none⟩) (N + 1) cap5) (N + 1) (crow (insAt c 0 (X, S)))) := Lib.hid (own_mono ho5 HWS.out)
              have HK5 : Hid (Keeps No W1 w5) := Lib.hid (HK3.out.grown hg5 (fun q e => .inr (HO3.out.lt q e).1))
              have HI5 := Lib.hid (HB1.out.ins (k := 0) (HK5.out.mono (fun _ _ e => e.elim)) HLE.out HXO.out HG1.out HG.out (by rw [HN.out]; exact HO5.out))
              have HA5 := Lib.hid (HK5.out.block w.heap.size (by have := HWS.out; omega) (fun e => e))
              have y1 : w5.cell? ⟨w.heap.size, 1, none⟩ = some (.slice (some ⟨g, 0, none⟩) N cc) := by unfold World.cell?; simp only; rw [HA5.out, HB1.out.a, ← HN.out]; rfl
              have y2 : w5.frozen? ⟨w.heap.size, 1, none⟩ = false := by unfold World.frozen?; simp only; rw [HA5.out, HB1.out.a]; rfl
              clear ho5 hg5
              go_wp2_with fail
              refine ⟨.inr ⟨⟨w5, HK5.out⟩, rfl⟩, ?_⟩
              refine Mix.mix_seg 16 1 1 (by kernel_rfl) (by kernel_rfl) rfl rfl ⟨⟨w5, HK5.out⟩, rfl⟩ ?_
              simp only [List.drop_succ_cons, List.drop_zero, List.take_succ_cons, List.take_zero]
              repeat (go_big_quiet_step (fail))
              refine wpQuiet_nil ?_
              refine Mix.mix_one 17 0 (by kernel_rfl) rfl rfl ?_
              simp only [List.drop_succ_cons, List.drop_zero, List.take_succ_cons, List.take_zero]
              go_wp2_with fail
              refine ⟨.inl ⟨rfl, rfl⟩, Mix.mix_end (by kernel_rfl) ?_⟩
              clear y1 y2
              go_wp2_with fail
              go_roundg (n - (i + 1))
              case rel => exact ⟨i + 1, insAt c 0 (X, S), some ⟨g5, 0, none⟩, cap5, kput pl X 1, kput cl (X, S) 1, by go_num, by omega, rfl, (by rw [insAt_len _ _ HLE.out]; omega), Lib.hid (by have h := HI5.out; rw [HN.out] at h; exact h), Lib.hid (HR.out.ins _ _), Lib.hid (by rw [HX.out, addM_step HXL.out, if_pos (HR.out.zero HG1.out HG.out)])⟩
              case measure => omega
            · go_wp2_with fail
              refine ⟨.inr ⟨⟨_, ((Keeps.refl _ _).alloc _).drew⟩, rfl⟩, ?_⟩
              refine Mix.mix_one 4 4 (by kernel_rfl) rfl rfl ?_
              simp only [List.drop_succ_cons, List.drop_zero, List.take_succ_cons, List.take_zero]
              go_wp2_with fail
              refine ⟨.inr ⟨⟨_, ((Keeps.refl _ _).alloc _).drew⟩, rfl⟩, ?_⟩
              have HK2 : Hid (Keeps No W1 (W1.alloc (Obj.cells #[.int .i64 X, .string S] 36)).drew) := Lib.hid (((Keeps.refl _ _).alloc _).drew)
              have HO2 : Hid ((W1.alloc (Obj.cells #[.int .i64 X, .string S] 36)).drew.ownsRow W1.heap.size 36 2 (.slice none 0 0) 0 (crow (c.take 0))) := Lib.hid (World.ownsRow_nil _ _ _ _)
              have HA2 : Hid ((W1.alloc (Obj.cells #[.int .i64 X, .string S] 36)).drew.heap[W1.heap.size]? = some (.cells #[.int .i64 X, .string S] 36 (0, 0))) := Lib.hid (heap_alloc_new _ _)
              refine Mix.mix_one 10 3 (by kernel_rfl) rfl rfl ?_
              simp only [List.drop_succ_cons, List.drop_zero, List.take_succ_cons, List.take_zero]
              refine wpList_app2 _ rfl (.tmp 76) (.tmp 81) 33 36 rfl Try.underlying33 infoR6 W1.heap.size _ 0 (c.take 0) X S _ rfl HO2.out rfl HA2.out (by omega) HK2.out.size _ rfl ?_
              intro g3 cap3 w3 ho3 hg3 _
              have HO3 : Hid (w3.ownsRow W1.heap.size 36 2 (.slice (some ⟨g3, 0, none⟩) (0 + 1) cap3) (0 + 1) (crow (c.take 0 ++ [(X, S)]))) := Lib.hid (by rw [crow_snoc]; exact ho3)
              have HK3 : Hid (Keeps No W1 w3) := Lib.hid (HK2.out.grown hg3 (fun q e => .inr (HO2.out.lt q e).1))
              clear ho3 hg3
              go_wp2_with fail
              refine ⟨.inr ⟨⟨w3, HK3.out⟩, rfl⟩, ?_⟩
              refine Mix.mix_one 15 2 (by kernel_rfl) rfl rfl ?_
              simp only [List.drop_succ_cons, List.drop_zero, List.take_succ_cons, List.take_zero]
              refine wpList_appN _ rfl (.tmp 82) (.tmp 86) 33 36 rfl Try.underlying33 infoR6 W1.heap.size (.slice (some ⟨g3, 0, none⟩) (0 + 1) cap3) (0 + 1) (c.take 0 ++ [(X, S)]) (c.drop 0) g 0 N cc (N + 1) (by omega) rfl HO3.out rfl (by rw [List.length_drop, HN.out]; try rfl) (by omega) (fun j u hj => ?_) (by omega) HK3.out.size ?_
              · rw [crow_drop, List.getElem?_drop] at hj
                exact HRW.out _ HK3.out _ u (by simpa using hj)
              intro g5 cap5 w5 ho5 hg5
              have HO5 : Hid (w5.ownsRow (w.heap.size + 1) 36 2 (.slice (some ⟨g5, 0, none⟩) (N + 1) cap5) (N + 1) (crow (insAt c 0 (X, S)))) := Lib.hid (own_mono ho5 HWS.out)
              have HK5 : Hid (Keeps No W1 w5) := Lib.hid (HK3.out.grown hg5 (fun q e => .inr (HO3.out.lt q e).1))
              have HI5 := Lib.hid (HB1.out.ins (k := 0) (HK5.out.mono (fun _ _ e => e.elim)) HLE.out HXO.out HG1.out HG.out (by rw [HN.out]; exact HO5.out))
              have HA5 := Lib.hid (HK5.out.block w.heap.size (by have := HWS.out; omega) (fun e => e))
              have y1 : w5.cell? ⟨w.heap.size, 1, none⟩ = some (.slice (some ⟨g, 0, none⟩) N cc) := by unfold World.cell?; simp only; rw [HA5.out, HB1.out.a, ← HN.out]; rfl
              have y2 : w5.frozen? ⟨w.heap.size, 1, none⟩ = false := by unfold World.frozen?; simp only; rw [HA5.out, HB1.out.a]; rfl
              clear ho5 hg5
              go_wp2_with fail
              refine ⟨.inr ⟨⟨w5, HK5.out⟩, rfl⟩, ?_⟩
              refine Mix.mix_seg 16 1 1 (by kernel_rfl) (by kernel_rfl) rfl rfl ⟨⟨w5, HK5.out⟩, rfl⟩ ?_
              simp only [List.drop_succ_cons, List.drop_zero, List.take_succ_cons, List.take_zero]
              repeat (go_big_quiet_step (fail))
              refine wpQuiet_nil ?_
              refine Mix.mix_one 17 0 (by kernel_rfl) rfl rfl ?_
              simp only [List.drop_succ_cons, List.drop_zero, List.take_succ_cons, List.take_zero]
              go_wp2_with fail
              refine ⟨.inl ⟨rfl, rfl⟩, Mix.mix_end (by kernel_rfl) ?_⟩
              clear y1 y2
              go_wp2_with fail
              go_roundg (n - (i + 1))
              case rel => exact ⟨i + 1, insAt c 0 (X, S), some ⟨g5, 0, none⟩, cap5, kput pl X 1, kput cl (X, S) 1, by go_num, by omega, rfl, (by rw [insAt_len _ _ HLE.out]; omega), Lib.hid (by have h := HI5.out; rw [HN.out] at h; exact h), Lib.hid (HR.out.ins _ _), Lib.hid (by rw [HX.out, addM_step HXL.out, if_pos (HR.out.zero HG1.out HG.out)])⟩
              case measure => omega
        · obtain ⟨q, rfl⟩ : ∃ q, k = q + 1 := ⟨k - 1, by omega⟩
          obtain ⟨y, hy⟩ : ∃ y, c[q]? = some y := ⟨_, List.getElem?_eq_getElem (by have := HN.out; omega)⟩
          obtain ⟨g, hca, r1, r2⟩ := HB.out.at_ hy
          have HY := Lib.hid hy
          have hqN : (q : Int) < (N : Int) := by omega
          have q0 : (0 : Int) ≤ (q : Int) := by omega
          clear hy
          obtain ⟨Y, T⟩ := y
          simp only at r1 r2
          subst hca
          by_cases hYX : X < Y
          · go_wp2_with fail
            go_quiet (fail)
            go_wp2_with fail
            go_roundg q
            case rel => exact ⟨q, m + nq, by go_num, by omega, rfl, Lib.hid (fun j y hj e => by
              by_cases hjq : j = q
              · subst hjq; rw [HY.out] at e; injection e with e; rw [← e]; exact hYX
              · exact HG.out j y (by omega) e), rfl⟩
            case measure => omega
          · have hYX1 : decide (X < Y) = false := decide_eq_false hYX
            by_cases hXY : Y = X
            · have e0 : (Y == X) = true := beq_iff_eq.2 hXY
              have HXY := Lib.hid hXY
              clear hXY
              go_wp2_with fail
              go_quiet (fail)
              go_wp2_with fail
              go_quiet (fail)
              go_wp2_with fail
              go_roundg (n - (i + 1))
              case rel => exact ⟨i + 1, c, some ⟨g, 0, none⟩, cc, pl, cl, by go_num, by omega, rfl, by omega, Lib.hid (HB.out.drewN _), HR, Lib.hid (by rw [HX.out, addM_step HXL.out, if_neg ((HR.out.p X).2 ⟨_, List.mem_of_getElem? HY.out, HXY.out⟩)])⟩
              case measure => omega
            · have e0 : (Y == X) = false := beq_eq_false_iff_ne.2 hXY
              have HXY := Lib.hid hXY
              by_cases hqn : q + 1 = N
              · have e1 : ((q : Int) + 1 == (N : Int)) = true := by rw [beq_iff_eq]; omega
                have HQN := Lib.hid hqn
                have HG1 : Hid (∀ (j : Nat) (y : Ck), j < q + 1 → c[j]? = some y → y.1 < X) := Lib.hid (fun j y hj e => below_q HB.out.up HY.out hYX hXY j y hj e)
                have HLE : Hid (q + 1 ≤ c.length) := Lib.hid (by rw [HN.out]; omega)
                clear hqn hXY
                go_wp2_with fail
                go_quiet (fail)
                go_wp2_with fail
                go_quiet (fail)
                go_wp2_with fail
                generalize hW1 : wr.drewN _ = W1
                have HB1 : Hid (Bld w W1 w.heap.size Z c (some ⟨g, 0, none⟩) cc) := Lib.hid (by rw [← hW1]; exact HB.out.drewN _)
                clear hW1
                clear f1 ff k1 k2 r1 r2
                have hso : ∀ q, (Value.slice (some ⟨g, 0, none⟩) c.length cc).ownBlock = some q → w.heap.size + 1 ≤ q := fun q e => (HB1.out.o.lt q e).1
                have hne : Nonempty (KS (fun q => (Value.slice (some ⟨g, 0, none⟩) c.length cc).ownBlock = some q) W1) := ⟨⟨W1, Keeps.refl _ _⟩⟩
                have j1 : ∀ u : KS (fun q => (Value.slice (some ⟨g, 0, none⟩) c.length cc).ownBlock = some q) W1, u.W.cell? ⟨b, off + i * 2, none⟩ = some (.int .i64 X) := fun u => u.cell (HB1.out.k.cell HQ1.out) (fun e => by have h1 : w.heap.size + 1 ≤ b := hso _ e; have := HQB.out; omega)
                have j2 : ∀ u : KS (fun q => (Value.slice (some ⟨g, 0, none⟩) c.length cc).ownBlock = some q) W1, u.W.cell? ⟨b, off + i * 2 + 1, none⟩ = some (.string S) := fun u => u.cell (HB1.out.k.cell HQ2.out) (fun e => by have h1 : w.heap.size + 1 ≤ b := hso _ e; have := HQB.out; omega)
                have j3 : ∀ u : KS (fun q => (Value.slice (some ⟨g, 0, none⟩) c.length cc).ownBlock = some q) W1, u.W.cell? ⟨w.heap.size, 1, none⟩ = some (.slice (some ⟨g, 0, none⟩) N cc) := fun u => u.cell (by rw [← HN.out]; exact HB1.out.c.1) (fun e => by have h1 : w.heap.size + 1 ≤ w.heap.size := hso _ e; omega)
                have HSO := Lib.hid hso
                clear hso
                refine Mix.wp_region_mix (fun W => ∃ u : KS (fun q => (Value.slice (some ⟨g, 0, none⟩) c.length cc).ownBlock = some q) W1, W = u.W) [9] (by kernel_rfl) ?_
                refine Mix.mix_seg 0 6 4 (by kernel_rfl) (by kernel_rfl) rfl rfl ⟨⟨W1.drew, (Keeps.refl _ _).drew⟩, rfl⟩ ?_
                simp only [List.drop_succ_cons, List.drop_zero, List.take_succ_cons, List.take_zero]
                repeat (go_big_quiet_step (fail))
                refine wpQuiet_nil ?_
                clear j1 j2 j3
                refine Mix.mix_one 6 3 (by kernel_rfl) rfl rfl ?_
                simp only [List.drop_succ_cons, List.drop_zero, List.take_succ_cons, List.take_zero]
                go_wp2_with fail
                refine ⟨.inr ⟨⟨_, ((Keeps.refl _ _).alloc _).drew⟩, rfl⟩, ?_⟩
                refine Mix.mix_one 7 2 (by kernel_rfl) rfl rfl ?_
                simp only [List.drop_succ_cons, List.drop_zero, List.take_succ_cons, List.take_zero]
                have HOW : Hid ((W1.alloc (Obj.cells #[.int .i64 X, .string S] 36)).drew.ownsRow (w.heap.size + 1) 36 2 (.slice (some ⟨g, 0, none⟩) N cc) N (crow c)) := Lib.hid (by rw [← HN.out]; exact HB1.out.o.alloc _)
                have HWS : Hid (w.heap.size + 1 ≤ W1.heap.size) := Lib.hid (Nat.succ_le_of_lt (Array.getElem?_eq_some_iff.1 HB1.out.a).1)
                refine wpList_app2 _ rfl (.tmp 64) (.tmp 69) 33 36 rfl Try.underlying33 infoR6 (w.heap.size + 1) (.slice (some ⟨g, 0, none⟩) N cc) N c X S W1.heap.size rfl HOW.out rfl (heap_alloc_new _ _) (by omega) (by have := HWS.out; simp; omega) _ rfl ?_
                intro g5 cap5 w5 hown5 hgr5 _
                have HO5 : Hid (w5.ownsRow (w.heap.size + 1) 36 2 (.slice (some ⟨g5, 0, none⟩) (N + 1) cap5) (N + 1) (crow (insAt c (q + 1) (X, S)))) := Lib.hid (by rw [show crow (insAt c (q + 1) (X, S)) = crow c ++ [.int .i64 X, .string S] by rw [show q + 1 = c.length from HQN.out.trans HN.out.symm, insAt_end]; exact crow_snoc _ _]; exact hown5)
                have HK5 : Hid (Keeps (fun q => (Value.slice (some ⟨g, 0, none⟩) c.length cc).ownBlock = some q) W1 w5) := Lib.hid ((((Keeps.refl _ _).alloc _).drew).grown hgr5 (fun q e => .inl (by rw [HN.out]; exact e)))
                have HI5 := Lib.hid (HB1.out.ins (k := (q + 1)) HK5.out HLE.out HXO.out HG1.out HG.out (by rw [HN.out]; exact HO5.out))
                have HA5 := Lib.hid (HK5.out.block w.heap.size (by have := HWS.out; omega) (fun e => by have h1 : w.heap.size + 1 ≤ w.heap.size := HSO.out _ e; omega))
                have y1 : w5.cell? ⟨w.heap.size, 1, none⟩ = some (.slice (some ⟨g, 0, none⟩) N cc) := by unfold World.cell?; simp only; rw [HA5.out, HB1.out.a, ← HN.out]; rfl
                have y2 : w5.frozen? ⟨w.heap.size, 1, none⟩ = false := by unfold World.frozen?; simp only; rw [HA5.out, HB1.out.a]; rfl
                clear hown5 hgr5
                go_wp2_with fail
                refine ⟨.inr ⟨⟨w5, HK5.out⟩, rfl⟩, ?_⟩
                refine Mix.mix_seg 8 1 1 (by kernel_rfl) (by kernel_rfl) rfl rfl ⟨⟨w5, HK5.out⟩, rfl⟩ ?_
                simp only [List.drop_succ_cons, List.drop_zero, List.take_succ_cons, List.take_zero]
                repeat (go_big_quiet_step (fail))
                refine wpQuiet_nil ?_
                refine Mix.mix_one 9 0 (by kernel_rfl) rfl rfl ?_
                simp only [List.drop_succ_cons, List.drop_zero, List.take_succ_cons, List.take_zero]
                go_wp2_with fail
                refine ⟨.inl ⟨rfl, rfl⟩, Mix.mix_end (by kernel_rfl) ?_⟩
                clear y1 y2
                go_wp2_with fail
                go_roundg (n - (i + 1))
                case rel => exact ⟨i + 1, insAt c (q + 1) (X, S), some ⟨g5, 0, none⟩, cap5, kput pl X 1, kput cl (X, S) 1, by go_num, by omega, rfl, (by rw [insAt_len _ _ HLE.out]; omega), Lib.hid (by have h := HI5.out; rw [HN.out] at h; exact h), Lib.hid (HR.out.ins _ _), Lib.hid (by rw [HX.out, addM_step HXL.out, if_pos (HR.out.zero HG1.out HG.out)])⟩
                case measure => omega
              · have e1 : ((q : Int) + 1 == (N : Int)) = false := by rw [beq_eq_false_iff_ne]; omega
                have hqn1 : q + 1 < N := by omega
                have hqn2 : (q : Int) + 1 < (N : Int) := by omega
                have HG1 : Hid (∀ (j : Nat) (y : Ck), j < q + 1 → c[j]? = some y → y.1 < X) := Lib.hid (fun j y hj e => below_q HB.out.up HY.out hYX hXY j y hj e)
                have HLE : Hid (q + 1 ≤ c.length) := Lib.hid (by rw [HN.out]; omega)
                clear hqn hXY
                go_wp2_with fail
                go_quiet (fail)
                go_wp2_with fail
                go_quiet (fail)
                go_wp2_with fail
                generalize hW1 : wr.drewN _ = W1
                have HB1 : Hid (Bld w W1 w.heap.size Z c (some ⟨g, 0, none⟩) cc) := Lib.hid (by rw [← hW1]; exact HB.out.drewN _)
                clear hW1
                clear f1 ff k1 k2 r1 r2
                have hne : Nonempty (KW W1) := ⟨KW.of _⟩
                have j1 : ∀ u : KW W1, u.W.cell? ⟨b, off + i * 2, none⟩ = some (.int .i64 X) := fun u => u.cell (HB1.out.k.cell HQ1.out)
                have j2 : ∀ u : KW W1, u.W.cell? ⟨b, off + i * 2 + 1, none⟩ = some (.string S) := fun u => u.cell (HB1.out.k.cell HQ2.out)
                have j3 : ∀ u : KW W1, u.W.cell? ⟨w.heap.size, 1, none⟩ = some (.slice (some ⟨g, 0, none⟩) N cc) := fun u => u.cell (by rw [← HN.out]; exact HB1.out.c.1)
                have HWS : Hid (w.heap.size + 1 ≤ W1.heap.size) := Lib.hid (Nat.succ_le_of_lt (Array.getElem?_eq_some_iff.1 HB1.out.a).1)
                have HRW := Lib.hid (fun (W : World) (hk : Keeps No W1 W) j u (hj : (crow c)[j]? = some u) => hk.cell ((HB1.out.row rfl).1 j u hj))
                obtain ⟨_, hNc, hcm⟩ := HB1.out.row rfl
                rw [HN.out] at hNc
                unfold maxLen at hcm
                have hq3 : (q : Int) + 1 < (cc : Int) := by omega
                have hq4 : ¬ cc = q + 1 := by omega
                have hq5 : (0 : Int) ≤ (q : Int) + 1 := by omega
                have hq6 : ((q : Int) + 1).toNat = q + 1 := by omega
                refine Mix.wp_region_mix (fun W => ∃ u : KW W1, W = u.W) [17] (by kernel_rfl) ?_
                refine Mix.mix_seg 0 4 14 (by kernel_rfl) (by kernel_rfl) rfl rfl ⟨⟨W1.drew, (Keeps.refl _ _).drew⟩, rfl⟩ ?_
                simp only [List.drop_succ_cons, List.drop_zero, List.take_succ_cons, List.take_zero]
                repeat (go_big_quiet_step (fail))
                refine wpQuiet_nil ?_
                refine Mix.mix_seg 5 4 10 (by kernel_rfl) (by kernel_rfl) rfl rfl ⟨⟨W1.drew, (Keeps.refl _ _).drew⟩, rfl⟩ ?_
                simp only [List.drop_succ_cons, List.drop_zero, List.take_succ_cons, List.take_zero]
                repeat (go_big_quiet_step (fail))
                refine wpQuiet_nil ?_
                refine Mix.mix_seg 11 4 6 (by kernel_rfl) (by kernel_rfl) rfl rfl ⟨⟨W1.drew, (Keeps.refl _ _).drew⟩, rfl⟩ ?_
                simp only [List.drop_succ_cons, List.drop_zero, List.take_succ_cons, List.take_zero]
                repeat (go_big_quiet_step (fail))
                refine wpQuiet_nil ?_
                clear j1 j2 j3
                refine Mix.mix_two 4 9 5 (by kernel_rfl) rfl rfl rfl ?_ ?_
                all_goals simp only [List.drop_succ_cons, List.drop_zero, List.take_succ_cons, List.take_zero]
                · refine wpList_appN _ rfl (.const (.slice none 0 0)) (.tmp 75) 33 36 rfl Try.underlying33 infoR6 W1.heap.size (.slice none 0 0) 0 [] (c.take (q + 1)) g 0 (q + 1) cc (q + 1) (by omega) rfl (World.ownsRow_nil _ _ _ _) rfl (by rw [List.length_take, HN.out]; omega) (by omega) (fun j u hj => ?_) (by omega) (Nat.le_refl _) ?_
                  · rw [crow_take] at hj
                    have hj' := hj
                    rw [List.getElem?_take] at hj'
                    by_cases hjl : j < (q + 1) * 2
                    · rw [if_pos hjl] at hj'; rw [Nat.zero_add]; exact HRW.out _ ((Keeps.refl _ _).drew) j u hj'
                    · rw [if_neg hjl] at hj'; cases hj'
                  intro g1 cap1 w1 ho1 hg1
                  have HO1 : Hid (w1.ownsRow W1.heap.size 36 2 (.slice (some ⟨g1, 0, none⟩) (q + 1) cap1) (q + 1) (crow (c.take (q + 1)))) := Lib.hid (by simpa using ho1)
                  have HK1 : Hid (Keeps No W1 w1) := Lib.hid ((((Keeps.refl _ _).drew)).grown hg1 (fun q e => by cases e))
                  clear ho1 hg1
                  go_wp2_with fail
                  refine ⟨.inr ⟨⟨w1, HK1.out⟩, rfl⟩, ?_⟩
                  refine Mix.mix_one 9 4 (by kernel_rfl) rfl rfl ?_
                  simp only [List.drop_succ_cons, List.drop_zero, List.take_succ_cons, List.take_zero]
                  go_wp2_with fail
                  refine ⟨.inr ⟨⟨_, HK1.out.alloc _⟩, rfl⟩, ?_⟩
                  have HK2 : Hid (Keeps No W1 (w1.alloc (Obj.cells #[.int .i64 X, .string S] 36))) := Lib.hid (HK1.out.alloc _)
                  have HO2 : Hid ((w1.alloc (Obj.cells #[.int .i64 X, .string S] 36)).ownsRow W1.heap.size 36 2 (.slice (some ⟨g1, 0, none⟩) (q + 1) cap1) (q + 1) (crow (c.take (q + 1)))) := Lib.hid (HO1.out.alloc _)
                  have HA2 : Hid ((w1.alloc (Obj.cells #[.int .i64 X, .string S] 36)).heap[w1.heap.size]? = some (.cells #[.int .i64 X, .string S] 36 (0, 0))) := Lib.hid (heap_alloc_new _ _)
                  refine Mix.mix_one 10 3 (by kernel_rfl) rfl rfl ?_
                  simp only [List.drop_succ_cons, List.drop_zero, List.take_succ_cons, List.take_zero]
                  refine wpList_app2 _ rfl (.tmp 76) (.tmp 81) 33 36 rfl Try.underlying33 infoR6 W1.heap.size _ (q + 1) (c.take (q + 1)) X S _ rfl HO2.out rfl HA2.out (by omega) HK2.out.size _ rfl ?_
                  intro g3 cap3 w3 ho3 hg3 _
                  have HO3 : Hid (w3.ownsRow W1.heap.size 36 2 (.slice (some ⟨g3, 0, none⟩) ((q + 1) + 1) cap3) ((q + 1) + 1) (crow (c.take (q + 1) ++ [(X, S)]))) := Lib.hid (by rw [crow_snoc]; exact ho3)
                  have HK3 : Hid (Keeps No W1 w3) := Lib.hid (HK2.out.grown hg3 (fun q e => .inr (HO2.out.lt q e).1))
                  clear ho3 hg3
                  go_wp2_with fail
                  refine ⟨.inr ⟨⟨w3, HK3.out⟩, rfl⟩, ?_⟩
                  refine Mix.mix_one 15 2 (by kernel_rfl) rfl rfl ?_
                  simp only [List.drop_succ_cons, List.drop_zero, List.take_succ_cons, List.take_zero]
                  refine wpList_appN _ rfl (.tmp 82) (.tmp 86) 33 36 rfl Try.underlying33 infoR6 W1.heap.size (.slice (some ⟨g3, 0, none⟩) ((q + 1) + 1) cap3) ((q + 1) + 1) (c.take (q + 1) ++ [(X, S)]) (c.drop (q + 1)) g ((q + 1) * 2) (N - (q + 1)) (cc - (q + 1)) (N + 1) (by omega) rfl HO3.out rfl (by rw [List.length_drop, HN.out]; try rfl) (by omega) (fun j u hj => ?_) (by omega) HK3.out.size ?_
                  · rw [crow_drop, List.getElem?_drop] at hj
                    exact HRW.out _ HK3.out _ u (by simpa using hj)
                  intro g5 cap5 w5 ho5 hg5
                  have HO5 : Hid (w5.ownsRow (w.heap.size + 1) 36 2 (.slice (some ⟨g5, 0, none⟩) (N + 1) cap5) (N + 1) (crow (insAt c (q + 1) (X, S)))) := Lib.hid (own_mono ho5 HWS.out)
                  have HK5 : Hid (Keeps No W1 w5) := Lib.hid (HK3.out.grown hg5 (fun q e => .inr (HO3.out.lt q e).1))
                  have HI5 := Lib.hid (HB1.out.ins (k := (q + 1)) (HK5.out.mono (fun _ _ e => e.elim)) HLE.out HXO.out HG1.out HG.out (by rw [HN.out]; exact HO5.out))
                  have HA5 := Lib.hid (HK5.out.block w.heap.size (by have := HWS.out; omega) (fun e => e))
                  have y1 : w5.cell? ⟨w.heap.size, 1, none⟩ = some (.slice (some ⟨g, 0, none⟩) N cc) := by unfold World.cell?; simp only; rw [HA5.out, HB1.out.a, ← HN.out]; rfl
                  have y2 : w5.frozen? ⟨w.heap.size, 1, none⟩ = false := by unfold World.frozen?; simp only; rw [HA5.out, HB1.out.a]; rfl
                  clear ho5 hg5
                  go_wp2_with fail
                  refine ⟨.inr ⟨⟨w5, HK5.out⟩, rfl⟩, ?_⟩
                  refine Mix.mix_seg 16 1 1 (by kernel_rfl) (by kernel_rfl) rfl rfl ⟨⟨w5, HK5.out⟩, rfl⟩ ?_
                  simp only [List.drop_succ_cons, List.drop_zero, List.take_succ_cons, List.take_zero]
                  repeat (go_big_quiet_step (fail))
                  refine wpQuiet_nil ?_
                  refine Mix.mix_one 17 0 (by kernel_rfl) rfl rfl ?_
                  simp only [List.drop_succ_cons, List.drop_zero, List.take_succ_cons, List.take_zero]
                  go_wp2_with fail
                  refine ⟨.inl ⟨rfl, rfl⟩, Mix.mix_end (by kernel_rfl) ?_⟩
                  clear y1 y2
                  go_wp2_with fail
                  go_roundg (n - (i + 1))
                  case rel => exact ⟨i + 1, insAt c (q + 1) (X, S), some ⟨g5, 0, none⟩, cap5, kput pl X 1, kput cl (X, S) 1, by go_num, by omega, rfl, (by rw [insAt_len _ _ HLE.out]; omega), Lib.hid (by have h := HI5.out; rw [HN.out] at h; exact h), Lib.hid (HR.out.ins _ _), Lib.hid (by rw [HX.out, addM_step HXL.out, if_pos (HR.out.zero HG1.out HG.out)])⟩
                  case measure => omega
                · go_wp2_with fail
                  refine ⟨.inr ⟨⟨_, ((Keeps.refl _ _).alloc _).drew⟩, rfl⟩, ?_⟩
                  refine Mix.mix_one 4 4 (by kernel_rfl) rfl rfl ?_
                  simp only [List.drop_succ_cons, List.drop_zero, List.take_succ_cons, List.take_zero]
                  refine wpList_appN _ rfl (.const (.slice none 0 0)) (.tmp 75) 33 36 rfl Try.underlying33 infoR6 W1.heap.size (.slice none 0 0) 0 [] (c.take (q + 1)) g 0 (q + 1) cc (q + 1) (by omega) rfl (World.ownsRow_nil _ _ _ _) rfl (by rw [List.length_take, HN.out]; omega) (by omega) (fun j u hj => ?_) (by omega) (by simp) ?_
                  · rw [crow_take] at hj
                    have hj' := hj
                    rw [List.getElem?_take] at hj'
                    by_cases hjl : j < (q + 1) * 2
                    · rw [if_pos hjl] at hj'; rw [Nat.zero_add]; exact HRW.out _ (((Keeps.refl _ _).alloc _).drew) j u hj'
                    · rw [if_neg hjl] at hj'; cases hj'
                  intro g1 cap1 w1 ho1 hg1
                  have HO1 : Hid (w1.ownsRow W1.heap.size 36 2 (.slice (some ⟨g1, 0, none⟩) (q + 1) cap1) (q + 1) (crow (c.take (q + 1)))) := Lib.hid (by simpa using ho1)
                  have HK1 : Hid (Keeps No W1 w1) := Lib.hid (((((Keeps.refl _ _).alloc _).drew)).grown hg1 (fun q e => by cases e))
                  have HA1 := Lib.hid (hg1.block W1.heap.size (by simp) (by simp [Value.ownBlock]))
                  clear ho1 hg1
                  go_wp2_with fail
                  refine ⟨.inr ⟨⟨w1, HK1.out⟩, rfl⟩, ?_⟩
                  have HK2 := HK1
                  have HO2 := HO1
                  have HA2 : Hid (w1.heap[W1.heap.size]? = some (.cells #[.int .i64 X, .string S] 36 (0, 0))) := Lib.hid (HA1.out.trans (heap_alloc_new _ _))
                  refine Mix.mix_one 10 3 (by kernel_rfl) rfl rfl ?_
                  simp only [List.drop_succ_cons, List.drop_zero, List.take_succ_cons, List.take_zero]
                  refine wpList_app2 _ rfl (.tmp 76) (.tmp 81) 33 36 rfl Try.underlying33 infoR6 W1.heap.size _ (q + 1) (c.take (q + 1)) X S _ rfl HO2.out rfl HA2.out (by omega) HK2.out.size _ rfl ?_
                  intro g3 cap3 w3 ho3 hg3 _
                  have HO3 : Hid (w3.ownsRow W1.heap.size 36 2 (.slice (some ⟨g3, 0, none⟩) ((q + 1) + 1) cap3) ((q + 1) + 1) (crow (c.take (q + 1) ++ [(X, S)]))) := Lib.hid (by rw [crow_snoc]; exact ho3)
                  have HK3 : Hid (Keeps No W1 w3) := Lib.hid (HK2.out.grown hg3 (fun q e => .inr (HO2.out.lt q e).1))
                  clear ho3 hg3
                  go_wp2_with fail
                  refine ⟨.inr ⟨⟨w3, HK3.out⟩, rfl⟩, ?_⟩
                  refine Mix.mix_one 15 2 (by kernel_rfl) rfl rfl ?_
                  simp only [List.drop_succ_cons, List.drop_zero, List.take_succ_cons, List.take_zero]
                  refine wpList_appN _ rfl (.tmp 82) (.tmp 86) 33 36 rfl Try.underlying33 infoR6 W1.heap.size (.slice (some ⟨g3, 0, none⟩) ((q + 1) + 1) cap3) ((q + 1) + 1) (c.take (q + 1) ++ [(X, S)]) (c.drop (q + 1)) g ((q + 1) * 2) (N - (q + 1)) (cc - (q + 1)) (N + 1) (by omega) rfl HO3.out rfl (by rw [List.length_drop, HN.out]; try rfl) (by omega) (fun j u hj => ?_) (by omega) HK3.out.size ?_
                  · rw [crow_drop, List.getElem?_drop] at hj
                    exact HRW.out _ HK3.out _ u (by simpa using hj)
                  intro g5 cap5 w5 ho5 hg5
                  have HO5 : Hid (w5.ownsRow (w.heap.size + 1) 36 2 (.slice (some ⟨g5, 0, none⟩) (N + 1) cap5) (N + 1) (crow (insAt c (q + 1) (X, S)))) := Lib.hid (own_mono ho5 HWS.out)
                  have HK5 : Hid (Keeps No W1 w5) := Lib.hid (HK3.out.grown hg5 (fun q e => .inr (HO3.out.lt q e).1))
                  have HI5 := Lib.hid (HB1.out.ins (k := (q + 1)) (HK5.out.mono (fun _ _ e => e.elim)) HLE.out HXO.out HG1.out HG.out (by rw [HN.out]; exact HO5.out))
                  have HA5 := Lib.hid (HK5.out.block w.heap.size (by have := HWS.out; omega) (fun e => e))
                  have y1 : w5.cell? ⟨w.heap.size, 1, none⟩ = some (.slice (some ⟨g, 0, none⟩) N cc) := by unfold World.cell?; simp only; rw [HA5.out, HB1.out.a, ← HN.out]; rfl
                  have y2 : w5.frozen? ⟨w.heap.size, 1, none⟩ = false := by unfold World.frozen?; simp only; rw [HA5.out, HB1.out.a]; rfl
                  clear ho5 hg5
                  go_wp2_with fail
                  refine ⟨.inr ⟨⟨w5, HK5.out⟩, rfl⟩, ?_⟩
                  refine Mix.mix_seg 16 1 1 (by kernel_rfl) (by kernel_rfl) rfl rfl ⟨⟨w5, HK5.out⟩, rfl⟩ ?_
                  simp only [List.drop_succ_cons, List.drop_zero, List.take_succ_cons, List.take_zero]
                  repeat (go_big_quiet_step (fail))
                  refine wpQuiet_nil ?_
                  refine Mix.mix_one 17 0 (by kernel_rfl) rfl rfl ?_
                  simp only [List.drop_succ_cons, List.drop_zero, List.take_succ_cons, List.take_zero]
                  go_wp2_with fail
                  refine ⟨.inl ⟨rfl, rfl⟩, Mix.mix_end (by kernel_rfl) ?_⟩
                  clear y1 y2
                  go_wp2_with fail
                  go_roundg (n - (i + 1))
                  case rel => exact ⟨i + 1, insAt c (q + 1) (X, S), some ⟨g5, 0, none⟩, cap5, kput pl X 1, kput cl (X, S) 1, by go_num, by omega, rfl, (by rw [insAt_len _ _ HLE.out]; omega), Lib.hid (by have h := HI5.out; rw [HN.out] at h; exact h), Lib.hid (HR.out.ins _ _), Lib.hid (by rw [HX.out, addM_step HXL.out, if_pos (HR.out.zero HG1.out HG.out)])⟩
                  case measure => omega
    · obtain rfl : i = n := by omega
      have hlt' : ¬ (i : Int) < (i : Int) := by omega
      obtain ⟨f1, ff⟩ := HB.out.c
      obtain ⟨N, hN⟩ : ∃ N, c.length = N := ⟨_, rfl⟩
      have hN5 : N ≤ 500 := by omega
      rw [hN] at f1
      have HN := Lib.hid hN
      have HWS : Hid (w.heap.size + 1 ≤ wr.heap.size) := Lib.hid (Nat.succ_le_of_lt (Array.getElem?_eq_some_iff.1 HB.out.a).1)
      obtain ⟨i0, hi0, hi1, hi2, hi3⟩ := info_parts infoV6
      have HI := Lib.hid hi0
      have HI1 := Lib.hid hi1
      have HI2 := Lib.hid hi2
      have HI3 := Lib.hid hi3
      clear hN hi0 hi1 hi2 hi3
      go_wp2_with (at_make; refine wpList_make_full _ rfl (.tmp 91) (.tmp 91) 57 rfl (w.heap.size + 1) 42 i0 _ 4 Try.underlying57 HI.out HI1.out HI2.out .i64 .i64 (N : Int) (N : Int) N rfl rfl rfl rfl (by rw [HI3.out]; omega) (by unfold maxLen; omega) HWS.out ?_)
      intro w6 ho6 hg6
      have HO6 : Hid (w6.ownsRow (w.heap.size + 1) 42 4 (.slice (some ⟨wr.heap.size, 0, none⟩) N N) N (vrow (List.replicate N v0))) := Lib.hid (by rw [← made_zero]; exact ho6)
      have HA6 := Lib.hid ((hg6.block w.heap.size (by have := HWS.out; omega) (by simp)).trans HB.out.a)
      have HK6 : Hid (Keeps No w w6) := Lib.hid (HB.out.k.grown hg6 (fun q e => by cases e))
      have HC6 : Hid (w6.ownsRow (w.heap.size + 1) 36 2 (.slice ca c.length cc) c.length (crow c)) := Lib.hid (HB.out.o.kept hg6 (by cases hv : (Value.slice ca c.length cc).ownBlock with | none => exact .inl rfl | some q => exact .inr (by simp)))
      have y1 : w6.cell? ⟨w.heap.size, 2, none⟩ = some (.slice none 0 0) := by unfold World.cell?; simp only; rw [HA6.out]; rfl
      have y2 : w6.frozen? ⟨w.heap.size, 2, none⟩ = false := by unfold World.frozen?; simp only; rw [HA6.out]; rfl
      clear ho6 hg6 f1 ff
      go_wp2_with fail
      have HK9 : Hid (Keeps No w (w6.setCell ⟨w.heap.size, 2, none⟩ (.slice (some ⟨wr.heap.size, 0, none⟩) N N))) := Lib.hid (HK6.out.setCell (.inr (Nat.le_refl _)) _)
      have HA9 : Hid ((w6.setCell ⟨w.heap.size, 2, none⟩ (.slice (some ⟨wr.heap.size, 0, none⟩) N N)).heap[w.heap.size]? = some (.cells #[.int .i64 Z, .slice ca N cc, .slice (some ⟨wr.heap.size, 0, none⟩) N N, .bool true] 59 (0, 0))) := Lib.hid (by have e := HA6.out; rw [HN.out] at e; simp [World.setCell, Array.getElem?_modify, e])
      have HD9 : Hid (RbAs w.heap.size (w6.setCell ⟨w.heap.size, 2, none⟩ (.slice (some ⟨wr.heap.size, 0, none⟩) N N)) ⟨true, Z, ca, cc, c, some ⟨wr.heap.size, 0, none⟩, N, List.replicate N v0⟩) := Lib.hid (by
        refine ⟨own_mono (ownsRow_setCell_below HC6.out (by show w.heap.size < w.heap.size + 1; omega) _) (Nat.le_succ _), ?_, by rw [List.length_replicate, HN.out], by show c.length ≤ 1000; rw [HN.out]; omega, HB.out.ck, HB.out.up, ?_⟩
        · show World.ownsRow _ _ _ 4 (.slice (some ⟨wr.heap.size, 0, none⟩) (List.replicate N v0).length N) (List.replicate N v0).length _
          rw [List.length_replicate]
          exact own_mono (ownsRow_setCell_below HO6.out (by show w.heap.size < w.heap.size + 1; omega) _) (Nat.le_succ _)
        · show 0 ≤ Z ∧ Z ≤ 9223372036854775807
          rw [← HZ.out]; have := HZI.out.2; split <;> omega)
      have HNE : Hid (∀ a, (Value.slice ca c.length cc).ownBlock = some a → (Value.slice (some ⟨wr.heap.size, 0, none⟩) (List.replicate N v0).length N).ownBlock ≠ some a) := Lib.hid (fun a ha e => by have := (HB.out.o.lt a ha).2; exact absurd (show wr.heap.size = a by simpa [Value.ownBlock] using e) (by omega))
      clear y1 y2
      generalize (w6.setCell ⟨w.heap.size, 2, none⟩ (.slice (some ⟨wr.heap.size, 0, none⟩) N N)) = W9 at *
      have HR9 := Lib.hid (HH.out.no HK9.out)
      obtain ⟨o1, o2⟩ := HH.out.g_other
      have HRG := Lib.hid o1
      have hrw := (HH.out.lt (.inl rfl)).2
      have hgw := (HH.out.lt (.inr (.inl rfl))).2
      have HGW := Lib.hid hgw
      have hne : Nonempty (KS (fun q => q = R.g) W9) := ⟨⟨W9, Keeps.refl _ _⟩⟩
      have j0 : ∀ u : KS (fun q => q = R.g) W9, u.W.cell? ⟨R.r, 0, none⟩ = some R.sl := fun u => u.cell HR9.out.c0 (fun e => HRG.out e)
      have h9 : ∀ (j : Nat) v, #[Value.int .i64 Z, .slice ca N cc, .slice (some ⟨wr.heap.size, 0, none⟩) N N, .bool true][j]? = some v → ∀ u : KS (fun q => q = R.g) W9, u.W.cell? ⟨w.heap.size, j, none⟩ = some v := fun j v hv u => u.cell (by unfold World.cell?; simp only; rw [HA9.out]; exact hv) (fun e => by have e' : w.heap.size = R.g := e; have := HGW.out; omega)
      have j1 := h9 0 _ rfl
      have j2 := h9 1 _ rfl
      have j3 := h9 2 _ rfl
      have j4 := h9 3 _ rfl
      clear h9 o1 o2 hgw
      refine Mix.wp_region_mix (fun W => ∃ u : KS (fun q => q = R.g) W9, W = u.W) [10] (by kernel_rfl) ?_
      refine Mix.mix_seg 0 6 5 (by kernel_rfl) (by kernel_rfl) rfl rfl ⟨⟨W9.drew, (Keeps.refl _ _).drew⟩, rfl⟩ ?_
      simp only [List.drop_succ_cons, List.drop_zero, List.take_succ_cons, List.take_zero]
      repeat (go_big_quiet_step (fail))
      refine wpQuiet_nil ?_
      clear j0 j1 j2 j3 j4
      refine Mix.mix_one 6 4 (by kernel_rfl) rfl rfl ?_
      simp only [List.drop_succ_cons, List.drop_zero, List.take_succ_cons, List.take_zero]
      go_wp2_with fail
      refine ⟨.inr ⟨⟨_, ((Keeps.refl _ _).alloc _).drew⟩, rfl⟩, ?_⟩
      refine Mix.mix_one 7 3 (by kernel_rfl) rfl rfl ?_
      simp only [List.drop_succ_cons, List.drop_zero, List.take_succ_cons, List.take_zero]
      obtain ⟨i1, hb0, hb1, hb2, hb3⟩ := info_parts infoB6
      have HRO : Hid ((W9.alloc (Obj.cells #[.int .i64 Z, .slice ca N cc, .slice (some ⟨wr.heap.size, 0, none⟩) N N, .bool true] 59)).drew.ownsRow B 59 4 R.sl R.bs.length (brow R.bs)) := Lib.hid (HR9.out.o.alloc _)
      refine wpList_append_lies _ rfl (.tmp 98) (.tmp 100) 60 rfl B 59 i1 _ 4 64 Try.underlying60 hb0 hb1 hb2 hb3 rfl (by decide) R.sl R.bs.length (brow R.bs) rfl HRO.out ⟨W9.heap.size, 0, none⟩ 1 1 [.int .i64 Z, .slice ca N cc, .slice (some ⟨wr.heap.size, 0, none⟩) N N, .bool true] rfl rfl (World.news_of_block (heap_alloc_new W9 _)) (by intro u hu; simp at hu; rcases hu with rfl | rfl | rfl | rfl <;> rfl) (by decide) (by unfold maxLen; omega) (by omega) (by have := HH.out.rB; have := HK9.out.size; simp; omega) (W9.heap.size + 1) (by simp) ?_
      intro g10 cap10 w10 ho10 hg10 hat10 _
      have HG10 := Lib.hid hg10
      have HS := Lib.hid (added_r HH.out HK9.out (((Keeps.refl No W9).alloc (Obj.cells #[.int .i64 Z, .slice ca N cc, .slice (some ⟨wr.heap.size, 0, none⟩) N N, .bool true] 59)).drew) HD9.out rfl HNE.out HLT.out hg10 (by unfold Rb.cells; rw [show (⟨true, Z, ca, cc, c, some ⟨wr.heap.size, 0, none⟩, N, List.replicate N v0⟩ : Rb).cs = .slice ca N cc by show Value.slice ca c.length cc = _; rw [HN.out], show (⟨true, Z, ca, cc, c, some ⟨wr.heap.size, 0, none⟩, N, List.replicate N v0⟩ : Rb).vs = .slice (some ⟨wr.heap.size, 0, none⟩) N N by show Value.slice _ (List.replicate N v0).length N = _; rw [List.length_replicate]]; exact ho10) (by rcases hat10 with e | e; (injection e with e; exact .inl e); exact .inr (by omega)))
      have HK10 : Hid (Keeps (fun q => q = R.g) W9 w10) := Lib.hid ((((Keeps.refl _ _).alloc _).drew).grown hg10 (fun q e => .inl (by injection e with e; exact e.symm)))
      have y1 : w10.cell? ⟨R.r, 0, none⟩ = some R.sl := (KS.mk w10 HK10.out).cell HR9.out.c0 (fun e => HRG.out e)
      have y2 : w10.frozen? ⟨R.r, 0, none⟩ = false := by
        have e := HK10.out.block R.r (by have := HK9.out.size; omega) (fun e => HRG.out e)
        unfold World.frozen?; simp only; rw [e, HR9.out.a]; rfl
      clear ho10 hg10 hat10 hb0 hb1 hb2 hb3
      go_wp2_with fail
      refine ⟨.inr ⟨⟨w10, HK10.out⟩, rfl⟩, ?_⟩
      refine Mix.mix_one 8 2 (by kernel_rfl) rfl rfl ?_
      simp only [List.drop_succ_cons, List.drop_zero, List.take_succ_cons, List.take_zero]
      go_wp2_with fail
      refine ⟨.inr ⟨⟨w10, HK10.out⟩, rfl⟩, ?_⟩
      refine Mix.mix_seg 9 1 1 (by kernel_rfl) (by kernel_rfl) rfl rfl ⟨⟨w10, HK10.out⟩, rfl⟩ ?_
      simp only [List.drop_succ_cons, List.drop_zero, List.take_succ_cons, List.take_zero]
      repeat (go_big_quiet_step (fail))
      refine wpQuiet_nil ?_
      refine Mix.mix_one 10 0 (by kernel_rfl) rfl rfl ?_
      simp only [List.drop_succ_cons, List.drop_zero, List.take_succ_cons, List.take_zero]
      go_wp2_with fail
      refine ⟨.inl ⟨rfl, rfl⟩, Mix.mix_end (by kernel_rfl) ?_⟩
      go_wp2_with fail
      go_returns
      have hcl : addM l [] [] = cl := by rw [HX.out, List.drop_of_length_le (by rw [HL.out.len]; exact Nat.le_refl _)]; rfl
      have hv : (⟨true, Z, ca, cc, c, some ⟨wr.heap.size, 0, none⟩, N, List.replicate N v0⟩ : Rb).view = newV z (addM l [] []) := by
        rw [hcl]
        unfold Rb.view newV
        refine (show Bv.mk Z (hasc c) (getv c (List.replicate N v0)) = _ from ?_)
        rw [HZ.out, show hasc c = (fun x => (kget cl x).isSome) from funext HR.out.h, show getv c (List.replicate N v0) = (fun _ => v0) from funext (getv_zero c N)]
      rw [← hv]
      exact ⟨rfl, HS.out⟩
end Go.Proofs.Ytjchfldlmabblaa
