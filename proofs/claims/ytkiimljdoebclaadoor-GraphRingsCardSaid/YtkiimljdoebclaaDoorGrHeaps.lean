/- The heap's methods. -/
import Derived.Test.YtkiimljdoebclaaDoorGrFind
namespace Go.Proofs.YtkiimljdoebclaaDoor
open Go.RowKit Gm
theorem wrapnil (t : TypeId) (a : Addr) (s m : ByteArray) (P : Program) (w : World) : (Builtin.ssaWrapNilChk_ #[t] t #[.pointer (some a), .string s, .string m]).run P w = .ok (.pointer (some a)) w := rfl
set_option maxRecDepth 100000 in
theorem meth_any (f : FuncId) (nm : String) (hf : (Tryd.prog.info? 58).map (fun i => (i.methods.find? (·.name == nm)).map (fun m => (m.path.isEmpty, m.func))) = some (some (true, some (f, false)))) (fuel : Nat) {w : World} {NB k qc : Nat} {qa : Option Addr} (h : w.cell? ⟨NB, 0, none⟩ = some (.slice qa k qc)) : (Go.method (fuel + 1) 58 (.pointer (some ⟨NB, 0, none⟩)) nm).run Tryd.prog w = .ok (f, .slice qa k qc) w := by
  obtain ⟨i, hi, h1⟩ := Option.map_eq_some_iff.1 hf
  obtain ⟨m, hm, h2⟩ := Option.map_eq_some_iff.1 h1
  obtain ⟨h3, h4⟩ := Prod.mk.inj h2
  have h5 : m.path = #[] := by simpa using h3
  simp [Go.method, typeInfo, hi, hm, h4, h5, Go.follow, Go.receiverAt, Go.Place.get, run_underlying Tryd.underlying58, wrapnil, strVal, asAddr, loadVar, isAgg, run_underlying Tryd.underlying59, h]
theorem fact_len : (Tryd.prog.info? 58).map (fun i => (i.methods.find? (·.name == "Len")).map (fun m => (m.path.isEmpty, m.func))) = some (some (true, some (20, false))) := by kernel_rfl
theorem fact_less : (Tryd.prog.info? 58).map (fun i => (i.methods.find? (·.name == "Less")).map (fun m => (m.path.isEmpty, m.func))) = some (some (true, some (91, false))) := by kernel_rfl
theorem fact_swap : (Tryd.prog.info? 58).map (fun i => (i.methods.find? (·.name == "Swap")).map (fun m => (m.path.isEmpty, m.func))) = some (some (true, some (94, false))) := by kernel_rfl
theorem fact_pop : (Tryd.prog.info? 58).map (fun i => (i.methods.find? (·.name == "Pop")).map (fun m => (m.path.isEmpty, m.func))) = some (some (true, some (92, true))) := by kernel_rfl
end Go.Proofs.YtkiimljdoebclaaDoor
/- The heap of functions that are ready: of one at most. -/
namespace Go.Proofs.YtkiimljdoebclaaDoor
open Go.RowKit Gm
set_option linter.unusedVariables false
set_option linter.unusedSimpArgs false

/-- The heap at NB. -/
structure HQ (w : World) (B NB : Nat) (q : List Int) (qa : Option Addr) (qc : Nat) : Prop where
  row : w.heap[NB]? = some (.cells #[.slice qa q.length qc] 59 (0, 0))
  own : w.ownsRow B 3 1 (.slice qa q.length qc) q.length (irow q)
theorem HQ.keep {w w' : World} {B NB : Nat} {q : List Int} {qa : Option Addr} {qc : Nat} {S : Nat → Prop} (h : HQ w B NB q qa qc) (hk : Keeps S w w') (h1 : ¬ S NB) (h2 : ∀ x, (Value.slice qa q.length qc).ownBlock = some x → ¬ S x) : HQ w' B NB q qa qc :=
  ⟨(hk.block _ (Array.getElem?_eq_some_iff.1 h.row).1 h1).trans h.row, own_kept h.own (fun x hx => hk.block x (ownG_lt h.own x hx) (h2 x hx))⟩
set_option maxRecDepth 100000 in
set_option maxHeartbeats 3200000 in
theorem len_ready (qa : Option Addr) (k qc : Nat) (w : World) : Calls Tryd.prog 20 #[.slice qa k qc] w fun e w' => e = .returned (.int .i64 (k : Int)) ∧ w' = w := by
  go_enter Tryd.func20, Tryd.ntmps20
  go_wp2_with fail
  go_returns
  exact ⟨rfl, rfl⟩
theorem assertI (z : Int) (w : World) : (Instr.typeAssert (.iface 3 (.int .i64 z)) 20 3 true).run Tryd.prog w = .ok (.tuple #[.int .i64 z, .bool true]) w := by
  simp [Instr.typeAssert, run_underlying Tryd.underlying3]
theorem wpList_appR (w : World) {ops : Array Oper} {rest : List Oper} {o : Oper} {a : Act} {Q : Exit → Act → World → Prop} (hgd : o.guard = none) (s x : Operand)
    (ho : o.op = .call { callee := .builtin .append, args := #[s, x], argTypes := #[59, 59] })
    (B : Nat) (v : Value) (n : Nat) (l1 : List Int) (z : Int) (q : Nat) (hs : a.eval s = v) (hown : w.ownsRow B 3 1 v n (irow l1)) (hx : a.eval x = .slice (some ⟨q, 0, none⟩) 1 1) (hq : w.heap[q]? = some (.cells #[.int .i64 z] 3 (0, 0)))
    (hn : n ≤ 999999) (hB : B ≤ w.heap.size)
    (h : ∀ g' cap w', w'.ownsRow B 3 1 (.slice (some ⟨g', 0, none⟩) (n + 1) cap) (n + 1) (irow (l1 ++ [z])) → w.grownBy w' v.ownBlock → wpList Tryd.prog ops Q rest (a.put o.dst (.slice (some ⟨g', 0, none⟩) (n + 1) cap)) w') : wpList Tryd.prog ops Q (o :: rest) a w :=
  wpList_appI w hgd s x 59 ho Tryd.underlying59 B v n l1 z q hs hown hx hq hn hB h
set_option maxRecDepth 100000 in
set_option maxHeartbeats 3200000 in
theorem push_ready (w : World) (B NB : Nat) (z : Int) (qa : Option Addr) (qc : Nat) (h : HQ w B NB [] qa qc) (hB : B ≤ w.heap.size) (hNB : B ≤ NB) :
    Calls Tryd.prog 93 #[.pointer (some ⟨NB, 0, none⟩), .iface 3 (.int .i64 z)] w fun e w' => e = .returned (.tuple #[]) ∧ ∃ qa' qc', HQ w' B NB [z] qa' qc' ∧ Keeps (fun x => x = NB ∨ (Value.slice qa 0 qc).ownBlock = some x) w w' := by
  have H := Lib.hid h
  have c0 : w.cell? ⟨NB, 0, none⟩ = some (.slice qa 0 qc) := by rw [cell_of_row w NB 0 _ _ _ h.row]; rfl
  clear h
  have HO : Hid (w.ownsRow B 3 1 (.slice qa 0 qc) 0 (irow [])) := Lib.hid H.out.own
  have hta := assertI z
  go_enter Tryd.func93, Tryd.ntmps93
  go_wp2_with (at_builtin; refine wpList_appR _ rfl (.tmp 15) (.tmp 17) rfl B (.slice qa 0 qc) 0 [] z w.heap.size rfl (HO.out.alloc _) rfl (heap_alloc_new _ _) (by omega) (by simp; omega) ?_)
  intro g' cap w2 ho hg
  have hk : Keeps (fun x => (Value.slice qa 0 qc).ownBlock = some x) w w2 := ((Keeps.refl _ _).alloc _).grown hg (fun q e => .inl e)
  have hr : w2.heap[NB]? = some (.cells #[.slice qa 0 qc] 59 (0, 0)) := (hk.block _ (Array.getElem?_eq_some_iff.1 H.out.row).1 (fun e => by obtain ⟨cs, hc⟩ := own_typ HO.out e; exact ne_type H.out.row hc (by decide) rfl)).trans H.out.row
  have c2 : w2.cell? ⟨NB, 0, none⟩ = some (.slice qa 0 qc) := by rw [cell_of_row w2 NB 0 _ _ _ hr]; rfl
  have f2 : w2.frozen? ⟨NB, 0, none⟩ = false := frozen_of_row w2 NB 0 _ _ hr
  have HR := Lib.hid (And.intro ho (And.intro hk hr))
  clear ho hg hk hr c0
  go_wp2_with fail
  go_returns
  obtain ⟨ho, hk, hr⟩ := HR.out
  have hs := setC w2 ⟨NB, 0, none⟩ (.slice (some ⟨g', 0, none⟩) (0 + 1) cap)
  refine ⟨rfl, some ⟨g', 0, none⟩, cap, ⟨?_, ?_⟩, ?_⟩
  · rw [heap_setCell_same w2 NB 0 _ _ _ hr]; rfl
  · exact own_kept ho (fun q hq => hs.block q (ownG_lt ho q hq) (fun e => by obtain ⟨cs, hc⟩ := own_typ ho hq; exact ne_type hr hc (by decide) e.symm))
  · exact (hk.mono (fun _ _ e => .inr e)).trans hs (fun q _ e => .inl e)
set_option maxRecDepth 100000 in
set_option maxHeartbeats 3200000 in
theorem up_ready (w : World) (v : Value) : Calls Tryd.prog 32 #[v, .int .i64 0] w fun e w' => e = .returned (.tuple #[]) ∧ Keeps No w w' := by
  go_enter Tryd.func32, Tryd.ntmps32
  go_wp2_with fail
  go_loopg [1] 0 (fun k x wr => x = .int .i64 0 ∧ wr = w)
  case atStart => exact ⟨rfl, rfl⟩
  case round =>
    obtain ⟨rfl, rfl⟩ := hrel
    go_wp2_with fail
    go_returns
    exact ⟨rfl, Keeps.refl _ _⟩
set_option maxRecDepth 100000 in
set_option maxHeartbeats 3200000 in
theorem heapPush_any (w : World) (B NB : Nat) (z : Int) (qa : Option Addr) (qc : Nat) (h : HQ w B NB [] qa qc) (hB : B ≤ w.heap.size) (hNB : B ≤ NB) :
    Calls Tryd.prog 19 #[.iface 58 (.pointer (some ⟨NB, 0, none⟩)), .iface 3 (.int .i64 z)] w fun e w' => e = .returned (.tuple #[]) ∧ ∃ qa' qc', HQ w' B NB [z] qa' qc' ∧ Keeps (fun x => x = NB ∨ (Value.slice qa 0 qc).ownBlock = some x) w w' := by
  have HP := Lib.hid (push_ready w B NB z qa qc h hB hNB)
  clear h
  go_enter Tryd.func19, Tryd.ntmps19
  go_wp2_with fail
  refine HP.out.mono ?_
  rintro e w2 ⟨rfl, qa2, qc2, h2, hk2⟩
  have c2 : w2.cell? ⟨NB, 0, none⟩ = some (.slice qa2 1 qc2) := by rw [cell_of_row w2 NB 0 _ _ _ h2.row]; rfl
  have HH := Lib.hid (And.intro h2 hk2)
  clear h2 hk2 HP
  have hml := fun fuel => meth_any _ "Len" fact_len fuel c2
  go_wp2_with fail
  refine (len_ready qa2 1 qc2 w2).mono ?_
  rintro e w3 ⟨rfl, rfl⟩
  go_wp2_with fail
  refine (up_ready _ _).mono ?_
  rintro e w3 ⟨rfl, hk3⟩
  have HK3 := Lib.hid hk3
  clear hk3 hml c2
  go_wp2_with fail
  go_returns
  exact ⟨rfl, qa2, qc2, HH.out.1.keep HK3.out (fun e => e) (fun _ _ e => e), HH.out.2.trans HK3.out (fun _ _ e => e.elim)⟩
set_option maxRecDepth 100000 in
set_option maxHeartbeats 6400000 in
theorem swap_ready (w : World) (B g qc : Nat) (z : Int) (h : w.ownsRow B 3 1 (.slice (some ⟨g, 0, none⟩) 1 qc) 1 (irow [z])) :
    Calls Tryd.prog 94 #[.slice (some ⟨g, 0, none⟩) 1 qc, .int .i64 0, .int .i64 0] w fun e w' => e = .returned (.tuple #[]) ∧ w'.ownsRow B 3 1 (.slice (some ⟨g, 0, none⟩) 1 qc) 1 (irow [z]) ∧ Keeps (fun x => x = g) w w' := by
  have c0 : w.cell? ⟨g, 0, none⟩ = some (.int .i64 z) := by rw [World.ownsRow.cellAt h 0 (by omega)]; rfl
  have f0 := World.ownsRow.frozenAt h 0
  have H := Lib.hid h
  have hcap : 1 ≤ qc ∧ qc ≤ 9223372036854775807 := by
    rcases h.2 with ⟨h1, _⟩ | ⟨g1, cap, cur, h1, _, _, h4, h5, _⟩
    · cases h1
    · injection h1 with _ _ e; subst e; exact ⟨h4, h5⟩
  clear h
  go_enter Tryd.func94, Tryd.ntmps94
  go_region
  go_wp2_with fail
  go_returns
  have e1 := (World.ownsRow.stored (World.ownsRow.stored H.out 0 (.int .i64 z)).1 0 (.int .i64 z)).1
  exact ⟨rfl, e1, ((((Keeps.refl (fun x => x = g) w).setCell (.inl rfl) _).setCell (.inl rfl) _)).drew⟩
set_option maxRecDepth 100000 in
set_option maxHeartbeats 6400000 in
theorem down_ready (w : World) (v : Value) : Calls Tryd.prog 44 #[v, .int .i64 0, .int .i64 0] w fun e w' => (∃ b, e = .returned (.bool b)) ∧ Keeps No w w' := by
  go_enter Tryd.func44, Tryd.ntmps44
  go_wp2_with fail
  go_loopg [7] 0 (fun k x wr => x = .int .i64 0 ∧ wr = w)
  case atStart => exact ⟨rfl, rfl⟩
  case round =>
    obtain ⟨rfl, rfl⟩ := hrel
    go_wp2_with fail
    go_returns
    exact ⟨⟨_, rfl⟩, Keeps.refl _ _⟩
set_option maxRecDepth 100000 in
set_option maxHeartbeats 6400000 in
theorem pop_ready (w : World) (B NB g : Nat) (z : Int) (qc : Nat) (h : HQ w B NB [z] (some ⟨g, 0, none⟩) qc) :
    Calls Tryd.prog 92 #[.pointer (some ⟨NB, 0, none⟩)] w fun e w' => e = .returned (.iface 3 (.int .i64 z)) ∧ HQ w' B NB [] (some ⟨g, 0, none⟩) qc ∧ Keeps (fun x => x = NB) w w' := by
  have H := Lib.hid h
  have c0 : w.cell? ⟨NB, 0, none⟩ = some (.slice (some ⟨g, 0, none⟩) 1 qc) := by rw [cell_of_row w NB 0 _ _ _ h.row]; rfl
  have f0 : w.frozen? ⟨NB, 0, none⟩ = false := frozen_of_row w NB 0 _ _ h.row
  have cz : w.cell? ⟨g, 0, none⟩ = some (.int .i64 z) := by
    have ho := h.own
    simp only [List.length_singleton] at ho
    rw [World.ownsRow.cellAt ho 0 (by omega)]; rfl
  have hcap : 1 ≤ qc ∧ qc ≤ 9223372036854775807 := by
    rcases h.own.2 with ⟨h1, _⟩ | ⟨g1, cap, cur, h1, _, _, h4, h5, _⟩
    · cases h1
    · injection h1 with _ _ e; subst e; exact ⟨h4, h5⟩
  clear h
  go_enter Tryd.func92, Tryd.ntmps92
  go_wp2_with fail
  go_returns
  have hs := setC w ⟨NB, 0, none⟩ (.slice (some ⟨g, 0, none⟩) 0 qc)
  refine ⟨rfl, ⟨?_, ?_⟩, hs⟩
  · rw [heap_setCell_same w NB 0 _ _ _ H.out.row]; rfl
  · rcases H.out.own.2 with ⟨h1, _⟩ | ⟨g1, cap, cur, h1, h2, h3, h4, h5, h6, _⟩
    · cases h1
    · cases h1
      refine ⟨rfl, .inr ⟨g, qc, cur, rfl, h2, ?_, Nat.zero_le _, h5, h6, rfl⟩⟩
      exact (hs.block g (Array.getElem?_eq_some_iff.1 h3).1 (fun e => ne_type H.out.row h3 (by decide) e.symm)).trans h3
set_option maxRecDepth 100000 in
set_option maxHeartbeats 6400000 in
theorem heapPop_any (w : World) (B NB : Nat) (z : Int) (qa : Option Addr) (qc : Nat) (h : HQ w B NB [z] qa qc) :
    Calls Tryd.prog 33 #[.iface 58 (.pointer (some ⟨NB, 0, none⟩))] w fun e w' => e = .returned (.iface 3 (.int .i64 z)) ∧ HQ w' B NB [] qa qc ∧ Keeps (fun x => x = NB ∨ (Value.slice qa 1 qc).ownBlock = some x) w w' := by
  obtain ⟨g, rfl⟩ : ∃ g, qa = some ⟨g, 0, none⟩ := by
    rcases h.own.2 with ⟨h1, h2⟩ | ⟨g1, cap, cur, h1, _⟩
    · cases h2
    · injection h1 with h1 _ _; exact ⟨g1, h1⟩
  have H := Lib.hid h
  have c0 : w.cell? ⟨NB, 0, none⟩ = some (.slice (some ⟨g, 0, none⟩) 1 qc) := by rw [cell_of_row w NB 0 _ _ _ h.row]; rfl
  have HSW := Lib.hid (swap_ready w B g qc z h.own)
  clear h
  have hml := fun fuel => meth_any _ "Len" fact_len fuel c0
  have hms := fun fuel => meth_any _ "Swap" fact_swap fuel c0
  go_enter Tryd.func33, Tryd.ntmps33
  go_wp2_with fail
  refine (len_ready (some ⟨g, 0, none⟩) 1 qc w).mono ?_
  rintro e w1 ⟨rfl, rfl⟩
  go_wp2_with fail
  refine HSW.out.mono ?_
  rintro e w2 ⟨rfl, ho2, hk2⟩
  have hgn : NB ≠ g := by obtain ⟨cs, hc⟩ := own_typ H.out.own rfl; exact ne_type H.out.row hc (by decide)
  have H2 : Hid (HQ w2 B NB [z] (some ⟨g, 0, none⟩) qc) := Lib.hid ⟨(hk2.block _ (Array.getElem?_eq_some_iff.1 H.out.row).1 hgn).trans H.out.row, ho2⟩
  have HK2 := Lib.hid hk2
  clear ho2 hk2 hml hms c0 HSW hgn
  go_wp2_with fail
  refine (down_ready _ _).mono ?_
  rintro e w3 ⟨⟨b, rfl⟩, hk3⟩
  have HP := Lib.hid (pop_ready w3 B NB g z qc (H2.out.keep hk3 (fun e => e) (fun _ _ e => e)))
  have HK3 := Lib.hid hk3
  clear hk3
  go_wp2_with fail
  refine HP.out.mono ?_
  rintro e w4 ⟨rfl, h4, hk4⟩
  have H4 := Lib.hid (And.intro h4 hk4)
  clear h4 hk4 HP
  go_wp2_with fail
  go_returns
  exact ⟨rfl, H4.out.1, ((HK2.out.mono (fun x _ e => .inr (by rw [e]; rfl))).trans HK3.out (fun _ _ e => e.elim)).trans H4.out.2 (fun x _ e => .inl e)⟩
set_option maxRecDepth 100000 in
set_option maxHeartbeats 6400000 in
theorem take_any (w : World) (B NB : Nat) (z : Int) (qa : Option Addr) (qc : Nat) (h : HQ w B NB [z] qa qc) :
    Calls Tryd.prog 21 #[.pointer (some ⟨NB, 0, none⟩)] w fun e w' => e = .returned (.int .i64 z) ∧ HQ w' B NB [] qa qc ∧ Keeps (fun x => x = NB ∨ (Value.slice qa 1 qc).ownBlock = some x) w w' := by
  have HP := Lib.hid (heapPop_any w B NB z qa qc h)
  have hta := assertI z
  clear h
  go_enter Tryd.func21, Tryd.ntmps21
  go_wp2_with fail
  refine HP.out.mono ?_
  rintro e w4 ⟨rfl, h4, hk4⟩
  have H4 := Lib.hid (And.intro h4 hk4)
  clear h4 hk4 HP
  go_wp2_with fail
  go_returns
  exact ⟨rfl, H4.out⟩
end Go.Proofs.YtkiimljdoebclaaDoor
