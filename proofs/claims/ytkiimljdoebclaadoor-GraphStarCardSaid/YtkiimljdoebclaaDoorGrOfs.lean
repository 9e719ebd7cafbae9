/- gather: what a function's instructions tell. -/
import Derived.Test.YtkiimljdoebclaaDoorGrEachs
import Derived.Test.YtkiimljdoebclaaDoorIrMay
import Derived.Test.YtkiimljdoebclaaDoorMmMap
import Derived.DeepKeys5
import Derived.Maps.OwnIn
namespace Go.Proofs.YtkiimljdoebclaaDoor
open Go.RowKit
set_option linter.unusedVariables false
set_option linter.unusedSimpArgs false

def Fx.ins (f : Fx) : List Ix := f.bl.flatMap (fun B => B.l)
theorem three_set {w : World} {R : Nat} {x0 x1 x2 a b c : Value} {T : TypeId} (h : w.heap[R]? = some (.cells #[x0, x1, x2] T (0, 0))) :
    Keeps (fun q => q = R) w (((w.setCell ⟨R, 0, none⟩ a).setCell ⟨R, 1, none⟩ b).setCell ⟨R, 2, none⟩ c) ∧ (((w.setCell ⟨R, 0, none⟩ a).setCell ⟨R, 1, none⟩ b).setCell ⟨R, 2, none⟩ c).heap[R]? = some (.cells #[a, b, c] T (0, 0)) := by
  have h1 : (w.setCell ⟨R, 0, none⟩ a).heap[R]? = some (.cells #[a, x1, x2] T (0, 0)) := by rw [heap_setCell_same w R 0 _ _ _ h]; rfl
  have h2 : ((w.setCell ⟨R, 0, none⟩ a).setCell ⟨R, 1, none⟩ b).heap[R]? = some (.cells #[a, b, x2] T (0, 0)) := by rw [heap_setCell_same _ R 1 _ _ _ h1]; rfl
  exact ⟨(((Keeps.refl (fun q => q = R) w).setCell (.inl rfl) _).setCell (.inl rfl) _).setCell (.inl rfl) _, by rw [heap_setCell_same _ R 2 _ _ _ h2]; rfl⟩
/-- What gather answers. -/
def FactsPost (w : World) (l m : List Int) (e : Ending) (w' : World) : Prop := ∃ sa sc ta tc, e = .returned (.agg #[.slice sa l.length sc, .slice ta m.length tc, .int .i64 0]) ∧
  w'.ownsRow w.heap.size 3 1 (.slice sa l.length sc) l.length (irow l) ∧ w'.ownsRow w.heap.size 3 1 (.slice ta m.length tc) m.length (irow m) ∧ (∀ q, (Value.slice sa l.length sc).ownBlock = some q → (Value.slice ta m.length tc).ownBlock ≠ some q) ∧ Keeps No w w'
theorem gf_new (w : World) : GF w (w.alloc (.cells #[.slice none 0 0, .slice none 0 0, .int .i64 0] 67)) w.heap.size none 0 none 0 [] [] :=
  ⟨(Keeps.refl _ _).alloc _, Nat.le_refl _, heap_alloc_new _ _, World.ownsRow_nil _ _ _ _, World.ownsRow_nil _ _ _ _, fun q h => (nomatch h), fun q h => (nomatch h), fun q h => (nomatch h)⟩
theorem flat_len {α β : Type} (g : α → List β) (hg : ∀ x, (g x).length ≤ 1) (l : List α) : (l.flatMap g).length ≤ l.length := by
  induction l with
  | nil => simp
  | cons a t ih => rw [List.flatMap_cons, List.length_append, List.length_cons]; have := hg a; omega
theorem named_len (x : Ix) : (namedX x).length ≤ 1 := by unfold namedX; split <;> simp
theorem funcs_len (x : Ix) : (funcsX x).length ≤ 1 := by unfold funcsX; split <;> simp
set_option maxRecDepth 100000 in
set_option maxHeartbeats 12800000 in
theorem gather_any (f : Fx) (fb fo : Nat) (w : World) (hf : f.at_ w fb fo) (hok : FxOk w f) (hops : ∀ x ∈ f.ins, x.op ≠ 11 ∧ x.op ≠ 20) (hn : f.ins.length ≤ 999999) :
    Calls Tryd.prog 25 #[.pointer (some ⟨fb, fo, none⟩)] w (FactsPost w (f.ins.flatMap namedX) (f.ins.flatMap funcsX)) := by
  have HE : Hid (∀ w1, Keeps No w w1 → Calls Tryd.prog 35 #[.pointer (some ⟨fb, fo, none⟩), .func (.func 36) #[] #[.pointer (some ⟨w1.heap.size, 0, none⟩)]] (w1.alloc (.cells #[.slice none 0 0, .slice none 0 0, .int .i64 0] 67)) fun e w' => e = .returned (.tuple #[]) ∧ ∃ sa sc ta tc, GF w1 w' w1.heap.size sa sc ta tc (f.ins.flatMap namedX) (f.ins.flatMap funcsX)) := Lib.hid (fun w1 hk => by
    refine weach_any f fb fo w1 _ 36 #[.pointer (some ⟨w1.heap.size, 0, none⟩)] (fun l W => ∃ sa sc ta tc, GF w1 W w1.heap.size sa sc ta tc (l.flatMap namedX) (l.flatMap funcsX)) (hf.no hk) (hok.no hk) (fun _ _ => rfl) ⟨none, 0, none, 0, gf_new w1⟩ (fun l W h => ?_) (fun l x b off W h hx hm ht => ?_)
    · obtain ⟨_, _, _, _, h⟩ := h; exact h.kp
    · obtain ⟨sa, sc, ta, tc, h⟩ := h
      obtain ⟨t, ht⟩ := ht
      have hxm : x ∈ f.ins := by unfold Fx.ins; rw [← ht]; simp
      obtain ⟨h11, h20⟩ := hops x hxm
      have hll : l.length ≤ 999999 := by
        have := congrArg List.length ht
        rw [List.length_append] at this
        unfold Fx.ins at hn
        omega
      have l1 := flat_len namedX named_len l
      have l2 := flat_len funcsX funcs_len l
      refine (gather1_any w1 W hx h h11 h20 (by omega) (by omega)).mono ?_
      rintro e W' ⟨rfl, q⟩
      refine ⟨rfl, ?_⟩
      rw [List.flatMap_append, List.flatMap_append]
      simpa using q)
  obtain ⟨L, hL⟩ : ∃ L, f.ins.flatMap namedX = L := ⟨_, rfl⟩
  obtain ⟨M, hM⟩ : ∃ L, f.ins.flatMap funcsX = L := ⟨_, rfl⟩
  rw [hL, hM] at HE ⊢
  clear hf hok hops hn hL hM
  go_enter Tryd.func25, Tryd.ntmps25
  go_wp2_with fail
  have hz : w.heap.size + 1 = (w.alloc (.cells #[.slice none 0 0, .slice none 0 0, .int .i64 0] 67)).heap.size := by simp
  have hk1 : Keeps No w (w.alloc (.cells #[.slice none 0 0, .slice none 0 0, .int .i64 0] 67)) := (Keeps.refl _ _).alloc _
  have hr1 : (w.alloc (.cells #[.slice none 0 0, .slice none 0 0, .int .i64 0] 67)).heap[w.heap.size]? = some (.cells #[.slice none 0 0, .slice none 0 0, .int .i64 0] 67 (0, 0)) := heap_alloc_new _ _
  rw [hz]
  generalize w.alloc (.cells #[.slice none 0 0, .slice none 0 0, .int .i64 0] 67) = w1 at hk1 hr1 ⊢
  obtain ⟨R, hR⟩ : ∃ q, w.heap.size = q := ⟨_, rfl⟩
  rw [hR] at hr1 ⊢
  refine (HE.out w1 hk1).mono ?_
  rintro e w2 ⟨rfl, sa, sc, ta, tc, hg⟩
  have hR2 := (hg.kp.block R (Array.getElem?_eq_some_iff.1 hr1).1 (fun e => e)).trans hr1
  have hRO : R < w1.heap.size := (Array.getElem?_eq_some_iff.1 hr1).1
  obtain ⟨O, hO⟩ : ∃ q, w1.heap.size = q := ⟨_, rfl⟩
  rw [hO] at hRO hg ⊢
  have o0 : w2.cell? ⟨O, 0, none⟩ = some (.slice sa L.length sc) := by rw [cell_of_row w2 O 0 _ _ _ hg.row]; rfl
  have o1 : w2.cell? ⟨O, 1, none⟩ = some (.slice ta M.length tc) := by rw [cell_of_row w2 O 1 _ _ _ hg.row]; rfl
  have o2 : w2.cell? ⟨O, 2, none⟩ = some (.int .i64 0) := by rw [cell_of_row w2 O 2 _ _ _ hg.row]; rfl
  have r0 : w2.cell? ⟨R, 0, none⟩ = some (.slice none 0 0) := by rw [cell_of_row w2 R 0 _ _ _ hR2]; rfl
  have r1 : w2.cell? ⟨R, 1, none⟩ = some (.slice none 0 0) := by rw [cell_of_row w2 R 1 _ _ _ hR2]; rfl
  have r2 : w2.cell? ⟨R, 2, none⟩ = some (.int .i64 0) := by rw [cell_of_row w2 R 2 _ _ _ hR2]; rfl
  have z0 : w2.frozen? ⟨R, 0, none⟩ = false := frozen_of_row w2 R 0 _ _ hR2
  have z1 : w2.frozen? ⟨R, 1, none⟩ = false := frozen_of_row w2 R 1 _ _ hR2
  have z2 : w2.frozen? ⟨R, 2, none⟩ = false := frozen_of_row w2 R 2 _ _ hR2
  have hkw : Keeps No w w2 := hk1.trans hg.kp (fun _ _ e => e)
  have HKW := Lib.hid hkw
  have HG := Lib.hid hg
  have HRO := Lib.hid hRO
  have HR := Lib.hid hR
  have HOO := Lib.hid hO
  have HK1 := Lib.hid hk1
  have HRR := Lib.hid hR2
  clear hg hkw hRO hR hO hk1 hz hr1 hR2 HE
  go_wp2_with fail
  obtain ⟨hk3, hr3⟩ := three_set (a := .slice sa L.length sc) (b := .slice ta M.length tc) (c := .int .i64 0) HRR.out
  generalize ((w2.setCell ⟨R, 0, none⟩ (.slice sa L.length sc)).setCell ⟨R, 1, none⟩ (.slice ta M.length tc)).setCell ⟨R, 2, none⟩ (.int .i64 0) = w3 at hk3 hr3 ⊢
  have t0 : w3.cell? ⟨R, 0, none⟩ = some (.slice sa L.length sc) := by rw [cell_of_row w3 R 0 _ _ _ hr3]; rfl
  have t1 : w3.cell? ⟨R, 1, none⟩ = some (.slice ta M.length tc) := by rw [cell_of_row w3 R 1 _ _ _ hr3]; rfl
  have t2 : w3.cell? ⟨R, 2, none⟩ = some (.int .i64 0) := by rw [cell_of_row w3 R 2 _ _ _ hr3]; rfl
  have hsz : w.heap.size ≤ w1.heap.size := HK1.out.size
  refine bodyPost_ret (v := .agg #[.slice sa L.length sc, .slice ta M.length tc, .int .i64 0]) (by simp [results, Tryd.results25, go_sem, t0, t1, t2]) rfl ⟨sa, sc, ta, tc, rfl, ?_, ?_, HG.out.nlm, ?_⟩
  · exact own_mono (own_kept HG.out.own (fun q hq => hk3.block q (ownG_lt HG.out.own q hq) (fun e => by have := ownG_lo HG.out.own q hq; have := HRO.out; have := HOO.out; omega))) hsz
  · exact own_mono (own_kept HG.out.owm (fun q hq => hk3.block q (ownG_lt HG.out.owm q hq) (fun e => by have := ownG_lo HG.out.owm q hq; have := HRO.out; have := HOO.out; omega))) hsz
  · exact HKW.out.trans hk3 (fun q hq e => by have := HR.out; omega)
end Go.Proofs.YtkiimljdoebclaaDoor
/- All functions' instructions: walk.EachOf; pieces of a program without globals. -/
namespace Go.Proofs.YtkiimljdoebclaaDoor
open Go.RowKit
set_option linter.unusedVariables false
set_option linter.unusedSimpArgs false

def Pg.ins (p : Pg) : List Ix := p.fl.flatMap Fx.ins
set_option maxRecDepth 100000 in
set_option maxHeartbeats 12800000 in
theorem eachOf_any (p : Pg) (pb po : Nat) (w0 w : World) (F : FuncId) (caps : Array Value) (J : List Ix → World → Prop) (hp : p.at_ w0 pb po) (hok : PgOk w0 p) (hF : ∀ (as' : Array Value) (W1 : World), (callFunc F as').run Tryd.prog W1 = .ok (.enter F as') W1)
    (hJ0 : J [] w) (hJk : ∀ l W, J l W → Keeps No w0 W) (hc : ∀ l x b off W, J l W → x.at_ w0 b off → (∃ t, l ++ x :: t = p.ins) → Calls Tryd.prog F (#[.pointer (some ⟨b, off, none⟩)] ++ caps) W fun e W' => e = .returned (.tuple #[]) ∧ J (l ++ [x]) W') :
    Calls Tryd.prog 37 #[.pointer (some ⟨pb, po, none⟩), .func (.func F) #[] caps] w fun e w' => e = .returned (.tuple #[]) ∧ J p.ins w' := by
  have c1 := hp 1 _ rfl
  have HOK := Lib.hid hok
  have HJ := Lib.hid hJ0
  have HJK := Lib.hid hJk
  have HC := Lib.hid hc
  have HFF := Lib.hid hF
  have hcap := hok.fcap
  unfold maxLen at hcap
  obtain ⟨n, hn⟩ : ∃ bn, p.fn = bn := ⟨_, rfl⟩
  obtain ⟨A, hA⟩ : ∃ A, p.fa = A := ⟨_, rfl⟩
  obtain ⟨fc, hfc⟩ : ∃ A, p.fc = A := ⟨_, rfl⟩
  rw [hn, hA, hfc] at c1; rw [hn, hfc] at hcap
  have HC1 := Lib.hid c1
  have HN := Lib.hid hn
  have HA := Lib.hid hA
  have cw := (hJk _ _ hJ0).cell0 c1
  clear hp hok hJ0 hJk hc hn hA hfc c1 hF
  go_enter Tryd.func37, Tryd.ntmps37
  go_wp2_with fail
  clear cw
  go_loopg [10] n (fun g v wr => ∃ i : Nat, v = .int .i64 (i : Int) ∧ i ≤ n ∧ g = n - i ∧ Hid (J ((p.fl.take i).flatMap Fx.ins) wr))
  case atStart => exact ⟨0, rfl, Nat.zero_le _, rfl, HJ⟩
  case round =>
    obtain ⟨i, rfl, hi, rfl, HR⟩ := hrel
    by_cases hlt : i < n
    · have hlt' : (i : Int) < (n : Int) := by omega
      have i0 : (0 : Int) ≤ (i : Int) := by omega
      obtain ⟨fb, fo, f, hf, ha, hat, hfo⟩ := Pg.fget HOK.out (i := i) (by rw [HN.out]; exact hlt)
      obtain rfl := HA.out.symm.trans ha
      have d1 := (HJK.out _ _ HR.out).cell0 HC1.out
      have hel : p.fl = p.fl.take i ++ f :: p.fl.drop (i + 1) := by
        rw [← (List.getElem?_eq_some_iff.1 hf).2, ← List.drop_eq_getElem_cons, List.take_append_drop]
      have HT : Hid ((p.fl.take (i + 1)).flatMap Fx.ins = (p.fl.take i).flatMap Fx.ins ++ f.ins) := Lib.hid (by rw [List.take_add_one, hf, List.flatMap_append]; simp)
      have HE := Lib.hid (weach_any f fb (fo + i * 6) w0 wr F caps (fun l W => J ((p.fl.take i).flatMap Fx.ins ++ l) W) hat hfo HFF.out (by rw [List.append_nil]; exact HR.out) (fun l W h => HJK.out _ _ h) (fun l x b off W h hx _ ht => by
        rw [← List.append_assoc]
        refine HC.out _ x b off W h hx ?_
        obtain ⟨t, ht⟩ := ht
        refine ⟨t ++ (p.fl.drop (i + 1)).flatMap Fx.ins, ?_⟩
        have e : p.ins = (p.fl.take i).flatMap Fx.ins ++ (f.ins ++ (p.fl.drop (i + 1)).flatMap Fx.ins) := by
          unfold Pg.ins
          conv => lhs; rw [hel]
          rw [List.flatMap_append, List.flatMap_cons]
        have ht' : l ++ x :: t = f.ins := ht
        rw [e, ← ht']
        simp [List.append_assoc]))
      clear hf hat hfo hel
      go_wp2_with fail
      refine Calls.mono HE.out ?_
      rintro e w2 ⟨rfl, hj2⟩
      have HJ2 := Lib.hid hj2
      clear hj2 HE d1
      go_wp2_with fail
      go_roundg (n - (i + 1))
      case rel => exact ⟨i + 1, by go_num, by omega, rfl, Lib.hid (by rw [HT.out]; exact HJ2.out)⟩
      case measure => omega
    · have hlt' : ¬ (i : Int) < (n : Int) := by omega
      have HF : Hid (J p.ins wr) := Lib.hid (by
        have hlen := HOK.out.flen
        have := HN.out
        have e := HR.out
        rw [List.take_of_length_le (by omega)] at e
        exact e)
      go_wp2_with fail
      go_returns
      exact ⟨rfl, HF.out⟩
set_option maxRecDepth 100000 in
set_option maxHeartbeats 6400000 in
theorem pieces_none (p : Pg) (pb po : Nat) (w : World) (hp : p.at_ w pb po) (hg : p.gn = 0) : Calls Tryd.prog 24 #[.pointer (some ⟨pb, po, none⟩)] w fun e w' => e = .returned (.slice none 0 0) ∧ Keeps No w w' := by
  have c0 : w.cell? ⟨pb, po, none⟩ = some (.slice p.ga p.gn p.gc) := hp 0 _ rfl
  rw [hg] at c0
  clear hp hg
  go_enter Tryd.func24, Tryd.ntmps24
  go_wp2_with fail
  go_loopg [3, 13] 0 (fun g u v wr => u = .slice none 0 0 ∧ v = .int .i64 0 ∧ wr = w)
  case atStart => exact ⟨rfl, rfl, rfl⟩
  case round =>
    obtain ⟨rfl, rfl, rfl⟩ := hrel
    go_wp2_with fail
    go_returns
    exact ⟨rfl, Keeps.refl _ _⟩
end Go.Proofs.YtkiimljdoebclaaDoor
/- Sets of functions: a map of numbers; the functions whose address something has. -/
namespace Go.Proofs.YtkiimljdoebclaaDoor
open Go.RowKit Go.Maps
set_option linter.unusedVariables false
set_option linter.unusedSimpArgs false

theorem I64.wfG {x : Int} (h : I64 x) : (Lit.int .i64 x).wf = true := by
  have h1 : IntKind.i64.min = -9223372036854775808 := rfl
  have h2 : IntKind.i64.max = 9223372036854775807 := rfl
  simp [Lit.wf]
  unfold I64 at h; omega
theorem int_inv (v : Value) (x : Int) (ps : List MemPlace) (h : plainElem Tryd.prog 3 v = some (DataW.lit (H := Unit) (.int .i64 x), ps)) : v = .int .i64 x := by
  obtain ⟨a, rfl, hz, hw⟩ := plainElem_int_inv Tryd.underlying3 h
  have e : DataW.lit (.int .i64 x) = DataW.lit (H := Unit) (.int .i64 a) := congrArg Prod.fst hz
  rw [(Lit.int.inj (DataW.lit.inj e)).2]
/-- Numbers at numbers. -/
noncomputable def mapII : ML Tryd.prog Int Int where
  tm := 57
  tk := 3
  te := 3
  keyed := int_keyed Tryd.underlying3
  und := Tryd.underlying57
  kv k := .int .i64 k
  kl k := .int .i64 k
  kok := I64
  hkey k hk := keyOf_int_mk Tryd.underlying3 hk.wfG
  kvinj a b h := by injection h
  R := plainElem Tryd.prog 3
  ev x := .int .i64 x
  ed x := .lit (.int .i64 x)
  eok := I64
  hR x hx := plainElem_int Tryd.underlying3 hx.wfG
  hinv := int_inv
  z := 0
  zok := by unfold I64; omega
  hz w := by kernel_rfl
section
variable {S T : Nat → Prop} {a b c : World}
theorem Keeps.turned (h : Keeps S a b) {q : Nat} (hg : b.mapTurned c q) (hp : S q ∨ a.heap.size ≤ q) : Keeps S a c :=
  h.trans (T := fun k => k = q) ⟨hg.grown.os, hg.grown.tape, hg.grown.output, hg.grown.size, fun k hk hn => hg.grown.block k hk (fun e => hn (by injection e))⟩ (fun k hk e => by subst e; rcases hp with hp | hp; exact hp; omega)
end
theorem look_int {w : World} {b : Nat} {al : List (Int × Int)} {o : Int} (h : MapK mapII w b al) (hk : I64 o) : (Instr.lookup 57 (.map (some b)) (.int .i64 o) false).run Tryd.prog w = .ok (.int .i64 ((kget al o).getD 0)) w := h.look (M := mapII) (k := o) hk
/-- 'm[k] = v', at the operation. -/
theorem wpList_putK {κ ε : Type} [DecidableEq κ] (M : ML Tryd.prog κ ε) (w : World) {ops : Array Oper} {rest : List Oper} {o : Oper} {a : Act} {Q : Exit → Act → World → Prop}
    (hg : o.guard = none) (m x v : Operand) (hop : o.op = Op.mapUpdate M.tm m x v) (b : Nat) (al : List (κ × ε)) (k : κ) (y : ε)
    (hm : a.eval m = .map (some b)) (h : MapK M w b al) (hn : al.length < maxLen) (hx : a.eval x = M.kv k) (hv : a.eval v = M.ev y) (hk : M.kok k) (hy : M.eok y)
    (hK : ∀ w', MapK M w' b (kput al k y) → w.mapTurned w' b → wpList Tryd.prog ops Q rest (a.put o.dst undef) w') :
    wpList Tryd.prog ops Q (o :: rest) a w := by
  refine wpList_plain hg fun K' hK' => ?_
  obtain ⟨w', hrun, r1, r2⟩ := h.put hn hk hy
  unfold Oper.wp
  simp [execOp, hop, hm, hx, hv, hrun, Result.andThen]
  exact hK' _ _ (hK w' r1 r2)
/-- The set in memory: a variable c that has the map m. -/
structure TK (w0 w : World) (c m : Nat) (al : List (Int × Int)) : Prop where
  kp : Keeps No w0 w
  lo : w0.heap.size ≤ c ∧ w0.heap.size ≤ m
  row : w.heap[c]? = some (.cells #[.map (some m)] 57 (0, 0))
  mp : MapK mapII w m al
  ne : m ≠ c
theorem TK.no {w0 w w' : World} {c m : Nat} {al : List (Int × Int)} (h : TK w0 w c m al) (hk : Keeps No w w') : TK w0 w' c m al :=
  ⟨h.kp.trans hk (fun _ _ e => e), h.lo, (hk.block _ (Array.getElem?_eq_some_iff.1 h.row).1 (fun e => e)).trans h.row, h.mp.block (hk.block _ h.mp.lt (fun e => e)), h.ne⟩
theorem TK.put {w0 w w' : World} {c m : Nat} {al al' : List (Int × Int)} (h : TK w0 w c m al) (hk : w.mapTurned w' m) (hm : MapK mapII w' m al') : TK w0 w' c m al' := by
  have hk1 : Keeps (fun q => q = m) w w' := (Keeps.refl (fun q => q = m) w).turned hk (.inl rfl)
  exact ⟨h.kp.trans hk1 (fun q hq e => by have := h.lo; omega), h.lo, (hk1.block _ (Array.getElem?_eq_some_iff.1 h.row).1 (fun e => h.ne e.symm)).trans h.row, hm, h.ne⟩
def takenX (al : List (Int × Int)) (x : Ix) : List (Int × Int) := if x.op = 9 then kput al x.n 1 else al
set_option maxRecDepth 100000 in
set_option maxHeartbeats 12800000 in
theorem taken1_any {x : Ix} {b off c m : Nat} {al : List (Int × Int)} (w0 w : World) (hx : x.at_ w0 b off) (hn : I64 x.n) (h : TK w0 w c m al) (hl : al.length ≤ 999999) :
    Calls Tryd.prog 38 #[.pointer (some ⟨b, off, none⟩), .pointer (some ⟨c, 0, none⟩)] w fun e w' => e = .returned (.tuple #[]) ∧ TK w0 w' c m (takenX al x) := by
  have HG := Lib.hid h
  have c0 : w.cell? ⟨b, off, none⟩ = some (.int .i64 x.op) := h.kp.cell0 (hx 0 _ rfl)
  have c5 : w.cell? ⟨b, off + 5, none⟩ = some (.int .i64 x.n) := h.kp.cell0 (hx 5 _ rfl)
  by_cases h9 : x.op = 9
  · have e : takenX al x = kput al x.n 1 := if_pos h9
    rw [e]
    obtain ⟨N, hN⟩ : ∃ o, x.n = o := ⟨_, rfl⟩
    rw [h9] at c0
    rw [hN] at c5 hn ⊢
    have p0 : ∀ u : KW w, u.W.cell? ⟨c, 0, none⟩ = some (.map (some m)) := fun u => u.cell (by rw [cell_of_row w c 0 _ _ _ HG.out.row]; rfl)
    have p5 : ∀ u : KW w, u.W.cell? ⟨b, off + 5, none⟩ = some (.int .i64 N) := fun u => u.cell c5
    have HNI := Lib.hid hn
    have HL := Lib.hid hl
    have hne : Nonempty (KW w) := ⟨KW.of _⟩
    clear e h9 hN hn hl h hx c5
    go_enter Tryd.func38, Tryd.ntmps38
    go_upto_region 1 with fail
    refine Mix.wp_region_mix (fun W' => ∃ u : KW w, W' = u.W) [5] (by kernel_rfl) ?_
    have Hv0 : Hid (Keeps No w w.drew) := Lib.hid ((Keeps.refl _ w).drew)
    generalize w.drew = v0 at Hv0 ⊢
    refine Mix.mix_seg 0 5 1 (by kernel_rfl) (by kernel_rfl) rfl rfl ⟨⟨v0, Hv0.out⟩, rfl⟩ ?_
    simp only [List.drop_succ_cons, List.drop_zero, List.take_succ_cons, List.take_zero]
    repeat (go_big_quiet_step (fail))
    refine wpQuiet_nil ?_
    clear p0 p5
    refine Mix.mix_one 5 0 (by kernel_rfl) rfl rfl ?_
    simp only [List.drop_succ_cons, List.drop_zero, List.take_succ_cons, List.take_zero]
    have HG0 := Lib.hid (HG.out.no Hv0.out)
    go_wp2_with (at_mapUpdate; refine wpList_putK mapII _ rfl _ _ _ rfl m al N 1 rfl HG0.out.mp (by unfold maxLen; have := HL.out; omega) rfl rfl HNI.out (show I64 1 by unfold I64; omega) ?_)
    intro w' hm hk
    have HF := Lib.hid (HG0.out.put hk hm)
    clear hm hk
    go_wp2_with fail
    refine ⟨.inl ⟨rfl, rfl⟩, ?_⟩
    refine Mix.mix_end (by kernel_rfl) ?_
    go_wp2_with fail
    go_returns
    exact ⟨rfl, HF.out⟩
  · have e : takenX al x = al := if_neg h9
    rw [e]
    obtain ⟨OP, hOP⟩ : ∃ o, x.op = o := ⟨_, rfl⟩
    rw [hOP] at c0 h9
    have q3 : (OP == 9) = false := by rw [beq_eq_false_iff_ne]; exact h9
    clear h9 hOP e h hl hn c5 hx
    go_enter Tryd.func38, Tryd.ntmps38
    go_wp2_with fail
    go_returns
    exact ⟨rfl, HG.out⟩
end Go.Proofs.YtkiimljdoebclaaDoor
