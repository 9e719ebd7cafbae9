/- The four kinds of maps that the memory has. -/
import Derived.Test.YtjchfldlmabblaaMmMap
import Derived.DeepKeys5
namespace Go.Proofs.Ytjchfldlmabblaa
open Go.RowKit Go.Maps
set_option linter.unusedVariables false

theorem rb {v : Value} {a b : Bool} (hv : v = .bool a) (h : a = b) : Ending.returned v = .returned (.bool b) := by rw [hv, h]
theorem ri {v : Value} {k : IntKind} {a b : Int} (hv : v = .int k a) (h : a = b) : Ending.returned v = .returned (.int k b) := by rw [hv, h]
theorem heap_two (w : World) (o : Obj) : (w.alloc o).heap.size = w.heap.size + 1 := by simp
theorem own_form {w : World} {B : Nat} {e : TypeId} {z n : Nat} {v : Value} {xs : List Value} (h : w.ownsRow B e z v n xs) : ∃ aa ca, v = .slice aa n ca ∧ (0 < n → ∃ g, aa = some ⟨g, 0, none⟩) := by
  rcases h.2 with ⟨h1, h2⟩ | ⟨g, cap, cur, h1, _⟩
  · exact ⟨none, 0, by rw [h2]; exact h1, fun h => by omega⟩
  · exact ⟨_, _, h1, fun _ => ⟨g, rfl⟩⟩
theorem own_to {w w' : World} {B n z : Nat} {e : TypeId} {v : Value} {xs : List Value} (h : w.ownsRow B e z v n xs) (hb : Below w.heap.size w w') : w'.ownsRow B e z v n xs :=
  h.kept (row := none) ⟨hb.os, hb.tape, hb.output, hb.size, fun k hk _ => hb.block k hk⟩ (by cases hv : v.ownBlock with
    | none => exact .inl rfl
    | some q => exact .inr (by simp))
theorem below_drewN {B : Nat} {a w : World} (h : Below B a w) (n : Nat) : Below B a (w.drewN n) := ⟨h.os, h.tape, h.output, h.size, h.block⟩
def I64 (x : Int) : Prop := -9223372036854775808 ≤ x ∧ x ≤ 9223372036854775807
theorem I64.wf {x : Int} (h : I64 x) : (Lit.int .i64 x).wf = true := by
  have h1 : IntKind.i64.min = -9223372036854775808 := rfl
  have h2 : IntKind.i64.max = 9223372036854775807 := rfl
  simp [Lit.wf]
  unfold I64 at h; omega
theorem wf_I64 {z : Int} (h : (Lit.int .i64 z).wf = true) : I64 z := by
  have h1 : IntKind.i64.min = -9223372036854775808 := rfl
  have h2 : IntKind.i64.max = 9223372036854775807 := rfl
  simp [Lit.wf] at h
  unfold I64; omega
theorem int_inv (v : Value) (x : Int) (ps : List MemPlace) (h : plainElem Try.prog 3 v = some (DataW.lit (H := Unit) (.int .i64 x), ps)) : v = .int .i64 x := by
  obtain ⟨a, rfl, hz, hw⟩ := plainElem_int_inv Try.underlying3 h
  have e : DataW.lit (.int .i64 x) = DataW.lit (H := Unit) (.int .i64 a) := congrArg Prod.fst hz
  rw [(Lit.int.inj (DataW.lit.inj e)).2]
/-- Numbers at numbers. -/
noncomputable def mapII : ML Try.prog Int Int where
  tm := 77
  tk := 3
  te := 3
  keyed := int_keyed Try.underlying3
  und := Try.underlying77
  kv k := .int .i64 k
  kl k := .int .i64 k
  kok := I64
  hkey k hk := keyOf_int_mk Try.underlying3 hk.wf
  kvinj a b h := by injection h
  R := plainElem Try.prog 3
  ev x := .int .i64 x
  ed x := .lit (.int .i64 x)
  eok := I64
  hR x hx := plainElem_int Try.underlying3 hx.wf
  hinv := int_inv
  z := 0
  zok := by unfold I64; omega
  hz w := by kernel_rfl
def ptrR : Value → Option (DataW Unit × List MemPlace)
  | .pointer none => some (.nil, [])
  | .pointer (some ⟨b, 0, none⟩) => some (.lit (.int .i64 (b : Int)), [])
  | _ => none
def ptrV : Option Nat → Value
  | none => .pointer none
  | some b => .pointer (some ⟨b, 0, none⟩)
def ptrD : Option Nat → DataW Unit
  | none => .nil
  | some b => .lit (.int .i64 (b : Int))
theorem ptr_inv (v : Value) (x : Option Nat) (ps : List MemPlace) (h : ptrR v = some (ptrD x, ps)) : v = ptrV x := by
  unfold ptrR at h
  split at h
  · cases x with
    | none => rfl
    | some b => injection h with h; injection h with h _; cases h
  · cases x with
    | none => injection h with h; injection h with h _; cases h
    | some b =>
      injection h with h
      injection h with h _
      unfold ptrD at h
      injection h with h
      injection h with _ h
      have : _ = b := Int.ofNat.inj h
      subst this; rfl
  · cases h
/-- Blocks at numbers. -/
noncomputable def mapIP : ML Try.prog Int (Option Nat) where
  tm := 89
  tk := 3
  te := 94
  keyed := int_keyed Try.underlying3
  und := Try.underlying89
  kv k := .int .i64 k
  kl k := .int .i64 k
  kok := I64
  hkey k hk := keyOf_int_mk Try.underlying3 hk.wf
  kvinj a b h := by injection h
  R := ptrR
  ev := ptrV
  ed := ptrD
  eok _ := True
  hR x _ := by cases x <;> rfl
  hinv := ptr_inv
  z := none
  zok := trivial
  hz w := by kernel_rfl
theorem int_string_key {k : TypeId} {f0 f1 : Field} (hu : Try.prog.underlying k = some (.struct #[f0, f1])) (hk : Try.prog.keyType k = true) (hc : Try.prog.cellsOf k = 2) (h1 : (f0.name != "_") = true) (h2 : (f1.name != "_") = true)
    (t0 : f0.type = 3) (t1 : f1.type = 9) (o0 : f0.offset = 0) (o1 : f1.offset = 1)
    (a : Int) (t : ByteArray) (ha : I64 a) (ht : t.size ≤ maxLen) : keyOf Try.prog k (.agg #[.int .i64 a, .string t]) = some (.string (keyBytes [.int .i64 a, .string t.data.toList])) := by
  obtain ⟨m, hm⟩ : ∃ m, Try.prog.types.size = m + 1 := ⟨Try.prog.types.size - 1, by kernel_rfl⟩
  have hw := ha.wf
  have c0 : Try.prog.cellsOf 3 = 1 := by kernel_rfl
  have c1 : Try.prog.cellsOf 9 = 1 := by kernel_rfl
  unfold keyOf
  simp only [hu]
  rw [if_pos (by simp [hk, Value.formed, hu, hc]), hm]
  unfold Program.keyLits
  simp only [hu, Value.cells]
  rw [if_pos ⟨by rw [hc]; rfl, by simp [h1, h2]⟩, List.mapM_cons, List.mapM_cons, List.mapM_nil, t0, t1, o0, o1, c0, c1]
  simp [Program.keyLits, Try.underlying3, Try.underlying9, hw, ht]
theorem cell_key (a : Int) (t : ByteArray) (ha : I64 a) (ht : t.size ≤ maxLen) : keyOf Try.prog 35 (.agg #[.int .i64 a, .string t]) = some (.string (keyBytes [.int .i64 a, .string t.data.toList])) :=
  int_string_key Try.underlying35 (by kernel_rfl) (by kernel_rfl) (by kernel_rfl) (by kernel_rfl) rfl rfl rfl rfl a t ha ht
theorem held_key (a : Int) (t : ByteArray) (ha : I64 a) (ht : t.size ≤ maxLen) : keyOf Try.prog 96 (.agg #[.int .i64 a, .string t]) = some (.string (keyBytes [.int .i64 a, .string t.data.toList])) :=
  int_string_key Try.underlying96 (by kernel_rfl) (by kernel_rfl) (by kernel_rfl) (by kernel_rfl) rfl rfl rfl rfl a t ha ht
theorem cell_keyed : Keyed Try.prog 35 := Keyed.of_law (deep_law_laid (by kernel_rfl) (m := 3) (by decide) (of_decide_eq_true (by kernel_rfl)) (by kernel_rfl) (by kernel_rfl))
theorem held_keyed : Keyed Try.prog 96 := Keyed.of_law (deep_law_laid (by kernel_rfl) (m := 3) (by decide) (of_decide_eq_true (by kernel_rfl)) (by kernel_rfl) (by kernel_rfl))
/-- A place and a type's text. -/
abbrev Ck := Int × ByteArray
def ckV (k : Ck) : Value := .agg #[.int .i64 k.1, .string k.2]
def ckOk (k : Ck) : Prop := I64 k.1 ∧ k.2.size ≤ maxLen
theorem ckV_inj (a b : Ck) (h : ckV a = ckV b) : a = b := by
  obtain ⟨a1, a2⟩ := a
  obtain ⟨b1, b2⟩ := b
  unfold ckV at h
  simp at h
  obtain ⟨h1, h2⟩ := h
  subst h1 h2; rfl
/-- Cells at numbers: those that a block has. -/
noncomputable def mapCI : ML Try.prog Ck Int where
  tm := 74
  tk := 35
  te := 3
  keyed := cell_keyed
  und := Try.underlying74
  kv := ckV
  kl k := .string (keyBytes [.int .i64 k.1, .string k.2.data.toList])
  kok := ckOk
  hkey k hk := cell_key k.1 k.2 hk.1 hk.2
  kvinj := ckV_inj
  R := plainElem Try.prog 3
  ev x := .int .i64 x
  ed x := .lit (.int .i64 x)
  eok := I64
  hR x hx := plainElem_int Try.underlying3 hx.wf
  hinv := int_inv
  z := 0
  zok := by unfold I64; omega
  hz w := by kernel_rfl
/-- What a cell holds. -/
structure Vl where
  k : Int
  n : Int
  b : Int
  o : Int
  deriving DecidableEq
def vlV (x : Vl) : Value := .agg #[.int .i64 x.k, .int .i64 x.n, .int .i64 x.b, .int .i64 x.o]
def vlD (x : Vl) : DataW Unit := .agg [.lit (.int .i64 x.k), .lit (.int .i64 x.n), .lit (.int .i64 x.b), .lit (.int .i64 x.o)]
def vlOk (x : Vl) : Prop := I64 x.k ∧ I64 x.n ∧ I64 x.b ∧ I64 x.o
def vlR : Value → Option (DataW Unit × List MemPlace)
  | .agg cs => match cs.toList with
    | [.int .i64 a, .int .i64 b, .int .i64 c, .int .i64 d] => some (vlD ⟨a, b, c, d⟩, [])
    | _ => none
  | _ => none
theorem vl_inv (v : Value) (x : Vl) (ps : List MemPlace) (h : vlR v = some (vlD x, ps)) : v = vlV x := by
  unfold vlR at h
  split at h
  · split at h
    · next cs _ a b c d e =>
      obtain ⟨l⟩ := cs
      simp only at e
      subst e
      injection h with h
      injection h with h _
      unfold vlD at h
      simp at h
      obtain ⟨rfl, rfl, rfl, rfl⟩ := h
      rfl
    · cases h
  · cases h
/-- What is held besides the first one. -/
noncomputable def mapCV : ML Try.prog Ck Vl where
  tm := 97
  tk := 96
  te := 80
  keyed := held_keyed
  und := Try.underlying97
  kv := ckV
  kl k := .string (keyBytes [.int .i64 k.1, .string k.2.data.toList])
  kok := ckOk
  hkey k hk := held_key k.1 k.2 hk.1 hk.2
  kvinj := ckV_inj
  R := vlR
  ev := vlV
  ed := vlD
  eok _ := True
  hR x _ := rfl
  hinv := vl_inv
  z := ⟨0, 0, 0, 0⟩
  zok := trivial
  hz w := by kernel_rfl
end Go.Proofs.Ytjchfldlmabblaa
