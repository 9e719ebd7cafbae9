/- The law LexParts, walked. -/
import Derived.Test.YtlpoahjgonjelaaLexPartsM2
import Derived.Test.YtlpoahjgonjelaaLexSame
import Derived.Test.YtlpoahjgonjelaaLexLow
import Derived.Deep.LoopGhost
import Derived.Deep.DeepCutAuto
import Derived.BigQuiet
import Derived.Deep.RegionWith
import Derived.Deep.RegionHeld3
namespace Go.Proofs.Ytlpoahjgonjelaa
open Go.RowKit
set_option linter.unusedVariables false

def gpRow : List Value := [.string ⟨#[32]⟩, .string ⟨#[10]⟩, .string ⟨#[32, 47, 42, 32, 42, 32, 42, 47]⟩, .string ⟨#[32, 47, 47, 120, 10]⟩, .string ⟨#[9, 32, 13]⟩]
theorem gpRow_cell (w : World) (T : TypeId) {k : Nat} (hk : k < 5) : ∃ a : ByteArray, (w.alloc (.cells gpRow.toArray T)).cell? ⟨w.heap.size, k, none⟩ = some (.string a) ∧ a.data.toList = gps.getD k [] := by
  rw [World.cell?_alloc_at _ _ _ _ rfl]
  match k, hk with
  | 0, _ => exact ⟨_, rfl, rfl⟩
  | 1, _ => exact ⟨_, rfl, rfl⟩
  | 2, _ => exact ⟨_, rfl, rfl⟩
  | 3, _ => exact ⟨_, rfl, rfl⟩
  | 4, _ => exact ⟨_, rfl, rfl⟩
  | n + 5, h => exact absurd h (by omega)
/-- Which gap stands ahead of a token. -/
def gpN (g0 : Int) (i : Nat) : Nat := (IntKind.u64.wrap (IntKind.i64.wrap (g0 + (i : Int))) % 5).toNat
def gpG (g0 : Int) (i : Nat) : List UInt8 := gps.getD (gpN g0 i) []
theorem gpN_lt (g0 : Int) (i : Nat) : gpN g0 i < 5 := by
  have h1 : 0 ≤ IntKind.u64.wrap (IntKind.i64.wrap (g0 + (i : Int))) % 5 ∧ IntKind.u64.wrap (IntKind.i64.wrap (g0 + (i : Int))) % 5 < 5 := ⟨Int.emod_nonneg _ (by decide), Int.emod_lt_of_pos _ (by decide)⟩
  unfold gpN; omega
theorem gpN_eq (g0 : Int) (i : Nat) : IntKind.u64.wrap (IntKind.i64.wrap (g0 + (i : Int))) % 5 = (gpN g0 i : Int) := by
  have h1 : 0 ≤ IntKind.u64.wrap (IntKind.i64.wrap (g0 + (i : Int))) % 5 := Int.emod_nonneg _ (by decide)
  unfold gpN; omega
theorem gpG_mem (g0 : Int) (i : Nat) : gpG g0 i ∈ gps := by
  have h : gpN g0 i < gps.length := gpN_lt g0 i
  unfold gpG
  rw [List.getD_eq_getElem?_getD, List.getElem?_eq_getElem h]
  exact List.getElem_mem h
theorem rbl_take {s : ByteArray} {G : Nat → List UInt8} (hG : ∀ k, G k ∈ gps) {L : List Lx.Tk} (hC : Chain s 0 L) (hs : s.size ≤ 600) (hL : L.length ≤ 600) (k : Nat) : (rbl G 0 (L.take k)).length ≤ 5400 := by
  have h1 := rbl_chain s G hG L 0 0 hC
  have h2 : ∀ (A B : List Lx.Tk) (j : Nat), (rbl G j A).length ≤ (rbl G j (A ++ B)).length := by
    intro A
    induction A with
    | nil => intro B j; exact Nat.zero_le _
    | cons t A ih => intro B j; have := ih B (j + 1); rw [List.cons_append, rbl, rbl]; simp only [List.length_append]; omega
  have h3 := h2 (L.take k) (L.drop k) 0
  rw [List.take_append_drop] at h3
  omega
theorem rbl_next {G : Nat → List UInt8} {L : List Lx.Tk} {k : Nat} {t : Lx.Tk} {A a : ByteArray} (ht : L[k]? = some t) (hA : A.data.toList = rbl G 0 (L.take k)) (ha : a.data.toList = G k) : (A ++ a ++ t.text).data.toList = rbl G 0 (L.take (k + 1)) := by
  have hk : k < L.length := (List.getElem?_eq_some_iff.1 ht).1
  rw [List.take_add_one, ht]
  show _ = rbl G 0 (L.take k ++ [t])
  rw [rbl_snoc, List.length_take, Nat.min_eq_left (by omega), Nat.zero_add]
  simp [hA, ha]
theorem end_next {L : List Lx.Tk} {k : Nat} {t : Lx.Tk} (ht : L[k]? = some t) : endOf 0 (L.take (k + 1)) = t.at_ + t.text.size := by
  rw [List.take_add_one, ht]; exact endOf_snoc _ _ _
theorem each_at {s : ByteArray} {L : List Lx.Tk} {k : Nat} {t : Lx.Tk} (hC : Chain s 0 L) (ht : L[k]? = some t) : endOf 0 (L.take k) ≤ t.at_ ∧ t.at_ + t.text.size ≤ s.size ∧ s.extract t.at_ (t.at_ + t.text.size) = t.text := by
  obtain ⟨hk, he⟩ := List.getElem?_eq_some_iff.1 ht
  have h := chain_each s L 0 hC (L.take k) t (L.drop (k + 1)) (by rw [← he, ← List.drop_eq_getElem_cons hk, List.take_append_drop])
  exact ⟨h.1, h.2.1, h.2.2.1⟩
theorem own_form {w : World} {B : Nat} {e : TypeId} {z n : Nat} {v : Value} {xs : List Value} (h : w.ownsRow B e z v n xs) : ∃ aa ca, v = .slice aa n ca ∧ (0 < n → ∃ g, aa = some ⟨g, 0, none⟩) := by
  rcases h.2 with ⟨h1, h2⟩ | ⟨g, cap, cur, h1, _⟩
  · exact ⟨none, 0, by rw [h2]; exact h1, fun h => by omega⟩
  · exact ⟨_, _, h1, fun _ => ⟨g, rfl⟩⟩
theorem noAt_at {L L' : List Lx.Tk} {k : Nat} {t t' : Lx.Tk} (h : L'.map noAt = L.map noAt) (ht : L[k]? = some t) (ht' : L'[k]? = some t') : t'.kind = t.kind ∧ t'.text = t.text ∧ t'.suf = t.suf ∧ t'.num = t.num ∧ t'.hex = t.hex := by
  have e := congrArg (fun l => l[k]?) h
  rw [List.getElem?_map, List.getElem?_map, ht, ht'] at e
  simp [noAt] at e
  exact e
/-- Two tokens in blocks of their own. -/
structure Two (w : World) (K : Int) (at_ : Int) (T S : ByteArray) (V : Int) (H : Bool) (at2 : Int) (p q : Nat) (wx : World) : Prop where
  p1 : w.heap.size ≤ p
  q1 : w.heap.size ≤ q
  ne : p ≠ q
  pl : p < wx.heap.size
  ql : q < wx.heap.size
  b : Below w.heap.size w wx
  a0 : wx.cell? ⟨p, 0, none⟩ = some (.int .i64 K)
  a1 : wx.cell? ⟨p, 1, none⟩ = some (.int .i64 at_)
  a2 : wx.cell? ⟨p, 2, none⟩ = some (.string T)
  a3 : wx.cell? ⟨p, 3, none⟩ = some (.string S)
  a4 : wx.cell? ⟨p, 4, none⟩ = some (.int .u64 V)
  a5 : wx.cell? ⟨p, 5, none⟩ = some (.bool H)
  b0 : wx.cell? ⟨q, 0, none⟩ = some (.int .i64 K)
  b1 : wx.cell? ⟨q, 1, none⟩ = some (.int .i64 at2)
  b2 : wx.cell? ⟨q, 2, none⟩ = some (.string T)
  b3 : wx.cell? ⟨q, 3, none⟩ = some (.string S)
  b4 : wx.cell? ⟨q, 4, none⟩ = some (.int .u64 V)
  b5 : wx.cell? ⟨q, 5, none⟩ = some (.bool H)
  f1 : wx.frozen? ⟨p, 1, none⟩ = false
  f2 : wx.frozen? ⟨q, 1, none⟩ = false
set_option maxRecDepth 100000 in
set_option maxHeartbeats 4000000 in
theorem lexParts_walk (s : ByteArray) (g0 : Int) (_ : s.size ≤ maxLen) (wg : (Lit.int .i64 g0).wf = true) (w : World) : Calls Try.prog 4 #[.string s, .int .i64 g0] w fun e w' => e = .returned (.bool true) ∧ Below w.heap.size w w' := by
  have hg : -9223372036854775808 ≤ g0 ∧ g0 ≤ 9223372036854775807 := by
    have h1 : IntKind.i64.min = -9223372036854775808 := rfl
    have h2 : IntKind.i64.max = 9223372036854775807 := rfl
    simp [Lit.wf] at wg; omega
  clear wg
  by_cases h600 : 600 < s.size
  · have h600' : (600 : Int) < (s.size : Int) := by omega
    go_enter Try.func4, Try.ntmps4
    go_wp2_with fail
    refine (awake_true w).mono ?_
    rintro e w1 ⟨rfl, hb⟩
    have HB := Lib.hid hb
    clear hb
    go_wp2_with fail
    go_returns
    exact ⟨rb rfl rfl, HB.out⟩
  · have h600' : ¬ (600 : Int) < (s.size : Int) := by omega
    have hs : s.size ≤ 600 := by omega
    rcases first_tokens s hs with ⟨L, hL, hC, hLn⟩ | ⟨c, p, hL, hc⟩
    · obtain ⟨N, hN⟩ : ∃ N, L.length = N := ⟨_, rfl⟩
      have HN := Lib.hid hN
      have HL := Lib.hid hL
      have HC := Lib.hid hC
      have hN6 : N ≤ 600 := by omega
      clear hL hC hLn hN h600
      go_enter Try.func4, Try.ntmps4
      go_wp2_with fail
      refine (tokens_to s L 0 0 N (Lx.rowOf L) HL.out HN.out rfl w).mono ?_
      rintro e w1 ⟨va, rfl, hown, hb⟩
      obtain ⟨aa, ca, rfl, pa⟩ := own_form hown
      have HO := Lib.hid hown
      have HB := Lib.hid hb
      have PA := Lib.hid pa
      clear hown hb pa
      obtain ⟨W1, hW1⟩ : ∃ W1, w1.alloc (.cells #[.int .i64 0, .int .i64 0] 26) = W1 := ⟨_, rfl⟩
      have hs1 := HB.out.size
      have HB1 : Hid (Below w.heap.size w W1) := Lib.hid (by rw [← hW1]; exact HB.out.alloc hs1 _)
      have HO1 : Hid (W1.ownsRow w.heap.size 33 6 (.slice aa N ca) N (Lx.rowOf L)) := Lib.hid (by rw [← hW1]; exact HO.out.alloc _)
      have HW1 := Lib.hid hW1
      have HZ1 : Hid (w1.heap.size < W1.heap.size ∧ w.heap.size ≤ w1.heap.size) := Lib.hid ⟨by rw [← hW1, heap_two]; omega, hs1⟩
      have hwr : W1.heap[w1.heap.size]? = some (.cells #[.int .i64 0, .int .i64 0] 26 (0, 0)) := by rw [← hW1]; exact heap_alloc_new w1 _
      have x0 : W1.cell? ⟨w1.heap.size, 0, none⟩ = some (.int .i64 0) := by simp [World.cell?, hwr]
      clear HO hs1 hwr hW1 HB
      go_wp2_with fail
      rw [HW1.out]
      have X0 := Lib.hid x0
      clear x0
      go_loopg [7, 8, 9] N (fun g x y v wr => ∃ (A : ByteArray) (i : Nat), x = .string A ∧ y = .int .i64 (endOf 0 (L.take i) : Int) ∧ v = .int .i64 (i : Int) ∧ i ≤ N ∧ g = N - i ∧ Hid (A.data.toList = rbl (gpG g0) 0 (L.take i)) ∧ Hid (Below W1.heap.size W1 wr))
      case atStart => exact ⟨⟨#[]⟩, 0, rfl, rfl, rfl, by omega, rfl, Lib.hid rfl, Lib.hid (Below.refl _ _)⟩
      case round =>
        obtain ⟨A, i, rfl, rfl, rfl, hi, hgh, HA, HW⟩ := hrel
        by_cases hlt : i < N
        · have hlt' : (i : Int) < (N : Int) := by omega
          obtain ⟨ga, rfl⟩ := PA.out (by omega)
          obtain ⟨t, ht⟩ : ∃ t, L[i]? = some t := ⟨_, List.getElem?_eq_getElem (by rw [HN.out]; exact hlt)⟩
          have HOw := own_to HO1.out HW.out
          obtain ⟨a0, a1, a2, a3, a4, a5⟩ := row_cells (w := wr) (l := L) (cap := ca) (B := w.heap.size) (by rw [HN.out]; exact HOw) ht
          obtain ⟨q1, q2, q3⟩ := each_at HC.out ht
          have HE2 := Lib.hid (end_next ht)
          have HAn := fun (a : ByteArray) (ha : a.data.toList = gpG g0 i) => Lib.hid (rbl_next ht HA.out ha)
          obtain ⟨e0, he0⟩ : ∃ e0, endOf 0 (L.take i) = e0 := ⟨_, rfl⟩
          rw [he0] at q1 ⊢
          obtain ⟨K, at_, T, S, V, H⟩ := t
          simp only at a0 a1 a2 a3 a4 a5 q1 q2 q3 HE2 HAn
          have i0 : (0 : Int) ≤ (i : Int) := by omega
          clear HOw he0
          go_wp2_with fail
          have n0 : wr.heap.size < (wr.alloc (.cells #[.int .i64 K, .int .i64 (at_ : Int), .string T, .string S, .int .u64 V, .bool H] 33)).heap.size := by rw [heap_two]; omega
          have n1 := heap_alloc_new wr (.cells #[.int .i64 K, .int .i64 (at_ : Int), .string T, .string S, .int .u64 V, .bool H] 33)
          have HW2 : Hid (Below W1.heap.size W1 (wr.alloc (.cells #[.int .i64 K, .int .i64 (at_ : Int), .string T, .string S, .int .u64 V, .bool H] 33))) := Lib.hid (HW.out.alloc HW.out.size _)
          obtain ⟨W2, hW2⟩ : ∃ W2, wr.alloc (.cells #[.int .i64 K, .int .i64 (at_ : Int), .string T, .string S, .int .u64 V, .bool H] 33) = W2 := ⟨_, rfl⟩
          rw [hW2] at n0 n1 HW2 ⊢
          clear hW2
          obtain ⟨P, hP⟩ : ∃ P, wr.heap.size = P := ⟨_, rfl⟩
          rw [hP] at n0 n1 ⊢
          clear hP
          have t1 : W2.cell? ⟨P, 1, none⟩ = some (.int .i64 (at_ : Int)) := by simp [World.cell?, n1]
          have t2 : W2.cell? ⟨P, 2, none⟩ = some (.string T) := by simp [World.cell?, n1]
          have nlt : ¬ (at_ : Int) < (e0 : Int) := by omega
          have nlt2 : decide ((at_ : Int) < (e0 : Int)) = false := decide_eq_false nlt
          have ngt : ¬ (s.size : Int) < (at_ : Int) + (T.size : Int) := by omega
          have ngt2 : decide ((s.size : Int) < (at_ : Int) + (T.size : Int)) = false := decide_eq_false ngt
          have at0 : (0 : Int) ≤ (at_ : Int) := by omega
          have at1 : (at_ : Int) ≤ (at_ : Int) + (T.size : Int) := by omega
          have at2 : (at_ : Int) + (T.size : Int) ≤ (s.size : Int) := by omega
          have at3 : (at_ : Int) ≤ 600 := by omega
          have hx : ((s.extract at_ (at_ + T.size)).toList == T.toList) = true := by rw [q3]; exact beq_iff_eq.2 rfl
          clear a0 a1 a2 a3 a4 a5 n1
          go_quiet (fail)
          have HW3 : Hid (Below W1.heap.size W1 (W2.drewN nq)) := Lib.hid (below_drewN HW2.out nq)
          have s2 : (W2.drewN nq).cell? ⟨P, 2, none⟩ = some (.string T) := t2
          have s1 : (W2.drewN nq).cell? ⟨P, 1, none⟩ = some (.int .i64 (at_ : Int)) := t1
          have m0 : P < (W2.drewN nq).heap.size := n0
          obtain ⟨W3, hW3⟩ : ∃ W3, W2.drewN nq = W3 := ⟨_, rfl⟩
          rw [hW3] at HW3 s1 s2 m0 ⊢
          obtain ⟨ar, har1, har2⟩ := gpRow_cell W3 9 (gpN_lt g0 i)
          have HK := Lib.hid (gpN_eq g0 i)
          have hk5 := gpN_lt g0 i
          have HAr := HAn ar har2
          have hars : ar.size ≤ 8 := by rw [size_list, har2]; exact (gps_len _ (gpG_mem g0 i)).2
          have hAs : A.size ≤ 5400 := by
            rw [size_list, HA.out]
            have := rbl_take (gpG_mem g0) HC.out hs (by rw [HN.out]; omega) i
            omega
          have hlit : gpRow.toArray = #[.string ⟨#[32]⟩, .string ⟨#[10]⟩, .string ⟨#[32, 47, 42, 32, 42, 32, 42, 47]⟩, .string ⟨#[32, 47, 47, 120, 10]⟩, .string ⟨#[9, 32, 13]⟩] := rfl
          rw [hlit] at har1
          have HW4 : Hid (Below W1.heap.size W1 (W3.alloc (.cells #[.string ⟨#[32]⟩, .string ⟨#[10]⟩, .string ⟨#[32, 47, 42, 32, 42, 32, 42, 47]⟩, .string ⟨#[32, 47, 47, 120, 10]⟩, .string ⟨#[9, 32, 13]⟩] 9))) := Lib.hid (HW3.out.alloc HW3.out.size _)
          have s3 : (W3.alloc (.cells #[.string ⟨#[32]⟩, .string ⟨#[10]⟩, .string ⟨#[32, 47, 42, 32, 42, 32, 42, 47]⟩, .string ⟨#[32, 47, 47, 120, 10]⟩, .string ⟨#[9, 32, 13]⟩] 9)).cell? ⟨P, 2, none⟩ = some (.string T) := by rw [World.cell?_alloc_past _ _ _ m0]; exact s2
          obtain ⟨W4, hW4⟩ : ∃ W4, W3.alloc (.cells #[.string ⟨#[32]⟩, .string ⟨#[10]⟩, .string ⟨#[32, 47, 42, 32, 42, 32, 42, 47]⟩, .string ⟨#[32, 47, 47, 120, 10]⟩, .string ⟨#[9, 32, 13]⟩] 9) = W4 := ⟨_, rfl⟩
          rw [hW4] at HW4 har1 s3
          have har1' : W4.cell? ⟨W3.heap.size, gpN g0 i, none⟩ = some (.string ar) := har1
          obtain ⟨k, hk⟩ : ∃ k, gpN g0 i = k := ⟨_, rfl⟩
          rw [hk] at har1' HK hk5
          have hk5' : (k : Int) < 5 := by omega
          have k0 : (0 : Int) ≤ (k : Int) := by omega
          obtain ⟨Z, hZ⟩ : ∃ Z, IntKind.i64.wrap (g0 + (i : Int)) = Z := ⟨_, rfl⟩
          have hZb : -9223372036854775808 ≤ Z ∧ Z ≤ 9223372036854775807 := by rw [← hZ]; simp only [IntKind.wrap, IntKind.bits, IntKind.signed]; simp; omega
          rw [hZ] at HK
          have ov1 : ¬ 9223372036854775807 < A.size + ar.size := by omega
          have ov2 : ¬ 9223372036854775807 < A.size + ar.size + T.size := by omega
          clear hW3 t1 t2 n0 HW2 HW har1 har2 hlit hk hars hAs HAn nlt2 ngt2 hx q3 ht nlt q1
          go_upto_region 15 with fail
          go_region_with (first | (refine (low_as Z 5 _ hZb (by decide) HK _).mono ?_; rintro e w9 ⟨rfl, rfl⟩) | fail)
          all_goals clear hW4 s3 har1' s2 s1 m0 HW3 hZ hZb HK ov1 ov2 hk5 hk5'
          all_goals
            go_wp2_with fail
            go_roundg (N - (i + 1))
            case rel => exact ⟨_, i + 1, rfl, by rw [HE2.out]; go_num, by go_num, by omega, rfl, HAr, Lib.hid ⟨HW4.out.os, HW4.out.tape, HW4.out.output, HW4.out.size, HW4.out.block⟩⟩
            case measure => omega
        · obtain rfl : i = N := by omega
          have hlt' : ¬ (i : Int) < (i : Int) := by omega
          have hAs : A.size ≤ 5400 := by
            rw [size_list, HA.out]
            have := rbl_take (gpG_mem g0) HC.out hs (by rw [HN.out]; omega) i
            omega
          obtain ⟨M, hM, hMt⟩ := parts_tokens s (A ++ ⟨#[32]⟩) (gpG g0) (gpG_mem g0) hs L HC.out (by rw [ByteArray.data_append, Array.toList_append, HA.out, List.take_of_length_le (by rw [HN.out]; exact Nat.le_refl _)])
          have hMn : M.length = i := by have := congrArg List.length hMt; rw [List.length_map, List.length_map, HN.out] at this; exact this
          have HM := Lib.hid hM
          have HMt := Lib.hid hMt
          have HMn := Lib.hid hMn
          have ov : ¬ 9223372036854775807 < A.size + 1 := by omega
          have hA2 : (A.size : Int) < 20000 := by omega
          have HE3 : ∃ e0 : Nat, endOf 0 (L.take i) = e0 := ⟨_, rfl⟩
          obtain ⟨e0, he0⟩ := HE3
          rw [he0]
          clear hM hMt hMn hAs HA he0
          go_wp2_with fail
          refine (tokens_to _ M 0 0 i (Lx.rowOf M) HM.out HMn.out rfl wr).mono ?_
          rintro e5 w5 ⟨vb, rfl, hown, hb⟩
          obtain ⟨ab, cb, rfl, pb⟩ := own_form hown
          have PB := Lib.hid pb
          have HO5 := own_to HO1.out HW.out
          have HB5 := Lib.hid (HW.out.trans (hb.mono HW.out.size))
          have HZ5 := Lib.hid hb.size
          obtain ⟨W6, hW6⟩ : ∃ W6, w5.alloc (.cells #[.int .i64 0, .int .i64 0] 26) = W6 := ⟨_, rfl⟩
          have HW6 := Lib.hid hW6
          have HOA : Hid (W6.ownsRow w.heap.size 33 6 (.slice aa i ca) i (Lx.rowOf L)) := Lib.hid (by rw [← hW6]; exact (own_to HO5 hb).alloc _)
          have HOB : Hid (W6.ownsRow wr.heap.size 33 6 (.slice ab i cb) i (Lx.rowOf M)) := Lib.hid (by rw [← hW6]; exact hown.alloc _)
          have HB6 : Hid (Below w.heap.size w W6) := Lib.hid (by
            have h1 := HB1.out.trans (HB5.out.mono HB1.out.size)
            rw [← hW6]; exact h1.alloc h1.size _)
          have hwr : W6.heap[w5.heap.size]? = some (.cells #[.int .i64 0, .int .i64 0] 26 (0, 0)) := by rw [← hW6]; exact heap_alloc_new w5 _
          have x0 : W6.cell? ⟨w5.heap.size, 0, none⟩ = some (.int .i64 0) := by simp [World.cell?, hwr]
          clear hown hb pb HO5 hwr hW6
          go_wp2_with fail
          rw [HW6.out]
          clear x0 hA2 ov
          go_loopg [13] i (fun g v wx => ∃ j : Nat, v = .int .i64 (j : Int) ∧ j ≤ i ∧ g = i - j ∧ Hid (Below W6.heap.size W6 wx))
          case atStart => exact ⟨0, rfl, by omega, rfl, Lib.hid (Below.refl _ _)⟩
          case round =>
            obtain ⟨j, rfl, hj, hgj, HX⟩ := hrel
            by_cases hlj : j < i
            · have hlj' : (j : Int) < (i : Int) := by omega
              obtain ⟨ga, rfl⟩ := PA.out (by omega)
              obtain ⟨gb, rfl⟩ := PB.out (by omega)
              obtain ⟨t, ht⟩ : ∃ t, L[j]? = some t := ⟨_, List.getElem?_eq_getElem (by rw [HN.out]; exact hlj)⟩
              obtain ⟨t', ht'⟩ : ∃ t, M[j]? = some t := ⟨_, List.getElem?_eq_getElem (by rw [HMn.out]; exact hlj)⟩
              have HOa := own_to HOA.out HX.out
              have HOb := own_to HOB.out HX.out
              obtain ⟨a0, a1, a2, a3, a4, a5⟩ := row_cells (w := wr) (l := L) (cap := ca) (B := w.heap.size) (by rw [HN.out]; exact HOa) ht
              obtain ⟨b0, b1, b2, b3, b4, b5⟩ := row_cells (w := wr) (l := M) (cap := cb) (by rw [HMn.out]; exact HOb) ht'
              obtain ⟨z0, z2, z3, z4, z5⟩ := noAt_at HMt.out ht ht'
              have ha := (HOa.lt ga rfl).2
              have hb := (HOb.lt gb rfl).2
              obtain ⟨K, at_, T, S, V, H⟩ := t
              obtain ⟨K2, at2, T2, S2, V2, H2⟩ := t'
              simp only at a0 a1 a2 a3 a4 a5 b0 b1 b2 b3 b4 b5 z0 z2 z3 z4 z5
              subst z0 z2 z3 z4 z5
              have j0 : (0 : Int) ≤ (j : Int) := by omega
              have e1 := World.new_ne wr _ a0
              have e2 := World.new_ne wr _ a1
              have e3 := World.new_ne wr _ a2
              have e4 := World.new_ne wr _ a3
              have e5 := World.new_ne wr _ a4
              have e6 := World.new_ne wr _ a5
              have e7 := World.new_ne wr _ b0
              have e8 := World.new_ne wr _ b1
              have e9 := World.new_ne wr _ b2
              have e10 := World.new_ne wr _ b3
              have e11 := World.new_ne wr _ b4
              have e12 := World.new_ne wr _ b5
              clear ht ht' HOa HOb
              go_upto_region 22 with fail
              go_cut [14, 15] (fun v14 v15 wx => ∃ p q : Nat, v14 = .pointer (some ⟨p, 0, none⟩) ∧ v15 = .pointer (some ⟨q, 0, none⟩) ∧ Two wr K2 (at_ : Int) T2 S2 V2 H2 (at2 : Int) p q wx)
              case first =>
                go_region_held3 (fun W => W.cell? ⟨ga, j * 6, none⟩ = some (.int .i64 K2) ∧ W.cell? ⟨ga, j * 6 + 1, none⟩ = some (.int .i64 (at_ : Int)) ∧ W.cell? ⟨ga, j * 6 + 2, none⟩ = some (.string T2) ∧ W.cell? ⟨ga, j * 6 + 3, none⟩ = some (.string S2) ∧ W.cell? ⟨ga, j * 6 + 4, none⟩ = some (.int .u64 V2) ∧ W.cell? ⟨ga, j * 6 + 5, none⟩ = some (.bool H2) ∧ W.cell? ⟨gb, j * 6, none⟩ = some (.int .i64 K2) ∧ W.cell? ⟨gb, j * 6 + 1, none⟩ = some (.int .i64 (at2 : Int)) ∧ W.cell? ⟨gb, j * 6 + 2, none⟩ = some (.string T2) ∧ W.cell? ⟨gb, j * 6 + 3, none⟩ = some (.string S2) ∧ W.cell? ⟨gb, j * 6 + 4, none⟩ = some (.int .u64 V2) ∧ W.cell? ⟨gb, j * 6 + 5, none⟩ = some (.bool H2)) (go_keep) (fail)
                all_goals (go_wp2_with fail; go_meet)
                all_goals refine ⟨_, _, rfl, rfl, ⟨?_, ?_, ?_, ?_, ?_, ?_, ?_, ?_, ?_, ?_, ?_, ?_, ?_, ?_, ?_, ?_, ?_, ?_, ?_, ?_⟩⟩
                all_goals first
                  | omega
                  | (simp; done)
                  | (simp; omega)
                  | exact (((Below.refl _ _).alloc (Nat.le_refl _) _).alloc (by rw [heap_two]; exact Nat.le_succ _) _).drew
              case rest =>
                obtain ⟨p, q, rfl, rfl, hT⟩ := hcut
                have HT := Lib.hid hT
                obtain ⟨p1, q1, ne, pl, ql, _, x0, x1, x2, x3, x4, x5, y0, y1, y2, y3, y4, y5, f1, f2⟩ := hT
                clear a0 a1 a2 a3 a4 a5 b0 b1 b2 b3 b4 b5 e1 e2 e3 e4 e5 e6 e7 e8 e9 e10 e11 e12 ha hb
                have nf : q ≠ p := fun h => ne h.symm
                go_wp2_with fail
                go_roundg (i - (j + 1))
                case rel =>
                  refine ⟨j + 1, by go_num, by omega, rfl, Lib.hid (HX.out.trans ?_)⟩
                  exact (((HT.out.b.setCell (p := ⟨p, 1, none⟩) p1 (.int .i64 0)).setCell (p := ⟨q, 1, none⟩) q1 (.int .i64 0))).mono HX.out.size
                case measure => omega
            · obtain rfl : j = i := by omega
              have hlj' : ¬ (j : Int) < (j : Int) := by omega
              go_wp2_with fail
              refine (awake_true _).mono ?_
              rintro e9 w9 ⟨rfl, hb9⟩
              have HB9 := Lib.hid hb9
              clear hb9
              go_wp2_with fail
              go_returns
              exact ⟨rb rfl rfl, (HB6.out.trans (HX.out.mono HB6.out.size)).trans (HB9.out.mono (by have := HB6.out.size; have := HX.out.size; omega))⟩
    · have HL := Lib.hid hL
      have hc0 : (c == 0) = false := beq_eq_false_iff_ne.2 hc
      have hc1 : (c != 0) = true := bne_iff_ne.2 hc
      clear hL h600
      go_enter Try.func4, Try.ntmps4
      go_wp2_with fail
      refine (tokens_to s [] c p 0 [] HL.out rfl rfl w).mono ?_
      rintro e w1 ⟨va, rfl, hown, hb⟩
      obtain ⟨aa, ca, rfl, pa⟩ := own_form hown
      have HB := Lib.hid hb
      clear hown hb pa
      go_wp2_with fail
      refine (awake_true _).mono ?_
      rintro e2 w2 ⟨rfl, hb2⟩
      have HB2 := Lib.hid hb2
      clear hb2
      go_wp2_with fail
      go_returns
      have h1 := HB.out.size
      exact ⟨rb rfl rfl, (HB.out.alloc h1 _).trans (HB2.out.mono (by rw [heap_two]; omega))⟩
end Go.Proofs.Ytlpoahjgonjelaa
