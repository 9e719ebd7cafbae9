/- The law LexNumbers, walked. -/
import Derived.Test.YtlpoahjgonjelaaLexNumM2
import Derived.Test.YtlpoahjgonjelaaLexSame
import Derived.Test.YtlpoahjgonjelaaLexLow
import Derived.Deep.LoopGhost
namespace Go.Proofs.Ytlpoahjgonjelaa
open Go.RowKit
set_option linter.unusedVariables false

def sufRow : List Value := [.string ⟨#[]⟩, .string ⟨#[117]⟩, .string ⟨#[108]⟩, .string ⟨#[117, 108]⟩]
theorem sufRow_cell (w : World) (T : TypeId) {k : Nat} (hk : k < 4) : ∃ a : ByteArray, (w.alloc (.cells sufRow.toArray T)).cell? ⟨w.heap.size, k, none⟩ = some (.string a) ∧ a.data.toList ∈ sufs := by
  rw [World.cell?_alloc_at _ _ _ _ rfl]
  match k, hk with
  | 0, _ => exact ⟨_, rfl, by decide⟩
  | 1, _ => exact ⟨_, rfl, by decide⟩
  | 2, _ => exact ⟨_, rfl, by decide⟩
  | 3, _ => exact ⟨_, rfl, by decide⟩
  | n + 4, h => exact absurd h (by omega)
theorem u64_and15 (b : Int) (h : 0 ≤ b ∧ b ≤ 18446744073709551615) : bits BinOp.and IntKind.u64 b 15 = b % 16 := by
  rw [u64_and _ _ h.1 (by omega) (by decide) (by decide)]
  rw [show (15 : Int).toNat = 2 ^ 4 - 1 from rfl, Nat.and_two_pow_sub_one_eq_mod]
  omega
/-- The sixteen digits. -/
def hexd : ByteArray := ⟨#[48, 49, 50, 51, 52, 53, 54, 55, 56, 57, 97, 98, 99, 100, 101, 102]⟩
theorem hexd_list : ∀ d < 16, ∃ c : UInt8, (hexd.data.toList.drop d).take 1 = [c] ∧ Lx.valB 16 (c.toNat : Int) = (d : Int) := by
  intro d hd
  have h : d < hexd.data.toList.length := hd
  refine ⟨hexd.data.toList[d], ?_, ?_⟩
  · rw [List.drop_eq_getElem_cons h]; rfl
  · revert d; decide +kernel
theorem hexd_ext {d : Nat} (hd : d < 16) : ∃ c : UInt8, (hexd.extract d (d + 1)).data.toList = [c] ∧ Lx.valB 16 (c.toNat : Int) = (d : Int) := by
  obtain ⟨c, h1, h2⟩ := hexd_list d hd
  exact ⟨c, by rw [← ByteArray.toList_eq, ext_list]; exact h1, h2⟩
theorem hv_app (b : Int) (l : List UInt8) (c : UInt8) : ∀ a : Int, hv b a (l ++ [c]) = hv b a l * b + Lx.valB b (c.toNat : Int) := by
  induction l with
  | nil => intro a; rfl
  | cons d l ih => intro a; exact ih _
/-- The hexadecimal digits so far: n's upper ones. -/
structure HexIn (n : Int) (i : Int) (H : ByteArray) (hs : List UInt8) : Prop where
  all : H.data.toList = [48, 120] ++ hs
  dig : ∀ c ∈ hs, 0 ≤ Lx.valB 16 (c.toNat : Int)
  len : (hs.length : Int) = (60 - i) / 4
  val : hv 16 0 hs = n / 2 ^ (i + 4).toNat
theorem HexIn.next {n i : Int} {H C : ByteArray} {hs : List UInt8} {c : UInt8} {d : Nat} (h : HexIn n i H hs) (hi : 0 ≤ i) (h4 : i % 4 = 0) (hC : C.data.toList = [c]) (hc : Lx.valB 16 (c.toNat : Int) = (d : Int)) (hd : n / 2 ^ i.toNat % 16 = (d : Int)) : HexIn n (i - 4) (H ++ C) (hs ++ [c]) := by
  refine ⟨by simp [h.all, hC], fun e he => ?_, by rw [List.length_append]; have := h.len; simp; omega, ?_⟩
  · rcases List.mem_append.1 he with he | he
    · exact h.dig e he
    · simp at he; subst he; omega
  · rw [hv_app, h.val, hc, ← hd, show (i - 4 + 4).toNat = i.toNat by omega, show (i + 4).toNat = i.toNat + 4 by omega, Int.pow_add, ← Int.ediv_ediv_of_nonneg (Int.pow_nonneg (by decide))]
    have : (2 : Int) ^ 4 = 16 := by decide
    rw [this]; omega
set_option maxRecDepth 100000 in
set_option maxHeartbeats 4000000 in
theorem lexNumbers_walk (n sf c : Int) (wn : (Lit.int .u64 n).wf = true) (ws : (Lit.int .i64 sf).wf = true) (wc : (Lit.int .u8 c).wf = true) (w : World) : Calls Try.prog 5 #[.int .u64 n, .int .i64 sf, .int .u8 c] w fun e w' => e = .returned (.bool true) ∧ Below w.heap.size w w' := by
  have hn : 0 ≤ n ∧ n ≤ 18446744073709551615 := by
    have h1 : IntKind.u64.min = 0 := rfl
    have h2 : IntKind.u64.max = 18446744073709551615 := rfl
    simp [Lit.wf] at wn; omega
  have hs : -9223372036854775808 ≤ sf ∧ sf ≤ 9223372036854775807 := by
    have h1 : IntKind.i64.min = -9223372036854775808 := rfl
    have h2 : IntKind.i64.max = 9223372036854775807 := rfl
    simp [Lit.wf] at ws; omega
  have hc : 0 ≤ c ∧ c ≤ 255 := by
    have h1 : IntKind.u8.min = 0 := rfl
    have h2 : IntKind.u8.max = 255 := rfl
    simp [Lit.wf] at wc; omega
  clear wn ws wc
  obtain ⟨k, hk, hkz⟩ := low_nat sf 4 hs (by decide)
  have HK := Lib.hid hkz
  clear hkz
  obtain ⟨q, hq1, hq2⟩ := sufRow_cell w 9 (k := k) (by omega)
  have hlit : sufRow.toArray = #[.string ⟨#[]⟩, .string ⟨#[117]⟩, .string ⟨#[108]⟩, .string ⟨#[117, 108]⟩] := rfl
  rw [hlit] at hq1
  obtain ⟨W1, hW1⟩ : ∃ W1, w.alloc (.cells #[.string ⟨#[]⟩, .string ⟨#[117]⟩, .string ⟨#[108]⟩, .string ⟨#[117, 108]⟩] 9) = W1 := ⟨_, rfl⟩
  rw [hW1] at hq1
  have hB1 : Below w.heap.size w W1 := by rw [← hW1]; exact (Below.refl _ _).alloc (Nat.le_refl _) _
  have HB1 := Lib.hid hB1
  have HQ := Lib.hid hq2
  have hk' : (k : Int) < 4 := hk
  clear hlit hB1 hq2 hk
  go_enter Try.func5, Try.ntmps5
  go_wp2_with fail
  refine (low_as sf 4 _ hs (by decide) HK _).mono ?_
  rintro e w1 ⟨rfl, rfl⟩
  go_wp2_with fail
  clear hW1
  refine (digits_to n hn.1 hn.2 _).mono ?_
  rintro e w2 ⟨S, rfl, hD, hb2⟩
  have HD := Lib.hid hD
  have HB2 := Lib.hid hb2
  have hqs : q.size ≤ 2 := by
    rw [size_list]
    have := HQ.out
    simp only [sufs, List.mem_cons, List.mem_nil_iff, or_false] at this
    rcases this with h | h | h | h <;> rw [h] <;> simp
  have hSs : S.size ≤ 20 := by rw [size_list]; exact HD.out.len
  have ov1 : ¬ 9223372036854775807 < S.size + q.size := by omega
  clear hD hb2 hq1
  go_wp2_with fail
  go_loopg [9, 10] 16 (fun g x y wr => ∃ (H : ByteArray) (hs : List UInt8) (i : Int), x = .string H ∧ y = .int .i64 i ∧ -4 ≤ i ∧ i ≤ 60 ∧ i % 4 = 0 ∧ g = ((i + 4) / 4).toNat ∧ Hid (HexIn n i H hs) ∧ w2 = wr)
  case atStart =>
    refine ⟨⟨#[48, 120]⟩, [], 60, rfl, rfl, by decide, by decide, by decide, by decide, Lib.hid ⟨rfl, (fun c hc => by cases hc), by decide, ?_⟩, rfl⟩
    show (0 : Int) = n / 2 ^ 64
    omega
  case round =>
    obtain ⟨H, hs, i, rfl, rfl, hi1, hi2, hi3, hg, HH, rfl⟩ := hrel
    have hHs : H.size ≤ 18 := by
      rw [size_list, HH.out.all]
      have := HH.out.len
      simp; omega
    by_cases hi0 : 0 ≤ i
    · have hx0 : 0 ≤ n / 2 ^ i.toNat ∧ n / 2 ^ i.toNat ≤ 18446744073709551615 := by
        have h2 : (0 : Int) ≤ 2 ^ i.toNat := Int.pow_nonneg (by decide)
        exact ⟨Int.ediv_nonneg hn.1 h2, Int.le_trans (Int.ediv_le_self _ hn.1) hn.2⟩
      obtain ⟨d, hd⟩ : ∃ d : Nat, n / 2 ^ i.toNat % 16 = (d : Int) := ⟨(n / 2 ^ i.toNat % 16).toNat, by omega⟩
      have hd16 : d < 16 := by omega
      have hbt : bits BinOp.and IntKind.u64 (n / 2 ^ i.toNat) 15 = (d : Int) := by rw [u64_and15 _ hx0, hd]
      obtain ⟨cc, hc1, hc2⟩ := hexd_ext hd16
      have HH2 := Lib.hid (HH.out.next hi0 hi3 hc1 hc2 hd)
      have hd16' : (d : Int) < 16 := by omega
      have ov : ¬ 9223372036854775807 < H.size + (min (d + 1) 16 - d) := by omega
      clear hx0 hd hc1 hc2
      go_wp2_with fail
      go_roundg (((i + 4) / 4).toNat - 1)
      case rel => exact ⟨_, _, i - 4, rfl, rfl, by omega, by omega, by omega, by omega, HH2, rfl⟩
      case measure => omega
    · obtain rfl : i = -4 := by omega
      have hvn : hv 16 0 hs = n := by
        rw [HH.out.val]
        show n / 2 ^ 0 = n
        simp
      have hl16 : hs.length = 16 := by have := HH.out.len; omega
      obtain ⟨e, he⟩ : ∃ e, 48 + c % 10 = e := ⟨_, rfl⟩
      have heb : 48 ≤ e ∧ e ≤ 57 := by omega
      obtain ⟨T1, X1, hA, hX1⟩ := dec_toks (s := S ++ q) (ds := S.data.toList) (q := q.data.toList) (by simp) HD.out hn.2 HQ.out
      obtain ⟨T2, X2, hB, hX2⟩ := hex_toks (s := H ++ q) (hs := hs) (q := q.data.toList) (by rw [ByteArray.data_append, Array.toList_append, HH.out.all]; simp) HH.out.dig hl16 hvn hn.2 HQ.out
      have hC := num_bad (s := S ++ q ++ ⟨#[UInt8.ofNat e.toNat]⟩ ++ ⟨#[120]⟩) (ds := S.data.toList) (q := q.data.toList) (e := UInt8.ofNat e.toNat) (by simp) HD.out hn.2 HQ.out (by rw [UInt8.toNat_ofNat']; exact (Lx.digB_iff _).2 (by omega))
      have HA := Lib.hid hA
      have HB := Lib.hid hB
      have HC := Lib.hid hC
      have ov2 : ¬ 9223372036854775807 < H.size + q.size := by omega
      have ov3 : ¬ 9223372036854775807 < S.size + q.size + 1 := by omega
      have ov4 : ¬ 9223372036854775807 < S.size + q.size + 1 + 1 := by omega
      clear hA hB hC hvn hl16
      go_wp2_with fail
      refine (tokens_to (S ++ q) _ 0 0 1 [.int .i64 3, .int .i64 0, .string T1, .string X1, .int .u64 n, .bool false] HA.out rfl rfl _).mono ?_
      rintro e1 w3 ⟨va, rfl, ho1, hb3⟩
      obtain ⟨g1, cap1, rfl, _⟩ := World.ownsRow.form ho1 (by decide)
      have HO1 := Lib.hid ho1
      have HB3 := Lib.hid hb3
      clear ho1 hb3
      go_wp2_with fail
      refine (tokens_to (H ++ q) _ 0 0 1 [.int .i64 3, .int .i64 0, .string T2, .string X2, .int .u64 n, .bool true] HB.out rfl rfl _).mono ?_
      rintro e2 w4 ⟨vb, rfl, ho2, hb4⟩
      obtain ⟨g2, cap2, rfl, _⟩ := World.ownsRow.form ho2 (by decide)
      have HO2 := Lib.hid ho2
      have HB4 := Lib.hid hb4
      clear ho2 hb4
      have kc : (convert 38 9 (.slice (some ⟨w4.heap.size + 1, 0, none⟩) 1 1)).run Try.prog ((w4.alloc (.cells #[.int .i64 0, .int .i64 0] 26)).alloc (.cells #[.int .u8 e] 5)) = .ok (.string ⟨#[UInt8.ofNat e.toNat]⟩) ((w4.alloc (.cells #[.int .i64 0, .int .i64 0] 26)).alloc (.cells #[.int .u8 e] 5)) := by
        have := conv_one (w4.alloc (.cells #[.int .i64 0, .int .i64 0] 26)) e (by omega) (by omega)
        rw [heap_two] at this; exact this
      go_wp2_with fail
      clear kc
      refine (tokens_to _ [] 3 0 0 [] HC.out rfl rfl _).mono ?_
      rintro e3 w5 ⟨vc, rfl, ho3, hb5⟩
      have HB5 := Lib.hid hb5
      clear ho3 hb5
      have s3 := HB3.out.size
      have s4 := HB4.out.size
      have s5 := HB5.out.size
      rw [heap_two] at s4
      rw [heap_two, heap_two] at s5
      have lg1 := (HO1.out.lt g1 rfl).2
      have lg2 := (HO2.out.lt g2 rfl).2
      have far : ∀ (o : Obj) (b k : Nat), b < w4.heap.size → (w5.alloc o).cell? ⟨b, k, none⟩ = w4.cell? ⟨b, k, none⟩ := fun o b k hp => by
        rw [World.cell?_alloc_past _ _ _ (by omega), HB5.out.cell (p := ⟨b, k, none⟩) (by rw [heap_two, heap_two]; show b < _; omega), World.cell?_alloc_past _ _ _ (by rw [heap_two]; omega), World.cell?_alloc_past _ _ _ hp]
      have z4 : ∀ (o : Obj), (w5.alloc o).heap[w4.heap.size]? = some (.cells #[.int .i64 0, .int .i64 0] 26 (0, 0)) := fun o =>
        (Below.heap_alloc _ _ _ (by omega)).trans ((HB5.out.block _ (by rw [heap_two, heap_two]; omega)).trans ((Below.heap_alloc _ _ _ (by rw [heap_two]; omega)).trans (heap_alloc_new w4 _)))
      have z3 : w4.heap[w3.heap.size]? = some (.cells #[.int .i64 0, .int .i64 0] 26 (0, 0)) := (HB4.out.block _ (by rw [heap_two]; omega)).trans (heap_alloc_new w3 _)
      have c1 := HO1.out.cells (g := g1) rfl
      have c2 := HO2.out.cells (g := g2) rfl
      have a3 := c1 3 _ rfl
      have a4 := c1 4 _ rfl
      have a5 := c1 5 _ rfl
      have b3 := c2 3 _ rfl
      have b4 := c2 4 _ rfl
      have b5 := c2 5 _ rfl
      simp [Addr.add] at a3 a4 a5 b3 b4 b5
      have up : ∀ k : Nat, w4.cell? ⟨g1, k, none⟩ = w3.cell? ⟨g1, k, none⟩ := fun k => by
        rw [HB4.out.cell (p := ⟨g1, k, none⟩) (by rw [heap_two]; show g1 < _; omega), World.cell?_alloc_past _ _ _ lg1]
      have f3 : ∀ o : Obj, (w5.alloc o).cell? ⟨g1, 3, none⟩ = some (.string X1) := fun o => (far o g1 3 (by omega)).trans ((up 3).trans a3)
      have f4 : ∀ o : Obj, (w5.alloc o).cell? ⟨g1, 4, none⟩ = some (.int .u64 n) := fun o => (far o g1 4 (by omega)).trans ((up 4).trans a4)
      have f5 : ∀ o : Obj, (w5.alloc o).cell? ⟨g1, 5, none⟩ = some (.bool false) := fun o => (far o g1 5 (by omega)).trans ((up 5).trans a5)
      have h3 : ∀ o : Obj, (w5.alloc o).cell? ⟨g2, 3, none⟩ = some (.string X2) := fun o => (far o g2 3 lg2).trans b3
      have h4 : ∀ o : Obj, (w5.alloc o).cell? ⟨g2, 4, none⟩ = some (.int .u64 n) := fun o => (far o g2 4 lg2).trans b4
      have h5 : ∀ o : Obj, (w5.alloc o).cell? ⟨g2, 5, none⟩ = some (.bool true) := fun o => (far o g2 5 lg2).trans b5
      have x1 : ∀ o : Obj, (w5.alloc o).cell? ⟨w3.heap.size, 0, none⟩ = some (.int .i64 0) := fun o => (far o w3.heap.size 0 (by omega)).trans (by simp [World.cell?, z3])
      have x2 : ∀ o : Obj, (w5.alloc o).cell? ⟨w4.heap.size, 0, none⟩ = some (.int .i64 0) := fun o => by simp [World.cell?, z4 o]
      have e1 : (X1.toList == q.toList) = true := by rw [ByteArray.toList_eq, ByteArray.toList_eq, hX1]; exact beq_iff_eq.2 rfl
      have e2 : (X2.toList == q.toList) = true := by rw [ByteArray.toList_eq, ByteArray.toList_eq, hX2]; exact beq_iff_eq.2 rfl
      have HBW : Hid (Below w.heap.size w w5) := Lib.hid (by
        have t1 := HB1.out.size
        have t2 := HB2.out.size
        have u1 := HB1.out.trans (HB2.out.mono t1)
        have u2 := u1.trans (HB3.out.mono (by omega))
        have u3 := (u2.alloc (by omega) (.cells #[.int .i64 0, .int .i64 0] 26)).trans (HB4.out.mono (by rw [heap_two]; omega))
        have u4 := (u3.alloc (by omega) (.cells #[.int .i64 0, .int .i64 0] 26)).alloc (by rw [heap_two]; omega) (.cells #[.int .u8 e] 5)
        exact u4.trans (HB5.out.mono (by rw [heap_two, heap_two]; omega)))
      have HS5 : Hid (w.heap.size ≤ w5.heap.size) := Lib.hid HBW.out.size
      clear far z4 z3 c1 c2 a3 a4 a5 b3 b4 b5 up lg1 lg2 s3 s4 s5
      go_wp2_with fail
      refine (awake_true _).mono ?_
      rintro e6 w6 ⟨rfl, hb6⟩
      have HB6 := Lib.hid hb6
      clear hb6
      go_wp2_with fail
      go_returns
      refine ⟨rb rfl rfl, (HBW.out.alloc HS5.out _).trans (HB6.out.mono ?_)⟩
      rw [heap_two]; have := HS5.out; omega
end Go.Proofs.Ytlpoahjgonjelaa
