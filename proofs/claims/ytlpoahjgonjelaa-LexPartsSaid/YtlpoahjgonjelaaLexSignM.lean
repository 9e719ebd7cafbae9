/- The document's longest sign is the scanner's. -/
import Derived.Test.YtlpoahjgonjelaaLexRefSign
import Derived.WideShapes
namespace Go.Proofs.Ytlpoahjgonjelaa
open Go.RowKit
set_option linter.unusedVariables false
set_option linter.unusedSimpArgs false

theorem pk_list (s : ByteArray) (k : Nat) : Lx.pk s k = match s.data.toList[k]? with | some b => (b.toNat : Int) | none => 0 := by
  by_cases h : k < s.size
  · rw [Lx.pk_lt h]
    have h' : k < s.data.toList.length := by simpa using h
    rw [List.getElem?_eq_getElem h']
    rfl
  · rw [Lx.pk_ge h, List.getElem?_eq_none (by simpa using h)]
theorem ext_list (s : ByteArray) (i n : Nat) : (s.extract i (i + n)).toList = (s.data.toList.drop i).take n := by
  rw [ByteArray.toList_eq, ByteArray.data_extract, Array.toList_extract]
  simp [List.extract]
theorem matchB_list (s : ByteArray) (i : Nat) (a : ByteArray) (ha : 1 ≤ a.size) : matchB s i a = ((s.data.toList.drop i).take a.size == a.toList) := by
  unfold matchB
  rw [ext_list]
  by_cases h : i + a.size ≤ s.size
  · rw [decide_eq_true h]; rfl
  · rw [decide_eq_false h]
    symm
    rw [Bool.false_and, beq_eq_false_iff_ne]
    intro e
    have := congrArg List.length e
    rw [ByteArray.toList_eq] at this
    simp at this
    have e1 : s.data.size = s.size := rfl
    have e2 : a.data.size = a.size := rfl
    omega
section
variable (s : ByteArray) (i : Nat)
theorem m1 (x : UInt8) (hx : x ≠ 0) : matchB s i ⟨#[x]⟩ = decide (Lx.pk s i = (x.toNat : Int)) := by
  rw [matchB_list _ _ _ (by show 1 ≤ 1; decide), ByteArray.toList_eq, Bool.eq_iff_iff, beq_iff_eq, decide_eq_true_iff]
  have hx' : x.toNat ≠ 0 := fun h => hx (UInt8.toNat_inj.1 h)
  show ((s.data.toList.drop i).take 1 = [x]) ↔ _
  have p0 := pk_list s i
  have g0 : (s.data.toList.drop i)[0]? = s.data.toList[i]? := by simp
  rw [← g0] at p0
  rcases hr : s.data.toList.drop i with _ | ⟨c, r⟩
  · rw [hr] at p0; rw [p0]; simp; omega
  · rw [hr] at p0; rw [p0]; simp [← UInt8.toNat_inj]; omega
theorem m2 (x y : UInt8) (hx : x ≠ 0) (hy : y ≠ 0) : matchB s i ⟨#[x, y]⟩ = decide (Lx.pk s i = (x.toNat : Int) ∧ Lx.pk s (i + 1) = (y.toNat : Int)) := by
  rw [matchB_list _ _ _ (by show 1 ≤ 2; decide), ByteArray.toList_eq, Bool.eq_iff_iff, beq_iff_eq, decide_eq_true_iff]
  have hx' : x.toNat ≠ 0 := fun h => hx (UInt8.toNat_inj.1 h)
  have hy' : y.toNat ≠ 0 := fun h => hy (UInt8.toNat_inj.1 h)
  show ((s.data.toList.drop i).take 2 = [x, y]) ↔ _
  have p0 := pk_list s i
  have p1 := pk_list s (i + 1)
  have g0 : (s.data.toList.drop i)[0]? = s.data.toList[i]? := by simp
  have g1 : (s.data.toList.drop i)[1]? = s.data.toList[i + 1]? := by simp
  rw [← g0] at p0
  rw [← g1] at p1
  rcases hr : s.data.toList.drop i with _ | ⟨c, _ | ⟨d, r⟩⟩
  · rw [hr] at p0 p1; rw [p0, p1]; simp; omega
  · rw [hr] at p0 p1; rw [p0, p1]; simp [← UInt8.toNat_inj]; omega
  · rw [hr] at p0 p1; rw [p0, p1]; simp [← UInt8.toNat_inj]; omega
theorem m3 (x y z : UInt8) (hx : x ≠ 0) (hy : y ≠ 0) (hz : z ≠ 0) : matchB s i ⟨#[x, y, z]⟩ = decide (Lx.pk s i = (x.toNat : Int) ∧ Lx.pk s (i + 1) = (y.toNat : Int) ∧ Lx.pk s (i + 2) = (z.toNat : Int)) := by
  rw [matchB_list _ _ _ (by show 1 ≤ 3; decide), ByteArray.toList_eq, Bool.eq_iff_iff, beq_iff_eq, decide_eq_true_iff]
  have hx' : x.toNat ≠ 0 := fun h => hx (UInt8.toNat_inj.1 h)
  have hy' : y.toNat ≠ 0 := fun h => hy (UInt8.toNat_inj.1 h)
  have hz' : z.toNat ≠ 0 := fun h => hz (UInt8.toNat_inj.1 h)
  show ((s.data.toList.drop i).take 3 = [x, y, z]) ↔ _
  have p0 := pk_list s i
  have p1 := pk_list s (i + 1)
  have p2 := pk_list s (i + 2)
  have g0 : (s.data.toList.drop i)[0]? = s.data.toList[i]? := by simp
  have g1 : (s.data.toList.drop i)[1]? = s.data.toList[i + 1]? := by simp
  have g2 : (s.data.toList.drop i)[2]? = s.data.toList[i + 2]? := by simp
  rw [← g0] at p0
  rw [← g1] at p1
  rw [← g2] at p2
  rcases hr : s.data.toList.drop i with _ | ⟨c, _ | ⟨d, _ | ⟨e, r⟩⟩⟩
  · rw [hr] at p0 p1 p2; rw [p0, p1, p2]; simp; omega
  · rw [hr] at p0 p1 p2; rw [p0, p1, p2]; simp [← UInt8.toNat_inj]; omega
  · rw [hr] at p0 p1 p2; rw [p0, p1, p2]; simp [← UInt8.toNat_inj]; omega
  · rw [hr] at p0 p1 p2; rw [p0, p1, p2]; simp [← UInt8.toNat_inj]; omega
end
theorem ba_toList_inj {a b : ByteArray} (h : a.toList = b.toList) : a = b := by
  rw [ByteArray.toList_eq, ByteArray.toList_eq] at h
  exact Go.WideShapes.bytes_inj h
/-- What is found is what stands there. -/
theorem rsign_text (s : ByteArray) (i : Nat) (h : (rsign s i).size ≠ 0) : i + (rsign s i).size ≤ s.size ∧ rsign s i = s.extract i (i + (rsign s i).size) := by
  unfold rsign at h ⊢
  cases hf : sl.find? (matchB s i) with
  | none => rw [hf] at h; exact absurd rfl h
  | some a =>
    have hm := List.find?_some hf
    unfold matchB at hm
    rw [Bool.and_eq_true, decide_eq_true_iff, beq_iff_eq] at hm
    exact ⟨hm.1, (ba_toList_inj hm.2).symm⟩
/-- A suffix is what stands there. -/
theorem sufStr_ext (s : ByteArray) (k : Nat) : s.extract k (k + Lx.sufLen s k) = Lx.sufStr s k := by
  apply ba_toList_inj
  rw [ext_list]
  have p0 := pk_list s k
  have p1 := pk_list s (k + 1)
  have g0 : (s.data.toList.drop k)[0]? = s.data.toList[k]? := by simp
  have g1 : (s.data.toList.drop k)[1]? = s.data.toList[k + 1]? := by simp
  rw [← g0] at p0
  rw [← g1] at p1
  obtain ⟨l, hl⟩ : ∃ l, s.data.toList.drop k = l := ⟨_, rfl⟩
  rw [hl] at p0 p1 ⊢
  clear g0 g1 hl
  have u8 : ∀ (a : UInt8) (n : Nat) (hn : n < 256), (a.toNat : Int) = (n : Int) → a = UInt8.ofNat n := fun a n hn h => by
    apply UInt8.toNat_inj.1
    rw [UInt8.toNat_ofNat']; omega
  unfold Lx.sufLen Lx.sufStr
  by_cases h117 : Lx.pk s k = 117
  · rw [if_pos h117, if_pos h117]
    rcases l with _ | ⟨a, l⟩
    · simp at p0; omega
    · have ha := u8 a 117 (by decide) (by simp at p0; omega)
      by_cases h108 : Lx.pk s (k + 1) = 108
      · rw [if_pos h108, if_pos h108]
        rcases l with _ | ⟨b, l⟩
        · simp at p1; omega
        · have hb := u8 b 108 (by decide) (by simp at p1; omega)
          subst ha hb
          rw [ByteArray.toList_eq]; rfl
      · rw [if_neg h108, if_neg h108]
        subst ha
        rw [ByteArray.toList_eq]; rfl
  · rw [if_neg h117, if_neg h117]
    by_cases h108 : Lx.pk s k = 108
    · rw [if_pos h108, if_pos h108]
      rcases l with _ | ⟨a, l⟩
      · simp at p0; omega
      · have ha := u8 a 108 (by decide) (by simp at p0; omega)
        subst ha
        rw [ByteArray.toList_eq]; rfl
    · rw [if_neg h108, if_neg h108]
      rw [ByteArray.toList_eq]; rfl
end Go.Proofs.Ytlpoahjgonjelaa
