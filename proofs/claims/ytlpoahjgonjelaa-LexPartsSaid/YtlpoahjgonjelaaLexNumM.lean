/- What a text is taken apart to that is one number. -/
import Derived.Test.YtlpoahjgonjelaaLexDec
import Derived.Test.YtlpoahjgonjelaaLexSignsM
namespace Go.Proofs.Ytlpoahjgonjelaa
open Go.RowKit
set_option linter.unusedVariables false

theorem hv_ge {b : Int} (hb : 1 ≤ b) (l : List UInt8) (hl : ∀ c ∈ l, 0 ≤ Lx.valB b (c.toNat : Int)) : ∀ a : Int, 0 ≤ a → a ≤ hv b a l := by
  induction l with
  | nil => intro a _; exact Int.le_refl _
  | cons c l ih =>
    intro a ha
    have hc := hl c (List.mem_cons_self ..)
    have h1 : a ≤ a * b := by
      have := Int.mul_le_mul_of_nonneg_left hb ha
      omega
    have := ih (fun d hd => hl d (List.mem_cons_of_mem _ hd)) (a * b + Lx.valB b (c.toNat : Int)) (by omega)
    show a ≤ hv b (a * b + Lx.valB b (c.toNat : Int)) l
    omega
theorem pk_drop0 {s : ByteArray} {p : Nat} {l : List UInt8} (h : s.data.toList.drop p = l) : Lx.pk s p = lb l 0 := by
  have := pk_drop s p 0
  rw [Nat.add_zero, h] at this; exact this
theorem drop_next {s : ByteArray} {p : Nat} {c : UInt8} {l : List UInt8} (h : s.data.toList.drop p = c :: l) : s.data.toList.drop (p + 1) = l := by rw [← List.drop_drop, h]; rfl
theorem digs_run (s : ByteArray) (b : Int) (hb : 1 ≤ b) (ds rest : List UInt8) : ∀ (p f : Nat) (a : Int) (ok : Bool), s.data.toList.drop p = ds ++ rest → (∀ c ∈ ds, 0 ≤ Lx.valB b (c.toNat : Int)) → Lx.valB b (lb rest 0) < 0 → ds.length ≤ f → 0 ≤ a → hv b a ds ≤ 18446744073709551615 →
    Lx.digs s b f p a ok = (p + ds.length, hv b a ds, ok) := by
  induction ds with
  | nil =>
    intro p f a ok h hd hr hf ha hm
    rw [Lx.digs_no (by rw [pk_drop0 h]; simpa using hr)]; rfl
  | cons c l ih =>
    intro p f a ok h hd hr hf ha hm
    obtain ⟨f, rfl⟩ : ∃ f', f = f' + 1 := ⟨f - 1, by rw [List.length_cons] at hf; omega⟩
    have hc : Lx.pk s p = (c.toNat : Int) := pk_drop0 h
    have hv0 := hd c (List.mem_cons_self ..)
    have hd' : ∀ d ∈ l, 0 ≤ Lx.valB b (d.toNat : Int) := fun d hd1 => hd d (List.mem_cons_of_mem _ hd1)
    have hab : 0 ≤ a * b := Int.mul_nonneg ha (by omega)
    have hm' : hv b (a * b + Lx.valB b (c.toNat : Int)) l ≤ 18446744073709551615 := hm
    have hge := hv_ge hb l hd' (a * b + Lx.valB b (c.toNat : Int)) (by omega)
    rw [Lx.digs_yes (by rw [hc]; exact hv0), hc]
    have e1 : (a * b + Lx.valB b (c.toNat : Int)) % 18446744073709551616 = a * b + Lx.valB b (c.toNat : Int) := Int.emod_eq_of_lt (by omega) (by omega)
    have e2 : decide (a ≤ (18446744073709551615 - Lx.valB b (c.toNat : Int)) / b) = true := decide_eq_true (by rw [Int.le_ediv_iff_mul_le (by omega)]; omega)
    rw [e1, e2, Bool.and_true, ih (p + 1) f _ ok (drop_next h) hd' hr (by rw [List.length_cons] at hf; omega) (by omega) hm']
    rw [List.length_cons]
    show (p + 1 + l.length, _, ok) = (p + (l.length + 1), _, ok)
    rw [show p + 1 + l.length = p + (l.length + 1) by omega]
    rfl
/-- Where the digits end, whatever they count. -/
theorem digs_pos (s : ByteArray) (b : Int) (ds rest : List UInt8) : ∀ (p f : Nat) (a : Int) (ok : Bool), s.data.toList.drop p = ds ++ rest → (∀ c ∈ ds, 0 ≤ Lx.valB b (c.toNat : Int)) → Lx.valB b (lb rest 0) < 0 → ds.length ≤ f →
    (Lx.digs s b f p a ok).1 = p + ds.length := by
  induction ds with
  | nil =>
    intro p f a ok h hd hr hf
    rw [Lx.digs_no (by rw [pk_drop0 h]; simpa using hr)]; rfl
  | cons c l ih =>
    intro p f a ok h hd hr hf
    obtain ⟨f, rfl⟩ : ∃ f', f = f' + 1 := ⟨f - 1, by rw [List.length_cons] at hf; omega⟩
    have hc : Lx.pk s p = (c.toNat : Int) := pk_drop0 h
    rw [Lx.digs_yes (by rw [hc]; exact hd c (List.mem_cons_self ..)), ih (p + 1) f _ _ (drop_next h) (fun d hd1 => hd d (List.mem_cons_of_mem _ hd1)) hr (by rw [List.length_cons] at hf; omega), List.length_cons]
    omega
/-- The law's four suffixes. -/
def sufs : List (List UInt8) := [[], [117], [108], [117, 108]]
theorem suf_at {s : ByteArray} {k : Nat} {q r : List UInt8} (hq : q ∈ sufs) (h : s.data.toList.drop k = q ++ r) (hr : lb r 0 ≠ 117 ∧ lb r 0 ≠ 108) : Lx.sufLen s k = q.length ∧ (Lx.sufStr s k).data.toList = q := by
  have p0 := pk_drop0 h
  have p1 : Lx.pk s (k + 1) = lb (q ++ r) 1 := by rw [pk_drop, h]
  unfold Lx.sufLen Lx.sufStr
  simp only [sufs, List.mem_cons, List.mem_nil_iff, or_false] at hq
  rcases hq with rfl | rfl | rfl | rfl
  · have e : lb ([] ++ r) 0 = lb r 0 := rfl
    rw [p0, e, if_neg hr.1, if_neg hr.2, if_neg hr.1, if_neg hr.2]; exact ⟨rfl, rfl⟩
  · have e : lb ([117] ++ r) 0 = 117 := rfl
    have e1 : lb ([117] ++ r) 1 = lb r 0 := rfl
    rw [p0, e, p1, e1, if_pos rfl, if_neg hr.2, if_pos rfl, if_neg hr.2]; exact ⟨rfl, rfl⟩
  · have e : lb ([108] ++ r) 0 = 108 := rfl
    rw [p0, e, if_neg (by decide), if_pos rfl, if_neg (by decide), if_pos rfl]; exact ⟨rfl, rfl⟩
  · have e : lb ([117, 108] ++ r) 0 = 117 := rfl
    have e1 : lb ([117, 108] ++ r) 1 = 108 := rfl
    rw [p0, e, p1, e1, if_pos rfl, if_pos rfl, if_pos rfl, if_pos rfl]; exact ⟨rfl, rfl⟩
theorem suf_first {q r : List UInt8} (hq : q ∈ sufs) : (q = [] ∧ lb (q ++ r) 0 = lb r 0) ∨ lb (q ++ r) 0 = 117 ∨ lb (q ++ r) 0 = 108 := by
  simp only [sufs, List.mem_cons, List.mem_nil_iff, or_false] at hq
  rcases hq with rfl | rfl | rfl | rfl
  · exact .inl ⟨rfl, rfl⟩
  · exact .inr (.inl rfl)
  · exact .inr (.inr rfl)
  · exact .inr (.inl rfl)
theorem dig_valB {c : Int} (h : Lx.digB c = true) (b : Int) : Lx.valB b c = c - 48 ∧ 0 ≤ Lx.valB b c := by
  have h9 := (Lx.digB_iff c).1 h
  have e : Lx.valB b c = c - 48 := by unfold Lx.valB; rw [if_pos h]
  exact ⟨e, by omega⟩
theorem valB_none {c : Int} (h : Lx.digB c = false) : Lx.valB 10 c < 0 := by unfold Lx.valB; rw [h, if_neg (by decide), if_neg (by omega), if_neg (by omega)]; decide
theorem dig_not {c : Int} (h : Lx.digB c = true) : Lx.blankB c = false ∧ c ≠ 47 ∧ Lx.letB c = false := by
  have h9 := (Lx.digB_iff c).1 h
  refine ⟨?_, by omega, ?_⟩
  · cases hb : Lx.blankB c
    · rfl
    · have := (Lx.blankB_iff c).1 hb; omega
  · cases hb : Lx.letB c
    · rfl
    · have := (Lx.letB_iff c).1 hb; omega
end Go.Proofs.Ytlpoahjgonjelaa
