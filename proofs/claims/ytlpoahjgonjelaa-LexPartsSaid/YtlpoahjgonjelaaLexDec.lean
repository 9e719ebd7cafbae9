/- The document's Digits: a number's decimal digits. -/
import Derived.Test.YtlpoahjgonjelaaLexRefChar
import Derived.Test.YtlpoahjgonjelaaLexNamesM
import Derived.Deep.LoopGhost
import Derived.IntWalk
import Derived.Laws.IdiomStrings
namespace Go.Proofs.Ytlpoahjgonjelaa
open Go.RowKit
set_option linter.unusedVariables false

/-- What digits count behind what was counted. -/
def hv (b : Int) : Int → List UInt8 → Int
  | a, [] => a
  | a, d :: l => hv b (a * b + Lx.valB b (d.toNat : Int)) l
/-- A number's digits. -/
structure DecOf (n : Int) (l : List UInt8) : Prop where
  val : hv 10 0 l = n
  dig : ∀ c ∈ l, Lx.digB (c.toNat : Int) = true
  ne : l ≠ []
  fst : lb l 0 = 48 → l.length = 1 ∧ n = 0
  len : l.length ≤ 20
/-- In the midst of it. -/
structure DecIn (n m : Int) (l : List UInt8) : Prop where
  val : hv 10 m l = n
  dig : ∀ c ∈ l, Lx.digB (c.toNat : Int) = true
  pos : 0 ≤ m
  pw : m * 10 ^ l.length ≤ n
  fst : l ≠ [] → m = 0 → lb l 0 = 48 → l.length = 1 ∧ n = 0
  zer : m = 0 → l = [] → n = 0
  len : l.length ≤ 20
theorem dig_val {d : Int} (h0 : 0 ≤ d) (h : d ≤ 9) : Lx.digB (48 + d) = true ∧ Lx.valB 10 (48 + d) = d := by
  have h1 : Lx.digB (48 + d) = true := (Lx.digB_iff _).2 (by omega)
  exact ⟨h1, by unfold Lx.valB; rw [if_pos h1]; omega⟩
theorem pow_len {m n : Int} {k : Nat} (hm : 1 ≤ m) (h : m * 10 ^ k ≤ n) (hn : n ≤ 18446744073709551615) : k ≤ 19 := by
  by_cases hk : k ≤ 19
  · exact hk
  · exfalso
    have h1 : (10 : Nat) ^ 20 ≤ 10 ^ k := Nat.pow_le_pow_right (by decide) (by omega)
    have h2 : ((10 : Int) ^ 20) ≤ 10 ^ k := by exact_mod_cast h1
    have h3 : (10 : Int) ^ k ≤ m * 10 ^ k := by
      have : (0 : Int) ≤ 10 ^ k := by omega
      have := Int.mul_le_mul_of_nonneg_right hm this
      omega
    omega
theorem DecIn.next {n m : Int} {l : List UInt8} {c : UInt8} (h : DecIn n m l) (hn : n ≤ 18446744073709551615) (hgo : 0 < m ∨ l = []) (hc : (c.toNat : Int) = 48 + m % 10) : DecIn n (m / 10) (c :: l) := by
  have hp := h.pos
  obtain ⟨d1, d2⟩ := dig_val (d := m % 10) (by omega) (by omega)
  refine ⟨?_, fun e he => ?_, by omega, ?_, fun _ hm0 h48 => ?_, (fun _ hl => by cases hl), ?_⟩
  · show hv 10 (m / 10 * 10 + Lx.valB 10 (c.toNat : Int)) l = n
    rw [hc, d2, show m / 10 * 10 + m % 10 = m by omega]; exact h.val
  · rcases List.mem_cons.1 he with rfl | he
    · rw [hc]; exact d1
    · exact h.dig e he
  · have h1 := h.pw
    rw [List.length_cons, Int.pow_succ]
    have h2 : (0 : Int) ≤ 10 ^ l.length := by
      have : (0 : Nat) ≤ 10 ^ l.length := Nat.zero_le _
      exact_mod_cast this
    have h3 : m / 10 * (10 ^ l.length * 10) = (m / 10 * 10) * 10 ^ l.length := by
      rw [Int.mul_comm (10 ^ l.length) 10, ← Int.mul_assoc]
    have h4 := Int.mul_le_mul_of_nonneg_right (show m / 10 * 10 ≤ m by omega) h2
    rw [h3]; omega
  · have e0 : lb (c :: l) 0 = (c.toNat : Int) := rfl
    rw [e0, hc] at h48
    have hm : m = 0 := by omega
    rcases hgo with hgo | hgo
    · omega
    · subst hgo; exact ⟨rfl, h.zer hm rfl⟩
  · rw [List.length_cons]
    rcases hgo with hgo | hgo
    · have := pow_len (by omega) h.pw hn; omega
    · subst hgo; decide
theorem DecIn.done {n : Int} {l : List UInt8} (h : DecIn n 0 l) (hl : l ≠ []) : DecOf n l :=
  ⟨h.val, h.dig, hl, fun h48 => h.fst hl rfl h48, h.len⟩
/-- string of one byte. -/
theorem conv_one (w : World) (v : Int) (h0 : 0 ≤ v) (h1 : v ≤ 255) : (convert 38 9 (.slice (some ⟨w.heap.size, 0, none⟩) 1 1)).run Try.prog (w.alloc (.cells #[.int .u8 v] 5)) = .ok (.string ⟨#[UInt8.ofNat v.toNat]⟩) (w.alloc (.cells #[.int .u8 v] 5)) := by
  have hv : ((UInt8.ofNat v.toNat).toNat : Int) = v := by rw [UInt8.toNat_ofNat']; omega
  have := run_convert_bytes_back (P := Try.prog) (w.alloc (.cells #[.int .u8 v] 5)) 38 9 5 ⟨w.heap.size, 0, none⟩ 1 [UInt8.ofNat v.toNat] Try.underlying38 Try.underlying5 Try.underlying9 (fun j hj => by
    match j, hj with
    | 0, _ => simp [Addr.add]; omega)
  exact this
set_option maxHeartbeats 2000000 in
theorem digits_to (n : Int) (h0 : 0 ≤ n) (h1 : n ≤ 18446744073709551615) (w : World) :
    Calls Try.prog 15 #[.int .u64 n] w fun e w' => ∃ S : ByteArray, e = .returned (.string S) ∧ DecOf n S.data.toList ∧ Below w.heap.size w w' := by
  go_enter Try.func15, Try.ntmps15
  go_wp2_with fail
  go_loopg [0, 3] (2 * n.toNat + 1) (fun g x y wr => ∃ (m : Int) (S : ByteArray), x = .int .u64 m ∧ y = .string S ∧ g = 2 * m.toNat + (if S.data.toList = [] then 1 else 0) ∧ 0 ≤ m ∧ m ≤ n ∧ Hid (DecIn n m S.data.toList) ∧ Hid (Below w.heap.size w wr))
  case atStart =>
    refine ⟨n, ⟨#[]⟩, rfl, rfl, rfl, h0, Int.le_refl _, Lib.hid ⟨rfl, fun c hc => by simp at hc, h0, ?_, fun h => absurd rfl h, fun h _ => h, by decide⟩, Lib.hid (Below.refl _ _)⟩
    show n * 10 ^ 0 ≤ n
    simp
  case round =>
    obtain ⟨m, S, rfl, rfl, hg, hm0, hmn, HD, HB⟩ := hrel
    by_cases hgo : 0 < m ∨ S.data.toList = []
    · have hle := HD.out.len
      have hS : S.size ≤ 20 := by rw [size_list]; exact hle
      have ov : ¬ 9223372036854775807 < 1 + S.size := by omega
      clear hle
      by_cases hm : 0 < m
      · obtain ⟨v, hv⟩ : ∃ v, 48 + m % 10 = v := ⟨_, rfl⟩
        have hvb : 0 ≤ v ∧ v ≤ 255 := by omega
        have kc := conv_one wr v hvb.1 hvb.2
        have HV := Lib.hid hv
        have HD2 : Hid (DecIn n (m / 10) ((⟨#[UInt8.ofNat v.toNat]⟩ : ByteArray) ++ S).data.toList) := by
          refine Lib.hid ?_
          have e : ((⟨#[UInt8.ofNat v.toNat]⟩ : ByteArray) ++ S).data.toList = UInt8.ofNat v.toNat :: S.data.toList := by simp
          rw [e]
          exact HD.out.next (by omega) hgo (by rw [UInt8.toNat_ofNat', HV.out]; omega)
        have hsz := HB.out.size
        have HB2 := Lib.hid (HB.out.alloc hsz (.cells #[.int .u8 v] 5))
        have hne : ((⟨#[UInt8.ofNat v.toNat]⟩ : ByteArray) ++ S).data.toList ≠ [] := by simp
        have HIF : Hid (2 * (m / 10).toNat = 2 * (m / 10).toNat + (if ((⟨#[UInt8.ofNat v.toNat]⟩ : ByteArray) ++ S).data.toList = [] then 1 else 0)) := Lib.hid (by rw [if_neg hne]; rfl)
        clear hgo hsz hne
        go_wp2_with fail
        go_roundg (2 * (m / 10).toNat)
        case rel => exact ⟨m / 10, _, rfl, rfl, HIF.out, by omega, by omega, HD2, HB2⟩
        case measure => omega
      · have hS0 : S.data.toList = [] := hgo.resolve_left hm
        obtain rfl : m = 0 := by omega
        rw [if_pos hS0] at hg
        have hsl : S.toList = [] := by rw [ByteArray.toList_eq]; exact hS0
        have hsl2 : S.toList.isEmpty = true := by rw [hsl]; rfl
        have kc : (convert 38 9 (.slice (some ⟨wr.heap.size, 0, none⟩) 1 1)).run Try.prog (wr.alloc (.cells #[.int .u8 48] 5)) = .ok (.string ⟨#[48]⟩) (wr.alloc (.cells #[.int .u8 48] 5)) := conv_one wr 48 (by decide) (by decide)
        have HD2 : Hid (DecIn n 0 ((⟨#[48]⟩ : ByteArray) ++ S).data.toList) := by
          refine Lib.hid ?_
          have e : ((⟨#[48]⟩ : ByteArray) ++ S).data.toList = 48 :: S.data.toList := by simp
          rw [e]
          exact HD.out.next (c := 48) (by omega) hgo (by decide)
        have hsz := HB.out.size
        have HB2 := Lib.hid (HB.out.alloc hsz (.cells #[.int .u8 48] 5))
        have hne : ((⟨#[48]⟩ : ByteArray) ++ S).data.toList ≠ [] := by simp
        have HIF : Hid (0 = 2 * (0 : Int).toNat + (if ((⟨#[48]⟩ : ByteArray) ++ S).data.toList = [] then 1 else 0)) := Lib.hid (by rw [if_neg hne]; rfl)
        clear hgo hsz hne hsl hS0
        go_wp2_with fail
        go_roundg 0
        case rel => exact ⟨0, _, rfl, rfl, HIF.out, by omega, by omega, HD2, HB2⟩
        case measure => omega
    · have hm00 : m = 0 := by omega
      subst hm00
      have hne : S.data.toList ≠ [] := fun h => hgo (.inr h)
      have hsl2 : S.toList.isEmpty = false := by
        rw [ByteArray.toList_eq]
        cases h : S.data.toList with
        | nil => exact absurd h hne
        | cons c l => rfl
      have HDD := Lib.hid (HD.out.done hne)
      clear hgo hne
      go_wp2_with fail
      go_returns
      exact ⟨S, rfl, HDD.out, HB.out⟩
end Go.Proofs.Ytlpoahjgonjelaa
