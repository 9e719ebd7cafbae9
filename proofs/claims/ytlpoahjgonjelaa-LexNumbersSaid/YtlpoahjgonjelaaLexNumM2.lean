/- What the law's three texts are taken apart to: decimal, with 0x, with a letter behind. -/
import Derived.Test.YtlpoahjgonjelaaLexNumM
namespace Go.Proofs.Ytlpoahjgonjelaa
open Go.RowKit
set_option linter.unusedVariables false

theorem one_tok {s : ByteArray} {k n : Int} {x : ByteArray} {b : Bool} (hs : 1 ≤ s.size ∧ s.size ≤ 20000) (hg : Lx.gap s s.size 0 = (0, true)) (ht : Lx.tokenM s 0 = ⟨0, s.size, k, x, n, b⟩) :
    Lx.tokensM s = ⟨[⟨k, 0, s.extract 0 s.size, x, n, b⟩], 0, 0⟩ := by
  obtain ⟨f, hf⟩ : ∃ f, s.size = f + 1 := ⟨s.size - 1, by omega⟩
  unfold Lx.tokensM
  rw [if_neg (by omega), Lx.toks_more hg (by omega) (by rw [ht]) (by simp), ht]
  simp only
  rw [show s.size = f + 1 from hf, Lx.toks_end (g := f + 1) (by rw [← hf]; exact Lx.gap_end (by omega)) hf.symm]
  unfold Lx.tkOf
  rw [← hf]; rfl
theorem bad_tok {s : ByteArray} {c : Int} {j : Nat} (hs : 1 ≤ s.size ∧ s.size ≤ 20000) (hg : Lx.gap s s.size 0 = (0, true)) (ht : Lx.tokenM s 0 = Lx.bad c j) (hc : c ≠ 0) : Lx.tokensM s = ⟨[], c, 0⟩ := by
  unfold Lx.tokensM
  rw [if_neg (by omega), Lx.toks_wrong hg (by omega) (by rw [ht]; exact hc), ht]; rfl
theorem dig_gap {s : ByteArray} (h : Lx.digB (Lx.pk s 0) = true) (f : Nat) : Lx.gap s f 0 = (0, true) := by
  obtain ⟨h1, h2, h3⟩ := dig_not h
  exact Lx.gap_stop h1 (fun hh => h2 hh.1) (fun hh => h2 hh.1)
theorem num_tok {s : ByteArray} (h : Lx.digB (Lx.pk s 0) = true) : Lx.tokenM s 0 = Lx.numberM s 0 := by
  unfold Lx.tokenM; rw [(dig_not h).2.2, h]; rfl
/-- A row of decimal digits at the text's head, and something that is no digit behind it. -/
theorem dec_digM {s : ByteArray} {ds r : List UInt8} {n : Int} (h : s.data.toList = ds ++ r) (hD : DecOf n ds) (hn : n ≤ 18446744073709551615) (hr : Lx.digB (lb r 0) = false) : Lx.digM s 10 0 = (ds.length, n, true) := by
  have hh : s.data.toList.drop 0 = ds ++ r := h
  have p0 : Lx.pk s 0 = lb (ds ++ r) 0 := pk_drop0 hh
  have hne : 0 < ds.length := List.length_pos_iff.2 hD.ne
  rw [lb_left hne] at p0
  by_cases h48 : Lx.pk s 0 = 48
  · obtain ⟨h1, h2⟩ := hD.fst (by rw [← p0]; exact h48)
    unfold Lx.digM; rw [if_pos ⟨rfl, h48⟩, h1, h2]
  · unfold Lx.digM
    rw [if_neg (fun hh => h48 hh.2), digs_run s 10 (by decide) ds r 0 s.size 0 true hh (fun c hc => (dig_valB (hD.dig c hc) 10).2) (valB_none hr) (by rw [size_list, h, List.length_append]; omega) (by decide) (by rw [hD.val]; exact hn), hD.val, Nat.zero_add]
theorem dec_head {s : ByteArray} {ds r : List UInt8} {n : Int} (h : s.data.toList = ds ++ r) (hD : DecOf n ds) : Lx.digB (Lx.pk s 0) = true := by
  have hne : 0 < ds.length := List.length_pos_iff.2 hD.ne
  rw [pk_lb, h, lb_left hne]
  obtain ⟨b, hb, he⟩ := lb_mem hne
  rw [he]; exact hD.dig b hb
theorem dec_nox {s : ByteArray} {ds r : List UInt8} {n : Int} (h : s.data.toList = ds ++ r) (hD : DecOf n ds) (hr : lb r 0 ≠ 120) : ¬ (Lx.pk s 0 = 48 ∧ Lx.pk s (0 + 1) = 120) := by
  rintro ⟨h0, h1⟩
  have hne : 0 < ds.length := List.length_pos_iff.2 hD.ne
  rw [pk_lb, h, lb_left hne] at h0
  obtain ⟨hl, _⟩ := hD.fst h0
  rw [pk_lb, h, lb_right (by omega), hl] at h1
  exact hr h1
theorem suf_nodig {q r : List UInt8} (hq : q ∈ sufs) (hr : q = [] → Lx.digB (lb r 0) = false) : Lx.digB (lb (q ++ r) 0) = false := by
  rcases suf_first (r := r) hq with ⟨h, e⟩ | e | e
  · rw [e]; exact hr h
  · rw [e]; decide
  · rw [e]; decide
theorem drop_ds {s : ByteArray} {ds r : List UInt8} (h : s.data.toList = ds ++ r) : s.data.toList.drop ds.length = r := by rw [h]; simp
theorem dec_toks {s : ByteArray} {ds q : List UInt8} {n : Int} (h : s.data.toList = ds ++ q) (hD : DecOf n ds) (hn : n ≤ 18446744073709551615) (hq : q ∈ sufs) : ∃ T X : ByteArray, Lx.tokensM s = ⟨[⟨3, 0, T, X, n, false⟩], 0, 0⟩ ∧ X.data.toList = q := by
  have hne : 0 < ds.length := List.length_pos_iff.2 hD.ne
  have hql : q.length ≤ 2 := by simp only [sufs, List.mem_cons, List.mem_nil_iff, or_false] at hq; rcases hq with rfl | rfl | rfl | rfl <;> simp
  have hlen := hD.len
  have hsz : s.size = ds.length + q.length := by rw [size_list, h, List.length_append]
  have hh : s.data.toList = ds ++ (q ++ []) := by rw [List.append_nil]; exact h
  have hl0 : lb ([] : List UInt8) 0 = 0 := rfl
  have hnd := suf_nodig (r := []) hq (fun _ => by rw [hl0]; decide)
  have hd := dec_digM hh hD hn hnd
  have hx := dec_nox hh hD (by rcases suf_first (r := []) hq with ⟨_, e⟩ | e | e <;> rw [e] <;> (try rw [hl0]) <;> decide)
  obtain ⟨s1, s2⟩ := suf_at hq (drop_ds hh) (by rw [hl0]; decide)
  have hE : Lx.nEnd s 10 0 = s.size := by unfold Lx.nEnd; rw [hd, hsz]; simp only; rw [s1]
  have hC : Lx.nCode s 10 0 = 0 := by unfold Lx.nCode; rw [hE, Lx.pk_ge (by omega), hd, if_neg (by decide)]; rfl
  have hT : Lx.tokenM s 0 = ⟨0, s.size, 3, Lx.sufStr s ds.length, n, false⟩ := by
    rw [num_tok (dec_head hh hD)]
    unfold Lx.numberM; rw [if_neg hx]
    unfold Lx.tailM; rw [hC, hE, hd]; rfl
  exact ⟨_, _, one_tok (by omega) (dig_gap (dec_head hh hD) _) hT, s2⟩
theorem num_bad {s : ByteArray} {ds q : List UInt8} {e : UInt8} {n : Int} (h : s.data.toList = ds ++ (q ++ [e, 120])) (hD : DecOf n ds) (hn : n ≤ 18446744073709551615) (hq : q ∈ sufs) (he : Lx.digB (e.toNat : Int) = true) : Lx.tokensM s = ⟨[], 3, 0⟩ := by
  have hne : 0 < ds.length := List.length_pos_iff.2 hD.ne
  have hql : q.length ≤ 2 := by simp only [sufs, List.mem_cons, List.mem_nil_iff, or_false] at hq; rcases hq with rfl | rfl | rfl | rfl <;> simp
  have hlen := hD.len
  have hsz : s.size = ds.length + q.length + 2 := by rw [size_list, h]; simp; omega
  have hl0 : lb [e, 120] 0 = (e.toNat : Int) := rfl
  have h9 := (Lx.digB_iff _).1 he
  have hx := dec_nox h hD (by rcases suf_first (r := [e, 120]) hq with ⟨_, e1⟩ | e1 | e1 <;> rw [e1] <;> (try rw [hl0]) <;> omega)
  have hin : ∃ j, Lx.nEnd s 10 0 = j ∧ Lx.inB (Lx.pk s j) = true := by
    by_cases hq0 : q = []
    · subst hq0
      rw [List.nil_append] at h
      by_cases h48 : Lx.pk s 0 = 48
      · have p0 := h48
        rw [pk_lb, h, lb_left hne] at p0
        have hl := (hD.fst p0).1
        have hd : Lx.digM s 10 0 = (0 + 1, 0, true) := by unfold Lx.digM; rw [if_pos ⟨rfl, h48⟩]
        have p1 : Lx.pk s (0 + 1) = (e.toNat : Int) := by rw [pk_lb, h, lb_right (by omega), hl]; rfl
        have hs : Lx.sufLen s (0 + 1) = 0 := by unfold Lx.sufLen; rw [p1, if_neg (by omega), if_neg (by omega)]
        refine ⟨0 + 1, ?_, ?_⟩
        · unfold Lx.nEnd; rw [hd]; simp only; rw [hs]
        · rw [p1]; unfold Lx.inB; rw [he, Bool.or_true]
      · have h2 : s.data.toList.drop 0 = (ds ++ [e]) ++ [120] := by rw [List.drop_zero, h]; simp
        have hp := digs_pos s 10 (ds ++ [e]) [120] 0 s.size 0 true h2 (fun c hc => by
          rcases List.mem_append.1 hc with hc | hc
          · exact (dig_valB (hD.dig c hc) 10).2
          · simp at hc; subst hc; exact (dig_valB he 10).2) (by decide) (by rw [hsz, List.length_append]; simp)
        have hd : (Lx.digM s 10 0).1 = ds.length + 1 := by unfold Lx.digM; rw [if_neg (fun hh => h48 hh.2), hp, List.length_append]; simp
        have p1 : Lx.pk s (ds.length + 1) = 120 := by rw [pk_lb, h, lb_right (by omega)]; rw [show ds.length + 1 - ds.length = 1 by omega]; rfl
        have hs : Lx.sufLen s (ds.length + 1) = 0 := by unfold Lx.sufLen; rw [p1]; rfl
        refine ⟨ds.length + 1, ?_, ?_⟩
        · unfold Lx.nEnd; rw [hd, hs]
        · rw [p1]; decide
    · have hnd := suf_nodig (r := [e, 120]) hq (fun hh => absurd hh hq0)
      have hd := dec_digM h hD hn hnd
      obtain ⟨s1, s2⟩ := suf_at hq (drop_ds h) (by rw [hl0]; omega)
      refine ⟨ds.length + q.length, ?_, ?_⟩
      · unfold Lx.nEnd; rw [hd]; simp only; rw [s1]
      · have p1 : Lx.pk s (ds.length + q.length) = (e.toNat : Int) := by
          rw [pk_lb, h, lb_right (by omega), show ds.length + q.length - ds.length = q.length by omega, lb_right (by omega), show q.length - q.length = 0 by omega]; rfl
        rw [p1]; unfold Lx.inB; rw [he, Bool.or_true]
  obtain ⟨j, hj, hj2⟩ := hin
  have hC : Lx.nCode s 10 0 = 3 := by unfold Lx.nCode; rw [hj, if_pos hj2]
  have hT : Lx.tokenM s 0 = Lx.bad 3 j := by
    rw [num_tok (dec_head h hD)]
    unfold Lx.numberM; rw [if_neg hx]
    unfold Lx.tailM; rw [hC, hj, if_neg (by decide)]
  exact bad_tok (by omega) (dig_gap (dec_head h hD) _) hT (by decide)
theorem hex_toks {s : ByteArray} {hs q : List UInt8} {n : Int} (h : s.data.toList = [48, 120] ++ (hs ++ q)) (hd : ∀ c ∈ hs, 0 ≤ Lx.valB 16 (c.toNat : Int)) (hl : hs.length = 16) (hv1 : hv 16 0 hs = n) (hn : n ≤ 18446744073709551615) (hq : q ∈ sufs) : ∃ T X : ByteArray, Lx.tokensM s = ⟨[⟨3, 0, T, X, n, true⟩], 0, 0⟩ ∧ X.data.toList = q := by
  have hql : q.length ≤ 2 := by simp only [sufs, List.mem_cons, List.mem_nil_iff, or_false] at hq; rcases hq with rfl | rfl | rfl | rfl <;> simp
  have hsz : s.size = 18 + q.length := by rw [size_list, h]; simp; omega
  have p0 : Lx.pk s 0 = 48 := by rw [pk_lb, h]; rfl
  have p1 : Lx.pk s (0 + 1) = 120 := by rw [pk_lb, h]; rfl
  have d2 : s.data.toList.drop 2 = hs ++ (q ++ []) := by rw [h, List.append_nil]; rfl
  have p2 : Lx.pk s (0 + 2) = lb hs 0 := by rw [show 0 + 2 = 2 from rfl, pk_drop0 d2, lb_left (by omega)]
  have hl0 : lb ([] : List UInt8) 0 = 0 := rfl
  have hnd : Lx.valB 16 (lb (q ++ []) 0) < 0 := by
    rcases suf_first (r := []) hq with ⟨_, e⟩ | e | e <;> rw [e] <;> (try rw [hl0]) <;> decide
  have hdM : Lx.digM s 16 (0 + 2) = (18, n, true) := by
    unfold Lx.digM
    rw [if_neg (by omega), digs_run s 16 (by decide) hs (q ++ []) (0 + 2) s.size 0 true d2 hd hnd (by omega) (by decide) (by rw [hv1]; exact hn), hv1, hl]
  have d18 : s.data.toList.drop 18 = q ++ [] := by
    rw [show 18 = 2 + hs.length by omega, ← List.drop_drop, d2]; simp
  obtain ⟨s1, s2⟩ := suf_at hq d18 (by rw [hl0]; decide)
  have hE : Lx.nEnd s 16 (0 + 2) = s.size := by unfold Lx.nEnd; rw [hdM, hsz]; simp only; rw [s1]
  have hC : Lx.nCode s 16 (0 + 2) = 0 := by unfold Lx.nCode; rw [hE, Lx.pk_ge (by omega), hdM, if_neg (by decide)]; rfl
  have hdg : Lx.digB (Lx.pk s 0) = true := by rw [p0]; decide
  have hT : Lx.tokenM s 0 = ⟨0, s.size, 3, Lx.sufStr s 18, n, true⟩ := by
    rw [num_tok hdg]
    unfold Lx.numberM
    obtain ⟨b, hb, he⟩ := lb_mem (l := hs) (k := 0) (by omega)
    rw [if_pos ⟨p0, p1⟩, p2, he, if_neg (by have := hd b hb; omega)]
    unfold Lx.tailM; rw [hC, hE, hdM]; rfl
  exact ⟨_, _, one_tok (by omega) (dig_gap hdg _) hT, s2⟩
end Go.Proofs.Ytlpoahjgonjelaa
