/- The scanner's names. -/
import Derived.Test.YtlpoahjgonjelaaLexSmall
import Derived.Deep.LoopGhost
namespace Go.Proofs.Ytlpoahjgonjelaa
open Go.RowKit
set_option linter.unusedVariables false

/-- A token as the scanner's parts answer it: without its place and its text. -/
def tokV (kind : Int) (suf : ByteArray) (num : Int) (hex : Bool) : Value := .agg #[.int .i64 kind, .int .i64 0, .string ⟨#[]⟩, .string suf, .int .u64 num, .bool hex]
/-- What a part answers: a token, what is wrong, where the scanner stands. -/
def TokPost (p : Nat) (s : ByteArray) (w0 : World) (kind : Int) (suf : ByteArray) (num : Int) (hex : Bool) (code : Int) (j : Nat) (e : Ending) (w' : World) : Prop :=
  e = .returned (.tuple #[tokV kind suf num hex, .int .i64 code]) ∧ Sc p s j w0 w'

set_option maxHeartbeats 2000000 in
theorem name_any (p : Nat) (s : ByteArray) (i : Nat) (hi : i ≤ s.size) (hs : s.size ≤ 4611686018427387904) (w0 w : World) (h : Sc p s i w0 w) :
    Calls Try.prog 25 #[.pointer (some ⟨p, 0, none⟩)] w (TokPost p s w0 (Lx.nameM s i (Lx.nameEnd s i)).2 ⟨#[]⟩ 0 false (Lx.nameM s i (Lx.nameEnd s i)).1 (Lx.nameEnd s i)) := by
  have c1a : ∀ o : Obj, (w.alloc o).cell? ⟨p, 1, none⟩ = some (.int .i64 (i : Int)) := fun o => (h.alloc o).c1
  have HT := Lib.hid (TokAt.made w)
  have HZ : Hid (w.heap.size < (w.alloc (.cells #[.int .i64 0, .int .i64 0, .string ⟨#[]⟩, .string ⟨#[]⟩, .int .u64 0, .bool false] 33)).heap.size) := Lib.hid (by simp)
  have HQ := Lib.hid (Nat.ne_of_gt h.lt)
  have HG := Lib.hid h.g.size
  have HS := Lib.hid h
  clear h
  go_enter Try.func25, Try.ntmps25
  go_wp2_with fail
  go_loopg [] (s.size - i) (fun g wr => ∃ k f : Nat, i ≤ k ∧ k ≤ s.size ∧ g = s.size - k ∧ g ≤ f ∧ Hid (Lx.nameEnd s i = Lx.scan (Lx.nameP s) f k) ∧ Hid (Sc p s k (w.alloc (.cells #[.int .i64 0, .int .i64 0, .string ⟨#[]⟩, .string ⟨#[]⟩, .int .u64 0, .bool false] 33)) wr))
  case atStart => exact ⟨i, s.size, by omega, hi, rfl, by omega, Lib.hid rfl, Lib.hid (HS.out.alloc _).refl⟩
  case round =>
    obtain ⟨k, f, hik, hk, hg, hf, HE, H⟩ := hrel
    clear c1a
    obtain ⟨c, hc⟩ : ∃ c, Lx.pk s k = c := ⟨_, rfl⟩
    obtain ⟨I, hI⟩ : ∃ I, Lx.inB c = I := ⟨_, rfl⟩
    have hcb := Lx.pk_bd s k
    rw [hc] at hcb
    have HC := Lib.hid hc
    have HI := Lib.hid hI
    clear hc hI
    cases I
    · have HE2 : Hid (Lx.nameEnd s i = k) := by
        rw [HE.out]; exact Lib.hid (Lx.scan_no (by unfold Lx.nameP; rw [HC.out]; exact HI.out))
      clear HE
      obtain ⟨r, hr⟩ : ∃ r, Lx.nameM s i k = r := ⟨_, rfl⟩
      have HN : Hid (Lx.nameM s i (Lx.nameEnd s i) = r) := by rw [HE2.out]; exact hr
      unfold Lx.nameM at hr
      have hik' : (i : Int) ≤ (k : Int) := by omega
      have hk' : (k : Int) ≤ (s.size : Int) := by omega
      by_cases h30 : 30 < k - i
      · rw [if_pos h30] at hr
        have HR := Lib.hid hr
        clear hr
        have h30' : (30 : Int) < ((k - i : Nat) : Int) := by omega
        go_wp2_with fail
        refine (peek_as p s k k 0 _ (by decide) (by omega) hk hs HC _ _ H.out).mono ?_
        rintro e w1 ⟨rfl, h1⟩
        have H1 := Lib.hid h1
        clear h1
        go_wp2_with fail
        refine (inName_as c _ hcb HI _).mono ?_
        rintro e w2 ⟨rfl, rfl⟩
        have d0 := H1.out.c0
        have d1 := H1.out.c1
        obtain ⟨t0, t1, t2, t3, t4, t5, tf⟩ := (HT.out.on H1.out HZ.out HQ.out).cells
        go_wp2_with fail
        go_quiet (fail)
        clear d0 d1
        go_wp2_with fail
        refine bodyPost_ret (v := .tuple #[tokV 0 ⟨#[]⟩ 0 false, .int .i64 6]) (by simp [results, Try.results25, go_sem, tokV, t0, t1, t2, t3, t4, t5]) rfl ?_
        rw [HN.out, HE2.out, ← HR.out]
        refine ⟨rfl, ?_⟩
        repeat (first | with_reducible refine Sc.setq ?_ HG.out HQ.out _ _ | with_reducible refine Sc.drewN ?_ _)
        exact (HS.out.alloc _).onto H1.out
      · rw [if_neg h30] at hr
        have h30' : ¬ (30 : Int) < ((k - i : Nat) : Int) := by omega
        cases hw : Lx.wordB (s.extract i k)
        · rw [hw, if_neg (by decide)] at hr
          have HR := Lib.hid hr
          have HW := Lib.hid hw
          clear hr hw
          go_wp2_with fail
          refine (peek_as p s k k 0 _ (by decide) (by omega) hk hs HC _ _ H.out).mono ?_
          rintro e w1 ⟨rfl, h1⟩
          have H1 := Lib.hid h1
          clear h1
          go_wp2_with fail
          refine (inName_as c _ hcb HI _).mono ?_
          rintro e w2 ⟨rfl, rfl⟩
          have d0 := H1.out.c0
          have d1 := H1.out.c1
          obtain ⟨t0, t1, t2, t3, t4, t5, tf⟩ := (HT.out.on H1.out HZ.out HQ.out).cells
          go_wp2_with fail
          go_quiet (fail)
          clear d0 d1
          go_wp2_with fail
          refine (word_as _ false HW _).mono ?_
          rintro e w3 ⟨rfl, rfl⟩
          go_wp2_with fail
          refine bodyPost_ret (v := .tuple #[tokV 1 ⟨#[]⟩ 0 false, .int .i64 0]) (by simp [results, Try.results25, go_sem, tokV, t0, t1, t2, t3, t4, t5]) rfl ?_
          rw [HN.out, HE2.out, ← HR.out]
          refine ⟨rfl, ?_⟩
          repeat (first | with_reducible refine Sc.setq ?_ HG.out HQ.out _ _ | with_reducible refine Sc.drewN ?_ _)
          exact (HS.out.alloc _).onto H1.out
        · rw [hw, if_pos rfl] at hr
          have HR := Lib.hid hr
          have HW := Lib.hid hw
          clear hr hw
          go_wp2_with fail
          refine (peek_as p s k k 0 _ (by decide) (by omega) hk hs HC _ _ H.out).mono ?_
          rintro e w1 ⟨rfl, h1⟩
          have H1 := Lib.hid h1
          clear h1
          go_wp2_with fail
          refine (inName_as c _ hcb HI _).mono ?_
          rintro e w2 ⟨rfl, rfl⟩
          have d0 := H1.out.c0
          have d1 := H1.out.c1
          obtain ⟨t0, t1, t2, t3, t4, t5, tf⟩ := (HT.out.on H1.out HZ.out HQ.out).cells
          go_wp2_with fail
          go_quiet (fail)
          clear d0 d1
          go_wp2_with fail
          refine (word_as _ true HW _).mono ?_
          rintro e w3 ⟨rfl, rfl⟩
          go_wp2_with fail
          refine bodyPost_ret (v := .tuple #[tokV 2 ⟨#[]⟩ 0 false, .int .i64 0]) (by simp [results, Try.results25, go_sem, tokV, t0, t1, t2, t3, t4, t5]) rfl ?_
          rw [HN.out, HE2.out, ← HR.out]
          refine ⟨rfl, ?_⟩
          repeat (first | with_reducible refine Sc.setq ?_ HG.out HQ.out _ _ | with_reducible refine Sc.drewN ?_ _)
          exact (HS.out.alloc _).onto H1.out
    · have hlt := Lx.pk_in (s := s) (i := k) (by rw [HC.out]; intro e; rw [e] at HI; cases HI.out)
      obtain ⟨f, rfl⟩ : ∃ f', f = f' + 1 := ⟨f - 1, by omega⟩
      have HE2 : Hid (Lx.nameEnd s i = Lx.scan (Lx.nameP s) f (k + 1)) := by
        rw [HE.out]; exact Lib.hid (Lx.scan_yes (by unfold Lx.nameP; rw [HC.out]; exact HI.out))
      clear HE
      go_wp2_with fail
      refine (peek_as p s k k 0 _ (by decide) (by omega) hk hs HC _ _ H.out).mono ?_
      rintro e w1 ⟨rfl, h1⟩
      have H1 := Lib.hid h1
      clear h1
      go_wp2_with fail
      refine (inName_as c _ hcb HI _).mono ?_
      rintro e w2 ⟨rfl, rfl⟩
      have d1 := H1.out.c1
      have d2 := H1.out.f 1
      go_wp2_with fail
      go_roundg (gk - 1)
      case rel => exact ⟨k + 1, f, by omega, by omega, by omega, by omega, HE2, Lib.hid (Sc.setI H1.out (by omega))⟩
      case measure => omega
end Go.Proofs.Ytlpoahjgonjelaa
