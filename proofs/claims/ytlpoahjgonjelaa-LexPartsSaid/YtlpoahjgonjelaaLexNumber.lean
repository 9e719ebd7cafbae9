/- The scanner's numbers. -/
import Derived.Test.YtlpoahjgonjelaaLexDigits
namespace Go.Proofs.Ytlpoahjgonjelaa
open Go.RowKit
set_option linter.unusedVariables false

/-- A token in its block, whatever it holds. -/
structure TokG (q : Nat) (kind at_ : Int) (text suf : ByteArray) (n : Int) (hex : Bool) (w : World) : Prop where
  a : w.heap[q]? = some (.cells #[.int .i64 kind, .int .i64 at_, .string text, .string suf, .int .u64 n, .bool hex] 33 (0, 0))
theorem TokG.cells {q : Nat} {kind at_ : Int} {text suf : ByteArray} {n : Int} {hex : Bool} {w : World} (h : TokG q kind at_ text suf n hex w) : w.cell? ⟨q, 0, none⟩ = some (.int .i64 kind) ∧ w.cell? ⟨q, 1, none⟩ = some (.int .i64 at_) ∧ w.cell? ⟨q, 2, none⟩ = some (.string text) ∧ w.cell? ⟨q, 3, none⟩ = some (.string suf) ∧ w.cell? ⟨q, 4, none⟩ = some (.int .u64 n) ∧ w.cell? ⟨q, 5, none⟩ = some (.bool hex) ∧ (∀ o, w.frozen? ⟨q, o, none⟩ = false) := by
  refine ⟨?_, ?_, ?_, ?_, ?_, ?_, fun o => ?_⟩ <;> simp [World.cell?, World.frozen?, h.a]
theorem TokG.lt {q : Nat} {kind at_ : Int} {text suf : ByteArray} {n : Int} {hex : Bool} {w : World} (h : TokG q kind at_ text suf n hex w) : q < w.heap.size := (Array.getElem?_eq_some_iff.1 h.a).1
theorem TokG.on {p q : Nat} {s : ByteArray} {i : Nat} {kind at_ : Int} {text suf : ByteArray} {n : Int} {hex : Bool} {w0 w : World} (t : TokG q kind at_ text suf n hex w0) (h : Sc p s i w0 w) (hqp : q ≠ p) : TokG q kind at_ text suf n hex w := ⟨(h.other t.lt hqp).trans t.a⟩
theorem TokN.suf {q : Nat} {n : Int} {hex : Bool} {w : World} (t : TokN q n hex w) (x : ByteArray) : TokG q 3 0 ⟨#[]⟩ x n hex (w.setCell ⟨q, 3, none⟩ (.string x)) :=
  ⟨by simp [World.setCell, Array.getElem?_modify, t.a]⟩
theorem TokN.hexed {q : Nat} {n : Int} {hex : Bool} {w : World} (t : TokN q n hex w) (x : Bool) : TokN q n x (w.setCell ⟨q, 5, none⟩ (.bool x)) :=
  ⟨by simp [World.setCell, Array.getElem?_modify, t.a]⟩
theorem TokN.made (w : World) : TokN w.heap.size 0 false (w.alloc (.cells #[.int .i64 3, .int .i64 0, .string ⟨#[]⟩, .string ⟨#[]⟩, .int .u64 0, .bool false] 33)) := ⟨heap_alloc_new w _⟩
theorem heap_two (w : World) (o : Obj) : (w.alloc o).heap.size = w.heap.size + 1 := by simp

set_option maxHeartbeats 4000000 in
theorem number_A_in (p : Nat) (s : ByteArray) (i : Nat) (hi : i ≤ s.size) (hs : s.size ≤ 4611686018427387904) (c0 : Int) (HP0 : Hid (Lx.pk s i = c0)) (hne0 : (c0 == 48) = false) (hk : i ≤ s.size) (J E : Nat) (V c : Int) (F : Bool) (X : ByteArray) (Ln : Nat) (HR : Hid (Lx.digM s 10 (i) = (J, V, F))) (HX : Hid (Lx.sufStr s J = X)) (HL : Hid (Lx.sufLen s J = Ln)) (hEL : J + Ln = E) (hJ : J ≤ s.size) (hE : E ≤ s.size) (HC : Hid (Lx.pk s E = c)) (hcb : 0 ≤ c ∧ c ≤ 255) (HI : Hid (Lx.inB c = true)) (w0 w : World) (h : Sc p s i w0 w) :
    Calls Try.prog 27 #[.pointer (some ⟨p, 0, none⟩)] w (TokPost p s w0 0 ⟨#[]⟩ 0 false 3 E) := by
  have HZ : Hid (w.heap.size < (w.alloc (.cells #[.int .i64 0, .int .i64 0, .string ⟨#[]⟩, .string ⟨#[]⟩, .int .u64 0, .bool false] 33)).heap.size) := Lib.hid (by simp)
  have HT := Lib.hid (TokAt.made w)
  have HQ := Lib.hid (Nat.ne_of_gt h.lt)
  have HG := Lib.hid h.g.size
  have HS := Lib.hid h
  have hqp : w.heap.size + 1 ≠ p := by have := h.lt; omega
  have hqp' : p ≠ w.heap.size + 1 := hqp.symm
  have hq : (w.alloc (.cells #[.int .i64 0, .int .i64 0, .string ⟨#[]⟩, .string ⟨#[]⟩, .int .u64 0, .bool false] 33)).heap.size ≤ w.heap.size + 1 := by rw [heap_two]; exact Nat.le_refl _
  have N0 : Hid (TokN (w.heap.size + 1) 0 false ((w.alloc (.cells #[.int .i64 0, .int .i64 0, .string ⟨#[]⟩, .string ⟨#[]⟩, .int .u64 0, .bool false] 33)).alloc (.cells #[.int .i64 3, .int .i64 0, .string ⟨#[]⟩, .string ⟨#[]⟩, .int .u64 0, .bool false] 33))) := Lib.hid (by have := TokN.made (w.alloc (.cells #[.int .i64 0, .int .i64 0, .string ⟨#[]⟩, .string ⟨#[]⟩, .int .u64 0, .bool false] 33)); rw [heap_two] at this; exact this)
  have B0 : Hid (Sc p s i (w.alloc (.cells #[.int .i64 0, .int .i64 0, .string ⟨#[]⟩, .string ⟨#[]⟩, .int .u64 0, .bool false] 33)) ((w.alloc (.cells #[.int .i64 0, .int .i64 0, .string ⟨#[]⟩, .string ⟨#[]⟩, .int .u64 0, .bool false] 33)).alloc (.cells #[.int .i64 3, .int .i64 0, .string ⟨#[]⟩, .string ⟨#[]⟩, .int .u64 0, .bool false] 33))) := Lib.hid ((h.alloc _).refl.alloc _)
  clear h
  go_enter Try.func27, Try.ntmps27
  go_wp2_with fail
  refine (peek_as p s i (i) 0 _ (by decide) (by omega) hi hs HP0 _ _ B0.out.refl).mono ?_
  rintro e x1 ⟨rfl, h1⟩
  have B1 := Lib.hid (B0.out.onto h1)
  have K1 := Lib.hid h1
  clear h1
  have N1 := Lib.hid (N0.out.on K1.out hqp)
  go_wp2_with fail
  refine (digits_any 10 (by decide) p (w.heap.size + 1) s i false hk hs _ _ B1.out N1.out hq hqp).mono ?_
  rw [HR.out]
  rintro e x2 ⟨rfl, h1, n1⟩
  have B2 := Lib.hid h1
  have N2 := Lib.hid n1
  clear h1 n1
  go_wp2_with fail
  refine (suffix_any p s J hJ hs _ _ B2.out.refl).mono ?_
  rw [HX.out, HL.out]
  rintro e x3 ⟨rfl, h1⟩
  rw [hEL] at h1
  have B3 := Lib.hid (B2.out.onto h1)
  have N3 := Lib.hid (N2.out.on h1 hqp)
  clear h1
  obtain ⟨t0, t1, t2, t3, t4, t5, tf⟩ := N3.out.cells
  have B4 := Lib.hid (B3.out.setq hq hqp 3 (.string X))
  have G4 := Lib.hid (N3.out.suf X)
  go_wp2_with fail
  clear t0 t1 t2 t3 t4 t5 tf
  refine (peek_as p s E E 0 c (by decide) (by omega) hE hs HC _ _ B4.out.refl).mono ?_
  rintro e x5 ⟨rfl, h1⟩
  have B5 := Lib.hid (B4.out.onto h1)
  have G5 := Lib.hid (G4.out.on h1 hqp)
  clear h1
  go_wp2_with fail
  refine (inName_as c _ hcb HI _).mono ?_
  rintro e x6 ⟨rfl, rfl⟩
  obtain ⟨g0, g1, g2, g3, g4, g5, gf⟩ := G5.out.cells
  obtain ⟨t0, t1, t2, t3, t4, t5, tf⟩ := (HT.out.on B5.out HZ.out HQ.out).cells
  go_wp2_with fail
  refine bodyPost_ret (v := .tuple #[tokV 0 ⟨#[]⟩ 0 false, .int .i64 3]) (by simp [results, Try.results27, go_sem, tokV, t0, t1, t2, t3, t4, t5]) rfl ⟨rfl, ?_⟩
  repeat (first | with_reducible refine Sc.setq ?_ HG.out HQ.out _ _ | with_reducible refine Sc.drewN ?_ _)
  exact (HS.out.alloc _).onto B5.out

set_option maxHeartbeats 4000000 in
theorem number_A_ok (p : Nat) (s : ByteArray) (i : Nat) (hi : i ≤ s.size) (hs : s.size ≤ 4611686018427387904) (c0 : Int) (HP0 : Hid (Lx.pk s i = c0)) (hne0 : (c0 == 48) = false) (hk : i ≤ s.size) (J E : Nat) (V c : Int) (X : ByteArray) (Ln : Nat) (HR : Hid (Lx.digM s 10 (i) = (J, V, true))) (HX : Hid (Lx.sufStr s J = X)) (HL : Hid (Lx.sufLen s J = Ln)) (hEL : J + Ln = E) (hJ : J ≤ s.size) (hE : E ≤ s.size) (HC : Hid (Lx.pk s E = c)) (hcb : 0 ≤ c ∧ c ≤ 255) (HI : Hid (Lx.inB c = false)) (w0 w : World) (h : Sc p s i w0 w) :
    Calls Try.prog 27 #[.pointer (some ⟨p, 0, none⟩)] w (TokPost p s w0 3 X V false 0 E) := by
  have HZ : Hid (w.heap.size < (w.alloc (.cells #[.int .i64 0, .int .i64 0, .string ⟨#[]⟩, .string ⟨#[]⟩, .int .u64 0, .bool false] 33)).heap.size) := Lib.hid (by simp)
  have HT := Lib.hid (TokAt.made w)
  have HQ := Lib.hid (Nat.ne_of_gt h.lt)
  have HG := Lib.hid h.g.size
  have HS := Lib.hid h
  have hqp : w.heap.size + 1 ≠ p := by have := h.lt; omega
  have hqp' : p ≠ w.heap.size + 1 := hqp.symm
  have hq : (w.alloc (.cells #[.int .i64 0, .int .i64 0, .string ⟨#[]⟩, .string ⟨#[]⟩, .int .u64 0, .bool false] 33)).heap.size ≤ w.heap.size + 1 := by rw [heap_two]; exact Nat.le_refl _
  have N0 : Hid (TokN (w.heap.size + 1) 0 false ((w.alloc (.cells #[.int .i64 0, .int .i64 0, .string ⟨#[]⟩, .string ⟨#[]⟩, .int .u64 0, .bool false] 33)).alloc (.cells #[.int .i64 3, .int .i64 0, .string ⟨#[]⟩, .string ⟨#[]⟩, .int .u64 0, .bool false] 33))) := Lib.hid (by have := TokN.made (w.alloc (.cells #[.int .i64 0, .int .i64 0, .string ⟨#[]⟩, .string ⟨#[]⟩, .int .u64 0, .bool false] 33)); rw [heap_two] at this; exact this)
  have B0 : Hid (Sc p s i (w.alloc (.cells #[.int .i64 0, .int .i64 0, .string ⟨#[]⟩, .string ⟨#[]⟩, .int .u64 0, .bool false] 33)) ((w.alloc (.cells #[.int .i64 0, .int .i64 0, .string ⟨#[]⟩, .string ⟨#[]⟩, .int .u64 0, .bool false] 33)).alloc (.cells #[.int .i64 3, .int .i64 0, .string ⟨#[]⟩, .string ⟨#[]⟩, .int .u64 0, .bool false] 33))) := Lib.hid ((h.alloc _).refl.alloc _)
  clear h
  go_enter Try.func27, Try.ntmps27
  go_wp2_with fail
  refine (peek_as p s i (i) 0 _ (by decide) (by omega) hi hs HP0 _ _ B0.out.refl).mono ?_
  rintro e x1 ⟨rfl, h1⟩
  have B1 := Lib.hid (B0.out.onto h1)
  have K1 := Lib.hid h1
  clear h1
  have N1 := Lib.hid (N0.out.on K1.out hqp)
  go_wp2_with fail
  refine (digits_any 10 (by decide) p (w.heap.size + 1) s i false hk hs _ _ B1.out N1.out hq hqp).mono ?_
  rw [HR.out]
  rintro e x2 ⟨rfl, h1, n1⟩
  have B2 := Lib.hid h1
  have N2 := Lib.hid n1
  clear h1 n1
  go_wp2_with fail
  refine (suffix_any p s J hJ hs _ _ B2.out.refl).mono ?_
  rw [HX.out, HL.out]
  rintro e x3 ⟨rfl, h1⟩
  rw [hEL] at h1
  have B3 := Lib.hid (B2.out.onto h1)
  have N3 := Lib.hid (N2.out.on h1 hqp)
  clear h1
  obtain ⟨t0, t1, t2, t3, t4, t5, tf⟩ := N3.out.cells
  have B4 := Lib.hid (B3.out.setq hq hqp 3 (.string X))
  have G4 := Lib.hid (N3.out.suf X)
  go_wp2_with fail
  clear t0 t1 t2 t3 t4 t5 tf
  refine (peek_as p s E E 0 c (by decide) (by omega) hE hs HC _ _ B4.out.refl).mono ?_
  rintro e x5 ⟨rfl, h1⟩
  have B5 := Lib.hid (B4.out.onto h1)
  have G5 := Lib.hid (G4.out.on h1 hqp)
  clear h1
  go_wp2_with fail
  refine (inName_as c _ hcb HI _).mono ?_
  rintro e x6 ⟨rfl, rfl⟩
  obtain ⟨g0, g1, g2, g3, g4, g5, gf⟩ := G5.out.cells
  obtain ⟨t0, t1, t2, t3, t4, t5, tf⟩ := (HT.out.on B5.out HZ.out HQ.out).cells
  go_wp2_with fail
  refine bodyPost_ret (v := .tuple #[tokV 3 X V false, .int .i64 0]) (by simp [results, Try.results27, go_sem, tokV, t0, t1, t2, t3, t4, t5]) rfl ⟨rfl, ?_⟩
  repeat (first | with_reducible refine Sc.setq ?_ HG.out HQ.out _ _ | with_reducible refine Sc.drewN ?_ _)
  exact (HS.out.alloc _).onto B5.out

set_option maxHeartbeats 4000000 in
theorem number_A_over (p : Nat) (s : ByteArray) (i : Nat) (hi : i ≤ s.size) (hs : s.size ≤ 4611686018427387904) (c0 : Int) (HP0 : Hid (Lx.pk s i = c0)) (hne0 : (c0 == 48) = false) (hk : i ≤ s.size) (J E : Nat) (V c : Int) (X : ByteArray) (Ln : Nat) (HR : Hid (Lx.digM s 10 (i) = (J, V, false))) (HX : Hid (Lx.sufStr s J = X)) (HL : Hid (Lx.sufLen s J = Ln)) (hEL : J + Ln = E) (hJ : J ≤ s.size) (hE : E ≤ s.size) (HC : Hid (Lx.pk s E = c)) (hcb : 0 ≤ c ∧ c ≤ 255) (HI : Hid (Lx.inB c = false)) (w0 w : World) (h : Sc p s i w0 w) :
    Calls Try.prog 27 #[.pointer (some ⟨p, 0, none⟩)] w (TokPost p s w0 0 ⟨#[]⟩ 0 false 6 E) := by
  have HZ : Hid (w.heap.size < (w.alloc (.cells #[.int .i64 0, .int .i64 0, .string ⟨#[]⟩, .string ⟨#[]⟩, .int .u64 0, .bool false] 33)).heap.size) := Lib.hid (by simp)
  have HT := Lib.hid (TokAt.made w)
  have HQ := Lib.hid (Nat.ne_of_gt h.lt)
  have HG := Lib.hid h.g.size
  have HS := Lib.hid h
  have hqp : w.heap.size + 1 ≠ p := by have := h.lt; omega
  have hqp' : p ≠ w.heap.size + 1 := hqp.symm
  have hq : (w.alloc (.cells #[.int .i64 0, .int .i64 0, .string ⟨#[]⟩, .string ⟨#[]⟩, .int .u64 0, .bool false] 33)).heap.size ≤ w.heap.size + 1 := by rw [heap_two]; exact Nat.le_refl _
  have N0 : Hid (TokN (w.heap.size + 1) 0 false ((w.alloc (.cells #[.int .i64 0, .int .i64 0, .string ⟨#[]⟩, .string ⟨#[]⟩, .int .u64 0, .bool false] 33)).alloc (.cells #[.int .i64 3, .int .i64 0, .string ⟨#[]⟩, .string ⟨#[]⟩, .int .u64 0, .bool false] 33))) := Lib.hid (by have := TokN.made (w.alloc (.cells #[.int .i64 0, .int .i64 0, .string ⟨#[]⟩, .string ⟨#[]⟩, .int .u64 0, .bool false] 33)); rw [heap_two] at this; exact this)
  have B0 : Hid (Sc p s i (w.alloc (.cells #[.int .i64 0, .int .i64 0, .string ⟨#[]⟩, .string ⟨#[]⟩, .int .u64 0, .bool false] 33)) ((w.alloc (.cells #[.int .i64 0, .int .i64 0, .string ⟨#[]⟩, .string ⟨#[]⟩, .int .u64 0, .bool false] 33)).alloc (.cells #[.int .i64 3, .int .i64 0, .string ⟨#[]⟩, .string ⟨#[]⟩, .int .u64 0, .bool false] 33))) := Lib.hid ((h.alloc _).refl.alloc _)
  clear h
  go_enter Try.func27, Try.ntmps27
  go_wp2_with fail
  refine (peek_as p s i (i) 0 _ (by decide) (by omega) hi hs HP0 _ _ B0.out.refl).mono ?_
  rintro e x1 ⟨rfl, h1⟩
  have B1 := Lib.hid (B0.out.onto h1)
  have K1 := Lib.hid h1
  clear h1
  have N1 := Lib.hid (N0.out.on K1.out hqp)
  go_wp2_with fail
  refine (digits_any 10 (by decide) p (w.heap.size + 1) s i false hk hs _ _ B1.out N1.out hq hqp).mono ?_
  rw [HR.out]
  rintro e x2 ⟨rfl, h1, n1⟩
  have B2 := Lib.hid h1
  have N2 := Lib.hid n1
  clear h1 n1
  go_wp2_with fail
  refine (suffix_any p s J hJ hs _ _ B2.out.refl).mono ?_
  rw [HX.out, HL.out]
  rintro e x3 ⟨rfl, h1⟩
  rw [hEL] at h1
  have B3 := Lib.hid (B2.out.onto h1)
  have N3 := Lib.hid (N2.out.on h1 hqp)
  clear h1
  obtain ⟨t0, t1, t2, t3, t4, t5, tf⟩ := N3.out.cells
  have B4 := Lib.hid (B3.out.setq hq hqp 3 (.string X))
  have G4 := Lib.hid (N3.out.suf X)
  go_wp2_with fail
  clear t0 t1 t2 t3 t4 t5 tf
  refine (peek_as p s E E 0 c (by decide) (by omega) hE hs HC _ _ B4.out.refl).mono ?_
  rintro e x5 ⟨rfl, h1⟩
  have B5 := Lib.hid (B4.out.onto h1)
  have G5 := Lib.hid (G4.out.on h1 hqp)
  clear h1
  go_wp2_with fail
  refine (inName_as c _ hcb HI _).mono ?_
  rintro e x6 ⟨rfl, rfl⟩
  obtain ⟨g0, g1, g2, g3, g4, g5, gf⟩ := G5.out.cells
  obtain ⟨t0, t1, t2, t3, t4, t5, tf⟩ := (HT.out.on B5.out HZ.out HQ.out).cells
  go_wp2_with fail
  refine bodyPost_ret (v := .tuple #[tokV 0 ⟨#[]⟩ 0 false, .int .i64 6]) (by simp [results, Try.results27, go_sem, tokV, t0, t1, t2, t3, t4, t5]) rfl ⟨rfl, ?_⟩
  repeat (first | with_reducible refine Sc.setq ?_ HG.out HQ.out _ _ | with_reducible refine Sc.drewN ?_ _)
  exact (HS.out.alloc _).onto B5.out

set_option maxHeartbeats 4000000 in
theorem number_B_in (p : Nat) (s : ByteArray) (i : Nat) (hi : i ≤ s.size) (hs : s.size ≤ 4611686018427387904) (c1 : Int) (HP0 : Hid (Lx.pk s i = 48)) (HP1 : Hid (Lx.pk s (i + 1) = c1)) (hne1 : (c1 == 120) = false) (hk : i ≤ s.size) (J E : Nat) (V c : Int) (F : Bool) (X : ByteArray) (Ln : Nat) (HR : Hid (Lx.digM s 10 (i) = (J, V, F))) (HX : Hid (Lx.sufStr s J = X)) (HL : Hid (Lx.sufLen s J = Ln)) (hEL : J + Ln = E) (hJ : J ≤ s.size) (hE : E ≤ s.size) (HC : Hid (Lx.pk s E = c)) (hcb : 0 ≤ c ∧ c ≤ 255) (HI : Hid (Lx.inB c = true)) (w0 w : World) (h : Sc p s i w0 w) :
    Calls Try.prog 27 #[.pointer (some ⟨p, 0, none⟩)] w (TokPost p s w0 0 ⟨#[]⟩ 0 false 3 E) := by
  have HZ : Hid (w.heap.size < (w.alloc (.cells #[.int .i64 0, .int .i64 0, .string ⟨#[]⟩, .string ⟨#[]⟩, .int .u64 0, .bool false] 33)).heap.size) := Lib.hid (by simp)
  have HT := Lib.hid (TokAt.made w)
  have HQ := Lib.hid (Nat.ne_of_gt h.lt)
  have HG := Lib.hid h.g.size
  have HS := Lib.hid h
  have hqp : w.heap.size + 1 ≠ p := by have := h.lt; omega
  have hqp' : p ≠ w.heap.size + 1 := hqp.symm
  have hq : (w.alloc (.cells #[.int .i64 0, .int .i64 0, .string ⟨#[]⟩, .string ⟨#[]⟩, .int .u64 0, .bool false] 33)).heap.size ≤ w.heap.size + 1 := by rw [heap_two]; exact Nat.le_refl _
  have N0 : Hid (TokN (w.heap.size + 1) 0 false ((w.alloc (.cells #[.int .i64 0, .int .i64 0, .string ⟨#[]⟩, .string ⟨#[]⟩, .int .u64 0, .bool false] 33)).alloc (.cells #[.int .i64 3, .int .i64 0, .string ⟨#[]⟩, .string ⟨#[]⟩, .int .u64 0, .bool false] 33))) := Lib.hid (by have := TokN.made (w.alloc (.cells #[.int .i64 0, .int .i64 0, .string ⟨#[]⟩, .string ⟨#[]⟩, .int .u64 0, .bool false] 33)); rw [heap_two] at this; exact this)
  have B0 : Hid (Sc p s i (w.alloc (.cells #[.int .i64 0, .int .i64 0, .string ⟨#[]⟩, .string ⟨#[]⟩, .int .u64 0, .bool false] 33)) ((w.alloc (.cells #[.int .i64 0, .int .i64 0, .string ⟨#[]⟩, .string ⟨#[]⟩, .int .u64 0, .bool false] 33)).alloc (.cells #[.int .i64 3, .int .i64 0, .string ⟨#[]⟩, .string ⟨#[]⟩, .int .u64 0, .bool false] 33))) := Lib.hid ((h.alloc _).refl.alloc _)
  clear h
  go_enter Try.func27, Try.ntmps27
  go_wp2_with fail
  refine (peek_as p s i (i) 0 _ (by decide) (by omega) hi hs HP0 _ _ B0.out.refl).mono ?_
  rintro e x1 ⟨rfl, h1⟩
  have B1 := Lib.hid (B0.out.onto h1)
  have K1 := Lib.hid h1
  clear h1
  have N1 := Lib.hid (N0.out.on K1.out hqp)
  go_wp2_with fail
  refine (peek_as p s i (i + 1) 1 _ (by decide) (by omega) hi hs HP1 _ _ B1.out.refl).mono ?_
  rintro e x2 ⟨rfl, h1⟩
  have B2 := Lib.hid (B1.out.onto h1)
  have K2 := Lib.hid h1
  clear h1
  have N2 := Lib.hid (N1.out.on K2.out hqp)
  go_wp2_with fail
  refine (digits_any 10 (by decide) p (w.heap.size + 1) s i false hk hs _ _ B2.out N2.out hq hqp).mono ?_
  rw [HR.out]
  rintro e x3 ⟨rfl, h1, n1⟩
  have B3 := Lib.hid h1
  have N3 := Lib.hid n1
  clear h1 n1
  go_wp2_with fail
  refine (suffix_any p s J hJ hs _ _ B3.out.refl).mono ?_
  rw [HX.out, HL.out]
  rintro e x4 ⟨rfl, h1⟩
  rw [hEL] at h1
  have B4 := Lib.hid (B3.out.onto h1)
  have N4 := Lib.hid (N3.out.on h1 hqp)
  clear h1
  obtain ⟨t0, t1, t2, t3, t4, t5, tf⟩ := N4.out.cells
  have B5 := Lib.hid (B4.out.setq hq hqp 3 (.string X))
  have G5 := Lib.hid (N4.out.suf X)
  go_wp2_with fail
  clear t0 t1 t2 t3 t4 t5 tf
  refine (peek_as p s E E 0 c (by decide) (by omega) hE hs HC _ _ B5.out.refl).mono ?_
  rintro e x6 ⟨rfl, h1⟩
  have B6 := Lib.hid (B5.out.onto h1)
  have G6 := Lib.hid (G5.out.on h1 hqp)
  clear h1
  go_wp2_with fail
  refine (inName_as c _ hcb HI _).mono ?_
  rintro e x7 ⟨rfl, rfl⟩
  obtain ⟨g0, g1, g2, g3, g4, g5, gf⟩ := G6.out.cells
  obtain ⟨t0, t1, t2, t3, t4, t5, tf⟩ := (HT.out.on B6.out HZ.out HQ.out).cells
  go_wp2_with fail
  refine bodyPost_ret (v := .tuple #[tokV 0 ⟨#[]⟩ 0 false, .int .i64 3]) (by simp [results, Try.results27, go_sem, tokV, t0, t1, t2, t3, t4, t5]) rfl ⟨rfl, ?_⟩
  repeat (first | with_reducible refine Sc.setq ?_ HG.out HQ.out _ _ | with_reducible refine Sc.drewN ?_ _)
  exact (HS.out.alloc _).onto B6.out

set_option maxHeartbeats 4000000 in
theorem number_B_ok (p : Nat) (s : ByteArray) (i : Nat) (hi : i ≤ s.size) (hs : s.size ≤ 4611686018427387904) (c1 : Int) (HP0 : Hid (Lx.pk s i = 48)) (HP1 : Hid (Lx.pk s (i + 1) = c1)) (hne1 : (c1 == 120) = false) (hk : i ≤ s.size) (J E : Nat) (V c : Int) (X : ByteArray) (Ln : Nat) (HR : Hid (Lx.digM s 10 (i) = (J, V, true))) (HX : Hid (Lx.sufStr s J = X)) (HL : Hid (Lx.sufLen s J = Ln)) (hEL : J + Ln = E) (hJ : J ≤ s.size) (hE : E ≤ s.size) (HC : Hid (Lx.pk s E = c)) (hcb : 0 ≤ c ∧ c ≤ 255) (HI : Hid (Lx.inB c = false)) (w0 w : World) (h : Sc p s i w0 w) :
    Calls Try.prog 27 #[.pointer (some ⟨p, 0, none⟩)] w (TokPost p s w0 3 X V false 0 E) := by
  have HZ : Hid (w.heap.size < (w.alloc (.cells #[.int .i64 0, .int .i64 0, .string ⟨#[]⟩, .string ⟨#[]⟩, .int .u64 0, .bool false] 33)).heap.size) := Lib.hid (by simp)
  have HT := Lib.hid (TokAt.made w)
  have HQ := Lib.hid (Nat.ne_of_gt h.lt)
  have HG := Lib.hid h.g.size
  have HS := Lib.hid h
  have hqp : w.heap.size + 1 ≠ p := by have := h.lt; omega
  have hqp' : p ≠ w.heap.size + 1 := hqp.symm
  have hq : (w.alloc (.cells #[.int .i64 0, .int .i64 0, .string ⟨#[]⟩, .string ⟨#[]⟩, .int .u64 0, .bool false] 33)).heap.size ≤ w.heap.size + 1 := by rw [heap_two]; exact Nat.le_refl _
  have N0 : Hid (TokN (w.heap.size + 1) 0 false ((w.alloc (.cells #[.int .i64 0, .int .i64 0, .string ⟨#[]⟩, .string ⟨#[]⟩, .int .u64 0, .bool false] 33)).alloc (.cells #[.int .i64 3, .int .i64 0, .string ⟨#[]⟩, .string ⟨#[]⟩, .int .u64 0, .bool false] 33))) := Lib.hid (by have := TokN.made (w.alloc (.cells #[.int .i64 0, .int .i64 0, .string ⟨#[]⟩, .string ⟨#[]⟩, .int .u64 0, .bool false] 33)); rw [heap_two] at this; exact this)
  have B0 : Hid (Sc p s i (w.alloc (.cells #[.int .i64 0, .int .i64 0, .string ⟨#[]⟩, .string ⟨#[]⟩, .int .u64 0, .bool false] 33)) ((w.alloc (.cells #[.int .i64 0, .int .i64 0, .string ⟨#[]⟩, .string ⟨#[]⟩, .int .u64 0, .bool false] 33)).alloc (.cells #[.int .i64 3, .int .i64 0, .string ⟨#[]⟩, .string ⟨#[]⟩, .int .u64 0, .bool false] 33))) := Lib.hid ((h.alloc _).refl.alloc _)
  clear h
  go_enter Try.func27, Try.ntmps27
  go_wp2_with fail
  refine (peek_as p s i (i) 0 _ (by decide) (by omega) hi hs HP0 _ _ B0.out.refl).mono ?_
  rintro e x1 ⟨rfl, h1⟩
  have B1 := Lib.hid (B0.out.onto h1)
  have K1 := Lib.hid h1
  clear h1
  have N1 := Lib.hid (N0.out.on K1.out hqp)
  go_wp2_with fail
  refine (peek_as p s i (i + 1) 1 _ (by decide) (by omega) hi hs HP1 _ _ B1.out.refl).mono ?_
  rintro e x2 ⟨rfl, h1⟩
  have B2 := Lib.hid (B1.out.onto h1)
  have K2 := Lib.hid h1
  clear h1
  have N2 := Lib.hid (N1.out.on K2.out hqp)
  go_wp2_with fail
  refine (digits_any 10 (by decide) p (w.heap.size + 1) s i false hk hs _ _ B2.out N2.out hq hqp).mono ?_
  rw [HR.out]
  rintro e x3 ⟨rfl, h1, n1⟩
  have B3 := Lib.hid h1
  have N3 := Lib.hid n1
  clear h1 n1
  go_wp2_with fail
  refine (suffix_any p s J hJ hs _ _ B3.out.refl).mono ?_
  rw [HX.out, HL.out]
  rintro e x4 ⟨rfl, h1⟩
  rw [hEL] at h1
  have B4 := Lib.hid (B3.out.onto h1)
  have N4 := Lib.hid (N3.out.on h1 hqp)
  clear h1
  obtain ⟨t0, t1, t2, t3, t4, t5, tf⟩ := N4.out.cells
  have B5 := Lib.hid (B4.out.setq hq hqp 3 (.string X))
  have G5 := Lib.hid (N4.out.suf X)
  go_wp2_with fail
  clear t0 t1 t2 t3 t4 t5 tf
  refine (peek_as p s E E 0 c (by decide) (by omega) hE hs HC _ _ B5.out.refl).mono ?_
  rintro e x6 ⟨rfl, h1⟩
  have B6 := Lib.hid (B5.out.onto h1)
  have G6 := Lib.hid (G5.out.on h1 hqp)
  clear h1
  go_wp2_with fail
  refine (inName_as c _ hcb HI _).mono ?_
  rintro e x7 ⟨rfl, rfl⟩
  obtain ⟨g0, g1, g2, g3, g4, g5, gf⟩ := G6.out.cells
  obtain ⟨t0, t1, t2, t3, t4, t5, tf⟩ := (HT.out.on B6.out HZ.out HQ.out).cells
  go_wp2_with fail
  refine bodyPost_ret (v := .tuple #[tokV 3 X V false, .int .i64 0]) (by simp [results, Try.results27, go_sem, tokV, t0, t1, t2, t3, t4, t5]) rfl ⟨rfl, ?_⟩
  repeat (first | with_reducible refine Sc.setq ?_ HG.out HQ.out _ _ | with_reducible refine Sc.drewN ?_ _)
  exact (HS.out.alloc _).onto B6.out

set_option maxHeartbeats 4000000 in
theorem number_B_over (p : Nat) (s : ByteArray) (i : Nat) (hi : i ≤ s.size) (hs : s.size ≤ 4611686018427387904) (c1 : Int) (HP0 : Hid (Lx.pk s i = 48)) (HP1 : Hid (Lx.pk s (i + 1) = c1)) (hne1 : (c1 == 120) = false) (hk : i ≤ s.size) (J E : Nat) (V c : Int) (X : ByteArray) (Ln : Nat) (HR : Hid (Lx.digM s 10 (i) = (J, V, false))) (HX : Hid (Lx.sufStr s J = X)) (HL : Hid (Lx.sufLen s J = Ln)) (hEL : J + Ln = E) (hJ : J ≤ s.size) (hE : E ≤ s.size) (HC : Hid (Lx.pk s E = c)) (hcb : 0 ≤ c ∧ c ≤ 255) (HI : Hid (Lx.inB c = false)) (w0 w : World) (h : Sc p s i w0 w) :
    Calls Try.prog 27 #[.pointer (some ⟨p, 0, none⟩)] w (TokPost p s w0 0 ⟨#[]⟩ 0 false 6 E) := by
  have HZ : Hid (w.heap.size < (w.alloc (.cells #[.int .i64 0, .int .i64 0, .string ⟨#[]⟩, .string ⟨#[]⟩, .int .u64 0, .bool false] 33)).heap.size) := Lib.hid (by simp)
  have HT := Lib.hid (TokAt.made w)
  have HQ := Lib.hid (Nat.ne_of_gt h.lt)
  have HG := Lib.hid h.g.size
  have HS := Lib.hid h
  have hqp : w.heap.size + 1 ≠ p := by have := h.lt; omega
  have hqp' : p ≠ w.heap.size + 1 := hqp.symm
  have hq : (w.alloc (.cells #[.int .i64 0, .int .i64 0, .string ⟨#[]⟩, .string ⟨#[]⟩, .int .u64 0, .bool false] 33)).heap.size ≤ w.heap.size + 1 := by rw [heap_two]; exact Nat.le_refl _
  have N0 : Hid (TokN (w.heap.size + 1) 0 false ((w.alloc (.cells #[.int .i64 0, .int .i64 0, .string ⟨#[]⟩, .string ⟨#[]⟩, .int .u64 0, .bool false] 33)).alloc (.cells #[.int .i64 3, .int .i64 0, .string ⟨#[]⟩, .string ⟨#[]⟩, .int .u64 0, .bool false] 33))) := Lib.hid (by have := TokN.made (w.alloc (.cells #[.int .i64 0, .int .i64 0, .string ⟨#[]⟩, .string ⟨#[]⟩, .int .u64 0, .bool false] 33)); rw [heap_two] at this; exact this)
  have B0 : Hid (Sc p s i (w.alloc (.cells #[.int .i64 0, .int .i64 0, .string ⟨#[]⟩, .string ⟨#[]⟩, .int .u64 0, .bool false] 33)) ((w.alloc (.cells #[.int .i64 0, .int .i64 0, .string ⟨#[]⟩, .string ⟨#[]⟩, .int .u64 0, .bool false] 33)).alloc (.cells #[.int .i64 3, .int .i64 0, .string ⟨#[]⟩, .string ⟨#[]⟩, .int .u64 0, .bool false] 33))) := Lib.hid ((h.alloc _).refl.alloc _)
  clear h
  go_enter Try.func27, Try.ntmps27
  go_wp2_with fail
  refine (peek_as p s i (i) 0 _ (by decide) (by omega) hi hs HP0 _ _ B0.out.refl).mono ?_
  rintro e x1 ⟨rfl, h1⟩
  have B1 := Lib.hid (B0.out.onto h1)
  have K1 := Lib.hid h1
  clear h1
  have N1 := Lib.hid (N0.out.on K1.out hqp)
  go_wp2_with fail
  refine (peek_as p s i (i + 1) 1 _ (by decide) (by omega) hi hs HP1 _ _ B1.out.refl).mono ?_
  rintro e x2 ⟨rfl, h1⟩
  have B2 := Lib.hid (B1.out.onto h1)
  have K2 := Lib.hid h1
  clear h1
  have N2 := Lib.hid (N1.out.on K2.out hqp)
  go_wp2_with fail
  refine (digits_any 10 (by decide) p (w.heap.size + 1) s i false hk hs _ _ B2.out N2.out hq hqp).mono ?_
  rw [HR.out]
  rintro e x3 ⟨rfl, h1, n1⟩
  have B3 := Lib.hid h1
  have N3 := Lib.hid n1
  clear h1 n1
  go_wp2_with fail
  refine (suffix_any p s J hJ hs _ _ B3.out.refl).mono ?_
  rw [HX.out, HL.out]
  rintro e x4 ⟨rfl, h1⟩
  rw [hEL] at h1
  have B4 := Lib.hid (B3.out.onto h1)
  have N4 := Lib.hid (N3.out.on h1 hqp)
  clear h1
  obtain ⟨t0, t1, t2, t3, t4, t5, tf⟩ := N4.out.cells
  have B5 := Lib.hid (B4.out.setq hq hqp 3 (.string X))
  have G5 := Lib.hid (N4.out.suf X)
  go_wp2_with fail
  clear t0 t1 t2 t3 t4 t5 tf
  refine (peek_as p s E E 0 c (by decide) (by omega) hE hs HC _ _ B5.out.refl).mono ?_
  rintro e x6 ⟨rfl, h1⟩
  have B6 := Lib.hid (B5.out.onto h1)
  have G6 := Lib.hid (G5.out.on h1 hqp)
  clear h1
  go_wp2_with fail
  refine (inName_as c _ hcb HI _).mono ?_
  rintro e x7 ⟨rfl, rfl⟩
  obtain ⟨g0, g1, g2, g3, g4, g5, gf⟩ := G6.out.cells
  obtain ⟨t0, t1, t2, t3, t4, t5, tf⟩ := (HT.out.on B6.out HZ.out HQ.out).cells
  go_wp2_with fail
  refine bodyPost_ret (v := .tuple #[tokV 0 ⟨#[]⟩ 0 false, .int .i64 6]) (by simp [results, Try.results27, go_sem, tokV, t0, t1, t2, t3, t4, t5]) rfl ⟨rfl, ?_⟩
  repeat (first | with_reducible refine Sc.setq ?_ HG.out HQ.out _ _ | with_reducible refine Sc.drewN ?_ _)
  exact (HS.out.alloc _).onto B6.out

set_option maxHeartbeats 4000000 in
theorem number_H_in (p : Nat) (s : ByteArray) (i : Nat) (hi : i ≤ s.size) (hs : s.size ≤ 4611686018427387904) (c2 W : Int) (HP0 : Hid (Lx.pk s i = 48)) (HP1 : Hid (Lx.pk s (i + 1) = 120)) (HP2 : Hid (Lx.pk s (i + 2) = c2)) (hc2 : 0 ≤ c2 ∧ c2 ≤ 255) (HV1 : Hid (vNum (Lx.valB 16 c2) = W)) (HV2 : Hid (vOk (Lx.valB 16 c2) = true)) (hk : i + 2 ≤ s.size) (J E : Nat) (V c : Int) (F : Bool) (X : ByteArray) (Ln : Nat) (HR : Hid (Lx.digM s 16 (i + 2) = (J, V, F))) (HX : Hid (Lx.sufStr s J = X)) (HL : Hid (Lx.sufLen s J = Ln)) (hEL : J + Ln = E) (hJ : J ≤ s.size) (hE : E ≤ s.size) (HC : Hid (Lx.pk s E = c)) (hcb : 0 ≤ c ∧ c ≤ 255) (HI : Hid (Lx.inB c = true)) (w0 w : World) (h : Sc p s i w0 w) :
    Calls Try.prog 27 #[.pointer (some ⟨p, 0, none⟩)] w (TokPost p s w0 0 ⟨#[]⟩ 0 false 3 E) := by
  have HZ : Hid (w.heap.size < (w.alloc (.cells #[.int .i64 0, .int .i64 0, .string ⟨#[]⟩, .string ⟨#[]⟩, .int .u64 0, .bool false] 33)).heap.size) := Lib.hid (by simp)
  have HT := Lib.hid (TokAt.made w)
  have HQ := Lib.hid (Nat.ne_of_gt h.lt)
  have HG := Lib.hid h.g.size
  have HS := Lib.hid h
  have hqp : w.heap.size + 1 ≠ p := by have := h.lt; omega
  have hqp' : p ≠ w.heap.size + 1 := hqp.symm
  have hq : (w.alloc (.cells #[.int .i64 0, .int .i64 0, .string ⟨#[]⟩, .string ⟨#[]⟩, .int .u64 0, .bool false] 33)).heap.size ≤ w.heap.size + 1 := by rw [heap_two]; exact Nat.le_refl _
  have N0 : Hid (TokN (w.heap.size + 1) 0 false ((w.alloc (.cells #[.int .i64 0, .int .i64 0, .string ⟨#[]⟩, .string ⟨#[]⟩, .int .u64 0, .bool false] 33)).alloc (.cells #[.int .i64 3, .int .i64 0, .string ⟨#[]⟩, .string ⟨#[]⟩, .int .u64 0, .bool false] 33))) := Lib.hid (by have := TokN.made (w.alloc (.cells #[.int .i64 0, .int .i64 0, .string ⟨#[]⟩, .string ⟨#[]⟩, .int .u64 0, .bool false] 33)); rw [heap_two] at this; exact this)
  have B0 : Hid (Sc p s i (w.alloc (.cells #[.int .i64 0, .int .i64 0, .string ⟨#[]⟩, .string ⟨#[]⟩, .int .u64 0, .bool false] 33)) ((w.alloc (.cells #[.int .i64 0, .int .i64 0, .string ⟨#[]⟩, .string ⟨#[]⟩, .int .u64 0, .bool false] 33)).alloc (.cells #[.int .i64 3, .int .i64 0, .string ⟨#[]⟩, .string ⟨#[]⟩, .int .u64 0, .bool false] 33))) := Lib.hid ((h.alloc _).refl.alloc _)
  clear h
  go_enter Try.func27, Try.ntmps27
  go_wp2_with fail
  refine (peek_as p s i (i) 0 _ (by decide) (by omega) hi hs HP0 _ _ B0.out.refl).mono ?_
  rintro e x1 ⟨rfl, h1⟩
  have B1 := Lib.hid (B0.out.onto h1)
  have K1 := Lib.hid h1
  clear h1
  have N1 := Lib.hid (N0.out.on K1.out hqp)
  go_wp2_with fail
  refine (peek_as p s i (i + 1) 1 _ (by decide) (by omega) hi hs HP1 _ _ B1.out.refl).mono ?_
  rintro e x2 ⟨rfl, h1⟩
  have B2 := Lib.hid (B1.out.onto h1)
  have K2 := Lib.hid h1
  clear h1
  have N2 := Lib.hid (N1.out.on K2.out hqp)
  have d1 := K2.out.c1
  have d2 := K2.out.f 1
  have hk' : (i : Int) + 2 ≤ (s.size : Int) := by omega
  obtain ⟨t0, t1, t2, t3, t4, t5, tf⟩ := N2.out.cells
  have B3 : Hid (Sc p s (i + 2) _ _) := Lib.hid ((Sc.setI (v := (i : Int) + 2) (j := i + 2) B2.out (by omega)).setq hq hqp 5 (.bool true))
  have N3 := Lib.hid ((N2.out.setp hqp 1 (.int .i64 ((i : Int) + 2))).hexed true)
  go_wp2_with fail
  clear t0 t1 t2 t3 t4 t5 tf d1 d2
  refine (peek_as p s (i + 2) (i + 2) 0 _ (by decide) (by omega) hk hs HP2 _ _ B3.out.refl).mono ?_
  rintro e x4 ⟨rfl, h1⟩
  have B4 := Lib.hid (B3.out.onto h1)
  have N4 := Lib.hid (N3.out.on h1 hqp)
  clear h1
  go_wp2_with fail
  refine (value_any c2 16 hc2 (by decide) _).mono ?_
  rw [HV1.out, HV2.out]
  rintro e x5 ⟨rfl, rfl⟩
  go_wp2_with fail
  refine (digits_any 16 (by decide) p (w.heap.size + 1) s (i + 2) true hk hs _ _ B4.out N4.out hq hqp).mono ?_
  rw [HR.out]
  rintro e x6 ⟨rfl, h1, n1⟩
  have B6 := Lib.hid h1
  have N6 := Lib.hid n1
  clear h1 n1
  go_wp2_with fail
  refine (suffix_any p s J hJ hs _ _ B6.out.refl).mono ?_
  rw [HX.out, HL.out]
  rintro e x7 ⟨rfl, h1⟩
  rw [hEL] at h1
  have B7 := Lib.hid (B6.out.onto h1)
  have N7 := Lib.hid (N6.out.on h1 hqp)
  clear h1
  obtain ⟨t0, t1, t2, t3, t4, t5, tf⟩ := N7.out.cells
  have B8 := Lib.hid (B7.out.setq hq hqp 3 (.string X))
  have G8 := Lib.hid (N7.out.suf X)
  go_wp2_with fail
  clear t0 t1 t2 t3 t4 t5 tf
  refine (peek_as p s E E 0 c (by decide) (by omega) hE hs HC _ _ B8.out.refl).mono ?_
  rintro e x9 ⟨rfl, h1⟩
  have B9 := Lib.hid (B8.out.onto h1)
  have G9 := Lib.hid (G8.out.on h1 hqp)
  clear h1
  go_wp2_with fail
  refine (inName_as c _ hcb HI _).mono ?_
  rintro e x10 ⟨rfl, rfl⟩
  obtain ⟨g0, g1, g2, g3, g4, g5, gf⟩ := G9.out.cells
  obtain ⟨t0, t1, t2, t3, t4, t5, tf⟩ := (HT.out.on B9.out HZ.out HQ.out).cells
  go_wp2_with fail
  refine bodyPost_ret (v := .tuple #[tokV 0 ⟨#[]⟩ 0 false, .int .i64 3]) (by simp [results, Try.results27, go_sem, tokV, t0, t1, t2, t3, t4, t5]) rfl ⟨rfl, ?_⟩
  repeat (first | with_reducible refine Sc.setq ?_ HG.out HQ.out _ _ | with_reducible refine Sc.drewN ?_ _)
  exact (HS.out.alloc _).onto B9.out

set_option maxHeartbeats 4000000 in
theorem number_H_ok (p : Nat) (s : ByteArray) (i : Nat) (hi : i ≤ s.size) (hs : s.size ≤ 4611686018427387904) (c2 W : Int) (HP0 : Hid (Lx.pk s i = 48)) (HP1 : Hid (Lx.pk s (i + 1) = 120)) (HP2 : Hid (Lx.pk s (i + 2) = c2)) (hc2 : 0 ≤ c2 ∧ c2 ≤ 255) (HV1 : Hid (vNum (Lx.valB 16 c2) = W)) (HV2 : Hid (vOk (Lx.valB 16 c2) = true)) (hk : i + 2 ≤ s.size) (J E : Nat) (V c : Int) (X : ByteArray) (Ln : Nat) (HR : Hid (Lx.digM s 16 (i + 2) = (J, V, true))) (HX : Hid (Lx.sufStr s J = X)) (HL : Hid (Lx.sufLen s J = Ln)) (hEL : J + Ln = E) (hJ : J ≤ s.size) (hE : E ≤ s.size) (HC : Hid (Lx.pk s E = c)) (hcb : 0 ≤ c ∧ c ≤ 255) (HI : Hid (Lx.inB c = false)) (w0 w : World) (h : Sc p s i w0 w) :
    Calls Try.prog 27 #[.pointer (some ⟨p, 0, none⟩)] w (TokPost p s w0 3 X V true 0 E) := by
  have HZ : Hid (w.heap.size < (w.alloc (.cells #[.int .i64 0, .int .i64 0, .string ⟨#[]⟩, .string ⟨#[]⟩, .int .u64 0, .bool false] 33)).heap.size) := Lib.hid (by simp)
  have HT := Lib.hid (TokAt.made w)
  have HQ := Lib.hid (Nat.ne_of_gt h.lt)
  have HG := Lib.hid h.g.size
  have HS := Lib.hid h
  have hqp : w.heap.size + 1 ≠ p := by have := h.lt; omega
  have hqp' : p ≠ w.heap.size + 1 := hqp.symm
  have hq : (w.alloc (.cells #[.int .i64 0, .int .i64 0, .string ⟨#[]⟩, .string ⟨#[]⟩, .int .u64 0, .bool false] 33)).heap.size ≤ w.heap.size + 1 := by rw [heap_two]; exact Nat.le_refl _
  have N0 : Hid (TokN (w.heap.size + 1) 0 false ((w.alloc (.cells #[.int .i64 0, .int .i64 0, .string ⟨#[]⟩, .string ⟨#[]⟩, .int .u64 0, .bool false] 33)).alloc (.cells #[.int .i64 3, .int .i64 0, .string ⟨#[]⟩, .string ⟨#[]⟩, .int .u64 0, .bool false] 33))) := Lib.hid (by have := TokN.made (w.alloc (.cells #[.int .i64 0, .int .i64 0, .string ⟨#[]⟩, .string ⟨#[]⟩, .int .u64 0, .bool false] 33)); rw [heap_two] at this; exact this)
  have B0 : Hid (Sc p s i (w.alloc (.cells #[.int .i64 0, .int .i64 0, .string ⟨#[]⟩, .string ⟨#[]⟩, .int .u64 0, .bool false] 33)) ((w.alloc (.cells #[.int .i64 0, .int .i64 0, .string ⟨#[]⟩, .string ⟨#[]⟩, .int .u64 0, .bool false] 33)).alloc (.cells #[.int .i64 3, .int .i64 0, .string ⟨#[]⟩, .string ⟨#[]⟩, .int .u64 0, .bool false] 33))) := Lib.hid ((h.alloc _).refl.alloc _)
  clear h
  go_enter Try.func27, Try.ntmps27
  go_wp2_with fail
  refine (peek_as p s i (i) 0 _ (by decide) (by omega) hi hs HP0 _ _ B0.out.refl).mono ?_
  rintro e x1 ⟨rfl, h1⟩
  have B1 := Lib.hid (B0.out.onto h1)
  have K1 := Lib.hid h1
  clear h1
  have N1 := Lib.hid (N0.out.on K1.out hqp)
  go_wp2_with fail
  refine (peek_as p s i (i + 1) 1 _ (by decide) (by omega) hi hs HP1 _ _ B1.out.refl).mono ?_
  rintro e x2 ⟨rfl, h1⟩
  have B2 := Lib.hid (B1.out.onto h1)
  have K2 := Lib.hid h1
  clear h1
  have N2 := Lib.hid (N1.out.on K2.out hqp)
  have d1 := K2.out.c1
  have d2 := K2.out.f 1
  have hk' : (i : Int) + 2 ≤ (s.size : Int) := by omega
  obtain ⟨t0, t1, t2, t3, t4, t5, tf⟩ := N2.out.cells
  have B3 : Hid (Sc p s (i + 2) _ _) := Lib.hid ((Sc.setI (v := (i : Int) + 2) (j := i + 2) B2.out (by omega)).setq hq hqp 5 (.bool true))
  have N3 := Lib.hid ((N2.out.setp hqp 1 (.int .i64 ((i : Int) + 2))).hexed true)
  go_wp2_with fail
  clear t0 t1 t2 t3 t4 t5 tf d1 d2
  refine (peek_as p s (i + 2) (i + 2) 0 _ (by decide) (by omega) hk hs HP2 _ _ B3.out.refl).mono ?_
  rintro e x4 ⟨rfl, h1⟩
  have B4 := Lib.hid (B3.out.onto h1)
  have N4 := Lib.hid (N3.out.on h1 hqp)
  clear h1
  go_wp2_with fail
  refine (value_any c2 16 hc2 (by decide) _).mono ?_
  rw [HV1.out, HV2.out]
  rintro e x5 ⟨rfl, rfl⟩
  go_wp2_with fail
  refine (digits_any 16 (by decide) p (w.heap.size + 1) s (i + 2) true hk hs _ _ B4.out N4.out hq hqp).mono ?_
  rw [HR.out]
  rintro e x6 ⟨rfl, h1, n1⟩
  have B6 := Lib.hid h1
  have N6 := Lib.hid n1
  clear h1 n1
  go_wp2_with fail
  refine (suffix_any p s J hJ hs _ _ B6.out.refl).mono ?_
  rw [HX.out, HL.out]
  rintro e x7 ⟨rfl, h1⟩
  rw [hEL] at h1
  have B7 := Lib.hid (B6.out.onto h1)
  have N7 := Lib.hid (N6.out.on h1 hqp)
  clear h1
  obtain ⟨t0, t1, t2, t3, t4, t5, tf⟩ := N7.out.cells
  have B8 := Lib.hid (B7.out.setq hq hqp 3 (.string X))
  have G8 := Lib.hid (N7.out.suf X)
  go_wp2_with fail
  clear t0 t1 t2 t3 t4 t5 tf
  refine (peek_as p s E E 0 c (by decide) (by omega) hE hs HC _ _ B8.out.refl).mono ?_
  rintro e x9 ⟨rfl, h1⟩
  have B9 := Lib.hid (B8.out.onto h1)
  have G9 := Lib.hid (G8.out.on h1 hqp)
  clear h1
  go_wp2_with fail
  refine (inName_as c _ hcb HI _).mono ?_
  rintro e x10 ⟨rfl, rfl⟩
  obtain ⟨g0, g1, g2, g3, g4, g5, gf⟩ := G9.out.cells
  obtain ⟨t0, t1, t2, t3, t4, t5, tf⟩ := (HT.out.on B9.out HZ.out HQ.out).cells
  go_wp2_with fail
  refine bodyPost_ret (v := .tuple #[tokV 3 X V true, .int .i64 0]) (by simp [results, Try.results27, go_sem, tokV, t0, t1, t2, t3, t4, t5]) rfl ⟨rfl, ?_⟩
  repeat (first | with_reducible refine Sc.setq ?_ HG.out HQ.out _ _ | with_reducible refine Sc.drewN ?_ _)
  exact (HS.out.alloc _).onto B9.out

set_option maxHeartbeats 4000000 in
theorem number_H_over (p : Nat) (s : ByteArray) (i : Nat) (hi : i ≤ s.size) (hs : s.size ≤ 4611686018427387904) (c2 W : Int) (HP0 : Hid (Lx.pk s i = 48)) (HP1 : Hid (Lx.pk s (i + 1) = 120)) (HP2 : Hid (Lx.pk s (i + 2) = c2)) (hc2 : 0 ≤ c2 ∧ c2 ≤ 255) (HV1 : Hid (vNum (Lx.valB 16 c2) = W)) (HV2 : Hid (vOk (Lx.valB 16 c2) = true)) (hk : i + 2 ≤ s.size) (J E : Nat) (V c : Int) (X : ByteArray) (Ln : Nat) (HR : Hid (Lx.digM s 16 (i + 2) = (J, V, false))) (HX : Hid (Lx.sufStr s J = X)) (HL : Hid (Lx.sufLen s J = Ln)) (hEL : J + Ln = E) (hJ : J ≤ s.size) (hE : E ≤ s.size) (HC : Hid (Lx.pk s E = c)) (hcb : 0 ≤ c ∧ c ≤ 255) (HI : Hid (Lx.inB c = false)) (w0 w : World) (h : Sc p s i w0 w) :
    Calls Try.prog 27 #[.pointer (some ⟨p, 0, none⟩)] w (TokPost p s w0 0 ⟨#[]⟩ 0 false 6 E) := by
  have HZ : Hid (w.heap.size < (w.alloc (.cells #[.int .i64 0, .int .i64 0, .string ⟨#[]⟩, .string ⟨#[]⟩, .int .u64 0, .bool false] 33)).heap.size) := Lib.hid (by simp)
  have HT := Lib.hid (TokAt.made w)
  have HQ := Lib.hid (Nat.ne_of_gt h.lt)
  have HG := Lib.hid h.g.size
  have HS := Lib.hid h
  have hqp : w.heap.size + 1 ≠ p := by have := h.lt; omega
  have hqp' : p ≠ w.heap.size + 1 := hqp.symm
  have hq : (w.alloc (.cells #[.int .i64 0, .int .i64 0, .string ⟨#[]⟩, .string ⟨#[]⟩, .int .u64 0, .bool false] 33)).heap.size ≤ w.heap.size + 1 := by rw [heap_two]; exact Nat.le_refl _
  have N0 : Hid (TokN (w.heap.size + 1) 0 false ((w.alloc (.cells #[.int .i64 0, .int .i64 0, .string ⟨#[]⟩, .string ⟨#[]⟩, .int .u64 0, .bool false] 33)).alloc (.cells #[.int .i64 3, .int .i64 0, .string ⟨#[]⟩, .string ⟨#[]⟩, .int .u64 0, .bool false] 33))) := Lib.hid (by have := TokN.made (w.alloc (.cells #[.int .i64 0, .int .i64 0, .string ⟨#[]⟩, .string ⟨#[]⟩, .int .u64 0, .bool false] 33)); rw [heap_two] at this; exact this)
  have B0 : Hid (Sc p s i (w.alloc (.cells #[.int .i64 0, .int .i64 0, .string ⟨#[]⟩, .string ⟨#[]⟩, .int .u64 0, .bool false] 33)) ((w.alloc (.cells #[.int .i64 0, .int .i64 0, .string ⟨#[]⟩, .string ⟨#[]⟩, .int .u64 0, .bool false] 33)).alloc (.cells #[.int .i64 3, .int .i64 0, .string ⟨#[]⟩, .string ⟨#[]⟩, .int .u64 0, .bool false] 33))) := Lib.hid ((h.alloc _).refl.alloc _)
  clear h
  go_enter Try.func27, Try.ntmps27
  go_wp2_with fail
  refine (peek_as p s i (i) 0 _ (by decide) (by omega) hi hs HP0 _ _ B0.out.refl).mono ?_
  rintro e x1 ⟨rfl, h1⟩
  have B1 := Lib.hid (B0.out.onto h1)
  have K1 := Lib.hid h1
  clear h1
  have N1 := Lib.hid (N0.out.on K1.out hqp)
  go_wp2_with fail
  refine (peek_as p s i (i + 1) 1 _ (by decide) (by omega) hi hs HP1 _ _ B1.out.refl).mono ?_
  rintro e x2 ⟨rfl, h1⟩
  have B2 := Lib.hid (B1.out.onto h1)
  have K2 := Lib.hid h1
  clear h1
  have N2 := Lib.hid (N1.out.on K2.out hqp)
  have d1 := K2.out.c1
  have d2 := K2.out.f 1
  have hk' : (i : Int) + 2 ≤ (s.size : Int) := by omega
  obtain ⟨t0, t1, t2, t3, t4, t5, tf⟩ := N2.out.cells
  have B3 : Hid (Sc p s (i + 2) _ _) := Lib.hid ((Sc.setI (v := (i : Int) + 2) (j := i + 2) B2.out (by omega)).setq hq hqp 5 (.bool true))
  have N3 := Lib.hid ((N2.out.setp hqp 1 (.int .i64 ((i : Int) + 2))).hexed true)
  go_wp2_with fail
  clear t0 t1 t2 t3 t4 t5 tf d1 d2
  refine (peek_as p s (i + 2) (i + 2) 0 _ (by decide) (by omega) hk hs HP2 _ _ B3.out.refl).mono ?_
  rintro e x4 ⟨rfl, h1⟩
  have B4 := Lib.hid (B3.out.onto h1)
  have N4 := Lib.hid (N3.out.on h1 hqp)
  clear h1
  go_wp2_with fail
  refine (value_any c2 16 hc2 (by decide) _).mono ?_
  rw [HV1.out, HV2.out]
  rintro e x5 ⟨rfl, rfl⟩
  go_wp2_with fail
  refine (digits_any 16 (by decide) p (w.heap.size + 1) s (i + 2) true hk hs _ _ B4.out N4.out hq hqp).mono ?_
  rw [HR.out]
  rintro e x6 ⟨rfl, h1, n1⟩
  have B6 := Lib.hid h1
  have N6 := Lib.hid n1
  clear h1 n1
  go_wp2_with fail
  refine (suffix_any p s J hJ hs _ _ B6.out.refl).mono ?_
  rw [HX.out, HL.out]
  rintro e x7 ⟨rfl, h1⟩
  rw [hEL] at h1
  have B7 := Lib.hid (B6.out.onto h1)
  have N7 := Lib.hid (N6.out.on h1 hqp)
  clear h1
  obtain ⟨t0, t1, t2, t3, t4, t5, tf⟩ := N7.out.cells
  have B8 := Lib.hid (B7.out.setq hq hqp 3 (.string X))
  have G8 := Lib.hid (N7.out.suf X)
  go_wp2_with fail
  clear t0 t1 t2 t3 t4 t5 tf
  refine (peek_as p s E E 0 c (by decide) (by omega) hE hs HC _ _ B8.out.refl).mono ?_
  rintro e x9 ⟨rfl, h1⟩
  have B9 := Lib.hid (B8.out.onto h1)
  have G9 := Lib.hid (G8.out.on h1 hqp)
  clear h1
  go_wp2_with fail
  refine (inName_as c _ hcb HI _).mono ?_
  rintro e x10 ⟨rfl, rfl⟩
  obtain ⟨g0, g1, g2, g3, g4, g5, gf⟩ := G9.out.cells
  obtain ⟨t0, t1, t2, t3, t4, t5, tf⟩ := (HT.out.on B9.out HZ.out HQ.out).cells
  go_wp2_with fail
  refine bodyPost_ret (v := .tuple #[tokV 0 ⟨#[]⟩ 0 false, .int .i64 6]) (by simp [results, Try.results27, go_sem, tokV, t0, t1, t2, t3, t4, t5]) rfl ⟨rfl, ?_⟩
  repeat (first | with_reducible refine Sc.setq ?_ HG.out HQ.out _ _ | with_reducible refine Sc.drewN ?_ _)
  exact (HS.out.alloc _).onto B9.out
end Go.Proofs.Ytlpoahjgonjelaa
