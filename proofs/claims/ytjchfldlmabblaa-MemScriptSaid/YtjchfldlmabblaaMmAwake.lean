/- awake. -/
import Derived.Test.YtjchfldlmabblaaMmB
namespace Go.Proofs.Ytjchfldlmabblaa
open Go.RowKit Go.Maps
set_option linter.unusedVariables false

def tI32 : ByteArray := ⟨#[105, 51, 50]⟩
def awV : View := setV (fun _ => none) 1 (newV 8 (addM [(0, tI32), (4, tI32)] [] []))
def awV2 : View := writeV awV ⟨2, 0, 1, 0⟩ tI32 ⟨1, 7, 0, 0⟩
theorem aw_read : readV awV ⟨2, 0, 1, 0⟩ tI32 = (v0, false) := by decide
theorem aw_cell : (cellV awV ⟨2, 0, 1, 0⟩ tI32).isSome = true := by decide
theorem aw_read2 : readV awV2 ⟨2, 0, 1, 0⟩ tI32 = (⟨1, 7, 0, 0⟩, true) := by decide
theorem aw_move : moveV awV2 ⟨2, 0, 1, 0⟩ 4 = (⟨2, 0, 1, 4⟩, true) := by decide +kernel
theorem aw_move2 : moveV awV2 ⟨2, 0, 1, 0⟩ 9 = (v0, false) := by decide +kernel
theorem aw_size : sizeV awV2 1 = 8 := by decide
theorem awOk : vlOk ⟨2, 0, 1, 0⟩ := ⟨by unfold I64; simp, by unfold I64; simp, by unfold I64; simp, by unfold I64; simp⟩
theorem i64_1 : I64 1 := by unfold I64; simp
theorem awT : tI32.size ≤ maxLen := by decide
set_option maxRecDepth 100000 in
set_option maxHeartbeats 4000000 in
theorem awake_true (w : World) : Calls Try.prog 6 #[] w fun e w' => e = .returned (.bool true) ∧ Below w.heap.size w w' := by
  go_enter Try.func6, Try.ntmps6
  go_wp2_with fail
  refine (mem_b w (fun _ => False) (fun _ e => e.elim)).mono ?_
  rintro e w1 ⟨m, rfl, hm, hk⟩
  have HM := Lib.hid hm
  have HK := Lib.hid hk
  clear hm hk
  go_wp2_with fail
  have hcl : CellsIn (w1.alloc (.cells #[.int .i64 0, .string tI32, .int .i64 4, .string tI32] 35)) (some ⟨w1.heap.size, 0, none⟩) 2 [(0, tI32), (4, tI32)] := by
    refine ⟨rfl, ?_, fun _ => ⟨_, _, rfl, ?_⟩⟩
    · intro c hc
      simp at hc
      rcases hc with rfl | rfl <;> exact ⟨by unfold I64; simp, by decide⟩
    · intro i c hi
      match i, hi with
      | 0, hi => injection hi with hi; subst hi; exact ⟨by rw [World.cell?_alloc_at _ _ _ _ rfl]; rfl, by rw [World.cell?_alloc_at _ _ _ _ rfl]; rfl⟩
      | 1, hi => injection hi with hi; subst hi; exact ⟨by rw [World.cell?_alloc_at _ _ _ _ rfl]; rfl, by rw [World.cell?_alloc_at _ _ _ _ rfl]; rfl⟩
      | i + 2, hi => cases hi
  have HM1 := Lib.hid (HM.out.keep (Y := fun a => a = w1.heap.size) ((Keeps.refl No w1).alloc (.cells #[.int .i64 0, .string tI32, .int .i64 4, .string tI32] 35)) (fun a e => .inr (by subst e; simp)))
  refine (add_b 8 1 rfl (some ⟨w1.heap.size, 0, none⟩) 2 2 _ awV rfl HM1.out (by unfold I64; omega) hcl (by omega) (by omega)).mono ?_
  rintro e w2 ⟨rfl, hm2, _⟩
  have HM2 := Lib.hid hm2
  clear hm2 hcl
  go_wp2_with fail
  have HM3 := Lib.hid (HM2.out.keep (Y := fun a => a = w2.heap.size) ((Keeps.refl No w2).alloc (.cells #[.int .i64 2, .int .i64 0, .int .i64 1, .int .i64 0] 30)) (fun a e => .inr (by subst e; simp)))
  refine (read_b ⟨2, 0, 1, 0⟩ tI32 _ aw_read HM3.out awOk awT).mono ?_
  rintro e w3 ⟨rfl, hm3, hk3⟩
  have hp3 := row_of hk3
  obtain ⟨g, hg⟩ : ∃ g, w2.heap.size = g := ⟨_, rfl⟩
  rw [hg] at hp3 hm3 ⊢
  obtain ⟨c0, c1, c2, c3, _⟩ := four_cells hp3
  have HM4 := Lib.hid hm3
  have HP3 := Lib.hid hp3
  have gl : g < w3.heap.size := (Array.getElem?_eq_some_iff.1 hp3).1
  have gn : g ≠ w3.heap.size := by omega
  clear hm3 hk3 hp3 hg HM3
  go_wp2_with fail
  have HM5 := Lib.hid (HM4.out.no ((Keeps.refl No w3).alloc (.cells #[.int .i64 0, .int .i64 0, .int .i64 0, .int .i64 0] 30)))
  refine (write_b ⟨2, 0, 1, 0⟩ tI32 ⟨1, 7, 0, 0⟩ true awV2 aw_cell rfl HM5.out awOk awT).mono ?_
  rintro e w4 ⟨rfl, hm4, hk4⟩
  have hp4 := (hk4.block g (by simp; omega) (fun e => e.1 rfl)).trans ((Below.heap_alloc _ _ _ gl).trans HP3.out)
  clear c0 c1 c2 c3 gl gn HP3 HM4 HM5
  obtain ⟨c0, c1, c2, c3, _⟩ := four_cells hp4
  have HM6 := Lib.hid hm4
  have HP4 := Lib.hid hp4
  clear hm4 hk4 hp4
  go_wp2_with fail
  refine (read_b ⟨2, 0, 1, 0⟩ tI32 _ aw_read2 HM6.out awOk awT).mono ?_
  rintro e w5 ⟨rfl, hm5, hk5⟩
  have hp5 := (hk5.block g (Array.getElem?_eq_some_iff.1 HP4.out).1 (fun e => e)).trans HP4.out
  clear c0 c1 c2 c3 HP4 HM6
  obtain ⟨c0, c1, c2, c3, _⟩ := four_cells hp5
  have HM7 := Lib.hid hm5
  have HP5 := Lib.hid hp5
  have gl : g < w5.heap.size := (Array.getElem?_eq_some_iff.1 hp5).1
  have gn : g ≠ w5.heap.size := by omega
  clear hm5 hk5 hp5
  go_wp2_with fail
  obtain ⟨h, hh⟩ : ∃ h, w5.heap.size = h := ⟨_, rfl⟩
  have HM8 := Lib.hid (HM7.out.keep (Y := fun a => a = g ∨ a = h) ((Keeps.refl No w5).alloc (.cells #[.int .i64 1, .int .i64 7, .int .i64 0, .int .i64 0] 30)) (fun a e => by rcases e with e | e; exact .inl e; exact .inr (by subst e; simp; omega)))
  refine (move_b ⟨2, 0, 1, 0⟩ 4 _ aw_move HM8.out awOk).mono ?_
  rintro e w6 ⟨rfl, hm6, hk6⟩
  have hq6 := row_of hk6
  have hp6 := (hk6.block g (by simp; omega) (fun e => e)).trans ((Below.heap_alloc _ _ _ gl).trans HP5.out)
  rw [hh] at hq6 ⊢
  clear c0 c1 c2 c3 gl gn HP5 HM7 HM8
  obtain ⟨c0, c1, c2, c3, _⟩ := four_cells hp6
  have HM9 := Lib.hid hm6
  have HP6 := Lib.hid hp6
  have HQ6 := Lib.hid hq6
  have gl : g < w6.heap.size := (Array.getElem?_eq_some_iff.1 hp6).1
  have gn : g ≠ w6.heap.size := by omega
  clear hm6 hk6 hp6 hq6 hh
  go_wp2_with fail
  obtain ⟨k, hkk⟩ : ∃ k, w6.heap.size = k := ⟨_, rfl⟩
  have HM10 := Lib.hid (HM9.out.no ((Keeps.refl No w6).alloc (.cells #[.int .i64 2, .int .i64 0, .int .i64 1, .int .i64 4] 30)))
  refine (move_b ⟨2, 0, 1, 0⟩ 9 _ aw_move2 HM10.out awOk).mono ?_
  rintro e w7 ⟨rfl, hm7, hk7⟩
  have hr7 := row_of hk7
  have hq7 := (hk7.block h (by have := (Array.getElem?_eq_some_iff.1 HQ6.out).1; simp; omega) (fun e => e)).trans ((Below.heap_alloc _ _ _ (Array.getElem?_eq_some_iff.1 HQ6.out).1).trans HQ6.out)
  rw [hkk] at hr7 ⊢
  clear c0 c1 c2 c3 gl gn HP6 HM9 HM10
  obtain ⟨_, v1, _, _, _⟩ := four_cells hq7
  obtain ⟨_, _, _, q3, _⟩ := four_cells hr7
  have HM11 := Lib.hid hm7
  have gl1 : h < w7.heap.size := (Array.getElem?_eq_some_iff.1 hq7).1
  have gl2 : k < w7.heap.size := (Array.getElem?_eq_some_iff.1 hr7).1
  have gn1 : h ≠ w7.heap.size := by omega
  have gn2 : k ≠ w7.heap.size := by omega
  clear hm7 hk7 hr7 hq7 hkk HQ6
  go_wp2_with fail
  refine (size_b 1 8 aw_size (HM11.out.no (by repeat (first | with_reducible exact Keeps.refl _ _ | with_reducible refine Keeps.alloc ?_ _ | with_reducible refine Keeps.drewN ?_ _ | with_reducible refine Keeps.drew ?_ | with_reducible refine Keeps.setCell ?_ (.inr (by simp)) _ | with_reducible refine Keeps.setRow ?_ (by simp) _))) i64_1).mono ?_
  rintro e w8 ⟨rfl, hm8, _⟩
  have HB := Lib.hid hm8.below
  clear hm8 HM11 v1 q3
  go_wp2_with fail
  go_returns
  exact ⟨rfl, HB.out⟩
end Go.Proofs.Ytjchfldlmabblaa
