/- The laws' own example on moves: awake answers true. -/
import Derived.Test.YtheapamlhoogaaaMvOrder
namespace Go.Proofs.Ytheapamlhoogaaa
open Go.RowKit Go.Maps
set_option linter.unusedVariables false

theorem movs_lit {w : World} {g : Nat} {c : Array Value} {e : TypeId} (l : List Mv.Pr) (n : Nat) (hn : l.length = n) (h : w.heap[g]? = some (.cells c e (0, 0))) (hc : c.toList = mrow l) (hb : ∀ t ∈ l, I64 t.1 ∧ I64 t.2) : Movs w (some ⟨g, 0, none⟩) n l := by
  refine ⟨hn, hb, fun _ => ⟨g, 0, rfl, fun i t ht => ?_⟩⟩
  obtain ⟨r1, r2⟩ := mrow_get l i t ht
  rw [← hc] at r1 r2
  rw [Nat.zero_add]
  constructor
  · rw [← r1]; simp [World.cell?, h]
  · rw [← r2]; simp [World.cell?, h]
theorem order_as (a : Option Addr) (n cap : Nat) (l : List Mv.Pr) (sp : Int) (res : List Mv.Pr) (ok : Bool) (k : Nat) (w : World) (hM : Movs w a n l) (hn : n ≤ 9223372036854775807) (hsp : I64 sp) (hres : Mv.orderM l sp = some (res, ok)) (hk : res.length = k) :
    Calls Try.prog 7 #[.slice a n cap, .int .i64 sp] w fun e w' => ∃ aa ca, e = .returned (.tuple #[.slice aa k ca, .bool ok]) ∧ w'.ownsRow w.heap.size 32 2 (.slice aa k ca) k (mrow res) ∧ Below w.heap.size w w' := by
  refine (order_any a n cap l sp res ok w hM hn hsp hres).mono ?_
  rintro e w' ⟨v, rfl, h1, h2, h3, h4⟩
  rw [hk] at h1
  obtain ⟨aa, ca, rfl, _⟩ := own_form h1
  exact ⟨aa, ca, rfl, h1, h4⟩
theorem ev1 : Mv.orderM [(1, 2), (2, 1)] 9 = some ([(9, 1), (1, 2), (2, 9)], true) := by kernel_rfl
theorem ev2 : Mv.orderM [(1, 2), (1, 3)] 9 = some ([], false) := by kernel_rfl
theorem ev3 : Mv.mayM [] = true := by kernel_rfl
theorem ev4 : Mv.mayM [(-1, 0)] = false := by kernel_rfl
set_option maxHeartbeats 2000000 in
theorem awake_true (w : World) : Calls Try.prog 6 #[] w fun e w' => e = .returned (.bool true) ∧ Below w.heap.size w w' := by
  have h9 : I64 9 := by unfold I64; decide
  have M1 := Lib.hid (movs_lit [(1, 2), (2, 1)] 2 rfl (heap_alloc_new w (.cells #[.int .i64 1, .int .i64 2, .int .i64 2, .int .i64 1] 32)) rfl (by simp [I64]))
  go_enter Try.func6, Try.ntmps6
  go_wp2_with fail
  refine (order_as _ 2 2 _ 9 _ true 3 _ M1.out (by decide) h9 ev1 rfl).mono ?_
  rintro e w1 ⟨a1, c1, rfl, _, hb1⟩
  have HB1 := Lib.hid hb1
  clear hb1
  have M2 := Lib.hid (movs_lit [(1, 2), (1, 3)] 2 rfl (heap_alloc_new w1 (.cells #[.int .i64 1, .int .i64 2, .int .i64 1, .int .i64 3] 32)) rfl (by simp [I64]))
  go_wp2_with fail
  refine (order_as _ 2 2 _ 9 _ false 0 _ M2.out (by decide) h9 ev2 rfl).mono ?_
  rintro e w2 ⟨a2, c2, rfl, _, hb2⟩
  have HB2 := Lib.hid hb2
  clear hb2
  go_wp2_with fail
  refine (may_as none 0 0 [] true (Lib.hid ev3) w2 (movs_nil _ _) (by decide)).mono ?_
  rintro e w3 ⟨rfl, hb3⟩
  have HB3 := Lib.hid hb3
  clear hb3
  have M4 := Lib.hid (movs_lit [(-1, 0)] 1 rfl (heap_alloc_new w3 (.cells #[.int .i64 (-1), .int .i64 0] 32)) rfl (by simp [I64]))
  go_wp2_with fail
  refine (may_as _ 1 1 _ false (Lib.hid ev4) _ M4.out (by decide)).mono ?_
  rintro e w4 ⟨rfl, hb4⟩
  have HB4 := Lib.hid hb4
  clear hb4
  go_wp2_with fail
  go_returns
  refine ⟨rb rfl rfl, ?_⟩
  have t1 := HB1.out.size
  have t2 := HB2.out.size
  have t3 := HB3.out.size
  rw [heap_two] at t1 t2
  have u1 := ((Below.refl w.heap.size w).alloc (Nat.le_refl _) (.cells #[.int .i64 1, .int .i64 2, .int .i64 2, .int .i64 1] 32)).trans (HB1.out.mono (by rw [heap_two]; omega))
  have u2 := (u1.alloc u1.size (.cells #[.int .i64 1, .int .i64 2, .int .i64 1, .int .i64 3] 32)).trans (HB2.out.mono (by rw [heap_two]; omega))
  have u3 := u2.trans (HB3.out.mono (by omega))
  exact (u3.alloc u3.size _).trans (HB4.out.mono (by rw [heap_two]; omega))
end Go.Proofs.Ytheapamlhoogaaa
