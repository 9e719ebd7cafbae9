/- The document's answers on moves: of; moves as the document's. -/
import Derived.Test.YtheapamlhoogaaaMvRefC
import Derived.Laws.OwnMore
import Derived.Deep.AppendLies
import Derived.Deep.RegionLaw
namespace Go.Proofs.Ytheapamlhoogaaa
open Go.RowKit Go.Maps
set_option linter.unusedVariables false
set_option linter.unusedSimpArgs false
theorem infoR : (Try.prog.info? 36).map (fun i => (i.zero, i.size, i.bytes)) = some (some (.agg #[.int .i64 0, .int .i64 0]), 2, 16) := by kernel_rfl
set_option maxRecDepth 100000 in
set_option maxHeartbeats 4000000 in
theorem of_any (a : Option Addr) (n cap : Nat) (l : List Mv.Pr) (w : World) (hM : Movs w a n l) (hn : n ≤ 100000) :
    Calls Try.prog 8 #[.slice a n cap] w fun e w' => ∃ v, e = .returned v ∧ w'.ownsRow w.heap.size 36 2 v n (mrow l) ∧ Below w.heap.size w w' := by
  have HR := Lib.hid hM
  clear hM
  go_enter Try.func8, Try.ntmps8
  go_wp2_with fail
  go_loopg [3, 4] n (fun g x v wr => ∃ i : Nat, v = .int .i64 (i : Int) ∧ i ≤ n ∧ g = n - i ∧ Hid (wr.ownsRow w.heap.size 36 2 x i (mrow (l.take i))) ∧ Hid (Below w.heap.size w wr))
  case atStart => exact ⟨0, rfl, Nat.zero_le _, rfl, Lib.hid (World.ownsRow_nil _ _ _ _), Lib.hid (Below.refl _ _)⟩
  case round =>
    obtain ⟨i, rfl, hi, hg, HO, HB⟩ := hrel
    by_cases hlt : i < n
    · have hlt' : (i : Int) < (n : Int) := by omega
      have i0 : (0 : Int) ≤ (i : Int) := by omega
      obtain ⟨t, b, off, ht, rfl, k1, k2, _, _⟩ := HR.out.get hlt
      have k1 := (HB.out.cell (p := ⟨b, _, none⟩) (block_lt_of_cell k1)).trans k1
      have k2 := (HB.out.cell (p := ⟨b, _, none⟩) (block_lt_of_cell k2)).trans k2
      have HO2 := Lib.hid (mrow_take ht)
      obtain ⟨T, S⟩ := t
      simp only at k1 k2 HO2
      have hsz := HB.out.size
      have HNE : Hid (∀ q, u3.ownBlock = some q → w.heap.size ≤ q) := Lib.hid (fun q e => (HO.out.lt q e).1)
      obtain ⟨aa, ca, hv5, _⟩ := own_form HO.out
      subst hv5
      clear ht
      go_wp2_with fail
      have HOD : Hid ((wr.alloc (.cells #[.int .i64 T, .int .i64 S] 36)).drew.ownsRow w.heap.size 36 2 (.slice aa i ca) i (mrow (l.take i))) := Lib.hid (HO.out.alloc _)
      have HBD : Hid (Below w.heap.size w (wr.alloc (.cells #[.int .i64 T, .int .i64 S] 36)).drew) := Lib.hid ((HB.out.alloc (by omega) _).drew)
      have HSZ : Hid ((wr.alloc (.cells #[.int .i64 T, .int .i64 S] 36)).drew.heap.size = wr.heap.size + 1) := Lib.hid (heap_two _ _)
      have HAD : Hid ((wr.alloc (.cells #[.int .i64 T, .int .i64 S] 36)).drew.heap[wr.heap.size]? = some (.cells #[.int .i64 T, .int .i64 S] 36 (0, 0))) := Lib.hid (heap_alloc_new _ _)
      obtain ⟨ip, hi0, hi1⟩ : ∃ ip, Try.prog.info? 36 = some ip ∧ (ip.zero = some (.agg #[.int .i64 0, .int .i64 0]) ∧ ip.size = 2 ∧ ip.bytes = 16) := by
        cases hq : Try.prog.info? 36 with
        | none => have := infoR; rw [hq] at this; cases this
        | some q => have := infoR; rw [hq] at this; simp only [Option.map_some, Option.some.injEq, Prod.mk.injEq] at this; exact ⟨q, rfl, this⟩
      have HI0 := Lib.hid hi0
      have HI1 := Lib.hid hi1
      clear hi0 hi1
      go_region_law (refine step_append_lies _ rfl (.tmp 11) (.tmp 23) 26 rfl w.heap.size 36 ip _ 2 16 Try.underlying26 HI0.out HI1.out.1 HI1.out.2.1 HI1.out.2.2 rfl (by decide) (.slice aa i ca) i (mrow (l.take i)) (by simp [Act.eval, Act.put]) HOD.out ⟨wr.heap.size, 0, none⟩ 1 1 [.int .i64 T, .int .i64 S] (by simp [Act.eval, Act.put]) rfl (World.news_of_block HAD.out) (by intro u hu; simp at hu; rcases hu with rfl | rfl <;> rfl) (by decide) (by unfold maxLen; omega) (by omega) (by rw [HSZ.out]; omega) _ rfl ?_; intro g5 cap5 w5 hown hgrow hat hlt5)
      all_goals clear HOD HI0 HI1 HAD k1 k2
      all_goals
        have HOW : Hid (w5.ownsRow w.heap.size 36 2 (.slice (some ⟨g5, 0, none⟩) (i + 1) cap5) (i + 1) (mrow (l.take (i + 1)))) := Lib.hid (by rw [HO2.out]; exact hown)
        have HBW : Hid (Below w.heap.size w w5) := Lib.hid (HBD.out.grown hgrow (by rw [HSZ.out]; omega) HNE.out)
        clear hown hgrow HBD HSZ
        go_wp2_with fail
        go_roundg (n - (i + 1))
        case rel => exact ⟨i + 1, by go_num, by omega, rfl, HOW, HBW⟩
        case measure => omega
    · obtain rfl : i = n := by omega
      have hlt' : ¬ (i : Int) < (i : Int) := by omega
      have HO2 : Hid (wr.ownsRow w.heap.size 36 2 u3 i (mrow l)) := Lib.hid (by have h := HO.out; rw [List.take_of_length_le (by rw [HR.out.len]; exact Nat.le_refl _)] at h; exact h)
      clear HO
      go_wp2_with fail
      go_returns
      exact ⟨u3, rfl, HO2.out, HB.out⟩
end Go.Proofs.Ytheapamlhoogaaa
