/- The laws' own example on lex: awake answers true. -/
import Derived.Test.YtlpoahjgonjelaaLexTokens
import Derived.KernelRfl
import Derived.Deep.AppendLies
namespace Go.Proofs.Ytlpoahjgonjelaa
open Go.RowKit
set_option linter.unusedVariables false

theorem ev1 : Lx.tokensM ⟨#[49, 97]⟩ = ⟨[], 3, 0⟩ := by kernel_rfl
theorem ev2 : Lx.tokensM ⟨#[97, 60, 60, 61, 48, 120, 49, 70, 117, 108, 32, 47, 47, 32, 98]⟩ = ⟨[⟨1, 0, ⟨#[97]⟩, ⟨#[]⟩, 0, false⟩, ⟨5, 1, ⟨#[60, 60, 61]⟩, ⟨#[]⟩, 0, false⟩, ⟨3, 4, ⟨#[48, 120, 49, 70, 117, 108]⟩, ⟨#[117, 108]⟩, 31, true⟩], 0, 0⟩ := by kernel_rfl
theorem ev3 : Lx.wordB ⟨#[103, 111, 116, 111]⟩ = true := by kernel_rfl
theorem ev4 : Lx.wordB ⟨#[103, 111, 116]⟩ = false := by kernel_rfl
theorem tokens_any (s : ByteArray) (w : World) : Calls Try.prog 9 #[.string s] w (TokensPost w (Lx.tokensM s)) := by
  by_cases h : 20000 < s.size
  · exact tokens_long s h w
  · exact tokens_short s (by omega) w
theorem tokens_as (s : ByteArray) (r : Lx.TkR) (hr : Lx.tokensM s = r) (w : World) : Calls Try.prog 9 #[.string s] w (TokensPost w r) := by
  rw [← hr]; exact tokens_any s w

theorem tokens_to (s : ByteArray) (l : List Lx.Tk) (c p : Int) (n : Nat) (xs : List Value) (hr : Lx.tokensM s = ⟨l, c, p⟩) (hn : l.length = n) (hx : Lx.rowOf l = xs) (w : World) : Calls Try.prog 9 #[.string s] w fun e w' =>
    ∃ v, e = .returned (.tuple #[v, .agg #[.int .i64 c, .int .i64 p]]) ∧ w'.ownsRow w.heap.size 33 6 v n xs ∧ Below w.heap.size w w' := by
  subst hn hx
  exact tokens_as s _ hr w
set_option maxHeartbeats 2000000 in
theorem awake_true (w : World) : Calls Try.prog 8 #[] w fun e w' => e = .returned (.bool true) ∧ Below w.heap.size w w' := by
  go_enter Try.func8, Try.ntmps8
  go_wp2_with fail
  refine (tokens_to _ _ _ _ 3 [.int .i64 1, .int .i64 0, .string ⟨#[97]⟩, .string ⟨#[]⟩, .int .u64 0, .bool false, .int .i64 5, .int .i64 1, .string ⟨#[60, 60, 61]⟩, .string ⟨#[]⟩, .int .u64 0, .bool false, .int .i64 3, .int .i64 4, .string ⟨#[48, 120, 49, 70, 117, 108]⟩, .string ⟨#[117, 108]⟩, .int .u64 31, .bool true] ev2 rfl rfl w).mono ?_
  rintro e w1 ⟨v, rfl, hown, hb⟩
  obtain ⟨g, cap, rfl, _⟩ := World.ownsRow.form hown (by decide)
  have hc := hown.cells (g := g) rfl
  have hlt := hown.lt g rfl
  have c8 := hc 8 _ rfl
  have c15 := hc 15 _ rfl
  have c16 := hc 16 _ rfl
  have c17 := hc 17 _ rfl
  simp [Addr.add] at c8 c15 c16 c17
  have hg1 := hlt.2
  have HB := Lib.hid hb
  have hs := hb.size
  have HG := Lib.hid hlt
  clear hc hown hb hlt
  go_wp2_with fail
  refine (tokens_to _ _ _ _ 0 [] ev1 rfl rfl _).mono ?_
  rintro e w2 ⟨v2, rfl, hown2, hb2⟩
  have k1 : ∀ o, w2.cell? ⟨g, o, none⟩ = w1.cell? ⟨g, o, none⟩ := fun o => by
    rw [hb2.cell (p := ⟨g, o, none⟩) (by simp; omega), World.cell?_alloc_past _ _ _ hg1]
  have k2 : w2.cell? ⟨w1.heap.size, 0, none⟩ = some (.int .i64 0) ∧ w2.cell? ⟨w1.heap.size, 1, none⟩ = some (.int .i64 0) := by
    rw [hb2.cell (p := ⟨w1.heap.size, 0, none⟩) (by simp), hb2.cell (p := ⟨w1.heap.size, 1, none⟩) (by simp), World.cell?_alloc_at _ _ _ _ rfl, World.cell?_alloc_at _ _ _ _ rfl]
    exact ⟨rfl, rfl⟩
  obtain ⟨k20, k21⟩ := k2
  have e8 := (k1 8).trans c8
  have e15 := (k1 15).trans c15
  have e16 := (k1 16).trans c16
  have e17 := (k1 17).trans c17
  have hsz := hb2.size
  have hp1 : w1.heap.size < w2.heap.size := by simp at hsz; omega
  have hp2 : g < w2.heap.size := by omega
  have HB2 : Hid (Below w.heap.size w w2) := Lib.hid ((HB.out.alloc hs _).trans (hb2.mono (by simp; omega)))
  have hs2 := HB2.out.size
  have f8 : ∀ o : Obj, (w2.alloc o).cell? ⟨g, 8, none⟩ = some (.string ⟨#[60, 60, 61]⟩) := fun o => by rw [World.cell?_alloc_past _ _ _ hp2]; exact e8
  have f15 : ∀ o : Obj, (w2.alloc o).cell? ⟨g, 15, none⟩ = some (.string ⟨#[117, 108]⟩) := fun o => by rw [World.cell?_alloc_past _ _ _ hp2]; exact e15
  have f16 : ∀ o : Obj, (w2.alloc o).cell? ⟨g, 16, none⟩ = some (.int .u64 31) := fun o => by rw [World.cell?_alloc_past _ _ _ hp2]; exact e16
  have f17 : ∀ o : Obj, (w2.alloc o).cell? ⟨g, 17, none⟩ = some (.bool true) := fun o => by rw [World.cell?_alloc_past _ _ _ hp2]; exact e17
  have f0 : ∀ o : Obj, (w2.alloc o).cell? ⟨w1.heap.size, 0, none⟩ = some (.int .i64 0) := fun o => by rw [World.cell?_alloc_past _ _ _ hp1]; exact k20
  have f1 : ∀ o : Obj, (w2.alloc o).cell? ⟨w1.heap.size, 1, none⟩ = some (.int .i64 0) := fun o => by rw [World.cell?_alloc_past _ _ _ hp1]; exact k21
  clear k1 k20 k21 c8 c15 c16 c17 e8 e15 e16 e17 hown2 hb2 hsz hp1 hp2 hg1 hs
  go_wp2_with fail
  refine (word_as _ true (Lib.hid ev3) _).mono ?_
  rintro e w3 ⟨rfl, rfl⟩
  go_wp2_with fail
  refine (word_as _ false (Lib.hid ev4) _).mono ?_
  rintro e w4 ⟨rfl, rfl⟩
  go_wp2_with fail
  go_returns
  exact ⟨rb rfl rfl, HB2.out.alloc hs2 _⟩
end Go.Proofs.Ytlpoahjgonjelaa
