/- The law LexNames, walked. -/
import Derived.Test.YtlpoahjgonjelaaLexNamesM
import Derived.Test.YtlpoahjgonjelaaLexAwake
import Derived.Test.YtlpoahjgonjelaaLexLow
import Derived.Test.YtlpoahjgonjelaaBaseI
import Derived.Deep.LoopGhost
namespace Go.Proofs.Ytlpoahjgonjelaa
open Go.RowKit
set_option linter.unusedVariables false

def alpha : ByteArray := ⟨#[97, 98, 99, 100, 101, 102, 103, 104, 105, 106, 107, 108, 109, 110, 111, 112, 113, 114, 115, 116, 117, 118, 119, 120, 121, 122, 65, 66, 67, 68, 69, 70, 71, 72, 73, 74, 75, 76, 77, 78, 79, 80, 81, 82, 83, 84, 85, 86, 87, 88, 89, 90, 95, 48, 49, 50, 51, 52, 53, 54, 55, 56, 57]⟩
theorem alpha_list : ∀ k < 63, ∃ c : UInt8, ((alpha.data.toList.drop k).take 1) = [c] ∧ Lx.inB (c.toNat : Int) = true ∧ (k < 53 → Lx.letB (c.toNat : Int) = true) := by
  intro k hk
  have h : k < alpha.data.toList.length := hk
  refine ⟨alpha.data.toList[k], ?_, ?_⟩
  · rw [List.drop_eq_getElem_cons h]; rfl
  · revert k; decide +kernel
theorem alpha_ext {k : Nat} (hk : k < 63) : ∃ c : UInt8, (alpha.extract k (k + 1)).data.toList = [c] ∧ Lx.inB (c.toNat : Int) = true ∧ (k < 53 → Lx.letB (c.toNat : Int) = true) := by
  obtain ⟨c, h1, h2⟩ := alpha_list k hk
  exact ⟨c, by rw [← ByteArray.toList_eq, ext_list]; exact h1, h2⟩
/-- Letters and digits so far. -/
structure NamB (B : ByteArray) (i : Nat) : Prop where
  len : B.data.toList.length = i
  nam : ∀ c ∈ B.data.toList, Lx.inB (c.toNat : Int) = true
  fst : 0 < i → Lx.letB (lb B.data.toList 0) = true
theorem NamB.app {B C : ByteArray} {i : Nat} {c : UInt8} (h : NamB B i) (hC : C.data.toList = [c]) (hc : Lx.inB (c.toNat : Int) = true) (h0 : i = 0 → Lx.letB (c.toNat : Int) = true) : NamB (B ++ C) (i + 1) := by
  have e : (B ++ C).data.toList = B.data.toList ++ [c] := by rw [← hC]; simp
  refine ⟨by rw [e]; simp [h.len], fun d hd => ?_, fun _ => ?_⟩
  · rw [e] at hd
    rcases List.mem_append.1 hd with hd | hd
    · exact h.nam d hd
    · simp at hd; subst hd; exact hc
  · rw [e]
    by_cases hi : i = 0
    · have : B.data.toList = [] := List.length_eq_zero_iff.1 (by rw [h.len, hi])
      rw [this]; exact h0 hi
    · rw [lb_left (by rw [h.len]; omega)]; exact h.fst (by omega)
set_option maxRecDepth 100000 in
set_option maxHeartbeats 4000000 in
theorem lexNames_walk (a : Option Addr) (n cap : Nat) (z : Nat → Int) (w : World) (hI : IntsIn w a n z) : Calls Try.prog 7 #[.slice a n cap] w fun e w' => e = .returned (.bool true) ∧ Below w.heap.size w w' := by
  by_cases h0 : n = 0
  · subst h0
    go_enter Try.func7, Try.ntmps7
    go_wp2_with fail
    refine (awake_true w).mono ?_
    rintro e w1 ⟨rfl, hb⟩
    have HB := Lib.hid hb
    clear hb
    go_wp2_with fail
    go_returns
    exact ⟨rb rfl rfl, HB.out⟩
  · have q0 : ((n : Int) == 0) = false := beq_eq_false_iff_ne.2 (by omega)
    by_cases h40 : 40 < n
    · have h40' : (40 : Int) < (n : Int) := by omega
      clear h0 hI
      go_enter Try.func7, Try.ntmps7
      go_wp2_with fail
      refine (awake_true w).mono ?_
      rintro e w1 ⟨rfl, hb⟩
      have HB := Lib.hid hb
      clear hb
      go_wp2_with fail
      go_returns
      exact ⟨rb rfl rfl, HB.out⟩
    · have h40' : ¬ (40 : Int) < (n : Int) := by omega
      obtain ⟨b, off, rfl, hc⟩ := hI.at_ (by omega)
      have hbd := hI.bd
      have HC := Lib.hid hc
      have HBD := Lib.hid hbd
      clear hc hbd hI
      go_enter Try.func7, Try.ntmps7
      go_wp2_with fail
      go_loopg [3, 4] n (fun g x y wr => ∃ (B : ByteArray) (i : Nat), x = .string B ∧ y = .int .i64 (i : Int) ∧ i ≤ n ∧ g = n - i ∧ Hid (NamB B i) ∧ w = wr)
      case atStart => exact ⟨⟨#[]⟩, 0, rfl, rfl, by omega, rfl, Lib.hid ⟨rfl, fun c hc => by simp at hc, fun h => absurd h (by omega)⟩, rfl⟩
      case round =>
        obtain ⟨B, i, rfl, rfl, hi, hg, HN, rfl⟩ := hrel
        by_cases hlt : i < n
        · have hlt' : (i : Int) < (n : Int) := by omega
          have hcell := HC.out i hlt
          have hb := HBD.out i hlt
          obtain ⟨Z, hZ⟩ : ∃ Z, z i = Z := ⟨_, rfl⟩
          rw [hZ] at hcell hb
          obtain ⟨k, hk, hkz⟩ := low_nat Z 63 hb (by decide)
          have HK := Lib.hid hkz
          clear hZ hkz
          have hBs : B.size = i := by rw [size_list]; exact HN.out.len
          by_cases hi0 : i = 0
          · have q1 : ((i : Int) == 0) = true := beq_iff_eq.2 (by omega)
            obtain ⟨k5, hk5⟩ : ∃ k5 : Nat, (k : Int) % 53 = (k5 : Int) := ⟨k % 53, by omega⟩
            have hk5b : (k5 : Int) < 53 := by omega
            obtain ⟨c, hc1, hc2, hc3⟩ := alpha_ext (k := k5) (by omega)
            have HN2 := Lib.hid (HN.out.app hc1 hc2 (fun _ => hc3 (by omega)))
            clear hc1 hc2 hc3 hi0
            have hov : ¬ 9223372036854775807 < B.size + (min (k5 + 1) 63 - k5) := by omega
            go_wp2_with fail
            refine (low_as Z 63 _ hb (by decide) HK _).mono ?_
            rintro e w1 ⟨rfl, rfl⟩
            go_wp2_with fail
            go_roundg (n - (i + 1))
            case rel => exact ⟨_, i + 1, rfl, by go_num, by omega, rfl, HN2, rfl⟩
            case measure => omega
          · have q1 : ((i : Int) == 0) = false := beq_eq_false_iff_ne.2 (by omega)
            obtain ⟨c, hc1, hc2, hc3⟩ := alpha_ext (k := k) (by omega)
            have HN2 := Lib.hid (HN.out.app hc1 hc2 (fun h => absurd h hi0))
            clear hc1 hc2 hc3 hi0
            have hov : ¬ 9223372036854775807 < B.size + (min (k + 1) 63 - k) := by omega
            go_wp2_with fail
            refine (low_as Z 63 _ hb (by decide) HK _).mono ?_
            rintro e w1 ⟨rfl, rfl⟩
            go_wp2_with fail
            go_roundg (n - (i + 1))
            case rel => exact ⟨_, i + 1, rfl, by go_num, by omega, rfl, HN2, rfl⟩
            case measure => omega
        · obtain rfl : i = n := by omega
          have hBs : B.size = i := by rw [size_list]; exact HN.out.len
          have hlt' : ¬ (i : Int) < (i : Int) := by omega
          have hov1 : ¬ 9223372036854775807 < 1 + B.size := by omega
          have hov2 : ¬ 9223372036854775807 < 1 + B.size + 2 := by omega
          have HNA : Hid (NameAt ((⟨#[32]⟩ : ByteArray) ++ B ++ ⟨#[32, 59]⟩) B.data.toList) := Lib.hid ⟨by simp, by rw [HN.out.len]; omega, HN.out.nam, HN.out.fst (by omega)⟩
          have HTK := Lib.hid (HNA.out.toks (by rw [HN.out.len]; omega) B rfl)
          rw [HN.out.len] at HTK
          obtain ⟨S, hS⟩ : ∃ S, (⟨#[32]⟩ : ByteArray) ++ B ++ ⟨#[32, 59]⟩ = S := ⟨_, rfl⟩
          rw [hS] at HTK
          by_cases h30 : 30 < i
          · have hT : Lx.tokensM S = ⟨[], 6, 1⟩ := by rw [HTK.out, if_pos h30]
            have hW : Lx.wordB B = false := by
              cases hw : Lx.wordB B
              · rfl
              · have := wordB_len hw; omega
            have HT := Lib.hid hT
            have HW := Lib.hid hW
            have h30' : (30 : Int) < (i : Int) := by omega
            clear hT hW h30
            go_wp2_with fail
            refine (tokens_to S [] 6 1 0 [] HT.out rfl rfl w).mono ?_
            rintro e w1 ⟨v, rfl, hown, hb⟩
            have HBW := Lib.hid hb
            have hs1 := hb.size
            clear hb hown
            go_wp2_with fail
            refine (word_as B false HW _).mono ?_
            rintro e w3 ⟨rfl, rfl⟩
            go_wp2_with fail
            refine (awake_true _).mono ?_
            rintro e w2 ⟨rfl, hb2⟩
            have HB2 := Lib.hid hb2
            clear hb2
            go_wp2_with fail
            go_returns
            refine ⟨rb rfl rfl, (HBW.out.alloc hs1 _).trans (HB2.out.mono ?_)⟩
            rw [heap_two]; omega
          · cases hW : Lx.wordB B
            · have HW := Lib.hid hW
              clear hW
              have hT : Lx.tokensM S = ⟨[⟨1, 1, B, ⟨#[]⟩, 0, false⟩, ⟨5, 2 + i, ⟨#[59]⟩, ⟨#[]⟩, 0, false⟩], 0, 0⟩ := by rw [HTK.out, if_neg h30, HW.out]; rfl
              have HT := Lib.hid hT
              have h30' : ¬ (30 : Int) < (i : Int) := by omega
              clear hT h30
              go_wp2_with fail
              refine (tokens_to S _ _ _ 2 [.int .i64 1, .int .i64 1, .string B, .string ⟨#[]⟩, .int .u64 0, .bool false, .int .i64 5, .int .i64 ((2 + i : Nat) : Int), .string ⟨#[59]⟩, .string ⟨#[]⟩, .int .u64 0, .bool false] HT.out rfl rfl w).mono ?_
              rintro e w1 ⟨v, rfl, hown, hb⟩
              obtain ⟨g, capv, rfl, _⟩ := World.ownsRow.form hown (by decide)
              have hcs := hown.cells (g := g) rfl
              have hlg := (hown.lt g rfl).2
              have c0 := hcs 0 _ rfl
              have c1 := hcs 1 _ rfl
              have c2 := hcs 2 _ rfl
              have c3 := hcs 3 _ rfl
              have c4 := hcs 4 _ rfl
              have c5 := hcs 5 _ rfl
              have c7 := hcs 7 _ rfl
              simp [Addr.add] at c0 c1 c2 c3 c4 c5 c7
              have HBW := Lib.hid hb
              have hs1 := hb.size
              have e7 : ((2 + i : Nat) : Int) = (i : Int) + 2 := by omega
              clear hcs hown hb
              have f0 : ∀ o : Obj, (w1.alloc o).cell? ⟨g, 0, none⟩ = some (.int .i64 1) := fun o => by rw [World.cell?_alloc_past _ _ _ hlg]; exact c0
              have f1 : ∀ o : Obj, (w1.alloc o).cell? ⟨g, 1, none⟩ = some (.int .i64 1) := fun o => by rw [World.cell?_alloc_past _ _ _ hlg]; exact c1
              have f2 : ∀ o : Obj, (w1.alloc o).cell? ⟨g, 2, none⟩ = some (.string B) := fun o => by rw [World.cell?_alloc_past _ _ _ hlg]; exact c2
              have f3 : ∀ o : Obj, (w1.alloc o).cell? ⟨g, 3, none⟩ = some (.string ⟨#[]⟩) := fun o => by rw [World.cell?_alloc_past _ _ _ hlg]; exact c3
              have f4 : ∀ o : Obj, (w1.alloc o).cell? ⟨g, 4, none⟩ = some (.int .u64 0) := fun o => by rw [World.cell?_alloc_past _ _ _ hlg]; exact c4
              have f5 : ∀ o : Obj, (w1.alloc o).cell? ⟨g, 5, none⟩ = some (.bool false) := fun o => by rw [World.cell?_alloc_past _ _ _ hlg]; exact c5
              have f7 : ∀ o : Obj, (w1.alloc o).cell? ⟨g, 7, none⟩ = some (.int .i64 ((i : Int) + 2)) := fun o => by rw [World.cell?_alloc_past _ _ _ hlg, c7]; exact congrArg (fun x => some (Value.int .i64 x)) e7
              clear c0 c1 c2 c3 c4 c5 c7 hlg e7
              go_wp2_with fail
              refine (word_as B false HW _).mono ?_
              rintro e w3 ⟨rfl, rfl⟩
              go_wp2_with fail
              refine (awake_true _).mono ?_
              rintro e w2 ⟨rfl, hb2⟩
              have HB2 := Lib.hid hb2
              clear hb2
              go_wp2_with fail
              go_returns
              refine ⟨rb rfl rfl, (HBW.out.alloc hs1 _).trans (HB2.out.mono ?_)⟩
              rw [heap_two]; omega
            · have HW := Lib.hid hW
              clear hW
              have hT : Lx.tokensM S = ⟨[⟨2, 1, B, ⟨#[]⟩, 0, false⟩, ⟨5, 2 + i, ⟨#[59]⟩, ⟨#[]⟩, 0, false⟩], 0, 0⟩ := by rw [HTK.out, if_neg h30, HW.out]; rfl
              have HT := Lib.hid hT
              have h30' : ¬ (30 : Int) < (i : Int) := by omega
              clear hT h30
              go_wp2_with fail
              refine (tokens_to S _ _ _ 2 [.int .i64 2, .int .i64 1, .string B, .string ⟨#[]⟩, .int .u64 0, .bool false, .int .i64 5, .int .i64 ((2 + i : Nat) : Int), .string ⟨#[59]⟩, .string ⟨#[]⟩, .int .u64 0, .bool false] HT.out rfl rfl w).mono ?_
              rintro e w1 ⟨v, rfl, hown, hb⟩
              obtain ⟨g, capv, rfl, _⟩ := World.ownsRow.form hown (by decide)
              have hcs := hown.cells (g := g) rfl
              have hlg := (hown.lt g rfl).2
              have c0 := hcs 0 _ rfl
              have c1 := hcs 1 _ rfl
              have c2 := hcs 2 _ rfl
              have c3 := hcs 3 _ rfl
              have c4 := hcs 4 _ rfl
              have c5 := hcs 5 _ rfl
              have c7 := hcs 7 _ rfl
              simp [Addr.add] at c0 c1 c2 c3 c4 c5 c7
              have HBW := Lib.hid hb
              have hs1 := hb.size
              have e7 : ((2 + i : Nat) : Int) = (i : Int) + 2 := by omega
              clear hcs hown hb
              have f0 : ∀ o : Obj, (w1.alloc o).cell? ⟨g, 0, none⟩ = some (.int .i64 2) := fun o => by rw [World.cell?_alloc_past _ _ _ hlg]; exact c0
              have f1 : ∀ o : Obj, (w1.alloc o).cell? ⟨g, 1, none⟩ = some (.int .i64 1) := fun o => by rw [World.cell?_alloc_past _ _ _ hlg]; exact c1
              have f2 : ∀ o : Obj, (w1.alloc o).cell? ⟨g, 2, none⟩ = some (.string B) := fun o => by rw [World.cell?_alloc_past _ _ _ hlg]; exact c2
              have f3 : ∀ o : Obj, (w1.alloc o).cell? ⟨g, 3, none⟩ = some (.string ⟨#[]⟩) := fun o => by rw [World.cell?_alloc_past _ _ _ hlg]; exact c3
              have f4 : ∀ o : Obj, (w1.alloc o).cell? ⟨g, 4, none⟩ = some (.int .u64 0) := fun o => by rw [World.cell?_alloc_past _ _ _ hlg]; exact c4
              have f5 : ∀ o : Obj, (w1.alloc o).cell? ⟨g, 5, none⟩ = some (.bool false) := fun o => by rw [World.cell?_alloc_past _ _ _ hlg]; exact c5
              have f7 : ∀ o : Obj, (w1.alloc o).cell? ⟨g, 7, none⟩ = some (.int .i64 ((i : Int) + 2)) := fun o => by rw [World.cell?_alloc_past _ _ _ hlg, c7]; exact congrArg (fun x => some (Value.int .i64 x)) e7
              clear c0 c1 c2 c3 c4 c5 c7 hlg e7
              go_wp2_with fail
              refine (word_as B true HW _).mono ?_
              rintro e w3 ⟨rfl, rfl⟩
              go_wp2_with fail
              refine (awake_true _).mono ?_
              rintro e w2 ⟨rfl, hb2⟩
              have HB2 := Lib.hid hb2
              clear hb2
              go_wp2_with fail
              go_returns
              refine ⟨rb rfl rfl, (HBW.out.alloc hs1 _).trans (HB2.out.mono ?_)⟩
              rw [heap_two]; omega
end Go.Proofs.Ytlpoahjgonjelaa
