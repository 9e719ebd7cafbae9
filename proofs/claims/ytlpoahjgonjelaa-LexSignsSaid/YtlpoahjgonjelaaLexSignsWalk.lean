/- The law LexSigns, walked. -/
import Derived.Test.YtlpoahjgonjelaaLexSignsM2
import Derived.Test.YtlpoahjgonjelaaLexSame
import Derived.Test.YtlpoahjgonjelaaLexLow
import Derived.Test.YtlpoahjgonjelaaBaseI
import Derived.Deep.LoopGhost
namespace Go.Proofs.Ytlpoahjgonjelaa
open Go.RowKit
set_option linter.unusedVariables false

theorem quiet_more {P : Program} {f : FuncId} {args : Array Value} {w : World} {a n : Nat} {v : Value} (c : ∀ W : World, Calls P f args W fun e w' => e = .returned v ∧ W = w') :
    Calls P f args (w.drewN (a + n)) fun e w' => e = .returned v ∧ ∃ m, w' = w.drewN (a + m) := (c _).mono fun _ _ ⟨he, hw⟩ => ⟨he, n, hw.symm⟩
def pieceN (z : Nat → Int) (i : Nat) : Nat := (IntKind.u64.wrap (z i) % 16).toNat
def piece (z : Nat → Int) (i : Nat) : List UInt8 := sgs.getD (pieceN z i) []
def Qof (z : Nat → Int) (i : Nat) : List (List UInt8) := (List.range i).map (piece z)
theorem pieceN_lt (z : Nat → Int) (i : Nat) : pieceN z i < 16 := by
  have h1 : 0 ≤ IntKind.u64.wrap (z i) % 16 ∧ IntKind.u64.wrap (z i) % 16 < 16 := ⟨Int.emod_nonneg _ (by decide), Int.emod_lt_of_pos _ (by decide)⟩
  unfold pieceN; omega
theorem pieceN_eq (z : Nat → Int) (i : Nat) : IntKind.u64.wrap (z i) % 16 = (pieceN z i : Int) := by
  have h1 : 0 ≤ IntKind.u64.wrap (z i) % 16 := Int.emod_nonneg _ (by decide)
  unfold pieceN; omega
theorem piece_mem (z : Nat → Int) (i : Nat) : piece z i ∈ sgs := by
  have h : pieceN z i < sgs.length := pieceN_lt z i
  unfold piece
  rw [List.getD_eq_getElem?_getD, List.getElem?_eq_getElem h]
  exact List.getElem_mem h
theorem Qof_succ (z : Nat → Int) (i : Nat) : Qof z (i + 1) = Qof z i ++ [piece z i] := by unfold Qof; rw [List.range_succ, List.map_append]; rfl
theorem Qof_mem (z : Nat → Int) (i : Nat) : ∀ q ∈ Qof z i, q ∈ sgs := fun q hq => by
  obtain ⟨k, _, rfl⟩ := List.mem_map.1 hq
  exact piece_mem z k
theorem Qof_len (z : Nat → Int) (i : Nat) : (Qof z i).length = i := by unfold Qof; simp
theorem Qof_get (z : Nat → Int) (n k : Nat) (h : k < n) : (Qof z n)[k]? = some (piece z k) := by unfold Qof; simp [h]
theorem loose_snoc (Q : List (List UInt8)) (q : List UInt8) : loose (Q ++ [q]) = loose Q ++ q ++ [32] := by unfold loose; rw [List.flatMap_append]; simp
def sgRow : List Value := [.string ⟨#[60]⟩, .string ⟨#[61]⟩, .string ⟨#[62]⟩, .string ⟨#[38]⟩, .string ⟨#[124]⟩, .string ⟨#[45]⟩, .string ⟨#[43]⟩, .string ⟨#[33]⟩, .string ⟨#[60, 60]⟩, .string ⟨#[62, 61]⟩, .string ⟨#[45, 62]⟩, .string ⟨#[38, 38]⟩, .string ⟨#[40]⟩, .string ⟨#[91]⟩, .string ⟨#[59]⟩, .string ⟨#[126]⟩]
theorem sgRow_cell (w : World) (T : TypeId) {k : Nat} (hk : k < 16) : ∃ a : ByteArray, (w.alloc (.cells sgRow.toArray T)).cell? ⟨w.heap.size, k, none⟩ = some (.string a) ∧ a.data.toList = sgs.getD k [] := by
  rw [World.cell?_alloc_at _ _ _ _ rfl]
  match k, hk with
  | 0, _ => exact ⟨_, rfl, rfl⟩
  | 1, _ => exact ⟨_, rfl, rfl⟩
  | 2, _ => exact ⟨_, rfl, rfl⟩
  | 3, _ => exact ⟨_, rfl, rfl⟩
  | 4, _ => exact ⟨_, rfl, rfl⟩
  | 5, _ => exact ⟨_, rfl, rfl⟩
  | 6, _ => exact ⟨_, rfl, rfl⟩
  | 7, _ => exact ⟨_, rfl, rfl⟩
  | 8, _ => exact ⟨_, rfl, rfl⟩
  | 9, _ => exact ⟨_, rfl, rfl⟩
  | 10, _ => exact ⟨_, rfl, rfl⟩
  | 11, _ => exact ⟨_, rfl, rfl⟩
  | 12, _ => exact ⟨_, rfl, rfl⟩
  | 13, _ => exact ⟨_, rfl, rfl⟩
  | 14, _ => exact ⟨_, rfl, rfl⟩
  | 15, _ => exact ⟨_, rfl, rfl⟩
  | n + 16, h => exact absurd h (by omega)
theorem sgs_sz (q : List UInt8) (h : q ∈ sgs) : q.length ≤ 2 := by have := (sgs_all q h).1; omega
/-- What the first loop has laid side by side. -/
structure Laid2 (z : Nat → Int) (i : Nat) (T L : ByteArray) : Prop where
  t : T.data.toList = (Qof z i).flatten
  l : L.data.toList = loose (Qof z i)
  ts : T.size ≤ 2 * i
  ls : L.size ≤ 3 * i
theorem Laid2.next {z : Nat → Int} {i : Nat} {T L a : ByteArray} (h : Laid2 z i T L) (ha : a.data.toList = piece z i) : Laid2 z (i + 1) (T ++ a) (L ++ a ++ ⟨#[32]⟩) := by
  have hs : a.size ≤ 2 := by rw [size_list, ha]; exact sgs_sz _ (piece_mem z i)
  have h1 := h.ts
  have h2 := h.ls
  refine ⟨?_, ?_, ?_, ?_⟩
  · rw [Qof_succ, List.flatten_append, ← h.t]; simp [ha]
  · rw [Qof_succ, loose_snoc, ← h.l]; simp [ha]
  · rw [ByteArray.size_append]; omega
  · rw [ByteArray.size_append, ByteArray.size_append]; have : (⟨#[32]⟩ : ByteArray).size = 1 := rfl; omega
set_option maxRecDepth 100000 in
set_option maxHeartbeats 4000000 in
theorem lexSigns_walk (a : Option Addr) (n cap : Nat) (z : Nat → Int) (w : World) (hI : IntsIn w a n z) : Calls Try.prog 6 #[.slice a n cap] w fun e w' => e = .returned (.bool true) ∧ Below w.heap.size w w' := by
  by_cases h12 : 12 < n
  · have h12' : (12 : Int) < (n : Int) := by omega
    clear hI
    go_enter Try.func6, Try.ntmps6
    go_wp2_with fail
    refine (awake_true w).mono ?_
    rintro e w1 ⟨rfl, hb⟩
    have HB := Lib.hid hb
    clear hb
    go_wp2_with fail
    go_returns
    exact ⟨rb rfl rfl, HB.out⟩
  · have h12' : ¬ (12 : Int) < (n : Int) := by omega
    have hw1 : ∃ W1, w.alloc (.cells sgRow.toArray 9) = W1 := ⟨_, rfl⟩
    obtain ⟨W1, hW1⟩ := hw1
    have HW1 := Lib.hid hW1
    have hlit : sgRow.toArray = #[.string ⟨#[60]⟩, .string ⟨#[61]⟩, .string ⟨#[62]⟩, .string ⟨#[38]⟩, .string ⟨#[124]⟩, .string ⟨#[45]⟩, .string ⟨#[43]⟩, .string ⟨#[33]⟩, .string ⟨#[60, 60]⟩, .string ⟨#[62, 61]⟩, .string ⟨#[45, 62]⟩, .string ⟨#[38, 38]⟩, .string ⟨#[40]⟩, .string ⟨#[91]⟩, .string ⟨#[59]⟩, .string ⟨#[126]⟩] := rfl
    rw [hlit] at hW1
    have HI := Lib.hid hI
    have ex : ∃ b off, (0 < n → a = some ⟨b, off, none⟩ ∧ ∀ i, i < n → w.cell? ⟨b, off + i, none⟩ = some (.int .i64 (z i))) := by
      by_cases h0 : 0 < n
      · obtain ⟨b, off, h1, h2⟩ := hI.at_ h0; exact ⟨b, off, fun _ => ⟨h1, h2⟩⟩
      · exact ⟨0, 0, fun h => absurd h h0⟩
    obtain ⟨b, off, hc⟩ := ex
    have HC := Lib.hid hc
    clear hc hI hlit
    go_enter Try.func6, Try.ntmps6
    go_wp2_with fail
    clear hW1
    go_loopg [4, 5, 6] n (fun g x y v wr => ∃ (T L : ByteArray) (i : Nat), x = .string T ∧ y = .string L ∧ v = .int .i64 (i : Int) ∧ i ≤ n ∧ g = n - i ∧ Hid (Laid2 z i T L) ∧ W1 = wr)
    case atStart => exact ⟨⟨#[]⟩, ⟨#[]⟩, 0, rfl, rfl, rfl, by omega, rfl, Lib.hid ⟨rfl, rfl, by decide, by decide⟩, rfl⟩
    case round =>
      obtain ⟨T, L, i, rfl, rfl, rfl, hi, hg, HL, rfl⟩ := hrel
      by_cases hlt : i < n
      · have hlt' : (i : Int) < (n : Int) := by omega
        obtain ⟨ha, hcs⟩ := HC.out (by omega)
        subst ha
        have hcell0 := hcs i hlt
        have hbd := HI.out.bd i hlt
        have hcell : W1.cell? ⟨b, off + i, none⟩ = some (.int .i64 (z i)) := by
          rw [← HW1.out]
          rw [World.cell?_alloc_past _ _ _ (block_lt_of_cell hcell0)]; exact hcell0
        obtain ⟨ar, har1, har2⟩ := sgRow_cell w 9 (pieceN_lt z i)
        rw [HW1.out] at har1
        have HK := Lib.hid (pieceN_eq z i)
        have hk16 := pieceN_lt z i
        have hsz : ar.size ≤ 2 := by rw [size_list, har2]; exact sgs_sz _ (piece_mem z i)
        have HL2 := Lib.hid (HL.out.next har2)
        obtain ⟨Z, hZ⟩ : ∃ Z, z i = Z := ⟨_, rfl⟩
        obtain ⟨k, hk⟩ : ∃ k, pieceN z i = k := ⟨_, rfl⟩
        have hts := HL.out.ts
        have hls := HL.out.ls
        rw [hZ] at hcell hbd HK
        rw [hk] at har1 HK hk16
        have hk16' : (k : Int) < 16 := by omega
        have ov1 : ¬ 9223372036854775807 < T.size + ar.size := by omega
        have ov2 : ¬ 9223372036854775807 < L.size + ar.size := by omega
        have ov3 : ¬ 9223372036854775807 < L.size + ar.size + 1 := by omega
        clear hcs hcell0 hZ hk har2 hts hls
        go_wp2_with fail
        refine (low_as Z 16 _ hbd (by decide) HK _).mono ?_
        rintro e w1 ⟨rfl, rfl⟩
        go_wp2_with fail
        refine (low_as Z 16 _ hbd (by decide) HK _).mono ?_
        rintro e w1 ⟨rfl, rfl⟩
        go_wp2_with fail
        go_roundg (n - (i + 1))
        case rel => exact ⟨_, _, i + 1, rfl, rfl, by go_num, by omega, rfl, HL2, rfl⟩
        case measure => omega
      · obtain rfl : i = n := by omega
        have hlt' : ¬ (i : Int) < (i : Int) := by omega
        obtain ⟨A, hA1, hA2, hA3, hA4⟩ := tight_tokens T (Qof z i) (Qof_mem z i) (by rw [Qof_len]; omega) HL.out.t
        obtain ⟨B, hB1, hB2⟩ := loose_tokens L (Qof z i) (Qof_mem z i) (by rw [Qof_len]; omega) HL.out.l
        have hBl : B.length = i := by rw [← Qof_len z i, ← hB2, List.length_map]
        rw [Qof_len] at hA2
        have HA1 := Lib.hid hA1
        have HB1 := Lib.hid hB1
        have HA3 := Lib.hid hA3
        have HA4 := Lib.hid hA4
        have HB2 := Lib.hid hB2
        have hts := HL.out.ts
        clear hA1 hB1 hA3 hA4 hB2
        have hsz1 : W1.heap.size = w.heap.size + 1 := by rw [← HW1.out]; exact heap_two _ _
        go_wp2_with fail
        refine (tokens_to T A 0 0 A.length (Lx.rowOf A) HA1.out rfl rfl W1).mono ?_
        rintro e w2 ⟨va, rfl, hown, hb⟩
        have HOA := Lib.hid hown
        have HBA := Lib.hid hb
        clear hown hb
        go_wp2_with fail
        refine (tokens_to L B 0 0 i (Lx.rowOf B) HB1.out hBl rfl _).mono ?_
        rintro e w3 ⟨vb, rfl, hown, hb⟩
        have HOB := Lib.hid hown
        have HBB := Lib.hid hb
        clear hown hb
        have hs2 := HBA.out.size
        have hs3 := HBB.out.size
        rw [heap_two] at hs3
        have HBW1 : Hid (Below W1.heap.size W1 (w3.alloc (.cells #[.int .i64 0, .int .i64 0] 26))) :=
          Lib.hid (((HBA.out.alloc hs2 _).trans (HBB.out.mono (by rw [heap_two]; omega))).alloc (by omega) _)
        have HOA3 : Hid ((w3.alloc (.cells #[.int .i64 0, .int .i64 0] 26)).ownsRow W1.heap.size 33 6 va A.length (Lx.rowOf A)) :=
          Lib.hid ((own_to (own_to HOA.out ((Below.refl _ w2).alloc (Nat.le_refl _) _)) HBB.out).alloc _)
        have HOB3 : Hid ((w3.alloc (.cells #[.int .i64 0, .int .i64 0] 26)).ownsRow (w2.alloc (.cells #[.int .i64 0, .int .i64 0] 26)).heap.size 33 6 vb i (Lx.rowOf B)) := Lib.hid (HOB.out.alloc _)
        have hx : (w3.alloc (.cells #[.int .i64 0, .int .i64 0] 26)).heap[w2.heap.size]? = some (.cells #[.int .i64 0, .int .i64 0] 26 (0, 0)) :=
          (Below.heap_alloc _ _ _ (by omega)).trans ((HBB.out.block _ (by rw [heap_two]; omega)).trans (heap_alloc_new w2 _))
        have hy : (w3.alloc (.cells #[.int .i64 0, .int .i64 0] 26)).heap[w3.heap.size]? = some (.cells #[.int .i64 0, .int .i64 0] 26 (0, 0)) := heap_alloc_new w3 _
        have hz3 : (w3.alloc (.cells #[.int .i64 0, .int .i64 0] 26)).heap.size = w3.heap.size + 1 := heap_two _ _
        have hBW : Below w.heap.size w W1 := by rw [← HW1.out]; exact (Below.refl _ _).alloc (Nat.le_refl _) _
        have HBW := Lib.hid (hBW.trans (HBW1.out.mono (by omega)))
        have x0 : (w3.alloc (.cells #[.int .i64 0, .int .i64 0] 26)).cell? ⟨w2.heap.size, 0, none⟩ = some (.int .i64 0) := by simp [World.cell?, hx]
        obtain ⟨W3, hW3⟩ : ∃ W3, w3.alloc (.cells #[.int .i64 0, .int .i64 0] 26) = W3 := ⟨_, rfl⟩
        rw [hW3] at HBW1 HOA3 HOB3 hz3 HBW
        have HW3 := Lib.hid hW3
        clear hW3
        have HZ3 := Lib.hid (show w.heap.size ≤ W3.heap.size by omega)
        have fmA : ∃ aa ca, va = .slice aa A.length ca ∧ (0 < A.length → ∃ g, aa = some ⟨g, 0, none⟩) := by
          rcases HOA3.out.2 with ⟨h1, h2⟩ | ⟨g, cap, cur, h1, _⟩
          · exact ⟨none, 0, by rw [h2]; exact h1, fun h => by omega⟩
          · exact ⟨_, _, h1, fun _ => ⟨g, rfl⟩⟩
        have fmB : ∃ aa ca, vb = .slice aa i ca ∧ (0 < i → ∃ g, aa = some ⟨g, 0, none⟩) := by
          rcases HOB3.out.2 with ⟨h1, h2⟩ | ⟨g, cap, cur, h1, _⟩
          · exact ⟨none, 0, by rw [h2]; exact h1, fun h => by omega⟩
          · exact ⟨_, _, h1, fun _ => ⟨g, rfl⟩⟩
        obtain ⟨aa, ca, rfl, pa⟩ := fmA
        obtain ⟨ab, cb, rfl, pb⟩ := fmB
        have PA := Lib.hid pa
        have PB := Lib.hid pb
        obtain ⟨nA, hnA⟩ : ∃ nA, A.length = nA := ⟨_, rfl⟩
        rw [hnA] at HOA3 PA hA2
        have HNA := Lib.hid hnA
        rw [hnA]
        have hle : ¬ (i : Int) < (nA : Int) := by omega
        have HHB := Lib.hid hBl
        have HTS := Lib.hid hts
        clear hs2 hs3 hx hy hz3 hBW pa pb hnA hBl hts HOA HOB HBA HBB hsz1
        go_wp2_with fail
        rw [HW3.out]
        clear x0 hle
        go_loopg [11, 12] nA (fun g x y wr => ∃ (S : ByteArray) (k : Nat), x = .string S ∧ y = .int .i64 (k : Int) ∧ k ≤ nA ∧ g = nA - k ∧ Hid (S.data.toList = (A.take k).flatMap (fun t => t.text.data.toList)) ∧ W3 = wr)
        case atStart => exact ⟨⟨#[]⟩, 0, rfl, rfl, by omega, rfl, Lib.hid rfl, rfl⟩
        case round =>
          obtain ⟨S, k, rfl, rfl, hk, hg, HS, rfl⟩ := hrel
          by_cases hlk : k < nA
          · obtain ⟨ga, rfl⟩ := PA.out (by omega)
            obtain ⟨t, ht⟩ : ∃ t, A[k]? = some t := ⟨_, List.getElem?_eq_getElem (by rw [HNA.out]; exact hlk)⟩
            have HA2 := HOA3.out
            rw [← HNA.out] at HA2
            obtain ⟨a0, a1, a2, a3, a4, a5⟩ := row_cells HA2 ht
            have hk5 := HA3.out t (List.mem_of_getElem? ht)
            rw [hk5] at a0
            have HS2 : Hid ((S ++ t.text).data.toList = (A.take (k + 1)).flatMap (fun t => t.text.data.toList)) := by
              refine Lib.hid ?_
              rw [List.take_add_one, ht, List.flatMap_append, ← HS.out]; simp
            have hSsz : (S ++ t.text).size ≤ 24 := by
              rw [size_list, HS2.out]
              have e : (A.flatMap (fun t => t.text.data.toList)).length ≤ 24 := by rw [HA4.out, ← size_list]; have := HTS.out; omega
              have e2 := congrArg List.length (congrArg (List.flatMap (fun t : Lx.Tk => t.text.data.toList)) (List.take_append_drop (k + 1) A))
              rw [List.flatMap_append, List.length_append] at e2
              omega
            rw [ByteArray.size_append] at hSsz
            have ov : ¬ 9223372036854775807 < S.size + t.text.size := by omega
            have hlk' : (k : Int) < (nA : Int) := by omega
            have k0 : (0 : Int) ≤ (k : Int) := by omega
            clear HA2 ht a1 a3 a4 a5 hk5 hSsz
            go_wp2_with fail
            go_roundg (nA - (k + 1))
            case rel => exact ⟨_, k + 1, rfl, by go_num, by omega, rfl, HS2, rfl⟩
            case measure => omega
          · obtain rfl : k = nA := by omega
            have hlk' : ¬ (k : Int) < (k : Int) := by omega
            have HSE : Hid (S.toList = T.toList) := by
              refine Lib.hid ?_
              rw [ByteArray.toList_eq, ByteArray.toList_eq, HS.out, List.take_of_length_le (by rw [HNA.out]; exact Nat.le_refl _), HA4.out]
            clear HS
            go_wp2_with fail
            go_loopg [13] i (fun g v wr => ∃ j m : Nat, v = .int .i64 (j : Int) ∧ j ≤ i ∧ g = i - j ∧ W3.drewN m = wr)
            case atStart => exact ⟨0, 0, rfl, by omega, rfl, rfl⟩
            case round =>
              obtain ⟨j, m, rfl, hj, hg3, rfl⟩ := hrel
              by_cases hlj : j < i
              · obtain ⟨gb, rfl⟩ := PB.out (by omega)
                obtain ⟨t, ht⟩ : ∃ t, B[j]? = some t := ⟨_, List.getElem?_eq_getElem (by rw [HHB.out]; exact hlj)⟩
                have HBo := HOB3.out
                have ebl := HHB.out
                have htx : t.text.data.toList = piece z j := by
                  have e := congrArg (fun l => l[j]?) HB2.out
                  rw [List.getElem?_map, ht, Qof_get z i j hlj] at e
                  simpa using e
                obtain ⟨b0, b1, b2, b3, b4, b5⟩ := row_cells (w := W3) (l := B) (B := (w2.alloc (.cells #[.int .i64 0, .int .i64 0] 26)).heap.size) (cap := cb) (by rw [HHB.out]; exact HOB3.out) ht
                obtain ⟨ha, hcs⟩ := HC.out (by omega)
                subst ha
                have hcell0 := hcs j hlj
                have hbd := HI.out.bd j hlj
                have hcell1 : W1.cell? ⟨b, off + j, none⟩ = some (.int .i64 (z j)) := by
                  rw [← HW1.out]
                  rw [World.cell?_alloc_past _ _ _ (block_lt_of_cell hcell0)]; exact hcell0
                have hcell : W3.cell? ⟨b, off + j, none⟩ = some (.int .i64 (z j)) := (HBW1.out.cell (p := ⟨b, off + j, none⟩) (block_lt_of_cell hcell1)).trans hcell1
                obtain ⟨ar, har1, har2⟩ := sgRow_cell w 9 (pieceN_lt z j)
                rw [HW1.out] at har1
                have harc : W3.cell? ⟨w.heap.size, pieceN z j, none⟩ = some (.string ar) := (HBW1.out.cell (p := ⟨w.heap.size, pieceN z j, none⟩) (block_lt_of_cell har1)).trans har1
                have hne : (t.text.toList == ar.toList) = true := by
                  rw [ByteArray.toList_eq, ByteArray.toList_eq, htx, har2]
                  exact beq_iff_eq.2 rfl
                have HK := Lib.hid (pieceN_eq z j)
                have hk16 := pieceN_lt z j
                obtain ⟨Z, hZ⟩ : ∃ Z, z j = Z := ⟨_, rfl⟩
                obtain ⟨k2, hk2⟩ : ∃ k, pieceN z j = k := ⟨_, rfl⟩
                rw [hZ] at hcell hbd HK
                rw [hk2] at harc HK hk16
                have hk16' : (k2 : Int) < 16 := by omega
                have hlj' : (j : Int) < (i : Int) := by omega
                have j0 : (0 : Int) ≤ (j : Int) := by omega
                have k20 : (0 : Int) ≤ (k2 : Int) := by omega
                clear HBo ebl htx b0 b1 b3 b4 b5 hcs hcell0 hcell1 har1 har2 hZ hk2 ht
                go_wp2_with fail
                go_quiet ((go_at_call 14; exact quiet_more (fun W => low_as Z 16 _ hbd (by decide) HK W)))
                go_wp2_with fail
                go_roundg (i - (j + 1))
                case rel => exact ⟨j + 1, _, by go_num, by omega, rfl, rfl⟩
                case measure => omega
              · obtain rfl : j = i := by omega
                have hlj' : ¬ (j : Int) < (j : Int) := by omega
                have hse : S.toList = T.toList := HSE.out
                go_wp2_with fail
                refine (awake_true _).mono ?_
                rintro e w6 ⟨rfl, hb6⟩
                have HB6 := Lib.hid hb6
                clear hb6 hse
                go_wp2_with fail
                go_returns
                refine ⟨rb rfl rfl, ?_⟩
                have h6 : Below w.heap.size (W3.drewN m) w6 := HB6.out.mono HZ3.out
                exact (below_drewN HBW.out m).trans h6
end Go.Proofs.Ytlpoahjgonjelaa
