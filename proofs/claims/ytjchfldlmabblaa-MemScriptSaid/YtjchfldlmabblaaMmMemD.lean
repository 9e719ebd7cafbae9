/- The memory: Add. -/
import Derived.Test.YtjchfldlmabblaaMmMemC
import Derived.Deep.LoopGhost
namespace Go.Proofs.Ytjchfldlmabblaa
open Go.RowKit Go.Maps
set_option linter.unusedVariables false

/-- What Add makes of the cells that it is told: no place twice. -/
def addM : List Ck → List (Int × Int) → List (Ck × Int) → List (Ck × Int)
  | [], _, cl => cl
  | c :: l, pl, cl => if (kget pl c.1).getD 0 = 0 then addM l (kput pl c.1 1) (kput cl c 1) else addM l pl cl
/-- A row of cells. -/
structure CellsIn (W : World) (a : Option Addr) (n : Nat) (l : List Ck) : Prop where
  len : l.length = n
  bd : ∀ c ∈ l, ckOk c
  at_ : 0 < n → ∃ b off, a = some ⟨b, off, none⟩ ∧ ∀ i c, l[i]? = some c → W.cell? ⟨b, off + i * 2, none⟩ = some (.int .i64 c.1) ∧ W.cell? ⟨b, off + i * 2 + 1, none⟩ = some (.string c.2)
theorem Made.on {w W w' : World} {S S' : Sd} {V : View} {n : Nat} {E : Nat → Prop} (h : Made W S V n w' S' E) (hk : Keeps No w W) (hE : ∀ a, E a → w.heap.size ≤ a) : Made w S V n w' S' (fun _ => False) :=
  ⟨h.st, h.s, h.made, h.v, fun a ha => by rcases h.has a ha with e | e | e; exact .inl e; exact .inr (.inr (hE a e)); exact .inr (.inr (Nat.le_trans hk.size e)), (hk.mono (T := S.has) (fun _ _ e => e.elim)).trans h.k (fun _ _ e => e)⟩
theorem MemAs.made {w w' : World} {m n : Nat} {S S' : Sd} {V : View} (h : MemAs w m S) (hW : Made w S V n w' S' (fun _ => False)) : MemAs w' m S' :=
  ⟨by rw [hW.s]; exact (hW.k.block _ h.lt h.out).trans h.a, hW.st, fun e => by rcases hW.has _ e with e | e | e; exact h.out e; exact e; have := h.lt; omega⟩
set_option maxRecDepth 100000 in
set_option maxHeartbeats 4000000 in
theorem madd_any (m : Nat) (S : Sd) (z : Int) (a : Option Addr) (n cap : Nat) (l : List Ck) (w : World) (h : MemAs w m S) (hz : I64 z) (hl : CellsIn w a n l) (hn : n ≤ 1000) (hmade : S.made < 1000000) :
    Calls Try.prog 9 #[.pointer (some ⟨m, 0, none⟩), .int .i64 z, .slice a n cap] w fun e w' => e = .returned (.int .i64 ((S.made : Int) + 1)) ∧ ∃ S', Made w S (setV S.view ((S.made : Int) + 1) (newV z (addM l [] []))) (S.made + 1) w' S' (fun _ => False) := by
  have H0 := Lib.hid (fun W hk => mnone_as m S w W h hk)
  have HH := Lib.hid h
  have HL := Lib.hid hl
  have hc := h.c
  have hmm := @run_makeMap Try.prog
  clear h hl
  go_enter Try.func9, Try.ntmps9
  go_wp2_with fail
  refine (H0.out _ (by repeat (first | with_reducible exact Keeps.refl _ _ | with_reducible refine Keeps.alloc ?_ _ | with_reducible refine Keeps.drewN ?_ _ | with_reducible refine Keeps.drew ?_ | with_reducible refine Keeps.setCell ?_ (.inr (by simp)) _ | with_reducible refine Keeps.setRow ?_ (by simp) _))).mono ?_
  rintro e w1 ⟨rfl, rfl⟩
  go_wp2_with fail
  obtain ⟨B, hB⟩ : ∃ B, w1.heap.size = B := ⟨_, rfl⟩
  have hB1 : ((w1.alloc (.map #[] 0)).alloc (.cells #[.map (some B)] 76)).heap.size = B + 1 + 1 := by simp [hB]
  have s1 : MapK mapCI (((w1.alloc (.map #[] 0)).alloc (.cells #[.map (some B)] 76)).alloc (.map #[] 0)) B [] := by rw [← hB]; exact ((MapK.made w1).alloc _).alloc _
  have s2 : MapK mapII (((w1.alloc (.map #[] 0)).alloc (.cells #[.map (some B)] 76)).alloc (.map #[] 0)) (B + 1 + 1) [] := by have e := MapK.made (M := mapII) ((w1.alloc (.map #[] 0)).alloc (.cells #[.map (some B)] 76)); rw [hB1] at e; exact e
  have s3 : (((w1.alloc (.map #[] 0)).alloc (.cells #[.map (some B)] 76)).alloc (.map #[] 0)).heap[B + 1]? = some (.cells #[.map (some B)] 76 (0, 0)) := by
    have e := heap_alloc_new (w1.alloc (.map #[] 0)) (.cells #[.map (some B)] 76)
    rw [heap_two, hB] at e
    exact (Below.heap_alloc _ _ _ (by rw [hB1]; omega)).trans e
  have S1 := Lib.hid s1
  have S2 := Lib.hid s2
  have S3 := Lib.hid s3
  have HB := Lib.hid hB
  rw [hB]
  clear s1 s2 s3 hB hB1
  go_loopg [18] n (fun g v wr => ∃ (i : Nat) (pl : List (Int × Int)) (cl : List (Ck × Int)), v = .int .i64 (i : Int) ∧ i ≤ n ∧ g = n - i ∧ Hid (addM l [] [] = addM (l.drop i) pl cl) ∧ pl.length ≤ i ∧ cl.length ≤ i ∧ Hid (MapK mapII wr (B + 1 + 1) pl) ∧ Hid (MapK mapCI wr B cl) ∧ Hid (wr.heap[B + 1]? = some (.cells #[.map (some B)] 76 (0, 0))) ∧ Hid (Keeps No w1 wr))
  case atStart => exact ⟨0, [], [], rfl, Nat.zero_le _, rfl, Lib.hid rfl, Nat.zero_le _, Nat.zero_le _, S2, S1, S3, Lib.hid (by repeat (first | with_reducible exact Keeps.refl _ _ | with_reducible refine Keeps.alloc ?_ _ | with_reducible refine Keeps.drewN ?_ _ | with_reducible refine Keeps.drew ?_ | with_reducible refine Keeps.setCell ?_ (.inr (by simp)) _ | with_reducible refine Keeps.setRow ?_ (by simp) _))⟩
  case round =>
    obtain ⟨i, pl, cl, rfl, hi, hg, HX, hpl, hcl, HP, HC, HS, HK⟩ := hrel
    clear S1 S2 S3 H0
    by_cases hlt : i < n
    · obtain ⟨b, off, rfl, hcs⟩ := HL.out.at_ (by omega)
      obtain ⟨c, hci⟩ : ∃ c, l[i]? = some c := ⟨_, List.getElem?_eq_getElem (by rw [HL.out.len]; exact hlt)⟩
      obtain ⟨b1, b2⟩ := HL.out.bd c (List.mem_of_getElem? hci)
      obtain ⟨k1, k2⟩ := hcs i c hci
      have k1 := HK.out.cell k1
      have k2 := HK.out.cell k2
      have hdrop : l.drop i = c :: l.drop (i + 1) := by rw [List.getElem?_eq_some_iff] at hci; obtain ⟨h1, h2⟩ := hci; rw [← h2]; exact List.drop_eq_getElem_cons h1
      have HX2 : Hid (addM l [] [] = if (kget pl c.1).getD 0 = 0 then addM (l.drop (i + 1)) (kput pl c.1 1) (kput cl c 1) else addM (l.drop (i + 1)) pl cl) := Lib.hid (by rw [HX.out, hdrop]; rfl)
      obtain ⟨A, T⟩ := c
      simp only at b1 b2 k1 k2 HX2
      have hl : ∀ o, (Instr.lookup 77 (.map (some (B + 1 + 1))) (.int .i64 A) false).run Try.prog (wr.alloc o) = .ok (.int .i64 ((kget pl A).getD 0)) (wr.alloc o) := fun o => look_int (HP.out.alloc o) b1
      obtain ⟨Q, hQ⟩ : ∃ Q, (kget pl A).getD 0 = Q := ⟨_, rfl⟩
      rw [hQ] at HX2
      simp only [hQ] at hl
      have hlt' : (i : Int) < (n : Int) := by omega
      have i0 : (0 : Int) ≤ (i : Int) := by omega
      have hsz := HP.out.lt
      have hBW : B + 1 + 1 < wr.heap.size := hsz
      clear hcs hci HX hdrop hQ
      by_cases hq : Q = 0
      · have HX3 : Hid (addM l [] [] = addM (l.drop (i + 1)) (kput pl A 1) (kput cl (A, T) 1)) := Lib.hid (by rw [HX2.out, if_pos hq])
        have hap := kput_le pl A (1 : Int)
        have hac := kput_le cl (A, T) (1 : Int)
        have z0 : ∀ o, (wr.alloc o).cell? ⟨B + 1, 0, none⟩ = some (.map (some B)) := fun o => (KW.mk (w0 := wr) (wr.alloc o) (by repeat (first | with_reducible exact Keeps.refl _ _ | with_reducible refine Keeps.alloc ?_ _ | with_reducible refine Keeps.drewN ?_ _ | with_reducible refine Keeps.drew ?_ | with_reducible refine Keeps.setCell ?_ (.inr (by simp)) _ | with_reducible refine Keeps.setRow ?_ (by simp) _))).cell (by simp [World.cell?, HS.out])
        clear HX2
        subst hq
        go_wp2_with (at_mapUpdate; refine wpList_putK mapII _ rfl _ _ _ rfl (B + 1 + 1) pl A 1 rfl (HP.out.alloc _) (by unfold maxLen; omega) rfl rfl b1 (show I64 1 by unfold I64; omega) ?_)
        intro w2 hA1 ht1
        have hg1 := ht1.grown
        have kb : ∀ q, q < wr.heap.size + 1 → q ≠ B + 1 + 1 → w2.heap[q]? = (wr.alloc (.cells #[.int .i64 A, .string T] 35)).heap[q]? := fun q hq hne => hg1.block q (by simpa using hq) (fun e => hne (by injection e))
        have c2 : w2.heap[wr.heap.size]? = some (.cells #[.int .i64 A, .string T] 35 (0, 0)) := (kb _ (by omega) (by omega)).trans (heap_alloc_new wr _)
        have l2 : w2.heap[B + 1]? = some (.cells #[.map (some B)] 76 (0, 0)) := (kb _ (by omega) (by omega)).trans ((Below.heap_alloc _ _ _ (by omega)).trans HS.out)
        have y0 : w2.cell? ⟨B + 1, 0, none⟩ = some (.map (some B)) := by simp [World.cell?, l2]
        have y1 : w2.cell? ⟨wr.heap.size, 0, none⟩ = some (.int .i64 A) := by simp [World.cell?, c2]
        have y2 : w2.cell? ⟨wr.heap.size, 1, none⟩ = some (.string T) := by simp [World.cell?, c2]
        have HC2 : Hid (MapK mapCI w2 B cl) := Lib.hid ((HC.out.alloc (.cells #[.int .i64 A, .string T] 35)).block (kb _ (by omega) (by omega)))
        have HP2 := Lib.hid hA1
        have HL2 := Lib.hid l2
        have hge : w1.heap.size ≤ B + 1 + 1 := by have := HB.out; omega
        have HK2 : Hid (Keeps No w1 w2) := Lib.hid (Keeps.tr_new (HK.out.alloc (.cells #[.int .i64 A, .string T] 35)) hg1 hge)
        have hsz2 : wr.heap.size < w2.heap.size := (Array.getElem?_eq_some_iff.1 c2).1
        clear kb c2 l2 hA1 hg1 ht1 hge k1 k2 z0
        go_wp2_with (at_mapUpdate; refine wpList_putK mapCI _ rfl _ _ _ rfl B cl (A, T) 1 rfl HC2.out (by unfold maxLen; omega) rfl rfl ⟨b1, b2⟩ (show I64 1 by unfold I64; omega) ?_)
        intro w3 hA2 ht2
        have hg2 := ht2.grown
        have HC3 := Lib.hid hA2
        have HP3 : Hid (MapK mapII w3 (B + 1 + 1) (kput pl A 1)) := Lib.hid (HP2.out.block (hg2.block _ (by omega) (fun e => by injection e; omega)))
        have HL3 : Hid (w3.heap[B + 1]? = some (.cells #[.map (some B)] 76 (0, 0))) := Lib.hid ((hg2.block _ (by omega) (fun e => by injection e; omega)).trans HL2.out)
        have HK3 : Hid (Keeps No w1 w3) := Lib.hid (Keeps.tr_new HK2.out hg2 (by have := HB.out; omega))
        clear hA2 hg2 ht2 y0 y1 y2
        go_wp2_with fail
        go_roundg (n - (i + 1))
        case rel => exact ⟨i + 1, _, _, by go_num, by omega, rfl, HX3, by omega, by omega, HP3, HC3, HL3, HK3⟩
        case measure => omega
      · have HX3 : Hid (addM l [] [] = addM (l.drop (i + 1)) pl cl) := Lib.hid (by rw [HX2.out, if_neg hq])
        have h3' : (Q == 0) = false := beq_eq_false_iff_ne.2 hq
        clear HX2
        go_wp2_with fail
        go_roundg (n - (i + 1))
        case rel => exact ⟨i + 1, pl, cl, by go_num, by omega, rfl, HX3, by omega, by omega, Lib.hid (HP.out.alloc _), Lib.hid (HC.out.alloc _), Lib.hid ((Below.heap_alloc _ _ _ (by omega)).trans HS.out), Lib.hid (HK.out.alloc _)⟩
        case measure => omega
    · obtain rfl : i = n := by omega
      have HX3 : Hid (addM l [] [] = cl) := Lib.hid (by rw [HX.out, List.drop_of_length_le (by rw [HL.out.len]; exact Nat.le_refl _)]; rfl)
      have hlt' : ¬ (i : Int) < (i : Int) := by omega
      clear HX
      have hc2 := HK.out.cell hc
      have y0 : wr.cell? ⟨B + 1, 0, none⟩ = some (.map (some B)) := by simp [World.cell?, HS.out]
      have hlm : ¬ S.has B := fun e => by have := HH.out.st.lt e; have := HB.out; omega
      have HADD := Lib.hid (fun W (hk : Keeps No wr W) => add_any S z B cl W (HH.out.st.no (HK.out.tr hk)) hz hmade (HC.out.block (hk.block _ HC.out.lt (fun e => e))) (by omega) hlm)
      clear hc hlm
      go_wp2_with fail
      go_region_with (first | (refine (HADD.out _ (by repeat (first | with_reducible exact Keeps.refl _ _ | with_reducible refine Keeps.alloc ?_ _ | with_reducible refine Keeps.drewN ?_ _ | with_reducible refine Keeps.drew ?_ | with_reducible refine Keeps.setCell ?_ (.inr (by simp)) _ | with_reducible refine Keeps.setRow ?_ (by simp) _))).mono ?_; rintro e w9 ⟨rfl, S', hW⟩) | fail)
      all_goals go_wp2_with fail
      all_goals go_returns
      all_goals (rw [HX3.out]; exact ⟨rfl, S', hW.on (HK.out.tr (by repeat (first | with_reducible exact Keeps.refl _ _ | with_reducible refine Keeps.alloc ?_ _ | with_reducible refine Keeps.drewN ?_ _ | with_reducible refine Keeps.drew ?_ | with_reducible refine Keeps.setCell ?_ (.inr (by simp)) _ | with_reducible refine Keeps.setRow ?_ (by simp) _))) (fun a e => by have e' : a = B := e; have := HB.out; omega)⟩)
end Go.Proofs.Ytjchfldlmabblaa
