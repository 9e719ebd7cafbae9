/- Worlds in which numbers have been written over. -/
import Derived.Test.YtpjilcfmcbapcaaDoorLvSame
import Derived.ArgAppend
namespace Go.Proofs.YtpjilcfmcbapcaaDoor
open Go.RowKit
set_option linter.unusedVariables false
set_option linter.unusedSimpArgs false

/-- Where numbers lie that may be written. -/
def NumAt (e : TypeId) (k : Nat) : Prop := e = 3
structure Mu (S : Nat → Prop) (w w' : World) : Prop where
  k : Keeps S w w'
  m : ∀ q cs e fr, S q → w.heap[q]? = some (.cells cs e fr) → ∃ cs', w'.heap[q]? = some (.cells cs' e fr) ∧ cs'.size = cs.size ∧ ∀ (j : Nat) v, cs[j]? = some v → ∃ v', cs'[j]? = some v' ∧ (v' = v ∨ ((∃ z, v' = .int .i64 z) ∧ NumAt e j))
theorem Mu.of_no {S : Nat → Prop} {w w' : World} (h : Keeps No w w') : Mu S w w' :=
  ⟨h.mono (fun _ _ e => e.elim), fun q cs e fr hq hc => ⟨cs, (h.block q (Array.getElem?_eq_some_iff.1 hc).1 (fun e => e)).trans hc, rfl, fun j v hj => ⟨v, hj, .inl rfl⟩⟩⟩
theorem Mu.refl (S : Nat → Prop) (w : World) : Mu S w w := Mu.of_no (Keeps.refl _ _)
theorem Mu.trans {S : Nat → Prop} {a b c : World} (h : Mu S a b) (g : Mu S b c) : Mu S a c :=
  ⟨h.k.trans g.k (fun _ _ e => e), fun q cs e fr hq hc => by
    obtain ⟨c1, h1, hs1, hv1⟩ := h.m q cs e fr hq hc
    obtain ⟨c2, h2, hs2, hv2⟩ := g.m q c1 e fr hq h1
    refine ⟨c2, h2, hs2.trans hs1, fun j v hj => ?_⟩
    obtain ⟨v1, e1, d1⟩ := hv1 j v hj
    obtain ⟨v2, e2, d2⟩ := hv2 j v1 e1
    refine ⟨v2, e2, ?_⟩
    rcases d2 with rfl | d2
    · exact d1
    · exact .inr d2⟩
theorem Mu.setCell {S : Nat → Prop} {a w : World} (h : Mu S a w) {q j : Nat} {cs : Array Value} {e : TypeId} (hq : S q) (hc : w.heap[q]? = some (.cells cs e (0, 0))) (hn : NumAt e j) (z : Int) : Mu S a (w.setCell ⟨q, j, none⟩ (.int .i64 z)) := by
  refine h.trans ⟨(Keeps.refl S w).setCell (.inl hq) _, fun p ps t fr hp hpc => ?_⟩
  by_cases hpq : p = q
  · subst hpq
    rw [hc] at hpc
    injection hpc with hpc
    injection hpc with e1 e2 e3
    subst e1; subst e2; subst e3
    refine ⟨_, heap_setCell_same w p j _ _ _ hc, by simp, fun k v hk => ?_⟩
    have hkl : k < cs.size := (Array.getElem?_eq_some_iff.1 hk).1
    by_cases hkj : j = k
    · subst hkj
      exact ⟨.int .i64 z, by simp [hkl], .inr ⟨⟨z, rfl⟩, hn⟩⟩
    · exact ⟨v, by simpa [hkj] using hk, .inl rfl⟩
  · exact ⟨ps, by rw [Below.heap_setCell _ _ _ _ (by simpa using hpq)]; exact hpc, rfl, fun k v hk => ⟨v, hk, .inl rfl⟩⟩
/-- A row of numbers, whatever they are. -/
def TRow (w : World) (S : Nat → Prop) (e : TypeId) (v : Value) (n : Nat) : Prop :=
  (v = .slice none 0 0 ∧ n = 0) ∨ ∃ g cap cur, v = .slice (some ⟨g, 0, none⟩) n cap ∧ S g ∧ w.heap[g]? = some (.cells cur e (0, 0)) ∧ n ≤ cap ∧ cap ≤ maxLen ∧ cur.size = cap ∧ ∀ j, j < n → ∃ z, cur[j]? = some (.int .i64 z)
theorem TRow.of_own {w : World} {B n : Nat} {e : TypeId} {v : Value} {l : List Int} {S : Nat → Prop} (hS : ∀ q, B ≤ q → q < w.heap.size → S q) (h : w.ownsRow B e 1 v n (irow l)) : TRow w S e v n := by
  have hl : l.length = n := by have := h.1; rw [irow_len] at this; omega
  rcases h.2 with h | ⟨g, cap, cur, h1, h2, h3, h4, h5, h6, h7⟩
  · exact .inl h
  · refine .inr ⟨g, cap, cur, h1, hS g h2 (Array.getElem?_eq_some_iff.1 h3).1, h3, h4, h5, by omega, fun j hj => ?_⟩
    obtain ⟨z, hz⟩ : ∃ z, l[j]? = some z := ⟨_, List.getElem?_eq_getElem (by omega)⟩
    have h8 := irow_get hz
    rw [← h7, List.getElem?_take, if_pos (by omega)] at h8
    exact ⟨z, by rw [← Array.getElem?_toList]; exact h8⟩
theorem TRow.mu {w w' : World} {S : Nat → Prop} {n : Nat} {e : TypeId} {v : Value} (h : TRow w S e v n) (hm : Mu S w w') : TRow w' S e v n := by
  rcases h with h | ⟨g, cap, cur, h1, h2, h3, h4, h5, h6, h7⟩
  · exact .inl h
  · obtain ⟨c1, e1, s1, d1⟩ := hm.m g cur e _ h2 h3
    refine .inr ⟨g, cap, c1, h1, h2, e1, h4, h5, by omega, fun j hj => ?_⟩
    obtain ⟨z, hz⟩ := h7 j hj
    obtain ⟨v', hv, hd⟩ := d1 j _ hz
    rcases hd with rfl | ⟨⟨z', rfl⟩, _⟩
    · exact ⟨z, hv⟩
    · exact ⟨z', hv⟩
theorem news_one (w : World) (cs : List Value) (t : TypeId) : ∀ (j : Nat) u, cs[j]? = some u → (w.alloc (.cells cs.toArray t)).cell? ((⟨w.heap.size, 0, none⟩ : Addr).add j) = some u := fun j u hu => by
  have e : (⟨w.heap.size, 0, none⟩ : Addr).add j = ⟨w.heap.size, j, none⟩ := by unfold Addr.add; split <;> simp_all
  rw [e, World.cell?_alloc_at _ _ _ _ rfl, List.getElem?_toArray]; exact hu
theorem Mu.setCell1 {S : Nat → Prop} {a w : World} (h : Mu S a w) {q j : Nat} {cs : Array Value} {e : TypeId} (hq : S q) (hc : w.heap[q]? = some (.cells cs e (0, 0))) (hn : NumAt e j) (z : Int) : Mu S a (w.setCells q j [.int .i64 z]) := h.setCell hq hc hn z
set_option maxRecDepth 100000 in
set_option maxHeartbeats 3200000 in
theorem over_ints_mu (S : Nat → Prop) (v : Value) (n : Nat) (w : World) (h : TRow w S 3 v n) (hn : n ≤ 1000000) :
    Calls Tryd.prog 19 #[v] w fun e w' => e = .returned (.tuple #[]) ∧ Mu S w w' := by
  obtain ⟨i0, hi, hz0, hz1, hz2⟩ := info_parts infoI
  have HI := Lib.hid (And.intro hi (And.intro hz0 (And.intro hz1 hz2)))
  clear hi hz0 hz1 hz2
  have HW := Lib.hid h
  rcases h with ⟨rfl, rfl⟩ | ⟨g1, cap, cur, rfl, hg1, hh, hnc, hcm, hcs, hnum⟩
  · have hn1 : ∀ (W : World) (j : Nat) u, [Value.int .i64 (-999)][j]? = some u → (W.alloc (.cells #[.int .i64 (-999)] 3)).cell? ((⟨W.heap.size, 0, none⟩ : Addr).add j) = some u := fun W => news_one W [.int .i64 (-999)] 3
    have HN := Lib.hid hn1
    clear hn1
    go_enter Tryd.func19, Tryd.ntmps19
    go_wp2_with fail
    go_loopg [2] 0 (fun g u wr => u = .int .i64 0 ∧ g = 0 ∧ w = wr)
    case atStart => exact ⟨rfl, rfl, rfl⟩
    case round =>
      obtain ⟨rfl, hg, rfl⟩ := hrel
      go_wp2_with (at_builtin; refine wpList_append_lies _ rfl (.tmp 12) (.tmp 13) 22 rfl 0 3 i0 (.int .i64 0) 1 8 Tryd.underlying22 HI.out.1 HI.out.2.1 HI.out.2.2.1 HI.out.2.2.2 rfl (by decide) (.slice none 0 0) 0 [] rfl (World.ownsRow_nil _ _ _ _) ⟨w.heap.size, 0, none⟩ 1 1 [.int .i64 (-999)] rfl rfl (HN.out w) (by intro u hu; simp at hu; subst hu; rfl) (by decide) (by decide) (by decide) (Nat.zero_le _) _ rfl ?_)
      intro g2 c2 w2 ho2 hg2 _ _
      have HM : Hid (Mu S w w2) := Lib.hid (Mu.of_no (((Keeps.refl No w).alloc _).grown hg2 (fun q e => by cases e)))
      clear ho2 hg2
      go_wp2_with fail
      go_returns
      exact ⟨rfl, HM.out⟩
  · have hcap : cap ≤ 9223372036854775807 := by unfold maxLen at hcm; omega
    clear hh hcs hnum
    have HG1 := Lib.hid hg1
    have HCM := Lib.hid hcm
    go_enter Tryd.func19, Tryd.ntmps19
    go_wp2_with fail
    go_loopg [2] n (fun g u wr => ∃ i : Nat, u = .int .i64 (i : Int) ∧ i ≤ n ∧ g = n - i ∧ Hid (Mu S w wr))
    case atStart => exact ⟨0, rfl, Nat.zero_le _, rfl, Lib.hid (Mu.refl _ _)⟩
    case round =>
      obtain ⟨i, rfl, hi, hg, HM⟩ := hrel
      have hrow : ∃ cur : Array Value, wr.heap[g1]? = some (.cells cur 3 (0, 0)) ∧ cur.size = cap ∧ ∀ j, j < n → ∃ z, cur[j]? = some (.int .i64 z) := by
        rcases HW.out.mu HM.out with ⟨e, _⟩ | ⟨g', cap', cur', e, _, h3, _, _, h6, h7⟩
        · cases e
        · injection e with e1 e2 e3
          injection e1 with e1
          injection e1 with e1
          subst e1; subst e3
          exact ⟨cur', h3, h6, h7⟩
      obtain ⟨cur, hc, hcs, hnum⟩ := hrow
      have HC := Lib.hid (And.intro hc (And.intro hcs hnum))
      by_cases hlt : i < n
      · have hlt' : (i : Int) < (n : Int) := by omega
        have ip0 : (0 : Int) ≤ (i : Int) := by omega
        obtain ⟨z, hz⟩ := hnum i hlt
        have c1 : wr.cell? ⟨g1, i, none⟩ = some (.int .i64 z) := by rw [cell_of_row wr g1 i _ _ _ hc]; exact hz
        have f1 : wr.frozen? ⟨g1, i, none⟩ = false := frozen_of_row wr g1 i _ _ hc
        clear hc hcs hnum hz
        go_wp2_with fail
        go_roundg (n - (i + 1))
        case rel => exact ⟨i + 1, by go_num, by omega, rfl, Lib.hid (HM.out.setCell HG1.out HC.out.1 rfl (-999))⟩
        case measure => omega
      · obtain rfl : i = n := by omega
        have hlt' : ¬ (i : Int) < (i : Int) := by omega
        have hca : (wr.alloc (.cells #[.int .i64 (-999)] 3)).heap[g1]? = some (.cells cur 3 (0, 0)) := by rw [Below.heap_alloc _ _ _ (Array.getElem?_eq_some_iff.1 hc).1]; exact hc
        have HCA := Lib.hid hca
        have HMA : Hid (Mu S w (wr.alloc (.cells #[.int .i64 (-999)] 3))) := Lib.hid (HM.out.trans (Mu.of_no ((Keeps.refl _ _).alloc _)))
        have HN : Hid (∀ (j : Nat) u, [Value.int .i64 (-999)][j]? = some u → (wr.alloc (.cells #[.int .i64 (-999)] 3)).cell? ((⟨wr.heap.size, 0, none⟩ : Addr).add j) = some u) := Lib.hid (news_one wr [.int .i64 (-999)] 3)
        have HLO : Hid ((cur.toList.take i).length = i * 1) := Lib.hid (by rw [List.length_take, Array.length_toList]; omega)
        have HOL : Hid (∀ (j : Nat) u, (cur.toList.take i)[j]? = some u → (wr.alloc (.cells #[.int .i64 (-999)] 3)).cell? ⟨g1, 0 + j, none⟩ = some u) := Lib.hid (fun j u hj => by
          rw [Nat.zero_add, cell_of_row _ g1 j _ _ _ hca]
          rw [List.getElem?_take] at hj
          split at hj
          · rw [← Array.getElem?_toList]; exact hj
          · cases hj)
        have HSP : Hid (i + 1 ≤ cap → ∀ j, j < [Value.int .i64 (-999)].length → ((wr.alloc (.cells #[.int .i64 (-999)] 3)).cell? ⟨g1, 0 + i * 1 + j, none⟩).isSome = true ∧ (wr.alloc (.cells #[.int .i64 (-999)] 3)).frozen? ⟨g1, 0 + i * 1 + j, none⟩ = false) := Lib.hid (fun hle j hj => by
          refine ⟨?_, frozen_of_row _ g1 _ _ _ hca⟩
          have hj0 : j = 0 := by simp at hj; exact hj
          subst hj0
          rw [cell_of_row _ g1 _ _ _ _ hca, Array.getElem?_eq_getElem (by omega)]; rfl)
        clear hc hcs hnum hca
        go_wp2_with (at_builtin; refine wpList_append_arg _ rfl (.tmp 12) (.tmp 13) 22 rfl 3 i0 (.int .i64 0) 1 8 Tryd.underlying22 HI.out.1 HI.out.2.1 HI.out.2.2.1 HI.out.2.2.2 rfl (by decide) g1 0 i cap (cur.toList.take i) rfl HLO.out HOL.out ⟨wr.heap.size, 0, none⟩ 1 1 [.int .i64 (-999)] rfl rfl HN.out (by intro u hu; simp at hu; subst hu; rfl) HSP.out (by unfold maxLen; omega) (by omega) ?_ ?_)
        · intro hle
          have HF : Hid (Mu S w ((wr.alloc (.cells #[.int .i64 (-999)] 3)).setCells g1 i [.int .i64 (-999)])) := Lib.hid (HMA.out.setCell1 HG1.out HCA.out rfl (-999))
          obtain ⟨wz, hwz⟩ : ∃ W, (wr.alloc (.cells #[.int .i64 (-999)] 3)).setCells g1 i [.int .i64 (-999)] = W := ⟨_, rfl⟩
          rw [hwz] at HF ⊢
          clear hwz
          go_wp2_with fail
          go_returns
          exact ⟨rfl, HF.out⟩
        · intro hle v2 w2 ho2 hg2
          have HF : Hid (Mu S w w2) := Lib.hid (HMA.out.trans (Mu.of_no ((Keeps.refl No _).grown hg2 (fun q e => by cases e))))
          clear ho2 hg2
          go_wp2_with fail
          go_returns
          exact ⟨rfl, HF.out⟩
theorem LL.mono {B B' : Nat} {w : World} {v : Value} {ls : List (List Int)} (h : LL B w v ls) (hB : B' ≤ B) : LL B' w v ls := by
  obtain ⟨vs, h1, h2⟩ := h.ex
  exact ⟨⟨vs, own_mono h1 hB, fun i l hl => by obtain ⟨u, h3, h4⟩ := h2 i l hl; exact ⟨u, h3, own_mono h4 hB⟩⟩⟩
theorem LL.no {B : Nat} {w w' : World} {v : Value} {ls : List (List Int)} (h : LL B w v ls) (hk : Keeps No w w') : LL B w' v ls := by
  obtain ⟨vs, h1, h2⟩ := h.ex
  exact ⟨⟨vs, own_keep h1 hk (fun _ e => e.elim), fun i l hl => by obtain ⟨u, h3, h4⟩ := h2 i l hl; exact ⟨u, h3, own_keep h4 hk (fun _ e => e.elim)⟩⟩⟩
/-- A cell that holds no number that may be written stays. -/
theorem Mu.other {S : Nat → Prop} {w w' : World} (h : Mu S w w') {g j : Nat} {cs : Array Value} {e : TypeId} {v : Value} (hS : S g) (hg : w.heap[g]? = some (.cells cs e (0, 0))) (he : e ≠ 3) (hc : w.cell? ⟨g, j, none⟩ = some v) : w'.cell? ⟨g, j, none⟩ = some v := by
  obtain ⟨c1, h1, _, h3⟩ := h.m g cs e _ hS hg
  rw [cell_of_row w g j _ _ _ hg] at hc
  obtain ⟨v1, h4, h5⟩ := h3 j v hc
  rw [cell_of_row w' g j _ _ _ h1, h4]
  rcases h5 with rfl | ⟨_, h6⟩
  · rfl
  · exact absurd h6 he
/-- The rows of such a slice, one after another, when numbers in it have been written over. -/
theorem LL.over {B : Nat} {w : World} {a : Option Addr} {n c : Nat} {ls : List (List Int)} {i : Nat} (h : LL B w (.slice a n c) ls) (hi : i < n) (hb : ∀ l ∈ ls, l.length ≤ 1000000) :
    ∃ g ua m uc, a = some ⟨g, 0, none⟩ ∧ m ≤ 1000000 ∧ ∀ w', Mu (fun q => B ≤ q) w w' → w'.cell? ⟨g, i, none⟩ = some (.slice ua m uc) ∧ TRow w' (fun q => B ≤ q) 3 (.slice ua m uc) m := by
  obtain ⟨vs, h1, h2⟩ := h.ex
  have hn : ls.length = n := by
    rcases h1.2 with ⟨e, e2⟩ | ⟨g, cap, cur, e, _⟩
    · cases e; exact e2
    · injection e with e1 e3 e4; exact e3.symm
  obtain ⟨l, hl⟩ : ∃ l, ls[i]? = some l := ⟨_, List.getElem?_eq_getElem (by omega)⟩
  obtain ⟨u, hu1, hu2⟩ := h2 i l hl
  rw [hn] at h1
  have h1' := h1
  rcases h1.2 with ⟨e, e2⟩ | ⟨g, cap, cur, e, hBg, hh, _⟩
  · omega
  · injection e with e1 e3 e4
    obtain ⟨ua, uc, rfl, _⟩ := own_form hu2
    refine ⟨g, ua, l.length, uc, e1, hb l (List.mem_of_getElem? hl), fun w' hm => ⟨?_, ?_⟩⟩
    · refine hm.other hBg hh (by decide) ?_
      subst e1
      have hc := World.ownsRow.cellAt h1' i (by have := h1'.1; omega)
      rw [hc, hu1]
    · exact (TRow.of_own (fun q h _ => h) hu2).mu hm
end Go.Proofs.YtpjilcfmcbapcaaDoor
