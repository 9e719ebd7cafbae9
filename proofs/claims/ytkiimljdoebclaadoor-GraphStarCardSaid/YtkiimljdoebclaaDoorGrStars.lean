/- A star: one function that calls others, which call nothing: the mirror's answers. -/
import Derived.Test.YtkiimljdoebclaaDoorGrFds
namespace Go.Proofs.YtkiimljdoebclaaDoor.Gm
open Go Go.Proofs.YtkiimljdoebclaaDoor
set_option linter.unusedVariables false
set_option linter.unusedSimpArgs false

def nums (v : Nat) : List Int := (List.range v).map fun i => ((i : Nat) : Int)
def ups (v : Nat) : List Int := (List.range v).map fun i => ((i + 1 : Nat) : Int)
/-- The finder behind the first v functions, each of which is a set of its own. -/
def sg (n v : Nat) : Fdr := ⟨ups v ++ List.replicate (n - v) 0, ups v ++ List.replicate (n - v) 0, nums v ++ List.replicate (n - v) (-1), [], v, (List.range v).map fun i => [((i : Nat) : Int)]⟩
theorem nums_more (v : Nat) : nums (v + 1) = nums v ++ [(v : Int)] := by simp [nums, List.range_succ]
theorem ups_more (v : Nat) : ups (v + 1) = ups v ++ [((v + 1 : Nat) : Int)] := by simp [ups, List.range_succ]
theorem nums_len (v : Nat) : (nums v).length = v := by simp [nums]
theorem ups_len (v : Nat) : (ups v).length = v := by simp [ups]
theorem nums_get {v u : Nat} (h : u < v) : (nums v)[u]? = some (u : Int) := by simp [nums, h]
theorem ups_get {v u : Nat} (h : u < v) : (ups v)[u]? = some ((u + 1 : Nat) : Int) := by simp [ups, h]
theorem set_next (A : List Int) (k : Nat) (a x : Int) (v : Nat) (hA : A.length = v) : (A ++ List.replicate (k + 1) a).set v x = (A ++ [x]) ++ List.replicate k a := by
  subst hA
  rw [List.set_append_right _ _ (Nat.le_refl _), Nat.sub_self, List.replicate_succ, List.set_cons_zero]
  simp
theorem get_next (A : List Int) (k : Nat) (a : Int) (v : Nat) (hA : A.length = v) : (A ++ List.replicate (k + 1) a)[v]? = some a := by
  subst hA
  rw [List.getElem?_append_right (Nat.le_refl _), Nat.sub_self, List.replicate_succ]; rfl
theorem get_old (A B : List Int) (u : Nat) (h : u < A.length) : (A ++ B)[u]? = A[u]? := List.getElem?_append_left h
theorem ix_nat {n v : Nat} (h : v < n) : ix n (v : Int) = some v := ix_some.2 ⟨rfl, h⟩
/-- Those that are called are sets already: nothing is done. -/
theorem steps_old (vis : Fdr → Int → Option Fdr) (n v0 : Nat) (s : Fdr) : ∀ R : List Int, (∀ z ∈ R, ∃ u : Nat, z = (u : Int) ∧ u < n ∧ (∃ x, s.when[u]? = some x ∧ x ≠ 0) ∧ ∃ y, s.part[u]? = some y ∧ ¬ y < 0) → stepsM vis n v0 R s = some s
  | [], _ => rfl
  | z :: t, h => by
    obtain ⟨u, rfl, hu, ⟨x, hx, hx0⟩, y, hy, hy0⟩ := h z (by simp)
    rw [stepsM, stepM, ix_nat hu]
    simp only [Option.bind_some, hx, if_neg hx0, hy, if_neg hy0]
    exact steps_old vis n v0 s t (fun z hz => h z (by simp [hz]))
theorem isort_one (z : Int) : isort [z] = [z] := rfl
theorem visit_one {n v f : Nat} {cs : List (List Int)} {R : List Int} (hv : v < n) (hn : n ≤ 1000) (hr : cs[v]? = some R) (hR : ∀ z ∈ R, ∃ u : Nat, z = (u : Int) ∧ u < v) :
    visitM n cs (f + 1) (sg n v) (v : Int) = some (sg n (v + 1)) := by
  obtain ⟨k, hk⟩ : ∃ k, n - v = k + 1 := ⟨n - v - 1, by omega⟩
  have hk2 : n - (v + 1) = k := by omega
  rw [visitM, ix_nat hv]
  simp only [Option.bind_some]
  rw [if_pos (by simp [sg]; omega), hr]
  simp only [Option.bind_some, sg, hk, List.nil_append]
  rw [set_next (ups v) k 0 ((v + 1 : Nat) : Int) v (ups_len v)]
  rw [steps_old]
  · simp only [Option.bind_some, endM]
    rw [get_old (ups v ++ [((v + 1 : Nat) : Int)]) _ v (by simp [ups_len])]
    rw [show (ups v ++ [((v + 1 : Nat) : Int)])[v]? = some ((v + 1 : Nat) : Int) by rw [List.getElem?_append_right (by simp [ups_len])]; simp [ups_len]]
    simp only [Option.bind_some, if_neg (Int.lt_irrefl _), List.length_singleton, lastAt, List.getElem?_cons_zero, if_true, List.drop_zero, tellM, ix_nat hv, List.take_zero, isort_one]
    rw [if_pos (by simp; omega)]
    simp only [Option.bind_some, List.length_map, List.length_range]
    rw [set_next (nums v) k (-1) (v : Int) v (nums_len v)]
    simp only [hk2, nums_more, ups_more, List.range_succ, List.map_append, List.map_cons, List.map_nil]
  · intro z hz
    obtain ⟨u, rfl, hu⟩ := hR z hz
    refine ⟨u, rfl, by omega, ⟨((u + 1 : Nat) : Int), ?_, by omega⟩, (u : Int), ?_, by omega⟩
    · simp only
      rw [get_old _ _ u (by simp [ups_len]; omega), get_old _ _ u (by rw [ups_len]; exact hu)]
      exact ups_get hu
    · simp only
      rw [get_old _ _ u (by rw [nums_len]; exact hu)]
      exact nums_get hu
theorem finds_all {n f : Nat} {cs : List (List Int)} (hn : n ≤ 1000) (hc : ∀ v, v < n → ∃ R, cs[v]? = some R ∧ ∀ z ∈ R, ∃ u : Nat, z = (u : Int) ∧ u < v) : ∀ k v, v + k = n → findsM n cs (f + 1) (List.range' v k) (sg n v) = some (sg n n)
  | 0, v, h => by obtain rfl : v = n := by omega
                  rfl
  | k + 1, v, h => by
    obtain ⟨R, hr, hR⟩ := hc v (by omega)
    rw [List.range'_succ, findsM]
    have e : (sg n v).when[v]? = some 0 := by
      simp only [sg, show n - v = k + 1 by omega]
      exact get_next _ k 0 v (ups_len v)
    rw [e]
    simp only [Option.bind_some, if_true]
    rw [visit_one (by omega) hn hr hR]
    simp only [Option.bind_some]
    exact finds_all hn hc k (v + 1) (by omega)
theorem finder_all {n f : Nat} {cs : List (List Int)} (hn : n ≤ 1000) (hc : ∀ v, v < n → ∃ R, cs[v]? = some R ∧ ∀ z ∈ R, ∃ u : Nat, z = (u : Int) ∧ u < v) : finderM n cs (f + 1) = some (sg n n) := by
  unfold finderM
  rw [List.range_eq_range']
  have h := finds_all (f := f) hn hc n 0 (by omega)
  have e : fd0 n = sg n 0 := by simp [fd0, sg, ups, nums]
  rw [e]
  exact h
end Go.Proofs.YtkiimljdoebclaaDoor.Gm
/- A star: Cyclic, Parts, as the mirror answers. -/
namespace Go.Proofs.YtkiimljdoebclaaDoor.Gm
open Go Go.Proofs.YtkiimljdoebclaaDoor
set_option linter.unusedVariables false
set_option linter.unusedSimpArgs false

theorem sg_part {n u : Nat} (h : u < n) : (sg n n).part[u]? = some (u : Int) := by
  simp only [sg]
  rw [get_old _ _ u (by rw [nums_len]; exact h)]
  exact nums_get h
theorem sg_parts {n u : Nat} (h : u < n) : (sg n n).parts[u]? = some [(u : Int)] := by simp [sg, h]
theorem sg_parts_len (n : Nat) : (sg n n).parts.length = n := by simp [sg]
theorem sg_okParts {n : Nat} (hn : n ≤ 1000) : okParts (sg n n).parts = true := by
  unfold okParts
  simp only [sg, List.length_map, List.length_range, Bool.and_eq_true, decide_eq_true_eq, List.all_eq_true, List.mem_map, List.mem_range]
  refine ⟨by omega, ?_⟩
  rintro p ⟨u, hu, rfl⟩
  simp
  omega
theorem cyc_none {n : Nat} {cs : List (List Int)} (hc : ∀ v, v < n → ∃ R, cs[v]? = some R ∧ ∀ z ∈ R, ∃ u : Nat, z = (u : Int) ∧ u < v) : ∀ L : List Nat, (∀ v ∈ L, v < n) → cycM (sg n n) cs L [] = some []
  | [], _ => rfl
  | v :: t, h => by
    have hv := h v (by simp)
    obtain ⟨R, hr, hR⟩ := hc v hv
    rw [cycM, sg_part hv]
    simp only [Option.bind_some]
    rw [ix_nat (by rw [sg_parts_len]; exact hv)]
    simp only [Option.bind_some]
    rw [sg_parts hv, hr]
    simp only [Option.bind_some, List.length_singleton, List.length_nil, Nat.zero_le, if_true]
    rw [if_neg (by
      rintro (h1 | h1)
      · omega
      · obtain ⟨u, e, hu⟩ := hR _ h1
        omega)]
    exact cyc_none hc t (fun v hv => h v (by simp [hv]))
theorem cyclic_none {n f : Nat} {cs : List (List Int)} (hn : n ≤ 1000) (hc : ∀ v, v < n → ∃ R, cs[v]? = some R ∧ ∀ z ∈ R, ∃ u : Nat, z = (u : Int) ∧ u < v) : cyclicM n cs (f + 1) = some [] := by
  unfold cyclicM
  rw [finder_all hn hc]
  simp only [Option.bind_some]
  rw [if_neg (by rw [sg_okParts hn]; simp)]
  exact cyc_none hc _ (fun v hv => List.mem_range.1 hv)
/-- The calls of a star. -/
def starC (m : Nat) (S : List Int) : List (List Int) := List.replicate m [] ++ [S]
theorem star_leaf {m v : Nat} {S : List Int} (h : v < m) : (starC m S)[v]? = some [] := by
  unfold starC
  rw [List.getElem?_append_left (by simpa using h), List.getElem?_replicate, if_pos h]
theorem star_main (m : Nat) (S : List Int) : (starC m S)[m]? = some S := by
  unfold starC
  rw [List.getElem?_append_right (by simp)]
  simp
theorem star_back {m : Nat} {S : List Int} (hS : ∀ z ∈ S, ∃ u : Nat, z = (u : Int) ∧ u < m) : ∀ v, v < m + 1 → ∃ R, (starC m S)[v]? = some R ∧ ∀ z ∈ R, ∃ u : Nat, z = (u : Int) ∧ u < v := by
  intro v hv
  by_cases h : v < m
  · exact ⟨[], star_leaf h, fun z hz => by cases hz⟩
  · obtain rfl : v = m := by omega
    exact ⟨S, star_main v S, hS⟩
/-- Each once, rising: they stay so. -/
theorem addM_new : ∀ (l acc : List Int), (acc ++ l).Nodup → addM acc l = acc ++ l
  | [], acc, _ => by simp [addM]
  | z :: t, acc, h => by
    rw [addM, if_neg (by
      intro hz
      have := (List.nodup_append.1 h).2.2 z hz z (by simp)
      exact this rfl), addM_new t (acc ++ [z]) (by simpa using h)]
    simp
theorem row_rising {l : List Int} (h : Rising l) (hn : l.Nodup) : rowM l = l := by
  unfold rowM
  rw [addM_new l [] (by simpa using hn), List.nil_append]
  exact (isort_of (List.Perm.refl l) h).symm
theorem calls_star {m : Nat} {S : List Int} (h : Rising S) (hn : S.Nodup) : callsM (starC m S) = starC m S := by
  unfold callsM starC
  rw [List.map_append, List.map_replicate, List.map_cons, List.map_nil, row_rising h hn]
  rfl
/-! What main's set waits for. -/
theorem vs_leaf {n k v : Nat} {s : Fdr} {cs : List (List Int)} {W : Ws} (hv : v < n) (hr : cs[v]? = some []) : vsM s cs n k [(v : Int)] W = some W := by
  rw [vsM, ix_nat hv]
  simp only [Option.bind_some, hr, edgesM, vsM]
theorem ps_leaf {n : Nat} {s : Fdr} {cs : List (List Int)} : ∀ (j k : Nat) (rest : List (List Int)) (W : Ws), (∀ v, k ≤ v → v < k + j → v < n ∧ cs[v]? = some []) →
    ∃ sn, psM s cs n k (((List.range' k j).map fun i => [((i : Nat) : Int)]) ++ rest) W = psM s cs n (k + j) rest { W with seen := sn }
  | 0, k, rest, W, h => ⟨W.seen, by simp⟩
  | j + 1, k, rest, W, h => by
    obtain ⟨h1, h2⟩ := h k (Nat.le_refl _) (by omega)
    obtain ⟨sn, hs⟩ := ps_leaf (s := s) (cs := cs) (n := n) j (k + 1) rest { W with seen := [((k : Int), 1)] } (fun v a b => h v (by omega) (by omega))
    refine ⟨sn, ?_⟩
    rw [List.range'_succ, List.map_cons, List.cons_append, psM, vs_leaf h1 h2]
    simp only [Option.bind_some]
    rw [hs, show k + (j + 1) = k + 1 + j by omega]
end Go.Proofs.YtkiimljdoebclaaDoor.Gm
/- A star: what main waits for; the heap; Parts. -/
namespace Go.Proofs.YtkiimljdoebclaaDoor.Gm
open Go Go.Proofs.YtkiimljdoebclaaDoor
set_option linter.unusedVariables false
set_option linter.unusedSimpArgs false

theorem edges_star {m : Nat} : ∀ (S : List Int) (W : Ws) (x : Nat), S.Nodup → (∀ z ∈ S, ∃ u : Nat, z = (u : Int) ∧ u < m ∧ W.callers[u]? = some [] ∧ (kget W.seen z).getD 0 = 0) → W.callers.length = m + 1 → W.waits[m]? = some (x : Int) → x + S.length ≤ 999999 → W.seen.length + S.length ≤ 999999 →
    ∃ W', edgesM (sg (m + 1) (m + 1)) (m + 1) m S W = some W' ∧ W'.callers.length = m + 1 ∧ (∀ u : Nat, u < m → W'.callers[u]? = if (u : Int) ∈ S then some [(m : Int)] else W.callers[u]?) ∧ W'.waits = W.waits.set m ((x + S.length : Nat) : Int) ∧ W'.callers[m]? = W.callers[m]?
  | [], W, x, _, _, hl, hw, _, _ => ⟨W, rfl, hl, fun u _ => by simp, by
      have : W.waits.set m ((x + 0 : Nat) : Int) = W.waits := by
        apply List.ext_getElem?
        intro i
        by_cases hi : m = i
        · subst hi
          rw [List.getElem?_set_self (List.getElem?_eq_some_iff.1 hw).1, hw]; rfl
        · rw [List.getElem?_set_ne hi]
      exact this.symm, rfl⟩
  | z :: t, W, x, hn, h, hl, hw, hx, hs => by
    obtain ⟨u, rfl, hu, hc, hk⟩ := h z (by simp)
    obtain ⟨hn1, hn2⟩ := List.nodup_cons.1 hn
    simp only [List.length_cons] at hx hs
    have hml : m < W.waits.length := (List.getElem?_eq_some_iff.1 hw).1
    obtain ⟨W1, hW1⟩ : ∃ W1, W1 = (⟨W.callers.set u ([] ++ [(m : Int)]), W.waits.set m ((x : Int) + 1), kput W.seen (u : Int) 1⟩ : Ws) := ⟨_, rfl⟩
    have he : edgeM (sg (m + 1) (m + 1)) (m + 1) m W (u : Int) = some W1 := by
      rw [edgeM, ix_nat (by omega)]
      simp only [Option.bind_some]
      rw [sg_part (by omega)]
      simp only [Option.bind_some, hk, ne_eq, not_true_eq_false, if_false]
      rw [ix_nat (by omega)]
      simp only [Option.bind_some, hc, hw]
      rw [if_pos (by refine ⟨by simp, by omega, by omega, by omega⟩), hW1]
    obtain ⟨W', h1, h2, h3, h4, h5⟩ := edges_star t W1 (x + 1) hn2 (fun z hz => by
      obtain ⟨v, rfl, hv, hvc, hvk⟩ := h z (by simp [hz])
      have hne : v ≠ u := fun e => hn1 (by rw [← e]; exact hz)
      refine ⟨v, rfl, hv, ?_, ?_⟩
      · rw [hW1]; simp only; rw [List.getElem?_set_ne (fun e => hne e.symm)]; exact hvc
      · rw [hW1]; simp only; rw [kget_put_other _ _ (fun e => hne (by omega))]; exact hvk) (by rw [hW1]; simpa using hl) (by rw [hW1]; simp only; rw [List.getElem?_set_self hml]; congr 1) (by omega) (by
        rw [hW1]; simp only
        have := kput_le W.seen (u : Int) 1
        omega)
    refine ⟨W', by rw [edgesM, he]; exact h1, h2, fun v hv => ?_, ?_, ?_⟩
    · rw [h3 v hv, hW1]
      simp only [List.mem_cons]
      by_cases hvt : (v : Int) ∈ t
      · rw [if_pos hvt, if_pos (.inr hvt)]
      · rw [if_neg hvt]
        by_cases hvu : v = u
        · subst hvu
          rw [if_pos (.inl rfl), List.getElem?_set_self (List.getElem?_eq_some_iff.1 hc).1, List.nil_append]
        · rw [if_neg (fun e => e.elim (fun e => hvu (by omega)) hvt), List.getElem?_set_ne (fun e => hvu e.symm)]
    · rw [h4, hW1]
      simp only [List.length_cons, List.set_set]
      congr 2; omega
    · rw [h5, hW1]; simp only; rw [List.getElem?_set_ne (by omega)]
theorem push_all : ((List.range 13).all fun v => decide (pushM (nums v) (v : Int) = some (nums (v + 1)))) = true := by kernel_rfl
theorem push_next {v : Nat} (h : v < 13) : pushM (nums v) (v : Int) = some (nums (v + 1)) := by
  have := List.all_eq_true.1 push_all v (List.mem_range.2 h)
  simpa using this
/-- The heap behind k pops, main being pushed behind the j-th (0: ahead of the first). -/
def heapAt (m j : Nat) : Nat → Option (List Int)
  | 0 => if j = 0 then some (nums (m + 1)) else some (nums m)
  | k + 1 => (heapAt m j k).bind fun q => (popM q).bind fun zr => if zr.1 = (k : Int) then (if k + 1 = j then pushM zr.2 (m : Int) else some zr.2) else none
def chainOk (m j : Nat) : Bool := (heapAt m j (m + 1) == some []) && (List.range (m + 1)).all fun k => (heapAt m j k).isSome
theorem chains_ok : ((List.range 12).all fun i => (List.range (i + 2)).all fun j => chainOk (i + 1) j) = true := by kernel_rfl
theorem chain_ok {m j : Nat} (h0 : 0 < m) (h1 : m ≤ 12) (hj : j ≤ m) : chainOk m j = true := by
  have h := List.all_eq_true.1 chains_ok (m - 1) (List.mem_range.2 (by omega))
  have h2 := List.all_eq_true.1 h j (List.mem_range.2 (by omega))
  rw [show m - 1 + 1 = m by omega] at h2
  exact h2
end Go.Proofs.YtkiimljdoebclaaDoor.Gm
/- A star: Parts' loop. -/
namespace Go.Proofs.YtkiimljdoebclaaDoor.Gm
open Go Go.Proofs.YtkiimljdoebclaaDoor
set_option linter.unusedVariables false
set_option linter.unusedSimpArgs false

def outs (k : Nat) : List (List Int) := (List.range k).map fun i => [((i : Nat) : Int)]
theorem outs_more (k : Nat) : outs (k + 1) = outs k ++ [[(k : Int)]] := by simp [outs, List.range_succ]
theorem outs_len (k : Nat) : (outs k).length = k := by simp [outs]
/-- How many of S are not yet popped. -/
def cnt (S : List Int) (k : Nat) : Nat := (S.filter fun z => decide ((k : Int) ≤ z)).length
theorem cnt_not : ∀ {S : List Int} {k : Nat}, (k : Int) ∉ S → cnt S (k + 1) = cnt S k
  | [], _, _ => rfl
  | a :: t, k, h => by
    have h1 : a ≠ (k : Int) := fun e => h (by simp [e])
    have h2 := cnt_not (S := t) (k := k) (fun e => h (by simp [e]))
    unfold cnt at h2 ⊢
    by_cases ha : (k : Int) ≤ a
    · rw [List.filter_cons_of_pos (by simp; omega), List.filter_cons_of_pos (by simp; omega), List.length_cons, List.length_cons, h2]
    · rw [List.filter_cons_of_neg (by simp; omega), List.filter_cons_of_neg (by simp; omega), h2]
theorem cnt_in : ∀ {S : List Int} {k : Nat}, S.Nodup → (k : Int) ∈ S → cnt S k = cnt S (k + 1) + 1
  | [], _, _, h => by cases h
  | a :: t, k, hn, h => by
    obtain ⟨hn1, hn2⟩ := List.nodup_cons.1 hn
    by_cases hak : a = (k : Int)
    · subst hak
      have h2 := cnt_not (S := t) (k := k) hn1
      unfold cnt at h2 ⊢
      rw [List.filter_cons_of_pos (by simp), List.filter_cons_of_neg (by simp; omega), List.length_cons, h2]
    · have hkt : (k : Int) ∈ t := by
        rcases List.mem_cons.1 h with e | e
        · exact absurd e.symm hak
        · exact e
      have h2 := cnt_in hn2 hkt
      unfold cnt at h2 ⊢
      by_cases ha : (k : Int) ≤ a
      · rw [List.filter_cons_of_pos (by simp; omega), List.filter_cons_of_pos (by simp; omega), List.length_cons, List.length_cons, h2]
      · rw [List.filter_cons_of_neg (by simp; omega), List.filter_cons_of_neg (by simp; omega), h2]
theorem go_one {n k : Nat} {C : List (List Int)} {f : Nat} {waits q r w' q' row : List Int} {out : List (List Int)} (hp : popM q = some ((k : Int), r)) (hk : k < n) (hr : C[k]? = some row) (ho : out.length ≤ 999999) (hf : freeM (sg n n) row (waits, r) = some (w', q')) :
    goM (sg n n) n C (f + 1) waits q out = goM (sg n n) n C f w' q' (out ++ [[(k : Int)]]) := by
  rcases q with _ | ⟨q0, qt⟩
  · simp [popM] at hp
  · rw [goM]
    simp only [hp, Option.bind_some]
    rw [ix_nat hk]
    simp only [Option.bind_some]
    rw [sg_part hk]
    simp only [Option.bind_some]
    rw [ix_nat (by rw [sg_parts_len]; exact hk)]
    simp only [Option.bind_some]
    rw [sg_parts hk, hr]
    simp only [Option.bind_some, if_pos ho, hf]
theorem heap_next {m j k : Nat} {q q2 : List Int} (h : heapAt m j k = some q) (h2 : heapAt m j (k + 1) = some q2) : ∃ r, popM q = some ((k : Int), r) ∧ (if k + 1 = j then pushM r (m : Int) else some r) = some q2 := by
  rw [heapAt, h, Option.bind_some] at h2
  obtain ⟨⟨z, r⟩, hz, h3⟩ := Option.bind_eq_some_iff.1 h2
  simp only at h3
  by_cases e : z = (k : Int)
  · subst e
    rw [if_pos rfl] at h3
    exact ⟨r, hz, h3⟩
  · rw [if_neg e] at h3; cases h3
theorem go_star {m j : Nat} {S : List Int} {C : List (List Int)} (hm : m ≤ 12) (hn : S.Nodup) (hl : S.length ≤ 1000) (hC : ∀ u : Nat, u < m → C[u]? = if (u : Int) ∈ S then some [(m : Int)] else some []) (hCm : C[m]? = some [])
    (hlt : ∀ z ∈ S, z < (m : Int)) (hj1 : ∀ k : Nat, (k : Int) ∈ S → (cnt S (k + 1) = 0 ↔ k + 1 = j)) (hj2 : ∀ k : Nat, (k : Int) ∉ S → k + 1 ≠ j) (hh : ∀ k, k ≤ m → ∃ q, heapAt m j k = some q) (he : heapAt m j (m + 1) = some []) :
    ∀ (d k : Nat) (f : Nat) (waits q : List Int), k + d = m + 1 → heapAt m j k = some q → waits.length = m + 1 → waits[m]? = some ((cnt S k : Nat) : Int) → goM (sg (m + 1) (m + 1)) (m + 1) C (f + d + 1) waits q (outs k) = some (outs (m + 1))
  | 0, k, f, waits, q, hd, hq, hw, hwm => by
    obtain rfl : k = m + 1 := by omega
    rw [he] at hq
    obtain rfl := Option.some.inj hq
    rw [goM]
  | d + 1, k, f, waits, q, hd, hq, hw, hwm => by
    obtain ⟨q2, hq2⟩ : ∃ q2, heapAt m j (k + 1) = some q2 := by
      by_cases h : k + 1 ≤ m
      · exact hh (k + 1) h
      · obtain rfl : k = m := by omega
        exact ⟨[], he⟩
    obtain ⟨r, hp, hr⟩ := heap_next hq hq2
    have hcl : cnt S k ≤ 1000 := Nat.le_trans (List.length_filter_le _ _) hl
    by_cases hkS : (k : Int) ∈ S
    · have hkm : k < m := by have := hlt _ hkS; omega
      have hc := cnt_in hn hkS
      have hrow : C[k]? = some [(m : Int)] := by rw [hC k hkm, if_pos hkS]
      have hfree : freeM (sg (m + 1) (m + 1)) [(m : Int)] (waits, r) = some (waits.set m ((cnt S (k + 1) : Nat) : Int), q2) := by
        rw [freeM]
        simp only [hw]
        rw [ix_nat (by omega)]
        simp only [Option.bind_some, hwm]
        rw [if_pos (by omega)]
        have ex : ((cnt S k : Nat) : Int) - 1 = ((cnt S (k + 1) : Nat) : Int) := by omega
        rw [ex]
        by_cases h0 : cnt S (k + 1) = 0
        · rw [if_pos (by omega), sg_parts (by omega)]
          simp only [Option.bind_some, List.getElem?_cons_zero]
          rw [if_pos ((hj1 k hkS).1 h0)] at hr
          rw [hr]
          simp only [Option.bind_some, freeM]
        · rw [if_neg (by omega)]
          rw [if_neg (fun e => h0 ((hj1 k hkS).2 e))] at hr
          obtain rfl := Option.some.inj hr
          simp only [freeM]
      rw [show f + (d + 1) + 1 = (f + d + 1) + 1 by omega, go_one hp (by omega) hrow (by rw [outs_len]; omega) hfree, ← outs_more]
      exact go_star hm hn hl hC hCm hlt hj1 hj2 hh he d (k + 1) f _ _ (by omega) hq2 (by simpa using hw) (by rw [List.getElem?_set_self (by omega)])
    · have hrow : C[k]? = some [] := by
        by_cases h : k < m
        · rw [hC k h, if_neg hkS]
        · obtain rfl : k = m := by omega
          exact hCm
      rw [if_neg (hj2 k hkS)] at hr
      obtain rfl := Option.some.inj hr
      have hfree : freeM (sg (m + 1) (m + 1)) [] (waits, r) = some (waits, r) := rfl
      rw [show f + (d + 1) + 1 = (f + d + 1) + 1 by omega, go_one hp (by omega) hrow (by rw [outs_len]; omega) hfree, ← outs_more]
      exact go_star hm hn hl hC hCm hlt hj1 hj2 hh he d (k + 1) f _ _ (by omega) hq2 hw (by rw [cnt_not hkS]; exact hwm)
end Go.Proofs.YtkiimljdoebclaaDoor.Gm
/- A star: Parts. -/
namespace Go.Proofs.YtkiimljdoebclaaDoor.Gm
open Go Go.Proofs.YtkiimljdoebclaaDoor
set_option linter.unusedVariables false
set_option linter.unusedSimpArgs false

theorem first_leaf {s : Fdr} {W : Ws} : ∀ (k v : Nat) (rest : List (List Int)), v + k ≤ 13 → (∀ u : Nat, v ≤ u → u < v + k → W.waits[u]? = some 0) → firstM s W v (((List.range' v k).map fun i => [((i : Nat) : Int)]) ++ rest) (nums v) = firstM s W (v + k) rest (nums (v + k))
  | 0, v, rest, _, _ => rfl
  | k + 1, v, rest, hv, hw => by
    rw [List.range'_succ, List.map_cons, List.cons_append, firstM, hw v (Nat.le_refl _) (by omega)]
    simp only [Option.bind_some, if_true, List.getElem?_cons_zero]
    rw [push_next (by omega)]
    simp only [Option.bind_some]
    rw [first_leaf k (v + 1) rest (by omega) (fun u a b => hw u (by omega) (by omega)), show v + (k + 1) = v + 1 + k by omega]
theorem outs_range (m : Nat) : outs (m + 1) = ((List.range' 0 m).map fun i => [((i : Nat) : Int)]) ++ [[(m : Int)]] := by
  rw [outs_more, outs, List.range_eq_range']
/-- The last one of S, and one. -/
def lastJ (S : List Int) : Nat := match S.getLast? with | none => 0 | some z => z.toNat + 1
theorem last_facts {S : List Int} (hr : Rising S) (hb : ∀ z ∈ S, ∃ u : Nat, z = (u : Int)) : (∀ k : Nat, (k : Int) ∈ S → (cnt S (k + 1) = 0 ↔ k + 1 = lastJ S)) ∧ (∀ k : Nat, (k : Int) ∉ S → k + 1 ≠ lastJ S) ∧ (lastJ S = 0 ↔ S = []) ∧ (∀ m : Nat, (∀ z ∈ S, z < (m : Int)) → lastJ S ≤ m) := by
  rcases List.eq_nil_or_concat S with rfl | ⟨A, z, rfl⟩
  · refine ⟨fun k h => (by cases h), fun k _ => ?_, by simp [lastJ], fun m _ => by simp [lastJ]⟩
    simp [lastJ]
  · rw [List.concat_eq_append] at *
    obtain ⟨u, rfl⟩ := hb z (by simp)
    have hj : lastJ (A ++ [(u : Int)]) = u + 1 := by simp [lastJ]
    have hle : ∀ x ∈ A ++ [(u : Int)], x ≤ (u : Int) := by
      intro x hx
      rcases List.mem_append.1 hx with h | h
      · exact (List.pairwise_append.1 hr).2.2 x h (u : Int) (by simp)
      · have : x = (u : Int) := by simpa using h
        omega
    refine ⟨fun k hk => ?_, fun k hk e => ?_, ?_, fun m hm => ?_⟩
    · rw [hj]
      unfold cnt
      rw [List.length_eq_zero_iff, List.filter_eq_nil_iff]
      constructor
      · intro h
        have h1 := h (u : Int) (by simp)
        have h2 := hle _ hk
        simp at h1
        omega
      · intro e x hx
        have := hle x hx
        simp
        omega
    · rw [hj] at e
      obtain rfl : k = u := by omega
      exact hk (by simp)
    · rw [hj]
      constructor
      · intro e; omega
      · intro e; simp at e
    · rw [hj]
      have := hm (u : Int) (by simp)
      omega
theorem cnt_zero {S : List Int} (hb : ∀ z ∈ S, ∃ u : Nat, z = (u : Int)) : cnt S 0 = S.length := by
  unfold cnt
  rw [List.filter_eq_self.2]
  intro z hz
  obtain ⟨u, rfl⟩ := hb z hz
  simp
theorem parts_star {m : Nat} {S : List Int} (h0 : 0 < m) (hm : m ≤ 12) (hr : Rising S) (hn : S.Nodup) (hl : S.length ≤ 12) (hS : ∀ z ∈ S, ∃ u : Nat, z = (u : Int) ∧ u < m) :
    partsM (m + 1) (starC m S) 40 = some (outs (m + 1)) := by
  have hb : ∀ z ∈ S, ∃ u : Nat, z = (u : Int) := fun z hz => by obtain ⟨u, e, _⟩ := hS z hz; exact ⟨u, e⟩
  have hlt : ∀ z ∈ S, z < (m : Int) := fun z hz => by obtain ⟨u, e, _⟩ := hS z hz; omega
  obtain ⟨hj1, hj2, hj0, hjm⟩ := last_facts hr hb
  have hch := chain_ok h0 hm (hjm m hlt)
  unfold chainOk at hch
  simp only [Bool.and_eq_true, List.all_eq_true, List.mem_range, beq_iff_eq] at hch
  unfold partsM
  rw [finder_all (f := 39) (by omega) (star_back hS)]
  simp only [Option.bind_some]
  rw [if_neg (by rw [sg_okParts (by omega)]; simp), sg_parts_len]
  have hparts : (sg (m + 1) (m + 1)).parts = ((List.range' 0 m).map fun i => [((i : Nat) : Int)]) ++ [[(m : Int)]] := outs_range m
  obtain ⟨sn, hps⟩ := ps_leaf (n := m + 1) (s := sg (m + 1) (m + 1)) (cs := starC m S) m 0 [[(m : Int)]] ⟨List.replicate (m + 1) [], List.replicate (m + 1) 0, []⟩ (fun v _ b => ⟨by omega, star_leaf (by omega)⟩)
  rw [hparts, hps, Nat.zero_add, psM, vsM, ix_nat (by omega)]
  simp only [Option.bind_some, star_main]
  obtain ⟨W', e1, e2, e3, e4, e5⟩ := edges_star (m := m) S ⟨List.replicate (m + 1) [], List.replicate (m + 1) 0, [((m : Int), 1)]⟩ 0 hn (fun z hz => by
    obtain ⟨u, rfl, hu⟩ := hS z hz
    refine ⟨u, rfl, hu, ?_, ?_⟩
    · simp only; rw [List.getElem?_replicate, if_pos (by omega)]
    · simp only [kget_cons]
      rw [if_neg (by omega)]
      rfl) (by simp) (by simp only; rw [List.getElem?_replicate, if_pos (by omega)]; rfl) (by omega) (by simp; omega)
  rw [e1]
  simp only [Option.bind_some, vsM, psM]
  have hwu : ∀ u : Nat, 0 ≤ u → u < 0 + m → W'.waits[u]? = some 0 := fun u _ hu => by
    rw [e4]; simp only; rw [List.getElem?_set_ne (by omega), List.getElem?_replicate, if_pos (by omega)]
  have hwm : W'.waits[m]? = some ((S.length : Nat) : Int) := by
    rw [e4]; simp only; rw [List.getElem?_set_self (by simp)]; simp
  have hfirst := first_leaf (s := sg (m + 1) (m + 1)) (W := W') m 0 [[(m : Int)]] (by omega) hwu
  rw [Nat.zero_add, show nums 0 = ([] : List Int) from rfl] at hfirst
  rw [hfirst, firstM, hwm]
  simp only [Option.bind_some, List.getElem?_cons_zero]
  have hq : ∃ q, (if ((S.length : Nat) : Int) = 0 then (pushM (nums m) (m : Int)).bind (firstM (sg (m + 1) (m + 1)) W' (m + 1) []) else firstM (sg (m + 1) (m + 1)) W' (m + 1) [] (nums m)) = some q ∧ heapAt m (lastJ S) 0 = some q := by
    by_cases hs : S = []
    · subst hs
      rw [if_pos (by simp), push_next (by omega), heapAt, if_pos (hj0.2 rfl)]
      exact ⟨_, rfl, rfl⟩
    · have : S.length ≠ 0 := fun e => hs (List.length_eq_zero_iff.1 e)
      rw [if_neg (by omega), heapAt, if_neg (fun e => hs (hj0.1 e))]
      exact ⟨_, rfl, rfl⟩
  obtain ⟨q, hq1, hq2⟩ := hq
  rw [hq1]
  simp only [Option.bind_some]
  have h := go_star (m := m) (j := lastJ S) (S := S) (C := W'.callers) hm hn (by omega) (fun u hu => by rw [e3 u hu]; simp only; rw [show (List.replicate (m + 1) ([] : List Int))[u]? = some [] by rw [List.getElem?_replicate, if_pos (by omega)]]) (by rw [e5]; simp only; rw [List.getElem?_replicate, if_pos (by omega)]) hlt hj1 hj2 (fun k hk => Option.isSome_iff_exists.1 (hch.2 k (by omega))) hch.1 (m + 1) 0 (38 - m) W'.waits q (by omega) hq2 (by rw [e4]; simp) (by rw [hwm, cnt_zero hb])
  rw [show 38 - m + (m + 1) + 1 = 40 by omega] at h
  exact h
end Go.Proofs.YtkiimljdoebclaaDoor.Gm
/- A star: Reach. -/
namespace Go.Proofs.YtkiimljdoebclaaDoor.Gm
open Go Go.Proofs.YtkiimljdoebclaaDoor
set_option linter.unusedVariables false
set_option linter.unusedSimpArgs false

def starF (m t : Nat) : List (List Int) := List.replicate m [] ++ [[(t : Int)]]
def takeAll : List Int → List (Int × Int) → List (Int × Int)
  | [], al => al
  | z :: R, al => takeAll R (if (kget al z).getD 0 ≠ 0 then al else kput al z 1)
theorem reach_leaf {m t : Nat} {S : List Int} : ∀ (R : List Int) (al : List (Int × Int)) (f : Nat), (∀ z ∈ R, ∃ u : Nat, z = (u : Int) ∧ u < m) → R.length + al.length ≤ 900000 → reachM (m + 1) (starC m S) (starF m t) (f + R.length + 1) R.reverse al = some (takeAll R al)
  | [], al, f, _, _ => rfl
  | z :: R, al, f, h, hl => by
    obtain ⟨u, rfl, hu⟩ := h z (by simp)
    rw [List.length_cons] at hl
    rw [List.length_cons, show f + (R.length + 1) + 1 = (f + R.length + 1) + 1 by omega, reachM, takeAll]
    simp only [List.reverse_cons, List.getLast?_append, List.getLast?_singleton, Option.some_or, List.dropLast_concat]
    by_cases hk : (kget al (u : Int)).getD 0 ≠ 0
    · rw [if_pos hk, if_pos hk]
      exact reach_leaf R al f (fun z hz => h z (by simp [hz])) (by omega)
    · rw [if_neg hk, if_neg hk, ix_nat (by omega)]
      simp only [Option.bind_some]
      rw [star_leaf hu, show (starF m t)[u]? = some [] by unfold starF; rw [List.getElem?_append_left (by simpa using hu), List.getElem?_replicate, if_pos hu]]
      simp only [Option.bind_some, List.append_nil]
      rw [if_pos (by simp; omega)]
      have := kput_le al (u : Int) 1
      exact reach_leaf R _ f (fun z hz => h z (by simp [hz])) (by omega)
/-- A set whose members are told by a one. -/
structure Ones (al : List (Int × Int)) : Prop where
  once : KOnce al
  one : ∀ x v, kget al x = some v → v = 1
theorem Ones.mem {al : List (Int × Int)} (h : Ones al) {x : Int} : (kget al x).getD 0 ≠ 0 ↔ x ∈ keys al := by
  rw [← kget_key]
  cases e : kget al x with
  | none => simp
  | some v => have := h.one x v e; subst this; simp
theorem Ones.put {al : List (Int × Int)} (h : Ones al) (z : Int) : Ones (kput al z 1) := by
  refine ⟨h.once.put z 1, fun x v hx => ?_⟩
  by_cases e : x = z
  · subst e
    rw [kget_put_same] at hx
    exact (Option.some.inj hx).symm
  · rw [kget_put_other _ _ e] at hx
    exact h.one x v hx
theorem mem_put {al : List (Int × Int)} {z x : Int} : x ∈ keys (kput al z 1) ↔ x = z ∨ x ∈ keys al := by
  rw [← kget_key, ← kget_key]
  by_cases e : x = z
  · subst e; rw [kget_put_same]; simp
  · rw [kget_put_other _ _ e]; simp [e]
theorem takeAll_ones : ∀ (R : List Int) (al : List (Int × Int)), Ones al → Ones (takeAll R al) ∧ ∀ x, x ∈ keys (takeAll R al) ↔ x ∈ R ∨ x ∈ keys al
  | [], al, h => ⟨h, fun x => by simp [takeAll]⟩
  | z :: R, al, h => by
    rw [takeAll]
    by_cases hk : (kget al z).getD 0 ≠ 0
    · rw [if_pos hk]
      obtain ⟨h1, h2⟩ := takeAll_ones R al h
      refine ⟨h1, fun x => ?_⟩
      rw [h2 x, List.mem_cons]
      have hz := h.mem.1 hk
      constructor
      · rintro (e | e)
        · exact .inl (.inr e)
        · exact .inr e
      · rintro ((e | e) | e)
        · rw [e]; exact .inr hz
        · exact .inl e
        · exact .inr e
    · rw [if_neg hk]
      obtain ⟨h1, h2⟩ := takeAll_ones R (kput al z 1) (h.put z)
      refine ⟨h1, fun x => ?_⟩
      rw [h2 x, mem_put, List.mem_cons]
      constructor
      · rintro (e | e | e)
        · exact .inl (.inr e)
        · exact .inl (.inl e)
        · exact .inr e
      · rintro ((e | e) | e)
        · exact .inr (.inl e)
        · exact .inl e
        · exact .inr (.inr e)
theorem reach_star {m t : Nat} {S T : List Int} (hm : m ≤ 12) (ht : t < m) (hS : ∀ z ∈ S, ∃ u : Nat, z = (u : Int) ∧ u < m) (hl : S.length ≤ 12) (hr : Rising T) (hn : T.Nodup) (hT : ∀ x, x ∈ T ↔ x ∈ S ∨ x = (t : Int) ∨ x = (m : Int)) :
    ∃ al, reachM (m + 1) (starC m S) (starF m t) 40 [(m : Int)] [] = some al ∧ al.length = T.length ∧ isort (keys al) = T := by
  have hones : Ones ([((m : Int), 1)] : List (Int × Int)) := by
    have h0 : Ones [] := ⟨trivial, fun x v h => by cases h⟩
    exact h0.put (m : Int)
  obtain ⟨h1, h2⟩ := takeAll_ones ((t : Int) :: S.reverse) [((m : Int), 1)] hones
  refine ⟨takeAll ((t : Int) :: S.reverse) [((m : Int), 1)], ?_, ?_⟩
  · rw [reachM]
    simp only [List.getLast?_singleton, List.dropLast_singleton]
    rw [if_neg (by simp [kget]), ix_nat (by omega)]
    simp only [Option.bind_some]
    rw [star_main, show (starF m t)[m]? = some [(t : Int)] by unfold starF; rw [List.getElem?_append_right (by simp)]; simp]
    simp only [Option.bind_some, List.nil_append]
    rw [if_pos (by simp; omega)]
    have h := reach_leaf (m := m) (t := t) (S := S) ((t : Int) :: S.reverse) [((m : Int), 1)] (37 - S.length) (fun z hz => by
      rcases List.mem_cons.1 hz with e | e
      · exact ⟨t, e, ht⟩
      · exact hS z (List.mem_reverse.1 e)) (by simp; omega)
    simp only [List.length_cons, List.length_reverse, List.reverse_cons, List.reverse_reverse] at h
    rw [show 37 - S.length + (S.length + 1) + 1 = 39 by omega] at h
    exact h
  · have hp : T.Perm (keys (takeAll ((t : Int) :: S.reverse) [((m : Int), 1)])) := by
      rw [List.perm_ext_iff_of_nodup hn (keys_nodup h1.once)]
      intro x
      rw [hT x, h2 x]
      simp [keys]
      constructor
      · rintro (e | e | e)
        · exact .inl (.inr e)
        · exact .inl (.inl e)
        · exact .inr e
      · rintro ((e | e) | e)
        · exact .inr (.inl e)
        · exact .inl e
        · exact .inr (.inr e)
    refine ⟨?_, (isort_of hp hr).symm⟩
    have := hp.length_eq
    unfold keys at this
    rw [List.length_map] at this
    exact this.symm
end Go.Proofs.YtkiimljdoebclaaDoor.Gm
