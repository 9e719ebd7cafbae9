/- The work list: what holds while it is gone through. -/
import Derived.Test.YtpjilcfmcbapcaaDoorLvMath
namespace Go.Proofs.YtpjilcfmcbapcaaDoor
open Go.RowKit
set_option linter.unusedVariables false
set_option linter.unusedSimpArgs false

def upd {α : Type} (f : Nat → α) (i : Nat) (v : α) : Nat → α := fun b => if b = i then v else f b
theorem upd_same {α : Type} (f : Nat → α) (i : Nat) (v : α) : upd f i v i = v := if_pos rfl
theorem upd_ne {α : Type} (f : Nat → α) {i b : Nat} (v : α) (h : b ≠ i) : upd f i v b = f b := if_neg h
/-- A sum, and one of it turned. -/
def mu (f : Nat → Nat) : Nat → Nat
  | 0 => 0
  | n + 1 => mu f n + f n
theorem mu_out (f : Nat → Nat) (p v : Nat) : ∀ n, n ≤ p → mu (upd f p v) n = mu f n
  | 0, _ => rfl
  | n + 1, h => by unfold mu; rw [mu_out f p v n (by omega), upd_ne f v (by omega)]
theorem mu_upd (f : Nat → Nat) (p v : Nat) : ∀ n, p < n → mu (upd f p v) n + f p = mu f n + v
  | 0, h => by omega
  | n + 1, h => by
    unfold mu
    by_cases e : n = p
    · subst e; rw [mu_out f n v n (Nat.le_refl _), upd_same]; omega
    · rw [upd_ne f v e]; have := mu_upd f p v n (by omega); omega
theorem nodup_le : ∀ (n : Nat) (l : List Nat), l.Nodup → (∀ x ∈ l, x < n) → l.length ≤ n
  | 0, l, _, h => by
    cases l with
    | nil => exact Nat.le_refl _
    | cons x t => exact absurd (h x (List.mem_cons_self ..)) (by omega)
  | n + 1, l, hn, h => by
    by_cases hm : n ∈ l
    · have h1 := nodup_le n (l.erase n) (hn.erase n) (fun x hx => by
        have h2 := (hn.mem_erase_iff).1 hx
        have := h x h2.2
        omega)
      rw [List.length_erase_of_mem hm] at h1
      omega
    · have h1 := nodup_le n l hn (fun x hx => by
        have := h x hx
        have : x ≠ n := fun e => hm (e ▸ hx)
        omega)
      omega
section
variable {bl : List (List Ix)} {S : Nat} {O I : Nat → Nat} {wl : List Nat}
/-- What holds ahead of each round. -/
structure WInv (bl : List (List Ix)) (S : Nat) (O I : Nat → Nat) (wl : List Nat) : Prop where
  sound : ∀ G, Post bl G → ∀ p, p < bl.length → Sub (O p) (G p)
  done : ∀ c, c < bl.length → c ∉ wl → I c = backs (blk bl c) (O c) ∧ ∀ p, p < bl.length → (c : Int) ∈ lastTo (blk bl p) → Sub (backs (blk bl c) (O c)) (O p)
  nd : wl.Nodup
  lt : ∀ b ∈ wl, b < bl.length
  bd : ∀ p, p < bl.length → O p < 2 ^ S ∧ I p < 2 ^ S
/-- Within one: b's beginning is Y, ps have been joined. -/
structure RInv (bl : List (List Ix)) (S : Nat) (O I : Nat → Nat) (wl : List Nat) (b Y Ob : Nat) (ps : List Int) : Prop where
  sound : ∀ G, Post bl G → ∀ p, p < bl.length → Sub (O p) (G p)
  done : ∀ c, c < bl.length → c ≠ b → c ∉ wl → I c = backs (blk bl c) (O c) ∧ ∀ p, p < bl.length → (c : Int) ∈ lastTo (blk bl p) → Sub (backs (blk bl c) (O c)) (O p)
  self : b ∉ wl → O b = Ob ∧ ∀ p ∈ ps, Sub Y (O p.toNat)
  nd : wl.Nodup
  lt : ∀ c ∈ wl, c < bl.length
  bd : ∀ p, p < bl.length → O p < 2 ^ S ∧ I p < 2 ^ S
  ib : I b = Y
  yb : Y = backs (blk bl b) Ob
  ys : ∀ G, Post bl G → ∀ p, p < bl.length → (b : Int) ∈ lastTo (blk bl p) → Sub Y (G p)
  blt : b < bl.length
  yl : Y < 2 ^ S
theorem WInv.start (bl : List (List Ix)) (S : Nat) (wl : List Nat) (hw : ∀ c, c < bl.length → c ∈ wl) (nd : wl.Nodup) (lt : ∀ b ∈ wl, b < bl.length) : WInv bl S (fun _ => 0) (fun _ => 0) wl :=
  ⟨fun _ _ _ _ => zero_sub _, fun c hc hn => absurd (hw c hc) hn, nd, lt, fun _ _ => ⟨Nat.pow_pos (by decide), Nat.pow_pos (by decide)⟩⟩
theorem WInv.pop {b : Nat} (h : WInv bl S O I (wl ++ [b])) (hY : backs (blk bl b) (O b) < 2 ^ S) : RInv bl S O (upd I b (backs (blk bl b) (O b))) wl b (backs (blk bl b) (O b)) (O b) [] := by
  have hb := h.lt b (by simp)
  refine ⟨h.sound, fun c hc hcb hn => ?_, fun _ => ⟨rfl, fun p hp => by cases hp⟩, (List.nodup_append.1 h.nd).1, fun c hc => h.lt c (by simp [hc]), fun p hp => ⟨(h.bd p hp).1, ?_⟩, upd_same _ _ _, rfl, fun G hG p hp he => ?_, hb, hY⟩
  · rw [upd_ne _ _ hcb]
    exact h.done c hc (by simp [hn, hcb])
  · by_cases e : p = b
    · subst e; rw [upd_same]; exact hY
    · rw [upd_ne _ _ e]; exact (h.bd p hp).2
  · exact (backs_mono _ (h.sound G hG b hb)).trans (hG p b hp hb he)
theorem RInv.join {b Y Ob p : Nat} {ps : List Int} (h : RInv bl S O I wl b Y Ob ps) (hp : p < bl.length) (he : (b : Int) ∈ lastTo (blk bl p)) (wl' : List Nat) (hw : wl' = if O p ||| Y ≠ O p ∧ p ∉ wl then wl ++ [p] else wl) :
    RInv bl S (upd O p (O p ||| Y)) I wl' b Y Ob (ps ++ [(p : Int)]) := by
  have hsub : ∀ c, c ∉ wl' → c ∉ wl := fun c hc hm => hc (by rw [hw]; split <;> simp [hm])
  have hch : ∀ c, c ∉ wl' → upd O p (O p ||| Y) c = O c := fun c hc => by
    by_cases e : c = p
    · subst e
      rw [upd_same]
      by_cases h1 : O c ||| Y ≠ O c
      · have h2 := hsub c hc
        rw [hw, if_pos ⟨h1, h2⟩] at hc
        exact absurd (by simp) hc
      · exact Decidable.not_not.1 h1
    · rw [upd_ne _ _ e]
  have hgr : ∀ c, Sub (O c) (upd O p (O p ||| Y) c) := fun c => by
    by_cases e : c = p
    · subst e; rw [upd_same]; exact sub_or_left _ _
    · rw [upd_ne _ _ e]; exact Sub.refl _
  refine ⟨fun G hG c hc => ?_, fun c hc hcb hn => ?_, fun hn => ?_, ?_, fun c hc => ?_, fun c hc => ⟨?_, (h.bd c hc).2⟩, h.ib, h.yb, h.ys, h.blt, h.yl⟩
  · by_cases e : c = p
    · subst e; rw [upd_same]; exact (h.sound G hG c hc).or (h.ys G hG c hc he)
    · rw [upd_ne _ _ e]; exact h.sound G hG c hc
  · rw [hch c hn]
    obtain ⟨h1, h2⟩ := h.done c hc hcb (hsub c hn)
    exact ⟨h1, fun q hq hqe => (h2 q hq hqe).trans (hgr q)⟩
  · obtain ⟨h1, h2⟩ := h.self (hsub b hn)
    refine ⟨by rw [hch b hn]; exact h1, fun q hq => ?_⟩
    rw [List.mem_append, List.mem_singleton] at hq
    rcases hq with hq | rfl
    · exact (h2 q hq).trans (hgr _)
    · show Sub Y (upd O p (O p ||| Y) p); rw [upd_same]; exact sub_or_right _ _
  · rw [hw]
    split
    · rename_i hh
      rw [List.nodup_append]
      exact ⟨h.nd, by simp, fun a ha c hc e => by rw [List.mem_singleton] at hc; subst hc; subst e; exact hh.2 ha⟩
    · exact h.nd
  · rw [hw] at hc
    split at hc
    · rw [List.mem_append, List.mem_singleton] at hc
      rcases hc with hc | rfl
      · exact h.lt c hc
      · exact hp
    · exact h.lt c hc
  · by_cases e : c = p
    · subst e; rw [upd_same]; exact Nat.or_lt_two_pow (h.bd c hc).1 h.yl
    · rw [upd_ne _ _ e]; exact (h.bd c hc).1
theorem RInv.fin {b Y Ob : Nat} {ps : List Int} (h : RInv bl S O I wl b Y Ob ps) (hps : ∀ p, p < bl.length → (b : Int) ∈ lastTo (blk bl p) → (p : Int) ∈ ps) : WInv bl S O I wl :=
  ⟨h.sound, fun c hc hn => by
    by_cases e : c = b
    · subst e
      obtain ⟨h1, h2⟩ := h.self hn
      rw [h1, h.ib, ← h.yb]
      exact ⟨rfl, fun p hp he => h2 _ (hps p hp he)⟩
    · exact h.done c hc e hn, h.nd, h.lt, h.bd⟩
theorem WInv.least (h : WInv bl S O I []) : Least bl O ∧ ∀ c, c < bl.length → I c = backs (blk bl c) (O c) :=
  ⟨⟨fun p c hp hc he => (h.done c hc (by simp)).2 p hp he, h.sound⟩, fun c hc => (h.done c hc (by simp)).1⟩
/-- What goes down from round to round. -/
def cost (S n : Nat) (O : Nat → Nat) (wl : List Nat) : Nat := mu (fun b => 2 ^ S - O b) n * (n + 1) + wl.length
theorem cost_join (S n : Nat) (O : Nat → Nat) (wl wl' : List Nat) (p Y : Nat) (hp : p < n) (hl : O p ||| Y < 2 ^ S) (hw : wl' = if O p ||| Y ≠ O p ∧ p ∉ wl then wl ++ [p] else wl) : cost S n (upd O p (O p ||| Y)) wl' ≤ cost S n O wl := by
  have hle : O p ≤ O p ||| Y := (sub_or_left _ _).le
  have e : (fun b => 2 ^ S - upd O p (O p ||| Y) b) = upd (fun b => 2 ^ S - O b) p (2 ^ S - (O p ||| Y)) := by
    funext b
    by_cases e : b = p
    · subst e; rw [upd_same, upd_same]
    · rw [upd_ne _ _ e, upd_ne _ _ e]
  have h1 := mu_upd (fun b => 2 ^ S - O b) p (2 ^ S - (O p ||| Y)) n hp
  unfold cost
  rw [e, hw]
  generalize 2 ^ S = P at *
  generalize mu (upd (fun b => P - O b) p (P - (O p ||| Y))) n = m1 at *
  generalize mu (fun b => P - O b) n = m0 at *
  split
  · rename_i hh
    have hlt : m1 + 1 ≤ m0 := by have := hh.1; omega
    rw [List.length_append, List.length_singleton]
    have h2 : (m1 + 1) * (n + 1) ≤ m0 * (n + 1) := Nat.mul_le_mul_right _ hlt
    rw [Nat.add_mul] at h2
    omega
  · have h2 : m1 * (n + 1) ≤ m0 * (n + 1) := Nat.mul_le_mul_right _ (by omega)
    omega
end
end Go.Proofs.YtpjilcfmcbapcaaDoor
