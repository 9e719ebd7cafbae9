/- Read, whole. -/
import Derived.Test.YtjchfldlmabblaaMmReadB
import Derived.Test.YtjchfldlmabblaaMmReadC
import Derived.Test.YtjchfldlmabblaaMmReadD
namespace Go.Proofs.Ytjchfldlmabblaa
open Go.RowKit Go.Maps
set_option linter.unusedVariables false

theorem look_any {w : World} {d : Bk} (h : BlkAs w d) {o : Int} {t : ByteArray} (hk : ckOk (o, t)) (W : World) (hK : Keeps No w W) :
    (Instr.lookup 97 (.map d.hm) (.agg #[.int .i64 o, .string t]) true).run Try.prog W = .ok (.tuple #[va ((kget d.held (o, t)).getD v0), .bool (kget d.held (o, t)).isSome]) W := by
  cases hm : d.hm with
  | none => rw [h.hn hm]; exact look_nil o t W
  | some m => exact look_held ((h.no hK).hs m hm) hk
theorem read_any (S : Sd) (p : Vl) (t : ByteArray) (w : World) (h : StoreAs w S) (hp : vlOk p) (ht : t.size ≤ maxLen) :
    Calls Try.prog 35 #[.pointer (some ⟨S.s, 0, none⟩), va p, .string t] w fun e w' => e = .returned (.tuple #[va (readV S.view p t).1, .bool (readV S.view p t).2]) ∧ Keeps No w w' := by
  cases hX : (cellV S.view p t).isSome with
  | false =>
    rw [show readV S.view p t = (v0, false) by unfold readV; rw [cell_not hX]]
    exact read_not S p t w h hp ht hX
  | true =>
    obtain ⟨d, hk, hd, hK, hc, _⟩ := cell_yes hX
    have hb := (h.b p.b d hd).1
    have hck : ckOk (p.o, t) := ⟨hp.2.2.2, ht⟩
    have HL := Lib.hid (fun W hk => look_any hb hck W hk)
    have hr : readV S.view p t = if (d.get (p.o, t)).k = 0 then (v0, false) else (d.get (p.o, t), true) := by unfold readV; rw [hc]; rfl
    by_cases hw : d.wr = true
    · by_cases hf : d.f = (p.o, t)
      · have hg : d.get (p.o, t) = d.one := by unfold Bk.get; rw [if_pos ⟨hw, hf⟩]
        rw [hg] at hr
        by_cases h0 : d.one.k = 0
        · rw [hr, if_pos h0]; exact read_one0 S p t w h hp ht d hX hd hK _ rfl hw hf h0
        · rw [hr, if_neg h0]; exact read_one S p t w h hp ht d hX hd hK _ rfl hw hf h0
      · have hg : d.get (p.o, t) = (kget d.held (p.o, t)).getD v0 := by unfold Bk.get; rw [if_neg (fun e => hf e.2)]
        rw [hg] at hr
        by_cases ho : d.f.1 = p.o
        · have hft : d.f.2 ≠ t := fun e => hf (by rw [← ho, ← e])
          cases hB : (kget d.held (p.o, t)).isSome with
          | false =>
            have e0 : kget d.held (p.o, t) = none := by cases e : kget d.held (p.o, t) with
              | none => rfl
              | some y => rw [e] at hB; cases hB
            rw [e0] at hr
            rw [hr, show (if (Option.getD none v0).k = 0 then (v0, false) else ((Option.getD none v0), true)) = (v0, false) from rfl]
            exact read_g0 S p t w h hp ht d hX hd hK _ _ hw ho hft HL hB
          | true =>
            by_cases h0 : ((kget d.held (p.o, t)).getD v0).k = 0
            · rw [hr, if_pos h0]; exact read_g1 S p t w h hp ht d hX hd hK _ _ hw ho hft HL hB h0
            · rw [hr, if_neg h0]; exact read_g2 S p t w h hp ht d hX hd hK _ _ hw ho hft HL hB h0
        · cases hB : (kget d.held (p.o, t)).isSome with
          | false =>
            have e0 : kget d.held (p.o, t) = none := by cases e : kget d.held (p.o, t) with
              | none => rfl
              | some y => rw [e] at hB; cases hB
            rw [e0] at hr
            rw [hr, show (if (Option.getD none v0).k = 0 then (v0, false) else ((Option.getD none v0), true)) = (v0, false) from rfl]
            exact read_f0 S p t w h hp ht d hX hd hK _ _ hw ho HL hB
          | true =>
            by_cases h0 : ((kget d.held (p.o, t)).getD v0).k = 0
            · rw [hr, if_pos h0]; exact read_f1 S p t w h hp ht d hX hd hK _ _ hw ho HL hB h0
            · rw [hr, if_neg h0]; exact read_f2 S p t w h hp ht d hX hd hK _ _ hw ho HL hB h0
    · have hg : d.get (p.o, t) = (kget d.held (p.o, t)).getD v0 := by unfold Bk.get; rw [if_neg (fun e => hw e.1)]
      have hw' : d.wr = false := by cases e : d.wr with
        | false => rfl
        | true => exact absurd e hw
      rw [hg] at hr
      cases hB : (kget d.held (p.o, t)).isSome with
      | false =>
        have e0 : kget d.held (p.o, t) = none := by cases e : kget d.held (p.o, t) with
          | none => rfl
          | some y => rw [e] at hB; cases hB
        rw [e0] at hr
        rw [hr, show (if (Option.getD none v0).k = 0 then (v0, false) else ((Option.getD none v0), true)) = (v0, false) from rfl]
        exact read_w0 S p t w h hp ht d hX hd hK _ _ hw' HL hB
      | true =>
        by_cases h0 : ((kget d.held (p.o, t)).getD v0).k = 0
        · rw [hr, if_pos h0]; exact read_w1 S p t w h hp ht d hX hd hK _ _ hw' HL hB h0
        · rw [hr, if_neg h0]; exact read_w2 S p t w h hp ht d hX hd hK _ _ hw' HL hB h0
end Go.Proofs.Ytjchfldlmabblaa
