/- Runs of calls: their steps; the law IrCalls' program, as data. -/
import Derived.Test.YtbfjmhfhhlncjaaDoorIrWithin
import Derived.Test.YtbfjmhfhhlncjaaDoorIrWordsM
namespace Go.Proofs.YtbfjmhfhhlncjaaDoor
open Go.RowKit
set_option linter.unusedVariables false
set_option linter.unusedSimpArgs false

def kst (fs : List Fr1) (rg : List Int) (t : Nat) : St := ⟨fs, rg, [], [], [], 0, t, 0, 0⟩
theorem kst_next (fs : List Fr1) (fr : Fr1) (rg : List Int) (t : Nat) : (kst (fs ++ [fr]) rg t).next fs.length fr = kst (fs ++ [{ fr with at_ := fr.at_ + 1 }]) rg (t + 1) := by
  unfold St.next kst
  simp
/-- Where a run of calls stands. -/
structure KAt (fl : List Fx) (fuel : Int) (fs : List Fr1) (fr : Fr1) (rg : List Int) (t : Nat) (F : Fx) (b : Bx) (x : Ix) : Prop where
  hF : fl[fr.fi]? = some F
  hb : F.bl[fr.bl]? = some b
  hx : b.l[fr.at_]? = some x
  base : fr.base < rg.length
  rl : rg.length ≤ 900000
  k0 : fs.length ≤ 2000
  t : (t : Int) < fuel
  fu : fuel ≤ 1048576
  al : fr.at_ ≤ 1000
section
variable {fl : List Fx} {fuel : Int} {fs : List Fr1} {fr : Fr1} {rg : List Int} {t : Nat} {F : Fx} {b : Bx} {x : Ix}
theorem KAt.at_ (h : KAt fl fuel fs fr rg t F b x) (X : Sx) (hfl : X.P.fl = fl) (hfu : X.fuel = fuel) : At X (kst (fs ++ [fr]) rg t) fs.length fr F b x :=
  ⟨by show (fs ++ [fr]).length = _; simp, by have := h.k0; omega, by show (fs ++ [fr])[fs.length]? = _; simp, by rw [hfl]; exact h.hF, h.hb, h.hx, h.base, by have := h.rl; show rg.length ≤ _; omega, by rw [hfu]; have := h.t; show (t : Int) ≠ _; omega, by have := h.t; have := h.fu; show t ≤ _; omega, by have := h.al; omega⟩
theorem k_const (h : KAt fl fuel fs fr rg t F b x) (d : Nat) (n : Int) (hop : x.op = 1) (hd : x.d = d) (hn : x.n = n) (hdl : fr.base + d < rg.length) :
    StepsTo fl fuel (kst (fs ++ [fr]) rg t) (kst (fs ++ [{ fr with at_ := fr.at_ + 1 }]) (rg.set (fr.base + d) n) (t + 1)) := fun X w c hX hfl hfu hm => by
  have := step_const X hX w c _ fs.length fr F b x hm (h.at_ X hfl hfu) hop d hd hdl
  rw [kst_next, hn] at this
  exact this
theorem k_bin (h : KAt fl fuel fs fr rg t F b x) (d p q : Nat) (S zp zq : Int) (hop : x.op = 3) (hS : x.sub = S) (hd : x.d = d) (ha : x.a = p) (hb : x.b = q) (hdl : fr.base + d < rg.length) (hp : rg[fr.base + p]? = some zp) (hq : rg[fr.base + q]? = some zq) (ip : I64 zp) (iq : I64 zq) (hok : Wd.plainOk S zp zq = true) :
    StepsTo fl fuel (kst (fs ++ [fr]) rg t) (kst (fs ++ [{ fr with at_ := fr.at_ + 1 }]) (rg.set (fr.base + d) (Wd.plainV S zp zq)) (t + 1)) := fun X w c hX hfl hfu hm => by
  have := step_bin X hX w c _ fs.length fr F b x hm (h.at_ X hfl hfu) hop d hd hdl p ha zp hp ip q hb zq hq iq (by rw [hS]; exact hok)
  rw [kst_next, hS] at this
  exact this
theorem k_branch (h : KAt fl fuel fs fr rg t F b x) (p : Nat) (zp t0 t1 : Int) (tb : Nat) (tc : Nat) (hop : x.op = 15) (ha : x.a = p) (hto : x.to = ⟨some ⟨tb, 0, none⟩, 2, tc, [t0, t1]⟩) (hp : rg[fr.base + p]? = some zp) (bt : Nat) (ht : (bt : Int) = if zp = 0 then t1 else t0) :
    StepsTo fl fuel (kst (fs ++ [fr]) rg t) (kst (fs ++ [{ fr with bl := bt, at_ := 0 }]) rg (t + 1)) := fun X w c hX hfl hfu hm => by
  refine step_lead X hX w c _ fs.length fr F b x hm (h.at_ X hfl hfu) 15 hop (by decide) _ (fun w3 g ib io rb ln rc hm3 hk0 hx hxo hln hrg hcell hfs => ?_)
  rw [kst_next] at hm3
  obtain ⟨cap, hfs⟩ := hfs
  have x0 := hx 0 _ rfl
  have x3 := hx 3 _ rfl
  have x8 := hx 9 _ rfl
  rw [Nat.add_zero, hop] at x0
  rw [ha] at x3
  have hto2 := hxo.to.at_ (by rw [hto]; show 0 < 2; omega)
  rw [hto] at x8 hto2
  obtain ⟨tb', to', e, hc⟩ := hto2
  have e' : (some ⟨tb, 0, none⟩ : Option Addr) = some ⟨tb', to', none⟩ := e
  injection e' with e'
  injection e' with e1 e2 _
  subst e1; subst e2
  have y0 := hc 0 t0 rfl
  have y1 := hc 1 t1 rfl
  have hpl : fr.base + p < rg.length := (List.getElem?_eq_some_iff.1 hp).1
  have hln' : ln = rg.length - fr.base := hln
  have hrl := h.rl
  have := lead_branch X w3 c _ hm3 fs.length { fr with at_ := fr.at_ + 1 } (by show (fs ++ [_])[fs.length]? = _; simp) g cap (by show c.fs = .slice _ (fs ++ [_]).length cap; rw [List.length_append]; exact hfs) ib io rb fr.base ln rc p tb 0 tc zp t0 t1 x0 x3 x8 y0 y1 (by omega) (by omega) (hcell p zp hp) bt ht
  have e3 : { kst (fs ++ [{ fr with at_ := fr.at_ + 1 }]) rg (t + 1) with fs := (kst (fs ++ [{ fr with at_ := fr.at_ + 1 }]) rg (t + 1)).fs.set fs.length { fr with bl := bt, at_ := 0 } } = kst (fs ++ [{ fr with bl := bt, at_ := 0 }]) rg (t + 1) := by
    unfold kst; simp
  rw [← e3]
  exact this
/-- What a call hands in. -/
structure KHand (fl : List Fx) (fr : Fr1) (rg : List Int) (x : Ix) (fi : Nat) (ab ac : Nat) (rs : List Nat) (la : List Int) (R : Nat) : Prop where
  n : x.n = fi
  args : x.args = ⟨some ⟨ab, 0, none⟩, la.length, ac, rs.map (fun a : Nat => (a : Int))⟩
  len : rs.length = la.length
  l : 0 < la.length ∧ la.length ≤ 6
  c : la.length ≤ ac ∧ ac ≤ 1000000
  r : ∀ (j : Nat) a, rs[j]? = some a → ∃ z, la[j]? = some z ∧ rg[fr.base + a]? = some z
  F : ∃ F, fl[fi]? = some F ∧ F.slots.n = 0 ∧ F.regs = R
  R1 : 1 ≤ R ∧ R ≤ 256
  la : la.length ≤ R
theorem KHand.hands {fi ab ac R : Nat} {rs : List Nat} {la : List Int} (h : KHand fl fr rg x fi ab ac rs la R) {w : World} {rb ln : Nat} (hxo : IxOk w x) (hln : ln = rg.length - fr.base) (hcell : ∀ (a : Nat) (z : Int), rg[fr.base + a]? = some z → w.cell? ⟨rb, fr.base + a, none⟩ = some (.int .i64 z)) : Hands w ab 0 rb fr.base ln la := by
  refine ⟨h.l, fun j z hz => ?_⟩
  have hj : j < la.length := (List.getElem?_eq_some_iff.1 hz).1
  obtain ⟨a, ha⟩ : ∃ a, rs[j]? = some a := ⟨_, List.getElem?_eq_getElem (by rw [h.len]; exact hj)⟩
  obtain ⟨z', hz', hr⟩ := h.r j a ha
  obtain rfl : z = z' := by rw [hz] at hz'; exact Option.some.inj hz'
  have hal : fr.base + a < rg.length := (List.getElem?_eq_some_iff.1 hr).1
  refine ⟨a, by omega, ?_, hcell a z hr⟩
  have hto := hxo.args.at_ (by rw [h.args]; exact h.l.1)
  rw [h.args] at hto
  obtain ⟨b', o', e, hc⟩ := hto
  have e' : (some ⟨ab, 0, none⟩ : Option Addr) = some ⟨b', o', none⟩ := e
  injection e' with e'
  injection e' with e1 e2 _
  subst e1; subst e2
  exact hc j a (by show (rs.map _)[j]? = _; rw [List.getElem?_map, ha]; rfl)
theorem k_call (h : KAt fl fuel fs fr rg t F b x) {fi ab ac R : Nat} {rs : List Nat} {la : List Int} (hh : KHand fl fr rg x fi ab ac rs la R) (d : Int) (hop : x.op = 10) (hd : x.d = d) (hk : fs.length < 999) (hlow : fr.low = 16777216) :
    StepsTo fl fuel (kst (fs ++ [fr]) rg t) (kst (fs ++ [{ fr with at_ := fr.at_ + 1 }] ++ [⟨fi, 0, 0, rg.length, 16777216, 16777216, d⟩]) (rg ++ (la ++ List.replicate (R - la.length) 0)) (t + 1)) := fun X w c hX hfl hfu hm => by
  refine step_lead X hX w c _ fs.length fr F b x hm (h.at_ X hfl hfu) 10 hop (by decide) _ (fun w3 g ib io rb ln rc hm3 hk0 hx hxo hln hrg hcell hfs => ?_)
  rw [kst_next] at hm3
  obtain ⟨F', hF', hs', hR'⟩ := hh.F
  have x0 := hx 0 _ rfl
  have x2 := hx 2 _ rfl
  have x5 := hx 5 _ rfl
  have x8 := hx 8 _ rfl
  rw [Nat.add_zero, hop] at x0
  rw [hd] at x2
  rw [hh.n] at x5
  rw [hh.args] at x8
  have hln' : ln = rg.length - fr.base := hln
  have hrl := h.rl
  have hH := hh.hands hxo hln' hcell
  have := call_new X hX w3 c _ hm3 fs.length { fr with at_ := fr.at_ + 1 } (by show (fs ++ [_]).length = _; simp) hk (by show (fs ++ [_])[fs.length]? = _; simp) g hfs ib io rb ln rc ab 0 ac d fi la x0 x2 x5 x8 hh.c (by omega) hH F' (by rw [hfl]; exact hF') hs' R hR' hh.R1 hh.la (by show 15728640 ≤ fr.low; rw [hlow]; decide) hrl
  refine lead_call X w3 _ ib io _ _ 10 (.inl rfl) x0 ?_
  have e : (kst (fs ++ [{ fr with at_ := fr.at_ + 1 }]) rg (t + 1)).enter fi R la d fr.low = kst (fs ++ [{ fr with at_ := fr.at_ + 1 }] ++ [⟨fi, 0, 0, rg.length, 16777216, 16777216, d⟩]) (rg ++ (la ++ List.replicate (R - la.length) 0)) (t + 1) := by
    unfold St.enter kst; rw [hlow]
  rw [← e]
  exact this
theorem k_full (h : KAt fl fuel fs fr rg t F b x) (fi : Nat) (hn : x.n = fi) (hop : x.op = 10) (hk : fs.length = 999) :
    StepsTo fl fuel (kst (fs ++ [fr]) rg t) ((kst (fs ++ [{ fr with at_ := fr.at_ + 1 }]) rg (t + 1)).stop 3 0) := fun X w c hX hfl hfu hm => by
  refine step_lead X hX w c _ fs.length fr F b x hm (h.at_ X hfl hfu) 10 hop (by decide) _ (fun w3 g ib io rb ln rc hm3 hk0 hx hxo hln hrg hcell hfs => ?_)
  rw [kst_next] at hm3
  have x0 := hx 0 _ rfl
  have x5 := hx 5 _ rfl
  rw [Nat.add_zero, hop] at x0
  rw [hn] at x5
  exact lead_call X w3 _ ib io _ _ 10 (.inl rfl) x0 (call_full X w3 c _ hm3 (by show (fs ++ [_]).length = _; simp [hk]) _ ib io _ fi x0 x5)
theorem k_tail (h : KAt fl fuel fs fr rg t F b x) {fi ab ac R : Nat} {rs : List Nat} {la : List Int} (hh : KHand fl fr rg x fi ab ac rs la R) (hop : x.op = 19) (htop : fr.top = 16777216) :
    StepsTo fl fuel (kst (fs ++ [fr]) rg t) (kst (fs ++ [⟨fi, 0, 0, fr.base, 16777216, 16777216, fr.d⟩]) (rg.take fr.base ++ (la ++ List.replicate (R - la.length) 0)) (t + 1)) := fun X w c hX hfl hfu hm => by
  refine step_lead X hX w c _ fs.length fr F b x hm (h.at_ X hfl hfu) 19 hop (by decide) _ (fun w3 g ib io rb ln rc hm3 hk0 hx hxo hln hrg hcell hfs => ?_)
  rw [kst_next] at hm3
  obtain ⟨F', hF', hs', hR'⟩ := hh.F
  have x0 := hx 0 _ rfl
  have x2 := hx 2 _ rfl
  have x5 := hx 5 _ rfl
  have x8 := hx 8 _ rfl
  rw [Nat.add_zero, hop] at x0
  rw [hh.n] at x5
  rw [hh.args] at x8
  have hln' : ln = rg.length - fr.base := hln
  have hrl := h.rl
  have hbs := h.base
  have hk00 := h.k0
  have hH := hh.hands hxo hln' hcell
  have := call_tail X hX w3 c _ hm3 fs.length { fr with at_ := fr.at_ + 1 } (by show (fs ++ [_]).length = _; simp) (by omega) (by show (fs ++ [_])[fs.length]? = _; simp) g hfs ib io rb ln rc ab 0 ac x.d fi la x0 x2 x5 x8 hh.c (by omega) hH F' (by rw [hfl]; exact hF') hs' R hR' hh.R1 hh.la (by show 15728640 ≤ fr.top; rw [htop]; decide) hrl (by show 0 < rg.length; omega) (by show fr.base ≤ rg.length; omega)
  refine lead_call X w3 _ ib io _ _ 19 (.inr rfl) x0 ?_
  have e : ((kst (fs ++ [{ fr with at_ := fr.at_ + 1 }]) rg (t + 1)).leave fs.length { fr with at_ := fr.at_ + 1 }).enter fi R la fr.d fr.top = kst (fs ++ [⟨fi, 0, 0, fr.base, 16777216, 16777216, fr.d⟩]) (rg.take fr.base ++ (la ++ List.replicate (R - la.length) 0)) (t + 1) := by
    unfold St.enter St.leave kst; rw [htop]; simp; omega
  rw [← e]
  exact this
theorem k_ret1 (h : KAt fl fuel [] fr rg t F b x) (p : Nat) (zp : Int) (hop : x.op = 17) (ha : x.a = p) (hp : rg[fr.base + p]? = some zp) :
    StepsTo fl fuel (kst [fr] rg t) ((kst [{ fr with at_ := fr.at_ + 1 }] rg (t + 1)).stop 1 zp) := fun X w c hX hfl hfu hm => by
  refine step_lead X hX w c (kst ([] ++ [fr]) rg t) 0 fr F b x hm (h.at_ X hfl hfu) 17 hop (by decide) _ (fun w3 g ib io rb ln rc hm3 hk0 hx hxo hln hrg hcell hfs => ?_)
  have x0 := hx 0 _ rfl
  have x3 := hx 3 _ rfl
  rw [Nat.add_zero, hop] at x0
  rw [ha] at x3
  have hln' : ln = rg.length - fr.base := hln
  have hrl := h.rl
  have hpl : fr.base + p < rg.length := (List.getElem?_eq_some_iff.1 hp).1
  have hm4 : MAt X w3 c (kst [{ fr with at_ := fr.at_ + 1 }] rg (t + 1)) := hm3
  exact lead_ret X w3 _ ib io rb fr.base ln rc p _ zp x0 x3 (by omega) (by omega) (hcell p zp hp) (answer_one X w3 c _ hm4 rfl zp)
theorem k_ret (fs0 : List Fr1) (f0 : Fr1) (h : KAt fl fuel (fs0 ++ [f0]) fr rg t F b x) (p : Nat) (zp : Int) (hop : x.op = 17) (ha : x.a = p) (hp : rg[fr.base + p]? = some zp) (d : Nat) (hd : fr.d = d) (hdl : f0.base + d < fr.base) :
    StepsTo fl fuel (kst (fs0 ++ [f0] ++ [fr]) rg t) (kst (fs0 ++ [f0]) ((rg.take fr.base).set (f0.base + d) zp) (t + 1)) := fun X w c hX hfl hfu hm => by
  refine step_lead X hX w c _ (fs0 ++ [f0]).length fr F b x hm (h.at_ X hfl hfu) 17 hop (by decide) _ (fun w3 g ib io rb ln rc hm3 hk0 hx hxo hln hrg hcell hfs => ?_)
  rw [kst_next] at hm3
  have x0 := hx 0 _ rfl
  have x3 := hx 3 _ rfl
  rw [Nat.add_zero, hop] at x0
  rw [ha] at x3
  have hln' : ln = rg.length - fr.base := hln
  have hrl := h.rl
  have hbs := h.base
  have hk00 := h.k0
  rw [List.length_append] at hk00
  simp at hk00
  have hpl : fr.base + p < rg.length := (List.getElem?_eq_some_iff.1 hp).1
  have := answer_many X w3 c _ hm3 fs0.length { fr with at_ := fr.at_ + 1 } f0 (by show (fs0 ++ [f0] ++ [_]).length = _; simp) (by omega) (by show (fs0 ++ [f0] ++ [_])[fs0.length + 1]? = _; simp) (by show (fs0 ++ [f0] ++ [_])[fs0.length]? = _; simp) (by show fr.base ≤ rg.length; omega) (by show 0 < rg.length; omega) (by show rg.length ≤ _; omega) d hd hdl zp
  refine lead_ret X w3 _ ib io rb fr.base ln rc p _ zp x0 x3 (by omega) (by omega) (hcell p zp hp) ?_
  have e : ({ (kst (fs0 ++ [f0] ++ [{ fr with at_ := fr.at_ + 1 }]) rg (t + 1)).leave (fs0.length + 1) { fr with at_ := fr.at_ + 1 } with rg := (rg.take fr.base).set (f0.base + d) zp } : St) = kst (fs0 ++ [f0]) ((rg.take fr.base).set (f0.base + d) zp) (t + 1) := by
    have ht : (fs0 ++ [f0] ++ [{ fr with at_ := fr.at_ + 1 }]).take (fs0.length + 1) = fs0 ++ [f0] := by rw [List.take_append_of_le_length (by simp), List.take_of_length_le (by simp)]
    unfold St.leave kst; simp only [ht]
  rw [← e]
  exact this
end
end Go.Proofs.YtbfjmhfhhlncjaaDoor
/- The law IrCalls: its program's run. -/
namespace Go.Proofs.YtbfjmhfhhlncjaaDoor
open Go.RowKit
set_option linter.unusedVariables false
set_option linter.unusedSimpArgs false

structure KA where
  tb : Nat
  ab : Nat
  i0 : Nat
  i1 : Nat
  c1 : Nat
  i2 : Nat
  bb : Nat
  ac : Nat
  mi : Nat
  mb : Nat
  fb : Nat
def slI (b : Nat) (l : List Int) : Sl := ⟨some ⟨b, 0, none⟩, 2, 2, l⟩
def ybr (tb : Nat) : Ix := ⟨15, 0, 0, 0, 0, 0, 0, false, sl0, slI tb [1, 2], sl0⟩
def ycall (d : Int) (ab : Nat) (l : List Int) : Ix := ⟨10, 0, d, 0, 0, 0, 0, false, slI ab l, sl0, sl0⟩
def ytail (ab : Nat) : Ix := ⟨19, 0, 0, 0, 0, 0, 0, false, slI ab [3, 0], sl0, sl0⟩
def kcall (tail : Bool) (ab : Nat) : List Ix := if tail then [ytail ab] else [ycall 4 ab [3, 0], xr 4]
def kdown (tail : Bool) (ab : Nat) : List Ix := [xc 2 1, xb 2 3 0 2] ++ kcall tail ab
def kn (tail : Bool) : Nat := if tail then 3 else 4
def kb1 (tail : Bool) (A : KA) : Bx := ⟨some ⟨A.i1, 0, none⟩, kn tail, A.c1, kdown tail A.ab⟩
def kfn (tail : Bool) (A : KA) : Fx := ⟨⟨#[]⟩, 2, 5, sl0, some ⟨A.bb, 0, none⟩, 3, 3, [⟨some ⟨A.i0, 0, none⟩, 1, 1, [ybr A.tb]⟩, kb1 tail A, ⟨some ⟨A.i2, 0, none⟩, 1, 1, [xr 1]⟩], true⟩
def kmb (deep : Int) (A : KA) : Bx := ⟨some ⟨A.mi, 0, none⟩, 4, 4, [xc 0 deep, xc 1 77, ycall 2 A.ac [0, 1], xr 2]⟩
def kmain (deep : Int) (A : KA) : Fx := ⟨⟨#[]⟩, 0, 3, sl0, some ⟨A.mb, 0, none⟩, 1, 1, [kmb deep A], true⟩
def kfl (deep : Int) (tail : Bool) (A : KA) : List Fx := [kfn tail A, kmain deep A]
def kpg (deep : Int) (tail : Bool) (A : KA) : Pg := ⟨none, 0, 0, [], some ⟨A.fb, 0, none⟩, 2, 2, kfl deep tail A, 1⟩
theorem kpg_check (deep : Int) (tail : Bool) (A : KA) : (kpg deep tail A).ok = true := by cases tail <;> rfl
theorem kpg_plain (deep : Int) (tail : Bool) (A : KA) : plain (kpg deep tail A) := by
  refine ⟨rfl, fun f hf => ?_⟩
  simp [kpg, kfl] at hf
  rcases hf with rfl | rfl <;> rfl
theorem kpg_few (deep : Int) (tail : Bool) (A : KA) : fewRegs (kpg deep tail A) := fun f hf => by
  simp [kpg, kfl] at hf
  rcases hf with rfl | rfl
  · show (5 : Int) ≤ 256; omega
  · show (3 : Int) ≤ 256; omega
/-! Its run. -/
def Goes (fl : List Fx) (fuel : Int) (s s' : St) : Prop := ∀ m sF, Runs fl fuel m s' sF → ∃ m', Runs fl fuel m' s sF
theorem Goes.refl (fl : List Fx) (fuel : Int) (s : St) : Goes fl fuel s s := fun m _ h => ⟨m, h⟩
theorem Goes.trans {fl : List Fx} {fuel : Int} {a b c : St} (h : Goes fl fuel a b) (g : Goes fl fuel b c) : Goes fl fuel a c := fun m sF hr => by
  obtain ⟨m', h'⟩ := g m sF hr
  exact h m' sF h'
theorem goes {fl : List Fx} {fuel : Int} {fs : List Fr1} {rg : List Int} {t : Nat} {s' : St} (hs : StepsTo fl fuel (kst fs rg t) s') : Goes fl fuel (kst fs rg t) s' := fun m sF hr => ⟨m + 1, .step m _ _ _ rfl hs hr⟩
theorem ap_get (a b : List Int) (j : Nat) : (a ++ b)[a.length + j]? = b[j]? := by rw [List.getElem?_append_right (by omega)]; congr 1; omega
theorem ap_set (a b : List Int) (j : Nat) (v : Int) : (a ++ b).set (a.length + j) v = a ++ b.set j v := by rw [List.set_append_right _ _ (by omega)]; congr 2; omega
theorem ap_take (a b : List Int) : (a ++ b).take a.length = a := by rw [List.take_append_of_le_length (Nat.le_refl _), List.take_of_length_le (Nat.le_refl _)]
def kf (bs bl at_ : Nat) (d : Int) : Fr1 := ⟨0, bl, at_, bs, 16777216, 16777216, d⟩
def km (at_ : Nat) : Fr1 := ⟨1, 0, at_, 0, 16777216, 16777216, -1⟩
section
variable {deep : Int} {tail : Bool} {A : KA}
theorem kf_at (fs : List Fr1) (rg r5 : List Int) (bl at_ : Nat) (d : Int) (t : Nat) (b : Bx) (x : Ix) (hb : (kfn tail A).bl[bl]? = some b) (hx : b.l[at_]? = some x) (h5 : r5.length = 5) (hrl : rg.length ≤ 800000) (hk : fs.length ≤ 2000) (ht : t < 20000) (ha : at_ ≤ 1000) :
    KAt (kfl deep tail A) 20000 fs (kf rg.length bl at_ d) (rg ++ r5) t (kfn tail A) b x :=
  ⟨rfl, hb, hx, by show rg.length < _; rw [List.length_append]; omega, by rw [List.length_append]; omega, hk, by omega, by decide, ha⟩
theorem k_zero (fs : List Fr1) (rg : List Int) (p d : Int) (t : Nat) (hrl : rg.length ≤ 800000) (hk : fs.length ≤ 2000) (ht : t < 20000) :
    Goes (kfl deep tail A) 20000 (kst (fs ++ [kf rg.length 0 0 d]) (rg ++ [0, p, 0, 0, 0]) t) (kst (fs ++ [kf rg.length 2 0 d]) (rg ++ [0, p, 0, 0, 0]) (t + 1)) :=
  goes (k_branch (kf_at fs rg [0, p, 0, 0, 0] 0 0 d t _ (ybr A.tb) rfl rfl rfl hrl hk ht (by decide)) 0 0 1 2 A.tb 2 rfl rfl rfl (by show (rg ++ _)[rg.length + 0]? = _; rw [ap_get]; rfl) 2 rfl)
theorem plain_sub (n : Nat) (hn : n ≤ 100000) : Wd.plainOk 2 ((n + 1 : Nat) : Int) 1 = true ∧ Wd.plainV 2 ((n + 1 : Nat) : Int) 1 = n := by
  have h : Wd.plainOk 2 ((n + 1 : Nat) : Int) 1 = true := by simp [Wd.plainOk]
  refine ⟨h, ?_⟩
  unfold Wd.plainV
  rw [h]
  simp [wrap64]
  omega
theorem k_desc (fs : List Fr1) (rg : List Int) (n : Nat) (p d : Int) (t : Nat) (hn : n ≤ 100000) (hrl : rg.length ≤ 800000) (hk : fs.length ≤ 2000) (ht : t + 3 < 20000) :
    Goes (kfl deep tail A) 20000 (kst (fs ++ [kf rg.length 0 0 d]) (rg ++ [((n + 1 : Nat) : Int), p, 0, 0, 0]) t) (kst (fs ++ [kf rg.length 1 2 d]) (rg ++ [((n + 1 : Nat) : Int), p, 1, (n : Int), 0]) (t + 3)) := by
  have hb : (kfn tail A).bl[1]? = some (kb1 tail A) := rfl
  have hx0 : (kb1 tail A).l[0]? = some (xc 2 1) := rfl
  have hx1 : (kb1 tail A).l[1]? = some (xb 2 3 0 2) := rfl
  have s1 : Goes (kfl deep tail A) 20000 (kst (fs ++ [kf rg.length 0 0 d]) (rg ++ [((n + 1 : Nat) : Int), p, 0, 0, 0]) t) (kst (fs ++ [kf rg.length 1 0 d]) (rg ++ [((n + 1 : Nat) : Int), p, 0, 0, 0]) (t + 1)) :=
    goes (k_branch (kf_at fs rg [((n + 1 : Nat) : Int), p, 0, 0, 0] 0 0 d t _ (ybr A.tb) rfl rfl rfl hrl hk (by omega) (by decide)) 0 ((n + 1 : Nat) : Int) 1 2 A.tb 2 rfl rfl rfl (by show (rg ++ _)[rg.length + 0]? = _; rw [ap_get]; rfl) 1 (by rw [if_neg (by omega)]; rfl))
  have s2 : Goes (kfl deep tail A) 20000 (kst (fs ++ [kf rg.length 1 0 d]) (rg ++ [((n + 1 : Nat) : Int), p, 0, 0, 0]) (t + 1)) (kst (fs ++ [kf rg.length 1 1 d]) (rg ++ [((n + 1 : Nat) : Int), p, 1, 0, 0]) (t + 2)) := by
    have := k_const (kf_at (deep := deep) (tail := tail) (A := A) fs rg [((n + 1 : Nat) : Int), p, 0, 0, 0] 1 0 d (t + 1) _ _ hb hx0 rfl hrl hk (by omega) (by decide)) 2 1 rfl rfl rfl (by show rg.length + 2 < _; rw [List.length_append]; show _ < rg.length + 5; omega)
    rw [show (kf rg.length 1 0 d).base + 2 = rg.length + 2 from rfl, ap_set] at this
    exact goes this
  have s3 : Goes (kfl deep tail A) 20000 (kst (fs ++ [kf rg.length 1 1 d]) (rg ++ [((n + 1 : Nat) : Int), p, 1, 0, 0]) (t + 2)) (kst (fs ++ [kf rg.length 1 2 d]) (rg ++ [((n + 1 : Nat) : Int), p, 1, (n : Int), 0]) (t + 3)) := by
    obtain ⟨h1, h2⟩ := plain_sub n hn
    have := k_bin (kf_at (deep := deep) (tail := tail) (A := A) fs rg [((n + 1 : Nat) : Int), p, 1, 0, 0] 1 1 d (t + 2) _ _ hb hx1 rfl hrl hk (by omega) (by decide)) 3 0 2 2 ((n + 1 : Nat) : Int) 1 rfl rfl rfl rfl rfl (by show rg.length + 3 < _; rw [List.length_append]; show _ < rg.length + 5; omega) (by show (rg ++ _)[rg.length + 0]? = _; rw [ap_get]; rfl) (by show (rg ++ _)[rg.length + 2]? = _; rw [ap_get]; rfl) (by unfold I64; omega) (i64s 1 (by decide)) h1
    rw [h2, show (kf rg.length 1 1 d).base + 3 = rg.length + 3 from rfl, ap_set] at this
    exact goes this
  exact (s1.trans s2).trans s3
def kans (n : Nat) (p : Int) : Int := if n = 0 then p else 1
theorem kans_succ (n : Nat) (p : Int) : kans n ((n + 1 : Nat) : Int) = kans (n + 1) p := by
  unfold kans
  by_cases h : n = 0
  · subst h; rfl
  · rw [if_neg h, if_neg (by omega)]
theorem k_hand (tl : Bool) (fs : List Fr1) (rg : List Int) (n : Nat) (p : Int) (bl at_ : Nat) (d : Int) (x : Ix) (hxn : x.n = 0) (hxa : x.args = slI A.ab [3, 0]) :
    KHand (kfl deep tail A) (kf rg.length bl at_ d) (rg ++ [((n + 1 : Nat) : Int), p, 1, (n : Int), 0]) x 0 A.ab 2 [3, 0] [(n : Int), ((n + 1 : Nat) : Int)] 5 := by
  refine ⟨hxn, hxa, rfl, ⟨by show 0 < 2; omega, by show 2 ≤ 6; omega⟩, ⟨Nat.le_refl _, by decide⟩, fun j a ha => ?_, ⟨_, rfl, rfl, rfl⟩, by decide, by show 2 ≤ 5; omega⟩
  match j, ha with
  | 0, ha => obtain rfl : 3 = a := by simpa using ha
             exact ⟨_, rfl, by show (rg ++ _)[rg.length + 3]? = _; rw [ap_get]; rfl⟩
  | 1, ha => obtain rfl : 0 = a := by simpa using ha
             exact ⟨_, rfl, by show (rg ++ _)[rg.length + 0]? = _; rw [ap_get]; rfl⟩
  | j + 2, ha => simp at ha
theorem k_fall : ∀ (n : Nat) (fs0 : List Fr1) (f0 : Fr1) (rg : List Int) (p : Int) (d t : Nat), fs0.length + 2 + n ≤ 1000 → t + 5 * n + 2 < 20000 → f0.base + d < rg.length → rg.length + 5 * (n + 1) ≤ 800000 →
    Goes (kfl deep false A) 20000 (kst (fs0 ++ [f0] ++ [kf rg.length 0 0 d]) (rg ++ [(n : Int), p, 0, 0, 0]) t) (kst (fs0 ++ [f0]) (rg.set (f0.base + d) (kans n p)) (t + 5 * n + 2))
  | 0, fs0, f0, rg, p, d, t, hk, ht, hd, hrl => by
    have s1 := k_zero (deep := deep) (tail := false) (A := A) (fs0 ++ [f0]) rg p d t (by omega) (by simp; omega) (by omega)
    have s2 := k_ret fs0 f0 (kf_at (deep := deep) (tail := false) (A := A) (fs0 ++ [f0]) rg [0, p, 0, 0, 0] 2 0 d (t + 1) _ (xr 1) rfl rfl rfl (by omega) (by simp; omega) (by omega) (by decide)) 1 p rfl rfl (by show (rg ++ _)[rg.length + 1]? = _; rw [ap_get]; rfl) d rfl hd
    rw [show (kf rg.length 2 0 (d : Int)).base = rg.length from rfl, ap_take] at s2
    exact s1.trans (goes s2)
  | n + 1, fs0, f0, rg, p, d, t, hk, ht, hd, hrl => by
    have hkk : (fs0 ++ [f0]).length = fs0.length + 1 := by simp
    have s1 := k_desc (deep := deep) (tail := false) (A := A) (fs0 ++ [f0]) rg n p d t (by omega) (by omega) (by omega) (by omega)
    have hb : (kfn false A).bl[1]? = some (kb1 false A) := rfl
    have hx2 : (kb1 false A).l[2]? = some (ycall 4 A.ab [3, 0]) := rfl
    have hx3 : (kb1 false A).l[3]? = some (xr 4) := rfl
    have hR : (rg ++ [((n + 1 : Nat) : Int), p, 1, (n : Int), 0]).length = rg.length + 5 := by simp
    have s2 := k_call (kf_at (deep := deep) (tail := false) (A := A) (fs0 ++ [f0]) rg [((n + 1 : Nat) : Int), p, 1, (n : Int), 0] 1 2 d (t + 3) _ _ hb hx2 rfl (by omega) (by omega) (by omega) (by decide)) (k_hand (deep := deep) (tail := false) (A := A) false (fs0 ++ [f0]) rg n p 1 2 d (ycall 4 A.ab [3, 0]) rfl rfl) 4 rfl rfl (by omega) rfl
    have s3 := k_fall n (fs0 ++ [f0]) (kf rg.length 1 3 d) (rg ++ [((n + 1 : Nat) : Int), p, 1, (n : Int), 0]) ((n + 1 : Nat) : Int) 4 (t + 4) (by omega) (by omega) (by rw [hR]; show rg.length + 4 < _; omega) (by rw [hR]; omega)
    rw [kans_succ n p, show (kf rg.length 1 3 (d : Int)).base + 4 = rg.length + 4 from rfl, ap_set] at s3
    have s4 := k_ret fs0 f0 (kf_at (deep := deep) (tail := false) (A := A) (fs0 ++ [f0]) rg [((n + 1 : Nat) : Int), p, 1, (n : Int), kans (n + 1) p] 1 3 d (t + 4 + 5 * n + 2) _ _ hb hx3 rfl (by omega) (by omega) (by omega) (by decide)) 4 (kans (n + 1) p) rfl rfl (by show (rg ++ _)[rg.length + 4]? = _; rw [ap_get]; rfl) d rfl hd
    rw [show (kf rg.length 1 3 (d : Int)).base = rg.length from rfl, ap_take, show t + 4 + 5 * n + 2 + 1 = t + 5 * (n + 1) + 2 by omega] at s4
    exact ((s1.trans (goes s2)).trans s3).trans (goes s4)
theorem k_over : ∀ (n : Nat) (fs : List Fr1) (rg : List Int) (p : Int) (d : Int) (t : Nat), 1000 < fs.length + 1 + n → fs.length ≤ 999 → t + 5 * n + 2 < 20000 → rg.length + 5 * (n + 1) ≤ 800000 →
    ∃ s, s.kind = 3 ∧ s.out = [] ∧ Goes (kfl deep false A) 20000 (kst (fs ++ [kf rg.length 0 0 d]) (rg ++ [(n : Int), p, 0, 0, 0]) t) s
  | 0, fs, rg, p, d, t, hk, hk1, ht, hrl => by omega
  | n + 1, fs, rg, p, d, t, hk, hk1, ht, hrl => by
    have s1 := k_desc (deep := deep) (tail := false) (A := A) fs rg n p d t (by omega) (by omega) (by omega) (by omega)
    have hb : (kfn false A).bl[1]? = some (kb1 false A) := rfl
    have hx2 : (kb1 false A).l[2]? = some (ycall 4 A.ab [3, 0]) := rfl
    have ha := kf_at (deep := deep) (tail := false) (A := A) fs rg [((n + 1 : Nat) : Int), p, 1, (n : Int), 0] 1 2 d (t + 3) _ _ hb hx2 rfl (by omega) (by omega) (by omega) (by decide)
    by_cases h9 : fs.length = 999
    · have s2 := k_full ha 0 rfl rfl h9
      exact ⟨_, rfl, rfl, s1.trans (goes s2)⟩
    · have hR : (rg ++ [((n + 1 : Nat) : Int), p, 1, (n : Int), 0]).length = rg.length + 5 := by simp
      have s2 := k_call ha (k_hand (deep := deep) (tail := false) (A := A) false fs rg n p 1 2 d (ycall 4 A.ab [3, 0]) rfl rfl) 4 rfl rfl (by omega) rfl
      obtain ⟨s, h1, h2, s3⟩ := k_over n (fs ++ [kf rg.length 1 3 d]) (rg ++ [((n + 1 : Nat) : Int), p, 1, (n : Int), 0]) ((n + 1 : Nat) : Int) 4 (t + 4) (by simp; omega) (by simp; omega) (by omega) (by rw [hR]; omega)
      exact ⟨s, h1, h2, (s1.trans (goes s2)).trans s3⟩
theorem k_loop : ∀ (n : Nat) (fs0 : List Fr1) (f0 : Fr1) (rg : List Int) (p : Int) (d t : Nat), fs0.length ≤ 900 → t + 4 * n + 2 < 20000 → f0.base + d < rg.length → rg.length ≤ 700000 → n ≤ 100000 →
    Goes (kfl deep true A) 20000 (kst (fs0 ++ [f0] ++ [kf rg.length 0 0 d]) (rg ++ [(n : Int), p, 0, 0, 0]) t) (kst (fs0 ++ [f0]) (rg.set (f0.base + d) (kans n p)) (t + 4 * n + 2))
  | 0, fs0, f0, rg, p, d, t, hk, ht, hd, hrl, hn => by
    have s1 := k_zero (deep := deep) (tail := true) (A := A) (fs0 ++ [f0]) rg p d t (by omega) (by simp; omega) (by omega)
    have s2 := k_ret fs0 f0 (kf_at (deep := deep) (tail := true) (A := A) (fs0 ++ [f0]) rg [0, p, 0, 0, 0] 2 0 d (t + 1) _ (xr 1) rfl rfl rfl (by omega) (by simp; omega) (by omega) (by decide)) 1 p rfl rfl (by show (rg ++ _)[rg.length + 1]? = _; rw [ap_get]; rfl) d rfl hd
    rw [show (kf rg.length 2 0 (d : Int)).base = rg.length from rfl, ap_take] at s2
    exact s1.trans (goes s2)
  | n + 1, fs0, f0, rg, p, d, t, hk, ht, hd, hrl, hn => by
    have hkk : (fs0 ++ [f0]).length = fs0.length + 1 := by simp
    have s1 := k_desc (deep := deep) (tail := true) (A := A) (fs0 ++ [f0]) rg n p d t (by omega) (by omega) (by omega) (by omega)
    have hb : (kfn true A).bl[1]? = some (kb1 true A) := rfl
    have hx2 : (kb1 true A).l[2]? = some (ytail A.ab) := rfl
    have s2 := k_tail (kf_at (deep := deep) (tail := true) (A := A) (fs0 ++ [f0]) rg [((n + 1 : Nat) : Int), p, 1, (n : Int), 0] 1 2 d (t + 3) _ _ hb hx2 rfl (by omega) (by omega) (by omega) (by decide)) (k_hand (deep := deep) (tail := true) (A := A) true (fs0 ++ [f0]) rg n p 1 2 d (ytail A.ab) rfl rfl) rfl rfl
    rw [show (kf rg.length 1 2 (d : Int)).base = rg.length from rfl, ap_take] at s2
    have s3 := k_loop n fs0 f0 rg ((n + 1 : Nat) : Int) d (t + 4) hk (by omega) hd hrl (by omega)
    rw [kans_succ n p, show t + 4 + 4 * n + 2 = t + 4 * (n + 1) + 2 by omega] at s3
    exact (s1.trans (goes s2)).trans s3
/-! From main on. -/
theorem km_at (fs : List Fr1) (at_ t : Nat) (r3 : List Int) (x : Ix) (hx : (kmb deep A).l[at_]? = some x) (h3 : r3.length = 3) (ht : t < 20000) (ha : at_ ≤ 1000) :
    KAt (kfl deep tail A) 20000 [] (km at_) r3 t (kmain deep A) (kmb deep A) x :=
  ⟨rfl, rfl, hx, by show 0 < _; omega, by omega, by show 0 ≤ _; omega, by omega, by decide, ha⟩
theorem k_begin (n : Nat) (hn : deep = (n : Int)) : Goes (kfl deep tail A) 20000 (kst [km 0] [0, 0, 0] 0) (kst ([] ++ [km 3] ++ [kf 3 0 0 2]) ([(n : Int), 77, 0] ++ [(n : Int), 77, 0, 0, 0]) 3) := by
  have s1 := k_const (km_at (deep := deep) (tail := tail) (A := A) [] 0 0 [0, 0, 0] (xc 0 deep) rfl rfl (by decide) (by decide)) 0 deep rfl rfl rfl (by decide)
  have s2 := k_const (km_at (deep := deep) (tail := tail) (A := A) [] 1 1 [deep, 0, 0] (xc 1 77) rfl rfl (by decide) (by decide)) 1 77 rfl rfl rfl (by show 0 + 1 < 3; omega)
  have hh : KHand (kfl deep tail A) (km 2) [deep, 77, 0] (ycall 2 A.ac [0, 1]) 0 A.ac 2 [0, 1] [deep, 77] 5 := by
    refine ⟨rfl, rfl, rfl, ⟨by show 0 < 2; omega, by show 2 ≤ 6; omega⟩, ⟨Nat.le_refl _, by decide⟩, fun j a ha => ?_, ⟨_, rfl, rfl, rfl⟩, by decide, by show 2 ≤ 5; omega⟩
    match j, ha with
    | 0, ha => obtain rfl : 0 = a := by simpa using ha
               exact ⟨_, rfl, rfl⟩
    | 1, ha => obtain rfl : 1 = a := by simpa using ha
               exact ⟨_, rfl, rfl⟩
    | j + 2, ha => simp at ha
  have s3 := k_call (km_at (deep := deep) (tail := tail) (A := A) [] 2 2 [deep, 77, 0] (ycall 2 A.ac [0, 1]) rfl rfl (by decide) (by decide)) hh 2 rfl rfl (by decide) rfl
  rw [← hn]
  exact ((goes s1).trans (goes s2)).trans (goes s3)
theorem k_end (n : Int) (m : Int) (t : Nat) (ht : t < 20000) : Goes (kfl deep tail A) 20000 (kst [km 3] [m, 77, n] t) ((kst [km 4] [m, 77, n] (t + 1)).stop 1 n) :=
  goes (k_ret1 (km_at (deep := deep) (tail := tail) (A := A) [] 3 t [m, 77, n] (xr 2) rfl rfl ht (by decide)) 2 n rfl rfl rfl)
theorem Goes.runs {fl : List Fx} {fuel : Int} {s s' : St} (h : Goes fl fuel s s') (hk : s'.kind ≠ 0) : ∃ m, Runs fl fuel m s s' := h 0 s' (.done s' hk)
theorem kst_start : St.start.enter 1 3 [] (-1) 16777216 = kst [km 0] [0, 0, 0] 0 := rfl
/-- What the law asks of it. -/
def kwant (n : Nat) (tail : Bool) : Prop := tail = true ∨ n + 2 ≤ 1000
theorem k_runs (n : Nat) (hn : n ≤ 1200) (hd : deep = (n : Int)) (hw : kwant n tail) :
    ∃ m s, s.kind = 1 ∧ s.code = kans n 77 % 256 ∧ s.out = [] ∧ Runs (kfl deep tail A) 20000 m (St.start.enter 1 3 [] (-1) 16777216) s := by
  have s1 := k_begin (deep := deep) (tail := tail) (A := A) n hd
  have s2 : ∃ t, t < 20000 ∧ Goes (kfl deep tail A) 20000 (kst ([] ++ [km 3] ++ [kf 3 0 0 2]) ([(n : Int), 77, 0] ++ [(n : Int), 77, 0, 0, 0]) 3) (kst [km 3] [(n : Int), 77, kans n 77] t) := by
    cases tail with
    | true => exact ⟨3 + 4 * n + 2, by omega, k_loop (deep := deep) (A := A) n [] (km 3) [(n : Int), 77, 0] 77 2 3 (by decide) (by omega) (by show 0 + 2 < 3; omega) (by show 3 ≤ 700000; omega) (by omega)⟩
    | false =>
      rcases hw with e | hw
      · cases e
      · exact ⟨3 + 5 * n + 2, by omega, k_fall (deep := deep) (A := A) n [] (km 3) [(n : Int), 77, 0] 77 2 3 (by show 0 + 2 + n ≤ 1000; omega) (by omega) (by show 0 + 2 < 3; omega) (by show 3 + 5 * (n + 1) ≤ 800000; omega)⟩
  obtain ⟨t, ht, s2⟩ := s2
  obtain ⟨m, hm⟩ := ((s1.trans s2).trans (k_end (deep := deep) (tail := tail) (A := A) (kans n 77) n t ht)).runs (by show (1 : Int) ≠ 0; decide)
  exact ⟨m, _, rfl, rfl, rfl, by rw [kst_start]; exact hm⟩
theorem k_runs_over (n : Nat) (hn : n ≤ 1200) (hd : deep = (n : Int)) (hw : 1000 < n + 2) :
    ∃ m s, s.kind = 3 ∧ s.out = [] ∧ Runs (kfl deep false A) 20000 m (St.start.enter 1 3 [] (-1) 16777216) s := by
  have s1 := k_begin (deep := deep) (tail := false) (A := A) n hd
  obtain ⟨s, h1, h2, s2⟩ := k_over (deep := deep) (A := A) n [km 3] [(n : Int), 77, 0] 77 2 3 (by show 1000 < 1 + 1 + n; omega) (by decide) (by omega) (by show 3 + 5 * (n + 1) ≤ 800000; omega)
  obtain ⟨m, hm⟩ := (s1.trans s2).runs (by rw [h1]; decide)
  exact ⟨m, s, h1, h2, by rw [kst_start]; exact hm⟩
end
end Go.Proofs.YtbfjmhfhhlncjaaDoor
/- The law IrCalls: its program in memory, and what ir.Run comes to. -/
namespace Go.Proofs.YtbfjmhfhhlncjaaDoor
open Go.RowKit
set_option linter.unusedVariables false
set_option linter.unusedSimpArgs false

def irw (a b : Int) : Array Value := #[.int .i64 a, .int .i64 b]
theorem slI_at {w : World} {b : Nat} {x y : Int} (h : w.heap[b]? = some (.cells (irw x y) 3 (0, 0))) (hx : I64 x) (hy : I64 y) : SlAt w (slI b [x, y]) := by
  refine ⟨rfl, ⟨Nat.le_refl _, by show 2 ≤ maxLen; unfold maxLen; omega⟩, fun z hz => ?_, fun _ => ⟨b, 0, rfl, fun i z hz => ?_⟩⟩
  · simp [slI] at hz
    rcases hz with rfl | rfl
    · exact hx
    · exact hy
  · rw [Nat.zero_add, cell_of_row w b i _ _ _ h]
    match i, hz with
    | 0, hz => obtain rfl : x = z := by simpa [slI] using hz
               rfl
    | 1, hz => obtain rfl : y = z := by simpa [slI] using hz
               rfl
    | i + 2, hz => simp [slI] at hz
theorem bx_of {w : World} {b n cap : Nat} {l : List Ix} (hl : l.length = n) (hc : n ≤ cap ∧ cap ≤ maxLen) (hok : ∀ x ∈ l, IxOk w x) (h : ∀ (j : Nat) v, (icells l)[j]? = some v → w.cell? ⟨b, j, none⟩ = some v) : BxAt w ⟨some ⟨b, 0, none⟩, n, cap, l⟩ :=
  ⟨hl, hc, hok, fun _ => ⟨b, 0, rfl, fun k x hx j v hj => by
    rw [Nat.zero_add]
    exact h _ _ (flat_get Ix.cells 11 ix_len l k x hx j v hj)⟩⟩
theorem bx_row {w : World} {b n : Nat} {l : List Ix} (hl : l.length = n) (hn : n ≤ 1000) (hok : ∀ x ∈ l, IxOk w x) (h : w.heap[b]? = some (.cells (icells l).toArray 27 (0, 0))) : BxAt w ⟨some ⟨b, 0, none⟩, n, n, l⟩ :=
  bx_of hl ⟨Nat.le_refl _, by unfold maxLen; omega⟩ hok (fun j v hj => by rw [cell_of_row w b j _ _ _ h, List.getElem?_toArray]; exact hj)
/-- Where the law's program lies. -/
structure KMem (w : World) (deep : Int) (tail : Bool) (A : KA) : Prop where
  ab : w.heap[A.ab]? = some (.cells (irw 3 0) 3 (0, 0))
  tb : w.heap[A.tb]? = some (.cells (irw 1 2) 3 (0, 0))
  ac : w.heap[A.ac]? = some (.cells (irw 0 1) 3 (0, 0))
  i0 : w.heap[A.i0]? = some (.cells (icells [ybr A.tb]).toArray 27 (0, 0))
  i1 : ∃ B, w.ownsRow B 27 11 (.slice (some ⟨A.i1, 0, none⟩) (kn tail) A.c1) (kn tail) (icells (kdown tail A.ab))
  i2 : w.heap[A.i2]? = some (.cells (icells [xr 1]).toArray 27 (0, 0))
  mi : w.heap[A.mi]? = some (.cells (icells [xc 0 deep, xc 1 77, ycall 2 A.ac [0, 1], xr 2]).toArray 27 (0, 0))
  bb : w.heap[A.bb]? = some (.cells #[.slice (some ⟨A.i0, 0, none⟩) 1 1, .slice (some ⟨A.i1, 0, none⟩) (kn tail) A.c1, .slice (some ⟨A.i2, 0, none⟩) 1 1] 45 (0, 0))
  mb : w.heap[A.mb]? = some (.cells #[.slice (some ⟨A.mi, 0, none⟩) 4 4] 45 (0, 0))
  fb : w.heap[A.fb]? = some (.cells ((kfn tail A).cells ++ (kmain deep A).cells).toArray 42 (0, 0))
theorem kpg_ok {w : World} {deep : Int} {tail : Bool} {A : KA} (h : KMem w deep tail A) (hd : I64 deep) : PgOk w (kpg deep tail A) := by
  have z (k : Int) (h : -1000 ≤ k ∧ k ≤ 1000) := i64s k h
  have sab := slI_at h.ab (z 3 (by decide)) (z 0 (by decide))
  have stb := slI_at h.tb (z 1 (by decide)) (z 2 (by decide))
  have sac := slI_at h.ac (z 0 (by decide)) (z 1 (by decide))
  have c : ∀ d n : Int, (-1000 ≤ d ∧ d ≤ 1000) → I64 n → IxOk w (xc d n) := fun d n hd hn => ⟨z 1 (by decide), z 0 (by decide), z d hd, z 0 (by decide), z 0 (by decide), hn, z 0 (by decide), sl0_at w, sl0_at w, sl0_at w⟩
  have cr : ∀ a : Int, (-1000 ≤ a ∧ a ≤ 1000) → IxOk w (xr a) := fun a ha => ⟨z 17 (by decide), z 0 (by decide), z 0 (by decide), z a ha, z 0 (by decide), z 0 (by decide), z 0 (by decide), sl0_at w, sl0_at w, sl0_at w⟩
  have cb : IxOk w (xb 2 3 0 2) := ⟨z 3 (by decide), z 2 (by decide), z 3 (by decide), z 0 (by decide), z 2 (by decide), z 0 (by decide), z 0 (by decide), sl0_at w, sl0_at w, sl0_at w⟩
  have ck : ∀ (d : Int) b x y, (-1000 ≤ d ∧ d ≤ 1000) → SlAt w (slI b [x, y]) → IxOk w (ycall d b [x, y]) := fun d b x y hd hs => ⟨z 10 (by decide), z 0 (by decide), z d hd, z 0 (by decide), z 0 (by decide), z 0 (by decide), z 0 (by decide), hs, sl0_at w, sl0_at w⟩
  have ct : IxOk w (ytail A.ab) := ⟨z 19 (by decide), z 0 (by decide), z 0 (by decide), z 0 (by decide), z 0 (by decide), z 0 (by decide), z 0 (by decide), sab, sl0_at w, sl0_at w⟩
  have cy : IxOk w (ybr A.tb) := ⟨z 15 (by decide), z 0 (by decide), z 0 (by decide), z 0 (by decide), z 0 (by decide), z 0 (by decide), z 0 (by decide), sl0_at w, stb, sl0_at w⟩
  have b0 : BxAt w ⟨some ⟨A.i0, 0, none⟩, 1, 1, [ybr A.tb]⟩ := bx_row rfl (by decide) (fun x hx => by
    have e : x = ybr A.tb := by simpa using hx
    rw [e]; exact cy) h.i0
  have b2 : BxAt w ⟨some ⟨A.i2, 0, none⟩, 1, 1, [xr 1]⟩ := bx_row rfl (by decide) (fun x hx => by
    have e : x = xr 1 := by simpa using hx
    rw [e]; exact cr 1 (by decide)) h.i2
  have bm : BxAt w (kmb deep A) := bx_row rfl (by decide) (fun x hx => by
    simp at hx
    rcases hx with rfl | rfl | rfl | rfl
    · exact c 0 deep (by decide) hd
    · exact c 1 77 (by decide) (z 77 (by decide))
    · exact ck 2 A.ac 0 1 (by decide) sac
    · exact cr 2 (by decide)) h.mi
  have hdl : (kdown tail A.ab).length = kn tail := by cases tail <;> rfl
  have b1 : BxAt w (kb1 tail A) := by
    obtain ⟨B, hi⟩ := h.i1
    have hc : kn tail ≤ A.c1 ∧ A.c1 ≤ maxLen := by
      rcases hi.2 with ⟨e, h0⟩ | ⟨g, cap, cur, e, _, _, h1, h2, _⟩
      · cases e
      · injection e with _ _ e; subst e; exact ⟨h1, h2⟩
    refine bx_of hdl hc (fun x hx => ?_) (fun j v hj => ?_)
    · rcases List.mem_append.1 hx with hx | hx
      · simp at hx
        rcases hx with rfl | rfl
        · exact c 2 1 (by decide) (z 1 (by decide))
        · exact cb
      · cases tail with
        | true => obtain rfl : x = ytail A.ab := by simpa [kcall] using hx
                  exact ct
        | false =>
          simp [kcall] at hx
          rcases hx with rfl | rfl
          · exact ck 4 A.ab 3 0 (by decide) sab
          · exact cr 4 (by decide)
    · have hjl : j < kn tail * 11 := by have := (List.getElem?_eq_some_iff.1 hj).1; rw [icells_len, hdl] at this; exact this
      exact (hi.cellAt j hjl).trans hj
  have m3 : 3 ≤ maxLen := by unfold maxLen; omega
  have f0 : FxOk w (kfn tail A) := ⟨Nat.zero_le _, z 2 (by decide), z 5 (by decide), sl0_at w, rfl, ⟨Nat.le_refl _, m3⟩, fun x hx => by
    simp [kfn] at hx
    rcases hx with rfl | rfl | rfl
    · exact b0
    · exact b1
    · exact b2, fun _ => ⟨A.bb, 0, rfl, fun k x hx => by
      rw [Nat.zero_add, cell_of_row w A.bb k _ _ _ h.bb]
      match k, hx with
      | 0, hx => obtain rfl := Option.some.inj hx; rfl
      | 1, hx => obtain rfl := Option.some.inj hx; rfl
      | 2, hx => obtain rfl := Option.some.inj hx; rfl
      | k + 3, hx => simp [kfn] at hx⟩⟩
  have f1 : FxOk w (kmain deep A) := ⟨Nat.zero_le _, z 0 (by decide), z 3 (by decide), sl0_at w, rfl, ⟨Nat.le_refl _, by show 1 ≤ maxLen; unfold maxLen; omega⟩, fun x hx => by
    obtain rfl : x = kmb deep A := by simpa [kmain] using hx
    exact bm, fun _ => ⟨A.mb, 0, rfl, fun k x hx => by
      rw [Nat.zero_add, cell_of_row w A.mb k _ _ _ h.mb]
      match k, hx with
      | 0, hx => obtain rfl := Option.some.inj hx; rfl
      | k + 1, hx => simp [kmain] at hx⟩⟩
  refine ⟨z 1 (by decide), rfl, ⟨Nat.le_refl _, Nat.zero_le _⟩, (fun g hg => by cases hg), (fun h => absurd h (Nat.lt_irrefl 0)), rfl, ⟨Nat.le_refl _, by show 2 ≤ maxLen; unfold maxLen; omega⟩, fun f hf => ?_, fun _ => ⟨A.fb, 0, rfl, fun k f hf j v hj => ?_⟩⟩
  · simp [kpg, kfl] at hf
    rcases hf with rfl | rfl
    · exact f0
    · exact f1
  · rw [Nat.zero_add, cell_of_row w A.fb _ _ _ _ h.fb, List.getElem?_toArray]
    have hj6 : j < 6 := (List.getElem?_eq_some_iff.1 hj).1
    match k, hf with
    | 0, hf =>
      obtain rfl := Option.some.inj hf
      rw [Nat.zero_mul, Nat.zero_add, List.getElem?_append_left (by show j < 6; exact hj6)]; exact hj
    | 1, hf =>
      obtain rfl := Option.some.inj hf
      rw [List.getElem?_append_right (by show 6 ≤ _; omega), show 1 * 6 + j - (kfn tail A).cells.length = j by show 1 * 6 + j - 6 = j; omega]; exact hj
    | k + 2, hf => simp [kpg, kfl] at hf
theorem calls_yes {deep : Int} {tail : Bool} {A : KA} (n : Nat) (hn : n ≤ 1200) (hd : deep = (n : Int)) (hw : kwant n tail) (w : World) (h : KMem w deep tail A) (L : Laid w) :
    Calls Tryd.prog 22 #[pv (kpg deep tail A), .slice none 0 0, .int .i64 20000] w fun e w' => ∃ s : Sl, e = .returned (ov 1 (kans n 77) s) ∧ s.l = [] ∧ BAt w' s ∧ Keeps No w w' := by
  obtain ⟨m, s, h1, h2, h3, hr⟩ := k_runs (deep := deep) (tail := tail) (A := A) n hn hd hw
  refine (run_any (kpg deep tail A) w (kpg_ok h (by rw [hd]; unfold I64; omega)) L (kpg_check deep tail A) (kpg_few deep tail A) (kpg_plain deep tail A) (by show 2 ≤ 100000; omega) none 0 0 (by decide) 20000 (by decide) 1 rfl (kmain deep A) rfl 3 rfl (by decide) m s hr).mono ?_
  rintro e w' ⟨vo, rfl, ho, hk⟩
  obtain ⟨s', rfl, hl, hb'⟩ := own_bytes ho
  refine ⟨s', ?_, hl.trans h3, hb', hk⟩
  have hc : kans n 77 % 256 = kans n 77 := by unfold kans; split <;> decide
  rw [h1, h2, hc]
theorem calls_no {deep : Int} {A : KA} (n : Nat) (hn : n ≤ 1200) (hd : deep = (n : Int)) (hw : 1000 < n + 2) (w : World) (h : KMem w deep false A) (L : Laid w) :
    Calls Tryd.prog 22 #[pv (kpg deep false A), .slice none 0 0, .int .i64 20000] w fun e w' => ∃ (c : Int) (s : Sl), e = .returned (ov 3 c s) ∧ Keeps No w w' := by
  obtain ⟨m, s, h1, h3, hr⟩ := k_runs_over (deep := deep) (A := A) n hn hd hw
  refine (run_any (kpg deep false A) w (kpg_ok h (by rw [hd]; unfold I64; omega)) L (kpg_check deep false A) (kpg_few deep false A) (kpg_plain deep false A) (by show 2 ≤ 100000; omega) none 0 0 (by decide) 20000 (by decide) 1 rfl (kmain deep A) rfl 3 rfl (by decide) m s hr).mono ?_
  rintro e w' ⟨vo, rfl, ho, hk⟩
  obtain ⟨s', rfl, hl, hb'⟩ := own_bytes ho
  refine ⟨s.code, s', ?_, hk⟩
  rw [h1]
end Go.Proofs.YtbfjmhfhhlncjaaDoor
/- The law IrCalls: its program as the law makes it. -/
namespace Go.Proofs.YtbfjmhfhhlncjaaDoor
open Go.RowKit
set_option linter.unusedVariables false
set_option linter.unusedSimpArgs false

def kA (ab B3 g5 c5 : Nat) : KA := ⟨B3, ab, B3 + 1, g5, c5, B3 + 1 + 1, B3 + 1 + 1 + 1, B3 + 1 + 1 + 1 + 1 + 1, B3 + 1 + 1 + 1 + 1 + 1 + 1, B3 + 1 + 1 + 1 + 1 + 1 + 1 + 1, B3 + 1 + 1 + 1 + 1 + 1 + 1 + 1 + 1 + 1⟩
def kchain (w3 : World) (n : Int) (tail : Bool) (ab B3 g5 c5 : Nat) : World := ((((((((((w3.alloc (.cells (irw 1 2) 3)).alloc (.cells (icells [ybr B3]).toArray 27)).alloc (.cells (icells [xr 1]).toArray 27)).alloc (.cells #[.slice (some ⟨B3 + 1, 0, none⟩) 1 1, .slice (some ⟨g5, 0, none⟩) (kn tail) c5, .slice (some ⟨B3 + 1 + 1, 0, none⟩) 1 1] 45)).alloc (.cells (kfn tail (kA ab B3 g5 c5)).cells.toArray 42)).alloc (.cells (irw 0 1) 3)).alloc (.cells (icells [xc 0 n, xc 1 77, ycall 2 (B3 + 1 + 1 + 1 + 1 + 1) [0, 1], xr 2]).toArray 27)).alloc (.cells #[.slice (some ⟨B3 + 1 + 1 + 1 + 1 + 1 + 1, 0, none⟩) 4 4] 45)).alloc (.cells (kmain n (kA ab B3 g5 c5)).cells.toArray 42)).alloc (.cells ((kfn tail (kA ab B3 g5 c5)).cells ++ (kmain n (kA ab B3 g5 c5)).cells).toArray 42))
theorem kchain_keeps (w3 : World) (n : Int) (tail : Bool) (ab B3 g5 c5 : Nat) : Keeps No w3 (kchain w3 n tail ab B3 g5 c5) := by
  unfold kchain
  repeat (first | exact Keeps.refl _ _ | refine Keeps.alloc ?_ _)
theorem kmem_of (w3 : World) (n : Int) (tail : Bool) (ab B3 g5 c5 B : Nat) (h3 : w3.heap.size = B3) (hab : w3.heap[ab]? = some (.cells (irw 3 0) 3 (0, 0))) (hi : w3.ownsRow B 27 11 (.slice (some ⟨g5, 0, none⟩) (kn tail) c5) (kn tail) (icells (kdown tail ab))) :
    KMem (kchain w3 n tail ab B3 g5 c5) n tail (kA ab B3 g5 c5) := by
  have hl : ab < w3.heap.size := (Array.getElem?_eq_some_iff.1 hab).1
  have hK := kchain_keeps w3 n tail ab B3 g5 c5
  refine ⟨(hK.block ab hl (fun e => e)).trans hab, by show (kchain w3 n tail ab B3 g5 c5).heap[B3]? = _; unfold kchain; rw [Below.heap_alloc _ _ _ (by simp [h3] <;> omega)]; rw [Below.heap_alloc _ _ _ (by simp [h3] <;> omega)]; rw [Below.heap_alloc _ _ _ (by simp [h3] <;> omega)]; rw [Below.heap_alloc _ _ _ (by simp [h3] <;> omega)]; rw [Below.heap_alloc _ _ _ (by simp [h3] <;> omega)]; rw [Below.heap_alloc _ _ _ (by simp [h3] <;> omega)]; rw [Below.heap_alloc _ _ _ (by simp [h3] <;> omega)]; rw [Below.heap_alloc _ _ _ (by simp [h3] <;> omega)]; rw [Below.heap_alloc _ _ _ (by simp [h3] <;> omega)]; exact alloc_at _ _ _ (by simp [h3]), by show (kchain w3 n tail ab B3 g5 c5).heap[B3 + 1 + 1 + 1 + 1 + 1]? = _; unfold kchain; rw [Below.heap_alloc _ _ _ (by simp [h3] <;> omega)]; rw [Below.heap_alloc _ _ _ (by simp [h3] <;> omega)]; rw [Below.heap_alloc _ _ _ (by simp [h3] <;> omega)]; rw [Below.heap_alloc _ _ _ (by simp [h3] <;> omega)]; exact alloc_at _ _ _ (by simp [h3]), by show (kchain w3 n tail ab B3 g5 c5).heap[B3 + 1]? = _; unfold kchain; rw [Below.heap_alloc _ _ _ (by simp [h3] <;> omega)]; rw [Below.heap_alloc _ _ _ (by simp [h3] <;> omega)]; rw [Below.heap_alloc _ _ _ (by simp [h3] <;> omega)]; rw [Below.heap_alloc _ _ _ (by simp [h3] <;> omega)]; rw [Below.heap_alloc _ _ _ (by simp [h3] <;> omega)]; rw [Below.heap_alloc _ _ _ (by simp [h3] <;> omega)]; rw [Below.heap_alloc _ _ _ (by simp [h3] <;> omega)]; rw [Below.heap_alloc _ _ _ (by simp [h3] <;> omega)]; exact alloc_at _ _ _ (by simp [h3]), ⟨B, own_kept hi (fun q hq => hK.block q (hi.lt q hq).2 (fun e => e))⟩, by show (kchain w3 n tail ab B3 g5 c5).heap[B3 + 1 + 1]? = _; unfold kchain; rw [Below.heap_alloc _ _ _ (by simp [h3] <;> omega)]; rw [Below.heap_alloc _ _ _ (by simp [h3] <;> omega)]; rw [Below.heap_alloc _ _ _ (by simp [h3] <;> omega)]; rw [Below.heap_alloc _ _ _ (by simp [h3] <;> omega)]; rw [Below.heap_alloc _ _ _ (by simp [h3] <;> omega)]; rw [Below.heap_alloc _ _ _ (by simp [h3] <;> omega)]; rw [Below.heap_alloc _ _ _ (by simp [h3] <;> omega)]; exact alloc_at _ _ _ (by simp [h3]), by show (kchain w3 n tail ab B3 g5 c5).heap[B3 + 1 + 1 + 1 + 1 + 1 + 1]? = _; unfold kchain; rw [Below.heap_alloc _ _ _ (by simp [h3] <;> omega)]; rw [Below.heap_alloc _ _ _ (by simp [h3] <;> omega)]; rw [Below.heap_alloc _ _ _ (by simp [h3] <;> omega)]; exact alloc_at _ _ _ (by simp [h3]), by show (kchain w3 n tail ab B3 g5 c5).heap[B3 + 1 + 1 + 1]? = _; unfold kchain; rw [Below.heap_alloc _ _ _ (by simp [h3] <;> omega)]; rw [Below.heap_alloc _ _ _ (by simp [h3] <;> omega)]; rw [Below.heap_alloc _ _ _ (by simp [h3] <;> omega)]; rw [Below.heap_alloc _ _ _ (by simp [h3] <;> omega)]; rw [Below.heap_alloc _ _ _ (by simp [h3] <;> omega)]; rw [Below.heap_alloc _ _ _ (by simp [h3] <;> omega)]; exact alloc_at _ _ _ (by simp [h3]), by show (kchain w3 n tail ab B3 g5 c5).heap[B3 + 1 + 1 + 1 + 1 + 1 + 1 + 1]? = _; unfold kchain; rw [Below.heap_alloc _ _ _ (by simp [h3] <;> omega)]; rw [Below.heap_alloc _ _ _ (by simp [h3] <;> omega)]; exact alloc_at _ _ _ (by simp [h3]), by show (kchain w3 n tail ab B3 g5 c5).heap[B3 + 1 + 1 + 1 + 1 + 1 + 1 + 1 + 1 + 1]? = _; unfold kchain; exact alloc_at _ _ _ (by simp [h3])⟩
end Go.Proofs.YtbfjmhfhhlncjaaDoor
