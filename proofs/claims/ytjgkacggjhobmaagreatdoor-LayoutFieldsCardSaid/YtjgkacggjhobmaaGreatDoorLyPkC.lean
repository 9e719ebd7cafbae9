import Derived.Test.YtjgkacggjhobmaaGreatDoorLyPkB
set_option maxRecDepth 100000
set_option maxHeartbeats 25600000
set_option linter.unusedSimpArgs false
set_option linter.unusedVariables false
namespace Go.Proofs.YtjgkacggjhobmaaGreatDoor
open Go.RowKit Lx
theorem fail_any (K:Pk) (σ:Sy.St) (c a:Int) (w:World) (h:PS w K σ):Calls Tryz.prog 93 #[.pointer (some ⟨K.P,0,none⟩),.int .i64 c,.int .i64 a] w fun e w'=>e=.returned (.tuple #[])∧At w w' K (Sy.failM K.C σ c a):=by
 have hn:=h.len;obtain ⟨n,hnn⟩:∃ n,K.C.T.length=n:=⟨_,rfl⟩;have c0:w.cell? ⟨K.P,0,none⟩=some (.slice K.ta n K.tc):=by rw [← hnn]; exact h.c (j:=0) rfl
 have c1:w.cell? ⟨K.P,1,none⟩=some (.int .i64 (σ.at_:Int)):=h.c (j:=1) rfl;have c4:w.cell? ⟨K.P,4,none⟩=some (.int .i64 σ.code):=h.c (j:=4) rfl;have c5:w.cell? ⟨K.P,5,none⟩=some (.int .i64 σ.wat):=h.c (j:=5) rfl;have f1:=h.f 1;have f4:=h.f 4;have f5:=h.f 5;by_cases hc:σ.code=0
 · have HF:Hid (At w (((w.setCell ⟨K.P,4,none⟩ (.int .i64 c)).setCell ⟨K.P,5,none⟩ (.int .i64 a)).setCell ⟨K.P,1,none⟩ (.int .i64 (n:Int))) K (Sy.failM K.C σ c a)):=zz (by
    have e:Sy.failM K.C σ c a={ ({ σ with code:=c,wat:=a }:Sy.St) with at_:=n }:=by unfold Sy.failM; rw [if_pos hc,if_pos hc,hnn]
    rw [e];exact ⟨(h.wrong c a).at_ rfl (by omega),(((Keeps.refl (KP K) w).setCell (.inl rfl) _).setCell (.inl rfl) _).setCell (.inl rfl) _⟩)
   rw [hc] at c4;clear h hnn hc;go_enter Tryz.func93,Tryz.ntmps93;go_wp2_with fail;go_returns;exact ⟨rfl,HF.out⟩
 · have HF:Hid (At w (w.setCell ⟨K.P,1,none⟩ (.int .i64 (n:Int))) K (Sy.failM K.C σ c a)):=zz (by
    have e:Sy.failM K.C σ c a={ σ with at_:=n }:=by unfold Sy.failM; rw [if_neg hc,if_neg hc,hnn]
    rw [e];exact ⟨h.at_ rfl (by omega),(Keeps.refl (KP K) w).setCell (.inl rfl) _⟩)
   obtain ⟨co,hco⟩:∃ co,σ.code=co:=⟨_,rfl⟩;rw [hco] at c4 hc;have e0:(co==0)=false:=beq_eq_false_iff_ne.2 hc;clear h hnn hc hco;go_enter Tryz.func93,Tryz.ntmps93;go_wp2_with fail;go_returns;exact ⟨rfl,HF.out⟩
theorem lost_any (K:Pk) (σ:Sy.St) (w:World) (h:PS w K σ):Calls Tryz.prog 72 #[.pointer (some ⟨K.P,0,none⟩)] w fun e w'=>e=.returned (.tuple #[])∧At w w' K (Sy.lostM K.C σ):=by
 obtain ⟨t,ht⟩:∃ t,Sy.peekM K.C σ 0=t:=⟨_,rfl⟩;have HP:=zz (peek_as K σ 0 (by omega) t ht 0 rfl w h);have HFA:=zz (fun W (hk:Keeps No w W)=>fail_any K σ 4 (t.at_:Int) W (h.no hk));have HL:Hid (Sy.lostM K.C σ=Sy.failM K.C σ 4 (t.at_:Int)):=zz (by unfold Sy.lostM; rw [ht]);clear h ht;go_enter Tryz.func72,Tryz.ntmps72;go_wp2_with fail;refine HP.out.mono ?_;rintro e w1 ⟨rfl,hk⟩;have HK:=zz hk;clear hk;have f1:=fun W=>(tk_fld t.kind t.at_ t.text t.suf t.num t.hex W).2.1
 go_wp2_with fail;refine (HFA.out _ HK.out).mono ?_;rintro e w2 ⟨rfl,hat⟩;have HA:=zz hat;clear hat;go_wp2_with fail;go_returns;exact ⟨rfl,by rw [HL.out]; exact At.after HK.out HA.out⟩
theorem take_any (K:Pk) (σ:Sy.St) (x:ByteArray) (b:Bool) (hb:Sy.isM K.C σ x=b) (w:World) (h:PS w K σ):Calls Tryz.prog 70 #[.pointer (some ⟨K.P,0,none⟩),.string x] w fun e w'=>e=.returned (.bool b)∧At w w' K (if b then Sy.nextM K.C σ else σ):=by
 have HI:=zz (is_as K σ x b hb w h);have HN:=zz (fun W (hk:Keeps No w W)=>next_any K σ W (h.no hk));have HS:=zz h;clear hb h;cases b with
 | true =>
   go_enter Tryz.func70,Tryz.ntmps70;go_wp2_with fail;refine HI.out.mono ?_;rintro e w1 ⟨rfl,hk⟩;have HK:=zz hk;clear hk;go_wp2_with fail;refine (HN.out _ HK.out).mono ?_;rintro e w2 ⟨rfl,hat⟩;have HA:=zz (At.after HK.out hat);clear hat;go_wp2_with fail;go_returns;exact ⟨rfl,HA.out⟩
 | false =>
   go_enter Tryz.func70,Tryz.ntmps70;go_wp2_with fail;refine HI.out.mono ?_;rintro e w1 ⟨rfl,hk⟩;have HK:=zz hk;clear hk;go_wp2_with fail;go_returns;exact ⟨rfl,At.of_no HS.out HK.out⟩
theorem want_any (K:Pk) (σ:Sy.St) (x:ByteArray) (w:World) (h:PS w K σ):Calls Tryz.prog 67 #[.pointer (some ⟨K.P,0,none⟩),.string x] w fun e w'=>e=.returned (.tuple #[])∧At w w' K (Sy.wantM K.C σ x):=by
 obtain ⟨b,hb⟩:∃ b,Sy.isM K.C σ x=b:=⟨_,rfl⟩;have HT:=zz (take_any K σ x b hb w h);have HL:=zz (fun W (hs:PS W K σ)=>lost_any K σ W hs);have HW:Hid (Sy.wantM K.C σ x=if b then Sy.nextM K.C σ else Sy.lostM K.C σ):=zz (by unfold Sy.wantM; rw [hb]);clear hb h;cases b with
 | true =>
   go_enter Tryz.func67,Tryz.ntmps67;go_wp2_with fail;refine HT.out.mono ?_;rintro e w1 ⟨rfl,hat⟩;have HA:=zz hat;clear hat;go_wp2_with fail;go_returns;exact ⟨rfl,by rw [HW.out]; exact HA.out⟩
 | false =>
   go_enter Tryz.func67,Tryz.ntmps67;go_wp2_with fail;refine HT.out.mono ?_;rintro e w1 ⟨rfl,hat⟩;have HA:Hid (At w w1 K σ):=zz hat;clear hat;go_wp2_with fail;refine (HL.out _ HA.out.p).mono ?_;rintro e w2 ⟨rfl,hat⟩;have HB:=zz (HA.out.trans hat);clear hat;go_wp2_with fail;go_returns;exact ⟨rfl,by rw [HW.out]; exact HB.out⟩
theorem next_as (K:Pk) (σ:Sy.St) (t:Tk) (ht:Sy.peekM K.C σ 0=t) (w:World) (h:PS w K σ):Calls Tryz.prog 65 #[.pointer (some ⟨K.P,0,none⟩)] w fun e w'=>e=.returned (.agg #[.int .i64 t.kind,.int .i64 (t.at_:Int),.string t.text,.string t.suf,.int .u64 t.num,.bool t.hex])∧At w w' K (Sy.nextM K.C σ):=by
 subst ht; exact next_any K σ w h
theorem rs {v:Value} {a b:ByteArray} (hv:v=.string a) (h:a=b):Ending.returned v=.returned (.string b):=by rw [hv,h]
theorem name_any (K:Pk) (σ:Sy.St) (w:World) (h:PS w K σ):Calls Tryz.prog 66 #[.pointer (some ⟨K.P,0,none⟩)] w fun e w'=>e=.returned (.string (Sy.nameM K.C σ).1)∧At w w' K (Sy.nameM K.C σ).2:=by
 obtain ⟨t,ht⟩:∃ t,Sy.peekM K.C σ 0=t:=⟨_,rfl⟩;have HP:=zz (peek_as K σ 0 (by omega) t ht 0 rfl w h);have HX:=zz (fun W (hs:PS W K σ)=>next_as K σ t ht W hs);have HL:=zz (fun W (hs:PS W K σ)=>lost_any K σ W hs);have HN:Hid (Sy.nameM K.C σ=if t.kind=1 then (t.text,Sy.nextM K.C σ) else (Sy.nt,Sy.lostM K.C σ)):=zz (by unfold Sy.nameM Sy.txt; rw [ht]);have HS:=zz h;clear h ht;have f0:=fun W=>(tk_fld t.kind t.at_ t.text t.suf t.num t.hex W).1
 have f2:=fun W=>(tk_fld t.kind t.at_ t.text t.suf t.num t.hex W).2.2
 by_cases hk:t.kind=1
 · have HN2:Hid (Sy.nameM K.C σ=(t.text,Sy.nextM K.C σ)):=zz (by rw [HN.out,if_pos hk]);have e1:(t.kind==1)=true:=beq_iff_eq.2 hk;have e2:(t.kind != 1)=false:=by rw [bne,e1]; rfl
   clear hk e1;go_enter Tryz.func66,Tryz.ntmps66;go_wp2_with fail;refine HP.out.mono ?_;rintro e w1 ⟨rfl,hk⟩;have HK:=zz hk;clear hk;go_wp2_with fail;refine (HX.out _ (HS.out.no HK.out)).mono ?_;rintro e w2 ⟨rfl,hat⟩;have HA:=zz (At.after HK.out hat);clear hat;go_wp2_with fail;go_returns;rw [HN2.out];exact ⟨rfl,HA.out⟩
 · have HN2:Hid (Sy.nameM K.C σ=(Sy.nt,Sy.lostM K.C σ)):=zz (by rw [HN.out,if_neg hk]);have e1:(t.kind==1)=false:=beq_eq_false_iff_ne.2 hk;have e2:(t.kind != 1)=true:=by rw [bne,e1]; rfl
   clear hk e1;go_enter Tryz.func66,Tryz.ntmps66;go_wp2_with fail;refine HP.out.mono ?_;rintro e w1 ⟨rfl,hk⟩;have HK:=zz hk;clear hk;go_wp2_with fail;refine (HL.out _ (HS.out.no HK.out)).mono ?_;rintro e w2 ⟨rfl,hat⟩;have HA:=zz (At.after HK.out hat);clear hat;go_wp2_with fail;go_returns;rw [HN2.out];exact ⟨rfl,HA.out⟩
theorem eqL (op:ByteArray) (a:Array UInt8):(op==(⟨a⟩:ByteArray))=(op.toList==a.toList):=by
 rw [← beqT,Go.ByteArray.toList_eq ⟨a⟩]
theorem level_any (op:ByteArray) (w:World):Calls Tryz.prog 117 #[.string op] w fun e w'=>e=.returned (.int .i64 (Sy.levelM op))∧w=w':=by
 go_enter Tryz.func117,Tryz.ntmps117;go_wp2
 all_goals go_returns
 all_goals refine ⟨ri rfl ?_,rfl⟩
 all_goals first
  | (exfalso; have h1:∀ {a:Bool},a=true→a=false→False:=fun h k=>by rw [h] at k; cases k
     exact h1 (by assumption) (by assumption))
  | (unfold Sy.levelM; simp [eqL, *]; done)
  | (unfold Sy.levelM; simp_all [eqL]; done)
theorem bits_any (op:ByteArray) (w:World):Calls Tryz.prog 108 #[.string op] w fun e w'=>e=.returned (.string (Sy.bitsM op))∧w=w':=by
 go_enter Tryz.func108,Tryz.ntmps108;go_wp2
 all_goals go_returns
 all_goals refine ⟨rs rfl ?_,rfl⟩
 all_goals first
  | (exfalso; have h1:∀ {a:Bool},a=true→a=false→False:=fun h k=>by rw [h] at k; cases k
     exact h1 (by assumption) (by assumption))
  | (unfold Sy.bitsM; simp [eqL,Sy.nt, *]; done)
  | (unfold Sy.bitsM; simp_all [eqL,Sy.nt]; done)
theorem may4 (t:Tk) (i:Nat) (hi:i=0∨i=1∨i=2∨i=3):Sy.mayHave t i=(if (t.suf.toList==[117])=true then (decide (i=1) || decide (i=3)) else if (t.suf.toList==[108])=true then (decide (i=2) || (t.hex&&decide (i=3))) else if (t.suf.toList==[117,108])=true then decide (i=3) else (t.hex || (decide (i=0) || decide (i=2)))):=by
 unfold Sy.mayHave;simp only [eqL];rcases hi with rfl | rfl | rfl | rfl <;> rfl
theorem mayHave_any (t:Tk) (i:Nat) (hi:i=0∨i=1∨i=2∨i=3) (w:World):Calls Tryz.prog 140 #[.agg #[.int .i64 t.kind,.int .i64 (t.at_:Int),.string t.text,.string t.suf,.int .u64 t.num,.bool t.hex],.int .i64 (i:Int)] w fun e w'=>e=.returned (.bool (Sy.mayHave t i))∧Keeps No w w':=by
 obtain ⟨H,hH⟩:∃ H,t.hex=H:=⟨_,rfl⟩;obtain ⟨S,hS⟩:∃ S,t.suf=S:=⟨_,rfl⟩;have HM:=may4 t i hi;rw [hH,hS] at HM ⊢;by_cases h1:(S.toList==[117])=true
 · rw [if_pos h1] at HM;have HM:=zz HM;rcases hi with rfl | rfl | rfl | rfl
   all_goals
    go_enter Tryz.func140,Tryz.ntmps140;go_wp2;go_returns;exact ⟨rb rfl (by first | rfl | (rw [HM.out]; rfl)),(Keeps.refl _ _).alloc _⟩
 rw [if_neg h1] at HM;have h1f:(S.toList==[117])=false:=by simpa using h1
 clear h1;by_cases h2:(S.toList==[108])=true
 · rw [if_pos h2] at HM;have HM:=zz HM;rcases hi with rfl | rfl | rfl | rfl <;> cases H
   all_goals
    go_enter Tryz.func140,Tryz.ntmps140;go_wp2;go_returns;exact ⟨rb rfl (by first | rfl | (rw [HM.out]; rfl)),(Keeps.refl _ _).alloc _⟩
 rw [if_neg h2] at HM;have h2f:(S.toList==[108])=false:=by simpa using h2
 clear h2;by_cases h3:(S.toList==[117,108])=true
 · rw [if_pos h3] at HM;have HM:=zz HM;rcases hi with rfl | rfl | rfl | rfl
   all_goals
    go_enter Tryz.func140,Tryz.ntmps140;go_wp2;go_returns;exact ⟨rb rfl (by first | rfl | (rw [HM.out]; rfl)),(Keeps.refl _ _).alloc _⟩
 rw [if_neg h3] at HM;have h3f:(S.toList==[117,108])=false:=by simpa using h3
 clear h3;have HM:=zz HM;rcases hi with rfl | rfl | rfl | rfl <;> cases H
 all_goals
  go_enter Tryz.func140,Tryz.ntmps140;go_wp2;go_returns;exact ⟨rb rfl (by first | rfl | (rw [HM.out]; rfl)),(Keeps.refl _ _).alloc _⟩
theorem mayHave_as (t:Tk) (i:Nat) (hi:i < 4) (b:Bool) (hb:Sy.mayHave t i=b) (w:World):Calls Tryz.prog 140 #[.agg #[.int .i64 t.kind,.int .i64 (t.at_:Int),.string t.text,.string t.suf,.int .u64 t.num,.bool t.hex],.int .i64 (i:Int)] w fun e w'=>e=.returned (.bool b)∧Keeps No w w':=by
 rw [← hb]; exact mayHave_any t i (by omega) w
def topN (i:Nat):Int:=if i=0 then 2147483647 else if i=1 then 4294967295 else if i=2 then 9223372036854775807 else 18446744073709551615
def nameN (i:Nat):ByteArray:=if i=0 then ⟨#[105,51,50]⟩ else if i=1 then ⟨#[117,51,50]⟩ else if i=2 then ⟨#[105,54,52]⟩ else ⟨#[117,54,52]⟩
def tryN (t:Tk) (i:Nat):Bool:=decide (t.num≤topN i)&&Sy.mayHave t i
theorem numType_try (t:Tk):Sy.numType t=if tryN t 0 then some (nameN 0) else if tryN t 1 then some (nameN 1) else if tryN t 2 then some (nameN 2) else if tryN t 3 then some (nameN 3) else none:=by
 unfold Sy.numType tryN;simp only [Bool.and_eq_true,decide_eq_true_eq];rfl
theorem numType_at (t:Tk) (i:Nat) (hi:i < 4) (h:∀ j,j < i→tryN t j=false) (ht:tryN t i=true):Sy.numType t=some (nameN i):=by
 rw [numType_try];rcases (show i=0∨i=1∨i=2∨i=3 by omega) with rfl | rfl | rfl | rfl
 · rw [if_pos ht]
 · rw [h 0 (by omega),if_neg (by decide),if_pos ht]
 · rw [h 0 (by omega),if_neg (by decide),h 1 (by omega),if_neg (by decide),if_pos ht]
 · rw [h 0 (by omega),if_neg (by decide),h 1 (by omega),if_neg (by decide),h 2 (by omega),if_neg (by decide),if_pos ht]
theorem numType_no (t:Tk) (h:∀ j,j < 4→tryN t j=false):Sy.numType t=none:=by
 rw [numType_try,h 0 (by omega),if_neg (by decide),h 1 (by omega),if_neg (by decide),h 2 (by omega),if_neg (by decide),h 3 (by omega),if_neg (by decide)]
theorem rty {v:Value} {s:ByteArray} {n:Int} {t:Sy.Ty} (hv:v=.agg #[.string s,.int .i64 n]) (h:(⟨s,n⟩:Sy.Ty)=t):Ending.returned v=.returned (.agg #[.string t.base,.int .i64 t.stars]):=by subst h; rw [hv]
theorem infoTy:(Tryz.prog.info? 56).map (·.size)=some 2:=by kernel_rfl
theorem one2 (s:ByteArray) (b:Int):(#[Value.string s,.int .i64 b]:Array Value).all (·.oneCell')=true:=by simp [Value.oneCell']
theorem numberType_any (K:Pk) (σ:Sy.St) (t:Tk) (w:World) (h:PS w K σ):Calls Tryz.prog 137 #[.pointer (some ⟨K.P,0,none⟩),.agg #[.int .i64 t.kind,.int .i64 (t.at_:Int),.string t.text,.string t.suf,.int .u64 t.num,.bool t.hex]] w fun e w' =>
    e=.returned (.agg #[.string (Sy.numberTypeM K.C σ t).1.base,.int .i64 (Sy.numberTypeM K.C σ t).1.stars])∧At w w' K (Sy.numberTypeM K.C σ t).2:=by
 have HS:=zz h;have HFA:=zz (fun W (hs:PS W K σ)=>fail_any K σ 6 (t.at_:Int) W hs);clear h;go_enter Tryz.func137,Tryz.ntmps137;go_upto_region 3 with fail
 obtain ⟨w4,hw4⟩:∃ W,((((w.alloc (.cells #[.int .i64 t.kind,.int .i64 (t.at_:Int),.string t.text,.string t.suf,.int .u64 t.num,.bool t.hex] 83)).alloc (.cells #[.string ⟨#[]⟩,.int .i64 0] 56)).alloc (.cells #[.int .u64 2147483647,.int .u64 4294967295,.int .u64 9223372036854775807,.int .u64 18446744073709551615] 203)).alloc (.cells #[.string ⟨#[105,51,50]⟩,.string ⟨#[117,51,50]⟩,.string ⟨#[105,54,52]⟩,.string ⟨#[117,54,52]⟩] 204))=W:=⟨_,rfl⟩;obtain ⟨BT,hBT⟩:∃ q,w.heap.size=q:=⟨_,rfl⟩;have k4:Keeps No w w4:=by rw [← hw4]; exact ((((Keeps.refl _ _).alloc _).alloc _).alloc _).alloc _
 have rT:w4.heap[BT]?=some (.cells #[.int .i64 t.kind,.int .i64 (t.at_:Int),.string t.text,.string t.suf,.int .u64 t.num,.bool t.hex] 83 (0,0)):=by
  rw [← hw4,← hBT,Below.heap_alloc _ _ _ (by simp <;> omega),Below.heap_alloc _ _ _ (by simp <;> omega),Below.heap_alloc _ _ _ (by simp <;> omega)]; exact heap_alloc_new _ _
 have rR:w4.heap[BT+1]?=some (.cells #[.string ⟨#[]⟩,.int .i64 0] 56 (0,0)):=by
  rw [← hw4,← hBT,Below.heap_alloc _ _ _ (by simp <;> omega),Below.heap_alloc _ _ _ (by simp <;> omega)];have e:w.heap.size+1=(w.alloc (.cells #[.int .i64 t.kind,.int .i64 (t.at_:Int),.string t.text,.string t.suf,.int .u64 t.num,.bool t.hex] 83)).heap.size:=by simp
  rw [e]; exact heap_alloc_new _ _
 have rA:w4.heap[BT+1+1]?=some (.cells #[.int .u64 2147483647,.int .u64 4294967295,.int .u64 9223372036854775807,.int .u64 18446744073709551615] 203 (0,0)):=by
  rw [← hw4,← hBT,Below.heap_alloc _ _ _ (by simp <;> omega)];have e:w.heap.size+1+1=((w.alloc (.cells #[.int .i64 t.kind,.int .i64 (t.at_:Int),.string t.text,.string t.suf,.int .u64 t.num,.bool t.hex] 83)).alloc (.cells #[.string ⟨#[]⟩,.int .i64 0] 56)).heap.size:=by simp
  rw [e]; exact heap_alloc_new _ _
 have rN:w4.heap[BT+1+1+1]?=some (.cells #[.string ⟨#[105,51,50]⟩,.string ⟨#[117,51,50]⟩,.string ⟨#[105,54,52]⟩,.string ⟨#[117,54,52]⟩] 204 (0,0)):=by
  rw [← hw4,← hBT];have e:w.heap.size+1+1+1=(((w.alloc (.cells #[.int .i64 t.kind,.int .i64 (t.at_:Int),.string t.text,.string t.suf,.int .u64 t.num,.bool t.hex] 83)).alloc (.cells #[.string ⟨#[]⟩,.int .i64 0] 56)).alloc (.cells #[.int .u64 2147483647,.int .u64 4294967295,.int .u64 9223372036854775807,.int .u64 18446744073709551615] 203)).heap.size:=by simp
  rw [e]; exact heap_alloc_new _ _
 rw [hw4,hBT];have HK4:=zz k4;have HT:=zz rT;have HRR:=zz rR;have HA:=zz rA;have HNM:=zz rN;have HBT:Hid (w.heap.size≤BT):=zz (by omega);clear hw4 hBT k4 rT rR rA rN;go_wp2_with fail;go_loopg [10] 4 (fun k v wr=>∃ i:Nat,v=.int .i64 (i:Int)∧i≤4∧k=4 - i∧Hid (∀ j,j < i→tryN t j=false)∧Hid (Keeps No w4 wr))
 case atStart=>exact ⟨0,rfl,Nat.zero_le _,rfl,zz (fun j hj=>by omega),zz (Keeps.refl _ _)⟩
 case round =>
  obtain ⟨i,rfl,hi,hg,HNO,HKI⟩:=hrel;by_cases hlt:i < 4
  · have hlt':(i:Int) < 4:=by omega
    have i0:(0:Int)≤(i:Int):=by omega
    have tc:∀ (j:Nat) (v:Value),(#[Value.int .i64 t.kind,.int .i64 (t.at_:Int),.string t.text,.string t.suf,.int .u64 t.num,.bool t.hex]:Array Value)[j]?=some v→∀ u:KW wr,u.W.cell? ⟨BT,j,none⟩=some v:=fun j v hj u=>u.cell (HKI.out.cell0 (by rw [cell_of_row w4 BT j _ _ _ HT.out]; exact hj))
    have t0:=tc 0 _ rfl;have t1:=tc 1 _ rfl;have t2:=tc 2 _ rfl;have t3:=tc 3 _ rfl;have t4:=tc 4 _ rfl;have t5:=tc 5 _ rfl;have ta:∀ u:KW wr,u.W.cell? ⟨BT+1+1,i,none⟩=some (.int .u64 (topN i)):=fun u=>u.cell (HKI.out.cell0 (by
     rw [cell_of_row w4 (BT+1+1) i _ _ _ HA.out];rcases (show i=0∨i=1∨i=2∨i=3 by omega) with rfl | rfl | rfl | rfl <;> rfl))
    have tn:wr.cell? ⟨BT+1+1+1,i,none⟩=some (.string (nameN i)):=HKI.out.cell0 (by
     rw [cell_of_row w4 (BT+1+1+1) i _ _ _ HNM.out];rcases (show i=0∨i=1∨i=2∨i=3 by omega) with rfl | rfl | rfl | rfl <;> rfl)
    have HTN:=zz tn;have hne:Nonempty (KW wr):=⟨KW.of _⟩;obtain ⟨TP,hTP⟩:∃ z,topN i=z:=⟨_,rfl⟩;obtain ⟨MH,hMH⟩:∃ b,Sy.mayHave t i=b:=⟨_,rfl⟩;have HMH:=zz (fun W=>mayHave_as t i hlt MH hMH W);have HTRY:Hid (tryN t i=(decide (t.num≤TP)&&MH)):=zz (by unfold tryN; rw [hTP,hMH]);simp only [hTP] at ta;clear hTP hMH tn tc;by_cases hle:t.num≤TP
    · cases MH with
      | true =>
        have HYES:Hid (Sy.numberTypeM K.C σ t=(⟨nameN i,0⟩,σ)):=zz (by
         unfold Sy.numberTypeM;rw [numType_at t i hlt HNO.out (by rw [HTRY.out,decide_eq_true hle]; rfl)])
        go_upto_region 6 with fail
        refine wp_region_class (C:=fun W=>∃ u:KW wr,W=u.W) (by kernel_rfl) (by kernel_rfl) ⟨⟨World.drew _,(Keeps.refl _ _).drew⟩,rfl⟩ ?_
        repeat (go_big_quiet_step ((go_at_call 140; with_reducible refine kw_call _ (HMH.out _))))
        refine wpQuiet_nil ?_;rintro _ ⟨T,rfl⟩;obtain ⟨V,hW⟩:∃ W,T.W=W:=⟨_,rfl⟩;have HTV:Hid (Keeps No w4 V):=zz (by rw [← hW]; exact HKI.out.trans T.h (fun _ _ e=>e));have tn:V.cell? ⟨BT+1+1+1,i,none⟩=some (.string (nameN i)):=by rw [← hW]; exact T.h.cell0 HTN.out
        rw [hW];clear t0 t1 t2 t3 t4 t5 ta hne hW T;have HRV:Hid (V.heap[BT+1]?=some (.cells #[.string ⟨#[]⟩,.int .i64 0] 56 (0,0))):=zz ((HTV.out.block _ (Array.getElem?_eq_some_iff.1 HRR.out).1 (fun e=>e)).trans HRR.out);obtain ⟨NM,hNM⟩:∃ s,nameN i=s:=⟨_,rfl⟩;rw [hNM] at tn HYES;go_upto_region 7 with fail
        repeat (first | (refine wpList_store_row rfl _ _ _ rfl (BT+1) _ rfl rfl _ _ HRV.out infoTy rfl (one2 _ _) ?_) | go_values | go_skip | go_guarded | go_step | go_upon | go_back)
        have hrc:=fun j=>cell_of_row _ (BT+1) j _ _ _ (setRow_heap V (BT+1) _ #[.string NM,.int .i64 0] _ _ HRV.out)
        have HKV:Hid (Keeps No w (V.setRow (BT+1) #[.string NM,.int .i64 0])):=zz ((HK4.out.trans HTV.out (fun _ _ e=>e)).setRow (.inr (by have:=HBT.out; omega)) _);refine bodyPost_ret (v:=.agg #[.string NM,.int .i64 0]) ?_ rfl ⟨by rw [HYES.out],by rw [HYES.out]; exact At.of_no HS.out HKV.out⟩;simp [results,Tryz.results137,go_sem,hrc,Act.put]
      | false =>
        have HNO2:Hid (∀ j,j < i+1→tryN t j=false):=zz (fun j hj=>by
         by_cases e:j=i
         · subst e; rw [HTRY.out,Bool.and_false]
         · exact HNO.out j (by omega))
        go_upto_region 6 with fail
        refine wp_region_class (C:=fun W=>∃ u:KW wr,W=u.W) (by kernel_rfl) (by kernel_rfl) ⟨⟨World.drew _,(Keeps.refl _ _).drew⟩,rfl⟩ ?_
        repeat (go_big_quiet_step ((go_at_call 140; with_reducible refine kw_call _ (HMH.out _))))
        refine wpQuiet_nil ?_;rintro _ ⟨T,rfl⟩;go_wp2_with fail;go_roundg (4 - (i+1))
        case rel=>exact ⟨i+1,by go_num,by omega,rfl,HNO2,zz (HKI.out.trans T.h (fun _ _ e=>e))⟩
        case measure=>omega
    · have HNO2:Hid (∀ j,j < i+1→tryN t j=false):=zz (fun j hj=>by
       by_cases e:j=i
       · subst e; rw [HTRY.out,decide_eq_false hle]; rfl
       · exact HNO.out j (by omega))
      have hle2:¬ t.num≤TP:=hle;go_upto_region 6 with fail
      refine wp_region_class (C:=fun W=>∃ u:KW wr,W=u.W) (by kernel_rfl) (by kernel_rfl) ⟨⟨World.drew _,(Keeps.refl _ _).drew⟩,rfl⟩ ?_
      repeat (go_big_quiet_step ((go_at_call 140; with_reducible refine kw_call _ (HMH.out _))))
      refine wpQuiet_nil ?_;rintro _ ⟨T,rfl⟩;go_wp2_with fail;go_roundg (4 - (i+1))
      case rel=>exact ⟨i+1,by go_num,by omega,rfl,HNO2,zz (HKI.out.trans T.h (fun _ _ e=>e))⟩
      case measure=>omega
  · obtain rfl:i=4:=by omega
    have hlt':¬ (((4:Nat):Int)) < 4:=by omega
    have HNT:Hid (Sy.numberTypeM K.C σ t=(Sy.ty0,Sy.failM K.C σ 6 (t.at_:Int))):=zz (by unfold Sy.numberTypeM; rw [numType_no t HNO.out]);have t1:wr.cell? ⟨BT,1,none⟩=some (.int .i64 (t.at_:Int)):=HKI.out.cell0 (by rw [cell_of_row w4 BT 1 _ _ _ HT.out]; rfl);have HKW:Hid (Keeps No w wr):=zz (HK4.out.trans HKI.out (fun _ _ e=>e));go_wp2_with fail;refine (HFA.out _ (HS.out.no HKW.out)).mono ?_;rintro e V ⟨rfl,hat⟩;have HRV:Hid (V.heap[BT+1]?=some (.cells #[.string ⟨#[]⟩,.int .i64 0] 56 (0,0))):=zz ((hat.k.block _ (Nat.lt_of_lt_of_le (Array.getElem?_eq_some_iff.1 HRR.out).1 HKI.out.size) (fun e=>by
     have e2:BT+1=K.P:=e;have:=HS.out.lt; have:=HBT.out; omega)).trans ((HKI.out.block _ (Array.getElem?_eq_some_iff.1 HRR.out).1 (fun e=>e)).trans HRR.out))
    have HFT:=zz (At.after HKW.out hat);clear hat t1;go_upto_region 10 with fail
    repeat (first | (refine wpList_store_row rfl _ _ _ rfl (BT+1) _ rfl rfl _ _ HRV.out infoTy rfl (one2 _ _) ?_) | go_values | go_skip | go_guarded | go_step | go_upon | go_back)
    have hrc:=fun j=>cell_of_row _ (BT+1) j _ _ _ (setRow_heap V (BT+1) _ #[.string ⟨#[]⟩,.int .i64 0] _ _ HRV.out)
    have HFV:Hid (At w (V.setRow (BT+1) #[.string ⟨#[]⟩,.int .i64 0]) K (Sy.failM K.C σ 6 (t.at_:Int))):=zz (by
     have hkr:Keeps (fun q=>q=BT+1) V (V.setRow (BT+1) #[.string ⟨#[]⟩,.int .i64 0]):=Keeps.setRow (S:=fun q=>q=BT+1) (Keeps.refl _ _) (.inl rfl) _;exact HFT.out.newR HS.out hkr (by have:=HBT.out; omega))
    refine bodyPost_ret (v:=.agg #[.string ⟨#[]⟩,.int .i64 0]) ?_ rfl ⟨by rw [HNT.out]; rfl,by rw [HNT.out]; exact HFV.out⟩;simp [results,Tryz.results137,go_sem,hrc,Act.put]
theorem typed_any (K:Pk) (σ:Sy.St) (w:World) (h:PS w K σ):Calls Tryz.prog 71 #[.pointer (some ⟨K.P,0,none⟩)] w fun e w'=>e=.returned (.bool (Sy.typedM K.C σ))∧Keeps No w w':=by
 obtain ⟨t,ht⟩:∃ t,Sy.peekM K.C σ 0=t:=⟨_,rfl⟩;have HP:=zz (peek_as K σ 0 (by omega) t ht 0 rfl w h);have hts:t.text.size≤maxLen:=by
  by_cases hl:σ.at_+0 < K.C.T.length
  · have h1:K.C.T[σ.at_]?=some t:=by
     rw [← ht]; unfold Sy.peekM;rw [List.getD_eq_getElem?_getD,Nat.add_zero,List.getElem?_eq_getElem (by omega)]; rfl
    have:=(h.tx t (List.mem_of_getElem? h1)).1;unfold maxLen; omega
  · rw [peek_end hl] at ht;rw [← ht]; exact Nat.zero_le _
 have HLK:=zz (fun W (hk:Keeps No w W)=>(h.no hk).names.look (k:=t.text) hts);have HS:=zz h;obtain ⟨CT,hCT⟩:∃ b,σ.types.contains t.text=b:=⟨_,rfl⟩;rw [hCT] at HLK;have HM:Hid (Sy.typedM K.C σ=((t.text.toList==[118,111,105,100]) || (t.text.toList==[99,104,97,114]) || (t.text.toList==[115,104,111,114,116]) || (t.text.toList==[105,110,116]) || (t.text.toList==[108,111,110,103]) || (t.text.toList==[117,110,115,105,103,110,101,100]) || (t.text.toList==[115,116,114,117,99,116]) || ((t.kind==1)&&CT))):=zz (by
  unfold Sy.typedM Sy.typeWord Sy.txt;rw [ht,hCT];simp only [eqL])
 clear h ht hts hCT;obtain ⟨b1,h1⟩:∃ b,(t.text.toList==[118,111,105,100])=b:=⟨_,rfl⟩;obtain ⟨b2,h2⟩:∃ b,(t.text.toList==[99,104,97,114])=b:=⟨_,rfl⟩;obtain ⟨b3,h3⟩:∃ b,(t.text.toList==[115,104,111,114,116])=b:=⟨_,rfl⟩;obtain ⟨b4,h4⟩:∃ b,(t.text.toList==[105,110,116])=b:=⟨_,rfl⟩;obtain ⟨b5,h5⟩:∃ b,(t.text.toList==[108,111,110,103])=b:=⟨_,rfl⟩;obtain ⟨b6,h6⟩:∃ b,(t.text.toList==[117,110,115,105,103,110,101,100])=b:=⟨_,rfl⟩;obtain ⟨b7,h7⟩:∃ b,(t.text.toList==[115,116,114,117,99,116])=b:=⟨_,rfl⟩;rw [h1,h2,h3,h4,h5,h6,h7] at HM;have hsp:(b1=true)∨(b1=false∧b2=true)∨(b1=false∧b2=false∧b3=true)∨(b1=false∧b2=false∧b3=false∧b4=true)∨(b1=false∧b2=false∧b3=false∧b4=false∧b5=true)∨(b1=false∧b2=false∧b3=false∧b4=false∧b5=false∧b6=true)∨(b1=false∧b2=false∧b3=false∧b4=false∧b5=false∧b6=false∧b7=true)∨(b1=false∧b2=false∧b3=false∧b4=false∧b5=false∧b6=false∧b7=false):=by
  cases b1 <;> cases b2 <;> cases b3 <;> cases b4 <;> cases b5 <;> cases b6 <;> cases b7 <;> decide
 rcases hsp with rfl | ⟨rfl,rfl⟩ | ⟨rfl,rfl,rfl⟩ | ⟨rfl,rfl,rfl,rfl⟩ | ⟨rfl,rfl,rfl,rfl,rfl⟩ | ⟨rfl,rfl,rfl,rfl,rfl,rfl⟩ | ⟨rfl,rfl,rfl,rfl,rfl,rfl,rfl⟩ | ⟨rfl,rfl,rfl,rfl,rfl,rfl,rfl⟩
 case inr.inr.inr.inr.inr.inr.inr =>
  go_enter Tryz.func71,Tryz.ntmps71;go_wp2_with fail;refine HP.out.mono ?_;rintro e w1 ⟨rfl,hk⟩;have HK:=zz hk;clear hk;go_upto_region 11 with fail
  obtain ⟨w2,hw2⟩:∃ W,w1.alloc (.cells #[.int .i64 t.kind,.int .i64 (t.at_:Int),.string t.text,.string t.suf,.int .u64 t.num,.bool t.hex] 83)=W:=⟨_,rfl⟩;obtain ⟨Q,hQ⟩:∃ q,w1.heap.size=q:=⟨_,rfl⟩;have r1:w2.heap[Q]?=some (.cells #[.int .i64 t.kind,.int .i64 (t.at_:Int),.string t.text,.string t.suf,.int .u64 t.num,.bool t.hex] 83 (0,0)):=by rw [← hw2,← hQ]; exact heap_alloc_new _ _
  have HK2:Hid (Keeps No w w2):=zz (by rw [← hw2]; exact HK.out.alloc _);rw [hw2,hQ];have p0:∀ u:KW w2,u.W.cell? ⟨Q,0,none⟩=some (.int .i64 t.kind):=fun u=>u.cell (by rw [cell_of_row w2 Q 0 _ _ _ r1]; rfl)
  have p2:∀ u:KW w2,u.W.cell? ⟨Q,2,none⟩=some (.string t.text):=fun u=>u.cell (by rw [cell_of_row w2 Q 2 _ _ _ r1]; rfl)
  have pm:∀ u:KW w2,u.W.cell? ⟨K.P,3,none⟩=some (.map (some K.MB)):=fun u=>(HS.out.no (HK2.out.trans u.h (fun _ _ e=>e))).c (j:=3) rfl
  have plk:∀ u:KW w2,(Instr.lookup 86 (.map (some K.MB)) (.string t.text) false).run Tryz.prog u.W=.ok (.int .i64 (if CT=true then 1 else 0)) u.W:=fun u=>HLK.out _ (HK2.out.trans u.h (fun _ _ e=>e))
  have hne:Nonempty (KW w2):=⟨KW.of _⟩;clear hw2 hQ r1 HLK;by_cases hk1:t.kind=1
  · have ek:(t.kind==1)=true:=beq_iff_eq.2 hk1;rw [ek] at HM;clear hk1;cases CT with
    | true =>
      have plk2:∀ u:KW w2,(Instr.lookup 86 (.map (some K.MB)) (.string t.text) false).run Tryz.prog u.W=.ok (.int .i64 1) u.W:=plk;clear plk;refine wp_region_class (C:=fun W=>∃ u:KW w2,W=u.W) (by kernel_rfl) (by kernel_rfl) ⟨⟨World.drew _,(Keeps.refl _ _).drew⟩,rfl⟩ ?_
      repeat (go_big_quiet_step (fail))
      refine wpQuiet_nil ?_;rintro _ ⟨T,rfl⟩;go_wp2_with fail;go_returns;exact ⟨rb rfl (by rw [HM.out]; rfl),HK2.out.trans T.h (fun _ _ e=>e)⟩
    | false =>
      have plk2:∀ u:KW w2,(Instr.lookup 86 (.map (some K.MB)) (.string t.text) false).run Tryz.prog u.W=.ok (.int .i64 0) u.W:=plk;clear plk;refine wp_region_class (C:=fun W=>∃ u:KW w2,W=u.W) (by kernel_rfl) (by kernel_rfl) ⟨⟨World.drew _,(Keeps.refl _ _).drew⟩,rfl⟩ ?_
      repeat (go_big_quiet_step (fail))
      refine wpQuiet_nil ?_;rintro _ ⟨T,rfl⟩;go_wp2_with fail;go_returns;exact ⟨rb rfl (by rw [HM.out]; rfl),HK2.out.trans T.h (fun _ _ e=>e)⟩
  · have ek:(t.kind==1)=false:=beq_eq_false_iff_ne.2 hk1;rw [ek] at HM;clear hk1;refine wp_region_class (C:=fun W=>∃ u:KW w2,W=u.W) (by kernel_rfl) (by kernel_rfl) ⟨⟨World.drew _,(Keeps.refl _ _).drew⟩,rfl⟩ ?_
    repeat (go_big_quiet_step (fail))
    refine wpQuiet_nil ?_;rintro _ ⟨T,rfl⟩;go_wp2_with fail;go_returns;exact ⟨rb rfl (by rw [HM.out]; rfl),HK2.out.trans T.h (fun _ _ e=>e)⟩
 all_goals
  have HM2:Hid (Sy.typedM K.C σ=true):=zz (by rw [HM.out]; simp);go_enter Tryz.func71,Tryz.ntmps71;go_wp2_with fail;refine HP.out.mono ?_;rintro e w1 ⟨rfl,hk⟩;have HK:=zz hk;clear hk;go_wp2_with fail;go_returns;exact ⟨rb rfl HM2.out.symm,HK.out.alloc _⟩
theorem bits_as (op r:ByteArray) (hr:Sy.bitsM op=r) (w:World):Calls Tryz.prog 108 #[.string op] w fun e w'=>e=.returned (.string r)∧w=w':=by
 rw [← hr]; exact bits_any op w
theorem tk_box {w:World} {Q:Nat} {t:Tk} (h:w.heap[Q]?=some (.cells #[.int .i64 t.kind,.int .i64 (t.at_:Int),.string t.text,.string t.suf,.int .u64 t.num,.bool t.hex] 83 (0,0))) :
    w.cell? ⟨Q,0,none⟩=some (.int .i64 t.kind)∧w.cell? ⟨Q,1,none⟩=some (.int .i64 (t.at_:Int))∧w.cell? ⟨Q,2,none⟩=some (.string t.text)∧w.cell? ⟨Q,3,none⟩=some (.string t.suf)∧w.cell? ⟨Q,4,none⟩=some (.int .u64 t.num)∧w.cell? ⟨Q,5,none⟩=some (.bool t.hex):=by
 refine ⟨?_,?_,?_,?_,?_,?_⟩ <;> (rw [cell_of_row w Q _ _ _ _ h]; rfl)
theorem peek_size {w:World} {K:Pk} {σ:Sy.St} (h:PS w K σ) (k:Nat):(Sy.peekM K.C σ k).text.size≤1000000:=by
 by_cases hl:σ.at_+k < K.C.T.length
 · obtain ⟨t,ht⟩:∃ t,K.C.T[σ.at_+k]?=some t:=⟨_,List.getElem?_eq_getElem hl⟩;have:=(h.tx t (List.mem_of_getElem? ht)).1;unfold Sy.peekM;rw [List.getD_eq_getElem?_getD,ht]; exact this
 · rw [peek_end hl]; exact Nat.zero_le _
theorem name_size {w:World} {K:Pk} {σ:Sy.St} (h:PS w K σ):(Sy.nameM K.C σ).1.size≤1000000:=by
 unfold Sy.nameM;split
 · exact peek_size h 0
 · exact Nat.zero_le _
theorem bits_size (op:ByteArray):(Sy.bitsM op).size≤2:=by
 unfold Sy.bitsM
 (repeat' split) <;> first | exact Nat.le_refl _ | exact Nat.le_succ _ | exact Nat.zero_le _
theorem base_any (K:Pk) (σ:Sy.St) (w:World) (h:PS w K σ):Calls Tryz.prog 92 #[.pointer (some ⟨K.P,0,none⟩)] w fun e w'=>e=.returned (.string (Sy.baseM K.C σ).1)∧At w w' K (Sy.baseM K.C σ).2:=by
 obtain ⟨t,ht⟩:∃ t,Sy.peekM K.C σ 0=t:=⟨_,rfl⟩;have HX:=zz (next_as K σ t ht w h);have HNM:=zz (fun W τ (hs:PS W K τ)=>name_any K τ W hs);have HNX:=zz (fun W τ (hs:PS W K τ)=>next_any K τ W hs);have HLT:Hid (K.P < w.heap.size):=zz h.lt;obtain ⟨τ,hτ⟩:∃ τ,Sy.nextM K.C σ=τ:=⟨_,rfl⟩;have HM:Hid (Sy.baseM K.C σ=if (t.text.toList==[118,111,105,100])=true then (⟨#[118,111,105,100]⟩,τ) else if (t.text.toList==[115,116,114,117,99,116])=true then (⟨#[83,46]⟩++(Sy.nameM K.C τ).1,(Sy.nameM K.C τ).2) else if (t.text.toList==[117,110,115,105,103,110,101,100])=true then (if ((Sy.bitsM (Sy.txt K.C τ)).toList==[])=true then (⟨#[117,51,50]⟩,τ) else (⟨#[117]⟩++Sy.bitsM (Sy.txt K.C τ),Sy.nextM K.C τ)) else if ((Sy.bitsM t.text).toList==[])=true then (⟨#[84,46]⟩++t.text,τ) else (⟨#[105]⟩++Sy.bitsM t.text,τ)):=zz (by
  unfold Sy.baseM;have e:Sy.txt K.C σ=t.text:=by unfold Sy.txt; rw [ht]
  rw [e,hτ];simp only [eqL,Sy.nt])
 rw [hτ] at HX;obtain ⟨u,hu⟩:∃ u,Sy.peekM K.C τ 0=u:=⟨_,rfl⟩;have hue:Sy.txt K.C τ=u.text:=by unfold Sy.txt; rw [hu]
 rw [hue] at HM;have HPU:=zz (fun W (hs:PS W K τ)=>peek_as K τ 0 (by omega) u hu 0 rfl W hs);obtain ⟨BU,hBU⟩:∃ s,Sy.bitsM u.text=s:=⟨_,rfl⟩;obtain ⟨BT,hBT⟩:∃ s,Sy.bitsM t.text=s:=⟨_,rfl⟩;have HBU:=zz (fun W=>bits_as u.text BU hBU W);have HBT:=zz (fun W=>bits_as t.text BT hBT W);rw [hBU,hBT] at HM;obtain ⟨b1,h1⟩:∃ b,(t.text.toList==[118,111,105,100])=b:=⟨_,rfl⟩;obtain ⟨b7,h7⟩:∃ b,(t.text.toList==[115,116,114,117,99,116])=b:=⟨_,rfl⟩;obtain ⟨b6,h6⟩:∃ b,(t.text.toList==[117,110,115,105,103,110,101,100])=b:=⟨_,rfl⟩;rw [h1,h6,h7] at HM;have z1:t.text.size≤1000000:=by rw [← ht]; exact peek_size h 0
 have z2:BU.size≤2:=by rw [← hBU]; exact bits_size _
 have z3:BT.size≤2:=by rw [← hBT]; exact bits_size _
 clear h ht hτ hue hu hBU hBT;go_enter Tryz.func92,Tryz.ntmps92;go_wp2_with fail;refine HX.out.mono ?_;rintro e w1 ⟨rfl,hat⟩;have hb2:(w1.alloc (.cells #[.int .i64 t.kind,.int .i64 (t.at_:Int),.string t.text,.string t.suf,.int .u64 t.num,.bool t.hex] 83)).heap[w1.heap.size]?=some (.cells #[.int .i64 t.kind,.int .i64 (t.at_:Int),.string t.text,.string t.suf,.int .u64 t.num,.bool t.hex] 83 (0,0)):=heap_alloc_new _ _;have HA2:Hid (At w (w1.alloc (.cells #[.int .i64 t.kind,.int .i64 (t.at_:Int),.string t.text,.string t.suf,.int .u64 t.num,.bool t.hex] 83)) K τ):=zz (hat.no ((Keeps.refl _ _).alloc _));have hQ:w.heap.size≤w1.heap.size:=hat.k.size;clear hat HX;go_upto_region 2 with fail
 generalize w1.alloc (.cells #[.int .i64 t.kind,.int .i64 (t.at_:Int),.string t.text,.string t.suf,.int .u64 t.num,.bool t.hex] 83)=w2 at hb2 HA2 ⊢;obtain ⟨Q,hQQ⟩:∃ q,w1.heap.size=q:=⟨_,rfl⟩;rw [hQQ] at hb2 hQ ⊢;have HB2:=zz hb2;have HQP:Hid (Q≠K.P):=zz (by have:=HLT.out; omega);clear hQQ hQ;obtain ⟨_,_,x2,_,_,_⟩:=tk_box hb2;clear hb2;cases b1 with
 | true =>
   have HM2:=HM.out;rw [if_pos rfl] at HM2;have HM2:=zz HM2;go_wp2_with fail;go_returns
   first | exact ⟨rs rfl (by rw [HM2.out]),by rw [HM2.out]; exact HA2.out⟩ | exact ⟨rfl,HA2.out⟩
 | false =>
   cases b7 with
   | true =>
     have HM2:=HM.out;rw [if_neg (by decide),if_pos rfl] at HM2;obtain ⟨r,hr⟩:∃ r,Sy.nameM K.C τ=r:=⟨_,rfl⟩;have HNM2:=HNM.out w2 τ HA2.out.p;have z4:=name_size HA2.out.p;rw [hr] at HM2 HNM2 z4;obtain ⟨rn,rτ⟩:=r;simp only at HM2 HNM2 z4;have HM2:=zz HM2;have HNM2:=zz HNM2;clear hr;go_wp2_with fail;refine HNM2.out.mono ?_;rintro e w3 ⟨rfl,hat⟩;have HA3:=zz (HA2.out.trans hat);clear hat;go_wp2_with fail;go_returns
     first | exact ⟨rs rfl (by rw [HM2.out]),by rw [HM2.out]; exact HA3.out⟩ | exact ⟨rfl,HA3.out⟩
   | false =>
     cases b6 with
     | true =>
       have HM2:=HM.out;rw [if_neg (by decide),if_neg (by decide),if_pos rfl] at HM2;have HM2:=zz HM2;go_wp2_with fail;refine (HPU.out w2 HA2.out.p).mono ?_;rintro e w3 ⟨rfl,hk⟩;have HA3:=zz (HA2.out.no hk);clear hk;have f2:=fun W=>(tk_fld u.kind u.at_ u.text u.suf u.num u.hex W).2.2
       go_wp2_with fail;refine (HBU.out w3).mono ?_;rintro e w4 ⟨rfl,rfl⟩;obtain ⟨BE,hBE⟩:∃ b,(BU.toList==[])=b:=⟨_,rfl⟩;rw [hBE] at HM2;cases BE with
       | true =>
         have hBN:(BU.toList != [])=false:=by rw [bne,hBE]; rfl
         have HM3:=HM2.out;rw [if_pos rfl] at HM3;have HM3:=zz HM3;go_wp2_with fail;go_returns
         first | exact ⟨rs rfl (by rw [HM3.out]),by rw [HM3.out]; exact HA3.out⟩ | exact ⟨rfl,HA3.out⟩
       | false =>
         have hBN:(BU.toList != [])=true:=by rw [bne,hBE]; rfl
         have HM3:=HM2.out;rw [if_neg (by decide)] at HM3;have HM3:=zz HM3;go_wp2_with fail;refine (HNX.out w3 τ HA3.out.p).mono ?_;rintro e w5 ⟨rfl,hat⟩;have HA5:=zz (HA3.out.trans hat);clear hat;go_wp2_with fail;go_returns
         first | exact ⟨rs rfl (by rw [HM3.out]),by rw [HM3.out]; exact HA5.out⟩ | exact ⟨rfl,HA5.out⟩
     | false =>
       have HM2:=HM.out;rw [if_neg (by decide),if_neg (by decide),if_neg (by decide)] at HM2;have HM2:=zz HM2;go_wp2_with fail;refine (HBT.out w2).mono ?_;rintro e w4 ⟨rfl,rfl⟩;obtain ⟨BE,hBE⟩:∃ b,(BT.toList==[])=b:=⟨_,rfl⟩;rw [hBE] at HM2;cases BE with
       | true =>
         have hBN:(BT.toList != [])=false:=by rw [bne,hBE]; rfl
         have HM3:=HM2.out;rw [if_pos rfl] at HM3;have HM3:=zz HM3;go_wp2_with fail;go_returns
         first | exact ⟨rs rfl (by rw [HM3.out]),by rw [HM3.out]; exact HA2.out⟩ | exact ⟨rfl,HA2.out⟩
       | false =>
         have hBN:(BT.toList != [])=true:=by rw [bne,hBE]; rfl
         have HM3:=HM2.out;rw [if_neg (by decide)] at HM3;have HM3:=zz HM3;go_wp2_with fail;go_returns
         first | exact ⟨rs rfl (by rw [HM3.out]),by rw [HM3.out]; exact HA2.out⟩ | exact ⟨rfl,HA2.out⟩
theorem At.mono {a b:World} {K:Pk} {σ τ:Sy.St} (h:At a b K τ) (hs:PS a K σ) {R:Nat} (hR:a.heap.size≤R) (v:Value) (j:Nat):At a (b.setCell ⟨R,j,none⟩ v) K τ :=
 h.newR hs ((Keeps.refl (fun q=>q=R) b).setCell (.inl rfl) _) hR
theorem typ_any (K:Pk) (σ:Sy.St) (w:World) (h:PS w K σ):Calls Tryz.prog 68 #[.pointer (some ⟨K.P,0,none⟩)] w fun e w'=>e=.returned (.agg #[.string (Sy.typM K.C σ).1.base,.int .i64 (Sy.typM K.C σ).1.stars])∧At w w' K (Sy.typM K.C σ).2:=by
 have HS:=zz h;have HTY:=zz (fun W (hk:Keeps No w W)=>typed_any K σ W (h.no hk));obtain ⟨b,hb⟩:∃ b,Sy.typedM K.C σ=b:=⟨_,rfl⟩;rw [hb] at HTY;have HM:Hid (Sy.typM K.C σ=if b=true then (⟨(Sy.baseM K.C σ).1,(Sy.starsM K.C K.C.T.length (Sy.baseM K.C σ).2 0).1⟩,(Sy.starsM K.C K.C.T.length (Sy.baseM K.C σ).2 0).2) else (Sy.ty0,Sy.lostM K.C σ)):=zz (by unfold Sy.typM; rw [hb]);clear hb h;go_enter Tryz.func68,Tryz.ntmps68;go_upto_region 1 with fail
 obtain ⟨w1,hw1⟩:∃ W,w.alloc (.cells #[.string ⟨#[]⟩,.int .i64 0] 56)=W:=⟨_,rfl⟩;obtain ⟨R,hRR⟩:∃ R,w.heap.size=R:=⟨_,rfl⟩;have r1:w1.heap[R]?=some (.cells #[.string ⟨#[]⟩,.int .i64 0] 56 (0,0)):=by rw [← hw1,← hRR]; exact heap_alloc_new _ _
 have HK1:Hid (Keeps No w w1):=zz (by rw [← hw1]; exact (Keeps.refl _ _).alloc _);have HR:Hid (w.heap.size≤R):=zz (by omega);rw [hw1,hRR];have HRR:=zz r1;clear hw1 hRR r1;go_wp2_with fail;refine (HTY.out _ HK1.out).mono ?_;rintro e w2 ⟨rfl,hk2⟩;have HK2:Hid (Keeps No w w2):=zz (HK1.out.trans hk2 (fun _ _ e=>e));have HR2:Hid (w2.heap[R]?=some (.cells #[.string ⟨#[]⟩,.int .i64 0] 56 (0,0))):=zz ((hk2.block _ (Array.getElem?_eq_some_iff.1 HRR.out).1 (fun e=>e)).trans HRR.out);clear hk2 HRR HTY;cases b with
 | false =>
   have HM2:=HM.out;rw [if_neg (by decide)] at HM2;have HM2:=zz HM2;have HLO:=zz (lost_any K σ w2 (HS.out.no HK2.out));go_wp2_with fail;refine HLO.out.mono ?_;rintro e V ⟨rfl,hat⟩;have HRV:Hid (V.heap[R]?=some (.cells #[.string ⟨#[]⟩,.int .i64 0] 56 (0,0))):=zz ((hat.k.block _ (Array.getElem?_eq_some_iff.1 HR2.out).1 (fun e=>by
    have e2:R=K.P:=e;have:=HS.out.lt; have:=HR.out; omega)).trans HR2.out)
   have HFT:=zz (At.after HK2.out hat);clear hat;go_upto_region 3 with fail
   repeat (first | (refine wpList_store_row rfl _ _ _ rfl R _ rfl rfl _ _ HRV.out infoTy rfl (one2 _ _) ?_) | go_values | go_skip | go_guarded | go_step | go_upon | go_back)
   have hrc:=fun j=>cell_of_row _ R j _ _ _ (setRow_heap V R _ #[.string ⟨#[]⟩,.int .i64 0] _ _ HRV.out)
   have HFV:Hid (At w (V.setRow R #[.string ⟨#[]⟩,.int .i64 0]) K (Sy.lostM K.C σ)):=zz (by
    have hkr:Keeps (fun q=>q=R) V (V.setRow R #[.string ⟨#[]⟩,.int .i64 0]):=Keeps.setRow (S:=fun q=>q=R) (Keeps.refl _ _) (.inl rfl) _;exact HFT.out.newR HS.out hkr HR.out)
   refine bodyPost_ret (v:=.agg #[.string ⟨#[]⟩,.int .i64 0]) ?_ rfl ?_
   · simp [results,Tryz.results68,go_sem,hrc,Act.put]
   · rw [HM2.out]; exact ⟨rfl,HFV.out⟩
 | true =>
   obtain ⟨r,hr⟩:∃ r,Sy.baseM K.C σ=r:=⟨_,rfl⟩;have HM2:=HM.out;rw [if_pos rfl,hr] at HM2;have hba:=base_any K σ w2 (HS.out.no HK2.out);rw [hr] at hba;obtain ⟨BS,τ0⟩:=r;simp only at hba HM2;have HM2:=zz HM2;have HBA:=zz hba;clear hba hr HM;go_wp2_with fail;refine HBA.out.mono ?_;rintro e w3 ⟨rfl,hat⟩;have HR3:Hid (w3.heap[R]?=some (.cells #[.string ⟨#[]⟩,.int .i64 0] 56 (0,0))):=zz ((hat.k.block _ (Array.getElem?_eq_some_iff.1 HR2.out).1 (fun e=>by
    have e2:R=K.P:=e;have:=HS.out.lt; have:=HR.out; omega)).trans HR2.out)
   have HA3:=zz (At.after HK2.out hat);clear hat HBA HR2;go_upto_region 5 with fail
   obtain ⟨w4,hw4⟩:∃ W,w3.alloc (.cells #[.string BS,.int .i64 0] 56)=W:=⟨_,rfl⟩;obtain ⟨Q,hQ⟩:∃ R,w3.heap.size=R:=⟨_,rfl⟩;have r4:w4.heap[Q]?=some (.cells #[.string BS,.int .i64 (0:Nat)] 56 (0,0)):=by rw [← hw4,← hQ]; exact heap_alloc_new _ _
   have hk4:Keeps No w3 w4:=by rw [← hw4]; exact (Keeps.refl _ _).alloc _
   have HR4:Hid (w4.heap[R]?=some (.cells #[.string ⟨#[]⟩,.int .i64 0] 56 (0,0))):=zz ((hk4.block _ (Array.getElem?_eq_some_iff.1 HR3.out).1 (fun e=>e)).trans HR3.out);have HA4:Hid (At w w4 K τ0):=zz (HA3.out.no hk4);have HQR:Hid (Q≠R∧w.heap.size≤Q):=zz ⟨by have:=(Array.getElem?_eq_some_iff.1 HR3.out).1; omega,by have:=HA3.out.k.size; omega⟩;have HLE:Hid (τ0.at_≤K.C.T.length∧K.C.T.length≤6000):=zz ⟨HA4.out.p.le,HA4.out.p.len⟩;have HPR:Hid (K.P≠R∧K.P≠Q):=zz ⟨by have:=HS.out.lt; have:=HR.out; omega,by have:=HS.out.lt; have:=HQR.out.2; omega⟩;rw [hw4,hQ];have HQ4:=zz r4;obtain ⟨LN,hLN⟩:∃ n,K.C.T.length=n:=⟨_,rfl⟩;rw [hLN] at HM2 HLE;have HLN:=zz hLN;clear hw4 hQ r4 hk4 hLN;go_loopg [13] (LN - τ0.at_) (fun g v wr=>∃ (f m:Nat) (τ:Sy.St),g=LN - τ.at_∧Hid (Sy.starsM K.C f τ (m:Int)=Sy.starsM K.C LN τ0 0∧LN - τ.at_≤f∧m≤τ.at_∧τ.at_≤LN)∧Hid (At w wr K τ)∧Hid (wr.heap[R]?=some (.cells #[.string ⟨#[]⟩,.int .i64 0] 56 (0,0)))∧Hid (wr.heap[Q]?=some (.cells #[.string BS,.int .i64 (m:Int)] 56 (0,0))))
   case atStart=>exact ⟨LN,0,τ0,rfl,zz ⟨rfl,by omega,Nat.zero_le _,HLE.out.1⟩,HA4,HR4,HQ4⟩
   case round =>
    obtain ⟨f,m,τ,hg,HST,HAT,HRW,HQW⟩:=hrel;obtain ⟨bb,hbb⟩:∃ b,Sy.isM K.C τ ⟨#[42]⟩=b:=⟨_,rfl⟩;have HTK:=zz (take_any K τ ⟨#[42]⟩ bb hbb wr HAT.out.p);cases bb with
    | true =>
      have hlt:τ.at_ < LN:=by rw [← HLN.out]; exact Sy.is_lt hbb (by decide)
      have HST2:Hid (Sy.starsM K.C (f - 1) (Sy.nextM K.C τ) ((m+1:Nat):Int)=Sy.starsM K.C LN τ0 0∧LN - (Sy.nextM K.C τ).at_≤f - 1∧m+1≤(Sy.nextM K.C τ).at_∧(Sy.nextM K.C τ).at_≤LN):=zz (by
       obtain ⟨h1,h2,h3,h4⟩:=HST.out;obtain ⟨f',rfl⟩:∃ f',f=f'+1:=⟨f - 1,by omega⟩;have hn:=Sy.next_at (C:=K.C) (σ:=τ) (by rw [HLN.out]; exact hlt);refine ⟨?_,by rw [hn]; omega,by rw [hn]; omega,by rw [hn]; omega⟩;rw [← h1]
       conv=>rhs; unfold Sy.starsM
       rw [hbb,if_pos rfl];have e:((m+1:Nat):Int)=(m:Int)+1:=by omega
       rw [e]; rfl)
      have hm6:m≤6000:=by have:=HST.out; have:=HLE.out; omega
      have hnat:(Sy.nextM K.C τ).at_=τ.at_+1:=Sy.next_at (by rw [HLN.out]; exact hlt);clear hbb;go_wp2_with fail;refine HTK.out.mono ?_;rintro e w5 ⟨rfl,hat⟩;have hat2:At wr w5 K (Sy.nextM K.C τ):=hat;have HA5:=zz (HAT.out.trans hat2);have hr5:w5.heap[R]?=some (.cells #[.string ⟨#[]⟩,.int .i64 0] 56 (0,0)):=(hat2.k.block _ (Array.getElem?_eq_some_iff.1 HRW.out).1 (fun e=>HPR.out.1 e.symm)).trans HRW.out;have hq5:w5.heap[Q]?=some (.cells #[.string BS,.int .i64 (m:Int)] 56 (0,0)):=(hat2.k.block _ (Array.getElem?_eq_some_iff.1 HQW.out).1 (fun e=>HPR.out.2 e.symm)).trans HQW.out;have c1:w5.cell? ⟨Q,1,none⟩=some (.int .i64 (m:Int)):=by rw [cell_of_row w5 Q 1 _ _ _ hq5]; rfl
      have fz:w5.frozen? ⟨Q,1,none⟩=false:=frozen_of_row w5 Q 1 _ _ hq5;have HR6:Hid ((w5.setCell ⟨Q,1,none⟩ (.int .i64 ((m:Int)+1))).heap[R]?=some (.cells #[.string ⟨#[]⟩,.int .i64 0] 56 (0,0))):=zz (by rw [Below.heap_setCell _ _ _ _ (by exact fun e=>HQR.out.1 e.symm)]; exact hr5);have HQ6:Hid ((w5.setCell ⟨Q,1,none⟩ (.int .i64 ((m:Int)+1))).heap[Q]?=some (.cells #[.string BS,.int .i64 ((m+1:Nat):Int)] 56 (0,0))):=zz (by rw [heap_setCell_same w5 Q 1 _ _ _ hq5]; rfl);have HA6:Hid (At w (w5.setCell ⟨Q,1,none⟩ (.int .i64 ((m:Int)+1))) K (Sy.nextM K.C τ)):=zz (HA5.out.mono HS.out HQR.out.2 _ _);clear hat hat2 hr5 hq5;go_wp2_with fail;go_roundg (LN - (Sy.nextM K.C τ).at_)
      case rel=>exact ⟨f - 1,m+1,Sy.nextM K.C τ,rfl,HST2,HA6,HR6,HQ6⟩
      case measure=>omega
    | false =>
      have HST2:Hid (Sy.starsM K.C LN τ0 0=((m:Int),τ)):=zz (by
       obtain ⟨h1,h2,h3,h4⟩:=HST.out;rw [← h1];cases f with
       | zero=>rfl
       | succ f'=>unfold Sy.starsM; rw [hbb,if_neg (by decide)])
      clear hbb;go_wp2_with fail;refine HTK.out.mono ?_;rintro e w5 ⟨rfl,hat⟩;have hat2:At wr w5 K τ:=hat;have HA5:=zz (HAT.out.trans hat2);have HR5:Hid (w5.heap[R]?=some (.cells #[.string ⟨#[]⟩,.int .i64 0] 56 (0,0))):=zz ((hat2.k.block _ (Array.getElem?_eq_some_iff.1 HRW.out).1 (fun e=>HPR.out.1 e.symm)).trans HRW.out);have hq5:w5.heap[Q]?=some (.cells #[.string BS,.int .i64 (m:Int)] 56 (0,0)):=(hat2.k.block _ (Array.getElem?_eq_some_iff.1 HQW.out).1 (fun e=>HPR.out.2 e.symm)).trans HQW.out;have c0:w5.cell? ⟨Q,0,none⟩=some (.string BS):=by rw [cell_of_row w5 Q 0 _ _ _ hq5]; rfl
      have c1:w5.cell? ⟨Q,1,none⟩=some (.int .i64 (m:Int)):=by rw [cell_of_row w5 Q 1 _ _ _ hq5]; rfl
      clear hat hat2 hq5;go_upto_region 7 with fail
      repeat (first | (refine wpList_store_row rfl _ _ _ rfl R _ rfl rfl _ _ HR5.out infoTy rfl (one2 _ _) ?_) | go_values | go_skip | go_guarded | go_step | go_upon | go_back)
      have hrc:=fun j=>cell_of_row _ R j _ _ _ (setRow_heap w5 R _ #[.string BS,.int .i64 (m:Int)] _ _ HR5.out)
      have HFV:Hid (At w (w5.setRow R #[.string BS,.int .i64 (m:Int)]) K τ):=zz (by
       have hkr:Keeps (fun q=>q=R) w5 (w5.setRow R #[.string BS,.int .i64 (m:Int)]):=Keeps.setRow (S:=fun q=>q=R) (Keeps.refl _ _) (.inl rfl) _;exact HA5.out.newR HS.out hkr HR.out)
      refine bodyPost_ret (v:=.agg #[.string BS,.int .i64 (m:Int)]) ?_ rfl ?_
      · simp [results,Tryz.results68,go_sem,hrc,Act.put]
      · rw [HM2.out,HST2.out]; exact ⟨rfl,HFV.out⟩
def arrRow (cs:Array Value) (o:Nat) (b:Bool) (n:Int):Array Value:=(cs.setIfInBounds (o+3) (.bool b)).setIfInBounds (o+4) (.int .u64 n)
theorem arrRow_same {cs:Array Value} {o:Nat} {b:Bool} {n:Int} (h3:cs[o+3]?=some (.bool b)) (h4:cs[o+4]?=some (.int .u64 n)):arrRow cs o b n=cs:=by
 unfold arrRow;refine Array.ext_getElem? fun i=>?_
 by_cases e4:i=o+4
 · subst e4;rw [Array.getElem?_setIfInBounds_self_of_lt (by rw [Array.size_setIfInBounds]; exact (Array.getElem?_eq_some_iff.1 h4).1),h4]
 · rw [Array.getElem?_setIfInBounds_ne (by omega)];by_cases e3:i=o+3
   · subst e3;rw [Array.getElem?_setIfInBounds_self_of_lt (Array.getElem?_eq_some_iff.1 h3).1,h3]
   · rw [Array.getElem?_setIfInBounds_ne (by omega)]
structure AtV (w w':World) (K:Pk) (τ:Sy.St) (V:Nat):Prop where
 p:PS w' K τ
 k:Keeps (fun q=>q=K.P∨q=V) w w'
theorem At.toV {w w':World} {K:Pk} {τ:Sy.St} (h:At w w' K τ) (V:Nat):AtV w w' K τ V:=⟨h.p,h.k.mono (fun _ _ e=>.inl e)⟩
theorem number_any (K:Pk) (σ:Sy.St) (V o:Nat) (cs:Array Value) (ty:TypeId) (w:World) (h:PS w K σ) (hv:w.heap[V]?=some (.cells cs ty (0,0))) (hB:K.B≤V) (h3:cs[o+3]?=some (.bool false)) (h4:cs[o+4]?=some (.int .u64 0)) :
    Calls Tryz.prog 69 #[.pointer (some ⟨K.P,0,none⟩),.pointer (some ⟨V,o,none⟩)] w fun e w'=>e=.returned (.tuple #[])∧AtV w w' K (Sy.numberM K.C σ).2.2 V∧w'.heap[V]?=some (.cells (arrRow cs o (Sy.numberM K.C σ).1 (Sy.numberM K.C σ).2.1) ty (0,0)):=by
 have HS:=zz h;have HV:=zz hv;have HVP:Hid (V≠K.P∧K.B≤V):=zz ⟨by have:=h.ord; omega,hB⟩;have HNO:Hid (arrRow cs o false 0=cs):=zz (arrRow_same h3 h4);have HC34:=zz (And.intro h3 h4);obtain ⟨b,hb⟩:∃ b,Sy.isM K.C σ ⟨#[91]⟩=b:=⟨_,rfl⟩;have HTK:=zz (take_any K σ ⟨#[91]⟩ b hb w h);obtain ⟨τ,hτ⟩:∃ τ,Sy.nextM K.C σ=τ:=⟨_,rfl⟩;obtain ⟨t,ht⟩:∃ t,Sy.peekM K.C τ 0=t:=⟨_,rfl⟩;have HM:Hid (Sy.numberM K.C σ=if b=true then (if t.kind=3∧(t.suf.toList==[])=true then (true,t.num,Sy.wantM K.C (Sy.nextM K.C τ) ⟨#[93]⟩) else (false,0,Sy.lostM K.C τ)) else (false,0,σ)):=zz (by
  unfold Sy.numberM;rw [hb,hτ];simp only [ht,eqL,Sy.nt])
 rw [hτ] at HTK;have HPK:=zz (fun W (hs:PS W K τ)=>peek_as K τ 0 (by omega) t ht 0 rfl W hs);have HLO:=zz (fun W (hs:PS W K τ)=>lost_any K τ W hs);have HNX:=zz (fun W (hs:PS W K τ)=>next_any K τ W hs);have HWA:=zz (fun W υ (hs:PS W K υ)=>want_any K υ ⟨#[93]⟩ W hs);clear hb hτ ht h hv hB h3 h4;cases b with
 | false =>
   have HM2:=HM.out;rw [if_neg (by decide)] at HM2;have HM2:=zz HM2;go_enter Tryz.func69,Tryz.ntmps69;go_wp2_with fail;refine HTK.out.mono ?_;rintro e w1 ⟨rfl,hat⟩;have HA:Hid (At w w1 K σ):=zz hat;clear hat;go_wp2_with fail;go_returns;rw [HM2.out];exact ⟨rfl,HA.out.toV V,by rw [HNO.out]; exact (HA.out.k.block _ (Array.getElem?_eq_some_iff.1 HV.out).1 HVP.out.1).trans HV.out⟩
 | true =>
   have HM2:=HM.out;rw [if_pos rfl] at HM2;have HM2:=zz HM2;clear HM;go_enter Tryz.func69,Tryz.ntmps69;go_wp2_with fail;refine HTK.out.mono ?_;rintro e w1 ⟨rfl,hat⟩;have HA1:Hid (At w w1 K τ):=zz hat;clear hat HTK;go_wp2_with fail;refine (HPK.out w1 HA1.out.p).mono ?_;rintro e w2 ⟨rfl,hk2⟩;have hb2:(w2.alloc (.cells #[.int .i64 t.kind,.int .i64 (t.at_:Int),.string t.text,.string t.suf,.int .u64 t.num,.bool t.hex] 83)).heap[w2.heap.size]?=some (.cells #[.int .i64 t.kind,.int .i64 (t.at_:Int),.string t.text,.string t.suf,.int .u64 t.num,.bool t.hex] 83 (0,0)):=heap_alloc_new _ _;have HA3:Hid (At w (w2.alloc (.cells #[.int .i64 t.kind,.int .i64 (t.at_:Int),.string t.text,.string t.suf,.int .u64 t.num,.bool t.hex] 83)) K τ):=zz ((HA1.out.no hk2).no ((Keeps.refl _ _).alloc _));have hQ:V < w2.heap.size:=Nat.lt_of_lt_of_le (Array.getElem?_eq_some_iff.1 HV.out).1 (Nat.le_trans HA1.out.k.size hk2.size);have hQP:K.P < w2.heap.size:=Nat.lt_of_lt_of_le HS.out.lt (Nat.le_trans HA1.out.k.size hk2.size);clear hk2;go_upto_region 2 with fail
   generalize w2.alloc (.cells #[.int .i64 t.kind,.int .i64 (t.at_:Int),.string t.text,.string t.suf,.int .u64 t.num,.bool t.hex] 83)=w3 at hb2 HA3 ⊢;obtain ⟨Q,hQQ⟩:∃ q,w2.heap.size=q:=⟨_,rfl⟩;rw [hQQ] at hb2 hQ hQP ⊢;have HB2:=zz hb2;have HQP:Hid (Q≠K.P∧Q≠V):=zz ⟨by omega,by omega⟩;have HV3:Hid (w3.heap[V]?=some (.cells cs ty (0,0))):=zz ((HA3.out.k.block _ (Array.getElem?_eq_some_iff.1 HV.out).1 HVP.out.1).trans HV.out);clear hQQ hQ hQP;obtain ⟨x0,_,_,x3,_,_⟩:=tk_box hb2;clear hb2;have hsp:t.kind≠3∨(t.kind=3∧(t.suf.toList==[])=false)∨(t.kind=3∧(t.suf.toList==[])=true):=by
    by_cases hk:t.kind=3
    · cases hs:(t.suf.toList==[])
      · exact .inr (.inl ⟨hk,rfl⟩)
      · exact .inr (.inr ⟨hk,rfl⟩)
    · exact .inl hk
   rcases hsp with hk | ⟨hk,hs⟩ | ⟨hk,hs⟩
   · have ek:(t.kind != 3)=true:=by rw [bne,beq_eq_false_iff_ne.2 hk]; rfl
     have HM3:Hid (Sy.numberM K.C σ=(false,0,Sy.lostM K.C τ)):=zz (by rw [HM2.out,if_neg (fun e=>hk e.1)]);clear hk;go_wp2_with fail;refine (HLO.out w3 HA3.out.p).mono ?_;rintro e w4 ⟨rfl,hat⟩;have HA4:=zz (HA3.out.trans hat);have HV4:Hid (w4.heap[V]?=some (.cells cs ty (0,0))):=zz ((hat.k.block _ (Array.getElem?_eq_some_iff.1 HV3.out).1 HVP.out.1).trans HV3.out);clear hat;go_wp2_with fail;go_returns;rw [HM3.out];exact ⟨rfl,HA4.out.toV V,by rw [HNO.out]; exact HV4.out⟩
   · have ek:(t.kind != 3)=false:=by rw [bne,beq_iff_eq.2 hk]; rfl
     have es:t.suf.toList.isEmpty=false:=by
      cases h:t.suf.toList with
      | nil=>rw [h] at hs; exact absurd hs (by decide)
      | cons a b=>rfl
     have HM3:Hid (Sy.numberM K.C σ=(false,0,Sy.lostM K.C τ)):=zz (by rw [HM2.out,if_neg (fun e=>by rw [hs] at e; exact absurd e.2 (by decide))]);clear hk hs;go_wp2_with fail;refine (HLO.out w3 HA3.out.p).mono ?_;rintro e w4 ⟨rfl,hat⟩;have HA4:=zz (HA3.out.trans hat);have HV4:Hid (w4.heap[V]?=some (.cells cs ty (0,0))):=zz ((hat.k.block _ (Array.getElem?_eq_some_iff.1 HV3.out).1 HVP.out.1).trans HV3.out);clear hat;go_wp2_with fail;go_returns;rw [HM3.out];exact ⟨rfl,HA4.out.toV V,by rw [HNO.out]; exact HV4.out⟩
   · have ek:(t.kind != 3)=false:=by rw [bne,beq_iff_eq.2 hk]; rfl
     have es:t.suf.toList.isEmpty=true:=by
      cases h:t.suf.toList with
      | nil=>rfl
      | cons a b=>rw [h] at hs; cases hs
     have HM3:Hid (Sy.numberM K.C σ=(true,t.num,Sy.wantM K.C (Sy.nextM K.C τ) ⟨#[93]⟩)):=zz (by rw [HM2.out,if_pos ⟨hk,hs⟩]);clear hk hs;go_wp2_with fail;refine (HNX.out w3 HA3.out.p).mono ?_;rintro e w4 ⟨rfl,hat⟩;have HA4:=zz (HA3.out.trans hat);have HV4:Hid (w4.heap[V]?=some (.cells cs ty (0,0))):=zz ((hat.k.block _ (Array.getElem?_eq_some_iff.1 HV3.out).1 HVP.out.1).trans HV3.out);have hb4:=(hat.k.block _ (Array.getElem?_eq_some_iff.1 HB2.out).1 HQP.out.1).trans HB2.out;clear hat x0 x3;go_upto_region 5 with fail
     obtain ⟨_,_,_,_,x4,_⟩:=tk_box hb4;have p4:∀ u:KS (fun q=>q=V) w4,u.W.cell? ⟨Q,4,none⟩=some (.int .u64 t.num):=fun u=>u.cell x4 HQP.out.2
     have hne:Nonempty (KS (fun q=>q=V) w4):=⟨⟨w4,Keeps.refl _ _⟩⟩;clear hb4 x4;refine Mix.wp_region_mix (fun W'=>∃ u:KS (fun q=>q=V) w4,W'=u.W) [] (by kernel_rfl) ?_;have HV0:Hid (Keeps No w4 w4.drew):=zz ((Keeps.refl _ w4).drew);generalize w4.drew=v0 at HV0 ⊢;refine Mix.mix_seg 0 4 6 (by kernel_rfl) (by kernel_rfl) rfl rfl ⟨⟨v0,HV0.out.mono (fun _ _ e=>e.elim)⟩,rfl⟩ ?_;simp only [zp1,zp2,zp3,zp4]
     repeat (go_big_quiet_step (fail))
     refine wpQuiet_nil ?_;refine Mix.mix_seg 4 2 4 (by kernel_rfl) (by kernel_rfl) rfl rfl ⟨⟨v0,HV0.out.mono (fun _ _ e=>e.elim)⟩,rfl⟩ ?_;simp only [zp1,zp2,zp3,zp4]
     repeat (go_big_quiet_step (fail))
     refine wpQuiet_nil ?_;have r0:v0.heap[V]?=some (.cells cs ty (0,0)):=(HV0.out.block _ (Array.getElem?_eq_some_iff.1 HV4.out).1 (fun e=>e)).trans HV4.out;have f3:v0.frozen? ⟨V,o+3,none⟩=false:=frozen_of_row v0 V _ _ _ r0;have y3:v0.cell? ⟨V,o+3,none⟩=some (.bool false):=by rw [cell_of_row v0 V (o+3) _ _ _ r0]; exact HC34.out.1
     have r1:(v0.setCell ⟨V,o+3,none⟩ (.bool true)).heap[V]?=some (.cells (cs.setIfInBounds (o+3) (.bool true)) ty (0,0)):=heap_setCell_same v0 V (o+3) _ _ _ r0;have HR1:=zz r1;have HKV1:Hid (Keeps (fun q=>q=V) w4 (v0.setCell ⟨V,o+3,none⟩ (.bool true))):=zz (Keeps.setCell (S:=fun q=>q=V) (HV0.out.mono (fun _ _ e=>e.elim)) (.inl rfl) _);clear r0 r1 p4;refine Mix.mix_one 6 3 (by kernel_rfl) rfl rfl ?_;simp only [zp1,zp2,zp3,zp4];go_wp2_with fail;generalize v0.setCell ⟨V,o+3,none⟩ (.bool true)=v1 at HR1 HKV1 ⊢;refine ⟨.inr ⟨⟨v1,HKV1.out⟩,rfl⟩,?_⟩;clear f3 y3;refine Mix.mix_seg 7 2 1 (by kernel_rfl) (by kernel_rfl) rfl rfl ⟨⟨v1,HKV1.out⟩,rfl⟩ ?_;simp only [zp1,zp2,zp3,zp4]
     repeat (go_big_quiet_step (fail))
     refine wpQuiet_nil ?_;have f4:v1.frozen? ⟨V,o+4,none⟩=false:=frozen_of_row v1 V _ _ _ HR1.out;have y4:v1.cell? ⟨V,o+4,none⟩=some (.int .u64 0):=by rw [cell_of_row v1 V (o+4) _ _ _ HR1.out,Array.getElem?_setIfInBounds_ne (by omega)]; exact HC34.out.2
     have HR2:Hid ((v1.setCell ⟨V,o+4,none⟩ (.int .u64 t.num)).heap[V]?=some (.cells (arrRow cs o true t.num) ty (0,0))):=zz (heap_setCell_same v1 V (o+4) _ _ _ HR1.out);have HKV2:Hid (Keeps (fun q=>q=V) w4 (v1.setCell ⟨V,o+4,none⟩ (.int .u64 t.num))):=zz (Keeps.setCell (S:=fun q=>q=V) HKV1.out (.inl rfl) _);refine Mix.mix_one 9 0 (by kernel_rfl) rfl rfl ?_;simp only [zp1,zp2,zp3,zp4];go_wp2_with fail;generalize v1.setCell ⟨V,o+4,none⟩ (.int .u64 t.num)=v2 at HR2 HKV2 ⊢;clear f4 y4;refine ⟨.inr ⟨⟨v2,HKV2.out⟩,rfl⟩,?_⟩;refine Mix.mix_end (by kernel_rfl) ?_;have HP2:Hid (PS v2 K (Sy.nextM K.C τ)):=zz (HA4.out.p.keepR HKV2.out (fun q e=>by subst e; exact HVP.out.2));have HKW:Hid (Keeps (fun q=>q=K.P∨q=V) w v2):=zz ((HA4.out.k.mono (T:=fun q=>q=K.P∨q=V) (fun _ _ e=>.inl e)).trans HKV2.out (fun q _ e=>.inr e));clear hne;go_wp2_with fail;refine (HWA.out v2 _ HP2.out).mono ?_;rintro e w7 ⟨rfl,hat⟩;have HA7:Hid (AtV w w7 K (Sy.wantM K.C (Sy.nextM K.C τ) ⟨#[93]⟩) V):=zz ⟨hat.p,HKW.out.trans hat.k (fun q _ e=>.inl e)⟩;have HV7:Hid (w7.heap[V]?=some (.cells (arrRow cs o true t.num) ty (0,0))):=zz ((hat.k.block _ (Array.getElem?_eq_some_iff.1 HR2.out).1 HVP.out.1).trans HR2.out);clear hat;go_wp2_with fail;go_returns;rw [HM3.out];exact ⟨rfl,HA7.out,HV7.out⟩
theorem own_ltb {w:World} {B n z:Nat} {e:TypeId} {v:Value} {xs:List Value} (h:w.ownsRow B e z v n xs) {q:Nat} (hq:v.ownBlock=some q):q < w.heap.size:=by
 rcases h.2 with ⟨h1,_⟩ | ⟨g,cap,cur,h1,h2,h3,_⟩
 · rw [h1] at hq; cases hq
 · rw [h1] at hq;obtain rfl:g=q:=by injection hq
   exact (Array.getElem?_eq_some_iff.1 h3).1
theorem own_lo {w:World} {B n z:Nat} {e:TypeId} {v:Value} {xs:List Value} (h:w.ownsRow B e z v n xs) (q:Nat) (hq:v.ownBlock=some q):B≤q:=by
 rcases h.2 with ⟨h1,_⟩ | ⟨g,cap,cur,h1,h2,h3,_⟩
 · rw [h1] at hq; cases hq
 · rw [h1] at hq;obtain rfl:g=q:=by injection hq
   exact h2
def exRow (kind:Int) (op name:ByteArray) (ty:Sy.Ty) (num:Int) (arr:Bool) (subs:Value):Array Value :=
 #[.int .i64 kind,.string op,.string name,.string ty.base,.int .i64 ty.stars,.int .u64 num,.bool arr,subs]
def ptrs (av:List (Option Addr)):List Value:=av.map Value.pointer
inductive ExD (w:World) (D:Nat→Prop):Option Addr→Sy.Ex→Prop
 | mk (g:Nat) (sa:Option Addr) (sc:Nat) (av:List (Option Addr)) (kind:Int) (op name:ByteArray) (ty:Sy.Ty) (num:Int) (arr:Bool) (subs:List Sy.Ex)
   (hD:D g) (hrow:w.heap[g]?=some (.cells (exRow kind op name ty num arr (.slice sa av.length sc)) 182 (0,0)))
   (hs:w.ownsRow 0 94 1 (.slice sa av.length sc) av.length (ptrs av)) (hsd:∀ q,(Value.slice sa av.length sc).ownBlock=some q→D q) (hl:av.length=subs.length)
   (hsub:∀ (i:Nat) (a:Option Addr) (e:Sy.Ex),av[i]?=some a→subs[i]?=some e→ExD w D a e):ExD w D (some ⟨g,0,none⟩) (.mk kind op name ty num arr subs)
theorem ExD.keep {S D:Nat→Prop} {w w':World} {a:Option Addr} {e:Sy.Ex} (h:ExD w D a e) (hk:Keeps S w w') (hS:∀ q,S q→¬ D q∨w.heap.size≤q):ExD w' D a e:=by
 induction h with
 | mk g sa sc av kind op name ty num arr subs hD hrow hs hsd hl hsub ih =>
   have hg:=(Array.getElem?_eq_some_iff.1 hrow).1;refine .mk g sa sc av kind op name ty num arr subs hD ((hk.block g hg (fun e=>by rcases hS g e with h | h; exact h hD; omega)).trans hrow) (own_kept hs (fun q hq=>hk.block q (own_ltb hs hq) (fun e=>by
    have h2:=own_ltb hs hq;rcases hS q e with h | h; exact h (hsd q hq); omega))) hsd hl ih
theorem ExD.mono {D D':Nat→Prop} {w:World} {a:Option Addr} {e:Sy.Ex} (h:ExD w D a e) (hD:∀ q,q < w.heap.size→D q→D' q):ExD w D' a e:=by
 induction h with
 | mk g sa sc av kind op name ty num arr subs h1 hrow hs hsd hl hsub ih=>exact .mk g sa sc av kind op name ty num arr subs (hD _ (Array.getElem?_eq_some_iff.1 hrow).1 h1) hrow hs (fun q hq=>hD q (own_ltb hs hq) (hsd q hq)) hl ih
def ExAt (w:World) (B:Nat) (a:Option Addr) (e:Sy.Ex):Prop:=ExD w (fun q=>B≤q) a e
theorem ExAt.node {w:World} {B:Nat} (g:Nat) (sa:Option Addr) (sc:Nat) (av:List (Option Addr)) (kind:Int) (op name:ByteArray) (ty:Sy.Ty) (num:Int) (arr:Bool) (subs:List Sy.Ex)
    (hB:B≤g) (hrow:w.heap[g]?=some (.cells (exRow kind op name ty num arr (.slice sa av.length sc)) 182 (0,0)))
    (hs:w.ownsRow B 94 1 (.slice sa av.length sc) av.length (ptrs av)) (hl:av.length=subs.length)
    (hsub:∀ (i:Nat) (a:Option Addr) (e:Sy.Ex),av[i]?=some a→subs[i]?=some e→ExAt w B a e):ExAt w B (some ⟨g,0,none⟩) (.mk kind op name ty num arr subs) :=
 ExD.mk g sa sc av kind op name ty num arr subs hB hrow (own_mono hs (Nat.zero_le _)) (fun q hq=>own_lo hs q hq) hl hsub
theorem ExAt.keep {S:Nat→Prop} {w w':World} {B:Nat} {a:Option Addr} {e:Sy.Ex} (h:ExAt w B a e) (hk:Keeps S w w') (hS:∀ q,S q→q < B∨w.heap.size≤q):ExAt w' B a e :=
 ExD.keep h hk (fun q e=>by rcases hS q e with h | h; exact .inl (fun h2=>by have h3:B≤q:=h2; omega); exact .inr h)
theorem ExAt.no {w w':World} {B:Nat} {a:Option Addr} {e:Sy.Ex} (h:ExAt w B a e) (hk:Keeps No w w'):ExAt w' B a e:=h.keep hk (fun _ e=>e.elim)
theorem ExAt.at_ {w w':World} {K:Pk} {τ:Sy.St} {B:Nat} {a:Option Addr} {e:Sy.Ex} (h:ExAt w B a e) (hk:At w w' K τ) (hB:K.B≤B):ExAt w' B a e:=h.keep hk.k (fun q e=>.inl (by
 have h2:q=K.P:=e;have:=hk.p.ord; omega))
theorem ExAt.mono {w:World} {B B':Nat} {a:Option Addr} {e:Sy.Ex} (h:ExAt w B a e) (hB:B'≤B):ExAt w B' a e:=ExD.mono h (fun q _ h2=>Nat.le_trans hB h2)
theorem ex_node (w:World) (B:Nat) (hB:B≤w.heap.size) (av:List (Option Addr)) (es:List Sy.Ex) (hl:av.length=es.length) (hm:av.length≤1000) (kind:Int) (op name:ByteArray) (ty:Sy.Ty) (num:Int) (arr:Bool)
    (h:∀ (i:Nat) (a:Option Addr) (e:Sy.Ex),av[i]?=some a→es[i]?=some e→ExAt w B a e) :
    ExAt ((w.alloc (.cells (ptrs av).toArray 94)).alloc (.cells (exRow kind op name ty num arr (.slice (some ⟨w.heap.size,0,none⟩) av.length av.length)) 182)) B (some ⟨w.heap.size+1,0,none⟩) (.mk kind op name ty num arr es):=by
 have hpl:(ptrs av).length=av.length:=by unfold ptrs; rw [List.length_map]
 have hrow:(w.alloc (.cells (ptrs av).toArray 94)).ownsRow B 94 1 (.slice (some ⟨w.heap.size,0,none⟩) av.length av.length) av.length (ptrs av):=by
  refine ⟨by rw [hpl,Nat.mul_one],.inr ⟨w.heap.size,av.length,(ptrs av).toArray,rfl,hB,heap_alloc_new _ _,Nat.le_refl _,by unfold maxLen; omega,by simp [hpl],?_⟩⟩;rw [Nat.mul_one,← hpl]; simp
 have hkk:Keeps No w ((w.alloc (.cells (ptrs av).toArray 94)).alloc (.cells (exRow kind op name ty num arr (.slice (some ⟨w.heap.size,0,none⟩) av.length av.length)) 182)):=((Keeps.refl _ _).alloc _).alloc _;refine ExAt.node _ _ _ av _ _ _ _ _ _ _ (by omega) ?_ (hrow.alloc _) hl (fun i a e ha he=>(h i a e ha he).no hkk);have e:w.heap.size+1=(w.alloc (.cells (ptrs av).toArray 94)).heap.size:=by simp
 rw [e]; exact heap_alloc_new _ _
theorem one_at {w:World} {B:Nat} {a1:Option Addr} {e1:Sy.Ex} (h1:ExAt w B a1 e1):∀ (i:Nat) (a:Option Addr) (e:Sy.Ex),[a1][i]?=some a→[e1][i]?=some e→ExAt w B a e:=fun i a e ha he=>by
 cases i with
 | zero=>obtain rfl:a1=a:=by simpa using ha
         obtain rfl:e1=e:=by simpa using he
         exact h1
 | succ i=>cases ha
theorem two_at {w:World} {B:Nat} {a1 a2:Option Addr} {e1 e2:Sy.Ex} (h1:ExAt w B a1 e1) (h2:ExAt w B a2 e2):∀ (i:Nat) (a:Option Addr) (e:Sy.Ex),[a1,a2][i]?=some a→[e1,e2][i]?=some e→ExAt w B a e:=fun i a e ha he=>by
 cases i with
 | zero=>obtain rfl:a1=a:=by simpa using ha
         obtain rfl:e1=e:=by simpa using he
         exact h1
 | succ i=>exact one_at h2 i a e ha he
theorem three_at {w:World} {B:Nat} {a1 a2 a3:Option Addr} {e1 e2 e3:Sy.Ex} (h1:ExAt w B a1 e1) (h2:ExAt w B a2 e2) (h3:ExAt w B a3 e3):∀ (i:Nat) (a:Option Addr) (e:Sy.Ex),[a1,a2,a3][i]?=some a→[e1,e2,e3][i]?=some e→ExAt w B a e:=fun i a e ha he=>by
 cases i with
 | zero=>obtain rfl:a1=a:=by simpa using ha
         obtain rfl:e1=e:=by simpa using he
         exact h1
 | succ i=>exact two_at h2 h3 i a e ha he
theorem ex_leaf (w:World) (B:Nat) (g:Nat) (hB:B≤g) (kind:Int) (op name:ByteArray) (ty:Sy.Ty) (num:Int) (arr:Bool) (h:w.heap[g]?=some (.cells (exRow kind op name ty num arr (.slice none 0 0)) 182 (0,0))) :
    ExAt w B (some ⟨g,0,none⟩) (.mk kind op name ty num arr []) :=
 ExAt.node g none 0 [] kind op name ty num arr [] hB h (World.ownsRow_nil _ _ _ _) rfl (fun i a e ha=>by cases ha)
def ExPost (w:World) (K:Pk) (r:Sy.Ex × Sy.St) (e:Ending) (w':World):Prop:=∃ a,e=.returned (.pointer a)∧At w w' K r.2∧(r.2.code=0→ExAt w' w.heap.size a r.1)
theorem size_any (K:Pk) (σ:Sy.St) (w:World) (h:PS w K σ):Calls Tryz.prog 128 #[.pointer (some ⟨K.P,0,none⟩)] w (ExPost w K (Sy.sizeM K.C σ)):=by
 have HS:=zz h;have HN:=zz (next_any K σ w h);obtain ⟨τ,hτ⟩:∃ τ,Sy.wantM K.C (Sy.nextM K.C σ) ⟨#[40]⟩=τ:=⟨_,rfl⟩;have HW:=zz (fun W (hs:PS W K (Sy.nextM K.C σ))=>want_any K (Sy.nextM K.C σ) ⟨#[40]⟩ W hs);rw [hτ] at HW;have HT:=zz (fun W (hs:PS W K τ)=>typ_any K τ W hs);obtain ⟨tt,htt⟩:∃ tt,Sy.typM K.C τ=tt:=⟨_,rfl⟩;rw [htt] at HT;obtain ⟨⟨tb,ts⟩,υ⟩:=tt;simp only at HT;obtain ⟨nn,hnn⟩:∃ nn,Sy.numberM K.C υ=nn:=⟨_,rfl⟩;have HNU:=zz (fun V o cs ty W (hs:PS W K υ) h1 h2 h3 h4=>number_any K υ V o cs ty W hs h1 h2 h3 h4);rw [hnn] at HNU;obtain ⟨nb,nz,φ⟩:=nn;simp only at HNU;have HW2:=zz (fun W (hs:PS W K φ)=>want_any K φ ⟨#[41]⟩ W hs);have HM:Hid (Sy.sizeM K.C σ=(.mk 14 Sy.nt Sy.nt ⟨tb,ts⟩ nz nb [],Sy.wantM K.C φ ⟨#[41]⟩)):=zz (by
  unfold Sy.sizeM;simp only [hτ,htt,hnn])
 obtain ⟨ψ,hψ⟩:∃ ψ,Sy.wantM K.C φ ⟨#[41]⟩=ψ:=⟨_,rfl⟩;rw [hψ] at HM HW2;clear h hτ htt hnn hψ;go_enter Tryz.func128,Tryz.ntmps128;go_wp2_with fail;refine HN.out.mono ?_;rintro e w1 ⟨rfl,hat⟩;have HA1:=zz hat;clear hat HN;go_wp2_with fail;refine (HW.out w1 HA1.out.p).mono ?_;rintro e w2 ⟨rfl,hat⟩;have HA2:=zz (HA1.out.trans hat);clear hat HW;go_wp2_with fail;refine (HT.out w2 HA2.out.p).mono ?_;rintro e w3 ⟨rfl,hat⟩;have HA3:=zz (HA2.out.trans hat);clear hat HT;go_upto_region 4 with fail
 have hv:(w3.alloc (.cells #[.string ⟨#[]⟩,.string tb,.int .i64 ts,.bool false,.int .u64 0] 58)).heap[w3.heap.size]?=some (.cells #[.string ⟨#[]⟩,.string tb,.int .i64 ts,.bool false,.int .u64 0] 58 (0,0)):=heap_alloc_new _ _;have HA4:Hid (At w (w3.alloc (.cells #[.string ⟨#[]⟩,.string tb,.int .i64 ts,.bool false,.int .u64 0] 58)) K υ):=zz (HA3.out.no ((Keeps.refl _ _).alloc _));have HVB:Hid (w.heap.size≤w3.heap.size∧K.B≤w3.heap.size):=zz ⟨HA3.out.k.size,HA3.out.p.ord.2.2.2⟩;generalize w3.alloc (.cells #[.string ⟨#[]⟩,.string tb,.int .i64 ts,.bool false,.int .u64 0] 58)=w4 at hv HA4 ⊢;obtain ⟨V,hV⟩:∃ q,w3.heap.size=q:=⟨_,rfl⟩;rw [hV] at hv HVB ⊢;have HV:=zz hv;clear hv hV;go_wp2_with fail;refine (HNU.out V 0 _ _ w4 HA4.out.p HV.out HVB.out.2 rfl rfl).mono ?_;rintro e w5 ⟨rfl,hat,hrow⟩;have HA5:Hid (At w w5 K φ):=zz ⟨hat.p,HA4.out.k.trans hat.k (fun q hq e=>by rcases e with e | e; exact e; have:=HVB.out.1; omega)⟩;have HR5:Hid (w5.heap[V]?=some (.cells #[.string ⟨#[]⟩,.string tb,.int .i64 ts,.bool nb,.int .u64 nz] 58 (0,0))):=zz hrow;clear hat hrow HNU;go_wp2_with fail;refine (HW2.out w5 HA5.out.p).mono ?_;rintro e w6 ⟨rfl,hat⟩;have HA6:=zz (HA5.out.trans hat);have hr6:w6.heap[V]?=some (.cells #[.string ⟨#[]⟩,.string tb,.int .i64 ts,.bool nb,.int .u64 nz] 58 (0,0)):=(hat.k.block _ (Array.getElem?_eq_some_iff.1 HR5.out).1 (fun e=>by
  have e2:V=K.P:=e;have:=HS.out.ord; have:=HVB.out; omega)).trans HR5.out
 have y1:w6.cell? ⟨V,1,none⟩=some (.string tb):=by rw [cell_of_row w6 V 1 _ _ _ hr6]; rfl
 have y2:w6.cell? ⟨V,2,none⟩=some (.int .i64 ts):=by rw [cell_of_row w6 V 2 _ _ _ hr6]; rfl
 have y3:w6.cell? ⟨V,3,none⟩=some (.bool nb):=by rw [cell_of_row w6 V 3 _ _ _ hr6]; rfl
 have y4:w6.cell? ⟨V,4,none⟩=some (.int .u64 nz):=by rw [cell_of_row w6 V 4 _ _ _ hr6]; rfl
 clear hat hr6 HW2;go_wp2_with fail;have HFA:Hid (At w (w6.alloc (.cells (exRow 14 Sy.nt Sy.nt ⟨tb,ts⟩ nz nb (.slice none 0 0)) 182)) K ψ∧ExAt (w6.alloc (.cells (exRow 14 Sy.nt Sy.nt ⟨tb,ts⟩ nz nb (.slice none 0 0)) 182)) w.heap.size (some ⟨w6.heap.size,0,none⟩) (.mk 14 Sy.nt Sy.nt ⟨tb,ts⟩ nz nb [])):=zz ⟨HA6.out.no ((Keeps.refl _ _).alloc _),ex_leaf _ _ _ HA6.out.k.size _ _ _ _ _ _ (heap_alloc_new _ _)⟩;go_returns;exact ⟨_,rfl,by rw [HM.out]; exact HFA.out.1,fun _=>by rw [HM.out]; exact HFA.out.2⟩
end Go.Proofs.YtjgkacggjhobmaaGreatDoor
