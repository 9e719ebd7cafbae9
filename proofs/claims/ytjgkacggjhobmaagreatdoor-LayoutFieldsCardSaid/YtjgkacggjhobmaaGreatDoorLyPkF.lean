import Derived.Test.YtjgkacggjhobmaaGreatDoorLyPkE
import Derived.Test.YtjgkacggjhobmaaGreatDoorLyPkB
set_option maxRecDepth 100000
set_option maxHeartbeats 25600000
set_option linter.unusedSimpArgs false
set_option linter.unusedVariables false
namespace Go.Proofs.YtjgkacggjhobmaaGreatDoor
open Go.RowKit Lx
theorem At.viaV {a b c:World} {K:Pk} {σ τ:Sy.St} {V:Nat} (h:At a b K σ) (g:AtV b c K τ V) (hV:a.heap.size≤V):At a c K τ :=
 ⟨g.p,h.k.trans g.k (fun q hq e=>e.elim id (fun e=>by omega))⟩
theorem Hung.put0 {w:World} {B N:Nat} {p0 p1 p2 a:Option Addr} {e0 e1 e2 e:Option Sy.Ex} {sa:Option Addr} {sc:Nat} {av:List (Option Addr)} {ss:List Sy.Sm} (h:Hung w B N p0 p1 p2 e0 e1 e2 sa sc av ss) (o:OpD w (Dc B N (.slice sa av.length sc)) a e):Hung w B N a p1 p2 e e1 e2 sa sc av ss:=⟨o,h.o1,h.o2,h.len,h.sub⟩
theorem Hung.put1 {w:World} {B N:Nat} {p0 p1 p2 a:Option Addr} {e0 e1 e2 e:Option Sy.Ex} {sa:Option Addr} {sc:Nat} {av:List (Option Addr)} {ss:List Sy.Sm} (h:Hung w B N p0 p1 p2 e0 e1 e2 sa sc av ss) (o:OpD w (Dc B N (.slice sa av.length sc)) a e):Hung w B N p0 a p2 e0 e e2 sa sc av ss:=⟨h.o0,o,h.o2,h.len,h.sub⟩
theorem Hung.put2 {w:World} {B N:Nat} {p0 p1 p2 a:Option Addr} {e0 e1 e2 e:Option Sy.Ex} {sa:Option Addr} {sc:Nat} {av:List (Option Addr)} {ss:List Sy.Sm} (h:Hung w B N p0 p1 p2 e0 e1 e2 sa sc av ss) (o:OpD w (Dc B N (.slice sa av.length sc)) a e):Hung w B N p0 p1 a e0 e1 e sa sc av ss:=⟨h.o0,h.o1,o,h.len,h.sub⟩
theorem let_any (K:Pk) (σ:Sy.St) (w:World) (h:PS w K σ):Calls Tryz.prog 114 #[.pointer (some ⟨K.P,0,none⟩)] w (SmPost w K (Sy.letM K.C σ)):=by
 have hle:=h.le;have HS:=zz h;have HTY:=zz (fun W (hs:PS W K σ)=>typ_any K σ W hs);obtain ⟨r1,h1⟩:∃ r,Sy.typM K.C σ=r:=⟨_,rfl⟩;rw [h1] at HTY;obtain ⟨ty,σ1⟩:=r1;have HNA:=zz (fun W (hs:PS W K σ1)=>name_any K σ1 W hs);obtain ⟨r2,h2⟩:∃ r,Sy.nameM K.C σ1=r:=⟨_,rfl⟩;rw [h2] at HNA;obtain ⟨nm,σ2⟩:=r2;obtain ⟨r3,h3⟩:∃ r,Sy.numberM K.C σ2=r:=⟨_,rfl⟩;have HNU:=zz (fun V o cs T W hs hv hB h3 h4=>number_any K σ2 V o cs T W hs hv hB h3 h4);rw [h3] at HNU;obtain ⟨ar,nu,σ3⟩:=r3;simp only at HTY HNA HNU;obtain ⟨b,hb⟩:∃ b,Sy.isM K.C σ3 ⟨#[61]⟩=b:=⟨_,rfl⟩;have HTK:=zz (fun W (hs:PS W K σ3)=>take_any K σ3 ⟨#[61]⟩ b hb W hs);obtain ⟨σ4,h4⟩:∃ x,Sy.nextM K.C σ3=x:=⟨_,rfl⟩;rw [h4] at HTK;have HX:=zz (fun W (hs:PS W K σ4)=>exprM_any K σ4 W hs);obtain ⟨r5,h5⟩:∃ r,Sy.exprM K.C σ4=r:=⟨_,rfl⟩;rw [h5] at HX;obtain ⟨e1,σ5⟩:=r5;obtain ⟨σ6,h6⟩:∃ x,Sy.wantM K.C (if b=true then σ5 else σ3) ⟨#[59]⟩=x:=⟨_,rfl⟩;have HM:Hid (Sy.letM K.C σ=(.mk 3 ⟨nm,ty,ar,nu⟩ Sy.nt false 0 (if b=true then some e1 else none) none none [],σ6)):=zz (by
  unfold Sy.letM;rw [← h6];simp only [h1,h2,h3,hb,h4,h5];cases b <;> rfl)
 have hm1:Sy.Mo K.C σ σ1:=by have:=(Sy.Mo.refl hle).typ; rw [h1] at this; exact this
 have hm2:Sy.Mo K.C σ σ2:=by have:=hm1.name; rw [h2] at this; exact this
 have hm3:Sy.Mo K.C σ σ3:=by have:=hm2.number; rw [h3] at this; exact this
 have hm4:Sy.Mo K.C σ3 σ4:=by have:=(Sy.Mo.refl hm3.le).next; rw [h4] at this; exact this
 have hm5:Sy.Mo K.C σ4 σ5:=by have:=Sy.exprM_mo (Sy.Mo.refl hm4.le); rw [h5] at this; exact this
 have hmi:(if b=true then σ5 else σ3).at_≤K.C.T.length:=by cases b; exact hm3.le; exact hm5.le
 have HCD:Hid (σ6.code=0→(if b=true then σ5 else σ3).code=0):=zz (by have:=((Sy.Mo.refl hmi).want ⟨#[59]⟩).code; rw [h6] at this; exact this);have HCX:Hid (σ5.code=0→σ4.code=0):=zz hm5.code;have HWA:=zz (fun W (hs:PS W K (if b=true then σ5 else σ3))=>want_any K (if b=true then σ5 else σ3) ⟨#[59]⟩ W hs);rw [h6] at HWA;clear h hle h1 h2 h3 hb h4 h5 h6 hm1 hm2 hm3 hm4 hm5 hmi;go_enter Tryz.func114,Tryz.ntmps114;go_upto_region 2 with fail
 have hnw:(w.alloc (.cells #[.int .i64 3,.string ⟨#[]⟩,.string ⟨#[]⟩,.int .i64 0,.bool false,.int .u64 0,.string ⟨#[]⟩,.bool false,.int .u64 0,.pointer none,.pointer none,.pointer none,.slice none 0 0] 171)).heap[w.heap.size]?=some (.cells (smRow 3 Sy.vr0 Sy.nt false 0 none none none (.slice none 0 0)) 171 (0,0)):=heap_alloc_new _ _;have HA1:=zz ((At.of_no HS.out (Keeps.refl _ _)).no ((Keeps.refl _ w).alloc (.cells #[.int .i64 3,.string ⟨#[]⟩,.string ⟨#[]⟩,.int .i64 0,.bool false,.int .u64 0,.string ⟨#[]⟩,.bool false,.int .u64 0,.pointer none,.pointer none,.pointer none,.slice none 0 0] 171)));generalize w.alloc (.cells #[.int .i64 3,.string ⟨#[]⟩,.string ⟨#[]⟩,.int .i64 0,.bool false,.int .u64 0,.string ⟨#[]⟩,.bool false,.int .u64 0,.pointer none,.pointer none,.pointer none,.slice none 0 0] 171)=w1 at hnw HA1 ⊢;obtain ⟨N,hN⟩:∃ n,w.heap.size=n:=⟨_,rfl⟩;have HWN:Hid (w.heap.size≤N∧K.B≤N):=zz ⟨by omega,by have:=HS.out.ord.2.2.2; omega⟩;rw [hN] at hnw ⊢;have HN1:=zz (Nod.bare (Nat.le_refl N) hnw).1;clear hnw hN;go_wp2_with fail;refine (HTY.out w1 HA1.out.p).mono ?_;rintro e w2 ⟨rfl,hat⟩;have HA2:=zz (HA1.out.trans hat);have HN2:=zz (HN1.out.at_ hat HWN.out.2);clear hat;have y2:w2.cell? ⟨N,2,none⟩=some (.string ⟨#[]⟩):=HN2.out.c (j:=2) rfl;have z2:w2.frozen? ⟨N,2,none⟩=false:=HN2.out.f 2;have y3:w2.cell? ⟨N,3,none⟩=some (.int .i64 0):=HN2.out.c (j:=3) rfl;have z3:w2.frozen? ⟨N,3,none⟩=false:=HN2.out.f 3;go_wp2_with fail;have HA3:=zz ((HA2.out.newR HS.out ((Keeps.refl (fun q=>q=N) w2).setCell (p:=⟨N,2,none⟩) (.inl rfl) (.string ty.base)) HWN.out.1).newR HS.out ((Keeps.refl (fun q=>q=N) _).setCell (p:=⟨N,3,none⟩) (.inl rfl) (.int .i64 ty.stars)) HWN.out.1);have HN3:Hid (Nod ((w2.setCell ⟨N,2,none⟩ (.string ty.base)).setCell ⟨N,3,none⟩ (.int .i64 ty.stars)) N N 3 ⟨Sy.nt,ty,false,0⟩ Sy.nt false 0 none none none none 0 []):=zz ((HN2.out.setc (v':=⟨Sy.nt,⟨ty.base,0⟩,false,0⟩) 2 (.string ty.base) rfl).setc 3 (.int .i64 ty.stars) rfl);generalize (w2.setCell ⟨N,2,none⟩ (.string ty.base)).setCell ⟨N,3,none⟩ (.int .i64 ty.stars)=w3 at HA3 HN3 ⊢;clear y2 z2 y3 z3;refine (HNA.out w3 HA3.out.p).mono ?_;rintro e w4 ⟨rfl,hat⟩;have HA4:=zz (HA3.out.trans hat);have HN4:=zz (HN3.out.at_ hat HWN.out.2);clear hat;have y1:w4.cell? ⟨N,1,none⟩=some (.string ⟨#[]⟩):=HN4.out.c (j:=1) rfl;have z1:w4.frozen? ⟨N,1,none⟩=false:=HN4.out.f 1;go_wp2_with fail;have HA5:=zz (HA4.out.newR HS.out ((Keeps.refl (fun q=>q=N) w4).setCell (p:=⟨N,1,none⟩) (.inl rfl) (.string nm)) HWN.out.1);have HN5:Hid (Nod (w4.setCell ⟨N,1,none⟩ (.string nm)) N N 3 ⟨nm,ty,false,0⟩ Sy.nt false 0 none none none none 0 []):=zz (HN4.out.setc 1 (.string nm) rfl);generalize w4.setCell ⟨N,1,none⟩ (.string nm)=w5 at HA5 HN5 ⊢;clear y1 z1;refine (HNU.out N 1 _ _ w5 HA5.out.p HN5.out.row HWN.out.2 rfl rfl).mono ?_;rintro e w6 ⟨rfl,hav,hrw⟩;have HA6:=zz (HA5.out.viaV hav HWN.out.1);have HNH6:Hid (Nod w6 N N 3 ⟨nm,ty,ar,nu⟩ Sy.nt false 0 none none none none 0 []∧Hung w6 N N none none none none none none none 0 [] []):=zz (Nod.bare (Nat.le_refl N) hrw);clear hav hrw;go_wp2_with fail;refine (HTK.out w6 HA6.out.p).mono ?_;cases b with
 | false =>
   rintro e w7 ⟨rfl,hat⟩;have hat2:At w6 w7 K σ3:=hat;have HA7:=zz (HA6.out.trans hat2);have HNH7:=zz (And.intro (HNH6.out.1.at_ hat2 HWN.out.2) (HNH6.out.2.at_ hat2 HWN.out.2));clear hat hat2;go_wp2_with fail;refine (HWA.out w7 HA7.out.p).mono ?_;rintro e w8 ⟨rfl,hat⟩;have HA8:=zz (HA7.out.trans hat);have HX8:=zz ((HNH7.out.1.at_ hat HWN.out.2).fin (HNH7.out.2.at_ hat HWN.out.2));clear hat;go_wp2_with fail;go_returns;rw [HM.out];exact ⟨_,rfl,HA8.out,fun _=>HX8.out.mono HWN.out.1⟩
 | true =>
   rintro e w7 ⟨rfl,hat⟩;have hat2:At w6 w7 K σ4:=hat;have HA7:=zz (HA6.out.trans hat2);have HN7:=zz (HNH6.out.1.at_ hat2 HWN.out.2);have HH7:Hid (σ4.code=0→Hung w7 N N none none none none none none none 0 [] []):=zz (fun _=>HNH6.out.2.at_ hat2 HWN.out.2);clear hat hat2;go_upto_region 6 with fail
   have hne:Nonempty (KS (PE K N) w7):=⟨⟨w7,Keeps.refl _ _⟩⟩;refine Mix.wp_region_mix (fun W'=>∃ u:KS (PE K N) w7,W'=u.W) [] (by kernel_rfl) ?_;have HV0:Hid (Keeps No w7 w7.drew):=zz ((Keeps.refl _ w7).drew);generalize w7.drew=v0 at HV0 ⊢;have HC0:Hid (Keeps (PE K N) w7 v0):=zz (HV0.out.mono (fun _ _ e=>e.elim));have HAV0:=zz (HA7.out.no HV0.out);have HNV0:=zz (HN7.out.no HV0.out);have HHV0:=zz (fun hc=>(HH7.out hc).no HV0.out);refine Mix.mix_seg 0 2 5 (by kernel_rfl) (by kernel_rfl) rfl rfl ⟨⟨v0,HC0.out⟩,rfl⟩ ?_;simp only [zp1,zp2,zp3,zp4]
   repeat (go_big_quiet_step (fail))
   refine wpQuiet_nil ?_;refine Mix.mix_seg 3 2 3 (by kernel_rfl) (by kernel_rfl) rfl rfl ⟨⟨v0,HC0.out⟩,rfl⟩ ?_;simp only [zp1,zp2,zp3,zp4]
   repeat (go_big_quiet_step (fail))
   refine wpQuiet_nil ?_;refine Mix.mix_one 2 2 (by kernel_rfl) rfl rfl ?_;simp only [zp1,zp2,zp3,zp4];go_wp2_with fail;refine (HX.out v0 HAV0.out.p).mono ?_;rintro e' v1 ⟨a1,rfl,hat,hex⟩;have HC1:Hid (Keeps (PE K N) w7 v1):=zz (HC0.out.trans hat.k (fun q _ e=>.inl e));have HAV1:=zz (HAV0.out.trans hat);have HNV1:=zz (HNV0.out.at_ hat HWN.out.2);have HHV1:=zz (fun (hc:σ5.code=0)=>(HHV0.out (HCX.out hc)).at_ hat HWN.out.2);have HOV1:Hid (σ5.code=0→OpD v1 (Dc N N (.slice none 0 0)) a1 (some e1)):=zz (fun hc=>.some (ExD.mono (hex hc) (fun q _ hd=>by
    have h1:v0.heap.size≤q:=hd;have h2:=HNV0.out.lt;exact ⟨by omega,by omega,fun e=>nomatch e⟩)))
   clear hat hex;go_wp2_with fail;refine ⟨.inr ⟨⟨v1,HC1.out⟩,rfl⟩,?_⟩;refine Mix.mix_one 5 1 (by kernel_rfl) rfl rfl ?_;simp only [zp1,zp2,zp3,zp4];go_wp2_with fail;refine ⟨.inr ⟨⟨v1,HC1.out⟩,rfl⟩,?_⟩;refine Mix.mix_one 6 0 (by kernel_rfl) rfl rfl ?_;simp only [zp1,zp2,zp3,zp4];have y9:v1.cell? ⟨N,9,none⟩=some (.pointer none):=HNV1.out.c (j:=9) rfl;have z9:v1.frozen? ⟨N,9,none⟩=false:=HNV1.out.f 9;go_wp2_with fail;have HA8:=zz (HAV1.out.newR HS.out ((Keeps.refl (fun q=>q=N) v1).setCell (p:=⟨N,9,none⟩) (.inl rfl) (.pointer a1)) HWN.out.1);have HN8:=zz (HNV1.out.set_p0 a1);have HH8:=zz (fun (hc:σ5.code=0)=>((HHV1.out hc).put0 (HOV1.out hc)).setc 9 (.pointer a1));have HC2:Hid (Keeps (PE K N) w7 (v1.setCell ⟨N,9,none⟩ (.pointer a1))):=zz (Keeps.setCell (S:=PE K N) HC1.out (.inl (.inr rfl)) _);generalize v1.setCell ⟨N,9,none⟩ (.pointer a1)=w8 at HC2 HA8 HN8 HH8 ⊢;clear y9 z9 hne;refine ⟨.inr ⟨⟨w8,HC2.out⟩,rfl⟩,?_⟩;refine Mix.mix_end (by kernel_rfl) ?_;go_wp2_with fail;refine (HWA.out w8 HA8.out.p).mono ?_;rintro e w9 ⟨rfl,hat⟩;have HA9:=zz (HA8.out.trans hat);have HX9:Hid (σ6.code=0→SmAt w9 N (some ⟨N,0,none⟩) (.mk 3 ⟨nm,ty,ar,nu⟩ Sy.nt false 0 (some e1) none none [])):=zz (fun hc=>(HN8.out.at_ hat HWN.out.2).fin ((HH8.out (HCD.out hc)).at_ hat HWN.out.2));clear hat;go_wp2_with fail;go_returns;rw [HM.out];exact ⟨_,rfl,HA9.out,fun hc=>(HX9.out hc).mono HWN.out.1⟩
end Go.Proofs.YtjgkacggjhobmaaGreatDoor
namespace Go.Proofs.YtjgkacggjhobmaaGreatDoor.Sy
open Go.RowKit Lx
variable {C:Cx}
theorem Mo.asked {σ τ:St} (h:Mo C σ τ):Mo C σ (askedM C τ).2:=by unfold askedM; exact (exprM_mo (h.want _)).want _
theorem Mo.let_ {σ τ:St} (h:Mo C σ τ):Mo C σ (letM C τ).2:=by
 unfold letM;simp only;split
 · exact (exprM_mo ((h.typ.name.number).next)).want _
 · exact (h.typ.name.number).want _
theorem Mo.labelled {σ τ:St} (h:Mo C σ τ):Mo C σ (labelledM C τ).2:=by
 unfold labelledM;simp only;split
 · exact ((((h.next).go _).numberType _).next).want _
 split
 · exact (((h.next).go _).next).want _
 · exact (((h.next).go _).lost.next).want _
theorem Mo.part {σ τ:St} (h:Mo C σ τ) (t:ByteArray):Mo C σ (partM C τ t).2:=by
 unfold partM;simp only;split
 · exact h.want _
 · exact (exprM_mo h).want _
theorem ite_mo {σ:St} {c:Prop} [Decidable c] {a b:Sm × St} (h1:c→Mo C σ a.2) (h2:¬ c→Mo C σ b.2):Mo C σ (if c then a else b).2:=by split; exact h1 (by assumption); exact h2 (by assumption)
theorem ite_go {n:Nat} {c:Prop} [Decidable c] {a b:Sm × St} (h1:c→n < a.2.at_) (h2:¬ c→n < b.2.at_):n < (if c then a else b).2.at_:=by split; exact h1 (by assumption); exact h2 (by assumption)
theorem S_mo:∀ (f:Nat) (j:Sj) (σ:St),σ.at_≤C.T.length→Mo C σ (S C f j σ).2
 | 0,j,σ,h=>by unfold S; exact Mo.refl h
 | f+1,j,σ,h=>by
   have r:=Mo.refl h;have ih:∀ {τ:St} (j:Sj),Mo C σ τ→Mo C σ (S C f j τ).2:=fun j k=>k.trans (S_mo f j _ k.le)
   cases j with
   | block=>unfold S; exact ih _ (r.want _)
   | blockL acc =>
     unfold S; simp only
     (repeat' split) <;> first | with_reducible exact r.next | with_reducible exact r.lost | with_reducible exact ih _ (ih _ r)
   | choiceL e acc =>
     unfold S; simp only
     (repeat' split) <;> first | with_reducible exact r.next | with_reducible exact r.lost | with_reducible exact ih _ r.labelled | with_reducible exact ih _ (r.next.want _) | with_reducible exact ih _ (ih _ r)
   | stmt =>
     unfold S; simp only;refine ite_mo (fun _=>ih _ r) (fun _=>?_);refine ite_mo (fun _=>r.next) (fun _=>?_);refine ite_mo (fun _=>r.let_) (fun _=>?_);refine ite_mo (fun _=>ih _ r.next.next) (fun _=>?_);refine ite_mo (fun _=>?_) (fun _=>(exprM_mo r).want _);refine ite_mo (fun _=>ite_mo (fun _=>ih _ (ih _ r.next.asked).next) (fun _=>ih _ r.next.asked)) (fun _=>?_);refine ite_mo (fun _=>ih _ r.next.asked) (fun _=>?_);refine ite_mo (fun _=>(((ih _ r.next).want _).asked).want _) (fun _=>?_);refine ite_mo (fun _=>ih _ ((((r.next.want _).part _).part _).part _)) (fun _=>?_);refine ite_mo (fun _=>ih _ (r.next.asked.want _)) (fun _=>?_);refine ite_mo (fun _=>r.next.want _) (fun _=>?_);refine ite_mo (fun _=>r.next.want _) (fun _=>?_);refine ite_mo (fun _=>r.next.part _) (fun _=>?_);exact ite_mo (fun _=>r.next.name.want _) (fun _=>r.lost)
theorem typed_mo {σ:St} (h:σ.at_≤C.T.length) (ht:typedM C σ=true):Mo C (nextM C σ) (typM C σ).2:=by
 have r:Mo C (nextM C σ) (nextM C σ):=Mo.refl ((Mo.refl h).next).le;have hb:Mo C (nextM C σ) (baseM C σ).2:=by
  unfold baseM;simp only
  (repeat' split) <;> first | exact r | exact r.name | exact r.next
 unfold typM;rw [if_pos ht];exact Mo.stars _ _ _ hb
theorem let_go {σ:St} (h:σ.at_ < C.T.length) (ht:typedM C σ=true):Mo C (nextM C σ) (letM C σ).2:=by
 have ht:=typed_mo (Nat.le_of_lt h) ht;unfold letM;simp only;split
 · exact (exprM_mo ((ht.name.number).next)).want _
 · exact (ht.name.number).want _
theorem stmt_go (f:Nat) (σ:St) (h:σ.at_ < C.T.length):σ.at_ < (S C (f+2) .stmt σ).2.at_:=by
 have hn:=next_go h;have r:Mo C (nextM C σ) (nextM C σ):=Mo.refl ((Mo.refl (Nat.le_of_lt h)).next).le;have g:∀ {τ:St},Mo C (nextM C σ) τ→σ.at_ < τ.at_:=fun k=>Nat.lt_of_lt_of_le hn k.at_
 have ih:∀ {τ:St} (j:Sj),Mo C (nextM C σ) τ→Mo C (nextM C σ) (S C (f+1) j τ).2:=fun j k=>k.trans (S_mo (f+1) j _ k.le)
 unfold S; simp only;refine ite_go (fun hb=>?_) (fun _=>?_)
 · unfold S;rw [show wantM C σ ⟨#[123]⟩=nextM C σ by unfold wantM; rw [if_pos hb]];exact g (r.trans (S_mo f _ _ r.le))
 refine ite_go (fun _=>hn) (fun _=>?_);refine ite_go (fun ht=>g (let_go h ht)) (fun _=>?_);refine ite_go (fun _=>g (ih _ r.next)) (fun _=>?_);refine ite_go (fun _=>?_) (fun _=>Nat.lt_of_lt_of_le (exprM_go h) (Mo.want (Mo.refl (exprM_mo (Mo.refl (Nat.le_of_lt h))).le) _).at_);refine ite_go (fun _=>ite_go (fun _=>g (ih _ (ih _ r.asked).next)) (fun _=>g (ih _ r.asked))) (fun _=>?_);refine ite_go (fun _=>g (ih _ r.asked)) (fun _=>?_);refine ite_go (fun _=>g ((((ih _ r).want _).asked).want _)) (fun _=>?_);refine ite_go (fun _=>g (ih _ ((((r.want _).part _).part _).part _))) (fun _=>?_);refine ite_go (fun _=>g (ih _ (r.asked.want _))) (fun _=>?_);refine ite_go (fun _=>g (r.want _)) (fun _=>?_);refine ite_go (fun _=>g (r.want _)) (fun _=>?_);refine ite_go (fun _=>g (r.part _)) (fun _=>?_);exact ite_go (fun _=>g (r.name.want _)) (fun _=>h)
end Go.Proofs.YtjgkacggjhobmaaGreatDoor.Sy
namespace Go.Proofs.YtjgkacggjhobmaaGreatDoor
open Go.RowKit Lx
theorem infoPS:(Tryz.prog.info? 93).map (fun i=>(i.zero,i.size,i.bytes))=some (some (.pointer none),1,8):=by kernel_rfl
theorem wpList_appS (w:World) {ops:Array Oper} {rest:List Oper} {o:Oper} {a:Act} {Q:Exit→Act→World→Prop} (hgd:o.guard=none) (s x:Operand)
    (ho:o.op=.call { callee:=.builtin .append,args:=#[s,x],argTypes:=#[169,169] })
    (B:Nat) (v:Value) (n:Nat) (xs:List Value) (u:Option Addr) (q:Nat) (hs:a.eval s=v) (hown:w.ownsRow B 93 1 v n xs) (hx:a.eval x=.slice (some ⟨q,0,none⟩) 1 1) (hq:w.heap[q]?=some (.cells #[.pointer u] 93 (0,0)))
    (hn:n≤999999) (hB:B≤w.heap.size)
    (h:∀ g' cap w',w'.ownsRow B 93 1 (.slice (some ⟨g',0,none⟩) (n+1) cap) (n+1) (xs++[.pointer u])→w.grownBy w' v.ownBlock→(v.ownBlock=some g'∨w.heap.size≤g')→wpList Tryz.prog ops Q rest (a.put o.dst (.slice (some ⟨g',0,none⟩) (n+1) cap)) w'):wpList Tryz.prog ops Q (o::rest) a w:=by
 obtain ⟨i0,hi,hz0,hz1,hz2⟩:=info_parts infoPS;refine wpList_append_lies w hgd s x _ ho B 93 i0 (.pointer none) 1 8 Tryz.underlying169 hi hz0 hz1 hz2 rfl (by decide) v n xs hs hown ⟨q,0,none⟩ 1 1 [.pointer u] hx rfl (fun j y hy=>?_) (fun y hy=>by simp at hy; subst hy; rfl) (by decide) (by unfold maxLen; omega) (by omega) hB _ rfl (fun g' cap w' k1 k2 k3 _=>h g' cap w' k1 k2 (k3.imp id (fun e=>by omega)));cases j with
 | zero=>obtain rfl:Value.pointer u=y:=by simpa using hy
         have e:(⟨q,0,none⟩:Addr).add 0=⟨q,0,none⟩:=by unfold Addr.add; split <;> simp_all
         rw [e]; unfold World.cell?; simp only; rw [hq]; rfl
 | succ j=>cases hy
section
variable {v2 v3:World} {B N:Nat} {kind:Int} {v:Sy.Vr} {name:ByteArray} {minus:Bool} {num:Int} {p0 p1 p2:Option Addr} {e0 e1 e2:Option Sy.Ex} {sa:Option Addr} {sc g' cap:Nat} {av:List (Option Addr)} {ss:List Sy.Sm} {a2:Option Addr} {s2:Sy.Sm}
theorem Nod.push (h:Nod v2 B N kind v name minus num p0 p1 p2 sa sc av) (hk:Keeps (fun q=>(Value.slice sa av.length sc).ownBlock=some q) v2 v3)
    (ho:v3.ownsRow B 93 1 (.slice (some ⟨g',0,none⟩) (av.length+1) cap) (av.length+1) (ptrs av++[.pointer a2])) (hg:(Value.slice sa av.length sc).ownBlock=some g'∨v2.heap.size≤g') :
    Nod (v3.setCell ⟨N,12,none⟩ (.slice (some ⟨g',0,none⟩) (av.length+1) cap)) B N kind v name minus num p0 p1 p2 (some ⟨g',0,none⟩) cap (av++[a2]):=by
 have hn:∀ q,(Value.slice (some ⟨g',0,none⟩) (av.length+1) cap).ownBlock=some q→q≠N:=fun q hq e=>by
  have e1:g'=q:=by injection hq
  rcases hg with hg | hg
  · exact h.ne g' hg (by omega)
  · have:=h.lt; omega
 have hN3:v3.heap[N]?=some (.cells (smRow kind v name minus num p0 p1 p2 (.slice sa av.length sc)) 171 (0,0)):=(hk.block _ h.lt (fun e=>h.ne N e rfl)).trans h.row;have hl:(av++[a2]).length=av.length+1:=by simp
 refine ⟨?_,?_,by rw [hl]; exact hn,h.hN⟩
 · rw [heap_setCell_same v3 N 12 _ _ _ hN3,hl]; rfl
 · rw [hl];have e:ptrs (av++[a2])=ptrs av++[.pointer a2]:=by unfold ptrs; rw [List.map_append]; rfl
   rw [e];exact own_kept ho (fun q hq=>Below.heap_setCell _ _ _ _ (fun e=>hn q hq (by simpa using e)))
theorem Hung.push (h:Hung v2 B N p0 p1 p2 e0 e1 e2 sa sc av ss) (hk:Keeps (fun q=>(Value.slice sa av.length sc).ownBlock=some q) v2 v3)
    (hg:(Value.slice sa av.length sc).ownBlock=some g'∨v2.heap.size≤g') (h2:SmD v2 (Dc B N (.slice sa av.length sc)) a2 s2) :
    Hung (v3.setCell ⟨N,12,none⟩ (.slice (some ⟨g',0,none⟩) (av.length+1) cap)) B N p0 p1 p2 e0 e1 e2 (some ⟨g',0,none⟩) cap (av++[a2]) (ss++[s2]):=by
 have l1:∀ q,q < v2.heap.size→Dc B N (.slice sa av.length sc) q→Dc B N (.slice sa av.length sc) q∧q≠g':=fun q hq hd=>⟨hd,fun e=>by
     rcases hg with hg | hg
     · exact hd.2.2 (by rw [e]; exact hg)
     · omega⟩
 have l2:∀ q,(Value.slice sa av.length sc).ownBlock=some q→¬ (Dc B N (.slice sa av.length sc) q∧q≠g')∨v2.heap.size≤q:=fun q e=>.inl (fun hd=>hd.1.2.2 e)
 have hs:=(Keeps.refl (fun q=>q=N) v3).setCell (p:=⟨N,12,none⟩) (.inl rfl) (.slice (some ⟨g',0,none⟩) (av.length+1) cap);have l3:∀ q,q=N→¬ (Dc B N (.slice sa av.length sc) q∧q≠g')∨v3.heap.size≤q:=fun q e=>.inl (fun hd=>hd.1.2.1 e)
 have l4:∀ q,Dc B N (.slice sa av.length sc) q∧q≠g'→Dc B N (.slice (some ⟨g',0,none⟩) (av++[a2]).length cap) q:=fun q hd=>⟨hd.1.1,hd.1.2.1,fun e=>by
     have e1:g'=q:=by injection e
     exact hd.2 e1.symm⟩
 have oneO:∀ a e,OpD v2 (Dc B N (.slice sa av.length sc)) a e→OpD (v3.setCell ⟨N,12,none⟩ (.slice (some ⟨g',0,none⟩) (av.length+1) cap)) (Dc B N (.slice (some ⟨g',0,none⟩) (av++[a2]).length cap)) a e:=fun a e hx =>
  (((hx.mono l1).keep hk l2).keep hs l3).mono (fun q _ hd=>l4 q hd)
 have oneS:∀ a e,SmD v2 (Dc B N (.slice sa av.length sc)) a e→SmD (v3.setCell ⟨N,12,none⟩ (.slice (some ⟨g',0,none⟩) (av.length+1) cap)) (Dc B N (.slice (some ⟨g',0,none⟩) (av++[a2]).length cap)) a e:=fun a e hx =>
  (((hx.mono l1).keep hk l2).keep hs l3).mono (fun q _ hd=>l4 q hd)
 refine ⟨oneO _ _ h.o0,oneO _ _ h.o1,oneO _ _ h.o2,by rw [List.length_append,List.length_append,h.len]; rfl,fun i a e ha he=>?_⟩;by_cases hi:i < av.length
 · rw [List.getElem?_append_left hi] at ha;rw [List.getElem?_append_left (by rw [← h.len]; exact hi)] at he;exact oneS a e (h.sub i a e ha he)
 · rw [List.getElem?_append_right (by omega)] at ha;rw [List.getElem?_append_right (by rw [← h.len]; omega),← h.len] at he;cases hj:i - av.length with
   | zero =>
     rw [hj] at ha he;obtain rfl:a2=a:=by simpa using ha
     obtain rfl:s2=e:=by simpa using he
     exact oneS _ _ h2
   | succ j=>rw [hj] at ha; cases ha
end
def StmtC (K:Pk) (f:Nat):Prop:=∀ (σ:Sy.St) (w:World),PS w K σ→10 * rem K σ+6≤f→Calls Tryz.prog 109 #[.pointer (some ⟨K.P,0,none⟩)] w (SmPost w K (Sy.S K.C f .stmt σ))
def BlockC (K:Pk) (f:Nat):Prop:=∀ (σ:Sy.St) (w:World),PS w K σ→10 * rem K σ+5≤f→Calls Tryz.prog 95 #[.pointer (some ⟨K.P,0,none⟩)] w (SmPost w K (Sy.S K.C f .block σ))
structure AllS (K:Pk) (f:Nat):Prop where
 stmt:StmtC K f
 block:BlockC K f
theorem block_step (K:Pk) (f:Nat) (ih:∀ g,g < f→AllS K g):BlockC K f:=by
 intro σ w h hf;obtain ⟨f,rfl⟩:∃ g,f=g+1:=⟨f - 1,by omega⟩;have hle:=h.le;have HS:=zz h;have HIH:=zz ih;obtain ⟨τ,hτ⟩:∃ τ,Sy.wantM K.C σ ⟨#[123]⟩=τ:=⟨_,rfl⟩;have HW:=zz (fun W (hs:PS W K σ)=>want_any K σ ⟨#[123]⟩ W hs);rw [hτ] at HW;have hrt:rem K τ=0∨rem K τ+1≤rem K σ:=by
  rw [← hτ]; unfold Sy.wantM; split
  · next hb=>right; have:=rem_next (Sy.is_lt hb (by decide)); omega
  · left; unfold Sy.lostM Sy.failM rem; simp
 have HE0:Hid (Sy.S K.C (f+1) .block σ=Sy.S K.C f (.blockL []) τ∧(10 * rem K τ+7≤f∨(rem K τ=0∧1≤f))∧rem K τ≤6000):=zz ⟨by
  conv=>lhs; unfold Sy.S
  rw [hτ],by omega,by have:=HS.out.len; unfold rem; omega⟩
 clear ih h hf hle hτ hrt;go_enter Tryz.func95,Tryz.ntmps95;go_upto_region 2 with fail
 have hnw:(w.alloc (.cells #[.int .i64 1,.string ⟨#[]⟩,.string ⟨#[]⟩,.int .i64 0,.bool false,.int .u64 0,.string ⟨#[]⟩,.bool false,.int .u64 0,.pointer none,.pointer none,.pointer none,.slice none 0 0] 171)).heap[w.heap.size]?=some (.cells (smRow 1 Sy.vr0 Sy.nt false 0 none none none (.slice none 0 0)) 171 (0,0)):=heap_alloc_new _ _;have HA1:=zz ((At.of_no HS.out (Keeps.refl _ _)).no ((Keeps.refl _ w).alloc (.cells #[.int .i64 1,.string ⟨#[]⟩,.string ⟨#[]⟩,.int .i64 0,.bool false,.int .u64 0,.string ⟨#[]⟩,.bool false,.int .u64 0,.pointer none,.pointer none,.pointer none,.slice none 0 0] 171)));generalize w.alloc (.cells #[.int .i64 1,.string ⟨#[]⟩,.string ⟨#[]⟩,.int .i64 0,.bool false,.int .u64 0,.string ⟨#[]⟩,.bool false,.int .u64 0,.pointer none,.pointer none,.pointer none,.slice none 0 0] 171)=w1 at hnw HA1 ⊢;obtain ⟨N,hN⟩:∃ n,w.heap.size=n:=⟨_,rfl⟩;have HWN:Hid (w.heap.size≤N∧K.B≤N):=zz ⟨by omega,by have:=HS.out.ord.2.2.2; omega⟩;rw [hN] at hnw ⊢;have HN1:=zz (Nod.bare (Nat.le_refl N) hnw);clear hnw hN;go_wp2_with fail;refine (HW.out w1 HA1.out.p).mono ?_;rintro e w2 ⟨rfl,hat⟩;have HA2:=zz (HA1.out.trans hat);have HN2:=zz (HN1.out.1.at_ hat HWN.out.2);have HH2:Hid (τ.code=0→Hung w2 N N none none none none none none none 0 [] []):=zz (fun _=>HN1.out.2.at_ hat HWN.out.2);clear hat;go_wp2_with fail;go_loopg [9] (rem K τ) (fun m v wr=>∃ (g2:Nat) (sa:Option Addr) (sc:Nat) (av:List (Option Addr)) (ss:List Sy.Sm) (χ:Sy.St),m=rem K χ∧Hid (Sy.S K.C g2 (.blockL ss) χ=Sy.S K.C f (.blockL []) τ∧(10 * rem K χ+7≤g2∨(rem K χ=0∧1≤g2))∧g2≤f∧av.length+rem K χ≤6000)∧Hid (At w wr K χ)∧Hid (Nod wr N N 1 Sy.vr0 Sy.nt false 0 none none none sa sc av)∧Hid (χ.code=0→Hung wr N N none none none none none none sa sc av ss))
 case atStart=>exact ⟨f,none,0,[],[],τ,rfl,zz ⟨rfl,HE0.out.2.1,Nat.le_refl _,by have:=HE0.out.2.2; simp; omega⟩,HA2,HN2,HH2⟩
 case round =>
  obtain ⟨g2,sa,sc,av,ss,χ,hg,HE,HAR,HGR,HKR⟩:=hrel;obtain ⟨g2,rfl⟩:∃ q,g2=q+1:=⟨g2 - 1,by have:=HE.out.2.1; omega⟩;have hle:=HAR.out.p.le;obtain ⟨b6,h6⟩:∃ b,Sy.isM K.C χ ⟨#[125]⟩=b:=⟨_,rfl⟩;have HT6:=zz (fun W (hs:PS W K χ)=>take_any K χ ⟨#[125]⟩ b6 h6 W hs);cases b6 with
  | true =>
    obtain ⟨υ,hυ⟩:∃ υ,Sy.nextM K.C χ=υ:=⟨_,rfl⟩;have hm:Sy.Mo K.C χ υ:=by rw [← hυ]; exact (Sy.Mo.refl hle).next
    rw [hυ] at HT6;have HM:Hid (Sy.S K.C (f+1) .block σ=(.mk 1 Sy.vr0 Sy.nt false 0 none none none ss,υ)):=zz (by
     rw [HE0.out.1,← HE.out.1]
     conv=>lhs; unfold Sy.S
     simp only [h6,hυ,if_true])
    have HCD:Hid (υ.code=0→χ.code=0):=zz hm.code;clear h6 hυ hm hle;go_wp2_with fail;refine (HT6.out wr HAR.out.p).mono ?_;rintro e' w3 ⟨rfl,hat⟩;have hat2:At wr w3 K υ:=hat;have HA3:=zz (HAR.out.trans hat2);have HX3:Hid (υ.code=0→SmAt w3 N (some ⟨N,0,none⟩) (.mk 1 Sy.vr0 Sy.nt false 0 none none none ss)):=zz (fun hc=>(HGR.out.at_ hat2 HWN.out.2).fin ((HKR.out (HCD.out hc)).at_ hat2 HWN.out.2));clear hat hat2;go_wp2_with fail;go_returns;rw [HM.out];exact ⟨_,rfl,HA3.out,fun hc=>(HX3.out hc).mono HWN.out.1⟩
  | false =>
    obtain ⟨n,hn⟩:∃ n,K.C.T.length=n:=⟨_,rfl⟩;by_cases hd:χ.at_=K.C.T.length
    · have ed:((χ.at_:Int)==(n:Int))=true:=by rw [hd,hn]; simp
      have HLO:=zz (fun W (hs:PS W K χ)=>lost_any K χ W hs);obtain ⟨υ,hυ⟩:∃ υ,Sy.lostM K.C χ=υ:=⟨_,rfl⟩;have hm:Sy.Mo K.C χ υ:=by rw [← hυ]; exact (Sy.Mo.refl hle).lost
      rw [hυ] at HLO;have HM:Hid (Sy.S K.C (f+1) .block σ=(.mk 1 Sy.vr0 Sy.nt false 0 none none none ss,υ)):=zz (by
       rw [HE0.out.1,← HE.out.1]
       conv=>lhs; unfold Sy.S
       simp only [h6,hυ,hd,if_true,if_neg (show ¬ (false=true) by decide)])
      have HCD:Hid (υ.code=0→χ.code=0):=zz hm.code;clear h6 hυ hm hle hd;go_wp2_with fail;refine (HT6.out wr HAR.out.p).mono ?_;rintro e' w3 ⟨rfl,hat⟩;have hat2:At wr w3 K χ:=hat;have HA3:=zz (HAR.out.trans hat2);have HG3:=zz (HGR.out.at_ hat2 HWN.out.2);have HK3:Hid (χ.code=0→Hung w3 N N none none none none none none sa sc av ss):=zz (fun hc=>(HKR.out hc).at_ hat2 HWN.out.2);clear hat hat2;have c0:w3.cell? ⟨K.P,0,none⟩=some (.slice K.ta n K.tc):=by rw [← hn]; exact HA3.out.p.c (j:=0) rfl
      have c1:w3.cell? ⟨K.P,1,none⟩=some (.int .i64 (χ.at_:Int)):=HA3.out.p.c (j:=1) rfl;clear hn;have hne:Nonempty (KW w3):=⟨KW.of _⟩;have p0:=fun u:KW w3=>u.cell c0
      have p1:=fun u:KW w3=>u.cell c1
      clear c0 c1;go_wp2_with fail;refine wp_region_class (C:=fun W=>∃ u:KW w3,W=u.W) (by kernel_rfl) (by kernel_rfl) ⟨⟨World.drew _,(Keeps.refl _ _).drew⟩,rfl⟩ ?_
      repeat (go_big_quiet_step (fail))
      refine wpQuiet_nil ?_;rintro _ ⟨T,rfl⟩;obtain ⟨w5,hW⟩:∃ W,T.W=W:=⟨_,rfl⟩;have HT:Hid (Keeps No w3 w5):=zz (by rw [← hW]; exact T.h);rw [hW];clear p0 p1 hne hW T;have HA5:=zz (HA3.out.no HT.out);have HG5:=zz (HG3.out.no HT.out);have HK5:Hid (χ.code=0→Hung w5 N N none none none none none none sa sc av ss):=zz (fun hc=>(HK3.out hc).no HT.out);go_wp2_with fail;clear ed;refine (HLO.out w5 HA5.out.p).mono ?_;rintro e' w4 ⟨rfl,hat⟩;have HA4:=zz (HA5.out.trans hat);have HX4:Hid (υ.code=0→SmAt w4 N (some ⟨N,0,none⟩) (.mk 1 Sy.vr0 Sy.nt false 0 none none none ss)):=zz (fun hc=>(HG5.out.at_ hat HWN.out.2).fin ((HK5.out (HCD.out hc)).at_ hat HWN.out.2));clear hat;go_wp2_with fail;go_returns;rw [HM.out];exact ⟨_,rfl,HA4.out,fun hc=>(HX4.out hc).mono HWN.out.1⟩
    · have ed:((χ.at_:Int)==(n:Int))=false:=beq_eq_false_iff_ne.2 (by omega);have hbe:=HE.out.2;have hr1:1≤rem K χ:=by unfold rem; omega
      have HY:=zz (fun W (hs:PS W K χ)=>(HIH.out g2 (by omega)).stmt χ W hs (by omega));obtain ⟨r4,hr4⟩:∃ r,Sy.S K.C g2 .stmt χ=r:=⟨_,rfl⟩;have hm6:Sy.Mo K.C χ r4.2:=by rw [← hr4]; exact Sy.S_mo g2 _ χ hle
      have hgo:χ.at_ < r4.2.at_:=by
       obtain ⟨q,rfl⟩:∃ q,g2=q+2:=⟨g2 - 2,by omega⟩;rw [← hr4]; exact Sy.stmt_go q χ (by omega)
      rw [hr4] at HY;obtain ⟨s4,φ⟩:=r4;simp only at hm6 hgo;have hr6:rem K φ+1≤rem K χ:=by have:=hm6.le; unfold rem; omega
      have HE4:Hid (Sy.S K.C g2 (.blockL (ss++[s4])) φ=Sy.S K.C f (.blockL []) τ∧(10 * rem K φ+7≤g2∨(rem K φ=0∧1≤g2))∧g2≤f∧(av.length+1)+rem K φ≤6000):=zz (by
       refine ⟨?_,by omega,by omega,by omega⟩;rw [← HE.out.1]
       conv=>rhs; unfold Sy.S
       simp only [h6,hd,hr4,if_neg (show ¬ (false=true) by decide),if_false])
      have HCD2:Hid (φ.code=0→χ.code=0):=zz hm6.code;have HLB:Hid (av.length≤6000):=zz (by omega);have hms:rem K φ < rem K χ:=by omega
      clear h6 hm6 hgo hr4 hr6 hle hd hbe hr1;go_wp2_with fail;refine (HT6.out wr HAR.out.p).mono ?_;rintro e' w3 ⟨rfl,hat⟩;have hat2:At wr w3 K χ:=hat;have HA3:=zz (HAR.out.trans hat2);have HG3:=zz (HGR.out.at_ hat2 HWN.out.2);have HK3:Hid (χ.code=0→Hung w3 N N none none none none none none sa sc av ss):=zz (fun hc=>(HKR.out hc).at_ hat2 HWN.out.2);clear hat hat2;have c0:w3.cell? ⟨K.P,0,none⟩=some (.slice K.ta n K.tc):=by rw [← hn]; exact HA3.out.p.c (j:=0) rfl
      have c1:w3.cell? ⟨K.P,1,none⟩=some (.int .i64 (χ.at_:Int)):=HA3.out.p.c (j:=1) rfl;clear hn;have hne:Nonempty (KW w3):=⟨KW.of _⟩;have p0:=fun u:KW w3=>u.cell c0
      have p1:=fun u:KW w3=>u.cell c1
      clear c0 c1;go_wp2_with fail;refine wp_region_class (C:=fun W=>∃ u:KW w3,W=u.W) (by kernel_rfl) (by kernel_rfl) ⟨⟨World.drew _,(Keeps.refl _ _).drew⟩,rfl⟩ ?_
      repeat (go_big_quiet_step (fail))
      refine wpQuiet_nil ?_;rintro _ ⟨T,rfl⟩;obtain ⟨w5,hW⟩:∃ W,T.W=W:=⟨_,rfl⟩;have HT:Hid (Keeps No w3 w5):=zz (by rw [← hW]; exact T.h);rw [hW];clear p0 p1 hne hW T;have HA5:=zz (HA3.out.no HT.out);have HG5:=zz (HG3.out.no HT.out);have HK5:Hid (χ.code=0→Hung w5 N N none none none none none none sa sc av ss):=zz (fun hc=>(HK3.out hc).no HT.out);go_upto_region 6 with fail
      clear ed;have HSS:Hid (∀ q,(q=K.P∨(Value.slice sa av.length sc).ownBlock=some q)→q≠N):=zz (fun q hq e=>by
       rcases hq with hq | hq
       · have:=HS.out.ord; have:=HWN.out.2; omega
       · exact HG5.out.ne q hq e)
      have p12:∀ u:KS (fun q=>q=K.P∨(Value.slice sa av.length sc).ownBlock=some q) w5,u.W.cell? ⟨N,12,none⟩=some (.slice sa av.length sc):=fun u=>u.cell (HG5.out.c (j:=12) rfl) (fun e=>HSS.out N e rfl)
      have hne:Nonempty (KS (fun q=>q=K.P∨(Value.slice sa av.length sc).ownBlock=some q) w5):=⟨⟨w5,Keeps.refl _ _⟩⟩;refine Mix.wp_region_mix (fun W'=>∃ u:KS (fun q=>q=K.P∨(Value.slice sa av.length sc).ownBlock=some q) w5,W'=u.W) [11] (by kernel_rfl) ?_;have HV0:Hid (Keeps No w5 w5.drew):=zz ((Keeps.refl _ w5).drew);generalize w5.drew=v0 at HV0 ⊢;have HC0:Hid (Keeps (fun q=>q=K.P∨(Value.slice sa av.length sc).ownBlock=some q) w5 v0):=zz (HV0.out.mono (fun _ _ e=>e.elim));have HAV0:=zz (HA5.out.no HV0.out);have HGV0:=zz (HG5.out.no HV0.out);have HKV0:=zz (fun hc=>(HK5.out hc).no HV0.out);refine Mix.mix_seg 0 6 6 (by kernel_rfl) (by kernel_rfl) rfl rfl ⟨⟨v0,HC0.out⟩,rfl⟩ ?_;simp only [zp1,zp2,zp3,zp4]
      repeat (go_big_quiet_step (fail))
      refine wpQuiet_nil ?_;clear p12;refine Mix.mix_one 6 5 (by kernel_rfl) rfl rfl ?_;simp only [zp1,zp2,zp3,zp4];go_wp2_with fail;refine (HY.out v0 HAV0.out.p).mono ?_;rintro e' v1 ⟨a4,rfl,hat,hex⟩;have HC1:Hid (Keeps (fun q=>q=K.P∨(Value.slice sa av.length sc).ownBlock=some q) w5 v1):=zz (HC0.out.trans hat.k (fun q _ e=>.inl e));have HAV1:=zz (HAV0.out.trans hat);have HGV1:=zz (HGV0.out.at_ hat HWN.out.2);have HKV1:=zz (fun (hc:φ.code=0)=>(HKV0.out (HCD2.out hc)).at_ hat HWN.out.2);have HDV1:Hid (φ.code=0→SmD v1 (Dc N N (.slice sa av.length sc)) a4 s4):=zz (fun hc=>SmD.mono (hex hc) (fun q _ hd=>⟨by have h5:v0.heap.size≤q:=hd; have:=HGV0.out.lt; omega,fun e=>by have h5:v0.heap.size≤q:=hd; have:=HGV0.out.lt; omega,fun e=>by have h5:v0.heap.size≤q:=hd; have:=own_ltb HGV0.out.own e; omega⟩));clear hat hex;go_wp2_with fail;refine ⟨.inr ⟨⟨v1,HC1.out⟩,rfl⟩,?_⟩;refine Mix.mix_one 7 4 (by kernel_rfl) rfl rfl ?_;simp only [zp1,zp2,zp3,zp4];go_wp2_with fail;have hk12:Keeps No v1 (v1.alloc (.cells #[.pointer a4] 93)):=(Keeps.refl _ _).alloc _;have hq2:(v1.alloc (.cells #[.pointer a4] 93)).heap[v1.heap.size]?=some (.cells #[.pointer a4] 93 (0,0)):=heap_alloc_new _ _;generalize v1.alloc (.cells #[.pointer a4] 93)=v2 at hk12 hq2 ⊢;have HC2:Hid (Keeps (fun q=>q=K.P∨(Value.slice sa av.length sc).ownBlock=some q) w5 v2):=zz (HC1.out.trans hk12 (fun q _ e=>e.elim));have HAV2:=zz (HAV1.out.no hk12);have HGV2:=zz (HGV1.out.no hk12);have HKV2:=zz (fun (hc:φ.code=0)=>(HKV1.out hc).no hk12);have HDV2:=zz (fun (hc:φ.code=0)=>(HDV1.out hc).keep hk12 (fun _ e=>e.elim));have HQ2:=zz hq2;clear hk12 hq2;refine ⟨.inr ⟨⟨v2,HC2.out⟩,rfl⟩,?_⟩;refine Mix.mix_one 8 3 (by kernel_rfl) rfl rfl ?_;simp only [zp1,zp2,zp3,zp4];go_wp2_with (at_builtin; refine wpList_appS _ rfl (.tmp 27) (.tmp 30) rfl N (.slice sa av.length sc) av.length (ptrs av) a4 v1.heap.size rfl HGV2.out.own rfl HQ2.out (by have:=HLB.out; omega) (Nat.le_of_lt HGV2.out.lt) ?_);intro g' cap' v3 ho3 hg3 hgo;have hk23:Keeps (fun q=>(Value.slice sa av.length sc).ownBlock=some q) v2 v3:=(Keeps.refl _ _).grown hg3 (fun q e=>.inl e);have HC3:Hid (Keeps (fun q=>q=K.P∨(Value.slice sa av.length sc).ownBlock=some q) w5 v3):=zz (HC2.out.trans hk23 (fun q _ e=>.inr e));have hn3:v3.heap[N]?=some (.cells _ _ (0,0)):=(hk23.block _ HGV2.out.lt (fun e=>HGV2.out.ne N e rfl)).trans HGV2.out.row;have y12:v3.cell? ⟨N,12,none⟩=some (.slice sa av.length sc):=by rw [cell_of_row v3 N 12 _ _ _ hn3]; rfl
      have z12:v3.frozen? ⟨N,12,none⟩=false:=frozen_of_row v3 N 12 _ _ hn3;have HGO:Hid (∀ W,W=v3.setCell ⟨N,12,none⟩ (.slice (some ⟨g',0,none⟩) (av.length+1) cap')→At w W K φ∧Nod W N N 1 Sy.vr0 Sy.nt false 0 none none none (some ⟨g',0,none⟩) cap' (av++[a4])∧(φ.code=0→Hung W N N none none none none none none (some ⟨g',0,none⟩) cap' (av++[a4]) (ss++[s4]))):=zz (fun W hW=>by
       subst hW;have hks:Keeps (fun q=>q=N) v3 (v3.setCell ⟨N,12,none⟩ (.slice (some ⟨g',0,none⟩) (av.length+1) cap')):=(Keeps.refl (fun q=>q=N) v3).setCell (.inl rfl) _;refine ⟨⟨(HAV2.out.p.keepR hk23 (fun q e=>Nat.le_trans HWN.out.2 (own_lo HGV2.out.own q e))).keepR hks (fun q e=>by subst e; exact HWN.out.2),(HAV2.out.k.trans hk23 (fun q hq e=>by have:=own_lo HGV2.out.own q e; exact absurd hq (by have:=HWN.out.1; omega))).trans hks (fun q hq e=>by subst e; exact absurd hq (by have:=HWN.out.1; omega))⟩,HGV2.out.push hk23 ho3 hgo,fun hc=>(HKV2.out hc).push hk23 hgo (HDV2.out hc)⟩)
      clear ho3 hg3 hgo hk23 hn3;go_wp2_with fail;refine ⟨.inr ⟨⟨v3,HC3.out⟩,rfl⟩,?_⟩;refine Mix.mix_one 9 2 (by kernel_rfl) rfl rfl ?_;simp only [zp1,zp2,zp3,zp4];go_wp2_with fail;refine ⟨.inr ⟨⟨v3,HC3.out⟩,rfl⟩,?_⟩;refine Mix.mix_one 10 1 (by kernel_rfl) rfl rfl ?_;simp only [zp1,zp2,zp3,zp4];go_wp2_with fail;refine ⟨.inr ⟨⟨v3,HC3.out⟩,rfl⟩,?_⟩;refine Mix.mix_one 11 0 (by kernel_rfl) rfl rfl ?_;simp only [zp1,zp2,zp3,zp4];go_wp2_with fail;have hgo:=HGO.out _ rfl;generalize v3.setCell ⟨N,12,none⟩ (.slice (some ⟨g',0,none⟩) (av.length+1) cap')=w9 at hgo ⊢;have HA9:=zz hgo.1;have HG9:=zz hgo.2.1;have HK9:=zz hgo.2.2;clear hgo y12 z12 hne;refine ⟨.inl ⟨rfl,rfl⟩,?_⟩;refine Mix.mix_end (by kernel_rfl) ?_;go_wp2_with fail;go_roundg (rem K φ)
      case rel=>exact ⟨g2,_,_,_,_,φ,rfl,zz ⟨HE4.out.1,HE4.out.2.1,HE4.out.2.2.1,by rw [List.length_append]; exact HE4.out.2.2.2⟩,HA9,HG9,HK9⟩
      case measure=>omega
section
variable {w:World} {B N:Nat} {kind:Int} {v:Sy.Vr} {name:ByteArray} {minus:Bool} {num:Int} {p0 p1 p2:Option Addr} {e0 e1 e2:Option Sy.Ex} {a:Option Addr} {s:Sy.Sm}
theorem Nod.one (a:Option Addr) (h:Nod w B N kind v name minus num p0 p1 p2 none 0 []) (hB:B≤w.heap.size) :
    Nod ((w.alloc (.cells #[.pointer a] 93)).setCell ⟨N,12,none⟩ (.slice (some ⟨w.heap.size,0,none⟩) 1 1)) B N kind v name minus num p0 p1 p2 (some ⟨w.heap.size,0,none⟩) 1 [a]:=by
 have hN3:(w.alloc (.cells #[.pointer a] 93)).heap[N]?=some (.cells (smRow kind v name minus num p0 p1 p2 (.slice none 0 0)) 171 (0,0)):=(Below.heap_alloc _ _ _ h.lt).trans h.row;refine ⟨?_,?_,fun q hq e=>?_,h.hN⟩
 · rw [heap_setCell_same _ N 12 _ _ _ hN3]; rfl
 · refine own_kept (w:=w.alloc (.cells #[.pointer a] 93)) ⟨rfl,.inr ⟨w.heap.size,1,#[.pointer a],rfl,hB,heap_alloc_new _ _,Nat.le_refl _,by unfold maxLen; simp,rfl,rfl⟩⟩ (fun q hq=>Below.heap_setCell _ _ _ _ (fun e=>?_));have e1:w.heap.size=q:=by injection hq
   have e2:q=N:=by simpa using e
   have:=h.lt; omega
 · have e1:w.heap.size=q:=by injection hq
   have:=h.lt; omega
theorem Hung.one (h:Hung w B N p0 p1 p2 e0 e1 e2 none 0 [] []) (hx:SmD w (fun q=>B≤q∧q≠N) a s) :
    Hung ((w.alloc (.cells #[.pointer a] 93)).setCell ⟨N,12,none⟩ (.slice (some ⟨w.heap.size,0,none⟩) 1 1)) B N p0 p1 p2 e0 e1 e2 (some ⟨w.heap.size,0,none⟩) 1 [a] [s]:=by
 have hk:Keeps (fun q=>q=N) w ((w.alloc (.cells #[.pointer a] 93)).setCell ⟨N,12,none⟩ (.slice (some ⟨w.heap.size,0,none⟩) 1 1)) :=
  Keeps.setCell (S:=fun q=>q=N) (((Keeps.refl No w).alloc _).mono (fun _ _ e=>e.elim)) (.inl rfl) _
 have l1:∀ q,q < w.heap.size→(B≤q∧q≠N)→(B≤q∧q≠N)∧q < w.heap.size:=fun q hq hd=>⟨hd,hq⟩
 have l3:∀ q,q=N→¬ ((B≤q∧q≠N)∧q < w.heap.size)∨w.heap.size≤q:=fun q e=>.inl (fun hd=>hd.1.2 e)
 have l4:∀ q,((B≤q∧q≠N)∧q < w.heap.size)→Dc B N (.slice (some ⟨w.heap.size,0,none⟩) [a].length 1) q:=fun q hd=>⟨hd.1.1,hd.1.2,fun e=>by
  have e1:w.heap.size=q:=by injection e
  have:=hd.2; omega⟩
 have l0:∀ q,q < w.heap.size→Dc B N (.slice none ([]:List (Option Addr)).length 0) q→(B≤q∧q≠N):=fun q _ hd=>⟨hd.1,hd.2.1⟩
 have oneO:∀ a' e,OpD w (Dc B N (.slice none ([]:List (Option Addr)).length 0)) a' e→OpD ((w.alloc (.cells #[.pointer a] 93)).setCell ⟨N,12,none⟩ (.slice (some ⟨w.heap.size,0,none⟩) 1 1)) (Dc B N (.slice (some ⟨w.heap.size,0,none⟩) [a].length 1)) a' e:=fun a' e hx =>
  ((((hx.mono l0).mono l1).keep hk l3)).mono (fun q _ hd=>l4 q hd)
 refine ⟨oneO _ _ h.o0,oneO _ _ h.o1,oneO _ _ h.o2,rfl,fun i a' s' ha hs=>?_⟩;cases i with
 | zero =>
   obtain rfl:a=a':=by simpa using ha
   obtain rfl:s=s':=by simpa using hs
   exact ((hx.mono l1).keep hk l3).mono (fun q _ hd=>l4 q hd)
 | succ i=>cases ha
end
def FillC (K:Pk) (w wc:World) (N:Nat) (fn:Nat) (r:Sy.Sm × Sy.St):Prop :=
 Calls Tryz.prog fn #[.pointer (some ⟨K.P,0,none⟩),.pointer (some ⟨N,0,none⟩)] wc fun e w'=>e=.returned (.tuple #[])∧At w w' K r.2∧(r.2.code=0→SmAt w' N (some ⟨N,0,none⟩) r.1)
namespace Sy
variable (C:Cx)
def branchM (f:Nat) (σ:St):Sm × St :=
 let c:=askedM C (nextM C σ)
 let a:=S C f .stmt c.2
 if isM C a.2 ⟨#[101,108,115,101]⟩ then (let b:=S C f .stmt (nextM C a.2); (.mk 4 vr0 nt false 0 (some c.1) none none [a.1,b.1],b.2))
 else (.mk 4 vr0 nt false 0 (some c.1) none none [a.1],a.2)
def loopM (f:Nat) (σ:St):Sm × St :=
 let p:=partM C (wantM C (nextM C σ) ⟨#[40]⟩) ⟨#[59]⟩
 let q:=partM C p.2 ⟨#[59]⟩
 let r:=partM C q.2 ⟨#[41]⟩
 let a:=S C f .stmt r.2
 (.mk 7 vr0 nt false 0 p.1 q.1 r.1 [a.1],a.2)
def chooseM (f:Nat) (σ:St):Sm × St :=
 let c:=askedM C (nextM C σ)
 S C f (.choiceL (some c.1) []) (wantM C c.2 ⟨#[123]⟩)
end Sy
theorem branch_any (K:Pk) (f:Nat) (hS:StmtC K f) (σ σ0:Sy.St) (w wc:World) (N:Nat) (h0:PS w K σ0) (h:At w wc K σ) (hN:w.heap.size≤N)
    (hn:Nod wc N N 0 Sy.vr0 Sy.nt false 0 none none none none 0 []∧Hung wc N N none none none none none none none 0 [] []) (hi:σ.at_ < K.C.T.length) (hf:10 * rem K σ+6≤f+1) :
    FillC K w wc N 123 (Sy.branchM K.C f σ):=by
 have hle:=h.p.le;have HS:=zz h0;have HA0:=zz h;have HN0:=zz hn;have HWN:Hid (w.heap.size≤N∧K.B≤N):=zz ⟨hN,Nat.le_trans h0.ord.2.2.2 hN⟩;have hr1:=rem_next hi;obtain ⟨σ1,h1⟩:∃ x,Sy.nextM K.C σ=x:=⟨_,rfl⟩;have hm1:Sy.Mo K.C σ σ1:=by rw [← h1]; exact (Sy.Mo.refl hle).next
 have HNX:=zz (fun W (hs:PS W K σ)=>next_any K σ W hs);rw [h1] at HNX hr1;have HX:=zz (fun W (hs:PS W K σ1)=>asked_any K σ1 W hs);obtain ⟨r2,h2⟩:∃ x,Sy.askedM K.C σ1=x:=⟨_,rfl⟩;have hm2:Sy.Mo K.C σ1 r2.2:=by rw [← h2]; exact (Sy.Mo.refl hm1.le).asked
 rw [h2] at HX;obtain ⟨e1,σ2⟩:=r2;simp only at hm2;have hr2:=rem_mo hm2;have HST:=zz (fun W (hs:PS W K σ2)=>hS σ2 W hs (by omega));obtain ⟨r3,h3⟩:∃ x,Sy.S K.C f .stmt σ2=x:=⟨_,rfl⟩;have hm3:Sy.Mo K.C σ2 r3.2:=by rw [← h3]; exact Sy.S_mo f _ σ2 hm2.le
 rw [h3] at HST;obtain ⟨s1,σ3⟩:=r3;simp only at hm3;have hr3:=rem_mo hm3;obtain ⟨b,hb⟩:∃ b,Sy.isM K.C σ3 ⟨#[101,108,115,101]⟩=b:=⟨_,rfl⟩;have HTK:=zz (fun W (hs:PS W K σ3)=>take_any K σ3 ⟨#[101,108,115,101]⟩ b hb W hs);obtain ⟨σ4,h4⟩:∃ x,Sy.nextM K.C σ3=x:=⟨_,rfl⟩;have hm4:Sy.Mo K.C σ3 σ4:=by rw [← h4]; exact (Sy.Mo.refl hm3.le).next
 rw [h4] at HTK;have hr4:=rem_mo hm4;have HY:=zz (fun W (hs:PS W K σ4)=>hS σ4 W hs (by omega));obtain ⟨r5,h5⟩:∃ x,Sy.S K.C f .stmt σ4=x:=⟨_,rfl⟩;have hm5:Sy.Mo K.C σ4 r5.2:=by rw [← h5]; exact Sy.S_mo f _ σ4 hm4.le
 rw [h5] at HY;obtain ⟨s2,σ5⟩:=r5;simp only at hm5;have HM:Hid (Sy.branchM K.C f σ=if b=true then (.mk 4 Sy.vr0 Sy.nt false 0 (some e1) none none [s1,s2],σ5) else (.mk 4 Sy.vr0 Sy.nt false 0 (some e1) none none [s1],σ3)):=zz (by
  unfold Sy.branchM;simp only [h1,h2,h3,hb,h4,h5])
 have HC21:Hid (σ2.code=0→σ1.code=0):=zz hm2.code;have HC32:Hid (σ3.code=0→σ2.code=0):=zz hm3.code;have HC43:Hid (σ4.code=0→σ3.code=0):=zz hm4.code;have HC54:Hid (σ5.code=0→σ4.code=0):=zz hm5.code;clear hS h0 h hN hn hi hf hle hr1 h1 hm1 h2 hm2 hr2 h3 hm3 hr3 hb h4 hm4 hr4 h5 hm5;unfold FillC;rw [HM.out];go_enter Tryz.func123,Tryz.ntmps123;go_wp2_with fail;refine (HNX.out wc HA0.out.p).mono ?_;rintro e w1 ⟨rfl,hat⟩;have HA1:=zz (HA0.out.trans hat);have HN1:=zz (HN0.out.1.at_ hat HWN.out.2);have HH1:=zz (HN0.out.2.at_ hat HWN.out.2);clear hat;have y0:w1.cell? ⟨N,0,none⟩=some (.int .i64 0):=HN1.out.c (j:=0) rfl;have z0:w1.frozen? ⟨N,0,none⟩=false:=HN1.out.f 0;go_upto_region 2 with fail
 have HA2:=zz (HA1.out.newR HS.out ((Keeps.refl (fun q=>q=N) w1).setCell (p:=⟨N,0,none⟩) (.inl rfl) (.int .i64 4)) HWN.out.1);have HN2:=zz (HN1.out.set_kind 4);have HH2:=zz (fun (_:σ1.code=0)=>HH1.out.setc 0 (.int .i64 4));generalize w1.setCell ⟨N,0,none⟩ (.int .i64 4)=w2 at HA2 HN2 HH2 ⊢;clear y0 z0;have hne:Nonempty (KS (PE K N) w2):=⟨⟨w2,Keeps.refl _ _⟩⟩;refine Mix.wp_region_mix (fun W'=>∃ u:KS (PE K N) w2,W'=u.W) [] (by kernel_rfl) ?_;have HV0:Hid (Keeps No w2 w2.drew):=zz ((Keeps.refl _ w2).drew);generalize w2.drew=v0 at HV0 ⊢;have HC0:Hid (Keeps (PE K N) w2 v0):=zz (HV0.out.mono (fun _ _ e=>e.elim));have HAV0:=zz (HA2.out.no HV0.out);have HNV0:=zz (HN2.out.no HV0.out);have HHV0:=zz (fun hc=>(HH2.out hc).no HV0.out);refine Mix.mix_seg 0 2 5 (by kernel_rfl) (by kernel_rfl) rfl rfl ⟨⟨v0,HC0.out⟩,rfl⟩ ?_;simp only [zp1,zp2,zp3,zp4]
 repeat (go_big_quiet_step (fail))
 refine wpQuiet_nil ?_;refine Mix.mix_seg 3 2 3 (by kernel_rfl) (by kernel_rfl) rfl rfl ⟨⟨v0,HC0.out⟩,rfl⟩ ?_;simp only [zp1,zp2,zp3,zp4]
 repeat (go_big_quiet_step (fail))
 refine wpQuiet_nil ?_;refine Mix.mix_one 2 2 (by kernel_rfl) rfl rfl ?_;simp only [zp1,zp2,zp3,zp4];go_wp2_with fail;refine (HX.out v0 HAV0.out.p).mono ?_;rintro e' v1 ⟨a1,rfl,hat,hex⟩;have HC1:Hid (Keeps (PE K N) w2 v1):=zz (HC0.out.trans hat.k (fun q _ e=>.inl e));have HAV1:=zz (HAV0.out.trans hat);have HNV1:=zz (HNV0.out.at_ hat HWN.out.2);have HHV1:=zz (fun (hc:σ2.code=0)=>(HHV0.out (HC21.out hc)).at_ hat HWN.out.2);have HOV1:Hid (σ2.code=0→OpD v1 (Dc N N (.slice none 0 0)) a1 (some e1)):=zz (fun hc=>.some (ExD.mono (hex hc) (fun q _ hd=>by
  have h1:v0.heap.size≤q:=hd;have h2:=HNV0.out.lt;exact ⟨by omega,by omega,fun e=>nomatch e⟩)))
 clear hat hex;go_wp2_with fail;refine ⟨.inr ⟨⟨v1,HC1.out⟩,rfl⟩,?_⟩;refine Mix.mix_one 5 1 (by kernel_rfl) rfl rfl ?_;simp only [zp1,zp2,zp3,zp4];go_wp2_with fail;refine ⟨.inr ⟨⟨v1,HC1.out⟩,rfl⟩,?_⟩;refine Mix.mix_one 6 0 (by kernel_rfl) rfl rfl ?_;simp only [zp1,zp2,zp3,zp4];have y9:v1.cell? ⟨N,9,none⟩=some (.pointer none):=HNV1.out.c (j:=9) rfl;have z9:v1.frozen? ⟨N,9,none⟩=false:=HNV1.out.f 9;go_wp2_with fail;have HA3:=zz (HAV1.out.newR HS.out ((Keeps.refl (fun q=>q=N) v1).setCell (p:=⟨N,9,none⟩) (.inl rfl) (.pointer a1)) HWN.out.1);have HN3:=zz (HNV1.out.set_p0 a1);have HH3:=zz (fun (hc:σ2.code=0)=>((HHV1.out hc).put0 (HOV1.out hc)).setc 9 (.pointer a1));have HC2:Hid (Keeps (PE K N) w2 (v1.setCell ⟨N,9,none⟩ (.pointer a1))):=zz (Keeps.setCell (S:=PE K N) HC1.out (.inl (.inr rfl)) _);generalize v1.setCell ⟨N,9,none⟩ (.pointer a1)=w3 at HC2 HA3 HN3 HH3 ⊢;clear y9 z9 hne;refine ⟨.inr ⟨⟨w3,HC2.out⟩,rfl⟩,?_⟩;refine Mix.mix_end (by kernel_rfl) ?_;go_wp2_with fail;refine (HST.out w3 HA3.out.p).mono ?_;rintro e' w4 ⟨a2,rfl,hat,hex⟩;have HA4:=zz (HA3.out.trans hat);have HN4:=zz (HN3.out.at_ hat HWN.out.2);have HH4:=zz (fun (hc:σ3.code=0)=>(HH3.out (HC32.out hc)).at_ hat HWN.out.2);have HX4:Hid (σ3.code=0→SmD w4 (fun q=>N≤q∧q≠N) a2 s1):=zz (fun hc=>SmD.mono (hex hc) (fun q _ hd=>by
  have h1:w3.heap.size≤q:=hd;have h2:=HN3.out.lt;exact ⟨by omega,by omega⟩))
 clear hat hex;have hra:(w4.alloc (.cells #[.pointer a2] 93)).heap[N]?=some (.cells _ _ (0,0)):=(Below.heap_alloc _ _ _ HN4.out.lt).trans HN4.out.row;have y12:(w4.alloc (.cells #[.pointer a2] 93)).cell? ⟨N,12,none⟩=some (.slice none 0 0):=by rw [cell_of_row _ N 12 _ _ _ hra]; rfl
 have z12:(w4.alloc (.cells #[.pointer a2] 93)).frozen? ⟨N,12,none⟩=false:=frozen_of_row _ N 12 _ _ hra;clear hra;go_upto_region 4 with fail
 have HA5:=zz ((HA4.out.no ((Keeps.refl _ w4).alloc (.cells #[.pointer a2] 93))).newR HS.out ((Keeps.refl (fun q=>q=N) _).setCell (p:=⟨N,12,none⟩) (.inl rfl) (.slice (some ⟨w4.heap.size,0,none⟩) 1 1)) HWN.out.1);have HN5:=zz (HN4.out.one a2 (Nat.le_of_lt HN4.out.lt));have HH5:=zz (fun (hc:σ3.code=0)=>(HH4.out hc).one (HX4.out hc));generalize (w4.alloc (.cells #[.pointer a2] 93)).setCell ⟨N,12,none⟩ (.slice (some ⟨w4.heap.size,0,none⟩) 1 1)=w5 at HA5 HN5 HH5 ⊢;obtain ⟨g1,hg1⟩:∃ g,w4.heap.size=g:=⟨_,rfl⟩;rw [hg1] at HN5 HH5 ⊢;clear y12 z12 hg1;go_wp2_with fail;refine (HTK.out w5 HA5.out.p).mono ?_;cases b with
 | false =>
   rintro e' w6 ⟨rfl,hat⟩;have hat2:At w5 w6 K σ3:=hat;have HA6:=zz (HA5.out.trans hat2);have HX6:Hid (σ3.code=0→SmAt w6 N (some ⟨N,0,none⟩) (.mk 4 Sy.vr0 Sy.nt false 0 (some e1) none none [s1])):=zz (fun hc=>(HN5.out.at_ hat2 HWN.out.2).fin ((HH5.out hc).at_ hat2 HWN.out.2));clear hat hat2;go_wp2_with fail;go_returns;exact ⟨rfl,HA6.out,HX6.out⟩
 | true =>
   rintro e' w6 ⟨rfl,hat⟩;have hat2:At w5 w6 K σ4:=hat;have HA6:=zz (HA5.out.trans hat2);have HN6:=zz (HN5.out.at_ hat2 HWN.out.2);have HH6:=zz (fun (hc:σ4.code=0)=>(HH5.out (HC43.out hc)).at_ hat2 HWN.out.2);clear hat hat2;go_upto_region 5 with fail
   have HSS:Hid (∀ q,(q=K.P∨(Value.slice (some ⟨g1,0,none⟩) [a2].length 1).ownBlock=some q)→q≠N):=zz (fun q hq e=>by
    rcases hq with hq | hq
    · have:=HS.out.ord; have:=HWN.out.2; omega
    · exact HN6.out.ne q hq e)
   have p12:∀ u:KS (fun q=>q=K.P∨(Value.slice (some ⟨g1,0,none⟩) [a2].length 1).ownBlock=some q) w6,u.W.cell? ⟨N,12,none⟩=some (.slice (some ⟨g1,0,none⟩) [a2].length 1):=fun u=>u.cell (HN6.out.c (j:=12) rfl) (fun e=>HSS.out N e rfl)
   have hne:Nonempty (KS (fun q=>q=K.P∨(Value.slice (some ⟨g1,0,none⟩) [a2].length 1).ownBlock=some q) w6):=⟨⟨w6,Keeps.refl _ _⟩⟩;refine Mix.wp_region_mix (fun W'=>∃ u:KS (fun q=>q=K.P∨(Value.slice (some ⟨g1,0,none⟩) [a2].length 1).ownBlock=some q) w6,W'=u.W) [11] (by kernel_rfl) ?_;have HV0:Hid (Keeps No w6 w6.drew):=zz ((Keeps.refl _ w6).drew);generalize w6.drew=v0 at HV0 ⊢;have HC0:Hid (Keeps (fun q=>q=K.P∨(Value.slice (some ⟨g1,0,none⟩) [a2].length 1).ownBlock=some q) w6 v0):=zz (HV0.out.mono (fun _ _ e=>e.elim));have HAV0:=zz (HA6.out.no HV0.out);have HGV0:=zz (HN6.out.no HV0.out);have HKV0:=zz (fun hc=>(HH6.out hc).no HV0.out);refine Mix.mix_seg 0 6 6 (by kernel_rfl) (by kernel_rfl) rfl rfl ⟨⟨v0,HC0.out⟩,rfl⟩ ?_;simp only [zp1,zp2,zp3,zp4]
   repeat (go_big_quiet_step (fail))
   refine wpQuiet_nil ?_;clear p12;refine Mix.mix_one 6 5 (by kernel_rfl) rfl rfl ?_;simp only [zp1,zp2,zp3,zp4];go_wp2_with fail;refine (HY.out v0 HAV0.out.p).mono ?_;rintro e' v1 ⟨a4,rfl,hat,hex⟩;have HC1:Hid (Keeps (fun q=>q=K.P∨(Value.slice (some ⟨g1,0,none⟩) [a2].length 1).ownBlock=some q) w6 v1):=zz (HC0.out.trans hat.k (fun q _ e=>.inl e));have HAV1:=zz (HAV0.out.trans hat);have HGV1:=zz (HGV0.out.at_ hat HWN.out.2);have HKV1:=zz (fun (hc:σ5.code=0)=>(HKV0.out (HC54.out hc)).at_ hat HWN.out.2);have HDV1:Hid (σ5.code=0→SmD v1 (Dc N N (.slice (some ⟨g1,0,none⟩) [a2].length 1)) a4 s2):=zz (fun hc=>SmD.mono (hex hc) (fun q _ hd=>⟨by have h5:v0.heap.size≤q:=hd; have:=HGV0.out.lt; omega,fun e=>by have h5:v0.heap.size≤q:=hd; have:=HGV0.out.lt; omega,fun e=>by have h5:v0.heap.size≤q:=hd; have:=own_ltb HGV0.out.own e; omega⟩));clear hat hex;go_wp2_with fail;refine ⟨.inr ⟨⟨v1,HC1.out⟩,rfl⟩,?_⟩;refine Mix.mix_one 7 4 (by kernel_rfl) rfl rfl ?_;simp only [zp1,zp2,zp3,zp4];go_wp2_with fail;have hk12:Keeps No v1 (v1.alloc (.cells #[.pointer a4] 93)):=(Keeps.refl _ _).alloc _;have hq2:(v1.alloc (.cells #[.pointer a4] 93)).heap[v1.heap.size]?=some (.cells #[.pointer a4] 93 (0,0)):=heap_alloc_new _ _;generalize v1.alloc (.cells #[.pointer a4] 93)=v2 at hk12 hq2 ⊢;have HC2:Hid (Keeps (fun q=>q=K.P∨(Value.slice (some ⟨g1,0,none⟩) [a2].length 1).ownBlock=some q) w6 v2):=zz (HC1.out.trans hk12 (fun q _ e=>e.elim));have HAV2:=zz (HAV1.out.no hk12);have HGV2:=zz (HGV1.out.no hk12);have HKV2:=zz (fun (hc:σ5.code=0)=>(HKV1.out hc).no hk12);have HDV2:=zz (fun (hc:σ5.code=0)=>(HDV1.out hc).keep hk12 (fun _ e=>e.elim));have HQ2:=zz hq2;clear hk12 hq2;refine ⟨.inr ⟨⟨v2,HC2.out⟩,rfl⟩,?_⟩;refine Mix.mix_one 8 3 (by kernel_rfl) rfl rfl ?_;simp only [zp1,zp2,zp3,zp4];go_wp2_with (at_builtin; refine wpList_appS _ rfl (.tmp 27) (.tmp 30) rfl N (.slice (some ⟨g1,0,none⟩) [a2].length 1) [a2].length (ptrs [a2]) a4 v1.heap.size rfl HGV2.out.own rfl HQ2.out (by simp) (Nat.le_of_lt HGV2.out.lt) ?_);intro g' cap' v3 ho3 hg3 hgo;have hk23:Keeps (fun q=>(Value.slice (some ⟨g1,0,none⟩) [a2].length 1).ownBlock=some q) v2 v3:=(Keeps.refl _ _).grown hg3 (fun q e=>.inl e);have HC3:Hid (Keeps (fun q=>q=K.P∨(Value.slice (some ⟨g1,0,none⟩) [a2].length 1).ownBlock=some q) w6 v3):=zz (HC2.out.trans hk23 (fun q _ e=>.inr e));have hn3:v3.heap[N]?=some (.cells _ _ (0,0)):=(hk23.block _ HGV2.out.lt (fun e=>HGV2.out.ne N e rfl)).trans HGV2.out.row;have y12:v3.cell? ⟨N,12,none⟩=some (.slice (some ⟨g1,0,none⟩) [a2].length 1):=by rw [cell_of_row v3 N 12 _ _ _ hn3]; rfl
   have z12:v3.frozen? ⟨N,12,none⟩=false:=frozen_of_row v3 N 12 _ _ hn3;have HGO:Hid (∀ W,W=v3.setCell ⟨N,12,none⟩ (.slice (some ⟨g',0,none⟩) ([a2].length+1) cap')→At w W K σ5∧Nod W N N 4 Sy.vr0 Sy.nt false 0 a1 none none (some ⟨g',0,none⟩) cap' ([a2]++[a4])∧(σ5.code=0→Hung W N N a1 none none (some e1) none none (some ⟨g',0,none⟩) cap' ([a2]++[a4]) ([s1]++[s2]))):=zz (fun W hW=>by
    subst hW;have hks:Keeps (fun q=>q=N) v3 (v3.setCell ⟨N,12,none⟩ (.slice (some ⟨g',0,none⟩) ([a2].length+1) cap')):=(Keeps.refl (fun q=>q=N) v3).setCell (.inl rfl) _;refine ⟨⟨(HAV2.out.p.keepR hk23 (fun q e=>Nat.le_trans HWN.out.2 (own_lo HGV2.out.own q e))).keepR hks (fun q e=>by subst e; exact HWN.out.2),(HAV2.out.k.trans hk23 (fun q hq e=>by have:=own_lo HGV2.out.own q e; exact absurd hq (by have:=HWN.out.1; omega))).trans hks (fun q hq e=>by subst e; exact absurd hq (by have:=HWN.out.1; omega))⟩,HGV2.out.push hk23 ho3 hgo,fun hc=>(HKV2.out hc).push hk23 hgo (HDV2.out hc)⟩)
   clear ho3 hg3 hgo hk23 hn3;go_wp2_with fail;refine ⟨.inr ⟨⟨v3,HC3.out⟩,rfl⟩,?_⟩;refine Mix.mix_one 9 2 (by kernel_rfl) rfl rfl ?_;simp only [zp1,zp2,zp3,zp4];go_wp2_with fail;refine ⟨.inr ⟨⟨v3,HC3.out⟩,rfl⟩,?_⟩;refine Mix.mix_one 10 1 (by kernel_rfl) rfl rfl ?_;simp only [zp1,zp2,zp3,zp4];go_wp2_with fail;refine ⟨.inr ⟨⟨v3,HC3.out⟩,rfl⟩,?_⟩;refine Mix.mix_one 11 0 (by kernel_rfl) rfl rfl ?_;simp only [zp1,zp2,zp3,zp4];go_wp2_with fail;have hgo:=HGO.out _ rfl;generalize v3.setCell ⟨N,12,none⟩ (.slice (some ⟨g',0,none⟩) ([a2].length+1) cap')=w7 at hgo ⊢;have HA7:=zz hgo.1;have HN7:=zz hgo.2.1;have HH7:=zz hgo.2.2;clear hgo y12 z12 hne;refine ⟨.inl ⟨rfl,rfl⟩,?_⟩;refine Mix.mix_end (by kernel_rfl) ?_;go_wp2_with fail;go_returns;exact ⟨rfl,HA7.out,fun hc=>HN7.out.fin (HH7.out hc)⟩
end Go.Proofs.YtjgkacggjhobmaaGreatDoor
