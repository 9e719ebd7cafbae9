import Derived.Test.YtjgkacggjhobmaaGreatDoorLyPkI
import Derived.Test.YtjgkacggjhobmaaGreatDoorLyPkJ
import Derived.Test.YtjgkacggjhobmaaGreatDoorLyPkF
import Derived.Test.YtjgkacggjhobmaaGreatDoorLyPkB
import Derived.Lib.Builder
import Derived.Lib.AppendStr
import Derived.Lib.UnsafeStr
import Derived.Laws.Externs
import Derived.Laws.AppendOwn
import Derived.Shelf.Strings.Builder1
import Derived.Shelf.Strings.Builder2
import Derived.Shelf.Strconv.Itoa0
import Derived.Shelf.Strconv.Itoa1
import Derived.Shelf.LaysM
import Derived.Shelf.Strconv.Itoa2
import Derived.Shelf.Strings.Repeat
import Derived.Test.YtjgkacggjhobmaaGreatDoorProg
set_option maxRecDepth 100000
set_option maxHeartbeats 25600000
set_option linter.unusedSimpArgs false
set_option linter.unusedVariables false
namespace Go.Proofs.YtjgkacggjhobmaaGreatDoor
open Go.RowKit Lx
theorem map_cell {w:World} {b:Nat} {l:List ByteArray} (h:Names w b l) (j:Nat):w.cell? ⟨b,j,none⟩=none:=by
 obtain ⟨al,h1,_⟩:=h.ex;obtain ⟨n,D,h2,_⟩:=h1.ex;obtain ⟨es,clock,h3,_⟩:=h2;unfold World.cell?; simp only; rw [h3]
theorem At.defined {a w w':World} {K:Pk} {σ:Sy.St} {n:ByteArray} (h:At a w K σ) (hk:Keeps (fun q=>q=K.MB) w w') (hn:Names w' K.MB (n::σ.types)):AtI a w' K { σ with types:=n::σ.types } :=
 ⟨⟨(hk.block _ h.p.lt (fun e=>h.p.ord.1 e)).trans h.p.row,fun i t hi=>by
  obtain ⟨g,h1,h0,h2⟩:=h.p.toks i t hi;refine ⟨g,h1,h0,fun j v hj=>hk.cell (h2 j v hj) (fun e=>?_)⟩;have e2:g=K.MB:=e;subst e2;have:=h2 j v hj;rw [map_cell h.p.names] at this;exact (nomatch this),hn,h.p.le,h.p.len,h.p.en,h.p.tx,h.p.ord.1,h.p.ord.2.1,h.p.ord.2.2.1,Nat.le_trans h.p.ord.2.2.2 hk.size⟩,(h.k.mono (T:=KPM K) (fun _ _ e=>.inl e)).trans hk (fun q _ e=>.inr e)⟩
theorem typedef_any (K:Pk) (σ σ0:Sy.St) (w wc:World) (N:Nat) (at_:Int) (h0:PS w K σ0) (h:At w wc K σ) (hN:w.heap.size≤N)
    (hn:wc.heap[N]?=some (.cells (itRow 0 at_ Sy.vr0 nil nil none none nil false) 97 (0,0))) (hi:σ.at_ < K.C.T.length) (hT:σ.types.length≤1000000) :
    FillI K w wc N 43 (Sy.typedefM K.C (Sy.it0 at_) σ):=by
 have hle:=h.p.le;have HS:=zz h0;have HA0:=zz h;have HWN:Hid (w.heap.size≤N∧K.B≤N):=zz ⟨hN,Nat.le_trans h0.ord.2.2.2 hN⟩;have HN0:Hid (IM wc N (itRow 0 at_ Sy.vr0 nil nil none none nil false) 56 2 nil 0 []):=zz (IM.bare hn);have hlen:=h0.len;have hr1:=rem_next hi;obtain ⟨σ1,h1⟩:∃ x,Sy.nextM K.C σ=x:=⟨_,rfl⟩;have hm1:Sy.Mo K.C σ σ1:=by rw [← h1]; exact (Sy.Mo.refl hle).next
 have HNX:=zz (fun W (hs:PS W K σ)=>next_any K σ W hs);rw [h1] at HNX hr1;have HTY:=zz (fun W (hs:PS W K σ1)=>typ_any K σ1 W hs);obtain ⟨r2,h2⟩:∃ x,Sy.typM K.C σ1=x:=⟨_,rfl⟩;have hm2:Sy.Mo K.C σ1 r2.2:=by rw [← h2]; exact (Sy.Mo.refl hm1.le).typ
 rw [h2] at HTY;obtain ⟨⟨tb,ts⟩,σ2⟩:=r2;simp only at hm2 HTY;have HNA:=zz (fun W (hs:PS W K σ2)=>name_any K σ2 W hs);have HNZ:Hid (∀ W,PS W K σ2→(Sy.nameM K.C σ2).1.size≤1000000):=zz (fun W hs=>name_size hs);obtain ⟨r3,h3⟩:∃ x,Sy.nameM K.C σ2=x:=⟨_,rfl⟩;have hm3:Sy.Mo K.C σ2 r3.2:=by rw [← h3]; exact (Sy.Mo.refl hm2.le).name
 rw [h3] at HNA HNZ;obtain ⟨nm,σ3⟩:=r3;simp only at hm3 HNA HNZ;have HW:=zz (fun W (hs:PS W K σ3)=>want_any K σ3 ⟨#[40]⟩ W hs);obtain ⟨τ,h4⟩:∃ x,Sy.wantM K.C σ3 ⟨#[40]⟩=x:=⟨_,rfl⟩;have hm4:Sy.Mo K.C σ3 τ:=by rw [← h4]; exact (Sy.Mo.refl hm3.le).want _
 rw [h4] at HW;have hr2:=rem_mo hm2;have hr3:=rem_mo hm3;have hr4:=rem_mo hm4;have hrs:rem K σ≤K.C.T.length:=by unfold rem; omega
 have hmt:Sy.Mo K.C σ τ:=((hm1.trans hm2).trans hm3).trans hm4;obtain ⟨b1,hb1⟩:∃ b,Sy.isM K.C τ ⟨#[41]⟩=b:=⟨_,rfl⟩;have HT1:=zz (fun W (hs:PS W K τ)=>take_any K τ ⟨#[41]⟩ b1 hb1 W hs);unfold FillI;cases b1 with
 | true =>
   obtain ⟨σ5,h5⟩:∃ x,Sy.nextM K.C τ=x:=⟨_,rfl⟩;have hm5:Sy.Mo K.C τ σ5:=by rw [← h5]; exact (Sy.Mo.refl hmt.le).next
   rw [h5] at HT1;have HWE:=zz (fun W (hs:PS W K σ5)=>want_any K σ5 ⟨#[59]⟩ W hs);obtain ⟨σ6,h6⟩:∃ x,Sy.wantM K.C σ5 ⟨#[59]⟩=x:=⟨_,rfl⟩;have hm6:Sy.Mo K.C σ5 σ6:=by rw [← h6]; exact (Sy.Mo.refl hm5.le).want _
   rw [h6] at HWE;have HM:Hid (Sy.typedefM K.C (Sy.it0 at_) σ=(⟨2,at_,⟨nm,⟨tb,ts⟩,false,0⟩,[],[],none,none,[],false⟩,{ σ6 with types:=nm::σ6.types })):=zz (by
    unfold Sy.typedefM Sy.it0; simp only [h1,h2,h3,h4,hb1,h5,h6,if_true]; rfl)
   have HTL:Hid (σ6.types.length≤1000000):=zz (by rw [hm6.ty,hm5.ty,hmt.ty]; exact hT);clear h0 h hN hn hi hle hr1 h1 hm1 h2 hm2 h3 hm3 h4 hm4 hr2 hr3 hr4 hrs hmt hb1 h5 hm5 h6 hm6 hlen hT;go_enter Tryz.func43,Tryz.ntmps43;have yc:wc.cell? ⟨N,0,none⟩=some (.int .i64 0):=HN0.out.c (j:=0) rfl;have zc:wc.frozen? ⟨N,0,none⟩=false:=HN0.out.f 0;go_upto_region 1 with fail
   have HA1:=zz (HA0.out.newR HS.out ((Keeps.refl (fun q=>q=N) wc).setCell (p:=⟨N,0,none⟩) (.inl rfl) (.int .i64 2)) HWN.out.1);have HG1:=zz (HN0.out.setc (r':=itRow 2 at_ Sy.vr0 nil nil none none nil false) 0 (.int .i64 2) rfl);generalize wc.setCell ⟨N,0,none⟩ (.int .i64 2)=w1 at HA1 HG1 ⊢;clear yc zc;go_wp2_with fail;refine (HNX.out w1 HA1.out.p).mono ?_;rintro e w2 ⟨rfl,hat⟩;have HA2:=zz (HA1.out.trans hat);have HG2:=zz (HG1.out.at_ hat HWN.out.2);clear hat;go_wp2_with fail;refine (HTY.out w2 HA2.out.p).mono ?_;rintro e w3 ⟨rfl,hat⟩;have HA3:=zz (HA2.out.trans hat);have HG3:=zz (HG2.out.at_ hat HWN.out.2);clear hat;have y3:w3.cell? ⟨N,3,none⟩=some (.string ⟨#[]⟩):=HG3.out.c (j:=3) rfl;have z3:w3.frozen? ⟨N,3,none⟩=false:=HG3.out.f 3;have y4:w3.cell? ⟨N,4,none⟩=some (.int .i64 0):=HG3.out.c (j:=4) rfl;have z4:w3.frozen? ⟨N,4,none⟩=false:=HG3.out.f 4;go_upto_region 3 with fail
   have HA4:=zz ((HA3.out.newR HS.out ((Keeps.refl (fun q=>q=N) w3).setCell (p:=⟨N,3,none⟩) (.inl rfl) (.string tb)) HWN.out.1).newR HS.out ((Keeps.refl (fun q=>q=N) _).setCell (p:=⟨N,4,none⟩) (.inl rfl) (.int .i64 ts)) HWN.out.1);have HG4:=zz ((HG3.out.setc (r':=itRow 2 at_ ⟨Sy.nt,⟨tb,0⟩,false,0⟩ nil nil none none nil false) 3 (.string tb) rfl).setc (r':=itRow 2 at_ ⟨Sy.nt,⟨tb,ts⟩,false,0⟩ nil nil none none nil false) 4 (.int .i64 ts) rfl);generalize (w3.setCell ⟨N,3,none⟩ (.string tb)).setCell ⟨N,4,none⟩ (.int .i64 ts)=w4 at HA4 HG4 ⊢;clear y3 z3 y4 z4;go_wp2_with fail;refine (HNA.out w4 HA4.out.p).mono ?_;rintro e w5 ⟨rfl,hat⟩;have HA5:=zz (HA4.out.trans hat);have HG5:=zz (HG4.out.at_ hat HWN.out.2);have HNS:Hid (nm.size≤maxLen):=zz (by have:=HNZ.out w4 HA4.out.p; unfold maxLen; omega);clear hat;have yc:w5.cell? ⟨N,2,none⟩=some (.string Sy.nt):=HG5.out.c (j:=2) rfl;have zc:w5.frozen? ⟨N,2,none⟩=false:=HG5.out.f 2;go_upto_region 4 with fail
   have HA6:=zz (HA5.out.newR HS.out ((Keeps.refl (fun q=>q=N) w5).setCell (p:=⟨N,2,none⟩) (.inl rfl) (.string nm)) HWN.out.1);have HG6:=zz (HG5.out.setc (r':=itRow 2 at_ ⟨nm,⟨tb,ts⟩,false,0⟩ nil nil none none nil false) 2 (.string nm) rfl);generalize w5.setCell ⟨N,2,none⟩ (.string nm)=w6 at HA6 HG6 ⊢;clear yc zc;go_wp2_with fail;refine (HW.out w6 HA6.out.p).mono ?_;rintro e w7 ⟨rfl,hat⟩;have HA7:=zz (HA6.out.trans hat);have HG7:=zz (HG6.out.at_ hat HWN.out.2);clear hat;go_wp2_with fail;refine (HT1.out w7 HA7.out.p).mono ?_;rintro e w8 ⟨rfl,hat⟩;have hat2:At w7 w8 K σ5:=hat;have HA8:=zz (HA7.out.trans hat2);have HG8:=zz (HG7.out.at_ hat2 HWN.out.2);clear hat hat2;go_wp2_with fail;refine (HWE.out w8 HA8.out.p).mono ?_;rintro e' x1 ⟨rfl,hat⟩;have HB1:=zz (HA8.out.trans hat);have HI1:=zz (HG8.out.at_ hat HWN.out.2);clear hat;go_upto_region 11 with fail
   have pm:∀ u:KW x1,u.W.cell? ⟨K.P,3,none⟩=some (.map (some K.MB)):=fun u=>u.cell (HB1.out.p.c (j:=3) rfl)
   have pn:∀ u:KW x1,u.W.cell? ⟨N,2,none⟩=some (.string nm):=fun u=>u.cell (HI1.out.c (j:=2) rfl)
   have hne:Nonempty (KW x1):=⟨KW.of _⟩;refine Mix.wp_region_mix (fun W'=>∃ u:KW x1,W'=u.W) [9] (by kernel_rfl) ?_;have HV0:Hid (Keeps No x1 x1.drew):=zz ((Keeps.refl _ x1).drew);generalize x1.drew=v0 at HV0 ⊢;have HB2:=zz (HB1.out.no HV0.out);have HI2:=zz (HI1.out.no HV0.out);refine Mix.mix_seg 0 9 1 (by kernel_rfl) (by kernel_rfl) rfl rfl ⟨⟨v0,HV0.out⟩,rfl⟩ ?_;simp only [zp1,zp2,zp3,zp4]
   repeat (go_big_quiet_step (fail))
   refine wpQuiet_nil ?_;clear pm pn;obtain ⟨v1,hrun,hnm,htu⟩:=HB2.out.p.names.put (k:=nm) (by have:=HTL.out; unfold maxLen; omega) HNS.out;have hk1:Keeps (fun q=>q=K.MB) v0 v1:=⟨htu.grown.os,htu.grown.tape,htu.grown.output,htu.grown.size,fun k hk hn=>htu.grown.block k hk (fun e=>hn (by injection e))⟩;have HB3:=zz (HB2.out.defined hk1 hnm);have HI3:=zz (HI2.out.newR hk1 (by have:=HB2.out.p.ord; have:=HWN.out.2; omega) (fun e=>by have:=own_lo HI2.out.own _ e; have:=HB2.out.p.ord; have:=HWN.out.2; omega));clear hk1 hnm htu;refine Mix.mix_one 9 0 (by kernel_rfl) rfl rfl ?_;simp only [zp1,zp2,zp3,zp4];go_wp2_with fail;refine ⟨.inl ⟨rfl,rfl⟩,?_⟩;refine Mix.mix_end (by kernel_rfl) ?_;clear hrun hne;have HX3:=zz (IM.fin_types (vs:=[]) (n:=0) (a:=none) (c:=0) HI3.out rfl);go_wp2_with fail;go_returns;rw [HM.out];exact ⟨rfl,HB3.out,fun _=>HX3.out⟩
 | false =>
   have HPA:=zz (fun W (hs:PS W K τ)=>typ_any K τ W hs);obtain ⟨r5,h5⟩:∃ x,Sy.typM K.C τ=x:=⟨_,rfl⟩;have hm5:Sy.Mo K.C τ r5.2:=by rw [← h5]; exact (Sy.Mo.refl hmt.le).typ
   rw [h5] at HPA;obtain ⟨y1,σ5⟩:=r5;simp only at hm5 HPA;have hr5:=rem_mo hm5;have hmL:Sy.Mo K.C σ5 (Sy.typesM K.C K.C.T.length σ5 [y1]).2:=Sy.Mo.types _ _ _ (Sy.Mo.refl hm5.le);obtain ⟨rL,hL⟩:∃ x,Sy.typesM K.C K.C.T.length σ5 [y1]=x:=⟨_,rfl⟩;rw [hL] at hmL;obtain ⟨vL,σL⟩:=rL;simp only at hmL;have HWL:=zz (fun W (hs:PS W K σL)=>want_any K σL ⟨#[41]⟩ W hs);obtain ⟨σ7,h7⟩:∃ x,Sy.wantM K.C σL ⟨#[41]⟩=x:=⟨_,rfl⟩;have hm7:Sy.Mo K.C σL σ7:=by rw [← h7]; exact (Sy.Mo.refl hmL.le).want _
   rw [h7] at HWL;have HWE:=zz (fun W (hs:PS W K σ7)=>want_any K σ7 ⟨#[59]⟩ W hs);obtain ⟨σ6,h6⟩:∃ x,Sy.wantM K.C σ7 ⟨#[59]⟩=x:=⟨_,rfl⟩;have hm6:Sy.Mo K.C σ7 σ6:=by rw [← h6]; exact (Sy.Mo.refl hm7.le).want _
   rw [h6] at HWE;have HM:Hid (Sy.typedefM K.C (Sy.it0 at_) σ=(⟨2,at_,⟨nm,⟨tb,ts⟩,false,0⟩,[],vL,none,none,[],false⟩,{ σ6 with types:=nm::σ6.types })):=zz (by
    unfold Sy.typedefM Sy.it0; simp only [h1,h2,h3,h4,hb1,h5,hL,h7,h6,if_neg (show ¬ (false=true) by decide)]; rfl)
   have HL:Hid (rem K σ5+1≤K.C.T.length∧K.C.T.length≤6000∧Sy.typesM K.C K.C.T.length σ5 [y1]=(vL,σL)):=zz ⟨by omega,hlen,hL⟩;have HTL:Hid (σ6.types.length≤1000000):=zz (by rw [hm6.ty,hm7.ty,hmL.ty,hm5.ty,hmt.ty]; exact hT);clear h0 h hN hn hi hle hr1 h1 hm1 h2 hm2 h3 hm3 h4 hm4 hr2 hr3 hr4 hrs hmt hb1 h5 hm5 hr5 hmL hL h7 hm7 h6 hm6 hlen hT;go_enter Tryz.func43,Tryz.ntmps43;have yc:wc.cell? ⟨N,0,none⟩=some (.int .i64 0):=HN0.out.c (j:=0) rfl;have zc:wc.frozen? ⟨N,0,none⟩=false:=HN0.out.f 0;go_upto_region 1 with fail
   have HA1:=zz (HA0.out.newR HS.out ((Keeps.refl (fun q=>q=N) wc).setCell (p:=⟨N,0,none⟩) (.inl rfl) (.int .i64 2)) HWN.out.1);have HG1:=zz (HN0.out.setc (r':=itRow 2 at_ Sy.vr0 nil nil none none nil false) 0 (.int .i64 2) rfl);generalize wc.setCell ⟨N,0,none⟩ (.int .i64 2)=w1 at HA1 HG1 ⊢;clear yc zc;go_wp2_with fail;refine (HNX.out w1 HA1.out.p).mono ?_;rintro e w2 ⟨rfl,hat⟩;have HA2:=zz (HA1.out.trans hat);have HG2:=zz (HG1.out.at_ hat HWN.out.2);clear hat;go_wp2_with fail;refine (HTY.out w2 HA2.out.p).mono ?_;rintro e w3 ⟨rfl,hat⟩;have HA3:=zz (HA2.out.trans hat);have HG3:=zz (HG2.out.at_ hat HWN.out.2);clear hat;have y3:w3.cell? ⟨N,3,none⟩=some (.string ⟨#[]⟩):=HG3.out.c (j:=3) rfl;have z3:w3.frozen? ⟨N,3,none⟩=false:=HG3.out.f 3;have y4:w3.cell? ⟨N,4,none⟩=some (.int .i64 0):=HG3.out.c (j:=4) rfl;have z4:w3.frozen? ⟨N,4,none⟩=false:=HG3.out.f 4;go_upto_region 3 with fail
   have HA4:=zz ((HA3.out.newR HS.out ((Keeps.refl (fun q=>q=N) w3).setCell (p:=⟨N,3,none⟩) (.inl rfl) (.string tb)) HWN.out.1).newR HS.out ((Keeps.refl (fun q=>q=N) _).setCell (p:=⟨N,4,none⟩) (.inl rfl) (.int .i64 ts)) HWN.out.1);have HG4:=zz ((HG3.out.setc (r':=itRow 2 at_ ⟨Sy.nt,⟨tb,0⟩,false,0⟩ nil nil none none nil false) 3 (.string tb) rfl).setc (r':=itRow 2 at_ ⟨Sy.nt,⟨tb,ts⟩,false,0⟩ nil nil none none nil false) 4 (.int .i64 ts) rfl);generalize (w3.setCell ⟨N,3,none⟩ (.string tb)).setCell ⟨N,4,none⟩ (.int .i64 ts)=w4 at HA4 HG4 ⊢;clear y3 z3 y4 z4;go_wp2_with fail;refine (HNA.out w4 HA4.out.p).mono ?_;rintro e w5 ⟨rfl,hat⟩;have HA5:=zz (HA4.out.trans hat);have HG5:=zz (HG4.out.at_ hat HWN.out.2);have HNS:Hid (nm.size≤maxLen):=zz (by have:=HNZ.out w4 HA4.out.p; unfold maxLen; omega);clear hat;have yc:w5.cell? ⟨N,2,none⟩=some (.string Sy.nt):=HG5.out.c (j:=2) rfl;have zc:w5.frozen? ⟨N,2,none⟩=false:=HG5.out.f 2;go_upto_region 4 with fail
   have HA6:=zz (HA5.out.newR HS.out ((Keeps.refl (fun q=>q=N) w5).setCell (p:=⟨N,2,none⟩) (.inl rfl) (.string nm)) HWN.out.1);have HG6:=zz (HG5.out.setc (r':=itRow 2 at_ ⟨nm,⟨tb,ts⟩,false,0⟩ nil nil none none nil false) 2 (.string nm) rfl);generalize w5.setCell ⟨N,2,none⟩ (.string nm)=w6 at HA6 HG6 ⊢;clear yc zc;go_wp2_with fail;refine (HW.out w6 HA6.out.p).mono ?_;rintro e w7 ⟨rfl,hat⟩;have HA7:=zz (HA6.out.trans hat);have HG7:=zz (HG6.out.at_ hat HWN.out.2);clear hat;go_wp2_with fail;refine (HT1.out w7 HA7.out.p).mono ?_;rintro e w8 ⟨rfl,hat⟩;have hat2:At w7 w8 K τ:=hat;have HA8:=zz (HA7.out.trans hat2);have HG8:=zz (HG7.out.at_ hat2 HWN.out.2);clear hat hat2;go_upto_region 6 with fail
   have HSS:Hid (∀ q,(q=K.P∨(Value.slice none 0 0).ownBlock=some q)→q≠N):=zz (fun q hq e=>by
    rcases hq with hq | hq
    · have:=HS.out.ord; have:=HWN.out.2; omega
    · exact HG8.out.ne q hq e)
   have pj:∀ u:KS (fun q=>q=K.P∨(Value.slice none 0 0).ownBlock=some q) w8,u.W.cell? ⟨N,8,none⟩=some (.slice none 0 0):=fun u=>u.cell (HG8.out.c (j:=8) rfl) (fun e=>HSS.out N e rfl)
   have hne:Nonempty (KS (fun q=>q=K.P∨(Value.slice none 0 0).ownBlock=some q) w8):=⟨⟨w8,Keeps.refl _ _⟩⟩;refine Mix.wp_region_mix (fun W'=>∃ u:KS (fun q=>q=K.P∨(Value.slice none 0 0).ownBlock=some q) w8,W'=u.W) [11] (by kernel_rfl) ?_;have HV0:Hid (Keeps No w8 w8.drew):=zz ((Keeps.refl _ w8).drew);generalize w8.drew=v0 at HV0 ⊢;have HC0:Hid (Keeps (fun q=>q=K.P∨(Value.slice none 0 0).ownBlock=some q) w8 v0):=zz (HV0.out.mono (fun _ _ e=>e.elim));have HAV0:=zz (HA8.out.no HV0.out);have HGV0:=zz (HG8.out.no HV0.out);refine Mix.mix_seg 0 6 6 (by kernel_rfl) (by kernel_rfl) rfl rfl ⟨⟨v0,HC0.out⟩,rfl⟩ ?_;simp only [zp1,zp2,zp3,zp4]
   repeat (go_big_quiet_step (fail))
   refine wpQuiet_nil ?_;clear pj;refine Mix.mix_one 6 5 (by kernel_rfl) rfl rfl ?_;simp only [zp1,zp2,zp3,zp4];go_wp2_with fail;refine (HPA.out v0 HAV0.out.p).mono ?_;rintro e' v1 ⟨rfl,hat⟩;have HC1:Hid (Keeps (fun q=>q=K.P∨(Value.slice none 0 0).ownBlock=some q) w8 v1):=zz (HC0.out.trans hat.k (fun q _ e=>.inl e));have HAV1:=zz (HAV0.out.trans hat);have HGV1:=zz (HGV0.out.at_ hat HWN.out.2);clear hat;go_wp2_with fail;refine ⟨.inr ⟨⟨v1,HC1.out⟩,rfl⟩,?_⟩;refine Mix.mix_one 7 4 (by kernel_rfl) rfl rfl ?_;simp only [zp1,zp2,zp3,zp4];go_wp2_with fail;have hk12:Keeps No v1 (v1.alloc (.cells #[.string y1.base,.int .i64 y1.stars] 56)):=(Keeps.refl _ _).alloc _;have hq2:(v1.alloc (.cells #[.string y1.base,.int .i64 y1.stars] 56)).heap[v1.heap.size]?=some (.cells #[.string y1.base,.int .i64 y1.stars] 56 (0,0)):=heap_alloc_new _ _;generalize v1.alloc (.cells #[.string y1.base,.int .i64 y1.stars] 56)=v2 at hk12 hq2 ⊢;have HC2:Hid (Keeps (fun q=>q=K.P∨(Value.slice none 0 0).ownBlock=some q) w8 v2):=zz (HC1.out.trans hk12 (fun q _ e=>e.elim));have HAV2:=zz (HAV1.out.no hk12);have HGV2:=zz (HGV1.out.no hk12);have HQ2:=zz hq2;clear hk12 hq2;refine ⟨.inr ⟨⟨v2,HC2.out⟩,rfl⟩,?_⟩;refine Mix.mix_one 8 3 (by kernel_rfl) rfl rfl ?_;simp only [zp1,zp2,zp3,zp4];go_wp2_with (at_builtin; refine wpList_appT _ rfl (.tmp 30) (.tmp 33) 92 rfl Tryz.underlying92 N (.slice none 0 0) 0 [] y1 v1.heap.size rfl HGV2.out.own rfl HQ2.out (by omega) (Nat.le_of_lt HGV2.out.lt) ?_);intro g' cap' v3 ho3 hg3 hgo;have hk23:Keeps (fun q=>(Value.slice none 0 0).ownBlock=some q) v2 v3:=(Keeps.refl _ _).grown hg3 (fun q e=>.inl e);have HC3:Hid (Keeps (fun q=>q=K.P∨(Value.slice none 0 0).ownBlock=some q) w8 v3):=zz (HC2.out.trans hk23 (fun q _ e=>.inr e));have hn3:v3.heap[N]?=some (.cells _ _ (0,0)):=(hk23.block _ HGV2.out.lt (fun e=>HGV2.out.ne N e rfl)).trans HGV2.out.row;have yj:v3.cell? ⟨N,8,none⟩=some (.slice none 0 0):=by rw [cell_of_row v3 N 8 _ _ _ hn3]; rfl
   have zj:v3.frozen? ⟨N,8,none⟩=false:=frozen_of_row v3 N 8 _ _ hn3;have HGO:Hid (∀ W,W=v3.setCell ⟨N,8,none⟩ (.slice (some ⟨g',0,none⟩) (0+1) cap')→At w W K σ5∧IM W N (itRow 2 at_ ⟨nm,⟨tb,ts⟩,false,0⟩ nil (.slice (some ⟨g',0,none⟩) (0+1) cap') none none nil false) 56 2 (.slice (some ⟨g',0,none⟩) (0+1) cap') (0+1) (([]++[y1]).flatMap tyVals)):=zz (fun W hW=>by
    subst hW;have hks:Keeps (fun q=>q=N) v3 (v3.setCell ⟨N,8,none⟩ (.slice (some ⟨g',0,none⟩) (0+1) cap')):=(Keeps.refl (fun q=>q=N) v3).setCell (.inl rfl) _;refine ⟨⟨(HAV2.out.p.keepR hk23 (fun q e=>Nat.le_trans HWN.out.2 (own_lo HGV2.out.own q e))).keepR hks (fun q e=>by subst e; exact HWN.out.2),(HAV2.out.k.trans hk23 (fun q hq e=>by have:=own_lo HGV2.out.own q e; exact absurd hq (by have:=HWN.out.1; omega))).trans hks (fun q hq e=>by subst e; exact absurd hq (by have:=HWN.out.1; omega))⟩,HGV2.out.push hk23 (by have e:=ho3; simp only [List.flatMap_append,List.flatMap_cons,List.flatMap_nil,List.append_nil] at e ⊢; exact e) hgo 8 rfl⟩)
   clear ho3 hg3 hgo hk23 hn3;go_wp2_with fail;refine ⟨.inr ⟨⟨v3,HC3.out⟩,rfl⟩,?_⟩;refine Mix.mix_one 9 2 (by kernel_rfl) rfl rfl ?_;simp only [zp1,zp2,zp3,zp4];go_wp2_with fail;refine ⟨.inr ⟨⟨v3,HC3.out⟩,rfl⟩,?_⟩;refine Mix.mix_one 10 1 (by kernel_rfl) rfl rfl ?_;simp only [zp1,zp2,zp3,zp4];go_wp2_with fail;refine ⟨.inr ⟨⟨v3,HC3.out⟩,rfl⟩,?_⟩;refine Mix.mix_one 11 0 (by kernel_rfl) rfl rfl ?_;simp only [zp1,zp2,zp3,zp4];go_wp2_with fail;have hgo:=HGO.out _ rfl;generalize v3.setCell ⟨N,8,none⟩ (.slice (some ⟨g',0,none⟩) (0+1) cap')=w9 at hgo ⊢;have HA4a:=zz hgo.1;have HG4a:=zz hgo.2;clear hgo yj zj hne;refine ⟨.inl ⟨rfl,rfl⟩,?_⟩;refine Mix.mix_end (by kernel_rfl) ?_;go_wp2_with fail;go_loopg [37] (rem K σ5) (fun m v wr=>∃ (g n:Nat) (sa:Option Addr) (sc:Nat) (vs:List Sy.Ty) (χ:Sy.St),m=rem K χ∧Hid (Sy.typesM K.C g χ vs=(vL,σL)∧rem K χ+1≤g∧n=vs.length∧n+rem K χ≤6000)∧Hid (At w wr K χ)∧Hid (IM wr N (itRow 2 at_ ⟨nm,⟨tb,ts⟩,false,0⟩ nil (.slice sa n sc) none none nil false) 56 2 (.slice sa n sc) n (vs.flatMap tyVals)))
   case atStart=>exact ⟨K.C.T.length,1,_,_,_,σ5,rfl,zz ⟨HL.out.2.2,HL.out.1,rfl,by have:=HL.out.1; have:=HL.out.2.1; omega⟩,HA4a,HG4a⟩
   case round =>
    obtain ⟨g,n,sa,sc,vs,χ,hg,HE,HAR,HGR⟩:=hrel;obtain ⟨g,rfl⟩:∃ q,g=q+1:=⟨g - 1,by have:=HE.out.2.1; omega⟩;have hle:=HAR.out.p.le;obtain ⟨b5,h5⟩:∃ b,Sy.isM K.C χ ⟨#[44]⟩=b:=⟨_,rfl⟩;have HT5:=zz (fun W (hs:PS W K χ)=>take_any K χ ⟨#[44]⟩ b5 h5 W hs);go_wp2_with fail;refine (HT5.out wr HAR.out.p).mono ?_;cases b5 with
    | false =>
      obtain ⟨e1,e2⟩:vs=vL∧χ=σL:=by
       have h6:=HE.out.1;unfold Sy.typesM at h6;rw [if_neg (by rw [h5]; decide)] at h6;exact ⟨by injection h6,by injection h6⟩
      subst e1 e2;rintro e' w9 ⟨rfl,hat⟩;have hat2:At wr w9 K χ:=hat;have HA9a:=zz (HAR.out.trans hat2);have HG9a:=zz (HGR.out.at_ hat2 HWN.out.2);clear hat hat2 h5;go_wp2_with fail;refine (HWL.out w9 HA9a.out.p).mono ?_;rintro e' wa ⟨rfl,hat⟩;have HAa:=zz (HA9a.out.trans hat);have HGa:=zz (HG9a.out.at_ hat HWN.out.2);clear hat;go_wp2_with fail;refine (HWE.out wa HAa.out.p).mono ?_;rintro e' x1 ⟨rfl,hat⟩;have HB1:=zz (HAa.out.trans hat);have HI1:=zz (HGa.out.at_ hat HWN.out.2);clear hat;go_upto_region 11 with fail
      have pm:∀ u:KW x1,u.W.cell? ⟨K.P,3,none⟩=some (.map (some K.MB)):=fun u=>u.cell (HB1.out.p.c (j:=3) rfl)
      have pn:∀ u:KW x1,u.W.cell? ⟨N,2,none⟩=some (.string nm):=fun u=>u.cell (HI1.out.c (j:=2) rfl)
      have hne:Nonempty (KW x1):=⟨KW.of _⟩;refine Mix.wp_region_mix (fun W'=>∃ u:KW x1,W'=u.W) [9] (by kernel_rfl) ?_;have HV0:Hid (Keeps No x1 x1.drew):=zz ((Keeps.refl _ x1).drew);generalize x1.drew=v0 at HV0 ⊢;have HB2:=zz (HB1.out.no HV0.out);have HI2:=zz (HI1.out.no HV0.out);refine Mix.mix_seg 0 9 1 (by kernel_rfl) (by kernel_rfl) rfl rfl ⟨⟨v0,HV0.out⟩,rfl⟩ ?_;simp only [zp1,zp2,zp3,zp4]
      repeat (go_big_quiet_step (fail))
      refine wpQuiet_nil ?_;clear pm pn;obtain ⟨v1,hrun,hnm,htu⟩:=HB2.out.p.names.put (k:=nm) (by have:=HTL.out; unfold maxLen; omega) HNS.out;have hk1:Keeps (fun q=>q=K.MB) v0 v1:=⟨htu.grown.os,htu.grown.tape,htu.grown.output,htu.grown.size,fun k hk hn=>htu.grown.block k hk (fun e=>hn (by injection e))⟩;have HB3:=zz (HB2.out.defined hk1 hnm);have HI3:=zz (HI2.out.newR hk1 (by have:=HB2.out.p.ord; have:=HWN.out.2; omega) (fun e=>by have:=own_lo HI2.out.own _ e; have:=HB2.out.p.ord; have:=HWN.out.2; omega));clear hk1 hnm htu;refine Mix.mix_one 9 0 (by kernel_rfl) rfl rfl ?_;simp only [zp1,zp2,zp3,zp4];go_wp2_with fail;refine ⟨.inl ⟨rfl,rfl⟩,?_⟩;refine Mix.mix_end (by kernel_rfl) ?_;clear hrun hne;have HX3:=zz (IM.fin_types (vs:=vs) (n:=n) (a:=sa) (c:=sc) HI3.out HE.out.2.2.1);go_wp2_with fail;go_returns;rw [HM.out];exact ⟨rfl,HB3.out,fun _=>HX3.out⟩
    | true =>
      have hi5:=Sy.is_lt h5 (by decide);have hr5:=rem_next hi5;obtain ⟨χ1,hχ1⟩:∃ x,Sy.nextM K.C χ=x:=⟨_,rfl⟩;have hm5:Sy.Mo K.C χ χ1:=by rw [← hχ1]; exact (Sy.Mo.refl hle).next
      have HPB:=zz (fun W (hs:PS W K χ1)=>typ_any K χ1 W hs);obtain ⟨r6,h6⟩:∃ x,Sy.typM K.C χ1=x:=⟨_,rfl⟩;have hm6:Sy.Mo K.C χ1 r6.2:=by rw [← h6]; exact (Sy.Mo.refl hm5.le).typ
      rw [h6] at HPB;rw [hχ1] at hr5;obtain ⟨y2,φ⟩:=r6;simp only at hm6 HPB;have hr6:=rem_mo hm6;have HE2:Hid (Sy.typesM K.C g φ (vs++[y2])=(vL,σL)∧rem K φ+1≤g∧n+1=(vs++[y2]).length∧n+1+rem K φ≤6000):=zz (by
       have hb:=HE.out.2;refine ⟨?_,by omega,by rw [List.length_append,hb.2.1]; rfl,by omega⟩;rw [← HE.out.1]
       conv=>rhs; unfold Sy.typesM
       simp only [h5,hχ1,h6,if_true])
      have HLB:Hid (n≤6000):=zz (by have hb:=HE.out.2; omega);have hms:rem K φ < rem K χ:=by omega
      rw [hχ1];clear h5 hi5 hr5 hχ1 hm5 h6 hm6 hr6 hle;rintro e' w9 ⟨rfl,hat⟩;have hat2:At wr w9 K χ1:=hat;have HA9a:=zz (HAR.out.trans hat2);have HG9a:=zz (HGR.out.at_ hat2 HWN.out.2);clear hat hat2;go_upto_region 8 with fail
      have HSS:Hid (∀ q,(q=K.P∨(Value.slice sa n sc).ownBlock=some q)→q≠N):=zz (fun q hq e=>by
       rcases hq with hq | hq
       · have:=HS.out.ord; have:=HWN.out.2; omega
       · exact HG9a.out.ne q hq e)
      have pj:∀ u:KS (fun q=>q=K.P∨(Value.slice sa n sc).ownBlock=some q) w9,u.W.cell? ⟨N,8,none⟩=some (.slice sa n sc):=fun u=>u.cell (HG9a.out.c (j:=8) rfl) (fun e=>HSS.out N e rfl)
      have hne:Nonempty (KS (fun q=>q=K.P∨(Value.slice sa n sc).ownBlock=some q) w9):=⟨⟨w9,Keeps.refl _ _⟩⟩;refine Mix.wp_region_mix (fun W'=>∃ u:KS (fun q=>q=K.P∨(Value.slice sa n sc).ownBlock=some q) w9,W'=u.W) [11] (by kernel_rfl) ?_;have HV0:Hid (Keeps No w9 w9.drew):=zz ((Keeps.refl _ w9).drew);generalize w9.drew=v0 at HV0 ⊢;have HC0:Hid (Keeps (fun q=>q=K.P∨(Value.slice sa n sc).ownBlock=some q) w9 v0):=zz (HV0.out.mono (fun _ _ e=>e.elim));have HAV0:=zz (HA9a.out.no HV0.out);have HGV0:=zz (HG9a.out.no HV0.out);refine Mix.mix_seg 0 6 6 (by kernel_rfl) (by kernel_rfl) rfl rfl ⟨⟨v0,HC0.out⟩,rfl⟩ ?_;simp only [zp1,zp2,zp3,zp4]
      repeat (go_big_quiet_step (fail))
      refine wpQuiet_nil ?_;clear pj;refine Mix.mix_one 6 5 (by kernel_rfl) rfl rfl ?_;simp only [zp1,zp2,zp3,zp4];go_wp2_with fail;refine (HPB.out v0 HAV0.out.p).mono ?_;rintro e' v1 ⟨rfl,hat⟩;have HC1:Hid (Keeps (fun q=>q=K.P∨(Value.slice sa n sc).ownBlock=some q) w9 v1):=zz (HC0.out.trans hat.k (fun q _ e=>.inl e));have HAV1:=zz (HAV0.out.trans hat);have HGV1:=zz (HGV0.out.at_ hat HWN.out.2);clear hat;go_wp2_with fail;refine ⟨.inr ⟨⟨v1,HC1.out⟩,rfl⟩,?_⟩;refine Mix.mix_one 7 4 (by kernel_rfl) rfl rfl ?_;simp only [zp1,zp2,zp3,zp4];go_wp2_with fail;have hk12:Keeps No v1 (v1.alloc (.cells #[.string y2.base,.int .i64 y2.stars] 56)):=(Keeps.refl _ _).alloc _;have hq2:(v1.alloc (.cells #[.string y2.base,.int .i64 y2.stars] 56)).heap[v1.heap.size]?=some (.cells #[.string y2.base,.int .i64 y2.stars] 56 (0,0)):=heap_alloc_new _ _;generalize v1.alloc (.cells #[.string y2.base,.int .i64 y2.stars] 56)=v2 at hk12 hq2 ⊢;have HC2:Hid (Keeps (fun q=>q=K.P∨(Value.slice sa n sc).ownBlock=some q) w9 v2):=zz (HC1.out.trans hk12 (fun q _ e=>e.elim));have HAV2:=zz (HAV1.out.no hk12);have HGV2:=zz (HGV1.out.no hk12);have HQ2:=zz hq2;clear hk12 hq2;refine ⟨.inr ⟨⟨v2,HC2.out⟩,rfl⟩,?_⟩;refine Mix.mix_one 8 3 (by kernel_rfl) rfl rfl ?_;simp only [zp1,zp2,zp3,zp4];go_wp2_with (at_builtin; refine wpList_appT _ rfl (.tmp 43) (.tmp 46) 92 rfl Tryz.underlying92 N (.slice sa n sc) n vs y2 v1.heap.size rfl HGV2.out.own rfl HQ2.out (by have:=HLB.out; omega) (Nat.le_of_lt HGV2.out.lt) ?_);intro g' cap' v3 ho3 hg3 hgo;have hk23:Keeps (fun q=>(Value.slice sa n sc).ownBlock=some q) v2 v3:=(Keeps.refl _ _).grown hg3 (fun q e=>.inl e);have HC3:Hid (Keeps (fun q=>q=K.P∨(Value.slice sa n sc).ownBlock=some q) w9 v3):=zz (HC2.out.trans hk23 (fun q _ e=>.inr e));have hn3:v3.heap[N]?=some (.cells _ _ (0,0)):=(hk23.block _ HGV2.out.lt (fun e=>HGV2.out.ne N e rfl)).trans HGV2.out.row;have yj:v3.cell? ⟨N,8,none⟩=some (.slice sa n sc):=by rw [cell_of_row v3 N 8 _ _ _ hn3]; rfl
      have zj:v3.frozen? ⟨N,8,none⟩=false:=frozen_of_row v3 N 8 _ _ hn3;have HGO:Hid (∀ W,W=v3.setCell ⟨N,8,none⟩ (.slice (some ⟨g',0,none⟩) (n+1) cap')→At w W K φ∧IM W N (itRow 2 at_ ⟨nm,⟨tb,ts⟩,false,0⟩ nil (.slice (some ⟨g',0,none⟩) (n+1) cap') none none nil false) 56 2 (.slice (some ⟨g',0,none⟩) (n+1) cap') (n+1) ((vs++[y2]).flatMap tyVals)):=zz (fun W hW=>by
       subst hW;have hks:Keeps (fun q=>q=N) v3 (v3.setCell ⟨N,8,none⟩ (.slice (some ⟨g',0,none⟩) (n+1) cap')):=(Keeps.refl (fun q=>q=N) v3).setCell (.inl rfl) _;refine ⟨⟨(HAV2.out.p.keepR hk23 (fun q e=>Nat.le_trans HWN.out.2 (own_lo HGV2.out.own q e))).keepR hks (fun q e=>by subst e; exact HWN.out.2),(HAV2.out.k.trans hk23 (fun q hq e=>by have:=own_lo HGV2.out.own q e; exact absurd hq (by have:=HWN.out.1; omega))).trans hks (fun q hq e=>by subst e; exact absurd hq (by have:=HWN.out.1; omega))⟩,HGV2.out.push hk23 (by have e:=ho3; simp only [List.flatMap_append,List.flatMap_cons,List.flatMap_nil,List.append_nil] at e ⊢; exact e) hgo 8 rfl⟩)
      clear ho3 hg3 hgo hk23 hn3;go_wp2_with fail;refine ⟨.inr ⟨⟨v3,HC3.out⟩,rfl⟩,?_⟩;refine Mix.mix_one 9 2 (by kernel_rfl) rfl rfl ?_;simp only [zp1,zp2,zp3,zp4];go_wp2_with fail;refine ⟨.inr ⟨⟨v3,HC3.out⟩,rfl⟩,?_⟩;refine Mix.mix_one 10 1 (by kernel_rfl) rfl rfl ?_;simp only [zp1,zp2,zp3,zp4];go_wp2_with fail;refine ⟨.inr ⟨⟨v3,HC3.out⟩,rfl⟩,?_⟩;refine Mix.mix_one 11 0 (by kernel_rfl) rfl rfl ?_;simp only [zp1,zp2,zp3,zp4];go_wp2_with fail;have hgo:=HGO.out _ rfl;generalize v3.setCell ⟨N,8,none⟩ (.slice (some ⟨g',0,none⟩) (n+1) cap')=wa at hgo ⊢;have HAa:=zz hgo.1;have HGa:=zz hgo.2;clear hgo yj zj hne;refine ⟨.inl ⟨rfl,rfl⟩,?_⟩;refine Mix.mix_end (by kernel_rfl) ?_;go_wp2_with fail;go_roundg (rem K φ)
      case rel=>exact ⟨g,_,_,_,_,φ,rfl,HE2,HAa,HGa⟩
      case measure=>omega
theorem declaration_any (K:Pk) (σ σ0:Sy.St) (w wc:World) (N:Nat) (at_:Int) (h0:PS w K σ0) (h:At w wc K σ) (hN:w.heap.size≤N)
    (hn:wc.heap[N]?=some (.cells (itRow 0 at_ Sy.vr0 nil nil none none nil false) 97 (0,0))) (hi:σ.at_ < K.C.T.length) :
    FillI K w wc N 44 (Sy.declarationM K.C (Sy.it0 at_) σ):=by
 have hle:=h.p.le;have HS:=zz h0;have HA0:=zz h;have HWN:Hid (w.heap.size≤N∧K.B≤N):=zz ⟨hN,Nat.le_trans h0.ord.2.2.2 hN⟩;have HN0:Hid (IM wc N (itRow 0 at_ Sy.vr0 nil nil none none nil false) 94 1 nil 0 []):=zz (IM.bare hn);have hgo:=Sy.typ_go hi;have HTY:=zz (fun W (hs:PS W K σ)=>typ_any K σ W hs);obtain ⟨r2,h2⟩:∃ x,Sy.typM K.C σ=x:=⟨_,rfl⟩;have hm2:Sy.Mo K.C σ r2.2:=by rw [← h2]; exact (Sy.Mo.refl hle).typ
 rw [h2] at HTY hgo;obtain ⟨⟨tb,ts⟩,σ2⟩:=r2;simp only at hm2 HTY hgo;have HNA:=zz (fun W (hs:PS W K σ2)=>name_any K σ2 W hs);obtain ⟨r3,h3⟩:∃ x,Sy.nameM K.C σ2=x:=⟨_,rfl⟩;have hm3:Sy.Mo K.C σ2 r3.2:=by rw [← h3]; exact (Sy.Mo.refl hm2.le).name
 rw [h3] at HNA;obtain ⟨nm,σ3⟩:=r3;simp only at hm3 HNA;obtain ⟨b1,hb1⟩:∃ b,Sy.isM K.C σ3 ⟨#[40]⟩=b:=⟨_,rfl⟩;have HI1:=zz (fun W (hs:PS W K σ3)=>is_as K σ3 ⟨#[40]⟩ b1 hb1 W hs);unfold FillI;cases b1 with
 | true =>
   have hi1:=Sy.is_lt hb1 (by decide);have HFU:=zz (fun wc (hA:At w wc K σ3) hr=>function_any K σ3 σ0 w wc N at_ nm ⟨tb,ts⟩ h0 hA hN hr hi1);obtain ⟨r4,h4⟩:∃ x,Sy.functionM K.C ⟨0,at_,⟨nm,⟨tb,ts⟩,false,0⟩,[],[],none,none,[],false⟩ σ3=x:=⟨_,rfl⟩;rw [h4] at HFU;obtain ⟨i4,σ4⟩:=r4;have HM:Hid (Sy.declarationM K.C (Sy.it0 at_) σ=(i4,σ4)):=zz (by
    unfold Sy.declarationM Sy.it0; simp only [h2,h3,hb1,if_true]; exact h4)
   clear h0 h hN hn hi hle hgo h2 hm2 h3 hm3 hb1 hi1 h4;go_enter Tryz.func44,Tryz.ntmps44;go_wp2_with fail;refine (HTY.out wc HA0.out.p).mono ?_;rintro e w3 ⟨rfl,hat⟩;have HA3:=zz (HA0.out.trans hat);have HG3:=zz (HN0.out.at_ hat HWN.out.2);clear hat;have y3:w3.cell? ⟨N,3,none⟩=some (.string ⟨#[]⟩):=HG3.out.c (j:=3) rfl;have z3:w3.frozen? ⟨N,3,none⟩=false:=HG3.out.f 3;have y4:w3.cell? ⟨N,4,none⟩=some (.int .i64 0):=HG3.out.c (j:=4) rfl;have z4:w3.frozen? ⟨N,4,none⟩=false:=HG3.out.f 4;go_upto_region 1 with fail
   have HA4:=zz ((HA3.out.newR HS.out ((Keeps.refl (fun q=>q=N) w3).setCell (p:=⟨N,3,none⟩) (.inl rfl) (.string tb)) HWN.out.1).newR HS.out ((Keeps.refl (fun q=>q=N) _).setCell (p:=⟨N,4,none⟩) (.inl rfl) (.int .i64 ts)) HWN.out.1);have HG4:=zz ((HG3.out.setc (r':=itRow 0 at_ ⟨Sy.nt,⟨tb,0⟩,false,0⟩ nil nil none none nil false) 3 (.string tb) rfl).setc (r':=itRow 0 at_ ⟨Sy.nt,⟨tb,ts⟩,false,0⟩ nil nil none none nil false) 4 (.int .i64 ts) rfl);generalize (w3.setCell ⟨N,3,none⟩ (.string tb)).setCell ⟨N,4,none⟩ (.int .i64 ts)=w4 at HA4 HG4 ⊢;clear y3 z3 y4 z4;go_wp2_with fail;refine (HNA.out w4 HA4.out.p).mono ?_;rintro e w5a ⟨rfl,hat⟩;have HA5a:=zz (HA4.out.trans hat);have HG5a:=zz (HG4.out.at_ hat HWN.out.2);clear hat;have yc:w5a.cell? ⟨N,2,none⟩=some (.string Sy.nt):=HG5a.out.c (j:=2) rfl;have zc:w5a.frozen? ⟨N,2,none⟩=false:=HG5a.out.f 2;go_upto_region 2 with fail
   have HA5:=zz (HA5a.out.newR HS.out ((Keeps.refl (fun q=>q=N) w5a).setCell (p:=⟨N,2,none⟩) (.inl rfl) (.string nm)) HWN.out.1);have HG5:=zz (HG5a.out.setc (r':=itRow 0 at_ ⟨nm,⟨tb,ts⟩,false,0⟩ nil nil none none nil false) 2 (.string nm) rfl);generalize w5a.setCell ⟨N,2,none⟩ (.string nm)=w5 at HA5 HG5 ⊢;clear yc zc;go_wp2_with fail;refine (HI1.out w5 HA5.out.p).mono ?_;rintro e w6 ⟨rfl,hk⟩;have HA6:=zz (HA5.out.no hk);have HG6:=zz (HG5.out.no hk);clear hk;have hb:=HFU.out w6 HA6.out HG6.out.row;unfold FillI at hb;go_wp2_with fail;refine hb.mono ?_;clear hb;rintro e' w7 ⟨rfl,hat,hit⟩;have HA7:=zz hat;have HX7:=zz hit;clear hat hit;go_wp2_with fail;go_returns;rw [HM.out];exact ⟨rfl,HA7.out,HX7.out⟩
 | false =>
   have HNU:=zz (fun V o cs ty W (hs:PS W K σ3) h1 h2 h3 h4=>number_any K σ3 V o cs ty W hs h1 h2 h3 h4);obtain ⟨kk,hkk⟩:∃ nn,Sy.numberM K.C σ3=nn:=⟨_,rfl⟩;have hm4:Sy.Mo K.C σ3 kk.2.2:=by rw [← hkk]; exact (Sy.Mo.refl hm3.le).number
   rw [hkk] at HNU;obtain ⟨nb,nz,σ4⟩:=kk;simp only at HNU hm4;obtain ⟨b2,hb2⟩:∃ b,Sy.isM K.C σ4 ⟨#[61]⟩=b:=⟨_,rfl⟩;have HT2:=zz (fun W (hs:PS W K σ4)=>take_any K σ4 ⟨#[61]⟩ b2 hb2 W hs);cases b2 with
   | true =>
     have hi2:=Sy.is_lt hb2 (by decide);have hn2:=Sy.next_at hi2;obtain ⟨σ5,h5⟩:∃ x,Sy.nextM K.C σ4=x:=⟨_,rfl⟩;have hm5:Sy.Mo K.C σ4 σ5:=by rw [← h5]; exact (Sy.Mo.refl hm4.le).next
     rw [h5] at HT2 hn2;have HIN:=zz (fun wc (hA:At w wc K σ5) hr=>initial_any K σ5 σ0 w wc N at_ nm ⟨tb,ts⟩ nb nz h0 hA hN hr (by omega));have hmi:Sy.Mo K.C σ5 (Sy.initialM K.C ⟨5,at_,⟨nm,⟨tb,ts⟩,nb,nz⟩,[],[],none,none,[],false⟩ σ5).2:=(Sy.Mo.refl hm5.le).initial _;obtain ⟨r6,h6⟩:∃ x,Sy.initialM K.C ⟨5,at_,⟨nm,⟨tb,ts⟩,nb,nz⟩,[],[],none,none,[],false⟩ σ5=x:=⟨_,rfl⟩;rw [h6] at HIN hmi;obtain ⟨i6,σ6⟩:=r6;simp only at hmi;have HWE:=zz (fun W (hs:PS W K σ6)=>want_any K σ6 ⟨#[59]⟩ W hs);obtain ⟨σ7,h7⟩:∃ x,Sy.wantM K.C σ6 ⟨#[59]⟩=x:=⟨_,rfl⟩;have hm7:Sy.Mo K.C σ6 σ7:=by rw [← h7]; exact (Sy.Mo.refl hmi.le).want _
     rw [h7] at HWE;have HC76:Hid (σ7.code=0→σ6.code=0):=zz hm7.code;have HM:Hid (Sy.declarationM K.C (Sy.it0 at_) σ=(i6,σ7)):=zz (by
      unfold Sy.declarationM Sy.it0; simp only [h2,h3,hb1,hkk,hb2,h5,if_true,if_neg (show ¬ (false=true) by decide)];rw [h6]; simp only [h7])
     clear h0 h hN hn hi hle hgo h2 hm2 h3 hm3 hb1 hkk hm4 hb2 hi2 hn2 h5 hm5 h6 hmi h7 hm7;go_enter Tryz.func44,Tryz.ntmps44;go_wp2_with fail;refine (HTY.out wc HA0.out.p).mono ?_;rintro e w3 ⟨rfl,hat⟩;have HA3:=zz (HA0.out.trans hat);have HG3:=zz (HN0.out.at_ hat HWN.out.2);clear hat;have y3:w3.cell? ⟨N,3,none⟩=some (.string ⟨#[]⟩):=HG3.out.c (j:=3) rfl;have z3:w3.frozen? ⟨N,3,none⟩=false:=HG3.out.f 3;have y4:w3.cell? ⟨N,4,none⟩=some (.int .i64 0):=HG3.out.c (j:=4) rfl;have z4:w3.frozen? ⟨N,4,none⟩=false:=HG3.out.f 4;go_upto_region 1 with fail
     have HA4:=zz ((HA3.out.newR HS.out ((Keeps.refl (fun q=>q=N) w3).setCell (p:=⟨N,3,none⟩) (.inl rfl) (.string tb)) HWN.out.1).newR HS.out ((Keeps.refl (fun q=>q=N) _).setCell (p:=⟨N,4,none⟩) (.inl rfl) (.int .i64 ts)) HWN.out.1);have HG4:=zz ((HG3.out.setc (r':=itRow 0 at_ ⟨Sy.nt,⟨tb,0⟩,false,0⟩ nil nil none none nil false) 3 (.string tb) rfl).setc (r':=itRow 0 at_ ⟨Sy.nt,⟨tb,ts⟩,false,0⟩ nil nil none none nil false) 4 (.int .i64 ts) rfl);generalize (w3.setCell ⟨N,3,none⟩ (.string tb)).setCell ⟨N,4,none⟩ (.int .i64 ts)=w4 at HA4 HG4 ⊢;clear y3 z3 y4 z4;go_wp2_with fail;refine (HNA.out w4 HA4.out.p).mono ?_;rintro e w5a ⟨rfl,hat⟩;have HA5a:=zz (HA4.out.trans hat);have HG5a:=zz (HG4.out.at_ hat HWN.out.2);clear hat;have yc:w5a.cell? ⟨N,2,none⟩=some (.string Sy.nt):=HG5a.out.c (j:=2) rfl;have zc:w5a.frozen? ⟨N,2,none⟩=false:=HG5a.out.f 2;go_upto_region 2 with fail
     have HA5:=zz (HA5a.out.newR HS.out ((Keeps.refl (fun q=>q=N) w5a).setCell (p:=⟨N,2,none⟩) (.inl rfl) (.string nm)) HWN.out.1);have HG5:=zz (HG5a.out.setc (r':=itRow 0 at_ ⟨nm,⟨tb,ts⟩,false,0⟩ nil nil none none nil false) 2 (.string nm) rfl);generalize w5a.setCell ⟨N,2,none⟩ (.string nm)=w5 at HA5 HG5 ⊢;clear yc zc;go_wp2_with fail;refine (HI1.out w5 HA5.out.p).mono ?_;rintro e w6 ⟨rfl,hk⟩;have HA6:=zz (HA5.out.no hk);have HG6:=zz (HG5.out.no hk);clear hk;have yc:w6.cell? ⟨N,0,none⟩=some (.int .i64 0):=HG6.out.c (j:=0) rfl;have zc:w6.frozen? ⟨N,0,none⟩=false:=HG6.out.f 0;go_upto_region 5 with fail
     have HA7:=zz (HA6.out.newR HS.out ((Keeps.refl (fun q=>q=N) w6).setCell (p:=⟨N,0,none⟩) (.inl rfl) (.int .i64 5)) HWN.out.1);have HG7:=zz (HG6.out.setc (r':=itRow 5 at_ ⟨nm,⟨tb,ts⟩,false,0⟩ nil nil none none nil false) 0 (.int .i64 5) rfl);generalize w6.setCell ⟨N,0,none⟩ (.int .i64 5)=w7 at HA7 HG7 ⊢;clear yc zc;go_wp2_with fail;refine (HNU.out N 2 _ _ w7 HA7.out.p HG7.out.row HWN.out.2 rfl rfl).mono ?_;rintro e' x1 ⟨rfl,hav,hrow⟩;have HB1:=zz (HA7.out.viaV hav HWN.out.1);have HJ1:Hid (IM x1 N (itRow 5 at_ ⟨nm,⟨tb,ts⟩,nb,nz⟩ nil nil none none nil false) 94 1 nil 0 []):=zz (IM.bare hrow);clear hav hrow;go_wp2_with fail;refine (HT2.out x1 HB1.out.p).mono ?_;rintro e' x2 ⟨rfl,hat⟩;have hat2:At x1 x2 K σ5:=hat;have HB2:=zz (HB1.out.trans hat2);have HJ2:=zz (HJ1.out.at_ hat2 HWN.out.2);clear hat hat2;have hb:=HIN.out x2 HB2.out HJ2.out.row;unfold FillI at hb;go_wp2_with fail;refine hb.mono ?_;clear hb;rintro e' x3 ⟨rfl,hat,hit⟩;have HB3:=zz hat;have HX3:=zz hit;clear hat hit;go_wp2_with fail;refine (HWE.out x3 HB3.out.p).mono ?_;rintro e' x4 ⟨rfl,hat⟩;have HB4:=zz (HB3.out.trans hat.toI);have HX4:=zz (fun (hc:σ7.code=0)=>(HX3.out (HC76.out hc)).at_ hat HWN.out.2);clear hat;go_wp2_with fail;go_returns;rw [HM.out];exact ⟨rfl,HB4.out,HX4.out⟩
   | false =>
     have HWE:=zz (fun W (hs:PS W K σ4)=>want_any K σ4 ⟨#[59]⟩ W hs);obtain ⟨σ7,h7⟩:∃ x,Sy.wantM K.C σ4 ⟨#[59]⟩=x:=⟨_,rfl⟩;rw [h7] at HWE;have HM:Hid (Sy.declarationM K.C (Sy.it0 at_) σ=(⟨5,at_,⟨nm,⟨tb,ts⟩,nb,nz⟩,[],[],none,none,[],false⟩,σ7)):=zz (by
      unfold Sy.declarationM Sy.it0; simp only [h2,h3,hb1,hkk,hb2,h7,if_neg (show ¬ (false=true) by decide)])
     clear h0 h hN hn hi hle hgo h2 hm2 h3 hm3 hb1 hkk hm4 hb2 h7;go_enter Tryz.func44,Tryz.ntmps44;go_wp2_with fail;refine (HTY.out wc HA0.out.p).mono ?_;rintro e w3 ⟨rfl,hat⟩;have HA3:=zz (HA0.out.trans hat);have HG3:=zz (HN0.out.at_ hat HWN.out.2);clear hat;have y3:w3.cell? ⟨N,3,none⟩=some (.string ⟨#[]⟩):=HG3.out.c (j:=3) rfl;have z3:w3.frozen? ⟨N,3,none⟩=false:=HG3.out.f 3;have y4:w3.cell? ⟨N,4,none⟩=some (.int .i64 0):=HG3.out.c (j:=4) rfl;have z4:w3.frozen? ⟨N,4,none⟩=false:=HG3.out.f 4;go_upto_region 1 with fail
     have HA4:=zz ((HA3.out.newR HS.out ((Keeps.refl (fun q=>q=N) w3).setCell (p:=⟨N,3,none⟩) (.inl rfl) (.string tb)) HWN.out.1).newR HS.out ((Keeps.refl (fun q=>q=N) _).setCell (p:=⟨N,4,none⟩) (.inl rfl) (.int .i64 ts)) HWN.out.1);have HG4:=zz ((HG3.out.setc (r':=itRow 0 at_ ⟨Sy.nt,⟨tb,0⟩,false,0⟩ nil nil none none nil false) 3 (.string tb) rfl).setc (r':=itRow 0 at_ ⟨Sy.nt,⟨tb,ts⟩,false,0⟩ nil nil none none nil false) 4 (.int .i64 ts) rfl);generalize (w3.setCell ⟨N,3,none⟩ (.string tb)).setCell ⟨N,4,none⟩ (.int .i64 ts)=w4 at HA4 HG4 ⊢;clear y3 z3 y4 z4;go_wp2_with fail;refine (HNA.out w4 HA4.out.p).mono ?_;rintro e w5a ⟨rfl,hat⟩;have HA5a:=zz (HA4.out.trans hat);have HG5a:=zz (HG4.out.at_ hat HWN.out.2);clear hat;have yc:w5a.cell? ⟨N,2,none⟩=some (.string Sy.nt):=HG5a.out.c (j:=2) rfl;have zc:w5a.frozen? ⟨N,2,none⟩=false:=HG5a.out.f 2;go_upto_region 2 with fail
     have HA5:=zz (HA5a.out.newR HS.out ((Keeps.refl (fun q=>q=N) w5a).setCell (p:=⟨N,2,none⟩) (.inl rfl) (.string nm)) HWN.out.1);have HG5:=zz (HG5a.out.setc (r':=itRow 0 at_ ⟨nm,⟨tb,ts⟩,false,0⟩ nil nil none none nil false) 2 (.string nm) rfl);generalize w5a.setCell ⟨N,2,none⟩ (.string nm)=w5 at HA5 HG5 ⊢;clear yc zc;go_wp2_with fail;refine (HI1.out w5 HA5.out.p).mono ?_;rintro e w6 ⟨rfl,hk⟩;have HA6:=zz (HA5.out.no hk);have HG6:=zz (HG5.out.no hk);clear hk;have yc:w6.cell? ⟨N,0,none⟩=some (.int .i64 0):=HG6.out.c (j:=0) rfl;have zc:w6.frozen? ⟨N,0,none⟩=false:=HG6.out.f 0;go_upto_region 5 with fail
     have HA7:=zz (HA6.out.newR HS.out ((Keeps.refl (fun q=>q=N) w6).setCell (p:=⟨N,0,none⟩) (.inl rfl) (.int .i64 5)) HWN.out.1);have HG7:=zz (HG6.out.setc (r':=itRow 5 at_ ⟨nm,⟨tb,ts⟩,false,0⟩ nil nil none none nil false) 0 (.int .i64 5) rfl);generalize w6.setCell ⟨N,0,none⟩ (.int .i64 5)=w7 at HA7 HG7 ⊢;clear yc zc;go_wp2_with fail;refine (HNU.out N 2 _ _ w7 HA7.out.p HG7.out.row HWN.out.2 rfl rfl).mono ?_;rintro e' x1 ⟨rfl,hav,hrow⟩;have HB1:=zz (HA7.out.viaV hav HWN.out.1);have HJ1:Hid (IM x1 N (itRow 5 at_ ⟨nm,⟨tb,ts⟩,nb,nz⟩ nil nil none none nil false) 94 1 nil 0 []):=zz (IM.bare hrow);clear hav hrow;go_wp2_with fail;refine (HT2.out x1 HB1.out.p).mono ?_;rintro e' x2 ⟨rfl,hat⟩;have hat2:At x1 x2 K σ4:=hat;have HB2:=zz (HB1.out.trans hat2);have HJ2:=zz (HJ1.out.at_ hat2 HWN.out.2);clear hat hat2;go_wp2_with fail;refine (HWE.out x2 HB2.out.p).mono ?_;rintro e' x4 ⟨rfl,hat⟩;have HB4:=zz (HB2.out.trans hat);have HX4:=zz (IM.fin_init (init:=none) (HJ2.out.at_ hat HWN.out.2) .none);clear hat;go_wp2_with fail;go_returns;rw [HM.out];exact ⟨rfl,HB4.out.toI,fun _=>HX4.out⟩
def ItPost (w:World) (K:Pk) (r:Sy.It × Sy.St) (e:Ending) (w':World):Prop:=∃ a,e=.returned (.pointer a)∧AtI w w' K r.2∧(r.2.code=0→ItAt w' w.heap.size a r.1)
theorem item_struct (K:Pk) (σ:Sy.St) (w:World) (h:PS w K σ) (hi:σ.at_ < K.C.T.length) (hT:σ.types.length≤1000000) (h1:Sy.isM K.C σ ⟨#[115,116,114,117,99,116]⟩=true) (h2:((Sy.peekM K.C σ 1).kind==1)=true) (h3:((Sy.peekM K.C σ 2).text==⟨#[123]⟩)=true) :
    Calls Tryz.prog 24 #[.pointer (some ⟨K.P,0,none⟩)] w (ItPost w K (Sy.itemM K.C σ)):=by
 have HS:=zz h;have HI:=zz hi;have HTT:=zz hT;obtain ⟨t,ht⟩:∃ t,Sy.peekM K.C σ 0=t:=⟨_,rfl⟩;have HPK:=zz (fun W (hs:PS W K σ)=>peek_as K σ 0 (by omega) t ht 0 rfl W hs);have f1:=fun W=>(tk_fld t.kind t.at_ t.text t.suf t.num t.hex W).2.1
 have HIS:=zz (fun W (hs:PS W K σ)=>is_as K σ ⟨#[115,116,114,117,99,116]⟩ _ h1 W hs);have HM:Hid (Sy.itemM K.C σ=Sy.structM K.C (Sy.it0 (t.at_:Int)) σ):=zz (by
  unfold Sy.itemM;simp only [ht,h1,h2,h3,Bool.true_and,Bool.false_and,Bool.and_true,Bool.and_false,if_true,Bool.false_eq_true,if_false])
 obtain ⟨t1,ht1⟩:∃ t,Sy.peekM K.C σ 1=t:=⟨_,rfl⟩;have HP1:=zz (fun W (hs:PS W K σ)=>peek_as K σ 1 (by omega) t1 ht1 1 rfl W hs);have g0:=fun W=>(tk_fld t1.kind t1.at_ t1.text t1.suf t1.num t1.hex W).1
 obtain ⟨t2,ht2⟩:∃ t,Sy.peekM K.C σ 2=t:=⟨_,rfl⟩;have HP2:=zz (fun W (hs:PS W K σ)=>peek_as K σ 2 (by omega) t2 ht2 2 rfl W hs);have g2:=fun W=>(tk_fld t2.kind t2.at_ t2.text t2.suf t2.num t2.hex W).2.2
 rw [ht1] at h2;rw [ht2,eqL] at h3;have k3:(t2.text.toList==[123])=true:=h3;clear h hi hT ht h1 h3 ht1 ht2;go_enter Tryz.func24,Tryz.ntmps24;go_wp2_with fail;refine (HPK.out w HS.out).mono ?_;rintro e w1 ⟨rfl,hk⟩;have HA1:=zz (At.of_no HS.out hk);clear hk;go_upto_region 3 with fail
 have hnw:(w1.alloc (.cells #[.int .i64 0,.int .i64 (t.at_:Int),.string ⟨#[]⟩,.string ⟨#[]⟩,.int .i64 0,.bool false,.int .u64 0,.slice none 0 0,.slice none 0 0,.pointer none,.pointer none,.slice none 0 0,.bool false] 97)).heap[w1.heap.size]?=some (.cells (itRow 0 (t.at_:Int) Sy.vr0 nil nil none none nil false) 97 (0,0)):=heap_alloc_new _ _;have HA2:=zz (HA1.out.no ((Keeps.refl _ w1).alloc (.cells #[.int .i64 0,.int .i64 (t.at_:Int),.string ⟨#[]⟩,.string ⟨#[]⟩,.int .i64 0,.bool false,.int .u64 0,.slice none 0 0,.slice none 0 0,.pointer none,.pointer none,.slice none 0 0,.bool false] 97)));generalize w1.alloc (.cells #[.int .i64 0,.int .i64 (t.at_:Int),.string ⟨#[]⟩,.string ⟨#[]⟩,.int .i64 0,.bool false,.int .u64 0,.slice none 0 0,.slice none 0 0,.pointer none,.pointer none,.slice none 0 0,.bool false] 97)=w2 at hnw HA2 ⊢;obtain ⟨N,hN⟩:∃ n,w1.heap.size=n:=⟨_,rfl⟩;have HWN:Hid (w.heap.size≤N∧K.B≤N):=zz ⟨by have:=HA1.out.k.size; omega,by have:=HA1.out.p.ord.2.2.2; omega⟩;rw [hN] at hnw ⊢;have HN2:Hid (IM w2 N (itRow 0 (t.at_:Int) Sy.vr0 nil nil none none nil false) 56 2 nil 0 []):=zz (IM.bare hnw);clear hnw hN;go_wp2_with fail;refine (HIS.out w2 HA2.out.p).mono ?_;rintro e w3 ⟨rfl,hk⟩;have HA3:=zz (HA2.out.no hk);have HN3:=zz (HN2.out.no hk);clear hk;go_wp2_with fail;refine (HP1.out w3 HA3.out.p).mono ?_;rintro e w4 ⟨rfl,hk⟩;have HA4:=zz (HA3.out.no hk);have HN4:=zz (HN3.out.no hk);clear hk;go_wp2_with fail;refine (HP2.out w4 HA4.out.p).mono ?_;rintro e w5 ⟨rfl,hk⟩;have HA5:=zz (HA4.out.no hk);have HN5:=zz (HN4.out.no hk);clear hk;have hb:=structure_any K σ σ w w5 N (t.at_:Int) HS.out HA5.out HWN.out.1 HN5.out.row HI.out;unfold FillI at hb;go_wp2_with fail;refine hb.mono ?_;clear hb;rintro e' w9 ⟨rfl,hat,hit⟩;have HA9:=zz hat;have HX9:=zz hit;clear hat hit;go_wp2_with fail;go_returns;rw [HM.out];exact ⟨_,rfl,HA9.out,fun hc=>(HX9.out hc).mono HWN.out.1⟩
theorem item_typedef (K:Pk) (σ:Sy.St) (w:World) (h:PS w K σ) (hi:σ.at_ < K.C.T.length) (hT:σ.types.length≤1000000) (h1:Sy.isM K.C σ ⟨#[115,116,114,117,99,116]⟩=false) (h4:Sy.isM K.C σ ⟨#[116,121,112,101,100,101,102]⟩=true) :
    Calls Tryz.prog 24 #[.pointer (some ⟨K.P,0,none⟩)] w (ItPost w K (Sy.itemM K.C σ)):=by
 have HS:=zz h;have HI:=zz hi;have HTT:=zz hT;obtain ⟨t,ht⟩:∃ t,Sy.peekM K.C σ 0=t:=⟨_,rfl⟩;have HPK:=zz (fun W (hs:PS W K σ)=>peek_as K σ 0 (by omega) t ht 0 rfl W hs);have f1:=fun W=>(tk_fld t.kind t.at_ t.text t.suf t.num t.hex W).2.1
 have HIS:=zz (fun W (hs:PS W K σ)=>is_as K σ ⟨#[115,116,114,117,99,116]⟩ _ h1 W hs);have HM:Hid (Sy.itemM K.C σ=Sy.typedefM K.C (Sy.it0 (t.at_:Int)) σ):=zz (by
  unfold Sy.itemM;simp only [ht,h1,h4,Bool.true_and,Bool.false_and,Bool.and_true,Bool.and_false,if_true,Bool.false_eq_true,if_false])
 have HTD:=zz (fun W (hs:PS W K σ)=>is_as K σ ⟨#[116,121,112,101,100,101,102]⟩ _ h4 W hs);clear h hi hT ht h1 h4;go_enter Tryz.func24,Tryz.ntmps24;go_wp2_with fail;refine (HPK.out w HS.out).mono ?_;rintro e w1 ⟨rfl,hk⟩;have HA1:=zz (At.of_no HS.out hk);clear hk;go_upto_region 3 with fail
 have hnw:(w1.alloc (.cells #[.int .i64 0,.int .i64 (t.at_:Int),.string ⟨#[]⟩,.string ⟨#[]⟩,.int .i64 0,.bool false,.int .u64 0,.slice none 0 0,.slice none 0 0,.pointer none,.pointer none,.slice none 0 0,.bool false] 97)).heap[w1.heap.size]?=some (.cells (itRow 0 (t.at_:Int) Sy.vr0 nil nil none none nil false) 97 (0,0)):=heap_alloc_new _ _;have HA2:=zz (HA1.out.no ((Keeps.refl _ w1).alloc (.cells #[.int .i64 0,.int .i64 (t.at_:Int),.string ⟨#[]⟩,.string ⟨#[]⟩,.int .i64 0,.bool false,.int .u64 0,.slice none 0 0,.slice none 0 0,.pointer none,.pointer none,.slice none 0 0,.bool false] 97)));generalize w1.alloc (.cells #[.int .i64 0,.int .i64 (t.at_:Int),.string ⟨#[]⟩,.string ⟨#[]⟩,.int .i64 0,.bool false,.int .u64 0,.slice none 0 0,.slice none 0 0,.pointer none,.pointer none,.slice none 0 0,.bool false] 97)=w2 at hnw HA2 ⊢;obtain ⟨N,hN⟩:∃ n,w1.heap.size=n:=⟨_,rfl⟩;have HWN:Hid (w.heap.size≤N∧K.B≤N):=zz ⟨by have:=HA1.out.k.size; omega,by have:=HA1.out.p.ord.2.2.2; omega⟩;rw [hN] at hnw ⊢;have HN2:Hid (IM w2 N (itRow 0 (t.at_:Int) Sy.vr0 nil nil none none nil false) 56 2 nil 0 []):=zz (IM.bare hnw);clear hnw hN;go_wp2_with fail;refine (HIS.out w2 HA2.out.p).mono ?_;rintro e w3 ⟨rfl,hk⟩;have HA3:=zz (HA2.out.no hk);have HN3:=zz (HN2.out.no hk);clear hk;go_wp2_with fail;refine (HTD.out w3 HA3.out.p).mono ?_;rintro e w4 ⟨rfl,hk⟩;have HA4:=zz (HA3.out.no hk);have HN4:=zz (HN3.out.no hk);clear hk;have hb:=typedef_any K σ σ w w4 N (t.at_:Int) HS.out HA4.out HWN.out.1 HN4.out.row HI.out HTT.out;unfold FillI at hb;go_wp2_with fail;refine hb.mono ?_;clear hb;rintro e' w9 ⟨rfl,hat,hit⟩;have HA9:=zz hat;have HX9:=zz hit;clear hat hit;go_wp2_with fail;go_returns;rw [HM.out];exact ⟨_,rfl,HA9.out,fun hc=>(HX9.out hc).mono HWN.out.1⟩
theorem item_declA (K:Pk) (σ:Sy.St) (w:World) (h:PS w K σ) (hi:σ.at_ < K.C.T.length) (hT:σ.types.length≤1000000) (h1:Sy.isM K.C σ ⟨#[115,116,114,117,99,116]⟩=false) (h4:Sy.isM K.C σ ⟨#[116,121,112,101,100,101,102]⟩=false) :
    Calls Tryz.prog 24 #[.pointer (some ⟨K.P,0,none⟩)] w (ItPost w K (Sy.itemM K.C σ)):=by
 have HS:=zz h;have HI:=zz hi;have HTT:=zz hT;obtain ⟨t,ht⟩:∃ t,Sy.peekM K.C σ 0=t:=⟨_,rfl⟩;have HPK:=zz (fun W (hs:PS W K σ)=>peek_as K σ 0 (by omega) t ht 0 rfl W hs);have f1:=fun W=>(tk_fld t.kind t.at_ t.text t.suf t.num t.hex W).2.1
 have HIS:=zz (fun W (hs:PS W K σ)=>is_as K σ ⟨#[115,116,114,117,99,116]⟩ _ h1 W hs);have HM:Hid (Sy.itemM K.C σ=Sy.declarationM K.C (Sy.it0 (t.at_:Int)) σ):=zz (by
  unfold Sy.itemM;simp only [ht,h1,h4,Bool.true_and,Bool.false_and,Bool.and_true,Bool.and_false,if_true,Bool.false_eq_true,if_false])
 have HTD:=zz (fun W (hs:PS W K σ)=>is_as K σ ⟨#[116,121,112,101,100,101,102]⟩ _ h4 W hs);clear h hi hT ht h1 h4;go_enter Tryz.func24,Tryz.ntmps24;go_wp2_with fail;refine (HPK.out w HS.out).mono ?_;rintro e w1 ⟨rfl,hk⟩;have HA1:=zz (At.of_no HS.out hk);clear hk;go_upto_region 3 with fail
 have hnw:(w1.alloc (.cells #[.int .i64 0,.int .i64 (t.at_:Int),.string ⟨#[]⟩,.string ⟨#[]⟩,.int .i64 0,.bool false,.int .u64 0,.slice none 0 0,.slice none 0 0,.pointer none,.pointer none,.slice none 0 0,.bool false] 97)).heap[w1.heap.size]?=some (.cells (itRow 0 (t.at_:Int) Sy.vr0 nil nil none none nil false) 97 (0,0)):=heap_alloc_new _ _;have HA2:=zz (HA1.out.no ((Keeps.refl _ w1).alloc (.cells #[.int .i64 0,.int .i64 (t.at_:Int),.string ⟨#[]⟩,.string ⟨#[]⟩,.int .i64 0,.bool false,.int .u64 0,.slice none 0 0,.slice none 0 0,.pointer none,.pointer none,.slice none 0 0,.bool false] 97)));generalize w1.alloc (.cells #[.int .i64 0,.int .i64 (t.at_:Int),.string ⟨#[]⟩,.string ⟨#[]⟩,.int .i64 0,.bool false,.int .u64 0,.slice none 0 0,.slice none 0 0,.pointer none,.pointer none,.slice none 0 0,.bool false] 97)=w2 at hnw HA2 ⊢;obtain ⟨N,hN⟩:∃ n,w1.heap.size=n:=⟨_,rfl⟩;have HWN:Hid (w.heap.size≤N∧K.B≤N):=zz ⟨by have:=HA1.out.k.size; omega,by have:=HA1.out.p.ord.2.2.2; omega⟩;rw [hN] at hnw ⊢;have HN2:Hid (IM w2 N (itRow 0 (t.at_:Int) Sy.vr0 nil nil none none nil false) 56 2 nil 0 []):=zz (IM.bare hnw);clear hnw hN;go_wp2_with fail;refine (HIS.out w2 HA2.out.p).mono ?_;rintro e w3 ⟨rfl,hk⟩;have HA3:=zz (HA2.out.no hk);have HN3:=zz (HN2.out.no hk);clear hk;go_wp2_with fail;refine (HTD.out w3 HA3.out.p).mono ?_;rintro e w4 ⟨rfl,hk⟩;have HA4:=zz (HA3.out.no hk);have HN4:=zz (HN3.out.no hk);clear hk;have hb:=declaration_any K σ σ w w4 N (t.at_:Int) HS.out HA4.out HWN.out.1 HN4.out.row HI.out;unfold FillI at hb;go_wp2_with fail;refine hb.mono ?_;clear hb;rintro e' w9 ⟨rfl,hat,hit⟩;have HA9:=zz hat;have HX9:=zz hit;clear hat hit;go_wp2_with fail;go_returns;rw [HM.out];exact ⟨_,rfl,HA9.out,fun hc=>(HX9.out hc).mono HWN.out.1⟩
theorem item_declB (K:Pk) (σ:Sy.St) (w:World) (h:PS w K σ) (hi:σ.at_ < K.C.T.length) (hT:σ.types.length≤1000000) (h1:Sy.isM K.C σ ⟨#[115,116,114,117,99,116]⟩=true) (h2:((Sy.peekM K.C σ 1).kind==1)=false) (h4:Sy.isM K.C σ ⟨#[116,121,112,101,100,101,102]⟩=false) :
    Calls Tryz.prog 24 #[.pointer (some ⟨K.P,0,none⟩)] w (ItPost w K (Sy.itemM K.C σ)):=by
 have HS:=zz h;have HI:=zz hi;have HTT:=zz hT;obtain ⟨t,ht⟩:∃ t,Sy.peekM K.C σ 0=t:=⟨_,rfl⟩;have HPK:=zz (fun W (hs:PS W K σ)=>peek_as K σ 0 (by omega) t ht 0 rfl W hs);have f1:=fun W=>(tk_fld t.kind t.at_ t.text t.suf t.num t.hex W).2.1
 have HIS:=zz (fun W (hs:PS W K σ)=>is_as K σ ⟨#[115,116,114,117,99,116]⟩ _ h1 W hs);have HM:Hid (Sy.itemM K.C σ=Sy.declarationM K.C (Sy.it0 (t.at_:Int)) σ):=zz (by
  unfold Sy.itemM;simp only [ht,h1,h2,h4,Bool.true_and,Bool.false_and,Bool.and_true,Bool.and_false,if_true,Bool.false_eq_true,if_false])
 have HTD:=zz (fun W (hs:PS W K σ)=>is_as K σ ⟨#[116,121,112,101,100,101,102]⟩ _ h4 W hs);obtain ⟨t1,ht1⟩:∃ t,Sy.peekM K.C σ 1=t:=⟨_,rfl⟩;have HP1:=zz (fun W (hs:PS W K σ)=>peek_as K σ 1 (by omega) t1 ht1 1 rfl W hs);have g0:=fun W=>(tk_fld t1.kind t1.at_ t1.text t1.suf t1.num t1.hex W).1
 rw [ht1] at h2;clear h hi hT ht h1 h4 ht1;go_enter Tryz.func24,Tryz.ntmps24;go_wp2_with fail;refine (HPK.out w HS.out).mono ?_;rintro e w1 ⟨rfl,hk⟩;have HA1:=zz (At.of_no HS.out hk);clear hk;go_upto_region 3 with fail
 have hnw:(w1.alloc (.cells #[.int .i64 0,.int .i64 (t.at_:Int),.string ⟨#[]⟩,.string ⟨#[]⟩,.int .i64 0,.bool false,.int .u64 0,.slice none 0 0,.slice none 0 0,.pointer none,.pointer none,.slice none 0 0,.bool false] 97)).heap[w1.heap.size]?=some (.cells (itRow 0 (t.at_:Int) Sy.vr0 nil nil none none nil false) 97 (0,0)):=heap_alloc_new _ _;have HA2:=zz (HA1.out.no ((Keeps.refl _ w1).alloc (.cells #[.int .i64 0,.int .i64 (t.at_:Int),.string ⟨#[]⟩,.string ⟨#[]⟩,.int .i64 0,.bool false,.int .u64 0,.slice none 0 0,.slice none 0 0,.pointer none,.pointer none,.slice none 0 0,.bool false] 97)));generalize w1.alloc (.cells #[.int .i64 0,.int .i64 (t.at_:Int),.string ⟨#[]⟩,.string ⟨#[]⟩,.int .i64 0,.bool false,.int .u64 0,.slice none 0 0,.slice none 0 0,.pointer none,.pointer none,.slice none 0 0,.bool false] 97)=w2 at hnw HA2 ⊢;obtain ⟨N,hN⟩:∃ n,w1.heap.size=n:=⟨_,rfl⟩;have HWN:Hid (w.heap.size≤N∧K.B≤N):=zz ⟨by have:=HA1.out.k.size; omega,by have:=HA1.out.p.ord.2.2.2; omega⟩;rw [hN] at hnw ⊢;have HN2:Hid (IM w2 N (itRow 0 (t.at_:Int) Sy.vr0 nil nil none none nil false) 56 2 nil 0 []):=zz (IM.bare hnw);clear hnw hN;go_wp2_with fail;refine (HIS.out w2 HA2.out.p).mono ?_;rintro e w3 ⟨rfl,hk⟩;have HA3:=zz (HA2.out.no hk);have HN3:=zz (HN2.out.no hk);clear hk;go_wp2_with fail;refine (HP1.out w3 HA3.out.p).mono ?_;rintro e w4 ⟨rfl,hk⟩;have HA4:=zz (HA3.out.no hk);have HN4:=zz (HN3.out.no hk);clear hk;go_wp2_with fail;refine (HTD.out w4 HA4.out.p).mono ?_;rintro e w5 ⟨rfl,hk⟩;have HA5:=zz (HA4.out.no hk);have HN5:=zz (HN4.out.no hk);clear hk;have hb:=declaration_any K σ σ w w5 N (t.at_:Int) HS.out HA5.out HWN.out.1 HN5.out.row HI.out;unfold FillI at hb;go_wp2_with fail;refine hb.mono ?_;clear hb;rintro e' w9 ⟨rfl,hat,hit⟩;have HA9:=zz hat;have HX9:=zz hit;clear hat hit;go_wp2_with fail;go_returns;rw [HM.out];exact ⟨_,rfl,HA9.out,fun hc=>(HX9.out hc).mono HWN.out.1⟩
theorem item_declC (K:Pk) (σ:Sy.St) (w:World) (h:PS w K σ) (hi:σ.at_ < K.C.T.length) (hT:σ.types.length≤1000000) (h1:Sy.isM K.C σ ⟨#[115,116,114,117,99,116]⟩=true) (h2:((Sy.peekM K.C σ 1).kind==1)=true) (h3:((Sy.peekM K.C σ 2).text==⟨#[123]⟩)=false) (h4:Sy.isM K.C σ ⟨#[116,121,112,101,100,101,102]⟩=false) :
    Calls Tryz.prog 24 #[.pointer (some ⟨K.P,0,none⟩)] w (ItPost w K (Sy.itemM K.C σ)):=by
 have HS:=zz h;have HI:=zz hi;have HTT:=zz hT;obtain ⟨t,ht⟩:∃ t,Sy.peekM K.C σ 0=t:=⟨_,rfl⟩;have HPK:=zz (fun W (hs:PS W K σ)=>peek_as K σ 0 (by omega) t ht 0 rfl W hs);have f1:=fun W=>(tk_fld t.kind t.at_ t.text t.suf t.num t.hex W).2.1
 have HIS:=zz (fun W (hs:PS W K σ)=>is_as K σ ⟨#[115,116,114,117,99,116]⟩ _ h1 W hs);have HM:Hid (Sy.itemM K.C σ=Sy.declarationM K.C (Sy.it0 (t.at_:Int)) σ):=zz (by
  unfold Sy.itemM;simp only [ht,h1,h2,h3,h4,Bool.true_and,Bool.false_and,Bool.and_true,Bool.and_false,if_true,Bool.false_eq_true,if_false])
 have HTD:=zz (fun W (hs:PS W K σ)=>is_as K σ ⟨#[116,121,112,101,100,101,102]⟩ _ h4 W hs);obtain ⟨t1,ht1⟩:∃ t,Sy.peekM K.C σ 1=t:=⟨_,rfl⟩;have HP1:=zz (fun W (hs:PS W K σ)=>peek_as K σ 1 (by omega) t1 ht1 1 rfl W hs);have g0:=fun W=>(tk_fld t1.kind t1.at_ t1.text t1.suf t1.num t1.hex W).1
 obtain ⟨t2,ht2⟩:∃ t,Sy.peekM K.C σ 2=t:=⟨_,rfl⟩;have HP2:=zz (fun W (hs:PS W K σ)=>peek_as K σ 2 (by omega) t2 ht2 2 rfl W hs);have g2:=fun W=>(tk_fld t2.kind t2.at_ t2.text t2.suf t2.num t2.hex W).2.2
 rw [ht1] at h2;rw [ht2,eqL] at h3;have k3:(t2.text.toList==[123])=false:=h3;clear h hi hT ht h1 h3 h4 ht1 ht2;go_enter Tryz.func24,Tryz.ntmps24;go_wp2_with fail;refine (HPK.out w HS.out).mono ?_;rintro e w1 ⟨rfl,hk⟩;have HA1:=zz (At.of_no HS.out hk);clear hk;go_upto_region 3 with fail
 have hnw:(w1.alloc (.cells #[.int .i64 0,.int .i64 (t.at_:Int),.string ⟨#[]⟩,.string ⟨#[]⟩,.int .i64 0,.bool false,.int .u64 0,.slice none 0 0,.slice none 0 0,.pointer none,.pointer none,.slice none 0 0,.bool false] 97)).heap[w1.heap.size]?=some (.cells (itRow 0 (t.at_:Int) Sy.vr0 nil nil none none nil false) 97 (0,0)):=heap_alloc_new _ _;have HA2:=zz (HA1.out.no ((Keeps.refl _ w1).alloc (.cells #[.int .i64 0,.int .i64 (t.at_:Int),.string ⟨#[]⟩,.string ⟨#[]⟩,.int .i64 0,.bool false,.int .u64 0,.slice none 0 0,.slice none 0 0,.pointer none,.pointer none,.slice none 0 0,.bool false] 97)));generalize w1.alloc (.cells #[.int .i64 0,.int .i64 (t.at_:Int),.string ⟨#[]⟩,.string ⟨#[]⟩,.int .i64 0,.bool false,.int .u64 0,.slice none 0 0,.slice none 0 0,.pointer none,.pointer none,.slice none 0 0,.bool false] 97)=w2 at hnw HA2 ⊢;obtain ⟨N,hN⟩:∃ n,w1.heap.size=n:=⟨_,rfl⟩;have HWN:Hid (w.heap.size≤N∧K.B≤N):=zz ⟨by have:=HA1.out.k.size; omega,by have:=HA1.out.p.ord.2.2.2; omega⟩;rw [hN] at hnw ⊢;have HN2:Hid (IM w2 N (itRow 0 (t.at_:Int) Sy.vr0 nil nil none none nil false) 56 2 nil 0 []):=zz (IM.bare hnw);clear hnw hN;go_wp2_with fail;refine (HIS.out w2 HA2.out.p).mono ?_;rintro e w3 ⟨rfl,hk⟩;have HA3:=zz (HA2.out.no hk);have HN3:=zz (HN2.out.no hk);clear hk;go_wp2_with fail;refine (HP1.out w3 HA3.out.p).mono ?_;rintro e w4 ⟨rfl,hk⟩;have HA4:=zz (HA3.out.no hk);have HN4:=zz (HN3.out.no hk);clear hk;go_wp2_with fail;refine (HP2.out w4 HA4.out.p).mono ?_;rintro e w5 ⟨rfl,hk⟩;have HA5:=zz (HA4.out.no hk);have HN5:=zz (HN4.out.no hk);clear hk;go_wp2_with fail;refine (HTD.out w5 HA5.out.p).mono ?_;rintro e w6 ⟨rfl,hk⟩;have HA6:=zz (HA5.out.no hk);have HN6:=zz (HN5.out.no hk);clear hk;have hb:=declaration_any K σ σ w w6 N (t.at_:Int) HS.out HA6.out HWN.out.1 HN6.out.row HI.out;unfold FillI at hb;go_wp2_with fail;refine hb.mono ?_;clear hb;rintro e' w9 ⟨rfl,hat,hit⟩;have HA9:=zz hat;have HX9:=zz hit;clear hat hit;go_wp2_with fail;go_returns;rw [HM.out];exact ⟨_,rfl,HA9.out,fun hc=>(HX9.out hc).mono HWN.out.1⟩
theorem item_any (K:Pk) (σ:Sy.St) (w:World) (h:PS w K σ) (hi:σ.at_ < K.C.T.length) (hT:σ.types.length≤1000000) :
    Calls Tryz.prog 24 #[.pointer (some ⟨K.P,0,none⟩)] w (ItPost w K (Sy.itemM K.C σ)):=by
 obtain ⟨b1,h1⟩:∃ b,Sy.isM K.C σ ⟨#[115,116,114,117,99,116]⟩=b:=⟨_,rfl⟩;obtain ⟨b4,h4⟩:∃ b,Sy.isM K.C σ ⟨#[116,121,112,101,100,101,102]⟩=b:=⟨_,rfl⟩;obtain ⟨b2,h2⟩:∃ b,((Sy.peekM K.C σ 1).kind==1)=b:=⟨_,rfl⟩;obtain ⟨b3,h3⟩:∃ b,((Sy.peekM K.C σ 2).text==⟨#[123]⟩)=b:=⟨_,rfl⟩;cases b1 with
 | false =>
   cases b4 with
   | true=>exact item_typedef K σ w h hi hT h1 h4
   | false=>exact item_declA K σ w h hi hT h1 h4
 | true =>
   have h5:Sy.isM K.C σ ⟨#[116,121,112,101,100,101,102]⟩=false:=by
    unfold Sy.isM at h1 ⊢;rw [eq_of_beq h1]; decide
   rw [h4] at h5;subst h5;cases b2 with
   | false=>exact item_declB K σ w h hi hT h1 h2 h4
   | true =>
     cases b3 with
     | false=>exact item_declC K σ w h hi hT h1 h2 h3 h4
     | true=>exact item_struct K σ w h hi hT h1 h2 h3
structure BW (w:World) (W B:Nat) (x:Sy.Wr):Prop where
 ex:∃ (p:Option Addr) (v:Value),(p=none∨p=some ⟨W,0,none⟩)∧w.heap[W]?=some (.cells #[.pointer p,v,.int .i64 x.depth,.int .i64 x.most,.bool x.fresh] 132 (0,0))∧w.ownsRow B 5 1 v x.out.size (Lib.strCells x.out)∧(∀ q,v.ownBlock=some q→q≠W)
 lo:B≤W
 hB:B≤w.heap.size
def U8 (w:World) (B W q:Nat):Prop:=q=W∨(B≤q∧∃ cs f,w.heap[q]?=some (.cells cs 5 f))
structure WA (w w':World) (W B:Nat) (x:Sy.Wr):Prop where
 p:BW w' W B x
 k:Keeps (U8 w B W) w w'
theorem U8.back {w w1:World} {B W q:Nat} (hk:Keeps (U8 w B W) w w1) (hq:q < w.heap.size) (h:U8 w1 B W q):U8 w B W q:=by
 refine Classical.byContradiction (fun hn=>hn ?_);have hb:=hk.block q hq hn;rcases h with h | ⟨h1,cs,f,h2⟩
 · exact .inl h
 · exact .inr ⟨h1,cs,f,hb ▸ h2⟩
theorem WA.trans {a b c:World} {W B:Nat} {x y:Sy.Wr} (h:WA a b W B x) (g:WA b c W B y):WA a c W B y:=⟨g.p,h.k.trans g.k (fun q hq e=>U8.back h.k hq e)⟩
theorem BW.lt {w:World} {W B:Nat} {x:Sy.Wr} (h:BW w W B x):W < w.heap.size:=by
 obtain ⟨p,v,_,h1,_⟩:=h.ex;exact (Array.getElem?_eq_some_iff.1 h1).1
theorem BW.no {w w':World} {W B:Nat} {x:Sy.Wr} (h:BW w W B x) (hk:Keeps No w w'):BW w' W B x:=by
 have hl:=h.lt;obtain ⟨p,v,hp,h1,h2,h3⟩:=h.ex;exact ⟨⟨p,v,hp,(hk.block _ hl (fun e=>e)).trans h1,own_kept h2 (fun q hq=>hk.block q (own_ltb h2 hq) (fun e=>e)),h3⟩,h.lo,Nat.le_trans h.hB hk.size⟩
theorem WA.refl {w:World} {W B:Nat} {x:Sy.Wr} (h:BW w W B x):WA w w W B x:=⟨h,Keeps.refl _ _⟩
theorem WA.no {a b c:World} {W B:Nat} {x:Sy.Wr} (h:WA a b W B x) (hk:Keeps No b c):WA a c W B x:=⟨h.p.no hk,h.k.trans hk (fun _ _ e=>e.elim)⟩
theorem WA.after {a b c:World} {W B:Nat} {x:Sy.Wr} (hk:Keeps No a b) (h:WA b c W B x):WA a c W B x:=⟨h.p,(hk.mono (T:=U8 a B W) (fun _ _ e=>e.elim)).trans h.k (fun q hq e=>by
 rcases e with e | ⟨h1,cs,f,h2⟩
 · exact .inl e
 · exact .inr ⟨h1,cs,f,(hk.block q hq (fun e=>e)) ▸ h2⟩)⟩
theorem WA.stay {a b:World} {W B:Nat} {x:Sy.Wr} (h:WA a b W B x) {q:Nat} {cs:Array Value} {ty:TypeId} {f:Nat × Nat} (hr:a.heap[q]?=some (.cells cs ty f)) (hW:q≠W) (hT:ty≠5):b.heap[q]?=some (.cells cs ty f) :=
 (h.k.block q (Array.getElem?_eq_some_iff.1 hr).1 (fun e=>by
  rcases e with e | ⟨_,cs',f',h2⟩
  · exact hW e
  · rw [hr] at h2; injection h2 with h2; injection h2 with _ h2 _; exact hT h2)).trans hr
theorem ExD.wa {w w':World} {W B:Nat} {x:Sy.Wr} {a:Option Addr} {e:Sy.Ex} (h:ExD w (fun q=>q < B) a e) (hk:WA w w' W B x):ExD w' (fun q=>q < B) a e :=
 h.keep hk.k (fun q hq=>.inl (fun hb=>by rcases hq with rfl | hq; have h1:=hk.p.lo; omega; have h1:=hq.1; omega))
theorem SmD.wa {w w':World} {W B:Nat} {x:Sy.Wr} {a:Option Addr} {e:Sy.Sm} (h:SmD w (fun q=>q < B) a e) (hk:WA w w' W B x):SmD w' (fun q=>q < B) a e :=
 h.keep hk.k (fun q hq=>.inl (fun hb=>by rcases hq with rfl | hq; have h1:=hk.p.lo; omega; have h1:=hq.1; omega))
theorem ItD.wa {w w':World} {W B:Nat} {x:Sy.Wr} {a:Option Addr} {e:Sy.It} (h:ItD w (fun q=>q < B) a e) (hk:WA w w' W B x):ItD w' (fun q=>q < B) a e :=
 h.keep hk.k (fun q hq=>.inl (fun hb=>by rcases hq with rfl | hq; have h1:=hk.p.lo; omega; have h1:=hq.1; omega))
theorem BW.put {w:World} {W B:Nat} {p:Option Addr} {v:Value} {x y:Sy.Wr} {c:Array Value} (j:Nat) (u:Value) (hlo:B≤W) (hB:B≤w.heap.size) (hr:w.heap[W]?=some (.cells c 132 (0,0)))
    (hc:c.setIfInBounds j u=#[.pointer p,v,.int .i64 y.depth,.int .i64 y.most,.bool y.fresh]) (hp:p=none∨p=some ⟨W,0,none⟩) (ho:w.ownsRow B 5 1 v y.out.size (Lib.strCells y.out)) (hn:∀ q,v.ownBlock=some q→q≠W) :
    BW (w.setCell ⟨W,j,none⟩ u) W B y :=
 ⟨⟨p,v,hp,by rw [heap_setCell_same w W j _ _ _ hr,hc],own_kept ho (fun q hq=>Below.heap_setCell _ _ _ _ (fun e=>hn q hq (by simpa using e))),hn⟩,hlo,by simpa [World.setCell] using hB⟩
theorem infoU8:(Tryz.prog.info? 5).map (fun i=>(i.zero,i.size,i.bytes))=some (some (.int .u8 0),1,1):=by kernel_rfl
theorem sizeBld:(Tryz.prog.info? 104).map (fun j=>j.size)=some 2:=by kernel_rfl
theorem liesBld:liesAt Tryz.prog Tryz.prog.depth 132 (5 / Tryz.prog.cellsOf 132) 0 104 1=true:=by kernel_rfl
theorem check_any (W B:Nat) (x:Sy.Wr) (w:World) (h:BW w W B x):Calls Tryz.prog 51 #[.pointer (some ⟨W,0,none⟩)] w fun e w'=>e=.returned (.tuple #[]) ∧
    (∃ v,w'.heap[W]?=some (.cells #[.pointer (some ⟨W,0,none⟩),v,.int .i64 x.depth,.int .i64 x.most,.bool x.fresh] 132 (0,0))∧w'.ownsRow B 5 1 v x.out.size (Lib.strCells x.out)∧(∀ q,v.ownBlock=some q→q≠W))∧Keeps (fun q=>q=W) w w':=by
 obtain ⟨j,hj,hjs⟩:=Option.map_eq_some_iff.1 sizeBld;obtain ⟨p,v,hp,hr,ho,hn⟩:=h.ex;have hsh:w.shape? W=some (132,5):=by simp [World.shape?,hr]
 have hfz:w.frozen? ⟨W,0,none⟩=false:=frozen_of_row w W 0 _ _ hr;have h0:w.cell? ⟨W,0,none⟩=some (.pointer p):=by rw [cell_of_row w W 0 _ _ _ hr]; rfl
 rcases hp with rfl | rfl
 · have HE:Hid ((∃ v',(w.setCell ⟨W,0,none⟩ (.pointer (some ⟨W,0,none⟩))).heap[W]?=some (.cells #[.pointer (some ⟨W,0,none⟩),v',.int .i64 x.depth,.int .i64 x.most,.bool x.fresh] 132 (0,0))∧(w.setCell ⟨W,0,none⟩ (.pointer (some ⟨W,0,none⟩))).ownsRow B 5 1 v' x.out.size (Lib.strCells x.out)∧(∀ q,v'.ownBlock=some q→q≠W))∧Keeps (fun q=>q=W) w (w.setCell ⟨W,0,none⟩ (.pointer (some ⟨W,0,none⟩)))) :=
    zz ⟨⟨v,by rw [heap_setCell_same w W 0 _ _ _ hr]; rfl,own_kept ho (fun q hq=>Below.heap_setCell _ _ _ _ (fun e=>hn q hq (by simpa using e))),hn⟩,(Keeps.refl (fun q=>q=W) w).setCell (.inl rfl) _⟩
   clear hr ho hn h;go_enter Tryz.func51,Tryz.ntmps51;go_wp2;rw [Lib.run_to_unsafe w ⟨W,0,none⟩ Tryz.underlying102 Tryz.underlying153 hj (by rw [hjs]; decide) hsh (by show 0 < 5; decide)];simp only [Result.andThen];rw [Oper.upon_value];go_wp2;rw [run_callFunc_extern Tryz.func82 (by kernel_rfl) (by kernel_rfl) (by kernel_rfl) (e:=Extern.AbiNoEscape.same) (by kernel_rfl)];rw [Lib.run_noEscape];simp only [Result.andThen];rw [Oper.upon_value];go_wp2;rw [Lib.run_from_unsafe w ⟨W,0,none⟩ Tryz.underlying153 Tryz.underlying102 hj hsh liesBld];simp only [Result.andThen];rw [Oper.upon_value];go_wp2;go_end0;exact ⟨rfl,HE.out⟩
 · have HE:Hid ((∃ v',w.heap[W]?=some (.cells #[.pointer (some ⟨W,0,none⟩),v',.int .i64 x.depth,.int .i64 x.most,.bool x.fresh] 132 (0,0))∧w.ownsRow B 5 1 v' x.out.size (Lib.strCells x.out)∧(∀ q,v'.ownBlock=some q→q≠W))∧Keeps (fun q=>q=W) w w) :=
    zz ⟨⟨v,hr,ho,hn⟩,Keeps.refl _ _⟩
   clear hr ho hn h;go_enter Tryz.func51,Tryz.ntmps51;go_wp2;rw [Lib.run_neq_ptr_same w _ Tryz.underlying102 hj];go_wp2;go_end0;exact ⟨rfl,HE.out⟩
theorem strCells_app (a b:ByteArray):Lib.strCells (a++b)=Lib.strCells a++Lib.strCells b:=by
 unfold Lib.strCells;rw [ByteArray.data_append,Array.toList_append,List.map_append]
theorem wstring_any (W B:Nat) (x:Sy.Wr) (s:ByteArray) (w:World) (h:BW w W B x) (hs:x.out.size+s.size≤140737488355328):Calls Tryz.prog 30 #[.pointer (some ⟨W,0,none⟩),.string s] w fun e w'=>e=.returned (.tuple #[.int .i64 s.size,.nilIface])∧WA w w' W B { x with out:=x.out++s }:=by
 obtain ⟨i0,hi,hz0,hz1,hz2⟩:=info_parts infoU8;have HC:=zz (check_any W B x w h);have HH:=zz h;clear h;go_enter Tryz.func30,Tryz.ntmps30;go_wp2_with fail;refine HC.out.mono ?_;rintro e w1 ⟨rfl,⟨v,hr,ho,hn⟩,hk⟩;have c1:w1.cell? ⟨W,1,none⟩=some v:=by rw [cell_of_row w1 W 1 _ _ _ hr]; rfl
 have HK:=zz hk;have HR:=zz hr;have HO:=zz ho;have HN:=zz hn;clear hr ho hn hk;go_wp2_with (at_builtin; refine Lib.wpList_append_own_string _ rfl _ _ 28 9 rfl B 5 i0 Tryz.underlying28 Tryz.underlying9 hi hz0 hz1 hz2 _ _ _ rfl HO.out s rfl ?c3 ?c4 ?c5 ?_)
 case c3=>unfold maxLen; omega
 case c4=>omega
 case c5=>exact Nat.le_trans HH.out.hB HK.out.size
 intro v' w2 hown' hgrow _;have hb2:w2.heap[W]?=some (.cells #[.pointer (some ⟨W,0,none⟩),v,.int .i64 x.depth,.int .i64 x.most,.bool x.fresh] 132 (0,0)):=(hgrow.block W (Array.getElem?_eq_some_iff.1 HR.out).1 (fun e=>HN.out W e.symm rfl)).trans HR.out;have d1:w2.cell? ⟨W,1,none⟩=some v:=by rw [cell_of_row w2 W 1 _ _ _ hb2]; rfl
 have f1:w2.frozen? ⟨W,1,none⟩=false:=frozen_of_row w2 W 1 _ _ hb2;have HFA:Hid (WA w (w2.setCell ⟨W,1,none⟩ v') W B { x with out:=x.out++s }):=zz (by
  have hne:∀ q,v'.ownBlock=some q→q≠W:=fun q hq e=>by
   subst e;rcases hown'.2 with ⟨h1,_⟩ | ⟨g,cap,cur,h1,h2,h3,_⟩
   · rw [h1] at hq; cases hq
   · rw [h1] at hq;obtain rfl:g=q:=by injection hq
     rw [hb2] at h3; injection h3 with h3; injection h3 with _ h3 _
     exact absurd h3 (by decide)
  have hk2:Keeps (U8 w B W) w w2:=by
   refine (HK.out.mono (T:=U8 w B W) (fun k _ e=>.inl e)).grown hgrow (fun q hq=>?_);by_cases hl:q < w.heap.size
   · left;rcases HO.out.2 with ⟨h1,_⟩ | ⟨g,cap,cur,h1,h2,h3,_⟩
     · rw [h1] at hq; cases hq
     · rw [h1] at hq;obtain rfl:g=q:=by injection hq
       have hgW:g≠W:=HN.out g (by rw [h1]; rfl);exact .inr ⟨h2,cur,(0,0),((HK.out.block g hl (fun e=>hgW e)).symm.trans h3)⟩
   · right; omega
  refine ⟨⟨⟨some ⟨W,0,none⟩,v',.inr rfl,by rw [heap_setCell_same w2 W 1 _ _ _ hb2]; rfl,own_kept (by rw [strCells_app]; simpa using hown') (fun q hq=>Below.heap_setCell _ _ _ _ (fun e=>hne q hq (by simpa using e))),hne⟩,HH.out.lo,?_⟩,hk2.setCell (p:=⟨W,1,none⟩) (.inl (.inl rfl)) _⟩;have:=HH.out.hB; have:=hk2.size; simpa [World.setCell] using (by omega:B≤w2.heap.size))
 obtain ⟨ao,n',cap,rfl⟩:∃ ao n' cap,v'=.slice ao n' cap:=by
  rcases hown'.2 with ⟨hv,_⟩ | ⟨g,cap,cur,hv,_⟩
  · exact ⟨_,_,_,hv⟩
  · exact ⟨_,_,_,hv⟩
 clear hown' hgrow hb2 HC HO HN HR HK HH;go_wp2;go_ret2;exact ⟨rfl,HFA.out⟩
theorem wbyte_any (W B:Nat) (x:Sy.Wr) (c:UInt8) (w:World) (h:BW w W B x) (hs:x.out.size+1≤140737488355328):Calls Tryz.prog 98 #[.pointer (some ⟨W,0,none⟩),.int .u8 (c.toNat:Int)] w fun e w'=>e=.returned .nilIface∧WA w w' W B { x with out:=x.out++⟨#[c]⟩ }:=by
 obtain ⟨i0,hi,hz0,hz1,hz2⟩:=info_parts infoU8;have HC:=zz (check_any W B x w h);have HH:=zz h;obtain ⟨cc,hcc⟩:∃ z:Int,(c.toNat:Int)=z:=⟨_,rfl⟩;have HCC:=zz hcc;rw [hcc];clear h hcc;go_enter Tryz.func98,Tryz.ntmps98;go_wp2_with fail;refine HC.out.mono ?_;rintro e w1 ⟨rfl,⟨v,hr,ho,hn⟩,hk⟩;have c1:w1.cell? ⟨W,1,none⟩=some v:=by rw [cell_of_row w1 W 1 _ _ _ hr]; rfl
 have HK:=zz hk;have HR:=zz hr;have HO:=zz ho;have HN:=zz hn;clear hr ho hn hk;go_wp2_with (at_builtin; refine wpList_append_own _ rfl _ _ 28 rfl B 5 i0 (.int .u8 0) 1 1 Tryz.underlying28 hi hz0 hz1 hz2 rfl (by decide) _ _ _ rfl (HO.out.alloc _) ⟨w1.heap.size,0,none⟩ 1 1 [.int .u8 cc] rfl rfl ?c1 ?c2 ?c3 ?c4 ?c5 ?_)
 case c1 =>
  intro j u hj
  match j,hj with
  | 0,hj=>simp at hj; subst hj; simp [Addr.add]
 case c2=>intro u hu; simp at hu; subst hu; rfl
 case c3=>unfold maxLen; omega
 case c4=>omega
 case c5=>have:=HK.out.size; have:=HH.out.hB; simp; omega
 intro v' w2 hown' hgrow _;have hb2:w2.heap[W]?=some (.cells #[.pointer (some ⟨W,0,none⟩),v,.int .i64 x.depth,.int .i64 x.most,.bool x.fresh] 132 (0,0)):=by
  have hl:=(Array.getElem?_eq_some_iff.1 HR.out).1;exact (hgrow.block W (by simp; omega) (fun e=>HN.out W e.symm rfl)).trans ((Below.heap_alloc _ _ _ hl).trans HR.out)
 have d1:w2.cell? ⟨W,1,none⟩=some v:=by rw [cell_of_row w2 W 1 _ _ _ hb2]; rfl
 have f1:w2.frozen? ⟨W,1,none⟩=false:=frozen_of_row w2 W 1 _ _ hb2;have HFA:Hid (WA w (w2.setCell ⟨W,1,none⟩ v') W B { x with out:=x.out++⟨#[c]⟩ }):=zz (by
  have hne:∀ q,v'.ownBlock=some q→q≠W:=fun q hq e=>by
   subst e;rcases hown'.2 with ⟨h1,_⟩ | ⟨g,cap,cur,h1,h2,h3,_⟩
   · rw [h1] at hq; cases hq
   · rw [h1] at hq;obtain rfl:g=q:=by injection hq
     rw [hb2] at h3; injection h3 with h3; injection h3 with _ h3 _
     exact absurd h3 (by decide)
  have hk2:Keeps (U8 w B W) w w2:=by
   refine ((HK.out.mono (T:=U8 w B W) (fun k _ e=>.inl e)).alloc _).grown hgrow (fun q hq=>?_);by_cases hl:q < w.heap.size
   · left;rcases HO.out.2 with ⟨h1,_⟩ | ⟨g,cap,cur,h1,h2,h3,_⟩
     · rw [h1] at hq; cases hq
     · rw [h1] at hq;obtain rfl:g=q:=by injection hq
       have hgW:g≠W:=HN.out g (by rw [h1]; rfl);exact .inr ⟨h2,cur,(0,0),((HK.out.block g hl (fun e=>hgW e)).symm.trans h3)⟩
   · right; omega
  refine ⟨⟨⟨some ⟨W,0,none⟩,v',.inr rfl,by rw [heap_setCell_same w2 W 1 _ _ _ hb2]; rfl,own_kept (by rw [strCells_app,show (x.out++(⟨#[c]⟩:ByteArray)).size=x.out.size+1 from by rw [ByteArray.size_append]; rfl]; simpa [Lib.strCells,HCC.out] using hown') (fun q hq=>Below.heap_setCell _ _ _ _ (fun e=>hne q hq (by simpa using e))),hne⟩,HH.out.lo,?_⟩,hk2.setCell (p:=⟨W,1,none⟩) (.inl (.inl rfl)) _⟩;have:=HH.out.hB; have:=hk2.size; simpa [World.setCell] using (by omega:B≤w2.heap.size))
 obtain ⟨ao,n',cap,rfl⟩:∃ ao n' cap,v'=.slice ao n' cap:=by
  rcases hown'.2 with ⟨hv,_⟩ | ⟨g,cap,cur,hv,_⟩
  · exact ⟨_,_,_,hv⟩
  · exact ⟨_,_,_,hv⟩
 clear hown' hgrow hb2 HC HO HN HR HK HH;go_wp2;go_ret;exact ⟨rfl,HFA.out⟩
end Go.Proofs.YtjgkacggjhobmaaGreatDoor
namespace Go.Proofs
open Go.Shelf
def Tryz.lays283_ren:Go.Shelf.Ren:=⟨fun | 283=>118 | n=>n,fun | 3=>3 | 9=>9 | 4=>4 | n=>n,fun | n=>n⟩
theorem Tryz.lays283:Go.Proofs.Lays.n283 Tryz.prog Tryz.lays283_ren:={
 mixed:=by kernel_rfl
 f283:=Tryz.func118.trans (congrArg some (by kernel_rfl))
 t3:=Tryz.underlying3
 a3:=Tryz.isAgg3
 z3:=Tryz.sizeOf3
 v3:=Tryz.zeroValue3
 t4:=Tryz.underlying4
 a4:=Tryz.isAgg4
 z4:=Tryz.sizeOf4
 v4:=Tryz.zeroValue4
 t9:=Tryz.underlying9
 a9:=Tryz.isAgg9
 z9:=Tryz.sizeOf9
 v9:=Tryz.zeroValue9 }
open Go.Lib in
theorem Tryz.internal_strconv_small (i:Nat) (h:i < 100) (w:World) :
    Calls Tryz.prog 118 #[.int .i64 i] w fun e w'=>e=.returned (.string ⟨(Lib.decDigits i).toArray⟩)∧w'=w:=Any.internal_strconv_small Tryz.lays283 i h w
def Tryz.laysM284_ren:Go.Shelf.Ren:=⟨fun | 284=>119 | 129=>132 | 317=>131 | 318=>133 | n=>n,fun | 53=>30 | 3=>3 | 212=>197 | 0=>0 | 4=>4 | 46=>45 | 5=>5 | 9=>9 | n=>n,fun | 17=>3 | n=>n⟩
theorem Tryz.laysM284:Go.Proofs.LaysM.n284 Tryz.prog Tryz.laysM284_ren:={
 mixed:=by kernel_rfl
 f129:=Tryz.func132.trans (congrArg some (by kernel_rfl))
 f284:=Tryz.func119.trans (congrArg some (by kernel_rfl))
 f317:=Tryz.func131.trans (congrArg some (by kernel_rfl))
 f318:=Tryz.func133.trans (congrArg some (by kernel_rfl))
 t0:=Tryz.underlying0
 a0:=Tryz.isAgg0
 z0:=Tryz.sizeOf0
 v0:=Tryz.zeroValue0
 t3:=Tryz.underlying3
 a3:=Tryz.isAgg3
 z3:=Tryz.sizeOf3
 v3:=Tryz.zeroValue3
 t4:=Tryz.underlying4
 a4:=Tryz.isAgg4
 z4:=Tryz.sizeOf4
 v4:=Tryz.zeroValue4
 t5:=Tryz.underlying5
 a5:=Tryz.isAgg5
 z5:=Tryz.sizeOf5
 v5:=Tryz.zeroValue5
 t9:=Tryz.underlying9
 a9:=Tryz.isAgg9
 z9:=Tryz.sizeOf9
 v9:=Tryz.zeroValue9
 t46:=Tryz.underlying45
 a46:=Tryz.isAgg45
 z46:=Tryz.sizeOf45
 v46:=Tryz.zeroValue45
 t53:=Tryz.underlying30
 a53:=Tryz.isAgg30
 z53:=Tryz.sizeOf30
 v53:=Tryz.zeroValue30
 t212:=Tryz.underlying197
 a212:=Tryz.isAgg197
 z212:=Tryz.sizeOf197
 v212:=Tryz.zeroValue197
 g17:=by kernel_rfl
 i0:=by kernel_rfl
 i3:=by kernel_rfl
 i4:=by kernel_rfl
 i5:=by kernel_rfl
 i9:=by kernel_rfl
 i46:=by kernel_rfl
 i53:=by kernel_rfl
 i212:=by kernel_rfl
 m17:=by kernel_rfl }
open Go.Lib in
theorem Tryz.internal_strconv_numDigits (u : Nat) (h1 : 1 ≤ u) (h2 : u < 18446744073709551616) (w : World) (htab : Lib.TabIs Tryz.prog w "internal/strconv.uint64pow10" .u64 Lib.pow10Tab) :
    Calls Tryz.prog 119 #[.int .u64 u] w fun e w'=>e=.returned (.int .i64 (Lib.nDigits u))∧w'=w:=Any.internal_strconv_numDigits Tryz.laysM284 u h1 h2 w htab
def Tryz.lays285_ren:Go.Shelf.Ren:=⟨fun | 285=>120 | n=>n,fun | 37=>28 | 53=>30 | 3=>3 | 4=>4 | 51=>133 | 9=>9 | 5=>5 | 0=>0 | n=>n,fun | n=>n⟩
theorem Tryz.lays285:Go.Proofs.Lays.n285 Tryz.prog Tryz.lays285_ren:={
 mixed:=by kernel_rfl
 f285:=Tryz.func120.trans (congrArg some (by kernel_rfl))
 t0:=Tryz.underlying0
 a0:=Tryz.isAgg0
 z0:=Tryz.sizeOf0
 v0:=Tryz.zeroValue0
 t3:=Tryz.underlying3
 a3:=Tryz.isAgg3
 z3:=Tryz.sizeOf3
 v3:=Tryz.zeroValue3
 t4:=Tryz.underlying4
 a4:=Tryz.isAgg4
 z4:=Tryz.sizeOf4
 v4:=Tryz.zeroValue4
 t5:=Tryz.underlying5
 a5:=Tryz.isAgg5
 z5:=Tryz.sizeOf5
 v5:=Tryz.zeroValue5
 t9:=Tryz.underlying9
 a9:=Tryz.isAgg9
 z9:=Tryz.sizeOf9
 v9:=Tryz.zeroValue9
 t37:=Tryz.underlying28
 a37:=Tryz.isAgg28
 z37:=Tryz.sizeOf28
 v37:=Tryz.zeroValue28
 t51:=Tryz.underlying133
 a51:=Tryz.isAgg133
 z51:=Tryz.sizeOf133
 v51:=Tryz.zeroValue133
 t53:=Tryz.underlying30
 a53:=Tryz.isAgg30
 z53:=Tryz.sizeOf30
 v53:=Tryz.zeroValue30 }
open Go.RowKit Go.Sort Go.Lib in
theorem Tryz.internal_strconv_formatBase10 (blk off cap:Nat) (u:Nat) (d:Array UInt8) (w:World) (hH:Holds (fun (b:UInt8)=>Value.int .u8 (b.toNat:Int)) w blk off d) (hu:u < 10 ^ d.size) (hu64:u < 18446744073709551616) (hsz:d.size < 4611686018427387904) :
    Calls Tryz.prog 120 #[.slice (some ⟨blk,off,none⟩) d.size cap,.int .u64 u] w fun e w' =>
     e=.returned (.tuple #[])∧∃ (n v':Nat) (dk:Array UInt8),w'=(putRow (fun (b:UInt8)=>Value.int .u8 (b.toNat:Int)) w blk off dk).drewN n∧FmtInv d.size u 0 v' dk:=Any.internal_strconv_formatBase10 Tryz.lays285 blk off cap u d w hH hu hu64 hsz
def Tryz.lays105_ren:Go.Shelf.Ren:=⟨fun | 105=>19 | 212=>27 | 99=>28 | 165=>29 | 166=>30 | 170=>31 | 169=>32 | 263=>48 | 264=>49 | 206=>50 | 240=>51 | 241=>52 | 276=>82 | 277=>83 | n=>n,fun | 9=>9 | 3=>3 | 4=>4 | 20=>20 | 0=>0 | 46=>45 | 109=>99 | 5=>5 | 72=>104 | 76=>108 | 51=>133 | 146=>134 | 53=>30 | 148=>136 | 70=>102 | 37=>28 | 75=>107 | 127=>138 | 164=>153 | 80=>61 | n=>n,fun | n=>n⟩
theorem Tryz.lays105:Go.Proofs.Lays.n105 Tryz.prog Tryz.lays105_ren:={
 mixed:=by kernel_rfl
 f99:=Tryz.func28.trans (congrArg some (by kernel_rfl))
 f105:=Tryz.func19.trans (congrArg some (by kernel_rfl))
 f165:=Tryz.func29.trans (congrArg some (by kernel_rfl))
 f166:=Tryz.func30.trans (congrArg some (by kernel_rfl))
 f169:=Tryz.func32.trans (congrArg some (by kernel_rfl))
 f170:=Tryz.func31.trans (congrArg some (by kernel_rfl))
 f206:=Tryz.func50.trans (congrArg some (by kernel_rfl))
 f212:=Tryz.func27.trans (congrArg some (by kernel_rfl))
 f240:=Tryz.func51.trans (congrArg some (by kernel_rfl))
 f241:=Tryz.func52.trans (congrArg some (by kernel_rfl))
 f263:=Tryz.func48.trans (congrArg some (by kernel_rfl))
 f264:=Tryz.func49.trans (congrArg some (by kernel_rfl))
 f276:=Tryz.func82.trans (congrArg some (by kernel_rfl))
 f277:=Tryz.func83.trans (congrArg some (by kernel_rfl))
 t0:=Tryz.underlying0
 a0:=Tryz.isAgg0
 z0:=Tryz.sizeOf0
 v0:=Tryz.zeroValue0
 t3:=Tryz.underlying3
 a3:=Tryz.isAgg3
 z3:=Tryz.sizeOf3
 v3:=Tryz.zeroValue3
 t4:=Tryz.underlying4
 a4:=Tryz.isAgg4
 z4:=Tryz.sizeOf4
 v4:=Tryz.zeroValue4
 t5:=Tryz.underlying5
 a5:=Tryz.isAgg5
 z5:=Tryz.sizeOf5
 v5:=Tryz.zeroValue5
 t9:=Tryz.underlying9
 a9:=Tryz.isAgg9
 z9:=Tryz.sizeOf9
 v9:=Tryz.zeroValue9
 t20:=Tryz.underlying20
 a20:=Tryz.isAgg20
 z20:=Tryz.sizeOf20
 v20:=Tryz.zeroValue20
 t37:=Tryz.underlying28
 a37:=Tryz.isAgg28
 z37:=Tryz.sizeOf28
 v37:=Tryz.zeroValue28
 t46:=Tryz.underlying45
 a46:=Tryz.isAgg45
 z46:=Tryz.sizeOf45
 v46:=Tryz.zeroValue45
 t51:=Tryz.underlying133
 a51:=Tryz.isAgg133
 z51:=Tryz.sizeOf133
 v51:=Tryz.zeroValue133
 t53:=Tryz.underlying30
 a53:=Tryz.isAgg30
 z53:=Tryz.sizeOf30
 v53:=Tryz.zeroValue30
 t70:=Tryz.underlying102
 a70:=Tryz.isAgg102
 z70:=Tryz.sizeOf102
 v70:=Tryz.zeroValue102
 t72:=Tryz.underlying104
 a72:=Tryz.isAgg104
 z72:=Tryz.sizeOf104
 v72:=Tryz.zeroValue104
 t75:=Tryz.underlying107
 a75:=Tryz.isAgg107
 z75:=Tryz.sizeOf107
 v75:=Tryz.zeroValue107
 t76:=Tryz.underlying108
 a76:=Tryz.isAgg108
 z76:=Tryz.sizeOf108
 v76:=Tryz.zeroValue108
 t109:=Tryz.underlying99
 a109:=Tryz.isAgg99
 z109:=Tryz.sizeOf99
 v109:=Tryz.zeroValue99
 t127:=Tryz.underlying138
 a127:=Tryz.isAgg138
 z127:=Tryz.sizeOf138
 v127:=Tryz.zeroValue138
 t146:=Tryz.underlying134
 a146:=Tryz.isAgg134
 z146:=Tryz.sizeOf134
 v146:=Tryz.zeroValue134
 t148:=Tryz.underlying136
 a148:=Tryz.isAgg136
 z148:=Tryz.sizeOf136
 v148:=Tryz.zeroValue136
 t164:=Tryz.underlying153
 a164:=Tryz.isAgg153
 z164:=Tryz.sizeOf153
 v164:=Tryz.zeroValue153 }
theorem Tryz.Builder_Extra_105:Builder.Extra Tryz.prog Tryz.lays105_ren:={
 sizeBuilder:=by kernel_rfl
 liesBuilder:=by kernel_rfl
 t5:=Tryz.underlying5
 a5:=Tryz.isAgg5
 z5:=Tryz.sizeOf5
 v5:=Tryz.zeroValue5
 infoByte:=by kernel_rfl
 cellsByte:=by kernel_rfl
 sizeByte:=by kernel_rfl
 neB5:=by decide }
open Go.RowKit Go.Lib in
theorem Tryz.strings_Repeat (s:ByteArray) (c:Nat) (w:World) (hc:c≤9223372036854775807) (hlen:s.size * c≤140737488355328) :
    Calls Tryz.prog 19 #[.string s,.int .i64 c] w fun e w'=>e=.returned (.string ⟨(Lib.repeatL s.data.toList c).toArray⟩)∧Below w.heap.size w w':=Any.strings_Repeat Tryz.lays105 Tryz.Builder_Extra_105 s c w hc hlen
end Go.Proofs
