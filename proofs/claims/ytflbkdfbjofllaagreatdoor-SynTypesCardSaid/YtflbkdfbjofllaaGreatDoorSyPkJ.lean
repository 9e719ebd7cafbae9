import Derived.Test.YtflbkdfbjofllaaGreatDoorSyPkI
import Derived.Test.YtflbkdfbjofllaaGreatDoorSyPkF
set_option maxRecDepth 100000
set_option maxHeartbeats 25600000
set_option linter.unusedSimpArgs false
set_option linter.unusedVariables false
namespace Go.Proofs.YtflbkdfbjofllaaGreatDoor
open Go.RowKit Lx
theorem param_as (K:Pk) (σ:Sy.St) (w:World) (h:PS w K σ):Calls Tryz.prog 117 #[.pointer (some ⟨K.P,0,none⟩)] w fun e w'=>e=.returned (.agg #[.string (Sy.paramM K.C σ).1.name,.string (Sy.paramM K.C σ).1.ty.base,.int .i64 (Sy.paramM K.C σ).1.ty.stars,.bool (Sy.paramM K.C σ).1.arr,.int .u64 (Sy.paramM K.C σ).1.num])∧At w w' K (Sy.paramM K.C σ).2:=param_any K σ w h
theorem function_any (K:Pk) (σ σ0:Sy.St) (w wc:World) (N:Nat) (at_:Int) (nm:ByteArray) (ty:Sy.Ty) (h0:PS w K σ0) (h:At w wc K σ) (hN:w.heap.size≤N)
    (hn:wc.heap[N]?=some (.cells (itRow 0 at_ ⟨nm,ty,false,0⟩ nil nil none none nil false) 69 (0,0))) (hi:σ.at_ < K.C.T.length) :
    FillI K w wc N 92 (Sy.functionM K.C ⟨0,at_,⟨nm,ty,false,0⟩,[],[],none,none,[],false⟩ σ):=by
 have hle:=h.p.le
 have HS:=zz h0
 have HA0:=zz h
 have HWN:Hid (w.heap.size≤N∧K.B≤N):=zz ⟨hN,Nat.le_trans h0.ord.2.2.2 hN⟩
 have HN0:Hid (IM wc N (itRow 0 at_ ⟨nm,ty,false,0⟩ nil nil none none nil false) 62 5 nil 0 []):=zz (IM.bare hn)
 have hlen:=h0.len
 have hr1:=rem_next hi
 obtain ⟨σ1,h1⟩:∃ x,Sy.nextM K.C σ=x:=⟨_,rfl⟩
 have hm1:Sy.Mo K.C σ σ1:=by rw [← h1]; exact (Sy.Mo.refl hle).next
 have HNX:=zz (fun W (hs:PS W K σ)=>next_any K σ W hs)
 rw [h1] at HNX hr1
 obtain ⟨b1,hb1⟩:∃ b,Sy.isM K.C σ1 ⟨#[41]⟩=b:=⟨_,rfl⟩
 have HT1:=zz (fun W (hs:PS W K σ1)=>take_any K σ1 ⟨#[41]⟩ b1 hb1 W hs)
 have hrs:rem K σ≤K.C.T.length:=by unfold rem; omega
 unfold FillI
 cases b1 with
 | true =>
   obtain ⟨σ2,h2⟩:∃ x,Sy.nextM K.C σ1=x:=⟨_,rfl⟩
   rw [h2] at HT1
   have HMF:Hid (Sy.functionM K.C ⟨0,at_,⟨nm,ty,false,0⟩,[],[],none,none,[],false⟩ σ=(if Sy.isM K.C σ2 ⟨#[59]⟩ then (⟨3,at_,⟨nm,ty,false,0⟩,[],[],none,none,[],false⟩,Sy.nextM K.C σ2) else if Sy.isM K.C σ2 ⟨#[123]⟩ then (⟨4,at_,⟨nm,ty,false,0⟩,[],[],some (Sy.blockM K.C σ2).1,none,[],false⟩,(Sy.blockM K.C σ2).2) else (⟨4,at_,⟨nm,ty,false,0⟩,[],[],none,none,[],false⟩,Sy.lostM K.C σ2))):=zz (by
    unfold Sy.functionM; simp only [h1,hb1,h2,if_true])
   clear h0 h hN hn hi hle hr1 h1 hm1 hb1 h2 hrs
   go_enter Tryz.func92,Tryz.ntmps92
   have yc:wc.cell? ⟨N,0,none⟩=some (.int .i64 0):=HN0.out.c (j:=0) rfl
   have zc:wc.frozen? ⟨N,0,none⟩=false:=HN0.out.f 0
   go_upto_region 1 with fail
   have HA1:=zz (HA0.out.newR HS.out ((Keeps.refl (fun q=>q=N) wc).setCell (p:=⟨N,0,none⟩) (.inl rfl) (.int .i64 3)) HWN.out.1)
   have HG1:=zz (HN0.out.setc (r':=itRow 3 at_ ⟨nm,ty,false,0⟩ nil nil none none nil false) 0 (.int .i64 3) rfl)
   generalize wc.setCell ⟨N,0,none⟩ (.int .i64 3)=w1 at HA1 HG1 ⊢
   clear yc zc
   go_wp2_with fail
   refine (HNX.out w1 HA1.out.p).mono ?_
   rintro e w2 ⟨rfl,hat⟩
   have HA2:=zz (HA1.out.trans hat)
   have HG2:=zz (HG1.out.at_ hat HWN.out.2)
   clear hat
   go_wp2_with fail
   refine (HT1.out w2 HA2.out.p).mono ?_
   rintro e w3 ⟨rfl,hat⟩
   have hat2:At w2 w3 K σ2:=hat
   have HA3a:=zz (HA2.out.trans hat2)
   have HG3a:=zz (HG2.out.at_ hat2 HWN.out.2)
   clear hat hat2
   obtain ⟨b2,hb2⟩:∃ b,Sy.isM K.C σ2 ⟨#[59]⟩=b:=⟨_,rfl⟩
   have HT2:=zz (fun W (hs:PS W K σ2)=>take_any K σ2 ⟨#[59]⟩ b2 hb2 W hs)
   go_wp2_with fail
   refine (HT2.out w3 HA3a.out.p).mono ?_
   cases b2 with
   | true =>
     obtain ⟨χ9,h9⟩:∃ x,Sy.nextM K.C σ2=x:=⟨_,rfl⟩
     have HM:Hid (Sy.functionM K.C ⟨0,at_,⟨nm,ty,false,0⟩,[],[],none,none,[],false⟩ σ=(⟨3,at_,⟨nm,ty,false,0⟩,[],[],none,none,[],false⟩,χ9)):=zz (by
      rw [HMF.out]; simp only [hb2,h9,if_true])
     rw [h9]
     rintro e' x2 ⟨rfl,hat⟩
     have hat2:At w3 x2 K χ9:=hat
     have HA9:=zz (HA3a.out.trans hat2)
     have HX9:=zz (IM.fin_vars (vs:=[]) (n:=0) (a:=none) (c:=0) (body:=none) (HG3a.out.at_ hat2 HWN.out.2) rfl .none)
     clear hat hat2 hb2 h9
     go_wp2_with fail
     go_returns
     rw [HM.out]
     exact ⟨rfl,HA9.out.toI,fun _=>HX9.out⟩
   | false =>
     rintro e' x2 ⟨rfl,hat⟩
     have hat2:At w3 x2 K σ2:=hat
     have HA3:=zz (HA3a.out.trans hat2)
     have HG3:=zz (HG3a.out.at_ hat2 HWN.out.2)
     clear hat hat2
     have yc:x2.cell? ⟨N,0,none⟩=some (.int .i64 3):=HG3.out.c (j:=0) rfl
     have zc:x2.frozen? ⟨N,0,none⟩=false:=HG3.out.f 0
     go_upto_region 9 with fail
     have HA4:=zz (HA3.out.newR HS.out ((Keeps.refl (fun q=>q=N) x2).setCell (p:=⟨N,0,none⟩) (.inl rfl) (.int .i64 4)) HWN.out.1)
     have HG4:=zz (HG3.out.setc (r':=itRow 4 at_ ⟨nm,ty,false,0⟩ (.slice none 0 0) nil none none nil false) 0 (.int .i64 4) rfl)
     generalize x2.setCell ⟨N,0,none⟩ (.int .i64 4)=x3 at HA4 HG4 ⊢
     clear yc zc
     obtain ⟨b3,hb3⟩:∃ b,Sy.isM K.C σ2 ⟨#[123]⟩=b:=⟨_,rfl⟩
     have HI3:=zz (fun W (hs:PS W K σ2)=>is_as K σ2 ⟨#[123]⟩ b3 hb3 W hs)
     go_wp2_with fail
     refine (HI3.out x3 HA4.out.p).mono ?_
     rintro e' x4 ⟨rfl,hk⟩
     have HA5:=zz (HA4.out.no hk)
     have HG5:=zz (HG4.out.no hk)
     clear hk
     cases b3 with
     | false =>
       have HLO:=zz (fun W (hs:PS W K σ2)=>lost_any K σ2 W hs)
       obtain ⟨χ9,h9⟩:∃ x,Sy.lostM K.C σ2=x:=⟨_,rfl⟩
       rw [h9] at HLO
       have HM:Hid (Sy.functionM K.C ⟨0,at_,⟨nm,ty,false,0⟩,[],[],none,none,[],false⟩ σ=(⟨4,at_,⟨nm,ty,false,0⟩,[],[],none,none,[],false⟩,χ9)):=zz (by
        rw [HMF.out]; simp only [hb2,hb3,h9,if_neg (show ¬ (false=true) by decide)])
       clear hb2 hb3 h9
       go_wp2_with fail
       refine (HLO.out x4 HA5.out.p).mono ?_
       rintro e' x5 ⟨rfl,hat⟩
       have HA9:=zz (HA5.out.trans hat)
       have HX9:=zz (IM.fin_vars (vs:=[]) (n:=0) (a:=none) (c:=0) (body:=none) (HG5.out.at_ hat HWN.out.2) rfl .none)
       clear hat
       go_wp2_with fail
       go_returns
       rw [HM.out]
       exact ⟨rfl,HA9.out.toI,fun _=>HX9.out⟩
     | true =>
       have HBL:=zz (fun W (hs:PS W K σ2)=>blockM_any K σ2 W hs)
       obtain ⟨r9,h9⟩:∃ x,Sy.blockM K.C σ2=x:=⟨_,rfl⟩
       rw [h9] at HBL
       obtain ⟨s9,χ9⟩:=r9
       have HM:Hid (Sy.functionM K.C ⟨0,at_,⟨nm,ty,false,0⟩,[],[],none,none,[],false⟩ σ=(⟨4,at_,⟨nm,ty,false,0⟩,[],[],some s9,none,[],false⟩,χ9)):=zz (by
        rw [HMF.out]; simp only [hb2,hb3,h9,if_true,if_neg (show ¬ (false=true) by decide)])
       clear hb2 hb3 h9
       go_wp2_with fail
       refine (HBL.out x4 HA5.out.p).mono ?_
       rintro e' x5 ⟨a9,rfl,hat,hsm⟩
       have HA6:=zz (HA5.out.trans hat)
       have HG6:=zz (HG5.out.at_ hat HWN.out.2)
       have HSM6:Hid (χ9.code=0→SmD x5 (fun q=>N≤q∧q ≠ N) a9 s9):=zz (fun hc=>SmD.mono (hsm hc) (fun q _ hd=>by
        have h1:x4.heap.size≤q:=hd
        have h2:=HG5.out.lt
        exact ⟨by omega,by omega⟩))
       clear hat hsm
       have yc:x5.cell? ⟨N,9,none⟩=some (.pointer none):=HG6.out.c (j:=9) rfl
       have zc:x5.frozen? ⟨N,9,none⟩=false:=HG6.out.f 9
       have hks:Keeps (fun q=>q=N) x5 (x5.setCell ⟨N,9,none⟩ (.pointer a9)):=(Keeps.refl (fun q=>q=N) x5).setCell (.inl rfl) _
       have HA9:=zz (HA6.out.newR HS.out hks HWN.out.1)
       have HX9:=zz (fun (hc:χ9.code=0)=>IM.fin_vars (vs:=[]) (n:=0) (a:=none) (c:=0) (body:=some s9) (HG6.out.setc (r':=itRow 4 at_ ⟨nm,ty,false,0⟩ (.slice none 0 0) nil a9 none nil false) 9 (.pointer a9) rfl) rfl (.some (((HSM6.out hc).keep hks (fun q e=>.inl (fun hd=>hd.2 e))).mono (fun q _ hd=>hd.1))))
       clear hks
       go_wp2_with fail
       go_returns
       rw [HM.out]
       exact ⟨rfl,HA9.out.toI,HX9.out⟩
 | false =>
   have HPA:=zz (fun W (hs:PS W K σ1)=>param_as K σ1 W hs)
   obtain ⟨r2,h2⟩:∃ x,Sy.paramM K.C σ1=x:=⟨_,rfl⟩
   have hm2:Sy.Mo K.C σ1 r2.2:=by rw [← h2]; exact (Sy.Mo.refl hm1.le).param
   rw [h2] at HPA
   obtain ⟨y1,σ2⟩:=r2
   simp only at hm2 HPA
   have hr2:=rem_mo hm2
   have hmL:Sy.Mo K.C σ2 (Sy.paramsM K.C K.C.T.length σ2 [y1]).2:=Sy.Mo.params _ _ _ (Sy.Mo.refl hm2.le)
   obtain ⟨rL,hL⟩:∃ x,Sy.paramsM K.C K.C.T.length σ2 [y1]=x:=⟨_,rfl⟩
   rw [hL] at hmL
   obtain ⟨vL,σL⟩:=rL
   simp only at hmL
   have HWL:=zz (fun W (hs:PS W K σL)=>want_any K σL ⟨#[41]⟩ W hs)
   obtain ⟨σ4,h4⟩:∃ x,Sy.wantM K.C σL ⟨#[41]⟩=x:=⟨_,rfl⟩
   rw [h4] at HWL
   have HMF:Hid (Sy.functionM K.C ⟨0,at_,⟨nm,ty,false,0⟩,[],[],none,none,[],false⟩ σ=(if Sy.isM K.C σ4 ⟨#[59]⟩ then (⟨3,at_,⟨nm,ty,false,0⟩,vL,[],none,none,[],false⟩,Sy.nextM K.C σ4) else if Sy.isM K.C σ4 ⟨#[123]⟩ then (⟨4,at_,⟨nm,ty,false,0⟩,vL,[],some (Sy.blockM K.C σ4).1,none,[],false⟩,(Sy.blockM K.C σ4).2) else (⟨4,at_,⟨nm,ty,false,0⟩,vL,[],none,none,[],false⟩,Sy.lostM K.C σ4))):=zz (by
    unfold Sy.functionM; simp only [h1,hb1,h2,hL,h4,if_neg (show ¬ (false=true) by decide)])
   have HL:Hid (rem K σ2+1≤K.C.T.length∧K.C.T.length≤6000∧Sy.paramsM K.C K.C.T.length σ2 [y1]=(vL,σL)):=zz ⟨by omega,hlen,hL⟩
   clear h0 h hN hn hi hle hr1 h1 hm1 hb1 h2 hrs hm2 hr2 hmL hL h4 hlen
   go_enter Tryz.func92,Tryz.ntmps92
   have yc:wc.cell? ⟨N,0,none⟩=some (.int .i64 0):=HN0.out.c (j:=0) rfl
   have zc:wc.frozen? ⟨N,0,none⟩=false:=HN0.out.f 0
   go_upto_region 1 with fail
   have HA1:=zz (HA0.out.newR HS.out ((Keeps.refl (fun q=>q=N) wc).setCell (p:=⟨N,0,none⟩) (.inl rfl) (.int .i64 3)) HWN.out.1)
   have HG1:=zz (HN0.out.setc (r':=itRow 3 at_ ⟨nm,ty,false,0⟩ nil nil none none nil false) 0 (.int .i64 3) rfl)
   generalize wc.setCell ⟨N,0,none⟩ (.int .i64 3)=w1 at HA1 HG1 ⊢
   clear yc zc
   go_wp2_with fail
   refine (HNX.out w1 HA1.out.p).mono ?_
   rintro e w2 ⟨rfl,hat⟩
   have HA2:=zz (HA1.out.trans hat)
   have HG2:=zz (HG1.out.at_ hat HWN.out.2)
   clear hat
   go_wp2_with fail
   refine (HT1.out w2 HA2.out.p).mono ?_
   rintro e w3 ⟨rfl,hat⟩
   have hat2:At w2 w3 K σ1:=hat
   have HA3a:=zz (HA2.out.trans hat2)
   have HG3a:=zz (HG2.out.at_ hat2 HWN.out.2)
   clear hat hat2
   go_upto_region 3 with fail
   have HSS:Hid (∀ q,(q=K.P∨(Value.slice none 0 0).ownBlock=some q)→q ≠ N):=zz (fun q hq e=>by
    rcases hq with hq | hq
    · have:=HS.out.ord; have:=HWN.out.2; omega
    · exact HG3a.out.ne q hq e)
   have pj:∀ u:KS (fun q=>q=K.P∨(Value.slice none 0 0).ownBlock=some q) w3,u.W.cell? ⟨N,7,none⟩=some (.slice none 0 0):=fun u=>u.cell (HG3a.out.c (j:=7) rfl) (fun e=>HSS.out N e rfl)
   have hne:Nonempty (KS (fun q=>q=K.P∨(Value.slice none 0 0).ownBlock=some q) w3):=⟨⟨w3,Keeps.refl _ _⟩⟩
   refine Mix.wp_region_mix (fun W'=>∃ u:KS (fun q=>q=K.P∨(Value.slice none 0 0).ownBlock=some q) w3,W'=u.W) [11] (by kernel_rfl) ?_
   have HV0:Hid (Keeps No w3 w3.drew):=zz ((Keeps.refl _ w3).drew)
   generalize w3.drew=v0 at HV0 ⊢
   have HC0:Hid (Keeps (fun q=>q=K.P∨(Value.slice none 0 0).ownBlock=some q) w3 v0):=zz (HV0.out.mono (fun _ _ e=>e.elim))
   have HAV0:=zz (HA3a.out.no HV0.out)
   have HGV0:=zz (HG3a.out.no HV0.out)
   refine Mix.mix_seg 0 6 6 (by kernel_rfl) (by kernel_rfl) rfl rfl ⟨⟨v0,HC0.out⟩,rfl⟩ ?_
   simp only [List.drop_succ_cons,List.drop_zero,List.take_succ_cons,List.take_zero]
   repeat (go_big_quiet_step (fail))
   refine wpQuiet_nil ?_
   clear pj
   refine Mix.mix_one 6 5 (by kernel_rfl) rfl rfl ?_
   simp only [List.drop_succ_cons,List.drop_zero,List.take_succ_cons,List.take_zero]
   go_wp2_with fail
   refine (HPA.out v0 HAV0.out.p).mono ?_
   rintro e' v1 ⟨rfl,hat⟩
   have HC1:Hid (Keeps (fun q=>q=K.P∨(Value.slice none 0 0).ownBlock=some q) w3 v1):=zz (HC0.out.trans hat.k (fun q _ e=>.inl e))
   have HAV1:=zz (HAV0.out.trans hat)
   have HGV1:=zz (HGV0.out.at_ hat HWN.out.2)
   clear hat
   go_wp2_with fail
   refine ⟨.inr ⟨⟨v1,HC1.out⟩,rfl⟩,?_⟩
   refine Mix.mix_one 7 4 (by kernel_rfl) rfl rfl ?_
   simp only [List.drop_succ_cons,List.drop_zero,List.take_succ_cons,List.take_zero]
   go_wp2_with fail
   have hk12:Keeps No v1 (v1.alloc (.cells #[.string y1.name,.string y1.ty.base,.int .i64 y1.ty.stars,.bool y1.arr,.int .u64 y1.num] 62)):=(Keeps.refl _ _).alloc _
   have hq2:(v1.alloc (.cells #[.string y1.name,.string y1.ty.base,.int .i64 y1.ty.stars,.bool y1.arr,.int .u64 y1.num] 62)).heap[v1.heap.size]?=some (.cells #[.string y1.name,.string y1.ty.base,.int .i64 y1.ty.stars,.bool y1.arr,.int .u64 y1.num] 62 (0,0)):=heap_alloc_new _ _
   generalize v1.alloc (.cells #[.string y1.name,.string y1.ty.base,.int .i64 y1.ty.stars,.bool y1.arr,.int .u64 y1.num] 62)=v2 at hk12 hq2 ⊢
   have HC2:Hid (Keeps (fun q=>q=K.P∨(Value.slice none 0 0).ownBlock=some q) w3 v2):=zz (HC1.out.trans hk12 (fun q _ e=>e.elim))
   have HAV2:=zz (HAV1.out.no hk12)
   have HGV2:=zz (HGV1.out.no hk12)
   have HQ2:=zz hq2
   clear hk12 hq2
   refine ⟨.inr ⟨⟨v2,HC2.out⟩,rfl⟩,?_⟩
   refine Mix.mix_one 8 3 (by kernel_rfl) rfl rfl ?_
   simp only [List.drop_succ_cons,List.drop_zero,List.take_succ_cons,List.take_zero]
   go_wp2_with (at_builtin; refine wpList_appV _ rfl (.tmp 16) (.tmp 19) 63 rfl Tryz.underlying63 N (.slice none 0 0) 0 [] y1 v1.heap.size rfl HGV2.out.own rfl HQ2.out (by omega) (Nat.le_of_lt HGV2.out.lt) ?_)
   intro g' cap' v3 ho3 hg3 hgo
   have hk23:Keeps (fun q=>(Value.slice none 0 0).ownBlock=some q) v2 v3:=(Keeps.refl _ _).grown hg3 (fun q e=>.inl e)
   have HC3:Hid (Keeps (fun q=>q=K.P∨(Value.slice none 0 0).ownBlock=some q) w3 v3):=zz (HC2.out.trans hk23 (fun q _ e=>.inr e))
   have hn3:v3.heap[N]?=some (.cells _ _ (0,0)):=(hk23.block _ HGV2.out.lt (fun e=>HGV2.out.ne N e rfl)).trans HGV2.out.row
   have yj:v3.cell? ⟨N,7,none⟩=some (.slice none 0 0):=by rw [cell_of_row v3 N 7 _ _ _ hn3]; rfl
   have zj:v3.frozen? ⟨N,7,none⟩=false:=frozen_of_row v3 N 7 _ _ hn3
   have HGO:Hid (∀ W,W=v3.setCell ⟨N,7,none⟩ (.slice (some ⟨g',0,none⟩) (0+1) cap')→At w W K σ2∧IM W N (itRow 3 at_ ⟨nm,ty,false,0⟩ (.slice (some ⟨g',0,none⟩) (0+1) cap') nil none none nil false) 62 5 (.slice (some ⟨g',0,none⟩) (0+1) cap') (0+1) (([]++[y1]).flatMap vrVals)):=zz (fun W hW=>by
    subst hW
    have hks:Keeps (fun q=>q=N) v3 (v3.setCell ⟨N,7,none⟩ (.slice (some ⟨g',0,none⟩) (0+1) cap')):=(Keeps.refl (fun q=>q=N) v3).setCell (.inl rfl) _
    refine ⟨⟨(HAV2.out.p.keepR hk23 (fun q e=>Nat.le_trans HWN.out.2 (own_lo HGV2.out.own q e))).keepR hks (fun q e=>by subst e; exact HWN.out.2),(HAV2.out.k.trans hk23 (fun q hq e=>by have:=own_lo HGV2.out.own q e; exact absurd hq (by have:=HWN.out.1; omega))).trans hks (fun q hq e=>by subst e; exact absurd hq (by have:=HWN.out.1; omega))⟩,HGV2.out.push hk23 (by have e:=ho3; simp only [List.flatMap_append,List.flatMap_cons,List.flatMap_nil,List.append_nil] at e ⊢; exact e) hgo 7 rfl⟩)
   clear ho3 hg3 hgo hk23 hn3
   go_wp2_with fail
   refine ⟨.inr ⟨⟨v3,HC3.out⟩,rfl⟩,?_⟩
   refine Mix.mix_one 9 2 (by kernel_rfl) rfl rfl ?_
   simp only [List.drop_succ_cons,List.drop_zero,List.take_succ_cons,List.take_zero]
   go_wp2_with fail
   refine ⟨.inr ⟨⟨v3,HC3.out⟩,rfl⟩,?_⟩
   refine Mix.mix_one 10 1 (by kernel_rfl) rfl rfl ?_
   simp only [List.drop_succ_cons,List.drop_zero,List.take_succ_cons,List.take_zero]
   go_wp2_with fail
   refine ⟨.inr ⟨⟨v3,HC3.out⟩,rfl⟩,?_⟩
   refine Mix.mix_one 11 0 (by kernel_rfl) rfl rfl ?_
   simp only [List.drop_succ_cons,List.drop_zero,List.take_succ_cons,List.take_zero]
   go_wp2_with fail
   have hgo:=HGO.out _ rfl
   generalize v3.setCell ⟨N,7,none⟩ (.slice (some ⟨g',0,none⟩) (0+1) cap')=w4 at hgo ⊢
   have HA4a:=zz hgo.1
   have HG4a:=zz hgo.2
   clear hgo yj zj hne
   refine ⟨.inl ⟨rfl,rfl⟩,?_⟩
   refine Mix.mix_end (by kernel_rfl) ?_
   go_wp2_with fail
   go_loopg [23] (rem K σ2) (fun m v wr=>∃ (g n:Nat) (sa:Option Addr) (sc:Nat) (vs:List Sy.Vr) (χ:Sy.St),m=rem K χ∧Hid (Sy.paramsM K.C g χ vs=(vL,σL)∧rem K χ+1≤g∧n=vs.length∧n+rem K χ≤6000)∧Hid (At w wr K χ)∧Hid (IM wr N (itRow 3 at_ ⟨nm,ty,false,0⟩ (.slice sa n sc) nil none none nil false) 62 5 (.slice sa n sc) n (vs.flatMap vrVals)))
   case atStart=>exact ⟨K.C.T.length,1,_,_,_,σ2,rfl,zz ⟨HL.out.2.2,HL.out.1,rfl,by have:=HL.out.1; have:=HL.out.2.1; omega⟩,HA4a,HG4a⟩
   case round =>
    obtain ⟨g,n,sa,sc,vs,χ,hg,HE,HAR,HGR⟩:=hrel
    obtain ⟨g,rfl⟩:∃ q,g=q+1:=⟨g - 1,by have:=HE.out.2.1; omega⟩
    have hle:=HAR.out.p.le
    obtain ⟨b5,h5⟩:∃ b,Sy.isM K.C χ ⟨#[44]⟩=b:=⟨_,rfl⟩
    have HT5:=zz (fun W (hs:PS W K χ)=>take_any K χ ⟨#[44]⟩ b5 h5 W hs)
    go_wp2_with fail
    refine (HT5.out wr HAR.out.p).mono ?_
    cases b5 with
    | false =>
      obtain ⟨e1,e2⟩:vs=vL∧χ=σL:=by
       have h6:=HE.out.1
       unfold Sy.paramsM at h6
       rw [if_neg (by rw [h5]; decide)] at h6
       exact ⟨by injection h6,by injection h6⟩
      subst e1 e2
      rintro e' w5 ⟨rfl,hat⟩
      have hat2:At wr w5 K χ:=hat
      have HA5a:=zz (HAR.out.trans hat2)
      have HG5a:=zz (HGR.out.at_ hat2 HWN.out.2)
      clear hat hat2 h5
      go_wp2_with fail
      refine (HWL.out w5 HA5a.out.p).mono ?_
      rintro e' w6 ⟨rfl,hat⟩
      have HA6a:=zz (HA5a.out.trans hat)
      have HG6a:=zz (HG5a.out.at_ hat HWN.out.2)
      clear hat
      obtain ⟨b2,hb2⟩:∃ b,Sy.isM K.C σ4 ⟨#[59]⟩=b:=⟨_,rfl⟩
      have HT2:=zz (fun W (hs:PS W K σ4)=>take_any K σ4 ⟨#[59]⟩ b2 hb2 W hs)
      go_wp2_with fail
      refine (HT2.out w6 HA6a.out.p).mono ?_
      cases b2 with
      | true =>
        obtain ⟨χ9,h9⟩:∃ x,Sy.nextM K.C σ4=x:=⟨_,rfl⟩
        have HM:Hid (Sy.functionM K.C ⟨0,at_,⟨nm,ty,false,0⟩,[],[],none,none,[],false⟩ σ=(⟨3,at_,⟨nm,ty,false,0⟩,vs,[],none,none,[],false⟩,χ9)):=zz (by
         rw [HMF.out]; simp only [hb2,h9,if_true])
        rw [h9]
        rintro e' x2 ⟨rfl,hat⟩
        have hat2:At w6 x2 K χ9:=hat
        have HA9:=zz (HA6a.out.trans hat2)
        have HX9:=zz (IM.fin_vars (vs:=vs) (n:=n) (a:=sa) (c:=sc) (body:=none) (HG6a.out.at_ hat2 HWN.out.2) HE.out.2.2.1 .none)
        clear hat hat2 hb2 h9
        go_wp2_with fail
        go_returns
        rw [HM.out]
        exact ⟨rfl,HA9.out.toI,fun _=>HX9.out⟩
      | false =>
        rintro e' x2 ⟨rfl,hat⟩
        have hat2:At w6 x2 K σ4:=hat
        have HA3:=zz (HA6a.out.trans hat2)
        have HG3:=zz (HG6a.out.at_ hat2 HWN.out.2)
        clear hat hat2
        have yc:x2.cell? ⟨N,0,none⟩=some (.int .i64 3):=HG3.out.c (j:=0) rfl
        have zc:x2.frozen? ⟨N,0,none⟩=false:=HG3.out.f 0
        go_upto_region 9 with fail
        have HA4:=zz (HA3.out.newR HS.out ((Keeps.refl (fun q=>q=N) x2).setCell (p:=⟨N,0,none⟩) (.inl rfl) (.int .i64 4)) HWN.out.1)
        have HG4:=zz (HG3.out.setc (r':=itRow 4 at_ ⟨nm,ty,false,0⟩ (.slice sa n sc) nil none none nil false) 0 (.int .i64 4) rfl)
        generalize x2.setCell ⟨N,0,none⟩ (.int .i64 4)=x3 at HA4 HG4 ⊢
        clear yc zc
        obtain ⟨b3,hb3⟩:∃ b,Sy.isM K.C σ4 ⟨#[123]⟩=b:=⟨_,rfl⟩
        have HI3:=zz (fun W (hs:PS W K σ4)=>is_as K σ4 ⟨#[123]⟩ b3 hb3 W hs)
        go_wp2_with fail
        refine (HI3.out x3 HA4.out.p).mono ?_
        rintro e' x4 ⟨rfl,hk⟩
        have HA5:=zz (HA4.out.no hk)
        have HG5:=zz (HG4.out.no hk)
        clear hk
        cases b3 with
        | false =>
          have HLO:=zz (fun W (hs:PS W K σ4)=>lost_any K σ4 W hs)
          obtain ⟨χ9,h9⟩:∃ x,Sy.lostM K.C σ4=x:=⟨_,rfl⟩
          rw [h9] at HLO
          have HM:Hid (Sy.functionM K.C ⟨0,at_,⟨nm,ty,false,0⟩,[],[],none,none,[],false⟩ σ=(⟨4,at_,⟨nm,ty,false,0⟩,vs,[],none,none,[],false⟩,χ9)):=zz (by
           rw [HMF.out]; simp only [hb2,hb3,h9,if_neg (show ¬ (false=true) by decide)])
          clear hb2 hb3 h9
          go_wp2_with fail
          refine (HLO.out x4 HA5.out.p).mono ?_
          rintro e' x5 ⟨rfl,hat⟩
          have HA9:=zz (HA5.out.trans hat)
          have HX9:=zz (IM.fin_vars (vs:=vs) (n:=n) (a:=sa) (c:=sc) (body:=none) (HG5.out.at_ hat HWN.out.2) HE.out.2.2.1 .none)
          clear hat
          go_wp2_with fail
          go_returns
          rw [HM.out]
          exact ⟨rfl,HA9.out.toI,fun _=>HX9.out⟩
        | true =>
          have HBL:=zz (fun W (hs:PS W K σ4)=>blockM_any K σ4 W hs)
          obtain ⟨r9,h9⟩:∃ x,Sy.blockM K.C σ4=x:=⟨_,rfl⟩
          rw [h9] at HBL
          obtain ⟨s9,χ9⟩:=r9
          have HM:Hid (Sy.functionM K.C ⟨0,at_,⟨nm,ty,false,0⟩,[],[],none,none,[],false⟩ σ=(⟨4,at_,⟨nm,ty,false,0⟩,vs,[],some s9,none,[],false⟩,χ9)):=zz (by
           rw [HMF.out]; simp only [hb2,hb3,h9,if_true,if_neg (show ¬ (false=true) by decide)])
          clear hb2 hb3 h9
          go_wp2_with fail
          refine (HBL.out x4 HA5.out.p).mono ?_
          rintro e' x5 ⟨a9,rfl,hat,hsm⟩
          have HA6:=zz (HA5.out.trans hat)
          have HG6:=zz (HG5.out.at_ hat HWN.out.2)
          have HSM6:Hid (χ9.code=0→SmD x5 (fun q=>N≤q∧q ≠ N) a9 s9):=zz (fun hc=>SmD.mono (hsm hc) (fun q _ hd=>by
           have h1:x4.heap.size≤q:=hd
           have h2:=HG5.out.lt
           exact ⟨by omega,by omega⟩))
          clear hat hsm
          have yc:x5.cell? ⟨N,9,none⟩=some (.pointer none):=HG6.out.c (j:=9) rfl
          have zc:x5.frozen? ⟨N,9,none⟩=false:=HG6.out.f 9
          have hks:Keeps (fun q=>q=N) x5 (x5.setCell ⟨N,9,none⟩ (.pointer a9)):=(Keeps.refl (fun q=>q=N) x5).setCell (.inl rfl) _
          have HA9:=zz (HA6.out.newR HS.out hks HWN.out.1)
          have HX9:=zz (fun (hc:χ9.code=0)=>IM.fin_vars (vs:=vs) (n:=n) (a:=sa) (c:=sc) (body:=some s9) (HG6.out.setc (r':=itRow 4 at_ ⟨nm,ty,false,0⟩ (.slice sa n sc) nil a9 none nil false) 9 (.pointer a9) rfl) HE.out.2.2.1 (.some (((HSM6.out hc).keep hks (fun q e=>.inl (fun hd=>hd.2 e))).mono (fun q _ hd=>hd.1))))
          clear hks
          go_wp2_with fail
          go_returns
          rw [HM.out]
          exact ⟨rfl,HA9.out.toI,HX9.out⟩
    | true =>
      have hi5:=Sy.is_lt h5 (by decide)
      have hr5:=rem_next hi5
      obtain ⟨χ1,hχ1⟩:∃ x,Sy.nextM K.C χ=x:=⟨_,rfl⟩
      have hm5:Sy.Mo K.C χ χ1:=by rw [← hχ1]; exact (Sy.Mo.refl hle).next
      have HPB:=zz (fun W (hs:PS W K χ1)=>param_as K χ1 W hs)
      obtain ⟨r6,h6⟩:∃ x,Sy.paramM K.C χ1=x:=⟨_,rfl⟩
      have hm6:Sy.Mo K.C χ1 r6.2:=by rw [← h6]; exact (Sy.Mo.refl hm5.le).param
      rw [h6] at HPB
      rw [hχ1] at hr5
      obtain ⟨y2,φ⟩:=r6
      simp only at hm6 HPB
      have hr6:=rem_mo hm6
      have HE2:Hid (Sy.paramsM K.C g φ (vs++[y2])=(vL,σL)∧rem K φ+1≤g∧n+1=(vs++[y2]).length∧n+1+rem K φ≤6000):=zz (by
       have hb:=HE.out.2
       refine ⟨?_,by omega,by rw [List.length_append,hb.2.1]; rfl,by omega⟩
       rw [← HE.out.1]
       conv=>rhs; unfold Sy.paramsM
       simp only [h5,hχ1,h6,if_true])
      have HLB:Hid (n≤6000):=zz (by have hb:=HE.out.2; omega)
      have hms:rem K φ < rem K χ:=by omega
      rw [hχ1]
      clear h5 hi5 hr5 hχ1 hm5 h6 hm6 hr6 hle
      rintro e' w5 ⟨rfl,hat⟩
      have hat2:At wr w5 K χ1:=hat
      have HA5a:=zz (HAR.out.trans hat2)
      have HG5a:=zz (HGR.out.at_ hat2 HWN.out.2)
      clear hat hat2
      go_upto_region 5 with fail
      have HSS:Hid (∀ q,(q=K.P∨(Value.slice sa n sc).ownBlock=some q)→q ≠ N):=zz (fun q hq e=>by
       rcases hq with hq | hq
       · have:=HS.out.ord; have:=HWN.out.2; omega
       · exact HG5a.out.ne q hq e)
      have pj:∀ u:KS (fun q=>q=K.P∨(Value.slice sa n sc).ownBlock=some q) w5,u.W.cell? ⟨N,7,none⟩=some (.slice sa n sc):=fun u=>u.cell (HG5a.out.c (j:=7) rfl) (fun e=>HSS.out N e rfl)
      have hne:Nonempty (KS (fun q=>q=K.P∨(Value.slice sa n sc).ownBlock=some q) w5):=⟨⟨w5,Keeps.refl _ _⟩⟩
      refine Mix.wp_region_mix (fun W'=>∃ u:KS (fun q=>q=K.P∨(Value.slice sa n sc).ownBlock=some q) w5,W'=u.W) [11] (by kernel_rfl) ?_
      have HV0:Hid (Keeps No w5 w5.drew):=zz ((Keeps.refl _ w5).drew)
      generalize w5.drew=v0 at HV0 ⊢
      have HC0:Hid (Keeps (fun q=>q=K.P∨(Value.slice sa n sc).ownBlock=some q) w5 v0):=zz (HV0.out.mono (fun _ _ e=>e.elim))
      have HAV0:=zz (HA5a.out.no HV0.out)
      have HGV0:=zz (HG5a.out.no HV0.out)
      refine Mix.mix_seg 0 6 6 (by kernel_rfl) (by kernel_rfl) rfl rfl ⟨⟨v0,HC0.out⟩,rfl⟩ ?_
      simp only [List.drop_succ_cons,List.drop_zero,List.take_succ_cons,List.take_zero]
      repeat (go_big_quiet_step (fail))
      refine wpQuiet_nil ?_
      clear pj
      refine Mix.mix_one 6 5 (by kernel_rfl) rfl rfl ?_
      simp only [List.drop_succ_cons,List.drop_zero,List.take_succ_cons,List.take_zero]
      go_wp2_with fail
      refine (HPB.out v0 HAV0.out.p).mono ?_
      rintro e' v1 ⟨rfl,hat⟩
      have HC1:Hid (Keeps (fun q=>q=K.P∨(Value.slice sa n sc).ownBlock=some q) w5 v1):=zz (HC0.out.trans hat.k (fun q _ e=>.inl e))
      have HAV1:=zz (HAV0.out.trans hat)
      have HGV1:=zz (HGV0.out.at_ hat HWN.out.2)
      clear hat
      go_wp2_with fail
      refine ⟨.inr ⟨⟨v1,HC1.out⟩,rfl⟩,?_⟩
      refine Mix.mix_one 7 4 (by kernel_rfl) rfl rfl ?_
      simp only [List.drop_succ_cons,List.drop_zero,List.take_succ_cons,List.take_zero]
      go_wp2_with fail
      have hk12:Keeps No v1 (v1.alloc (.cells #[.string y2.name,.string y2.ty.base,.int .i64 y2.ty.stars,.bool y2.arr,.int .u64 y2.num] 62)):=(Keeps.refl _ _).alloc _
      have hq2:(v1.alloc (.cells #[.string y2.name,.string y2.ty.base,.int .i64 y2.ty.stars,.bool y2.arr,.int .u64 y2.num] 62)).heap[v1.heap.size]?=some (.cells #[.string y2.name,.string y2.ty.base,.int .i64 y2.ty.stars,.bool y2.arr,.int .u64 y2.num] 62 (0,0)):=heap_alloc_new _ _
      generalize v1.alloc (.cells #[.string y2.name,.string y2.ty.base,.int .i64 y2.ty.stars,.bool y2.arr,.int .u64 y2.num] 62)=v2 at hk12 hq2 ⊢
      have HC2:Hid (Keeps (fun q=>q=K.P∨(Value.slice sa n sc).ownBlock=some q) w5 v2):=zz (HC1.out.trans hk12 (fun q _ e=>e.elim))
      have HAV2:=zz (HAV1.out.no hk12)
      have HGV2:=zz (HGV1.out.no hk12)
      have HQ2:=zz hq2
      clear hk12 hq2
      refine ⟨.inr ⟨⟨v2,HC2.out⟩,rfl⟩,?_⟩
      refine Mix.mix_one 8 3 (by kernel_rfl) rfl rfl ?_
      simp only [List.drop_succ_cons,List.drop_zero,List.take_succ_cons,List.take_zero]
      go_wp2_with (at_builtin; refine wpList_appV _ rfl (.tmp 29) (.tmp 32) 63 rfl Tryz.underlying63 N (.slice sa n sc) n vs y2 v1.heap.size rfl HGV2.out.own rfl HQ2.out (by have:=HLB.out; omega) (Nat.le_of_lt HGV2.out.lt) ?_)
      intro g' cap' v3 ho3 hg3 hgo
      have hk23:Keeps (fun q=>(Value.slice sa n sc).ownBlock=some q) v2 v3:=(Keeps.refl _ _).grown hg3 (fun q e=>.inl e)
      have HC3:Hid (Keeps (fun q=>q=K.P∨(Value.slice sa n sc).ownBlock=some q) w5 v3):=zz (HC2.out.trans hk23 (fun q _ e=>.inr e))
      have hn3:v3.heap[N]?=some (.cells _ _ (0,0)):=(hk23.block _ HGV2.out.lt (fun e=>HGV2.out.ne N e rfl)).trans HGV2.out.row
      have yj:v3.cell? ⟨N,7,none⟩=some (.slice sa n sc):=by rw [cell_of_row v3 N 7 _ _ _ hn3]; rfl
      have zj:v3.frozen? ⟨N,7,none⟩=false:=frozen_of_row v3 N 7 _ _ hn3
      have HGO:Hid (∀ W,W=v3.setCell ⟨N,7,none⟩ (.slice (some ⟨g',0,none⟩) (n+1) cap')→At w W K φ∧IM W N (itRow 3 at_ ⟨nm,ty,false,0⟩ (.slice (some ⟨g',0,none⟩) (n+1) cap') nil none none nil false) 62 5 (.slice (some ⟨g',0,none⟩) (n+1) cap') (n+1) ((vs++[y2]).flatMap vrVals)):=zz (fun W hW=>by
       subst hW
       have hks:Keeps (fun q=>q=N) v3 (v3.setCell ⟨N,7,none⟩ (.slice (some ⟨g',0,none⟩) (n+1) cap')):=(Keeps.refl (fun q=>q=N) v3).setCell (.inl rfl) _
       refine ⟨⟨(HAV2.out.p.keepR hk23 (fun q e=>Nat.le_trans HWN.out.2 (own_lo HGV2.out.own q e))).keepR hks (fun q e=>by subst e; exact HWN.out.2),(HAV2.out.k.trans hk23 (fun q hq e=>by have:=own_lo HGV2.out.own q e; exact absurd hq (by have:=HWN.out.1; omega))).trans hks (fun q hq e=>by subst e; exact absurd hq (by have:=HWN.out.1; omega))⟩,HGV2.out.push hk23 (by have e:=ho3; simp only [List.flatMap_append,List.flatMap_cons,List.flatMap_nil,List.append_nil] at e ⊢; exact e) hgo 7 rfl⟩)
      clear ho3 hg3 hgo hk23 hn3
      go_wp2_with fail
      refine ⟨.inr ⟨⟨v3,HC3.out⟩,rfl⟩,?_⟩
      refine Mix.mix_one 9 2 (by kernel_rfl) rfl rfl ?_
      simp only [List.drop_succ_cons,List.drop_zero,List.take_succ_cons,List.take_zero]
      go_wp2_with fail
      refine ⟨.inr ⟨⟨v3,HC3.out⟩,rfl⟩,?_⟩
      refine Mix.mix_one 10 1 (by kernel_rfl) rfl rfl ?_
      simp only [List.drop_succ_cons,List.drop_zero,List.take_succ_cons,List.take_zero]
      go_wp2_with fail
      refine ⟨.inr ⟨⟨v3,HC3.out⟩,rfl⟩,?_⟩
      refine Mix.mix_one 11 0 (by kernel_rfl) rfl rfl ?_
      simp only [List.drop_succ_cons,List.drop_zero,List.take_succ_cons,List.take_zero]
      go_wp2_with fail
      have hgo:=HGO.out _ rfl
      generalize v3.setCell ⟨N,7,none⟩ (.slice (some ⟨g',0,none⟩) (n+1) cap')=w6 at hgo ⊢
      have HA6a:=zz hgo.1
      have HG6a:=zz hgo.2
      clear hgo yj zj hne
      refine ⟨.inl ⟨rfl,rfl⟩,?_⟩
      refine Mix.mix_end (by kernel_rfl) ?_
      go_wp2_with fail
      go_roundg (rem K φ)
      case rel=>exact ⟨g,_,_,_,_,φ,rfl,HE2,HA6a,HG6a⟩
      case measure=>omega
theorem initial_any (K:Pk) (σ σ0:Sy.St) (w wc:World) (N:Nat) (at_:Int) (nm:ByteArray) (ty:Sy.Ty) (ar:Bool) (nu:Int) (h0:PS w K σ0) (h:At w wc K σ) (hN:w.heap.size≤N)
    (hn:wc.heap[N]?=some (.cells (itRow 5 at_ ⟨nm,ty,ar,nu⟩ nil nil none none nil false) 69 (0,0))) (hi:1≤σ.at_) :
    FillI K w wc N 93 (Sy.initialM K.C ⟨5,at_,⟨nm,ty,ar,nu⟩,[],[],none,none,[],false⟩ σ):=by
 have hle:=h.p.le
 have HS:=zz h0
 have HA0:=zz h
 have HWN:Hid (w.heap.size≤N∧K.B≤N):=zz ⟨hN,Nat.le_trans h0.ord.2.2.2 hN⟩
 have HN0:Hid (IM wc N (itRow 5 at_ ⟨nm,ty,ar,nu⟩ nil nil none none nil false) 66 1 nil 0 []):=zz (IM.bare hn)
 have hlen:=h0.len
 obtain ⟨b1,hb1⟩:∃ b,Sy.isM K.C σ ⟨#[123]⟩=b:=⟨_,rfl⟩
 have HT1:=zz (fun W (hs:PS W K σ)=>take_any K σ ⟨#[123]⟩ b1 hb1 W hs)
 unfold FillI
 cases b1 with
 | false =>
   have HX:=zz (fun W (hs:PS W K σ)=>condM_any K σ W hs)
   obtain ⟨r2,h2⟩:∃ x,Sy.condM K.C σ=x:=⟨_,rfl⟩
   rw [h2] at HX
   obtain ⟨x1,σ2⟩:=r2
   have HM:Hid (Sy.initialM K.C ⟨5,at_,⟨nm,ty,ar,nu⟩,[],[],none,none,[],false⟩ σ=(⟨5,at_,⟨nm,ty,ar,nu⟩,[],[],none,some x1,[],false⟩,σ2)):=zz (by
    unfold Sy.initialM; simp only [hb1,h2,if_neg (show ¬ (false=true) by decide)])
   clear h0 h hN hn hi hle hb1 h2 hlen
   go_enter Tryz.func93,Tryz.ntmps93
   go_wp2_with fail
   refine (HT1.out wc HA0.out.p).mono ?_
   rintro e w1 ⟨rfl,hat⟩
   have hat2:At wc w1 K σ:=hat
   have HA1:=zz (HA0.out.trans hat2)
   have HG1:=zz (HN0.out.at_ hat2 HWN.out.2)
   clear hat hat2
   go_wp2_with fail
   refine (HX.out w1 HA1.out.p).mono ?_
   rintro e w2 ⟨a2,rfl,hat,hex⟩
   have HA2:=zz (HA1.out.trans hat)
   have HG2:=zz (HG1.out.at_ hat HWN.out.2)
   have HX2:Hid (σ2.code=0→ExD w2 (fun q=>N≤q∧q ≠ N) a2 x1):=zz (fun hc=>ExD.mono (hex hc) (fun q _ hd=>by
    have h1:w1.heap.size≤q:=hd
    have h2:=HG1.out.lt
    exact ⟨by omega,by omega⟩))
   clear hat hex
   have yc:w2.cell? ⟨N,10,none⟩=some (.pointer none):=HG2.out.c (j:=10) rfl
   have zc:w2.frozen? ⟨N,10,none⟩=false:=HG2.out.f 10
   have hks:Keeps (fun q=>q=N) w2 (w2.setCell ⟨N,10,none⟩ (.pointer a2)):=(Keeps.refl (fun q=>q=N) w2).setCell (.inl rfl) _
   have HA9:=zz (HA2.out.newR HS.out hks HWN.out.1)
   have HX9:=zz (fun (hc:σ2.code=0)=>IM.fin_init (init:=some x1) (HG2.out.setc (r':=itRow 5 at_ ⟨nm,ty,ar,nu⟩ nil nil none a2 nil false) 10 (.pointer a2) rfl) (.some (((HX2.out hc).keep hks (fun q e=>.inl (fun hd=>hd.2 e))).mono (fun q _ hd=>hd.1))))
   clear hks
   go_wp2_with fail
   go_returns
   rw [HM.out]
   exact ⟨rfl,HA9.out.toI,HX9.out⟩
 | true =>
   have hi1:=Sy.is_lt hb1 (by decide)
   have hr1:=rem_next hi1
   obtain ⟨σ1,h1⟩:∃ x,Sy.nextM K.C σ=x:=⟨_,rfl⟩
   have hm1:Sy.Mo K.C σ σ1:=by rw [← h1]; exact (Sy.Mo.refl hle).next
   rw [h1] at HT1 hr1
   have HX:=zz (fun W (hs:PS W K σ1)=>condM_any K σ1 W hs)
   obtain ⟨r2,h2⟩:∃ x,Sy.condM K.C σ1=x:=⟨_,rfl⟩
   have hm2:Sy.Mo K.C σ1 r2.2:=by rw [← h2]; exact Sy.condM_mo (Sy.Mo.refl hm1.le)
   rw [h2] at HX
   obtain ⟨x1,σ2⟩:=r2
   simp only at hm2
   have hr2:=rem_mo hm2
   have hmL:Sy.Mo K.C σ2 (Sy.condsM K.C K.C.T.length σ2 [x1]).2:=Sy.Mo.conds _ _ _ (Sy.Mo.refl hm2.le)
   obtain ⟨rL,hL⟩:∃ x,Sy.condsM K.C K.C.T.length σ2 [x1]=x:=⟨_,rfl⟩
   rw [hL] at hmL
   obtain ⟨vL,σL⟩:=rL
   simp only at hmL
   have HWL:=zz (fun W (hs:PS W K σL)=>want_any K σL ⟨#[125]⟩ W hs)
   obtain ⟨σ4,h4⟩:∃ x,Sy.wantM K.C σL ⟨#[125]⟩=x:=⟨_,rfl⟩
   have hm4:Sy.Mo K.C σL σ4:=by rw [← h4]; exact (Sy.Mo.refl hmL.le).want _
   rw [h4] at HWL
   have HM:Hid (Sy.initialM K.C ⟨5,at_,⟨nm,ty,ar,nu⟩,[],[],none,none,[],false⟩ σ=(⟨5,at_,⟨nm,ty,ar,nu⟩,[],[],none,none,vL,true⟩,σ4)):=zz (by
    unfold Sy.initialM; simp only [hb1,h1,h2,hL,h4,if_true])
   have hrs:rem K σ≤K.C.T.length:=by unfold rem; omega
   have HL:Hid (rem K σ2+1≤K.C.T.length∧K.C.T.length≤6000∧Sy.condsM K.C K.C.T.length σ2 [x1]=(vL,σL)):=zz ⟨by omega,hlen,hL⟩
   have HC21:Hid (σ2.code=0→σ1.code=0):=zz hm2.code
   have HC4L:Hid (σ4.code=0→σL.code=0):=zz hm4.code
   clear h0 h hN hn hi hle hi1 hr1 h1 hm1 hb1 h2 hrs hm2 hr2 hmL hL h4 hm4 hlen
   go_enter Tryz.func93,Tryz.ntmps93
   go_wp2_with fail
   refine (HT1.out wc HA0.out.p).mono ?_
   rintro e w1 ⟨rfl,hat⟩
   have hat2:At wc w1 K σ1:=hat
   have HA1:=zz (HA0.out.trans hat2)
   have HG1:=zz (HN0.out.at_ hat2 HWN.out.2)
   clear hat hat2
   have yc:w1.cell? ⟨N,12,none⟩=some (.bool false):=HG1.out.c (j:=12) rfl
   have zc:w1.frozen? ⟨N,12,none⟩=false:=HG1.out.f 12
   go_upto_region 3 with fail
   have HA2:=zz (HA1.out.newR HS.out ((Keeps.refl (fun q=>q=N) w1).setCell (p:=⟨N,12,none⟩) (.inl rfl) (.bool true)) HWN.out.1)
   have HG2:=zz (HG1.out.setc (r':=itRow 5 at_ ⟨nm,ty,ar,nu⟩ nil nil none none nil true) 12 (.bool true) rfl)
   generalize w1.setCell ⟨N,12,none⟩ (.bool true)=w2 at HA2 HG2 ⊢
   clear yc zc
   have HLH2:Hid (σ1.code=0→LH w2 N none 0 0 [] []):=zz (fun _=>LH.bare)
   have HSS:Hid (∀ q,(q=K.P∨(Value.slice none 0 0).ownBlock=some q)→q ≠ N):=zz (fun q hq e=>by
    rcases hq with hq | hq
    · have:=HS.out.ord; have:=HWN.out.2; omega
    · exact HG2.out.ne q hq e)
   have pj:∀ u:KS (fun q=>q=K.P∨(Value.slice none 0 0).ownBlock=some q) w2,u.W.cell? ⟨N,11,none⟩=some (.slice none 0 0):=fun u=>u.cell (HG2.out.c (j:=11) rfl) (fun e=>HSS.out N e rfl)
   have hne:Nonempty (KS (fun q=>q=K.P∨(Value.slice none 0 0).ownBlock=some q) w2):=⟨⟨w2,Keeps.refl _ _⟩⟩
   refine Mix.wp_region_mix (fun W'=>∃ u:KS (fun q=>q=K.P∨(Value.slice none 0 0).ownBlock=some q) w2,W'=u.W) [11] (by kernel_rfl) ?_
   have HV0:Hid (Keeps No w2 w2.drew):=zz ((Keeps.refl _ w2).drew)
   generalize w2.drew=v0 at HV0 ⊢
   have HC0:Hid (Keeps (fun q=>q=K.P∨(Value.slice none 0 0).ownBlock=some q) w2 v0):=zz (HV0.out.mono (fun _ _ e=>e.elim))
   have HAV0:=zz (HA2.out.no HV0.out)
   have HGV0:=zz (HG2.out.no HV0.out)
   have HKV0:=zz (fun hc=>(HLH2.out hc).no HV0.out)
   refine Mix.mix_seg 0 6 6 (by kernel_rfl) (by kernel_rfl) rfl rfl ⟨⟨v0,HC0.out⟩,rfl⟩ ?_
   simp only [List.drop_succ_cons,List.drop_zero,List.take_succ_cons,List.take_zero]
   repeat (go_big_quiet_step (fail))
   refine wpQuiet_nil ?_
   clear pj
   refine Mix.mix_one 6 5 (by kernel_rfl) rfl rfl ?_
   simp only [List.drop_succ_cons,List.drop_zero,List.take_succ_cons,List.take_zero]
   go_wp2_with fail
   refine (HX.out v0 HAV0.out.p).mono ?_
   rintro e' v1 ⟨a3,rfl,hat,hex⟩
   have HC1:Hid (Keeps (fun q=>q=K.P∨(Value.slice none 0 0).ownBlock=some q) w2 v1):=zz (HC0.out.trans hat.k (fun q _ e=>.inl e))
   have HAV1:=zz (HAV0.out.trans hat)
   have HGV1:=zz (HGV0.out.at_ hat HWN.out.2)
   have HKV1:=zz (fun (hc:σ2.code=0)=>(HKV0.out (HC21.out hc)).at_ hat HWN.out.2)
   have HDV1:Hid (σ2.code=0→ExD v1 (Dc N N (.slice none 0 0)) a3 x1):=zz (fun hc=>ExD.mono (hex hc) (fun q _ hd=>⟨by have h5:v0.heap.size≤q:=hd; have:=HGV0.out.lt; omega,fun e=>by have h5:v0.heap.size≤q:=hd; have:=HGV0.out.lt; omega,fun e=>by have h5:v0.heap.size≤q:=hd; have:=own_ltb HGV0.out.own e; omega⟩))
   clear hat hex
   go_wp2_with fail
   refine ⟨.inr ⟨⟨v1,HC1.out⟩,rfl⟩,?_⟩
   refine Mix.mix_one 7 4 (by kernel_rfl) rfl rfl ?_
   simp only [List.drop_succ_cons,List.drop_zero,List.take_succ_cons,List.take_zero]
   go_wp2_with fail
   have hk12:Keeps No v1 (v1.alloc (.cells #[.pointer a3] 66)):=(Keeps.refl _ _).alloc _
   have hq2:(v1.alloc (.cells #[.pointer a3] 66)).heap[v1.heap.size]?=some (.cells #[.pointer a3] 66 (0,0)):=heap_alloc_new _ _
   generalize v1.alloc (.cells #[.pointer a3] 66)=v2 at hk12 hq2 ⊢
   have HC2:Hid (Keeps (fun q=>q=K.P∨(Value.slice none 0 0).ownBlock=some q) w2 v2):=zz (HC1.out.trans hk12 (fun q _ e=>e.elim))
   have HAV2:=zz (HAV1.out.no hk12)
   have HGV2:=zz (HGV1.out.no hk12)
   have HKV2:=zz (fun (hc:σ2.code=0)=>(HKV1.out hc).no hk12)
   have HDV2:=zz (fun (hc:σ2.code=0)=>(HDV1.out hc).keep hk12 (fun _ e=>e.elim))
   have HQ2:=zz hq2
   clear hk12 hq2
   refine ⟨.inr ⟨⟨v2,HC2.out⟩,rfl⟩,?_⟩
   refine Mix.mix_one 8 3 (by kernel_rfl) rfl rfl ?_
   simp only [List.drop_succ_cons,List.drop_zero,List.take_succ_cons,List.take_zero]
   go_wp2_with (at_builtin; refine wpList_appP _ rfl (.tmp 19) (.tmp 22) rfl N (.slice none 0 0) 0 (ptrs []) a3 v1.heap.size rfl HGV2.out.own rfl HQ2.out (by omega) (Nat.le_of_lt HGV2.out.lt) ?_)
   intro g' cap' v3 ho3 hg3 hgo
   have hk23:Keeps (fun q=>(Value.slice none 0 0).ownBlock=some q) v2 v3:=(Keeps.refl _ _).grown hg3 (fun q e=>.inl e)
   have HC3:Hid (Keeps (fun q=>q=K.P∨(Value.slice none 0 0).ownBlock=some q) w2 v3):=zz (HC2.out.trans hk23 (fun q _ e=>.inr e))
   have hn3:v3.heap[N]?=some (.cells _ _ (0,0)):=(hk23.block _ HGV2.out.lt (fun e=>HGV2.out.ne N e rfl)).trans HGV2.out.row
   have yj:v3.cell? ⟨N,11,none⟩=some (.slice none 0 0):=by rw [cell_of_row v3 N 11 _ _ _ hn3]; rfl
   have zj:v3.frozen? ⟨N,11,none⟩=false:=frozen_of_row v3 N 11 _ _ hn3
   have HGO:Hid (∀ W,W=v3.setCell ⟨N,11,none⟩ (.slice (some ⟨g',0,none⟩) (0+1) cap')→At w W K σ2∧IM W N (itRow 5 at_ ⟨nm,ty,ar,nu⟩ nil nil none none (.slice (some ⟨g',0,none⟩) (0+1) cap') true) 66 1 (.slice (some ⟨g',0,none⟩) (0+1) cap') (0+1) (ptrs ([]++[a3]))∧(σ2.code=0→LH W N (some ⟨g',0,none⟩) cap' (0+1) ([]++[a3]) ([]++[x1]))):=zz (fun W hW=>by
    subst hW
    have hks:Keeps (fun q=>q=N) v3 (v3.setCell ⟨N,11,none⟩ (.slice (some ⟨g',0,none⟩) (0+1) cap')):=(Keeps.refl (fun q=>q=N) v3).setCell (.inl rfl) _
    refine ⟨⟨(HAV2.out.p.keepR hk23 (fun q e=>Nat.le_trans HWN.out.2 (own_lo HGV2.out.own q e))).keepR hks (fun q e=>by subst e; exact HWN.out.2),(HAV2.out.k.trans hk23 (fun q hq e=>by have:=own_lo HGV2.out.own q e; exact absurd hq (by have:=HWN.out.1; omega))).trans hks (fun q hq e=>by subst e; exact absurd hq (by have:=HWN.out.1; omega))⟩,HGV2.out.push hk23 (by rw [show ptrs ([]++[a3])=ptrs []++[.pointer a3] from by unfold ptrs; rw [List.map_append]; rfl]; exact ho3) hgo 11 rfl,fun hc=>(HKV2.out hc).push hk23 hgo (HDV2.out hc) 11⟩)
   clear ho3 hg3 hgo hk23 hn3
   go_wp2_with fail
   refine ⟨.inr ⟨⟨v3,HC3.out⟩,rfl⟩,?_⟩
   refine Mix.mix_one 9 2 (by kernel_rfl) rfl rfl ?_
   simp only [List.drop_succ_cons,List.drop_zero,List.take_succ_cons,List.take_zero]
   go_wp2_with fail
   refine ⟨.inr ⟨⟨v3,HC3.out⟩,rfl⟩,?_⟩
   refine Mix.mix_one 10 1 (by kernel_rfl) rfl rfl ?_
   simp only [List.drop_succ_cons,List.drop_zero,List.take_succ_cons,List.take_zero]
   go_wp2_with fail
   refine ⟨.inr ⟨⟨v3,HC3.out⟩,rfl⟩,?_⟩
   refine Mix.mix_one 11 0 (by kernel_rfl) rfl rfl ?_
   simp only [List.drop_succ_cons,List.drop_zero,List.take_succ_cons,List.take_zero]
   go_wp2_with fail
   have hgo:=HGO.out _ rfl
   generalize v3.setCell ⟨N,11,none⟩ (.slice (some ⟨g',0,none⟩) (0+1) cap')=w4 at hgo ⊢
   have HA4a:=zz hgo.1
   have HG4a:=zz hgo.2.1
   have HK4a:=zz hgo.2.2
   clear hgo yj zj hne
   refine ⟨.inl ⟨rfl,rfl⟩,?_⟩
   refine Mix.mix_end (by kernel_rfl) ?_
   go_wp2_with fail
   go_loopg [26] (rem K σ2) (fun m v wr=>∃ (g n:Nat) (sa:Option Addr) (sc:Nat) (av:List (Option Addr)) (es:List Sy.Ex) (χ:Sy.St),m=rem K χ∧Hid (Sy.condsM K.C g χ es=(vL,σL)∧rem K χ+1≤g∧n+rem K χ≤6000)∧Hid (At w wr K χ)∧Hid (IM wr N (itRow 5 at_ ⟨nm,ty,ar,nu⟩ nil nil none none (.slice sa n sc) true) 66 1 (.slice sa n sc) n (ptrs av))∧Hid (χ.code=0→LH wr N sa sc n av es))
   case atStart=>exact ⟨K.C.T.length,1,_,_,_,_,σ2,rfl,zz ⟨HL.out.2.2,HL.out.1,by have:=HL.out.1; have:=HL.out.2.1; omega⟩,HA4a,HG4a,HK4a⟩
   case round =>
    obtain ⟨g,n,sa,sc,av,es,χ,hg,HE,HAR,HGR,HKR⟩:=hrel
    obtain ⟨g,rfl⟩:∃ q,g=q+1:=⟨g - 1,by have:=HE.out.2.1; omega⟩
    have hle:=HAR.out.p.le
    obtain ⟨b5,h5⟩:∃ b,Sy.isM K.C χ ⟨#[44]⟩=b:=⟨_,rfl⟩
    have HT5:=zz (fun W (hs:PS W K χ)=>take_any K χ ⟨#[44]⟩ b5 h5 W hs)
    go_wp2_with fail
    refine (HT5.out wr HAR.out.p).mono ?_
    cases b5 with
    | false =>
      obtain ⟨e1,e2⟩:es=vL∧χ=σL:=by
       have h6:=HE.out.1
       unfold Sy.condsM at h6
       rw [if_neg (by rw [h5]; decide)] at h6
       exact ⟨by injection h6,by injection h6⟩
      subst e1 e2
      rintro e' w5 ⟨rfl,hat⟩
      have hat2:At wr w5 K χ:=hat
      have HA5a:=zz (HAR.out.trans hat2)
      have HG5a:=zz (HGR.out.at_ hat2 HWN.out.2)
      have HK5a:=zz (fun (hc:χ.code=0)=>(HKR.out hc).at_ hat2 HWN.out.2)
      clear hat hat2 h5
      go_wp2_with fail
      refine (HWL.out w5 HA5a.out.p).mono ?_
      rintro e' w6 ⟨rfl,hat⟩
      have HA9:=zz (HA5a.out.trans hat)
      have HX9:=zz (fun (hc:σ4.code=0)=>(HG5a.out.at_ hat HWN.out.2).fin_list ((HK5a.out (HC4L.out hc)).at_ hat HWN.out.2))
      clear hat
      go_wp2_with fail
      go_returns
      rw [HM.out]
      exact ⟨rfl,HA9.out.toI,HX9.out⟩
    | true =>
      have hi5:=Sy.is_lt h5 (by decide)
      have hr5:=rem_next hi5
      obtain ⟨χ1,hχ1⟩:∃ x,Sy.nextM K.C χ=x:=⟨_,rfl⟩
      have hm5:Sy.Mo K.C χ χ1:=by rw [← hχ1]; exact (Sy.Mo.refl hle).next
      have HPB:=zz (fun W (hs:PS W K χ1)=>condM_any K χ1 W hs)
      obtain ⟨r6,h6⟩:∃ x,Sy.condM K.C χ1=x:=⟨_,rfl⟩
      have hm6:Sy.Mo K.C χ1 r6.2:=by rw [← h6]; exact Sy.condM_mo (Sy.Mo.refl hm5.le)
      rw [h6] at HPB
      rw [hχ1] at hr5
      obtain ⟨x2,φ⟩:=r6
      simp only at hm6
      have hr6:=rem_mo hm6
      have HE2:Hid (Sy.condsM K.C g φ (es++[x2])=(vL,σL)∧rem K φ+1≤g∧n+1+rem K φ≤6000):=zz (by
       have hb:=HE.out.2
       refine ⟨?_,by omega,by omega⟩
       rw [← HE.out.1]
       conv=>rhs; unfold Sy.condsM
       simp only [h5,hχ1,h6,if_true])
      have HLB:Hid (n≤6000):=zz (by have hb:=HE.out.2; omega)
      have hms:rem K φ < rem K χ:=by omega
      have HCA:Hid (χ1.code=0→χ.code=0):=zz hm5.code
      have HCB:Hid (φ.code=0→χ1.code=0):=zz hm6.code
      rw [hχ1]
      clear h5 hi5 hr5 hχ1 hm5 h6 hm6 hr6 hle
      rintro e' w5 ⟨rfl,hat⟩
      have hat2:At wr w5 K χ1:=hat
      have HA5a:=zz (HAR.out.trans hat2)
      have HG5a:=zz (HGR.out.at_ hat2 HWN.out.2)
      have HK5a:=zz (fun (hc:χ1.code=0)=>(HKR.out (HCA.out hc)).at_ hat2 HWN.out.2)
      clear hat hat2
      go_upto_region 5 with fail
      have HSS:Hid (∀ q,(q=K.P∨(Value.slice sa n sc).ownBlock=some q)→q ≠ N):=zz (fun q hq e=>by
       rcases hq with hq | hq
       · have:=HS.out.ord; have:=HWN.out.2; omega
       · exact HG5a.out.ne q hq e)
      have pj:∀ u:KS (fun q=>q=K.P∨(Value.slice sa n sc).ownBlock=some q) w5,u.W.cell? ⟨N,11,none⟩=some (.slice sa n sc):=fun u=>u.cell (HG5a.out.c (j:=11) rfl) (fun e=>HSS.out N e rfl)
      have hne:Nonempty (KS (fun q=>q=K.P∨(Value.slice sa n sc).ownBlock=some q) w5):=⟨⟨w5,Keeps.refl _ _⟩⟩
      refine Mix.wp_region_mix (fun W'=>∃ u:KS (fun q=>q=K.P∨(Value.slice sa n sc).ownBlock=some q) w5,W'=u.W) [11] (by kernel_rfl) ?_
      have HV0:Hid (Keeps No w5 w5.drew):=zz ((Keeps.refl _ w5).drew)
      generalize w5.drew=v0 at HV0 ⊢
      have HC0:Hid (Keeps (fun q=>q=K.P∨(Value.slice sa n sc).ownBlock=some q) w5 v0):=zz (HV0.out.mono (fun _ _ e=>e.elim))
      have HAV0:=zz (HA5a.out.no HV0.out)
      have HGV0:=zz (HG5a.out.no HV0.out)
      have HKV0:=zz (fun hc=>(HK5a.out hc).no HV0.out)
      refine Mix.mix_seg 0 6 6 (by kernel_rfl) (by kernel_rfl) rfl rfl ⟨⟨v0,HC0.out⟩,rfl⟩ ?_
      simp only [List.drop_succ_cons,List.drop_zero,List.take_succ_cons,List.take_zero]
      repeat (go_big_quiet_step (fail))
      refine wpQuiet_nil ?_
      clear pj
      refine Mix.mix_one 6 5 (by kernel_rfl) rfl rfl ?_
      simp only [List.drop_succ_cons,List.drop_zero,List.take_succ_cons,List.take_zero]
      go_wp2_with fail
      refine (HPB.out v0 HAV0.out.p).mono ?_
      rintro e' v1 ⟨a3,rfl,hat,hex⟩
      have HC1:Hid (Keeps (fun q=>q=K.P∨(Value.slice sa n sc).ownBlock=some q) w5 v1):=zz (HC0.out.trans hat.k (fun q _ e=>.inl e))
      have HAV1:=zz (HAV0.out.trans hat)
      have HGV1:=zz (HGV0.out.at_ hat HWN.out.2)
      have HKV1:=zz (fun (hc:φ.code=0)=>(HKV0.out (HCB.out hc)).at_ hat HWN.out.2)
      have HDV1:Hid (φ.code=0→ExD v1 (Dc N N (.slice sa n sc)) a3 x2):=zz (fun hc=>ExD.mono (hex hc) (fun q _ hd=>⟨by have h5:v0.heap.size≤q:=hd; have:=HGV0.out.lt; omega,fun e=>by have h5:v0.heap.size≤q:=hd; have:=HGV0.out.lt; omega,fun e=>by have h5:v0.heap.size≤q:=hd; have:=own_ltb HGV0.out.own e; omega⟩))
      clear hat hex
      go_wp2_with fail
      refine ⟨.inr ⟨⟨v1,HC1.out⟩,rfl⟩,?_⟩
      refine Mix.mix_one 7 4 (by kernel_rfl) rfl rfl ?_
      simp only [List.drop_succ_cons,List.drop_zero,List.take_succ_cons,List.take_zero]
      go_wp2_with fail
      have hk12:Keeps No v1 (v1.alloc (.cells #[.pointer a3] 66)):=(Keeps.refl _ _).alloc _
      have hq2:(v1.alloc (.cells #[.pointer a3] 66)).heap[v1.heap.size]?=some (.cells #[.pointer a3] 66 (0,0)):=heap_alloc_new _ _
      generalize v1.alloc (.cells #[.pointer a3] 66)=v2 at hk12 hq2 ⊢
      have HC2:Hid (Keeps (fun q=>q=K.P∨(Value.slice sa n sc).ownBlock=some q) w5 v2):=zz (HC1.out.trans hk12 (fun q _ e=>e.elim))
      have HAV2:=zz (HAV1.out.no hk12)
      have HGV2:=zz (HGV1.out.no hk12)
      have HKV2:=zz (fun (hc:φ.code=0)=>(HKV1.out hc).no hk12)
      have HDV2:=zz (fun (hc:φ.code=0)=>(HDV1.out hc).keep hk12 (fun _ e=>e.elim))
      have HQ2:=zz hq2
      clear hk12 hq2
      refine ⟨.inr ⟨⟨v2,HC2.out⟩,rfl⟩,?_⟩
      refine Mix.mix_one 8 3 (by kernel_rfl) rfl rfl ?_
      simp only [List.drop_succ_cons,List.drop_zero,List.take_succ_cons,List.take_zero]
      go_wp2_with (at_builtin; refine wpList_appP _ rfl (.tmp 32) (.tmp 35) rfl N (.slice sa n sc) n (ptrs av) a3 v1.heap.size rfl HGV2.out.own rfl HQ2.out (by have:=HLB.out; omega) (Nat.le_of_lt HGV2.out.lt) ?_)
      intro g' cap' v3 ho3 hg3 hgo
      have hk23:Keeps (fun q=>(Value.slice sa n sc).ownBlock=some q) v2 v3:=(Keeps.refl _ _).grown hg3 (fun q e=>.inl e)
      have HC3:Hid (Keeps (fun q=>q=K.P∨(Value.slice sa n sc).ownBlock=some q) w5 v3):=zz (HC2.out.trans hk23 (fun q _ e=>.inr e))
      have hn3:v3.heap[N]?=some (.cells _ _ (0,0)):=(hk23.block _ HGV2.out.lt (fun e=>HGV2.out.ne N e rfl)).trans HGV2.out.row
      have yj:v3.cell? ⟨N,11,none⟩=some (.slice sa n sc):=by rw [cell_of_row v3 N 11 _ _ _ hn3]; rfl
      have zj:v3.frozen? ⟨N,11,none⟩=false:=frozen_of_row v3 N 11 _ _ hn3
      have HGO:Hid (∀ W,W=v3.setCell ⟨N,11,none⟩ (.slice (some ⟨g',0,none⟩) (n+1) cap')→At w W K φ∧IM W N (itRow 5 at_ ⟨nm,ty,ar,nu⟩ nil nil none none (.slice (some ⟨g',0,none⟩) (n+1) cap') true) 66 1 (.slice (some ⟨g',0,none⟩) (n+1) cap') (n+1) (ptrs (av++[a3]))∧(φ.code=0→LH W N (some ⟨g',0,none⟩) cap' (n+1) (av++[a3]) (es++[x2]))):=zz (fun W hW=>by
       subst hW
       have hks:Keeps (fun q=>q=N) v3 (v3.setCell ⟨N,11,none⟩ (.slice (some ⟨g',0,none⟩) (n+1) cap')):=(Keeps.refl (fun q=>q=N) v3).setCell (.inl rfl) _
       refine ⟨⟨(HAV2.out.p.keepR hk23 (fun q e=>Nat.le_trans HWN.out.2 (own_lo HGV2.out.own q e))).keepR hks (fun q e=>by subst e; exact HWN.out.2),(HAV2.out.k.trans hk23 (fun q hq e=>by have:=own_lo HGV2.out.own q e; exact absurd hq (by have:=HWN.out.1; omega))).trans hks (fun q hq e=>by subst e; exact absurd hq (by have:=HWN.out.1; omega))⟩,HGV2.out.push hk23 (by rw [show ptrs (av++[a3])=ptrs av++[.pointer a3] from by unfold ptrs; rw [List.map_append]; rfl]; exact ho3) hgo 11 rfl,fun hc=>(HKV2.out hc).push hk23 hgo (HDV2.out hc) 11⟩)
      clear ho3 hg3 hgo hk23 hn3
      go_wp2_with fail
      refine ⟨.inr ⟨⟨v3,HC3.out⟩,rfl⟩,?_⟩
      refine Mix.mix_one 9 2 (by kernel_rfl) rfl rfl ?_
      simp only [List.drop_succ_cons,List.drop_zero,List.take_succ_cons,List.take_zero]
      go_wp2_with fail
      refine ⟨.inr ⟨⟨v3,HC3.out⟩,rfl⟩,?_⟩
      refine Mix.mix_one 10 1 (by kernel_rfl) rfl rfl ?_
      simp only [List.drop_succ_cons,List.drop_zero,List.take_succ_cons,List.take_zero]
      go_wp2_with fail
      refine ⟨.inr ⟨⟨v3,HC3.out⟩,rfl⟩,?_⟩
      refine Mix.mix_one 11 0 (by kernel_rfl) rfl rfl ?_
      simp only [List.drop_succ_cons,List.drop_zero,List.take_succ_cons,List.take_zero]
      go_wp2_with fail
      have hgo:=HGO.out _ rfl
      generalize v3.setCell ⟨N,11,none⟩ (.slice (some ⟨g',0,none⟩) (n+1) cap')=w6 at hgo ⊢
      have HA6a:=zz hgo.1
      have HG6a:=zz hgo.2.1
      have HK6a:=zz hgo.2.2
      clear hgo yj zj hne
      refine ⟨.inl ⟨rfl,rfl⟩,?_⟩
      refine Mix.mix_end (by kernel_rfl) ?_
      go_wp2_with fail
      go_roundg (rem K φ)
      case rel=>exact ⟨g,_,_,_,_,_,φ,rfl,HE2,HA6a,HG6a,HK6a⟩
      case measure=>omega
theorem structure_any (K:Pk) (σ σ0:Sy.St) (w wc:World) (N:Nat) (at_:Int) (h0:PS w K σ0) (h:At w wc K σ) (hN:w.heap.size≤N)
    (hn:wc.heap[N]?=some (.cells (itRow 0 at_ Sy.vr0 nil nil none none nil false) 69 (0,0))) (hi:σ.at_ < K.C.T.length) :
    FillI K w wc N 50 (Sy.structM K.C (Sy.it0 at_) σ):=by
 have hle:=h.p.le
 have HS:=zz h0
 have HA0:=zz h
 have HWN:Hid (w.heap.size≤N∧K.B≤N):=zz ⟨hN,Nat.le_trans h0.ord.2.2.2 hN⟩
 have HN0:Hid (IM wc N (itRow 0 at_ Sy.vr0 nil nil none none nil false) 62 5 nil 0 []):=zz (IM.bare hn)
 have hlen:=h0.len
 have hr1:=rem_next hi
 obtain ⟨σ1,h1⟩:∃ x,Sy.nextM K.C σ=x:=⟨_,rfl⟩
 have hm1:Sy.Mo K.C σ σ1:=by rw [← h1]; exact (Sy.Mo.refl hle).next
 have HNX:=zz (fun W (hs:PS W K σ)=>next_any K σ W hs)
 rw [h1] at HNX hr1
 have HNA:=zz (fun W (hs:PS W K σ1)=>name_any K σ1 W hs)
 obtain ⟨r2,h2⟩:∃ x,Sy.nameM K.C σ1=x:=⟨_,rfl⟩
 have hm2:Sy.Mo K.C σ1 r2.2:=by rw [← h2]; exact (Sy.Mo.refl hm1.le).name
 rw [h2] at HNA
 obtain ⟨nm,σ2⟩:=r2
 simp only at hm2 HNA
 have HW:=zz (fun W (hs:PS W K σ2)=>want_any K σ2 ⟨#[123]⟩ W hs)
 obtain ⟨τ,h3⟩:∃ x,Sy.wantM K.C σ2 ⟨#[123]⟩=x:=⟨_,rfl⟩
 have hm3:Sy.Mo K.C σ2 τ:=by rw [← h3]; exact (Sy.Mo.refl hm2.le).want _
 rw [h3] at HW
 have hr2:=rem_mo hm2
 have hr3:=rem_mo hm3
 have hrs:rem K σ≤K.C.T.length:=by unfold rem; omega
 obtain ⟨rL,hL⟩:∃ x,Sy.fieldsM K.C (K.C.T.length+1) τ []=x:=⟨_,rfl⟩
 obtain ⟨vL,σL⟩:=rL
 have HM:Hid (Sy.structM K.C (Sy.it0 at_) σ=(⟨1,at_,⟨nm,Sy.ty0,false,0⟩,vL,[],none,none,[],false⟩,σL)):=zz (by
  unfold Sy.structM Sy.it0; simp only [h1,h2,h3,hL]; rfl)
 have HL:Hid (rem K τ+2≤K.C.T.length+1∧K.C.T.length≤6000∧Sy.fieldsM K.C (K.C.T.length+1) τ []=(vL,σL)):=zz ⟨by omega,hlen,hL⟩
 clear h0 h hN hn hi hle hr1 h1 hm1 h2 hm2 h3 hm3 hr2 hr3 hrs hL hlen
 unfold FillI
 go_enter Tryz.func50,Tryz.ntmps50
 have yc:wc.cell? ⟨N,0,none⟩=some (.int .i64 0):=HN0.out.c (j:=0) rfl
 have zc:wc.frozen? ⟨N,0,none⟩=false:=HN0.out.f 0
 go_upto_region 1 with fail
 have HA1:=zz (HA0.out.newR HS.out ((Keeps.refl (fun q=>q=N) wc).setCell (p:=⟨N,0,none⟩) (.inl rfl) (.int .i64 1)) HWN.out.1)
 have HG1:=zz (HN0.out.setc (r':=itRow 1 at_ Sy.vr0 nil nil none none nil false) 0 (.int .i64 1) rfl)
 generalize wc.setCell ⟨N,0,none⟩ (.int .i64 1)=w1 at HA1 HG1 ⊢
 clear yc zc
 go_wp2_with fail
 refine (HNX.out w1 HA1.out.p).mono ?_
 rintro e w2 ⟨rfl,hat⟩
 have HA2:=zz (HA1.out.trans hat)
 have HG2:=zz (HG1.out.at_ hat HWN.out.2)
 clear hat
 go_wp2_with fail
 refine (HNA.out w2 HA2.out.p).mono ?_
 rintro e w3 ⟨rfl,hat⟩
 have HA3:=zz (HA2.out.trans hat)
 have HG3:=zz (HG2.out.at_ hat HWN.out.2)
 clear hat
 have yc:w3.cell? ⟨N,2,none⟩=some (.string Sy.nt):=HG3.out.c (j:=2) rfl
 have zc:w3.frozen? ⟨N,2,none⟩=false:=HG3.out.f 2
 go_upto_region 3 with fail
 have HA4:=zz (HA3.out.newR HS.out ((Keeps.refl (fun q=>q=N) w3).setCell (p:=⟨N,2,none⟩) (.inl rfl) (.string nm)) HWN.out.1)
 have HG4:=zz (HG3.out.setc (r':=itRow 1 at_ ⟨nm,Sy.ty0,false,0⟩ nil nil none none nil false) 2 (.string nm) rfl)
 generalize w3.setCell ⟨N,2,none⟩ (.string nm)=w4 at HA4 HG4 ⊢
 clear yc zc
 go_wp2_with fail
 refine (HW.out w4 HA4.out.p).mono ?_
 rintro e w5 ⟨rfl,hat⟩
 have HA5:=zz (HA4.out.trans hat)
 have HG5:=zz (HG4.out.at_ hat HWN.out.2)
 clear hat
 go_wp2_with fail
 go_loopg [18] (rem K τ) (fun m v wr=>∃ (g n:Nat) (sa:Option Addr) (sc:Nat) (vs:List Sy.Vr) (χ:Sy.St),m=rem K χ∧Hid (Sy.fieldsM K.C g χ vs=(vL,σL)∧rem K χ+1≤g∧n=vs.length∧n+rem K χ≤6000)∧Hid (At w wr K χ)∧Hid (IM wr N (itRow 1 at_ ⟨nm,Sy.ty0,false,0⟩ (.slice sa n sc) nil none none nil false) 62 5 (.slice sa n sc) n (vs.flatMap vrVals)))
 case atStart=>exact ⟨K.C.T.length+1,0,none,0,[],τ,rfl,zz ⟨HL.out.2.2,by have:=HL.out.1; omega,rfl,by have:=HL.out.1; have:=HL.out.2.1; omega⟩,HA5,HG5⟩
 case round =>
  obtain ⟨g,n,sa,sc,vs,χ,hg,HE,HAR,HGR⟩:=hrel
  obtain ⟨g,rfl⟩:∃ q,g=q+1:=⟨g - 1,by have:=HE.out.2.1; omega⟩
  have hle:=HAR.out.p.le
  have hfgo:=Sy.field_go hle
  have HT:=zz (fun W (hs:PS W K χ)=>typ_any K χ W hs)
  obtain ⟨tt,htt⟩:∃ tt,Sy.typM K.C χ=tt:=⟨_,rfl⟩
  have hn1:Sy.Mo K.C χ tt.2:=by rw [← htt]; exact (Sy.Mo.refl hle).typ
  rw [htt] at HT
  obtain ⟨⟨tb,ts⟩,υ1⟩:=tt
  simp only at HT hn1
  have HNM:=zz (fun W (hs:PS W K υ1)=>name_any K υ1 W hs)
  obtain ⟨nn,hnn⟩:∃ nn,Sy.nameM K.C υ1=nn:=⟨_,rfl⟩
  have hn2:Sy.Mo K.C υ1 nn.2:=by rw [← hnn]; exact (Sy.Mo.refl hn1.le).name
  rw [hnn] at HNM
  obtain ⟨fm,υ2⟩:=nn
  simp only at HNM hn2
  have HNU:=zz (fun V o cs ty W (hs:PS W K υ2) h1 h2 h3 h4=>number_any K υ2 V o cs ty W hs h1 h2 h3 h4)
  obtain ⟨kk,hkk⟩:∃ nn,Sy.numberM K.C υ2=nn:=⟨_,rfl⟩
  have hn3:Sy.Mo K.C υ2 kk.2.2:=by rw [← hkk]; exact (Sy.Mo.refl hn2.le).number
  rw [hkk] at HNU
  obtain ⟨nb,nz,υ3⟩:=kk
  simp only at HNU hn3
  have HW2:=zz (fun W (hs:PS W K υ3)=>want_any K υ3 ⟨#[59]⟩ W hs)
  obtain ⟨φ,hφ⟩:∃ x,Sy.wantM K.C υ3 ⟨#[59]⟩=x:=⟨_,rfl⟩
  have hn4:Sy.Mo K.C υ3 φ:=by rw [← hφ]; exact (Sy.Mo.refl hn3.le).want _
  rw [hφ] at HW2
  obtain ⟨y1,hy1⟩:∃ y:Sy.Vr,(⟨fm,⟨tb,ts⟩,nb,nz⟩:Sy.Vr)=y:=⟨_,rfl⟩
  have hfd:Sy.fieldM K.C χ=(y1,φ):=by unfold Sy.fieldM; simp only [htt,hnn,hkk,hφ,hy1]
  have hmf:Sy.Mo K.C χ φ:=((hn1.trans hn2).trans hn3).trans hn4
  have hrf:=rem_mo hmf
  rw [hfd] at hfgo
  simp only at hfgo
  have HY1:=zz hy1
  have HLB:Hid (n≤6000):=zz (by have hb:=HE.out.2; omega)
  obtain ⟨b6,h6⟩:∃ b,Sy.isM K.C φ ⟨#[125]⟩=b:=⟨_,rfl⟩
  have HT6:=zz (fun W (hs:PS W K φ)=>take_any K φ ⟨#[125]⟩ b6 h6 W hs)
  have HFS:Hid (Sy.fieldsM K.C (g+1) χ vs=if b6=true then (vs++[y1],Sy.wantM K.C (Sy.nextM K.C φ) ⟨#[59]⟩) else if Sy.typedM K.C φ then Sy.fieldsM K.C g φ (vs++[y1]) else (vs++[y1],Sy.lostM K.C φ)):=zz (by
   conv=>lhs; unfold Sy.fieldsM
   simp only [hfd,h6])
  have HFG:=zz hfgo
  have HFM:=zz hmf
  clear hn1 hn2 hn3 hn4 htt hnn hkk hφ hfd hmf hrf hy1 hfgo h6 hle
  go_wp2_with fail
  refine (HT.out wr HAR.out.p).mono ?_
  rintro e' x1 ⟨rfl,hat⟩
  have HB1:=zz (HAR.out.trans hat)
  have HI1:=zz (HGR.out.at_ hat HWN.out.2)
  clear hat
  go_upto_region 5 with fail
  have hv:(x1.alloc (.cells #[.string ⟨#[]⟩,.string tb,.int .i64 ts,.bool false,.int .u64 0] 62)).heap[x1.heap.size]?=some (.cells #[.string ⟨#[]⟩,.string tb,.int .i64 ts,.bool false,.int .u64 0] 62 (0,0)):=heap_alloc_new _ _
  have hk3:Keeps No x1 (x1.alloc (.cells #[.string ⟨#[]⟩,.string tb,.int .i64 ts,.bool false,.int .u64 0] 62)):=(Keeps.refl _ _).alloc _
  generalize x1.alloc (.cells #[.string ⟨#[]⟩,.string tb,.int .i64 ts,.bool false,.int .u64 0] 62)=x2 at hv hk3 ⊢
  obtain ⟨V,hV⟩:∃ q,x1.heap.size=q:=⟨_,rfl⟩
  have HVN:Hid (V ≠ K.P∧(Value.slice sa n sc).ownBlock ≠ some V∧V ≠ N∧w.heap.size≤V∧K.B≤V):=zz ⟨by have:=HB1.out.p.lt; omega,fun e=>by have:=own_ltb HI1.out.own e; omega,by have:=HI1.out.lt; omega,by have:=HB1.out.k.size; omega,by have:=HB1.out.p.ord.2.2.2; omega⟩
  rw [hV] at hv ⊢
  have HV2:=zz hv
  have HB2:=zz (HB1.out.no hk3)
  have HI2:=zz (HI1.out.no hk3)
  clear hv hV hk3
  go_wp2_with fail
  refine (HNM.out x2 HB2.out.p).mono ?_
  rintro e' x3 ⟨rfl,hat⟩
  have HB3:=zz (HB2.out.trans hat)
  have HI3:=zz (HI2.out.at_ hat HWN.out.2)
  have HV3:Hid (x3.heap[V]?=some (.cells #[.string ⟨#[]⟩,.string tb,.int .i64 ts,.bool false,.int .u64 0] 62 (0,0))):=zz ((hat.k.block _ (Array.getElem?_eq_some_iff.1 HV2.out).1 (fun e=>HVN.out.1 e)).trans HV2.out)
  clear hat
  have y0:x3.cell? ⟨V,0,none⟩=some (.string ⟨#[]⟩):=by rw [cell_of_row x3 V 0 _ _ _ HV3.out]; rfl
  have z0:x3.frozen? ⟨V,0,none⟩=false:=frozen_of_row x3 V 0 _ _ HV3.out
  go_upto_region 6 with fail
  have hks:Keeps (fun q=>q=V) x3 (x3.setCell ⟨V,0,none⟩ (.string fm)):=(Keeps.refl (fun q=>q=V) x3).setCell (.inl rfl) _
  have HB4:=zz (HB3.out.newR HS.out hks HVN.out.2.2.2.1)
  have HI4:=zz (HI3.out.newR hks HVN.out.2.2.1 HVN.out.2.1)
  have HV4:Hid ((x3.setCell ⟨V,0,none⟩ (.string fm)).heap[V]?=some (.cells #[.string fm,.string tb,.int .i64 ts,.bool false,.int .u64 0] 62 (0,0))):=zz (by rw [heap_setCell_same x3 V 0 _ _ _ HV3.out]; rfl)
  generalize x3.setCell ⟨V,0,none⟩ (.string fm)=x4 at hks HB4 HI4 HV4 ⊢
  clear y0 z0 hks
  go_wp2_with fail
  refine (HNU.out V 0 _ _ x4 HB4.out.p HV4.out HVN.out.2.2.2.2 rfl rfl).mono ?_
  rintro e' x5 ⟨rfl,hav,hrow⟩
  have HB5:=zz (HB4.out.viaV hav HVN.out.2.2.2.1)
  have HI5:Hid (IM x5 N (itRow 1 at_ ⟨nm,Sy.ty0,false,0⟩ (.slice sa n sc) nil none none nil false) 62 5 (.slice sa n sc) n (vs.flatMap vrVals)):=zz ⟨(hav.k.block _ HI4.out.lt (fun e=>by
      rcases e with e | e
      · have e2:N=K.P:=e; have:=hav.p.ord; have:=HWN.out.2; omega
      · exact HVN.out.2.2.1 e.symm)).trans HI4.out.row,own_kept HI4.out.own (fun q hq=>hav.k.block q (own_ltb HI4.out.own hq) (fun e=>by
      rcases e with e | e
      · have e2:q=K.P:=e; have:=hav.p.ord; have:=HWN.out.2; have:=own_lo HI4.out.own q hq; omega
      · subst e; exact HVN.out.2.1 hq)),HI4.out.ne⟩
  have HV5:Hid (x5.heap[V]?=some (.cells #[.string y1.name,.string y1.ty.base,.int .i64 y1.ty.stars,.bool y1.arr,.int .u64 y1.num] 62 (0,0))):=zz (by rw [← HY1.out]; exact hrow)
  clear hav hrow
  go_wp2_with fail
  refine (HW2.out x5 HB5.out.p).mono ?_
  rintro e' x6 ⟨rfl,hat⟩
  have HB6:=zz (HB5.out.trans hat)
  have HI6:=zz (HI5.out.at_ hat HWN.out.2)
  have HV6:Hid (x6.heap[V]?=some (.cells #[.string y1.name,.string y1.ty.base,.int .i64 y1.ty.stars,.bool y1.arr,.int .u64 y1.num] 62 (0,0))):=zz ((hat.k.block _ (Array.getElem?_eq_some_iff.1 HV5.out).1 (fun e=>HVN.out.1 e)).trans HV5.out)
  clear hat
  go_upto_region 8 with fail
  have HSS:Hid (∀ q,(q=K.P∨(Value.slice sa n sc).ownBlock=some q)→q ≠ N):=zz (fun q hq e=>by
   rcases hq with hq | hq
   · have:=HS.out.ord; have:=HWN.out.2; omega
   · exact HI6.out.ne q hq e)
  have pj:∀ u:KS (fun q=>q=K.P∨(Value.slice sa n sc).ownBlock=some q) x6,u.W.cell? ⟨N,7,none⟩=some (.slice sa n sc):=fun u=>u.cell (HI6.out.c (j:=7) rfl) (fun e=>HSS.out N e rfl)
  have pv0:∀ u:KS (fun q=>q=K.P∨(Value.slice sa n sc).ownBlock=some q) x6,u.W.cell? ⟨V,0,none⟩=some (.string y1.name):=fun u=>u.cell (by rw [cell_of_row x6 V 0 _ _ _ HV6.out]; rfl) (fun e=>by rcases e with e | e; exact HVN.out.1 e; exact HVN.out.2.1 e)
  have pv1:∀ u:KS (fun q=>q=K.P∨(Value.slice sa n sc).ownBlock=some q) x6,u.W.cell? ⟨V,1,none⟩=some (.string y1.ty.base):=fun u=>u.cell (by rw [cell_of_row x6 V 1 _ _ _ HV6.out]; rfl) (fun e=>by rcases e with e | e; exact HVN.out.1 e; exact HVN.out.2.1 e)
  have pv2:∀ u:KS (fun q=>q=K.P∨(Value.slice sa n sc).ownBlock=some q) x6,u.W.cell? ⟨V,2,none⟩=some (.int .i64 y1.ty.stars):=fun u=>u.cell (by rw [cell_of_row x6 V 2 _ _ _ HV6.out]; rfl) (fun e=>by rcases e with e | e; exact HVN.out.1 e; exact HVN.out.2.1 e)
  have pv3:∀ u:KS (fun q=>q=K.P∨(Value.slice sa n sc).ownBlock=some q) x6,u.W.cell? ⟨V,3,none⟩=some (.bool y1.arr):=fun u=>u.cell (by rw [cell_of_row x6 V 3 _ _ _ HV6.out]; rfl) (fun e=>by rcases e with e | e; exact HVN.out.1 e; exact HVN.out.2.1 e)
  have pv4:∀ u:KS (fun q=>q=K.P∨(Value.slice sa n sc).ownBlock=some q) x6,u.W.cell? ⟨V,4,none⟩=some (.int .u64 y1.num):=fun u=>u.cell (by rw [cell_of_row x6 V 4 _ _ _ HV6.out]; rfl) (fun e=>by rcases e with e | e; exact HVN.out.1 e; exact HVN.out.2.1 e)
  have hne:Nonempty (KS (fun q=>q=K.P∨(Value.slice sa n sc).ownBlock=some q) x6):=⟨⟨x6,Keeps.refl _ _⟩⟩
  refine Mix.wp_region_mix (fun W'=>∃ u:KS (fun q=>q=K.P∨(Value.slice sa n sc).ownBlock=some q) x6,W'=u.W) [10] (by kernel_rfl) ?_
  have HV0:Hid (Keeps No x6 x6.drew):=zz ((Keeps.refl _ x6).drew)
  generalize x6.drew=v0 at HV0 ⊢
  have HC0:Hid (Keeps (fun q=>q=K.P∨(Value.slice sa n sc).ownBlock=some q) x6 v0):=zz (HV0.out.mono (fun _ _ e=>e.elim))
  have HAV0:=zz (HB6.out.no HV0.out)
  have HGV0:=zz (HI6.out.no HV0.out)
  refine Mix.mix_seg 0 6 5 (by kernel_rfl) (by kernel_rfl) rfl rfl ⟨⟨v0,HC0.out⟩,rfl⟩ ?_
  simp only [List.drop_succ_cons,List.drop_zero,List.take_succ_cons,List.take_zero]
  repeat (go_big_quiet_step (fail))
  refine wpQuiet_nil ?_
  clear pj pv0 pv1 pv2 pv3 pv4
  have HC1:=HC0
  have HAV1:=HAV0
  have HGV1:=HGV0
  obtain ⟨v1,hv1⟩:∃ v,v0=v:=⟨_,rfl⟩
  rw [hv1] at HC1 HAV1 HGV1 ⊢
  clear hv1
  refine Mix.mix_one 6 4 (by kernel_rfl) rfl rfl ?_
  simp only [List.drop_succ_cons,List.drop_zero,List.take_succ_cons,List.take_zero]
  go_wp2_with fail
  have hk12:Keeps No v1 (v1.alloc (.cells #[.string y1.name,.string y1.ty.base,.int .i64 y1.ty.stars,.bool y1.arr,.int .u64 y1.num] 62)):=(Keeps.refl _ _).alloc _
  have hq2:(v1.alloc (.cells #[.string y1.name,.string y1.ty.base,.int .i64 y1.ty.stars,.bool y1.arr,.int .u64 y1.num] 62)).heap[v1.heap.size]?=some (.cells #[.string y1.name,.string y1.ty.base,.int .i64 y1.ty.stars,.bool y1.arr,.int .u64 y1.num] 62 (0,0)):=heap_alloc_new _ _
  generalize v1.alloc (.cells #[.string y1.name,.string y1.ty.base,.int .i64 y1.ty.stars,.bool y1.arr,.int .u64 y1.num] 62)=v2 at hk12 hq2 ⊢
  have HC2:Hid (Keeps (fun q=>q=K.P∨(Value.slice sa n sc).ownBlock=some q) x6 v2):=zz (HC1.out.trans hk12 (fun q _ e=>e.elim))
  have HAV2:=zz (HAV1.out.no hk12)
  have HGV2:=zz (HGV1.out.no hk12)
  have HQ2:=zz hq2
  clear hk12 hq2
  refine ⟨.inr ⟨⟨v2,HC2.out⟩,rfl⟩,?_⟩
  refine Mix.mix_one 7 3 (by kernel_rfl) rfl rfl ?_
  simp only [List.drop_succ_cons,List.drop_zero,List.take_succ_cons,List.take_zero]
  go_wp2_with (at_builtin; refine wpList_appV _ rfl (.tmp 32) (.tmp 34) 63 rfl Tryz.underlying63 N (.slice sa n sc) n vs y1 v1.heap.size rfl HGV2.out.own rfl HQ2.out (by have:=HLB.out; omega) (Nat.le_of_lt HGV2.out.lt) ?_)
  intro g' cap' v3 ho3 hg3 hgo
  have hk23:Keeps (fun q=>(Value.slice sa n sc).ownBlock=some q) v2 v3:=(Keeps.refl _ _).grown hg3 (fun q e=>.inl e)
  have HC3:Hid (Keeps (fun q=>q=K.P∨(Value.slice sa n sc).ownBlock=some q) x6 v3):=zz (HC2.out.trans hk23 (fun q _ e=>.inr e))
  have hn3:v3.heap[N]?=some (.cells _ _ (0,0)):=(hk23.block _ HGV2.out.lt (fun e=>HGV2.out.ne N e rfl)).trans HGV2.out.row
  have yj:v3.cell? ⟨N,7,none⟩=some (.slice sa n sc):=by rw [cell_of_row v3 N 7 _ _ _ hn3]; rfl
  have zj:v3.frozen? ⟨N,7,none⟩=false:=frozen_of_row v3 N 7 _ _ hn3
  have HGO:Hid (∀ W,W=v3.setCell ⟨N,7,none⟩ (.slice (some ⟨g',0,none⟩) (n+1) cap')→At w W K φ∧IM W N (itRow 1 at_ ⟨nm,Sy.ty0,false,0⟩ (.slice (some ⟨g',0,none⟩) (n+1) cap') nil none none nil false) 62 5 (.slice (some ⟨g',0,none⟩) (n+1) cap') (n+1) ((vs++[y1]).flatMap vrVals)):=zz (fun W hW=>by
   subst hW
   have hks:Keeps (fun q=>q=N) v3 (v3.setCell ⟨N,7,none⟩ (.slice (some ⟨g',0,none⟩) (n+1) cap')):=(Keeps.refl (fun q=>q=N) v3).setCell (.inl rfl) _
   refine ⟨⟨(HAV2.out.p.keepR hk23 (fun q e=>Nat.le_trans HWN.out.2 (own_lo HGV2.out.own q e))).keepR hks (fun q e=>by subst e; exact HWN.out.2),(HAV2.out.k.trans hk23 (fun q hq e=>by have:=own_lo HGV2.out.own q e; exact absurd hq (by have:=HWN.out.1; omega))).trans hks (fun q hq e=>by subst e; exact absurd hq (by have:=HWN.out.1; omega))⟩,HGV2.out.push hk23 (by have e:=ho3; simp only [List.flatMap_append,List.flatMap_cons,List.flatMap_nil,List.append_nil] at e ⊢; exact e) hgo 7 rfl⟩)
  clear ho3 hg3 hgo hk23 hn3
  go_wp2_with fail
  refine ⟨.inr ⟨⟨v3,HC3.out⟩,rfl⟩,?_⟩
  refine Mix.mix_one 8 2 (by kernel_rfl) rfl rfl ?_
  simp only [List.drop_succ_cons,List.drop_zero,List.take_succ_cons,List.take_zero]
  go_wp2_with fail
  refine ⟨.inr ⟨⟨v3,HC3.out⟩,rfl⟩,?_⟩
  refine Mix.mix_one 9 1 (by kernel_rfl) rfl rfl ?_
  simp only [List.drop_succ_cons,List.drop_zero,List.take_succ_cons,List.take_zero]
  go_wp2_with fail
  refine ⟨.inr ⟨⟨v3,HC3.out⟩,rfl⟩,?_⟩
  refine Mix.mix_one 10 0 (by kernel_rfl) rfl rfl ?_
  simp only [List.drop_succ_cons,List.drop_zero,List.take_succ_cons,List.take_zero]
  go_wp2_with fail
  have hgo:=HGO.out _ rfl
  generalize v3.setCell ⟨N,7,none⟩ (.slice (some ⟨g',0,none⟩) (n+1) cap')=x7 at hgo ⊢
  have HB7:=zz hgo.1
  have HI7:=zz hgo.2
  clear hgo yj zj hne
  refine ⟨.inl ⟨rfl,rfl⟩,?_⟩
  refine Mix.mix_end (by kernel_rfl) ?_
  go_wp2_with fail
  refine (HT6.out x7 HB7.out.p).mono ?_
  cases b6 with
  | true =>
    rintro e' x8 ⟨rfl,hat⟩
    have hat2:At x7 x8 K (Sy.nextM K.C φ):=hat
    have HB8:=zz (HB7.out.trans hat2)
    have HI8:=zz (HI7.out.at_ hat2 HWN.out.2)
    have HWE:=zz (fun W (hs:PS W K (Sy.nextM K.C φ))=>want_any K (Sy.nextM K.C φ) ⟨#[59]⟩ W hs)
    have HEQ:Hid (vL=vs++[y1]∧σL=Sy.wantM K.C (Sy.nextM K.C φ) ⟨#[59]⟩):=zz (by
     have h9:=HE.out.1
     rw [HFS.out,if_pos rfl] at h9
     injection h9 with h9 h10
     exact ⟨h9.symm,h10.symm⟩)
    clear hat hat2
    go_wp2_with fail
    refine (HWE.out x8 HB8.out.p).mono ?_
    rintro e' x9 ⟨rfl,hat⟩
    have HB9:=zz (HB8.out.trans hat)
    have HX9:=zz (IM.fin_vars (vs:=vs++[y1]) (n:=n+1) (a:=some ⟨g',0,none⟩) (c:=cap') (body:=none) (HI8.out.at_ hat HWN.out.2) (by rw [List.length_append,HE.out.2.2.1]; rfl) .none)
    clear hat
    go_wp2_with fail
    go_returns
    rw [HM.out,HEQ.out.1,HEQ.out.2]
    exact ⟨rfl,HB9.out.toI,fun _=>HX9.out⟩
  | false =>
    rintro e' x8 ⟨rfl,hat⟩
    have hat2:At x7 x8 K φ:=hat
    have HB8:=zz (HB7.out.trans hat2)
    have HI8:=zz (HI7.out.at_ hat2 HWN.out.2)
    clear hat hat2
    have HTY:=zz (fun W (hs:PS W K φ)=>typed_any K φ W hs)
    obtain ⟨b7,h7⟩:∃ b,Sy.typedM K.C φ=b:=⟨_,rfl⟩
    rw [h7] at HTY
    cases b7 with
    | false =>
      have HLO:=zz (fun W (hs:PS W K φ)=>lost_any K φ W hs)
      have HEQ:Hid (vL=vs++[y1]∧σL=Sy.lostM K.C φ):=zz (by
       have h9:=HE.out.1
       rw [HFS.out,if_neg (by decide),h7,if_neg (by decide)] at h9
       injection h9 with h9 h10
       exact ⟨h9.symm,h10.symm⟩)
      clear h7
      go_wp2_with fail
      refine (HTY.out x8 HB8.out.p).mono ?_
      rintro e' x9 ⟨rfl,hk⟩
      have HB9:=zz (HB8.out.no hk)
      have HI9:=zz (HI8.out.no hk)
      clear hk
      go_wp2_with fail
      refine (HLO.out x9 HB9.out.p).mono ?_
      rintro e' xa ⟨rfl,hat⟩
      have HBa:=zz (HB9.out.trans hat)
      have HXa:=zz (IM.fin_vars (vs:=vs++[y1]) (n:=n+1) (a:=some ⟨g',0,none⟩) (c:=cap') (body:=none) (HI9.out.at_ hat HWN.out.2) (by rw [List.length_append,HE.out.2.2.1]; rfl) .none)
      clear hat
      go_wp2_with fail
      go_returns
      rw [HM.out,HEQ.out.1,HEQ.out.2]
      exact ⟨rfl,HBa.out.toI,fun _=>HXa.out⟩
    | true =>
      have hgo:=HFG.out h7
      have hms:rem K φ < rem K χ:=by have:=HFM.out.le; unfold rem; omega
      have HE2:Hid (Sy.fieldsM K.C g φ (vs++[y1])=(vL,σL)∧rem K φ+1≤g∧n+1=(vs++[y1]).length∧n+1+rem K φ≤6000):=zz (by
       have hb:=HE.out.2
       refine ⟨?_,by omega,by rw [List.length_append,hb.2.1]; rfl,by omega⟩
       rw [← HE.out.1,HFS.out,if_neg (by decide),h7,if_pos rfl])
      clear h7 hgo
      go_wp2_with fail
      refine (HTY.out x8 HB8.out.p).mono ?_
      rintro e' x9 ⟨rfl,hk⟩
      have HB9:=zz (HB8.out.no hk)
      have HI9:=zz (HI8.out.no hk)
      clear hk
      go_wp2_with fail
      go_roundg (rem K φ)
      case rel=>exact ⟨g,_,_,_,_,φ,rfl,HE2,HB9,HI9⟩
      case measure=>omega
end Go.Proofs.YtflbkdfbjofllaaGreatDoor
