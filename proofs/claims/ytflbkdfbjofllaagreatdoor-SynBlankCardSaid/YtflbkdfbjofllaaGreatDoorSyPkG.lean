import Derived.Test.YtflbkdfbjofllaaGreatDoorSyPkF
set_option maxRecDepth 100000
set_option maxHeartbeats 25600000
set_option linter.unusedSimpArgs false
set_option linter.unusedVariables false
namespace Go.Proofs.YtflbkdfbjofllaaGreatDoor
open Go.RowKit Lx
theorem Sy.labelled_go {C:Sy.Cx} {σ:Sy.St} (h:σ.at_ < C.T.length):Sy.Mo C (Sy.nextM C σ) (Sy.labelledM C σ).2:=by
 have r:Sy.Mo C (Sy.nextM C σ) (Sy.nextM C σ):=Sy.Mo.refl ((Sy.Mo.refl (Nat.le_of_lt h)).next).le
 unfold Sy.labelledM
 simp only
 split
 · exact (((r.go _).numberType _).next).want _
 split
 · exact ((r.go _).next).want _
 · exact ((r.go _).lost.next).want _
theorem choice_any (K:Pk) (f:Nat) (ih:∀ g,g≤f→StmtC K g) (σ σ0:Sy.St) (w wc:World) (N:Nat) (h0:PS w K σ0) (h:At w wc K σ) (hN:w.heap.size≤N)
    (hn:Nod wc N N 0 Sy.vr0 Sy.nt false 0 none none none none 0 []∧Hung wc N N none none none none none none none 0 [] []) (hi:σ.at_ < K.C.T.length) (hf:10 * rem K σ+6≤f+1) :
    FillC K w wc N 161 (Sy.chooseM K.C f σ):=by
 have hle:=h.p.le
 have HIH:=zz ih
 have HS:=zz h0
 have HA0:=zz h
 have HN0:=zz hn
 have HWN:Hid (w.heap.size≤N∧K.B≤N):=zz ⟨hN,Nat.le_trans h0.ord.2.2.2 hN⟩
 have hr1:=rem_next hi
 obtain ⟨σ1,h1⟩:∃ x,Sy.nextM K.C σ=x:=⟨_,rfl⟩
 have hm1:Sy.Mo K.C σ σ1:=by rw [← h1]; exact (Sy.Mo.refl hle).next
 have HNX:=zz (fun W (hs:PS W K σ)=>next_any K σ W hs)
 rw [h1] at HNX hr1
 have HX:=zz (fun W (hs:PS W K σ1)=>asked_any K σ1 W hs)
 obtain ⟨r2,h2⟩:∃ x,Sy.askedM K.C σ1=x:=⟨_,rfl⟩
 have hm2:Sy.Mo K.C σ1 r2.2:=by rw [← h2]; exact (Sy.Mo.refl hm1.le).asked
 rw [h2] at HX
 obtain ⟨e1,σ2⟩:=r2
 simp only at hm2
 have hr2:=rem_mo hm2
 obtain ⟨τ,h3⟩:∃ x,Sy.wantM K.C σ2 ⟨#[123]⟩=x:=⟨_,rfl⟩
 have hm3:Sy.Mo K.C σ2 τ:=by rw [← h3]; exact (Sy.Mo.refl hm2.le).want _
 have HW:=zz (fun W (hs:PS W K σ2)=>want_any K σ2 ⟨#[123]⟩ W hs)
 rw [h3] at HW
 have hr3:=rem_mo hm3
 have HM:Hid (Sy.chooseM K.C f σ=Sy.S K.C f (.choiceL (some e1) []) τ∧10 * rem K τ+7≤f∧rem K τ≤6000):=zz ⟨by
  unfold Sy.chooseM
  simp only [h1,h2,h3],by omega,by have:=h0.len; unfold rem; omega⟩
 have HC21:Hid (σ2.code=0→σ1.code=0):=zz hm2.code
 have HC32:Hid (τ.code=0→σ2.code=0):=zz hm3.code
 clear ih h0 h hN hn hi hf hle hr1 h1 hm1 h2 hm2 hr2 h3 hm3 hr3
 unfold FillC
 go_enter Tryz.func161,Tryz.ntmps161
 go_wp2_with fail
 refine (HNX.out wc HA0.out.p).mono ?_
 rintro e w1 ⟨rfl,hat⟩
 have HA1:=zz (HA0.out.trans hat)
 have HN1:=zz (HN0.out.1.at_ hat HWN.out.2)
 have HH1:=zz (HN0.out.2.at_ hat HWN.out.2)
 clear hat
 have y0:w1.cell? ⟨N,0,none⟩=some (.int .i64 0):=HN1.out.c (j:=0) rfl
 have z0:w1.frozen? ⟨N,0,none⟩=false:=HN1.out.f 0
 go_upto_region 2 with fail
 have HA2:=zz (HA1.out.newR HS.out ((Keeps.refl (fun q=>q=N) w1).setCell (p:=⟨N,0,none⟩) (.inl rfl) (.int .i64 8)) HWN.out.1)
 have HN2:=zz (HN1.out.set_kind 8)
 have HH2:=zz (fun (_:σ1.code=0)=>HH1.out.setc 0 (.int .i64 8))
 generalize w1.setCell ⟨N,0,none⟩ (.int .i64 8)=w2 at HA2 HN2 HH2 ⊢
 clear y0 z0
 have hne:Nonempty (KS (PE K N) w2):=⟨⟨w2,Keeps.refl _ _⟩⟩
 refine Mix.wp_region_mix (fun W'=>∃ u:KS (PE K N) w2,W'=u.W) [] (by kernel_rfl) ?_
 have HV0:Hid (Keeps No w2 w2.drew):=zz ((Keeps.refl _ w2).drew)
 generalize w2.drew=v0 at HV0 ⊢
 have HC0:Hid (Keeps (PE K N) w2 v0):=zz (HV0.out.mono (fun _ _ e=>e.elim))
 have HAV0:=zz (HA2.out.no HV0.out)
 have HNV0:=zz (HN2.out.no HV0.out)
 have HHV0:=zz (fun hc=>(HH2.out hc).no HV0.out)
 refine Mix.mix_seg 0 2 5 (by kernel_rfl) (by kernel_rfl) rfl rfl ⟨⟨v0,HC0.out⟩,rfl⟩ ?_
 simp only [List.drop_succ_cons,List.drop_zero,List.take_succ_cons,List.take_zero]
 repeat (go_big_quiet_step (fail))
 refine wpQuiet_nil ?_
 refine Mix.mix_seg 3 2 3 (by kernel_rfl) (by kernel_rfl) rfl rfl ⟨⟨v0,HC0.out⟩,rfl⟩ ?_
 simp only [List.drop_succ_cons,List.drop_zero,List.take_succ_cons,List.take_zero]
 repeat (go_big_quiet_step (fail))
 refine wpQuiet_nil ?_
 refine Mix.mix_one 2 2 (by kernel_rfl) rfl rfl ?_
 simp only [List.drop_succ_cons,List.drop_zero,List.take_succ_cons,List.take_zero]
 go_wp2_with fail
 refine (HX.out v0 HAV0.out.p).mono ?_
 rintro e' v1 ⟨a1,rfl,hat,hex⟩
 have HC1:Hid (Keeps (PE K N) w2 v1):=zz (HC0.out.trans hat.k (fun q _ e=>.inl e))
 have HAV1:=zz (HAV0.out.trans hat)
 have HNV1:=zz (HNV0.out.at_ hat HWN.out.2)
 have HHV1:=zz (fun (hc:σ2.code=0)=>(HHV0.out (HC21.out hc)).at_ hat HWN.out.2)
 have HOV1:Hid (σ2.code=0→OpD v1 (Dc N N (.slice none 0 0)) a1 (some e1)):=zz (fun hc=>.some (ExD.mono (hex hc) (fun q _ hd=>by
  have h1:v0.heap.size≤q:=hd
  have h2:=HNV0.out.lt
  exact ⟨by omega,by omega,fun e=>nomatch e⟩)))
 clear hat hex
 go_wp2_with fail
 refine ⟨.inr ⟨⟨v1,HC1.out⟩,rfl⟩,?_⟩
 refine Mix.mix_one 5 1 (by kernel_rfl) rfl rfl ?_
 simp only [List.drop_succ_cons,List.drop_zero,List.take_succ_cons,List.take_zero]
 go_wp2_with fail
 refine ⟨.inr ⟨⟨v1,HC1.out⟩,rfl⟩,?_⟩
 refine Mix.mix_one 6 0 (by kernel_rfl) rfl rfl ?_
 simp only [List.drop_succ_cons,List.drop_zero,List.take_succ_cons,List.take_zero]
 have y9:v1.cell? ⟨N,9,none⟩=some (.pointer none):=HNV1.out.c (j:=9) rfl
 have z9:v1.frozen? ⟨N,9,none⟩=false:=HNV1.out.f 9
 go_wp2_with fail
 have HA3:=zz (HAV1.out.newR HS.out ((Keeps.refl (fun q=>q=N) v1).setCell (p:=⟨N,9,none⟩) (.inl rfl) (.pointer a1)) HWN.out.1)
 have HN3:=zz (HNV1.out.set_p0 a1)
 have HH3:=zz (fun (hc:σ2.code=0)=>((HHV1.out hc).put0 (HOV1.out hc)).setc 9 (.pointer a1))
 have HC2:Hid (Keeps (PE K N) w2 (v1.setCell ⟨N,9,none⟩ (.pointer a1))):=zz (Keeps.setCell (S:=PE K N) HC1.out (.inl (.inr rfl)) _)
 generalize v1.setCell ⟨N,9,none⟩ (.pointer a1)=w3 at HC2 HA3 HN3 HH3 ⊢
 clear y9 z9 hne
 refine ⟨.inr ⟨⟨w3,HC2.out⟩,rfl⟩,?_⟩
 refine Mix.mix_end (by kernel_rfl) ?_
 go_wp2_with fail
 refine (HW.out w3 HA3.out.p).mono ?_
 rintro e' w4 ⟨rfl,hat⟩
 have HA4:=zz (HA3.out.trans hat)
 have HN4:=zz (HN3.out.at_ hat HWN.out.2)
 have HH4:Hid (τ.code=0→Hung w4 N N a1 none none (some e1) none none none 0 [] []):=zz (fun hc=>(HH3.out (HC32.out hc)).at_ hat HWN.out.2)
 clear hat
 go_wp2_with fail
 go_loopg [18] (rem K τ) (fun m v wr=>∃ (g2:Nat) (sa:Option Addr) (sc:Nat) (av:List (Option Addr)) (ss:List Sy.Sm) (χ:Sy.St),m=rem K χ∧Hid (Sy.S K.C g2 (.choiceL (some e1) ss) χ=Sy.S K.C f (.choiceL (some e1) []) τ∧10 * rem K χ+7≤g2∧g2≤f∧av.length+rem K χ≤6000)∧Hid (At w wr K χ)∧Hid (Nod wr N N 8 Sy.vr0 Sy.nt false 0 a1 none none sa sc av)∧Hid (χ.code=0→Hung wr N N a1 none none (some e1) none none sa sc av ss))
 case atStart=>exact ⟨f,none,0,[],[],τ,rfl,zz ⟨rfl,HM.out.2.1,Nat.le_refl _,by have:=HM.out.2.2; simp; omega⟩,HA4,HN4,HH4⟩
 case round =>
  obtain ⟨g2,sa,sc,av,ss,χ,hg,HE,HAR,HGR,HKR⟩:=hrel
  obtain ⟨g2,rfl⟩:∃ q,g2=q+1:=⟨g2 - 1,by have:=HE.out.2.1; omega⟩
  have hle:=HAR.out.p.le
  obtain ⟨b6,h6⟩:∃ b,Sy.isM K.C χ ⟨#[125]⟩=b:=⟨_,rfl⟩
  have HT6:=zz (fun W (hs:PS W K χ)=>take_any K χ ⟨#[125]⟩ b6 h6 W hs)
  cases b6 with
  | true =>
    obtain ⟨υ,hυ⟩:∃ υ,Sy.nextM K.C χ=υ:=⟨_,rfl⟩
    have hm:Sy.Mo K.C χ υ:=by rw [← hυ]; exact (Sy.Mo.refl hle).next
    rw [hυ] at HT6
    have HF:Hid (Sy.chooseM K.C f σ=(.mk 8 Sy.vr0 Sy.nt false 0 (some e1) none none ss,υ)):=zz (by
     rw [HM.out.1,← HE.out.1]
     conv=>lhs; unfold Sy.S
     simp only [h6,hυ,if_true])
    have HCD:Hid (υ.code=0→χ.code=0):=zz hm.code
    clear h6 hυ hm hle
    go_wp2_with fail
    refine (HT6.out wr HAR.out.p).mono ?_
    rintro e' w5 ⟨rfl,hat⟩
    have hat2:At wr w5 K υ:=hat
    have HA5:=zz (HAR.out.trans hat2)
    have HG5:=zz (HGR.out.at_ hat2 HWN.out.2)
    have HK5:=zz (fun (hc:υ.code=0)=>(HKR.out (HCD.out hc)).at_ hat2 HWN.out.2)
    clear hat hat2
    go_wp2_with fail
    go_returns
    rw [HF.out]
    exact ⟨rfl,HA5.out,fun hc=>HG5.out.fin (HK5.out hc)⟩
  | false =>
    obtain ⟨n,hn⟩:∃ n,K.C.T.length=n:=⟨_,rfl⟩
    by_cases hd:χ.at_=K.C.T.length
    · have ed:((χ.at_:Int) == (n:Int))=true:=by rw [hd,hn]; simp
      have HLO:=zz (fun W (hs:PS W K χ)=>lost_any K χ W hs)
      obtain ⟨υ,hυ⟩:∃ υ,Sy.lostM K.C χ=υ:=⟨_,rfl⟩
      have hm:Sy.Mo K.C χ υ:=by rw [← hυ]; exact (Sy.Mo.refl hle).lost
      rw [hυ] at HLO
      have HF:Hid (Sy.chooseM K.C f σ=(.mk 8 Sy.vr0 Sy.nt false 0 (some e1) none none ss,υ)):=zz (by
       rw [HM.out.1,← HE.out.1]
       conv=>lhs; unfold Sy.S
       simp only [h6,hυ,hd,if_true,if_neg (show ¬ (false=true) by decide)])
      have HCD:Hid (υ.code=0→χ.code=0):=zz hm.code
      clear h6 hυ hm hle hd
      go_wp2_with fail
      refine (HT6.out wr HAR.out.p).mono ?_
      rintro e' w5 ⟨rfl,hat⟩
      have hat2:At wr w5 K χ:=hat
      have HA5:=zz (HAR.out.trans hat2)
      have HG5:=zz (HGR.out.at_ hat2 HWN.out.2)
      have HK5:=zz (fun (hc:χ.code=0)=>(HKR.out hc).at_ hat2 HWN.out.2)
      clear hat hat2
      have hne:Nonempty (KW w5):=⟨KW.of _⟩
      have c0:w5.cell? ⟨K.P,0,none⟩=some (.slice K.ta n K.tc):=by rw [← hn]; exact HA5.out.p.c (j:=0) rfl
      have c1:w5.cell? ⟨K.P,1,none⟩=some (.int .i64 (χ.at_:Int)):=HA5.out.p.c (j:=1) rfl
      have p0:=fun u:KW w5=>u.cell c0
      have p1:=fun u:KW w5=>u.cell c1
      clear c0 c1 hn
      go_wp2_with fail
      refine wp_region_class (C:=fun W=>∃ u:KW w5,W=u.W) (by kernel_rfl) (by kernel_rfl) ⟨⟨World.drew _,(Keeps.refl _ _).drew⟩,rfl⟩ ?_
      repeat (go_big_quiet_step (fail))
      refine wpQuiet_nil ?_
      rintro _ ⟨T,rfl⟩
      obtain ⟨w6,hW⟩:∃ W,T.W=W:=⟨_,rfl⟩
      have HT:Hid (Keeps No w5 w6):=zz (by rw [← hW]; exact T.h)
      rw [hW]
      clear p0 p1 hne hW T
      have HA6:=zz (HA5.out.no HT.out)
      have HG6:=zz (HG5.out.no HT.out)
      have HK6:=zz (fun (hc:χ.code=0)=>(HK5.out hc).no HT.out)
      go_wp2_with fail
      clear ed
      refine (HLO.out w6 HA6.out.p).mono ?_
      rintro e' w7 ⟨rfl,hat⟩
      have HA7:=zz (HA6.out.trans hat)
      have HX7:Hid (υ.code=0→SmAt w7 N (some ⟨N,0,none⟩) (.mk 8 Sy.vr0 Sy.nt false 0 (some e1) none none ss)):=zz (fun hc=>(HG6.out.at_ hat HWN.out.2).fin ((HK6.out (HCD.out hc)).at_ hat HWN.out.2))
      clear hat
      go_wp2_with fail
      go_returns
      rw [HF.out]
      exact ⟨rfl,HA7.out,HX7.out⟩
    · have ed:((χ.at_:Int) == (n:Int))=false:=beq_eq_false_iff_ne.2 (by omega)
      have hbe:=HE.out.2
      have hr1:1≤rem K χ:=by unfold rem; omega
      obtain ⟨b7,h7⟩:∃ b,Sy.isM K.C χ ⟨#[99,97,115,101]⟩=b:=⟨_,rfl⟩
      have HIS:=zz (fun W (hs:PS W K χ)=>is_as K χ ⟨#[99,97,115,101]⟩ b7 h7 W hs)
      cases b7 with
      | true =>
        have HY:=zz (fun W (hs:PS W K χ)=>labelled_any K χ W hs)
        obtain ⟨r4,hr4⟩:∃ r,Sy.labelledM K.C χ=r:=⟨_,rfl⟩
        have hm6:Sy.Mo K.C χ r4.2:=by rw [← hr4]; exact (Sy.Mo.refl hle).labelled
        have hgo:χ.at_ < r4.2.at_:=by rw [← hr4]; exact Nat.lt_of_lt_of_le (Sy.next_go (by omega)) (Sy.labelled_go (by omega)).at_
        rw [hr4] at HY
        obtain ⟨s4,φ⟩:=r4
        simp only at hm6 hgo
        have hr6:rem K φ+1≤rem K χ:=by have:=hm6.le; unfold rem; omega
        have HE4:Hid (Sy.S K.C g2 (.choiceL (some e1) (ss++[s4])) φ=Sy.S K.C f (.choiceL (some e1) []) τ∧10 * rem K φ+7≤g2∧g2≤f∧(av.length+1)+rem K φ≤6000):=zz (by
         refine ⟨?_,by omega,by omega,by omega⟩
         rw [← HE.out.1]
         conv=>rhs; unfold Sy.S
         simp only [h6,hd,h7,hr4,if_true,if_false,if_neg (show ¬ (false=true) by decide)])
        have HLB:Hid (av.length≤6000):=zz (by omega)
        have hms:rem K φ < rem K χ:=by omega
        have HCD2:Hid (φ.code=0→χ.code=0):=zz hm6.code
        clear h6 h7 hm6 hgo hr4 hr6 hle hd hbe hr1
        go_wp2_with fail
        refine (HT6.out wr HAR.out.p).mono ?_
        rintro e' w5 ⟨rfl,hat⟩
        have hat2:At wr w5 K χ:=hat
        have HA5:=zz (HAR.out.trans hat2)
        have HG5:=zz (HGR.out.at_ hat2 HWN.out.2)
        have HK5:=zz (fun (hc:χ.code=0)=>(HKR.out hc).at_ hat2 HWN.out.2)
        clear hat hat2
        have hne:Nonempty (KW w5):=⟨KW.of _⟩
        have c0:w5.cell? ⟨K.P,0,none⟩=some (.slice K.ta n K.tc):=by rw [← hn]; exact HA5.out.p.c (j:=0) rfl
        have c1:w5.cell? ⟨K.P,1,none⟩=some (.int .i64 (χ.at_:Int)):=HA5.out.p.c (j:=1) rfl
        have p0:=fun u:KW w5=>u.cell c0
        have p1:=fun u:KW w5=>u.cell c1
        clear c0 c1 hn
        go_wp2_with fail
        refine wp_region_class (C:=fun W=>∃ u:KW w5,W=u.W) (by kernel_rfl) (by kernel_rfl) ⟨⟨World.drew _,(Keeps.refl _ _).drew⟩,rfl⟩ ?_
        repeat (go_big_quiet_step (fail))
        refine wpQuiet_nil ?_
        rintro _ ⟨T,rfl⟩
        obtain ⟨w6,hW⟩:∃ W,T.W=W:=⟨_,rfl⟩
        have HT:Hid (Keeps No w5 w6):=zz (by rw [← hW]; exact T.h)
        rw [hW]
        clear p0 p1 hne hW T
        have HA6:=zz (HA5.out.no HT.out)
        have HG6:=zz (HG5.out.no HT.out)
        have HK6:=zz (fun (hc:χ.code=0)=>(HK5.out hc).no HT.out)
        go_wp2_with fail
        refine (HIS.out w6 HA6.out.p).mono ?_
        rintro e' w7 ⟨rfl,hk⟩
        have HA7:=zz (HA6.out.no hk)
        have HG7:=zz (HG6.out.no hk)
        have HK7:=zz (fun (hc:χ.code=0)=>(HK6.out hc).no hk)
        clear hk
        go_upto_region 8 with fail
        clear ed
        have HSS:Hid (∀ q,(q=K.P∨(Value.slice sa av.length sc).ownBlock=some q)→q ≠ N):=zz (fun q hq e=>by
         rcases hq with hq | hq
         · have:=HS.out.ord; have:=HWN.out.2; omega
         · exact HG7.out.ne q hq e)
        have p12:∀ u:KS (fun q=>q=K.P∨(Value.slice sa av.length sc).ownBlock=some q) w7,u.W.cell? ⟨N,12,none⟩=some (.slice sa av.length sc):=fun u=>u.cell (HG7.out.c (j:=12) rfl) (fun e=>HSS.out N e rfl)
        have hne:Nonempty (KS (fun q=>q=K.P∨(Value.slice sa av.length sc).ownBlock=some q) w7):=⟨⟨w7,Keeps.refl _ _⟩⟩
        refine Mix.wp_region_mix (fun W'=>∃ u:KS (fun q=>q=K.P∨(Value.slice sa av.length sc).ownBlock=some q) w7,W'=u.W) [11] (by kernel_rfl) ?_
        have HV0:Hid (Keeps No w7 w7.drew):=zz ((Keeps.refl _ w7).drew)
        generalize w7.drew=v0 at HV0 ⊢
        have HC0:Hid (Keeps (fun q=>q=K.P∨(Value.slice sa av.length sc).ownBlock=some q) w7 v0):=zz (HV0.out.mono (fun _ _ e=>e.elim))
        have HAV0:=zz (HA7.out.no HV0.out)
        have HGV0:=zz (HG7.out.no HV0.out)
        have HKV0:=zz (fun hc=>(HK7.out hc).no HV0.out)
        refine Mix.mix_seg 0 6 6 (by kernel_rfl) (by kernel_rfl) rfl rfl ⟨⟨v0,HC0.out⟩,rfl⟩ ?_
        simp only [List.drop_succ_cons,List.drop_zero,List.take_succ_cons,List.take_zero]
        repeat (go_big_quiet_step (fail))
        refine wpQuiet_nil ?_
        clear p12
        refine Mix.mix_one 6 5 (by kernel_rfl) rfl rfl ?_
        simp only [List.drop_succ_cons,List.drop_zero,List.take_succ_cons,List.take_zero]
        go_wp2_with fail
        refine (HY.out v0 HAV0.out.p).mono ?_
        rintro e' v1 ⟨a4,rfl,hat,hex⟩
        have HC1:Hid (Keeps (fun q=>q=K.P∨(Value.slice sa av.length sc).ownBlock=some q) w7 v1):=zz (HC0.out.trans hat.k (fun q _ e=>.inl e))
        have HAV1:=zz (HAV0.out.trans hat)
        have HGV1:=zz (HGV0.out.at_ hat HWN.out.2)
        have HKV1:=zz (fun (hc:φ.code=0)=>(HKV0.out (HCD2.out hc)).at_ hat HWN.out.2)
        have HDV1:Hid (φ.code=0→SmD v1 (Dc N N (.slice sa av.length sc)) a4 s4):=zz (fun hc=>SmD.mono (hex hc) (fun q _ hd=>⟨by have h5:v0.heap.size≤q:=hd; have:=HGV0.out.lt; omega,fun e=>by have h5:v0.heap.size≤q:=hd; have:=HGV0.out.lt; omega,fun e=>by have h5:v0.heap.size≤q:=hd; have:=own_ltb HGV0.out.own e; omega⟩))
        clear hat hex
        go_wp2_with fail
        refine ⟨.inr ⟨⟨v1,HC1.out⟩,rfl⟩,?_⟩
        refine Mix.mix_one 7 4 (by kernel_rfl) rfl rfl ?_
        simp only [List.drop_succ_cons,List.drop_zero,List.take_succ_cons,List.take_zero]
        go_wp2_with fail
        have hk12:Keeps No v1 (v1.alloc (.cells #[.pointer a4] 65)):=(Keeps.refl _ _).alloc _
        have hq2:(v1.alloc (.cells #[.pointer a4] 65)).heap[v1.heap.size]?=some (.cells #[.pointer a4] 65 (0,0)):=heap_alloc_new _ _
        generalize v1.alloc (.cells #[.pointer a4] 65)=v2 at hk12 hq2 ⊢
        have HC2:Hid (Keeps (fun q=>q=K.P∨(Value.slice sa av.length sc).ownBlock=some q) w7 v2):=zz (HC1.out.trans hk12 (fun q _ e=>e.elim))
        have HAV2:=zz (HAV1.out.no hk12)
        have HGV2:=zz (HGV1.out.no hk12)
        have HKV2:=zz (fun (hc:φ.code=0)=>(HKV1.out hc).no hk12)
        have HDV2:=zz (fun (hc:φ.code=0)=>(HDV1.out hc).keep hk12 (fun _ e=>e.elim))
        have HQ2:=zz hq2
        clear hk12 hq2
        refine ⟨.inr ⟨⟨v2,HC2.out⟩,rfl⟩,?_⟩
        refine Mix.mix_one 8 3 (by kernel_rfl) rfl rfl ?_
        simp only [List.drop_succ_cons,List.drop_zero,List.take_succ_cons,List.take_zero]
        go_wp2_with (at_builtin; refine wpList_appS _ rfl (.tmp 51) (.tmp 54) rfl N (.slice sa av.length sc) av.length (ptrs av) a4 v1.heap.size rfl HGV2.out.own rfl HQ2.out (by have:=HLB.out; omega) (Nat.le_of_lt HGV2.out.lt) ?_)
        intro g' cap' v3 ho3 hg3 hgo
        have hk23:Keeps (fun q=>(Value.slice sa av.length sc).ownBlock=some q) v2 v3:=(Keeps.refl _ _).grown hg3 (fun q e=>.inl e)
        have HC3:Hid (Keeps (fun q=>q=K.P∨(Value.slice sa av.length sc).ownBlock=some q) w7 v3):=zz (HC2.out.trans hk23 (fun q _ e=>.inr e))
        have hn3:v3.heap[N]?=some (.cells _ _ (0,0)):=(hk23.block _ HGV2.out.lt (fun e=>HGV2.out.ne N e rfl)).trans HGV2.out.row
        have y12:v3.cell? ⟨N,12,none⟩=some (.slice sa av.length sc):=by rw [cell_of_row v3 N 12 _ _ _ hn3]; rfl
        have z12:v3.frozen? ⟨N,12,none⟩=false:=frozen_of_row v3 N 12 _ _ hn3
        have HGO:Hid (∀ W,W=v3.setCell ⟨N,12,none⟩ (.slice (some ⟨g',0,none⟩) (av.length+1) cap')→At w W K φ∧Nod W N N 8 Sy.vr0 Sy.nt false 0 a1 none none (some ⟨g',0,none⟩) cap' (av++[a4])∧(φ.code=0→Hung W N N a1 none none (some e1) none none (some ⟨g',0,none⟩) cap' (av++[a4]) (ss++[s4]))):=zz (fun W hW=>by
         subst hW
         have hks:Keeps (fun q=>q=N) v3 (v3.setCell ⟨N,12,none⟩ (.slice (some ⟨g',0,none⟩) (av.length+1) cap')):=(Keeps.refl (fun q=>q=N) v3).setCell (.inl rfl) _
         refine ⟨⟨(HAV2.out.p.keepR hk23 (fun q e=>Nat.le_trans HWN.out.2 (own_lo HGV2.out.own q e))).keepR hks (fun q e=>by subst e; exact HWN.out.2),(HAV2.out.k.trans hk23 (fun q hq e=>by have:=own_lo HGV2.out.own q e; exact absurd hq (by have:=HWN.out.1; omega))).trans hks (fun q hq e=>by subst e; exact absurd hq (by have:=HWN.out.1; omega))⟩,HGV2.out.push hk23 ho3 hgo,fun hc=>(HKV2.out hc).push hk23 hgo (HDV2.out hc)⟩)
        clear ho3 hg3 hgo hk23 hn3
        go_wp2_with fail
        refine ⟨.inr ⟨⟨v3,HC3.out⟩,rfl⟩,?_⟩
        refine Mix.mix_one 9 2 (by kernel_rfl) rfl rfl ?_
        simp only [List.drop_succ_cons,List.drop_zero,List.take_succ_cons,List.take_zero]
        go_wp2_with fail
        refine ⟨.inr ⟨⟨v3,HC3.out⟩,rfl⟩,?_⟩
        refine Mix.mix_one 10 1 (by kernel_rfl) rfl rfl ?_
        simp only [List.drop_succ_cons,List.drop_zero,List.take_succ_cons,List.take_zero]
        go_wp2_with fail
        refine ⟨.inr ⟨⟨v3,HC3.out⟩,rfl⟩,?_⟩
        refine Mix.mix_one 11 0 (by kernel_rfl) rfl rfl ?_
        simp only [List.drop_succ_cons,List.drop_zero,List.take_succ_cons,List.take_zero]
        go_wp2_with fail
        have hgo:=HGO.out _ rfl
        generalize v3.setCell ⟨N,12,none⟩ (.slice (some ⟨g',0,none⟩) (av.length+1) cap')=w9 at hgo ⊢
        have HA9:=zz hgo.1
        have HG9:=zz hgo.2.1
        have HK9:=zz hgo.2.2
        clear hgo y12 z12 hne
        refine ⟨.inl ⟨rfl,rfl⟩,?_⟩
        refine Mix.mix_end (by kernel_rfl) ?_
        go_wp2_with fail
        go_roundg (rem K φ)
        case rel=>exact ⟨g2,_,_,_,_,φ,rfl,zz ⟨HE4.out.1,HE4.out.2.1,HE4.out.2.2.1,by rw [List.length_append]; exact HE4.out.2.2.2⟩,HA9,HG9,HK9⟩
        case measure=>omega
      | false =>
        obtain ⟨b8,h8⟩:∃ b,Sy.isM K.C χ ⟨#[100,101,102,97,117,108,116]⟩=b:=⟨_,rfl⟩
        have HT8:=zz (fun W (hs:PS W K χ)=>take_any K χ ⟨#[100,101,102,97,117,108,116]⟩ b8 h8 W hs)
        cases b8 with
        | true =>
          obtain ⟨χ1,hχ1⟩:∃ x,Sy.nextM K.C χ=x:=⟨_,rfl⟩
          have hm5:Sy.Mo K.C χ χ1:=by rw [← hχ1]; exact (Sy.Mo.refl hle).next
          have hn5:=rem_next (K:=K) (σ:=χ) (by omega)
          rw [hχ1] at HT8 hn5
          obtain ⟨φ,hφ⟩:∃ x,Sy.wantM K.C χ1 ⟨#[58]⟩=x:=⟨_,rfl⟩
          have hm6:Sy.Mo K.C χ1 φ:=by rw [← hφ]; exact (Sy.Mo.refl hm5.le).want _
          have HWT:=zz (fun W (hs:PS W K χ1)=>want_any K χ1 ⟨#[58]⟩ W hs)
          rw [hφ] at HWT
          have hr6:=rem_mo hm6
          have HE4:Hid (Sy.S K.C g2 (.choiceL (some e1) (ss++[.mk 10 Sy.vr0 Sy.nt false 0 none none none []])) φ=Sy.S K.C f (.choiceL (some e1) []) τ∧10 * rem K φ+7≤g2∧g2≤f∧(av.length+1)+rem K φ≤6000):=zz (by
           refine ⟨?_,by omega,by omega,by omega⟩
           rw [← HE.out.1]
           conv=>rhs; unfold Sy.S
           simp only [h6,hd,h7,h8,hχ1,hφ,if_true,if_false,if_neg (show ¬ (false=true) by decide)])
          have HLB:Hid (av.length≤6000):=zz (by omega)
          have hms:rem K φ < rem K χ:=by omega
          have HCD1:Hid (χ1.code=0→χ.code=0):=zz hm5.code
          have HCD2:Hid (φ.code=0→χ1.code=0):=zz hm6.code
          clear h6 h7 h8 hm6 hm5 hn5 hχ1 hφ hr6 hle hd hbe hr1
          go_wp2_with fail
          refine (HT6.out wr HAR.out.p).mono ?_
          rintro e' w5 ⟨rfl,hat⟩
          have hat2:At wr w5 K χ:=hat
          have HA5:=zz (HAR.out.trans hat2)
          have HG5:=zz (HGR.out.at_ hat2 HWN.out.2)
          have HK5:=zz (fun (hc:χ.code=0)=>(HKR.out hc).at_ hat2 HWN.out.2)
          clear hat hat2
          have hne:Nonempty (KW w5):=⟨KW.of _⟩
          have c0:w5.cell? ⟨K.P,0,none⟩=some (.slice K.ta n K.tc):=by rw [← hn]; exact HA5.out.p.c (j:=0) rfl
          have c1:w5.cell? ⟨K.P,1,none⟩=some (.int .i64 (χ.at_:Int)):=HA5.out.p.c (j:=1) rfl
          have p0:=fun u:KW w5=>u.cell c0
          have p1:=fun u:KW w5=>u.cell c1
          clear c0 c1 hn
          go_wp2_with fail
          refine wp_region_class (C:=fun W=>∃ u:KW w5,W=u.W) (by kernel_rfl) (by kernel_rfl) ⟨⟨World.drew _,(Keeps.refl _ _).drew⟩,rfl⟩ ?_
          repeat (go_big_quiet_step (fail))
          refine wpQuiet_nil ?_
          rintro _ ⟨T,rfl⟩
          obtain ⟨w6,hW⟩:∃ W,T.W=W:=⟨_,rfl⟩
          have HT:Hid (Keeps No w5 w6):=zz (by rw [← hW]; exact T.h)
          rw [hW]
          clear p0 p1 hne hW T
          have HA6:=zz (HA5.out.no HT.out)
          have HG6:=zz (HG5.out.no HT.out)
          have HK6:=zz (fun (hc:χ.code=0)=>(HK5.out hc).no HT.out)
          go_wp2_with fail
          refine (HIS.out w6 HA6.out.p).mono ?_
          rintro e' w7 ⟨rfl,hk⟩
          have HA7:=zz (HA6.out.no hk)
          have HG7:=zz (HG6.out.no hk)
          have HK7:=zz (fun (hc:χ.code=0)=>(HK6.out hc).no hk)
          clear hk
          go_wp2_with fail
          refine (HT8.out w7 HA7.out.p).mono ?_
          rintro e' w8 ⟨rfl,hat⟩
          have hat2:At w7 w8 K χ1:=hat
          have HA8:=zz (HA7.out.trans hat2)
          have HG8:=zz (HG7.out.at_ hat2 HWN.out.2)
          have HK8:=zz (fun (hc:χ1.code=0)=>(HK7.out (HCD1.out hc)).at_ hat2 HWN.out.2)
          clear hat hat2
          go_wp2_with fail
          refine (HWT.out w8 HA8.out.p).mono ?_
          rintro e' wa ⟨rfl,hat⟩
          have HAa:=zz (HA8.out.trans hat)
          have HGa:=zz (HG8.out.at_ hat HWN.out.2)
          have HKa:=zz (fun (hc:φ.code=0)=>(HK8.out (HCD2.out hc)).at_ hat HWN.out.2)
          clear hat
          go_upto_region 12 with fail
          clear ed
          have hk2:Keeps No wa ((wa.alloc (.cells #[.int .i64 10,.string ⟨#[]⟩,.string ⟨#[]⟩,.int .i64 0,.bool false,.int .u64 0,.string ⟨#[]⟩,.bool false,.int .u64 0,.pointer none,.pointer none,.pointer none,.slice none 0 0] 132)).alloc (.cells #[.pointer (some ⟨wa.heap.size,0,none⟩)] 65)):=((Keeps.refl _ _).alloc _).alloc _
          have HG2:=zz (HGa.out.no hk2)
          have HA2:=zz (HAa.out.no hk2)
          have HK2:=zz (fun (hc:φ.code=0)=>(HKa.out hc).no hk2)
          have hqb:(wa.alloc (.cells #[.int .i64 10,.string ⟨#[]⟩,.string ⟨#[]⟩,.int .i64 0,.bool false,.int .u64 0,.string ⟨#[]⟩,.bool false,.int .u64 0,.pointer none,.pointer none,.pointer none,.slice none 0 0] 132)).heap[wa.heap.size]?=some (.cells (smRow 10 Sy.vr0 Sy.nt false 0 none none none (.slice none 0 0)) 132 (0,0)):=heap_alloc_new _ _
          have HD2:Hid (SmD ((wa.alloc (.cells #[.int .i64 10,.string ⟨#[]⟩,.string ⟨#[]⟩,.int .i64 0,.bool false,.int .u64 0,.string ⟨#[]⟩,.bool false,.int .u64 0,.pointer none,.pointer none,.pointer none,.slice none 0 0] 132)).alloc (.cells #[.pointer (some ⟨wa.heap.size,0,none⟩)] 65)) (Dc N N (.slice sa av.length sc)) (some ⟨wa.heap.size,0,none⟩) (.mk 10 Sy.vr0 Sy.nt false 0 none none none [])):=zz (SmD.mono (SmAt.no ((Nod.bare (Nat.le_refl _) hqb).1.fin (Nod.bare (Nat.le_refl _) hqb).2) ((Keeps.refl _ _).alloc _)) (fun q _ hd=>⟨by have h5:wa.heap.size≤q:=hd; have:=HGa.out.lt; omega,fun e=>by have h5:wa.heap.size≤q:=hd; have:=HGa.out.lt; omega,fun e=>by have h5:wa.heap.size≤q:=hd; have:=own_ltb HGa.out.own e; omega⟩))
          have HQ2:Hid (((wa.alloc (.cells #[.int .i64 10,.string ⟨#[]⟩,.string ⟨#[]⟩,.int .i64 0,.bool false,.int .u64 0,.string ⟨#[]⟩,.bool false,.int .u64 0,.pointer none,.pointer none,.pointer none,.slice none 0 0] 132)).alloc (.cells #[.pointer (some ⟨wa.heap.size,0,none⟩)] 65)).heap[wa.heap.size+1]?=some (.cells #[.pointer (some ⟨wa.heap.size,0,none⟩)] 65 (0,0))):=zz (by
           rw [show wa.heap.size+1=(wa.alloc (.cells #[.int .i64 10,.string ⟨#[]⟩,.string ⟨#[]⟩,.int .i64 0,.bool false,.int .u64 0,.string ⟨#[]⟩,.bool false,.int .u64 0,.pointer none,.pointer none,.pointer none,.slice none 0 0] 132)).heap.size by simp]; exact heap_alloc_new _ _)
          have y12:wa.cell? ⟨N,12,none⟩=some (.slice sa av.length sc):=HGa.out.c (j:=12) rfl
          clear hk2 hqb
          go_wp2_with (at_builtin; refine wpList_appS _ rfl (.tmp 67) (.tmp 70) rfl N (.slice sa av.length sc) av.length (ptrs av) (some ⟨wa.heap.size,0,none⟩) (wa.heap.size+1) rfl HG2.out.own rfl HQ2.out (by have:=HLB.out; omega) (Nat.le_of_lt HG2.out.lt) ?_)
          clear y12
          intro g' cap' v3 ho3 hg3 hgo
          replace hgo:(Value.slice sa av.length sc).ownBlock=some g'∨((wa.alloc (.cells #[.int .i64 10,.string ⟨#[]⟩,.string ⟨#[]⟩,.int .i64 0,.bool false,.int .u64 0,.string ⟨#[]⟩,.bool false,.int .u64 0,.pointer none,.pointer none,.pointer none,.slice none 0 0] 132)).alloc (.cells #[.pointer (some ⟨wa.heap.size,0,none⟩)] 65)).heap.size≤g':=hgo.imp id (fun e=>by simpa using e)
          have hk23:Keeps (fun q=>(Value.slice sa av.length sc).ownBlock=some q) ((wa.alloc (.cells #[.int .i64 10,.string ⟨#[]⟩,.string ⟨#[]⟩,.int .i64 0,.bool false,.int .u64 0,.string ⟨#[]⟩,.bool false,.int .u64 0,.pointer none,.pointer none,.pointer none,.slice none 0 0] 132)).alloc (.cells #[.pointer (some ⟨wa.heap.size,0,none⟩)] 65)) v3:=(Keeps.refl _ _).grown hg3 (fun q e=>.inl e)
          have hn3:v3.heap[N]?=some (.cells _ _ (0,0)):=(hk23.block _ HG2.out.lt (fun e=>HG2.out.ne N e rfl)).trans HG2.out.row
          have y12:v3.cell? ⟨N,12,none⟩=some (.slice sa av.length sc):=by rw [cell_of_row v3 N 12 _ _ _ hn3]; rfl
          have z12:v3.frozen? ⟨N,12,none⟩=false:=frozen_of_row v3 N 12 _ _ hn3
          have hks:Keeps (fun q=>q=N) v3 (v3.setCell ⟨N,12,none⟩ (.slice (some ⟨g',0,none⟩) (av.length+1) cap')):=(Keeps.refl (fun q=>q=N) v3).setCell (.inl rfl) _
          have HA9:Hid (At w (v3.setCell ⟨N,12,none⟩ (.slice (some ⟨g',0,none⟩) (av.length+1) cap')) K φ):=zz ⟨(HA2.out.p.keepR hk23 (fun q e=>Nat.le_trans HWN.out.2 (own_lo HG2.out.own q e))).keepR hks (fun q e=>by subst e; exact HWN.out.2),(HA2.out.k.trans hk23 (fun q hq e=>by have:=own_lo HG2.out.own q e; exact absurd hq (by have:=HWN.out.1; omega))).trans hks (fun q hq e=>by subst e; exact absurd hq (by have:=HWN.out.1; omega))⟩
          have HG9:=zz (HG2.out.push hk23 ho3 hgo)
          have HK9:=zz (fun (hc:φ.code=0)=>Hung.push (cap:=cap') (HK2.out hc) hk23 hgo HD2.out)
          clear ho3 hg3 hgo hk23 hn3 hks HG2 HA2 HK2 HD2 HQ2
          go_wp2_with fail
          go_roundg (rem K φ)
          case rel=>exact ⟨g2,_,_,_,_,φ,rfl,zz ⟨HE4.out.1,HE4.out.2.1,HE4.out.2.2.1,by rw [List.length_append]; exact HE4.out.2.2.2⟩,HA9,HG9,HK9⟩
          case measure=>omega
        | false =>
          have HY:=zz (fun W (hs:PS W K χ)=>HIH.out g2 (by omega) χ W hs (by omega))
          obtain ⟨r4,hr4⟩:∃ r,Sy.S K.C g2 .stmt χ=r:=⟨_,rfl⟩
          have hm6:Sy.Mo K.C χ r4.2:=by rw [← hr4]; exact Sy.S_mo g2 _ χ hle
          have hgo:χ.at_ < r4.2.at_:=by
           obtain ⟨q,rfl⟩:∃ q,g2=q+2:=⟨g2 - 2,by omega⟩
           rw [← hr4]; exact Sy.stmt_go q χ (by omega)
          rw [hr4] at HY
          obtain ⟨s4,φ⟩:=r4
          simp only at hm6 hgo
          have hr6:rem K φ+1≤rem K χ:=by have:=hm6.le; unfold rem; omega
          have HE4:Hid (Sy.S K.C g2 (.choiceL (some e1) (ss++[s4])) φ=Sy.S K.C f (.choiceL (some e1) []) τ∧10 * rem K φ+7≤g2∧g2≤f∧(av.length+1)+rem K φ≤6000):=zz (by
           refine ⟨?_,by omega,by omega,by omega⟩
           rw [← HE.out.1]
           conv=>rhs; unfold Sy.S
           simp only [h6,hd,h7,h8,hr4,if_true,if_false,if_neg (show ¬ (false=true) by decide)])
          have HLB:Hid (av.length≤6000):=zz (by omega)
          have hms:rem K φ < rem K χ:=by omega
          have HCD2:Hid (φ.code=0→χ.code=0):=zz hm6.code
          clear h6 h7 h8 hm6 hgo hr4 hr6 hle hd hbe hr1
          go_wp2_with fail
          refine (HT6.out wr HAR.out.p).mono ?_
          rintro e' w5 ⟨rfl,hat⟩
          have hat2:At wr w5 K χ:=hat
          have HA5:=zz (HAR.out.trans hat2)
          have HG5:=zz (HGR.out.at_ hat2 HWN.out.2)
          have HK5:=zz (fun (hc:χ.code=0)=>(HKR.out hc).at_ hat2 HWN.out.2)
          clear hat hat2
          have hne:Nonempty (KW w5):=⟨KW.of _⟩
          have c0:w5.cell? ⟨K.P,0,none⟩=some (.slice K.ta n K.tc):=by rw [← hn]; exact HA5.out.p.c (j:=0) rfl
          have c1:w5.cell? ⟨K.P,1,none⟩=some (.int .i64 (χ.at_:Int)):=HA5.out.p.c (j:=1) rfl
          have p0:=fun u:KW w5=>u.cell c0
          have p1:=fun u:KW w5=>u.cell c1
          clear c0 c1 hn
          go_wp2_with fail
          refine wp_region_class (C:=fun W=>∃ u:KW w5,W=u.W) (by kernel_rfl) (by kernel_rfl) ⟨⟨World.drew _,(Keeps.refl _ _).drew⟩,rfl⟩ ?_
          repeat (go_big_quiet_step (fail))
          refine wpQuiet_nil ?_
          rintro _ ⟨T,rfl⟩
          obtain ⟨w6,hW⟩:∃ W,T.W=W:=⟨_,rfl⟩
          have HT:Hid (Keeps No w5 w6):=zz (by rw [← hW]; exact T.h)
          rw [hW]
          clear p0 p1 hne hW T
          have HA6:=zz (HA5.out.no HT.out)
          have HG6:=zz (HG5.out.no HT.out)
          have HK6:=zz (fun (hc:χ.code=0)=>(HK5.out hc).no HT.out)
          go_wp2_with fail
          refine (HIS.out w6 HA6.out.p).mono ?_
          rintro e' w7 ⟨rfl,hk⟩
          have HA7:=zz (HA6.out.no hk)
          have HG7:=zz (HG6.out.no hk)
          have HK7:=zz (fun (hc:χ.code=0)=>(HK6.out hc).no hk)
          clear hk
          go_wp2_with fail
          refine (HT8.out w7 HA7.out.p).mono ?_
          rintro e' w8 ⟨rfl,hat⟩
          have hat2:At w7 w8 K χ:=hat
          have HA8:=zz (HA7.out.trans hat2)
          have HG8:=zz (HG7.out.at_ hat2 HWN.out.2)
          have HK8:=zz (fun (hc:χ.code=0)=>(HK7.out hc).at_ hat2 HWN.out.2)
          clear hat hat2
          go_upto_region 12 with fail
          clear ed
          have HSS:Hid (∀ q,(q=K.P∨(Value.slice sa av.length sc).ownBlock=some q)→q ≠ N):=zz (fun q hq e=>by
           rcases hq with hq | hq
           · have:=HS.out.ord; have:=HWN.out.2; omega
           · exact HG8.out.ne q hq e)
          have p12:∀ u:KS (fun q=>q=K.P∨(Value.slice sa av.length sc).ownBlock=some q) w8,u.W.cell? ⟨N,12,none⟩=some (.slice sa av.length sc):=fun u=>u.cell (HG8.out.c (j:=12) rfl) (fun e=>HSS.out N e rfl)
          have hne:Nonempty (KS (fun q=>q=K.P∨(Value.slice sa av.length sc).ownBlock=some q) w8):=⟨⟨w8,Keeps.refl _ _⟩⟩
          refine Mix.wp_region_mix (fun W'=>∃ u:KS (fun q=>q=K.P∨(Value.slice sa av.length sc).ownBlock=some q) w8,W'=u.W) [11] (by kernel_rfl) ?_
          have HV0:Hid (Keeps No w8 w8.drew):=zz ((Keeps.refl _ w8).drew)
          generalize w8.drew=v0 at HV0 ⊢
          have HC0:Hid (Keeps (fun q=>q=K.P∨(Value.slice sa av.length sc).ownBlock=some q) w8 v0):=zz (HV0.out.mono (fun _ _ e=>e.elim))
          have HAV0:=zz (HA8.out.no HV0.out)
          have HGV0:=zz (HG8.out.no HV0.out)
          have HKV0:=zz (fun hc=>(HK8.out hc).no HV0.out)
          refine Mix.mix_seg 0 6 6 (by kernel_rfl) (by kernel_rfl) rfl rfl ⟨⟨v0,HC0.out⟩,rfl⟩ ?_
          simp only [List.drop_succ_cons,List.drop_zero,List.take_succ_cons,List.take_zero]
          repeat (go_big_quiet_step (fail))
          refine wpQuiet_nil ?_
          clear p12
          refine Mix.mix_one 6 5 (by kernel_rfl) rfl rfl ?_
          simp only [List.drop_succ_cons,List.drop_zero,List.take_succ_cons,List.take_zero]
          go_wp2_with fail
          refine (HY.out v0 HAV0.out.p).mono ?_
          rintro e' v1 ⟨a4,rfl,hat,hex⟩
          have HC1:Hid (Keeps (fun q=>q=K.P∨(Value.slice sa av.length sc).ownBlock=some q) w8 v1):=zz (HC0.out.trans hat.k (fun q _ e=>.inl e))
          have HAV1:=zz (HAV0.out.trans hat)
          have HGV1:=zz (HGV0.out.at_ hat HWN.out.2)
          have HKV1:=zz (fun (hc:φ.code=0)=>(HKV0.out (HCD2.out hc)).at_ hat HWN.out.2)
          have HDV1:Hid (φ.code=0→SmD v1 (Dc N N (.slice sa av.length sc)) a4 s4):=zz (fun hc=>SmD.mono (hex hc) (fun q _ hd=>⟨by have h5:v0.heap.size≤q:=hd; have:=HGV0.out.lt; omega,fun e=>by have h5:v0.heap.size≤q:=hd; have:=HGV0.out.lt; omega,fun e=>by have h5:v0.heap.size≤q:=hd; have:=own_ltb HGV0.out.own e; omega⟩))
          clear hat hex
          go_wp2_with fail
          refine ⟨.inr ⟨⟨v1,HC1.out⟩,rfl⟩,?_⟩
          refine Mix.mix_one 7 4 (by kernel_rfl) rfl rfl ?_
          simp only [List.drop_succ_cons,List.drop_zero,List.take_succ_cons,List.take_zero]
          go_wp2_with fail
          have hk12:Keeps No v1 (v1.alloc (.cells #[.pointer a4] 65)):=(Keeps.refl _ _).alloc _
          have hq2:(v1.alloc (.cells #[.pointer a4] 65)).heap[v1.heap.size]?=some (.cells #[.pointer a4] 65 (0,0)):=heap_alloc_new _ _
          generalize v1.alloc (.cells #[.pointer a4] 65)=v2 at hk12 hq2 ⊢
          have HC2:Hid (Keeps (fun q=>q=K.P∨(Value.slice sa av.length sc).ownBlock=some q) w8 v2):=zz (HC1.out.trans hk12 (fun q _ e=>e.elim))
          have HAV2:=zz (HAV1.out.no hk12)
          have HGV2:=zz (HGV1.out.no hk12)
          have HKV2:=zz (fun (hc:φ.code=0)=>(HKV1.out hc).no hk12)
          have HDV2:=zz (fun (hc:φ.code=0)=>(HDV1.out hc).keep hk12 (fun _ e=>e.elim))
          have HQ2:=zz hq2
          clear hk12 hq2
          refine ⟨.inr ⟨⟨v2,HC2.out⟩,rfl⟩,?_⟩
          refine Mix.mix_one 8 3 (by kernel_rfl) rfl rfl ?_
          simp only [List.drop_succ_cons,List.drop_zero,List.take_succ_cons,List.take_zero]
          go_wp2_with (at_builtin; refine wpList_appS _ rfl (.tmp 24) (.tmp 27) rfl N (.slice sa av.length sc) av.length (ptrs av) a4 v1.heap.size rfl HGV2.out.own rfl HQ2.out (by have:=HLB.out; omega) (Nat.le_of_lt HGV2.out.lt) ?_)
          intro g' cap' v3 ho3 hg3 hgo
          have hk23:Keeps (fun q=>(Value.slice sa av.length sc).ownBlock=some q) v2 v3:=(Keeps.refl _ _).grown hg3 (fun q e=>.inl e)
          have HC3:Hid (Keeps (fun q=>q=K.P∨(Value.slice sa av.length sc).ownBlock=some q) w8 v3):=zz (HC2.out.trans hk23 (fun q _ e=>.inr e))
          have hn3:v3.heap[N]?=some (.cells _ _ (0,0)):=(hk23.block _ HGV2.out.lt (fun e=>HGV2.out.ne N e rfl)).trans HGV2.out.row
          have y12:v3.cell? ⟨N,12,none⟩=some (.slice sa av.length sc):=by rw [cell_of_row v3 N 12 _ _ _ hn3]; rfl
          have z12:v3.frozen? ⟨N,12,none⟩=false:=frozen_of_row v3 N 12 _ _ hn3
          have HGO:Hid (∀ W,W=v3.setCell ⟨N,12,none⟩ (.slice (some ⟨g',0,none⟩) (av.length+1) cap')→At w W K φ∧Nod W N N 8 Sy.vr0 Sy.nt false 0 a1 none none (some ⟨g',0,none⟩) cap' (av++[a4])∧(φ.code=0→Hung W N N a1 none none (some e1) none none (some ⟨g',0,none⟩) cap' (av++[a4]) (ss++[s4]))):=zz (fun W hW=>by
           subst hW
           have hks:Keeps (fun q=>q=N) v3 (v3.setCell ⟨N,12,none⟩ (.slice (some ⟨g',0,none⟩) (av.length+1) cap')):=(Keeps.refl (fun q=>q=N) v3).setCell (.inl rfl) _
           refine ⟨⟨(HAV2.out.p.keepR hk23 (fun q e=>Nat.le_trans HWN.out.2 (own_lo HGV2.out.own q e))).keepR hks (fun q e=>by subst e; exact HWN.out.2),(HAV2.out.k.trans hk23 (fun q hq e=>by have:=own_lo HGV2.out.own q e; exact absurd hq (by have:=HWN.out.1; omega))).trans hks (fun q hq e=>by subst e; exact absurd hq (by have:=HWN.out.1; omega))⟩,HGV2.out.push hk23 ho3 hgo,fun hc=>(HKV2.out hc).push hk23 hgo (HDV2.out hc)⟩)
          clear ho3 hg3 hgo hk23 hn3
          go_wp2_with fail
          refine ⟨.inr ⟨⟨v3,HC3.out⟩,rfl⟩,?_⟩
          refine Mix.mix_one 9 2 (by kernel_rfl) rfl rfl ?_
          simp only [List.drop_succ_cons,List.drop_zero,List.take_succ_cons,List.take_zero]
          go_wp2_with fail
          refine ⟨.inr ⟨⟨v3,HC3.out⟩,rfl⟩,?_⟩
          refine Mix.mix_one 10 1 (by kernel_rfl) rfl rfl ?_
          simp only [List.drop_succ_cons,List.drop_zero,List.take_succ_cons,List.take_zero]
          go_wp2_with fail
          refine ⟨.inr ⟨⟨v3,HC3.out⟩,rfl⟩,?_⟩
          refine Mix.mix_one 11 0 (by kernel_rfl) rfl rfl ?_
          simp only [List.drop_succ_cons,List.drop_zero,List.take_succ_cons,List.take_zero]
          go_wp2_with fail
          have hgo:=HGO.out _ rfl
          generalize v3.setCell ⟨N,12,none⟩ (.slice (some ⟨g',0,none⟩) (av.length+1) cap')=w9 at hgo ⊢
          have HA9:=zz hgo.1
          have HG9:=zz hgo.2.1
          have HK9:=zz hgo.2.2
          clear hgo y12 z12 hne
          refine ⟨.inl ⟨rfl,rfl⟩,?_⟩
          refine Mix.mix_end (by kernel_rfl) ?_
          go_wp2_with fail
          go_roundg (rem K φ)
          case rel=>exact ⟨g2,_,_,_,_,φ,rfl,zz ⟨HE4.out.1,HE4.out.2.1,HE4.out.2.2.1,by rw [List.length_append]; exact HE4.out.2.2.2⟩,HA9,HG9,HK9⟩
          case measure=>omega
end Go.Proofs.YtflbkdfbjofllaaGreatDoor
namespace Go.Proofs.YtflbkdfbjofllaaGreatDoor.Sy
open Go.RowKit Lx
variable (C:Cx)
def wordM (f:Nat) (σ:St):Sm × St :=
 if isM C σ ⟨#[105,102]⟩ then branchM C f σ
 else if isM C σ ⟨#[119,104,105,108,101]⟩ then
  (let c:=askedM C (nextM C σ)
   let a:=S C f .stmt c.2
   (.mk 5 vr0 nt false 0 (some c.1) none none [a.1],a.2))
 else if isM C σ ⟨#[100,111]⟩ then
  (let a:=S C f .stmt (nextM C σ)
   let c:=askedM C (wantM C a.2 ⟨#[119,104,105,108,101]⟩)
   (.mk 6 vr0 nt false 0 (some c.1) none none [a.1],wantM C c.2 ⟨#[59]⟩))
 else if isM C σ ⟨#[102,111,114]⟩ then loopM C f σ
 else if isM C σ ⟨#[115,119,105,116,99,104]⟩ then chooseM C f σ
 else if isM C σ ⟨#[98,114,101,97,107]⟩ then (.mk 11 vr0 nt false 0 none none none [],wantM C (nextM C σ) ⟨#[59]⟩)
 else if isM C σ ⟨#[99,111,110,116,105,110,117,101]⟩ then (.mk 12 vr0 nt false 0 none none none [],wantM C (nextM C σ) ⟨#[59]⟩)
 else if isM C σ ⟨#[114,101,116,117,114,110]⟩ then
  (let p:=partM C (nextM C σ) ⟨#[59]⟩
   (.mk 13 vr0 nt false 0 p.1 none none [],p.2))
 else if isM C σ ⟨#[103,111,116,111]⟩ then
  (let n:=nameM C (nextM C σ)
   (.mk 14 vr0 n.1 false 0 none none none [],wantM C n.2 ⟨#[59]⟩))
 else (sm0,lostM C σ)
variable {C}
theorem S_word {f:Nat} {σ:St} (h1:¬ isM C σ ⟨#[123]⟩=true) (h2:¬ isM C σ ⟨#[59]⟩=true) (h3:¬ typedM C σ=true) (h4:¬ ((peekM C σ 0).kind=1∧((peekM C σ 1).text == ⟨#[58]⟩)=true)) (h5:(peekM C σ 0).kind=2∧¬ isM C σ ⟨#[115,105,122,101,111,102]⟩=true) :
    S C (f+1) .stmt σ=wordM C f σ:=by
 conv=>lhs; unfold S
 rw [if_neg h1,if_neg h2,if_neg h3,if_neg h4,if_pos h5]
 rfl
theorem S_block {f:Nat} {σ:St} (h1:isM C σ ⟨#[123]⟩=true):S C (f+1) .stmt σ=S C f .block σ:=by
 conv=>lhs; unfold S
 rw [if_pos h1]
theorem S_skip {f:Nat} {σ:St} (h1:¬ isM C σ ⟨#[123]⟩=true) (h2:isM C σ ⟨#[59]⟩=true):S C (f+1) .stmt σ=(.mk 2 vr0 nt false 0 none none none [],nextM C σ):=by
 conv=>lhs; unfold S
 rw [if_neg h1,if_pos h2]
theorem S_let {f:Nat} {σ:St} (h1:¬ isM C σ ⟨#[123]⟩=true) (h2:¬ isM C σ ⟨#[59]⟩=true) (h3:typedM C σ=true):S C (f+1) .stmt σ=letM C σ:=by
 conv=>lhs; unfold S
 rw [if_neg h1,if_neg h2,if_pos h3]
theorem S_label {f:Nat} {σ:St} (h1:¬ isM C σ ⟨#[123]⟩=true) (h2:¬ isM C σ ⟨#[59]⟩=true) (h3:¬ typedM C σ=true) (h4:(peekM C σ 0).kind=1∧((peekM C σ 1).text == ⟨#[58]⟩)=true) :
    S C (f+1) .stmt σ=(let a:=S C f .stmt (nextM C (nextM C σ)); (.mk 15 vr0 (txt C σ) false 0 none none none [a.1],a.2)):=by
 conv=>lhs; unfold S
 rw [if_neg h1,if_neg h2,if_neg h3,if_pos h4]
theorem S_expr {f:Nat} {σ:St} (h1:¬ isM C σ ⟨#[123]⟩=true) (h2:¬ isM C σ ⟨#[59]⟩=true) (h3:¬ typedM C σ=true) (h4:¬ ((peekM C σ 0).kind=1∧((peekM C σ 1).text == ⟨#[58]⟩)=true)) (h5:¬ ((peekM C σ 0).kind=2∧¬ isM C σ ⟨#[115,105,122,101,111,102]⟩=true)) :
    S C (f+1) .stmt σ=(let a:=exprM C σ; (.mk 16 vr0 nt false 0 (some a.1) none none [],wantM C a.2 ⟨#[59]⟩)):=by
 conv=>lhs; unfold S
 rw [if_neg h1,if_neg h2,if_neg h3,if_neg h4,if_neg h5]
end Go.Proofs.YtflbkdfbjofllaaGreatDoor.Sy
namespace Go.Proofs.YtflbkdfbjofllaaGreatDoor
open Go.RowKit Lx
theorem loop_any (K:Pk) (f:Nat) (hS:StmtC K f) (σ σ0:Sy.St) (w wc:World) (N:Nat) (h0:PS w K σ0) (h:At w wc K σ) (hN:w.heap.size≤N)
    (hn:Nod wc N N 0 Sy.vr0 Sy.nt false 0 none none none none 0 []∧Hung wc N N none none none none none none none 0 [] []) (hi:σ.at_ < K.C.T.length) (hf:10 * rem K σ+6≤f+1) :
    FillC K w wc N 160 (Sy.loopM K.C f σ):=by
 have hle:=h.p.le
 have HS:=zz h0
 have HA0:=zz h
 have HN0:=zz hn
 have HWN:Hid (w.heap.size≤N∧K.B≤N):=zz ⟨hN,Nat.le_trans h0.ord.2.2.2 hN⟩
 have hr1:=rem_next hi
 obtain ⟨σ1,h1⟩:∃ x,Sy.nextM K.C σ=x:=⟨_,rfl⟩
 have hm1:Sy.Mo K.C σ σ1:=by rw [← h1]; exact (Sy.Mo.refl hle).next
 have HNX:=zz (fun W (hs:PS W K σ)=>next_any K σ W hs)
 rw [h1] at HNX hr1
 obtain ⟨χ0,hχ0⟩:∃ x,Sy.wantM K.C σ1 ⟨#[40]⟩=x:=⟨_,rfl⟩
 have hmw:Sy.Mo K.C σ1 χ0:=by rw [← hχ0]; exact (Sy.Mo.refl hm1.le).want _
 have HW0:=zz (fun W (hs:PS W K σ1)=>want_any K σ1 ⟨#[40]⟩ W hs)
 rw [hχ0] at HW0
 have hle0:=hmw.le
 obtain ⟨p0,hp0⟩:∃ x,Sy.partM K.C χ0 ⟨#[59]⟩=x:=⟨_,rfl⟩
 have hmp0:Sy.Mo K.C χ0 p0.2:=by rw [← hp0]; exact (Sy.Mo.refl hle0).part _
 have HB0:Hid ((Sy.isM K.C χ0 ⟨#[59]⟩=true→p0.1=none∧Sy.wantM K.C χ0 ⟨#[59]⟩=p0.2)∧(Sy.isM K.C χ0 ⟨#[59]⟩=false→p0.1=some (Sy.exprM K.C χ0).1∧Sy.wantM K.C (Sy.exprM K.C χ0).2 ⟨#[59]⟩=p0.2)):=zz (by
  rw [← hp0]; unfold Sy.partM
  constructor
  · intro hb; simp only [hb,if_true]; exact ⟨trivial,trivial⟩
  · intro hb; simp only [hb,if_neg (show ¬ (false=true) by decide)]; exact ⟨trivial,trivial⟩)
 obtain ⟨x0,χ1⟩:=p0
 simp only at hmp0 HB0
 have hle1:=hmp0.le
 have HL0:Hid (χ0.at_≤K.C.T.length):=zz hle0
 obtain ⟨p1,hp1⟩:∃ x,Sy.partM K.C χ1 ⟨#[59]⟩=x:=⟨_,rfl⟩
 have hmp1:Sy.Mo K.C χ1 p1.2:=by rw [← hp1]; exact (Sy.Mo.refl hle1).part _
 have HB1:Hid ((Sy.isM K.C χ1 ⟨#[59]⟩=true→p1.1=none∧Sy.wantM K.C χ1 ⟨#[59]⟩=p1.2)∧(Sy.isM K.C χ1 ⟨#[59]⟩=false→p1.1=some (Sy.exprM K.C χ1).1∧Sy.wantM K.C (Sy.exprM K.C χ1).2 ⟨#[59]⟩=p1.2)):=zz (by
  rw [← hp1]; unfold Sy.partM
  constructor
  · intro hb; simp only [hb,if_true]; exact ⟨trivial,trivial⟩
  · intro hb; simp only [hb,if_neg (show ¬ (false=true) by decide)]; exact ⟨trivial,trivial⟩)
 obtain ⟨x1,χ2⟩:=p1
 simp only at hmp1 HB1
 have hle2:=hmp1.le
 have HL1:Hid (χ1.at_≤K.C.T.length):=zz hle1
 obtain ⟨p2,hp2⟩:∃ x,Sy.partM K.C χ2 ⟨#[41]⟩=x:=⟨_,rfl⟩
 have hmp2:Sy.Mo K.C χ2 p2.2:=by rw [← hp2]; exact (Sy.Mo.refl hle2).part _
 have HB2:Hid ((Sy.isM K.C χ2 ⟨#[41]⟩=true→p2.1=none∧Sy.wantM K.C χ2 ⟨#[41]⟩=p2.2)∧(Sy.isM K.C χ2 ⟨#[41]⟩=false→p2.1=some (Sy.exprM K.C χ2).1∧Sy.wantM K.C (Sy.exprM K.C χ2).2 ⟨#[41]⟩=p2.2)):=zz (by
  rw [← hp2]; unfold Sy.partM
  constructor
  · intro hb; simp only [hb,if_true]; exact ⟨trivial,trivial⟩
  · intro hb; simp only [hb,if_neg (show ¬ (false=true) by decide)]; exact ⟨trivial,trivial⟩)
 obtain ⟨x2,χ3⟩:=p2
 simp only at hmp2 HB2
 have hle3:=hmp2.le
 have HL2:Hid (χ2.at_≤K.C.T.length):=zz hle2
 have hrr:rem K χ3≤rem K σ1:=Nat.le_trans (rem_mo hmp2) (Nat.le_trans (rem_mo hmp1) (Nat.le_trans (rem_mo hmp0) (rem_mo hmw)))
 have HST:=zz (fun W (hs:PS W K χ3)=>hS χ3 W hs (by omega))
 obtain ⟨r4,h4⟩:∃ x,Sy.S K.C f .stmt χ3=x:=⟨_,rfl⟩
 have hm4:Sy.Mo K.C χ3 r4.2:=by rw [← h4]; exact Sy.S_mo f _ χ3 hle3
 rw [h4] at HST
 obtain ⟨s1,σ4⟩:=r4
 simp only at hm4
 have HM:Hid (Sy.loopM K.C f σ=(.mk 7 Sy.vr0 Sy.nt false 0 x0 x1 x2 [s1],σ4)):=zz (by
  unfold Sy.loopM
  simp only [h1,hχ0,hp0,hp1,hp2,h4])
 have HC01:Hid (χ0.code=0→σ1.code=0):=zz hmw.code
 have HC43:Hid (σ4.code=0→χ3.code=0):=zz hm4.code
 clear hS h0 h hN hn hi hf hle hr1 h1 hm1 hχ0 hmw hle0 hp0 hmp0 hle1 hp1 hmp1 hle2 hp2 hmp2 hle3 hrr h4 hm4
 unfold FillC
 rw [HM.out]
 go_enter Tryz.func160,Tryz.ntmps160
 go_wp2_with fail
 refine (HNX.out wc HA0.out.p).mono ?_
 rintro e w1 ⟨rfl,hat⟩
 have HA1:=zz (HA0.out.trans hat)
 have HN1:=zz (HN0.out.1.at_ hat HWN.out.2)
 have HH1:=zz (HN0.out.2.at_ hat HWN.out.2)
 clear hat
 have y0:w1.cell? ⟨N,0,none⟩=some (.int .i64 0):=HN1.out.c (j:=0) rfl
 have z0:w1.frozen? ⟨N,0,none⟩=false:=HN1.out.f 0
 go_upto_region 2 with fail
 have HA2:=zz (HA1.out.newR HS.out ((Keeps.refl (fun q=>q=N) w1).setCell (p:=⟨N,0,none⟩) (.inl rfl) (.int .i64 7)) HWN.out.1)
 have HN2:=zz (HN1.out.set_kind 7)
 have HH2:=zz (fun (_:σ1.code=0)=>HH1.out.setc 0 (.int .i64 7))
 generalize w1.setCell ⟨N,0,none⟩ (.int .i64 7)=w2 at HA2 HN2 HH2 ⊢
 clear y0 z0
 go_wp2_with fail
 refine (HW0.out w2 HA2.out.p).mono ?_
 rintro e w2b ⟨rfl,hat⟩
 have HAb:=zz (HA2.out.trans hat)
 have HNb:=zz (HN2.out.at_ hat HWN.out.2)
 have HHb:=zz (fun (hc:χ0.code=0)=>(HH2.out (HC01.out hc)).at_ hat HWN.out.2)
 clear hat
 go_wp2_with fail
 go_loopg [13] 3 (fun m v wr=>(m=3∧v=.int .i64 0∧Hid (At w wr K χ0)∧Hid (Nod wr N N 7 Sy.vr0 Sy.nt false 0 none none none none 0 [])∧Hid (χ0.code=0→Hung wr N N none none none none none none none 0 [] []))∨(∃ a0:Option Addr,m=2∧v=.int .i64 1∧Hid (At w wr K χ1)∧Hid (Nod wr N N 7 Sy.vr0 Sy.nt false 0 a0 none none none 0 [])∧Hid (χ1.code=0→Hung wr N N a0 none none x0 none none none 0 [] []))∨(∃ a0 a1:Option Addr,m=1∧v=.int .i64 2∧Hid (At w wr K χ2)∧Hid (Nod wr N N 7 Sy.vr0 Sy.nt false 0 a0 a1 none none 0 [])∧Hid (χ2.code=0→Hung wr N N a0 a1 none x0 x1 none none 0 [] []))∨(∃ a0 a1 a2:Option Addr,m=0∧v=.int .i64 3∧Hid (At w wr K χ3)∧Hid (Nod wr N N 7 Sy.vr0 Sy.nt false 0 a0 a1 a2 none 0 [])∧Hid (χ3.code=0→Hung wr N N a0 a1 a2 x0 x1 x2 none 0 [] [])))
 case atStart=>exact .inl ⟨rfl,rfl,HAb,HNb,HHb⟩
 case round =>
  rcases hrel with ⟨rfl,rfl,HRA,HRN,HRH⟩ | ⟨a0,rfl,rfl,HRA,HRN,HRH⟩ | ⟨a0,a1,rfl,rfl,HRA,HRN,HRH⟩ | ⟨a0,a1,a2,rfl,rfl,HRA,HRN,HRH⟩
  · obtain ⟨b,hb⟩:∃ b,Sy.isM K.C χ0 ⟨#[59]⟩=b:=⟨_,rfl⟩
    have HIS:=zz (fun W (hs:PS W K χ0)=>is_as K χ0 ⟨#[59]⟩ b hb W hs)
    cases b with
    | true =>
      obtain ⟨hx,hw⟩:=HB0.out.1 hb
      have HWT:=zz (fun W (hs:PS W K χ0)=>want_any K χ0 ⟨#[59]⟩ W hs)
      rw [hw] at HWT
      have hmw:Sy.Mo K.C χ0 χ1:=by rw [← hw]; exact (Sy.Mo.refl HL0.out).want _
      have HCW:Hid (χ1.code=0→χ0.code=0):=zz hmw.code
      subst hx
      clear hb hw hmw
      go_wp2_with fail
      refine (HIS.out wr HRA.out.p).mono ?_
      rintro e' w3 ⟨rfl,hk⟩
      have HTA:=zz (HRA.out.no hk)
      have HTN:=zz (HRN.out.no hk)
      have HTH:=zz (fun (hc:χ0.code=0)=>(HRH.out hc).no hk)
      clear hk
      go_wp2_with fail
      refine (HWT.out w3 HTA.out.p).mono ?_
      rintro e' w9 ⟨rfl,hat⟩
      have HA9:=zz (HTA.out.trans hat)
      have HN9:=zz (HTN.out.at_ hat HWN.out.2)
      have HH9:=zz (fun (hc:χ1.code=0)=>(HTH.out (HCW.out hc)).at_ hat HWN.out.2)
      clear hat
      go_wp2_with fail
      go_roundg 2
      case rel=>exact .inr (.inl ⟨none,rfl,rfl,HA9,HN9,HH9⟩)
      case measure=>omega
    | false =>
      obtain ⟨hx,hw⟩:=HB0.out.2 hb
      have HX:=zz (fun W (hs:PS W K χ0)=>exprM_any K χ0 W hs)
      have hmx:=Sy.exprM_mo (Sy.Mo.refl HL0.out)
      obtain ⟨r,hr⟩:∃ r,Sy.exprM K.C χ0=r:=⟨_,rfl⟩
      rw [hr] at hx hw HX hmx
      obtain ⟨e1,φ⟩:=r
      simp only at hx hw hmx
      have HWT:=zz (fun W (hs:PS W K φ)=>want_any K φ ⟨#[59]⟩ W hs)
      rw [hw] at HWT
      have hmw:Sy.Mo K.C φ χ1:=by rw [← hw]; exact (Sy.Mo.refl hmx.le).want _
      have HCW:Hid (χ1.code=0→φ.code=0):=zz hmw.code
      have HCX:Hid (φ.code=0→χ0.code=0):=zz hmx.code
      subst hx
      clear hb hw hmw hmx hr
      go_wp2_with fail
      refine (HIS.out wr HRA.out.p).mono ?_
      rintro e' w3 ⟨rfl,hk⟩
      have HTA:=zz (HRA.out.no hk)
      have HTN:=zz (HRN.out.no hk)
      have HTH:=zz (fun (hc:χ0.code=0)=>(HRH.out hc).no hk)
      clear hk
      go_upto_region 10 with fail
      have hne:Nonempty (KS (PE K N) w3):=⟨⟨w3,Keeps.refl _ _⟩⟩
      refine Mix.wp_region_mix (fun W'=>∃ u:KS (PE K N) w3,W'=u.W) [] (by kernel_rfl) ?_
      have HV0:Hid (Keeps No w3 w3.drew):=zz ((Keeps.refl _ w3).drew)
      generalize w3.drew=v0 at HV0 ⊢
      have HC0:Hid (Keeps (PE K N) w3 v0):=zz (HV0.out.mono (fun _ _ e=>e.elim))
      have HAV0:=zz (HTA.out.no HV0.out)
      have HNV0:=zz (HTN.out.no HV0.out)
      have HHV0:=zz (fun hc=>(HTH.out hc).no HV0.out)
      refine Mix.mix_seg 0 3 5 (by kernel_rfl) (by kernel_rfl) rfl rfl ⟨⟨v0,HC0.out⟩,rfl⟩ ?_
      simp only [List.drop_succ_cons,List.drop_zero,List.take_succ_cons,List.take_zero]
      repeat (go_big_quiet_step (fail))
      refine wpQuiet_nil ?_
      refine Mix.mix_seg 4 2 3 (by kernel_rfl) (by kernel_rfl) rfl rfl ⟨⟨v0,HC0.out⟩,rfl⟩ ?_
      simp only [List.drop_succ_cons,List.drop_zero,List.take_succ_cons,List.take_zero]
      repeat (go_big_quiet_step (fail))
      refine wpQuiet_nil ?_
      refine Mix.mix_one 3 2 (by kernel_rfl) rfl rfl ?_
      simp only [List.drop_succ_cons,List.drop_zero,List.take_succ_cons,List.take_zero]
      go_wp2_with fail
      refine (HX.out v0 HAV0.out.p).mono ?_
      rintro e' v1 ⟨a0,rfl,hat,hex⟩
      have HC1:Hid (Keeps (PE K N) w3 v1):=zz (HC0.out.trans hat.k (fun q _ e=>.inl e))
      have HAV1:=zz (HAV0.out.trans hat)
      have HNV1:=zz (HNV0.out.at_ hat HWN.out.2)
      have HHV1:=zz (fun (hc:φ.code=0)=>(HHV0.out (HCX.out hc)).at_ hat HWN.out.2)
      have HOV1:Hid (φ.code=0→OpD v1 (Dc N N (.slice none 0 0)) a0 (some e1)):=zz (fun hc=>.some (ExD.mono (hex hc) (fun q _ hd=>by
       have h1:v0.heap.size≤q:=hd
       have h2:=HNV0.out.lt
       exact ⟨by omega,by omega,fun e=>nomatch e⟩)))
      clear hat hex
      go_wp2_with fail
      refine ⟨.inr ⟨⟨v1,HC1.out⟩,rfl⟩,?_⟩
      refine Mix.mix_one 6 1 (by kernel_rfl) rfl rfl ?_
      simp only [List.drop_succ_cons,List.drop_zero,List.take_succ_cons,List.take_zero]
      go_wp2_with fail
      refine ⟨.inr ⟨⟨v1,HC1.out⟩,rfl⟩,?_⟩
      refine Mix.mix_one 7 0 (by kernel_rfl) rfl rfl ?_
      simp only [List.drop_succ_cons,List.drop_zero,List.take_succ_cons,List.take_zero]
      have y9:v1.cell? ⟨N,9,none⟩=some (.pointer none):=HNV1.out.c (j:=9) rfl
      have z9:v1.frozen? ⟨N,9,none⟩=false:=HNV1.out.f 9
      go_wp2_with fail
      have HUA:=zz (HAV1.out.newR HS.out ((Keeps.refl (fun q=>q=N) v1).setCell (p:=⟨N,9,none⟩) (.inl rfl) (.pointer a0)) HWN.out.1)
      have HUN:=zz (HNV1.out.set_p0 a0)
      have HUH:=zz (fun (hc:φ.code=0)=>((HHV1.out hc).put0 (HOV1.out hc)).setc 9 (.pointer a0))
      have HC2:Hid (Keeps (PE K N) w3 (v1.setCell ⟨N,9,none⟩ (.pointer a0))):=zz (Keeps.setCell (S:=PE K N) HC1.out (.inl (.inr rfl)) _)
      generalize v1.setCell ⟨N,9,none⟩ (.pointer a0)=w5 at HC2 HUA HUN HUH ⊢
      clear y9 z9 hne
      refine ⟨.inr ⟨⟨w5,HC2.out⟩,rfl⟩,?_⟩
      refine Mix.mix_end (by kernel_rfl) ?_
      go_wp2_with fail
      refine (HWT.out w5 HUA.out.p).mono ?_
      rintro e' w9 ⟨rfl,hat⟩
      have HA9:=zz (HUA.out.trans hat)
      have HN9:=zz (HUN.out.at_ hat HWN.out.2)
      have HH9:=zz (fun (hc:χ1.code=0)=>(HUH.out (HCW.out hc)).at_ hat HWN.out.2)
      clear hat
      go_wp2_with fail
      go_roundg 2
      case rel=>exact .inr (.inl ⟨a0,rfl,rfl,HA9,HN9,HH9⟩)
      case measure=>omega
  · obtain ⟨b,hb⟩:∃ b,Sy.isM K.C χ1 ⟨#[59]⟩=b:=⟨_,rfl⟩
    have HIS:=zz (fun W (hs:PS W K χ1)=>is_as K χ1 ⟨#[59]⟩ b hb W hs)
    cases b with
    | true =>
      obtain ⟨hx,hw⟩:=HB1.out.1 hb
      have HWT:=zz (fun W (hs:PS W K χ1)=>want_any K χ1 ⟨#[59]⟩ W hs)
      rw [hw] at HWT
      have hmw:Sy.Mo K.C χ1 χ2:=by rw [← hw]; exact (Sy.Mo.refl HL1.out).want _
      have HCW:Hid (χ2.code=0→χ1.code=0):=zz hmw.code
      subst hx
      clear hb hw hmw
      go_wp2_with fail
      refine (HIS.out wr HRA.out.p).mono ?_
      rintro e' w3 ⟨rfl,hk⟩
      have HTA:=zz (HRA.out.no hk)
      have HTN:=zz (HRN.out.no hk)
      have HTH:=zz (fun (hc:χ1.code=0)=>(HRH.out hc).no hk)
      clear hk
      go_wp2_with fail
      refine (HWT.out w3 HTA.out.p).mono ?_
      rintro e' w9 ⟨rfl,hat⟩
      have HA9:=zz (HTA.out.trans hat)
      have HN9:=zz (HTN.out.at_ hat HWN.out.2)
      have HH9:=zz (fun (hc:χ2.code=0)=>(HTH.out (HCW.out hc)).at_ hat HWN.out.2)
      clear hat
      go_wp2_with fail
      go_roundg 1
      case rel=>exact .inr (.inr (.inl ⟨a0,none,rfl,rfl,HA9,HN9,HH9⟩))
      case measure=>omega
    | false =>
      obtain ⟨hx,hw⟩:=HB1.out.2 hb
      have HX:=zz (fun W (hs:PS W K χ1)=>exprM_any K χ1 W hs)
      have hmx:=Sy.exprM_mo (Sy.Mo.refl HL1.out)
      obtain ⟨r,hr⟩:∃ r,Sy.exprM K.C χ1=r:=⟨_,rfl⟩
      rw [hr] at hx hw HX hmx
      obtain ⟨e1,φ⟩:=r
      simp only at hx hw hmx
      have HWT:=zz (fun W (hs:PS W K φ)=>want_any K φ ⟨#[59]⟩ W hs)
      rw [hw] at HWT
      have hmw:Sy.Mo K.C φ χ2:=by rw [← hw]; exact (Sy.Mo.refl hmx.le).want _
      have HCW:Hid (χ2.code=0→φ.code=0):=zz hmw.code
      have HCX:Hid (φ.code=0→χ1.code=0):=zz hmx.code
      subst hx
      clear hb hw hmw hmx hr
      go_wp2_with fail
      refine (HIS.out wr HRA.out.p).mono ?_
      rintro e' w3 ⟨rfl,hk⟩
      have HTA:=zz (HRA.out.no hk)
      have HTN:=zz (HRN.out.no hk)
      have HTH:=zz (fun (hc:χ1.code=0)=>(HRH.out hc).no hk)
      clear hk
      go_upto_region 10 with fail
      have hne:Nonempty (KS (PE K N) w3):=⟨⟨w3,Keeps.refl _ _⟩⟩
      refine Mix.wp_region_mix (fun W'=>∃ u:KS (PE K N) w3,W'=u.W) [] (by kernel_rfl) ?_
      have HV0:Hid (Keeps No w3 w3.drew):=zz ((Keeps.refl _ w3).drew)
      generalize w3.drew=v0 at HV0 ⊢
      have HC0:Hid (Keeps (PE K N) w3 v0):=zz (HV0.out.mono (fun _ _ e=>e.elim))
      have HAV0:=zz (HTA.out.no HV0.out)
      have HNV0:=zz (HTN.out.no HV0.out)
      have HHV0:=zz (fun hc=>(HTH.out hc).no HV0.out)
      refine Mix.mix_seg 0 3 5 (by kernel_rfl) (by kernel_rfl) rfl rfl ⟨⟨v0,HC0.out⟩,rfl⟩ ?_
      simp only [List.drop_succ_cons,List.drop_zero,List.take_succ_cons,List.take_zero]
      repeat (go_big_quiet_step (fail))
      refine wpQuiet_nil ?_
      refine Mix.mix_seg 4 2 3 (by kernel_rfl) (by kernel_rfl) rfl rfl ⟨⟨v0,HC0.out⟩,rfl⟩ ?_
      simp only [List.drop_succ_cons,List.drop_zero,List.take_succ_cons,List.take_zero]
      repeat (go_big_quiet_step (fail))
      refine wpQuiet_nil ?_
      refine Mix.mix_one 3 2 (by kernel_rfl) rfl rfl ?_
      simp only [List.drop_succ_cons,List.drop_zero,List.take_succ_cons,List.take_zero]
      go_wp2_with fail
      refine (HX.out v0 HAV0.out.p).mono ?_
      rintro e' v1 ⟨a1,rfl,hat,hex⟩
      have HC1:Hid (Keeps (PE K N) w3 v1):=zz (HC0.out.trans hat.k (fun q _ e=>.inl e))
      have HAV1:=zz (HAV0.out.trans hat)
      have HNV1:=zz (HNV0.out.at_ hat HWN.out.2)
      have HHV1:=zz (fun (hc:φ.code=0)=>(HHV0.out (HCX.out hc)).at_ hat HWN.out.2)
      have HOV1:Hid (φ.code=0→OpD v1 (Dc N N (.slice none 0 0)) a1 (some e1)):=zz (fun hc=>.some (ExD.mono (hex hc) (fun q _ hd=>by
       have h1:v0.heap.size≤q:=hd
       have h2:=HNV0.out.lt
       exact ⟨by omega,by omega,fun e=>nomatch e⟩)))
      clear hat hex
      go_wp2_with fail
      refine ⟨.inr ⟨⟨v1,HC1.out⟩,rfl⟩,?_⟩
      refine Mix.mix_one 6 1 (by kernel_rfl) rfl rfl ?_
      simp only [List.drop_succ_cons,List.drop_zero,List.take_succ_cons,List.take_zero]
      go_wp2_with fail
      refine ⟨.inr ⟨⟨v1,HC1.out⟩,rfl⟩,?_⟩
      refine Mix.mix_one 7 0 (by kernel_rfl) rfl rfl ?_
      simp only [List.drop_succ_cons,List.drop_zero,List.take_succ_cons,List.take_zero]
      have y9:v1.cell? ⟨N,10,none⟩=some (.pointer none):=HNV1.out.c (j:=10) rfl
      have z9:v1.frozen? ⟨N,10,none⟩=false:=HNV1.out.f 10
      go_wp2_with fail
      have HUA:=zz (HAV1.out.newR HS.out ((Keeps.refl (fun q=>q=N) v1).setCell (p:=⟨N,10,none⟩) (.inl rfl) (.pointer a1)) HWN.out.1)
      have HUN:=zz (HNV1.out.set_p1 a1)
      have HUH:=zz (fun (hc:φ.code=0)=>((HHV1.out hc).put1 (HOV1.out hc)).setc 10 (.pointer a1))
      have HC2:Hid (Keeps (PE K N) w3 (v1.setCell ⟨N,10,none⟩ (.pointer a1))):=zz (Keeps.setCell (S:=PE K N) HC1.out (.inl (.inr rfl)) _)
      generalize v1.setCell ⟨N,10,none⟩ (.pointer a1)=w5 at HC2 HUA HUN HUH ⊢
      clear y9 z9 hne
      refine ⟨.inr ⟨⟨w5,HC2.out⟩,rfl⟩,?_⟩
      refine Mix.mix_end (by kernel_rfl) ?_
      go_wp2_with fail
      refine (HWT.out w5 HUA.out.p).mono ?_
      rintro e' w9 ⟨rfl,hat⟩
      have HA9:=zz (HUA.out.trans hat)
      have HN9:=zz (HUN.out.at_ hat HWN.out.2)
      have HH9:=zz (fun (hc:χ2.code=0)=>(HUH.out (HCW.out hc)).at_ hat HWN.out.2)
      clear hat
      go_wp2_with fail
      go_roundg 1
      case rel=>exact .inr (.inr (.inl ⟨a0,a1,rfl,rfl,HA9,HN9,HH9⟩))
      case measure=>omega
  · obtain ⟨b,hb⟩:∃ b,Sy.isM K.C χ2 ⟨#[41]⟩=b:=⟨_,rfl⟩
    have HIS:=zz (fun W (hs:PS W K χ2)=>is_as K χ2 ⟨#[41]⟩ b hb W hs)
    cases b with
    | true =>
      obtain ⟨hx,hw⟩:=HB2.out.1 hb
      have HWT:=zz (fun W (hs:PS W K χ2)=>want_any K χ2 ⟨#[41]⟩ W hs)
      rw [hw] at HWT
      have hmw:Sy.Mo K.C χ2 χ3:=by rw [← hw]; exact (Sy.Mo.refl HL2.out).want _
      have HCW:Hid (χ3.code=0→χ2.code=0):=zz hmw.code
      subst hx
      clear hb hw hmw
      go_wp2_with fail
      refine (HIS.out wr HRA.out.p).mono ?_
      rintro e' w3 ⟨rfl,hk⟩
      have HTA:=zz (HRA.out.no hk)
      have HTN:=zz (HRN.out.no hk)
      have HTH:=zz (fun (hc:χ2.code=0)=>(HRH.out hc).no hk)
      clear hk
      go_wp2_with fail
      refine (HWT.out w3 HTA.out.p).mono ?_
      rintro e' w9 ⟨rfl,hat⟩
      have HA9:=zz (HTA.out.trans hat)
      have HN9:=zz (HTN.out.at_ hat HWN.out.2)
      have HH9:=zz (fun (hc:χ3.code=0)=>(HTH.out (HCW.out hc)).at_ hat HWN.out.2)
      clear hat
      go_wp2_with fail
      go_roundg 0
      case rel=>exact .inr (.inr (.inr (⟨a0,a1,none,rfl,rfl,HA9,HN9,HH9⟩)))
      case measure=>omega
    | false =>
      obtain ⟨hx,hw⟩:=HB2.out.2 hb
      have HX:=zz (fun W (hs:PS W K χ2)=>exprM_any K χ2 W hs)
      have hmx:=Sy.exprM_mo (Sy.Mo.refl HL2.out)
      obtain ⟨r,hr⟩:∃ r,Sy.exprM K.C χ2=r:=⟨_,rfl⟩
      rw [hr] at hx hw HX hmx
      obtain ⟨e1,φ⟩:=r
      simp only at hx hw hmx
      have HWT:=zz (fun W (hs:PS W K φ)=>want_any K φ ⟨#[41]⟩ W hs)
      rw [hw] at HWT
      have hmw:Sy.Mo K.C φ χ3:=by rw [← hw]; exact (Sy.Mo.refl hmx.le).want _
      have HCW:Hid (χ3.code=0→φ.code=0):=zz hmw.code
      have HCX:Hid (φ.code=0→χ2.code=0):=zz hmx.code
      subst hx
      clear hb hw hmw hmx hr
      go_wp2_with fail
      refine (HIS.out wr HRA.out.p).mono ?_
      rintro e' w3 ⟨rfl,hk⟩
      have HTA:=zz (HRA.out.no hk)
      have HTN:=zz (HRN.out.no hk)
      have HTH:=zz (fun (hc:χ2.code=0)=>(HRH.out hc).no hk)
      clear hk
      go_upto_region 10 with fail
      have hne:Nonempty (KS (PE K N) w3):=⟨⟨w3,Keeps.refl _ _⟩⟩
      refine Mix.wp_region_mix (fun W'=>∃ u:KS (PE K N) w3,W'=u.W) [] (by kernel_rfl) ?_
      have HV0:Hid (Keeps No w3 w3.drew):=zz ((Keeps.refl _ w3).drew)
      generalize w3.drew=v0 at HV0 ⊢
      have HC0:Hid (Keeps (PE K N) w3 v0):=zz (HV0.out.mono (fun _ _ e=>e.elim))
      have HAV0:=zz (HTA.out.no HV0.out)
      have HNV0:=zz (HTN.out.no HV0.out)
      have HHV0:=zz (fun hc=>(HTH.out hc).no HV0.out)
      refine Mix.mix_seg 0 3 5 (by kernel_rfl) (by kernel_rfl) rfl rfl ⟨⟨v0,HC0.out⟩,rfl⟩ ?_
      simp only [List.drop_succ_cons,List.drop_zero,List.take_succ_cons,List.take_zero]
      repeat (go_big_quiet_step (fail))
      refine wpQuiet_nil ?_
      refine Mix.mix_seg 4 2 3 (by kernel_rfl) (by kernel_rfl) rfl rfl ⟨⟨v0,HC0.out⟩,rfl⟩ ?_
      simp only [List.drop_succ_cons,List.drop_zero,List.take_succ_cons,List.take_zero]
      repeat (go_big_quiet_step (fail))
      refine wpQuiet_nil ?_
      refine Mix.mix_one 3 2 (by kernel_rfl) rfl rfl ?_
      simp only [List.drop_succ_cons,List.drop_zero,List.take_succ_cons,List.take_zero]
      go_wp2_with fail
      refine (HX.out v0 HAV0.out.p).mono ?_
      rintro e' v1 ⟨a2,rfl,hat,hex⟩
      have HC1:Hid (Keeps (PE K N) w3 v1):=zz (HC0.out.trans hat.k (fun q _ e=>.inl e))
      have HAV1:=zz (HAV0.out.trans hat)
      have HNV1:=zz (HNV0.out.at_ hat HWN.out.2)
      have HHV1:=zz (fun (hc:φ.code=0)=>(HHV0.out (HCX.out hc)).at_ hat HWN.out.2)
      have HOV1:Hid (φ.code=0→OpD v1 (Dc N N (.slice none 0 0)) a2 (some e1)):=zz (fun hc=>.some (ExD.mono (hex hc) (fun q _ hd=>by
       have h1:v0.heap.size≤q:=hd
       have h2:=HNV0.out.lt
       exact ⟨by omega,by omega,fun e=>nomatch e⟩)))
      clear hat hex
      go_wp2_with fail
      refine ⟨.inr ⟨⟨v1,HC1.out⟩,rfl⟩,?_⟩
      refine Mix.mix_one 6 1 (by kernel_rfl) rfl rfl ?_
      simp only [List.drop_succ_cons,List.drop_zero,List.take_succ_cons,List.take_zero]
      go_wp2_with fail
      refine ⟨.inr ⟨⟨v1,HC1.out⟩,rfl⟩,?_⟩
      refine Mix.mix_one 7 0 (by kernel_rfl) rfl rfl ?_
      simp only [List.drop_succ_cons,List.drop_zero,List.take_succ_cons,List.take_zero]
      have y9:v1.cell? ⟨N,11,none⟩=some (.pointer none):=HNV1.out.c (j:=11) rfl
      have z9:v1.frozen? ⟨N,11,none⟩=false:=HNV1.out.f 11
      go_wp2_with fail
      have HUA:=zz (HAV1.out.newR HS.out ((Keeps.refl (fun q=>q=N) v1).setCell (p:=⟨N,11,none⟩) (.inl rfl) (.pointer a2)) HWN.out.1)
      have HUN:=zz (HNV1.out.set_p2 a2)
      have HUH:=zz (fun (hc:φ.code=0)=>((HHV1.out hc).put2 (HOV1.out hc)).setc 11 (.pointer a2))
      have HC2:Hid (Keeps (PE K N) w3 (v1.setCell ⟨N,11,none⟩ (.pointer a2))):=zz (Keeps.setCell (S:=PE K N) HC1.out (.inl (.inr rfl)) _)
      generalize v1.setCell ⟨N,11,none⟩ (.pointer a2)=w5 at HC2 HUA HUN HUH ⊢
      clear y9 z9 hne
      refine ⟨.inr ⟨⟨w5,HC2.out⟩,rfl⟩,?_⟩
      refine Mix.mix_end (by kernel_rfl) ?_
      go_wp2_with fail
      refine (HWT.out w5 HUA.out.p).mono ?_
      rintro e' w9 ⟨rfl,hat⟩
      have HA9:=zz (HUA.out.trans hat)
      have HN9:=zz (HUN.out.at_ hat HWN.out.2)
      have HH9:=zz (fun (hc:χ3.code=0)=>(HUH.out (HCW.out hc)).at_ hat HWN.out.2)
      clear hat
      go_wp2_with fail
      go_roundg 0
      case rel=>exact .inr (.inr (.inr (⟨a0,a1,a2,rfl,rfl,HA9,HN9,HH9⟩)))
      case measure=>omega
  · go_wp2_with fail
    refine (HST.out wr HRA.out.p).mono ?_
    rintro e' w4 ⟨a4,rfl,hat,hex⟩
    have HA4:=zz (HRA.out.trans hat)
    have HN4:=zz (HRN.out.at_ hat HWN.out.2)
    have HH4:=zz (fun (hc:σ4.code=0)=>(HRH.out (HC43.out hc)).at_ hat HWN.out.2)
    have HX4:Hid (σ4.code=0→SmD w4 (fun q=>N≤q∧q ≠ N) a4 s1):=zz (fun hc=>SmD.mono (hex hc) (fun q _ hd=>by
     have h1:wr.heap.size≤q:=hd
     have h2:=HRN.out.lt
     exact ⟨by omega,by omega⟩))
    clear hat hex
    have hra:(w4.alloc (.cells #[.pointer a4] 65)).heap[N]?=some (.cells _ _ (0,0)):=(Below.heap_alloc _ _ _ HN4.out.lt).trans HN4.out.row
    have y12:(w4.alloc (.cells #[.pointer a4] 65)).cell? ⟨N,12,none⟩=some (.slice none 0 0):=by rw [cell_of_row _ N 12 _ _ _ hra]; rfl
    have z12:(w4.alloc (.cells #[.pointer a4] 65)).frozen? ⟨N,12,none⟩=false:=frozen_of_row _ N 12 _ _ hra
    clear hra
    have HA5:=zz ((HA4.out.no ((Keeps.refl _ w4).alloc (.cells #[.pointer a4] 65))).newR HS.out ((Keeps.refl (fun q=>q=N) _).setCell (p:=⟨N,12,none⟩) (.inl rfl) (.slice (some ⟨w4.heap.size,0,none⟩) 1 1)) HWN.out.1)
    have HX5:=zz (fun (hc:σ4.code=0)=>(HN4.out.one a4 (Nat.le_of_lt HN4.out.lt)).fin ((HH4.out hc).one (HX4.out hc)))
    go_wp2_with fail
    go_returns
    exact ⟨rfl,HA5.out,HX5.out⟩
end Go.Proofs.YtflbkdfbjofllaaGreatDoor
