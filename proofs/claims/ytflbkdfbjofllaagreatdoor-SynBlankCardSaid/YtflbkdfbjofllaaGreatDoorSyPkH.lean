import Derived.Test.YtflbkdfbjofllaaGreatDoorSyPkG
import Derived.Test.YtflbkdfbjofllaaGreatDoorSyPkF
set_option maxRecDepth 100000
set_option maxHeartbeats 25600000
set_option linter.unusedSimpArgs false
set_option linter.unusedVariables false
namespace Go.Proofs.YtflbkdfbjofllaaGreatDoor
open Go.RowKit Lx
theorem word_if (K:Pk) (f:Nat) (hS:∀ g,g≤f→StmtC K g) (σ:Sy.St) (w:World) (h:PS w K σ) (hi:σ.at_ < K.C.T.length) (hf:10 * rem K σ+6≤f+1) (h1:Sy.isM K.C σ ⟨#[105,102]⟩=true) :
    Calls Tryz.prog 147 #[.pointer (some ⟨K.P,0,none⟩)] w (SmPost w K (Sy.wordM K.C f σ)):=by
 have hle:=h.le
 have HS:=zz h
 have HIH:=zz hS
 have HI:=zz hi
 have HF:=zz hf
 obtain ⟨t,ht⟩:∃ t,Sy.peekM K.C σ 0=t:=⟨_,rfl⟩
 have htx:Sy.txt K.C σ=t.text:=by unfold Sy.txt; rw [ht]
 have HPK:=zz (fun W (hs:PS W K σ)=>peek_as K σ 0 (by omega) t ht 0 rfl W hs)
 have f2:=fun W=>(tk_fld t.kind t.at_ t.text t.suf t.num t.hex W).2.2
 have q1:(t.text.toList == [105,102])=true:=by have e:=h1; rw [is_txt,htx] at e; exact e
 have HM:Hid (Sy.wordM K.C f σ=Sy.branchM K.C f σ):=zz (by
     unfold Sy.wordM
     simp only [h1,if_true,if_neg (show ¬ (false=true) by decide)])
 clear hle h hS hi hf ht htx h1
 go_enter Tryz.func147,Tryz.ntmps147
 go_upto_region 2 with fail
 have hnw:(w.alloc (.cells #[.int .i64 0,.string ⟨#[]⟩,.string ⟨#[]⟩,.int .i64 0,.bool false,.int .u64 0,.string ⟨#[]⟩,.bool false,.int .u64 0,.pointer none,.pointer none,.pointer none,.slice none 0 0] 132)).heap[w.heap.size]?=some (.cells (smRow 0 Sy.vr0 Sy.nt false 0 none none none (.slice none 0 0)) 132 (0,0)):=heap_alloc_new _ _
 have HA1:=zz ((At.of_no HS.out (Keeps.refl _ _)).no ((Keeps.refl _ w).alloc (.cells #[.int .i64 0,.string ⟨#[]⟩,.string ⟨#[]⟩,.int .i64 0,.bool false,.int .u64 0,.string ⟨#[]⟩,.bool false,.int .u64 0,.pointer none,.pointer none,.pointer none,.slice none 0 0] 132)))
 generalize w.alloc (.cells #[.int .i64 0,.string ⟨#[]⟩,.string ⟨#[]⟩,.int .i64 0,.bool false,.int .u64 0,.string ⟨#[]⟩,.bool false,.int .u64 0,.pointer none,.pointer none,.pointer none,.slice none 0 0] 132)=w1 at hnw HA1 ⊢
 obtain ⟨N,hN⟩:∃ n,w.heap.size=n:=⟨_,rfl⟩
 have HWN:Hid (w.heap.size≤N∧K.B≤N):=zz ⟨by omega,by have:=HS.out.ord.2.2.2; omega⟩
 rw [hN] at hnw ⊢
 have HN1:=zz (Nod.bare (Nat.le_refl N) hnw)
 clear hnw hN
 go_wp2_with fail
 refine (HPK.out w1 HA1.out.p).mono ?_
 rintro e w2 ⟨rfl,hk⟩
 have HA2:=zz (HA1.out.no hk)
 have HN2:=zz (HN1.out.1.no hk)
 have HH2:=zz (HN1.out.2.no hk)
 clear hk
 go_wp2_with fail
 have hb:=branch_any K f (HIH.out f (Nat.le_refl f)) σ σ w w2 N HS.out HA2.out HWN.out.1 ⟨HN2.out,HH2.out⟩ HI.out HF.out
 unfold FillC at hb
 refine hb.mono ?_
 clear hb
 rintro e' w3 ⟨rfl,hat,hsm⟩
 have HA3:=zz hat
 have HX3:=zz hsm
 clear hat hsm
 go_wp2_with fail
 go_returns
 rw [HM.out]
 exact ⟨_,rfl,HA3.out,fun hc=>(HX3.out hc).mono HWN.out.1⟩
theorem word_for (K:Pk) (f:Nat) (hS:∀ g,g≤f→StmtC K g) (σ:Sy.St) (w:World) (h:PS w K σ) (hi:σ.at_ < K.C.T.length) (hf:10 * rem K σ+6≤f+1) (h1:Sy.isM K.C σ ⟨#[105,102]⟩=false) (h2:Sy.isM K.C σ ⟨#[119,104,105,108,101]⟩=false) (h3:Sy.isM K.C σ ⟨#[100,111]⟩=false) (h4:Sy.isM K.C σ ⟨#[102,111,114]⟩=true) :
    Calls Tryz.prog 147 #[.pointer (some ⟨K.P,0,none⟩)] w (SmPost w K (Sy.wordM K.C f σ)):=by
 have hle:=h.le
 have HS:=zz h
 have HIH:=zz hS
 have HI:=zz hi
 have HF:=zz hf
 obtain ⟨t,ht⟩:∃ t,Sy.peekM K.C σ 0=t:=⟨_,rfl⟩
 have htx:Sy.txt K.C σ=t.text:=by unfold Sy.txt; rw [ht]
 have HPK:=zz (fun W (hs:PS W K σ)=>peek_as K σ 0 (by omega) t ht 0 rfl W hs)
 have f2:=fun W=>(tk_fld t.kind t.at_ t.text t.suf t.num t.hex W).2.2
 have q1:(t.text.toList == [105,102])=false:=by have e:=h1; rw [is_txt,htx] at e; exact e
 have q2:(t.text.toList == [119,104,105,108,101])=false:=by have e:=h2; rw [is_txt,htx] at e; exact e
 have q3:(t.text.toList == [100,111])=false:=by have e:=h3; rw [is_txt,htx] at e; exact e
 have q4:(t.text.toList == [102,111,114])=true:=by have e:=h4; rw [is_txt,htx] at e; exact e
 have HM:Hid (Sy.wordM K.C f σ=Sy.loopM K.C f σ):=zz (by
     unfold Sy.wordM
     simp only [h1,h2,h3,h4,if_true,if_neg (show ¬ (false=true) by decide)])
 clear hle h hS hi hf ht htx h1 h2 h3 h4
 go_enter Tryz.func147,Tryz.ntmps147
 go_upto_region 2 with fail
 have hnw:(w.alloc (.cells #[.int .i64 0,.string ⟨#[]⟩,.string ⟨#[]⟩,.int .i64 0,.bool false,.int .u64 0,.string ⟨#[]⟩,.bool false,.int .u64 0,.pointer none,.pointer none,.pointer none,.slice none 0 0] 132)).heap[w.heap.size]?=some (.cells (smRow 0 Sy.vr0 Sy.nt false 0 none none none (.slice none 0 0)) 132 (0,0)):=heap_alloc_new _ _
 have HA1:=zz ((At.of_no HS.out (Keeps.refl _ _)).no ((Keeps.refl _ w).alloc (.cells #[.int .i64 0,.string ⟨#[]⟩,.string ⟨#[]⟩,.int .i64 0,.bool false,.int .u64 0,.string ⟨#[]⟩,.bool false,.int .u64 0,.pointer none,.pointer none,.pointer none,.slice none 0 0] 132)))
 generalize w.alloc (.cells #[.int .i64 0,.string ⟨#[]⟩,.string ⟨#[]⟩,.int .i64 0,.bool false,.int .u64 0,.string ⟨#[]⟩,.bool false,.int .u64 0,.pointer none,.pointer none,.pointer none,.slice none 0 0] 132)=w1 at hnw HA1 ⊢
 obtain ⟨N,hN⟩:∃ n,w.heap.size=n:=⟨_,rfl⟩
 have HWN:Hid (w.heap.size≤N∧K.B≤N):=zz ⟨by omega,by have:=HS.out.ord.2.2.2; omega⟩
 rw [hN] at hnw ⊢
 have HN1:=zz (Nod.bare (Nat.le_refl N) hnw)
 clear hnw hN
 go_wp2_with fail
 refine (HPK.out w1 HA1.out.p).mono ?_
 rintro e w2 ⟨rfl,hk⟩
 have HA2:=zz (HA1.out.no hk)
 have HN2:=zz (HN1.out.1.no hk)
 have HH2:=zz (HN1.out.2.no hk)
 clear hk
 go_wp2_with fail
 have hb:=loop_any K f (HIH.out f (Nat.le_refl f)) σ σ w w2 N HS.out HA2.out HWN.out.1 ⟨HN2.out,HH2.out⟩ HI.out HF.out
 unfold FillC at hb
 refine hb.mono ?_
 clear hb
 rintro e' w3 ⟨rfl,hat,hsm⟩
 have HA3:=zz hat
 have HX3:=zz hsm
 clear hat hsm
 go_wp2_with fail
 go_returns
 rw [HM.out]
 exact ⟨_,rfl,HA3.out,fun hc=>(HX3.out hc).mono HWN.out.1⟩
theorem word_while (K:Pk) (f:Nat) (hS:∀ g,g≤f→StmtC K g) (σ:Sy.St) (w:World) (h:PS w K σ) (hi:σ.at_ < K.C.T.length) (hf:10 * rem K σ+6≤f+1) (h1:Sy.isM K.C σ ⟨#[105,102]⟩=false) (h2:Sy.isM K.C σ ⟨#[119,104,105,108,101]⟩=true) :
    Calls Tryz.prog 147 #[.pointer (some ⟨K.P,0,none⟩)] w (SmPost w K (Sy.wordM K.C f σ)):=by
 have hle:=h.le
 have HS:=zz h
 have HIH:=zz hS
 have HI:=zz hi
 have HF:=zz hf
 obtain ⟨t,ht⟩:∃ t,Sy.peekM K.C σ 0=t:=⟨_,rfl⟩
 have htx:Sy.txt K.C σ=t.text:=by unfold Sy.txt; rw [ht]
 have HPK:=zz (fun W (hs:PS W K σ)=>peek_as K σ 0 (by omega) t ht 0 rfl W hs)
 have f2:=fun W=>(tk_fld t.kind t.at_ t.text t.suf t.num t.hex W).2.2
 have q1:(t.text.toList == [105,102])=false:=by have e:=h1; rw [is_txt,htx] at e; exact e
 have q2:(t.text.toList == [119,104,105,108,101])=true:=by have e:=h2; rw [is_txt,htx] at e; exact e
 have hr1:=rem_next hi
 obtain ⟨σ1,e1⟩:∃ x,Sy.nextM K.C σ=x:=⟨_,rfl⟩
 have hmσ1:Sy.Mo K.C σ σ1:=by rw [← e1]; exact (Sy.Mo.refl hle).next
 have HNX:=zz (fun W (hs:PS W K σ)=>next_any K σ W hs)
 rw [e1] at HNX hr1
 have HX:=zz (fun W (hs:PS W K σ1)=>asked_any K σ1 W hs)
 obtain ⟨r2,hr2e⟩:∃ x,Sy.askedM K.C σ1=x:=⟨_,rfl⟩
 have hmr2:Sy.Mo K.C σ1 r2.2:=by rw [← hr2e]; exact (Sy.Mo.refl hmσ1.le).asked
 rw [hr2e] at HX
 obtain ⟨x1,σ2⟩:=r2
 simp only at hmr2
 have hr2:=rem_mo hmr2
 have HST:=zz (fun W (hs:PS W K σ2)=>hS f (Nat.le_refl f) σ2 W hs (by have:=rem_mo hmσ1; omega))
 obtain ⟨r3,h3r⟩:∃ x,Sy.S K.C f .stmt σ2=x:=⟨_,rfl⟩
 have hm3:Sy.Mo K.C σ2 r3.2:=by rw [← h3r]; exact Sy.S_mo f _ σ2 hmr2.le
 rw [h3r] at HST
 obtain ⟨s1,σ3⟩:=r3
 simp only at hm3
 have HM:Hid (Sy.wordM K.C f σ=(.mk 5 Sy.vr0 Sy.nt false 0 (some x1) none none [s1],σ3)):=zz (by
     unfold Sy.wordM
     simp only [h1,h2,if_true,if_neg (show ¬ (false=true) by decide)]
     simp only [e1,hr2e,h3r])
 have HC21:Hid (σ2.code=0→σ1.code=0):=zz hmr2.code
 have HC32:Hid (σ3.code=0→σ2.code=0):=zz hm3.code
 clear hle h hS hi hf ht htx h1 h2 hr1 e1 hmσ1 hr2e hmr2 hr2 h3r hm3
 go_enter Tryz.func147,Tryz.ntmps147
 go_upto_region 2 with fail
 have hnw:(w.alloc (.cells #[.int .i64 0,.string ⟨#[]⟩,.string ⟨#[]⟩,.int .i64 0,.bool false,.int .u64 0,.string ⟨#[]⟩,.bool false,.int .u64 0,.pointer none,.pointer none,.pointer none,.slice none 0 0] 132)).heap[w.heap.size]?=some (.cells (smRow 0 Sy.vr0 Sy.nt false 0 none none none (.slice none 0 0)) 132 (0,0)):=heap_alloc_new _ _
 have HA1:=zz ((At.of_no HS.out (Keeps.refl _ _)).no ((Keeps.refl _ w).alloc (.cells #[.int .i64 0,.string ⟨#[]⟩,.string ⟨#[]⟩,.int .i64 0,.bool false,.int .u64 0,.string ⟨#[]⟩,.bool false,.int .u64 0,.pointer none,.pointer none,.pointer none,.slice none 0 0] 132)))
 generalize w.alloc (.cells #[.int .i64 0,.string ⟨#[]⟩,.string ⟨#[]⟩,.int .i64 0,.bool false,.int .u64 0,.string ⟨#[]⟩,.bool false,.int .u64 0,.pointer none,.pointer none,.pointer none,.slice none 0 0] 132)=w1 at hnw HA1 ⊢
 obtain ⟨N,hN⟩:∃ n,w.heap.size=n:=⟨_,rfl⟩
 have HWN:Hid (w.heap.size≤N∧K.B≤N):=zz ⟨by omega,by have:=HS.out.ord.2.2.2; omega⟩
 rw [hN] at hnw ⊢
 have HN1:=zz (Nod.bare (Nat.le_refl N) hnw)
 clear hnw hN
 go_wp2_with fail
 refine (HPK.out w1 HA1.out.p).mono ?_
 rintro e w2 ⟨rfl,hk⟩
 have HA2:=zz (HA1.out.no hk)
 have HN2:=zz (HN1.out.1.no hk)
 have HH2:=zz (HN1.out.2.no hk)
 clear hk
 go_wp2_with fail
 refine (HNX.out w2 HA2.out.p).mono ?_
 rintro e w3 ⟨rfl,hat⟩
 have HA3:=zz (HA2.out.trans hat)
 have HN3:=zz (HN2.out.at_ hat HWN.out.2)
 have HH3:=zz (HH2.out.at_ hat HWN.out.2)
 clear hat
 have y0:w3.cell? ⟨N,0,none⟩=some (.int .i64 0):=HN3.out.c (j:=0) rfl
 have z0:w3.frozen? ⟨N,0,none⟩=false:=HN3.out.f 0
 go_upto_region 9 with fail
 have HA4:=zz (HA3.out.newR HS.out ((Keeps.refl (fun q=>q=N) w3).setCell (p:=⟨N,0,none⟩) (.inl rfl) (.int .i64 5)) HWN.out.1)
 have HN4:=zz (HN3.out.set_kind 5)
 have HH4:=zz (fun (_:σ1.code=0)=>HH3.out.setc 0 (.int .i64 5))
 generalize w3.setCell ⟨N,0,none⟩ (.int .i64 5)=w4 at HA4 HN4 HH4 ⊢
 clear y0 z0
 have hne:Nonempty (KS (PE K N) w4):=⟨⟨w4,Keeps.refl _ _⟩⟩
 refine Mix.wp_region_mix (fun W'=>∃ u:KS (PE K N) w4,W'=u.W) [] (by kernel_rfl) ?_
 have HV0:Hid (Keeps No w4 w4.drew):=zz ((Keeps.refl _ w4).drew)
 generalize w4.drew=v0 at HV0 ⊢
 have HC0:Hid (Keeps (PE K N) w4 v0):=zz (HV0.out.mono (fun _ _ e=>e.elim))
 have HAV0:=zz (HA4.out.no HV0.out)
 have HNV0:=zz (HN4.out.no HV0.out)
 have HHV0:=zz (fun hc=>(HH4.out hc).no HV0.out)
 refine Mix.mix_seg 0 2 5 (by kernel_rfl) (by kernel_rfl) rfl rfl ⟨⟨v0,HC0.out⟩,rfl⟩ ?_
 simp only [List.drop_succ_cons,List.drop_zero,List.take_succ_cons,List.take_zero]
 repeat (go_big_quiet_step (fail))
 refine wpQuiet_nil ?_
 refine Mix.mix_seg 3 2 3 (by kernel_rfl) (by kernel_rfl) rfl rfl ⟨⟨v0,HC0.out⟩,rfl⟩ ?_
 simp only [List.drop_succ_cons,List.drop_zero,List.take_succ_cons,List.take_zero]
 repeat (go_big_quiet_step (fail))
 refine wpQuiet_nil ?_
 refine Mix.mix_one 2 2 (by kernel_rfl) rfl rfl ?_
 simp only [List.drop_succ_cons,List.drop_zero,List.take_succ_cons,List.take_zero]
 go_wp2_with fail
 refine (HX.out v0 HAV0.out.p).mono ?_
 rintro e' v1 ⟨a1,rfl,hat,hex⟩
 have HC1:Hid (Keeps (PE K N) w4 v1):=zz (HC0.out.trans hat.k (fun q _ e=>.inl e))
 have HAV1:=zz (HAV0.out.trans hat)
 have HNV1:=zz (HNV0.out.at_ hat HWN.out.2)
 have HHV1:=zz (fun (hc:σ2.code=0)=>(HHV0.out (HC21.out hc)).at_ hat HWN.out.2)
 have HOV1:Hid (σ2.code=0→OpD v1 (Dc N N (.slice none 0 0)) a1 (some x1)):=zz (fun hc=>.some (ExD.mono (hex hc) (fun q _ hd=>by
  have h1:v0.heap.size≤q:=hd
  have h2:=HNV0.out.lt
  exact ⟨by omega,by omega,fun e=>nomatch e⟩)))
 clear hat hex
 go_wp2_with fail
 refine ⟨.inr ⟨⟨v1,HC1.out⟩,rfl⟩,?_⟩
 refine Mix.mix_one 5 1 (by kernel_rfl) rfl rfl ?_
 simp only [List.drop_succ_cons,List.drop_zero,List.take_succ_cons,List.take_zero]
 go_wp2_with fail
 refine ⟨.inr ⟨⟨v1,HC1.out⟩,rfl⟩,?_⟩
 refine Mix.mix_one 6 0 (by kernel_rfl) rfl rfl ?_
 simp only [List.drop_succ_cons,List.drop_zero,List.take_succ_cons,List.take_zero]
 have y9:v1.cell? ⟨N,9,none⟩=some (.pointer none):=HNV1.out.c (j:=9) rfl
 have z9:v1.frozen? ⟨N,9,none⟩=false:=HNV1.out.f 9
 go_wp2_with fail
 have HA5:=zz (HAV1.out.newR HS.out ((Keeps.refl (fun q=>q=N) v1).setCell (p:=⟨N,9,none⟩) (.inl rfl) (.pointer a1)) HWN.out.1)
 have HN5:=zz (HNV1.out.set_p0 a1)
 have HH5:=zz (fun (hc:σ2.code=0)=>((HHV1.out hc).put0 (HOV1.out hc)).setc 9 (.pointer a1))
 have HC2:Hid (Keeps (PE K N) w4 (v1.setCell ⟨N,9,none⟩ (.pointer a1))):=zz (Keeps.setCell (S:=PE K N) HC1.out (.inl (.inr rfl)) _)
 generalize v1.setCell ⟨N,9,none⟩ (.pointer a1)=w5 at HC2 HA5 HN5 HH5 ⊢
 clear y9 z9 hne
 refine ⟨.inr ⟨⟨w5,HC2.out⟩,rfl⟩,?_⟩
 refine Mix.mix_end (by kernel_rfl) ?_
 go_wp2_with fail
 refine (HST.out w5 HA5.out.p).mono ?_
 rintro e' v4 ⟨a2,rfl,hat,hex⟩
 have HVA:=zz (HA5.out.trans hat)
 have HVN:=zz (HN5.out.at_ hat HWN.out.2)
 have HVH:=zz (fun (hc:σ3.code=0)=>(HH5.out (HC32.out hc)).at_ hat HWN.out.2)
 have HVX:Hid (σ3.code=0→SmD v4 (fun q=>N≤q∧q ≠ N) a2 s1):=zz (fun hc=>SmD.mono (hex hc) (fun q _ hd=>by
  have h1:w5.heap.size≤q:=hd
  have h2:=HN5.out.lt
  exact ⟨by omega,by omega⟩))
 clear hat hex
 have hra:(v4.alloc (.cells #[.pointer a2] 65)).heap[N]?=some (.cells _ _ (0,0)):=(Below.heap_alloc _ _ _ HVN.out.lt).trans HVN.out.row
 have y12:(v4.alloc (.cells #[.pointer a2] 65)).cell? ⟨N,12,none⟩=some (.slice none 0 0):=by rw [cell_of_row _ N 12 _ _ _ hra]; rfl
 have z12:(v4.alloc (.cells #[.pointer a2] 65)).frozen? ⟨N,12,none⟩=false:=frozen_of_row _ N 12 _ _ hra
 clear hra
 go_upto_region 36 with fail
 have H6A:=zz ((HVA.out.no ((Keeps.refl _ v4).alloc (.cells #[.pointer a2] 65))).newR HS.out ((Keeps.refl (fun q=>q=N) _).setCell (p:=⟨N,12,none⟩) (.inl rfl) (.slice (some ⟨v4.heap.size,0,none⟩) 1 1)) HWN.out.1)
 have H6N:=zz (HVN.out.one a2 (Nat.le_of_lt HVN.out.lt))
 have H6H:=zz (fun (hc:σ3.code=0)=>(HVH.out hc).one (HVX.out hc))
 generalize (v4.alloc (.cells #[.pointer a2] 65)).setCell ⟨N,12,none⟩ (.slice (some ⟨v4.heap.size,0,none⟩) 1 1)=w6 at H6A H6N H6H ⊢
 obtain ⟨g1,hg1⟩:∃ g,v4.heap.size=g:=⟨_,rfl⟩
 rw [hg1] at H6N H6H ⊢
 clear y12 z12 hg1
 have HX6:=zz (fun (hc:σ3.code=0)=>H6N.out.fin (H6H.out hc))
 go_wp2_with fail
 go_returns
 rw [HM.out]
 exact ⟨_,rfl,H6A.out,fun hc=>(HX6.out hc).mono HWN.out.1⟩
theorem word_do (K:Pk) (f:Nat) (hS:∀ g,g≤f→StmtC K g) (σ:Sy.St) (w:World) (h:PS w K σ) (hi:σ.at_ < K.C.T.length) (hf:10 * rem K σ+6≤f+1) (h1:Sy.isM K.C σ ⟨#[105,102]⟩=false) (h2:Sy.isM K.C σ ⟨#[119,104,105,108,101]⟩=false) (h3:Sy.isM K.C σ ⟨#[100,111]⟩=true) :
    Calls Tryz.prog 147 #[.pointer (some ⟨K.P,0,none⟩)] w (SmPost w K (Sy.wordM K.C f σ)):=by
 have hle:=h.le
 have HS:=zz h
 have HIH:=zz hS
 have HI:=zz hi
 have HF:=zz hf
 obtain ⟨t,ht⟩:∃ t,Sy.peekM K.C σ 0=t:=⟨_,rfl⟩
 have htx:Sy.txt K.C σ=t.text:=by unfold Sy.txt; rw [ht]
 have HPK:=zz (fun W (hs:PS W K σ)=>peek_as K σ 0 (by omega) t ht 0 rfl W hs)
 have f2:=fun W=>(tk_fld t.kind t.at_ t.text t.suf t.num t.hex W).2.2
 have q1:(t.text.toList == [105,102])=false:=by have e:=h1; rw [is_txt,htx] at e; exact e
 have q2:(t.text.toList == [119,104,105,108,101])=false:=by have e:=h2; rw [is_txt,htx] at e; exact e
 have q3:(t.text.toList == [100,111])=true:=by have e:=h3; rw [is_txt,htx] at e; exact e
 have hr1:=rem_next hi
 obtain ⟨σ1,e1⟩:∃ x,Sy.nextM K.C σ=x:=⟨_,rfl⟩
 have hm1:Sy.Mo K.C σ σ1:=by rw [← e1]; exact (Sy.Mo.refl hle).next
 have HNX:=zz (fun W (hs:PS W K σ)=>next_any K σ W hs)
 rw [e1] at HNX hr1
 have HST:=zz (fun W (hs:PS W K σ1)=>hS f (Nat.le_refl f) σ1 W hs (by omega))
 obtain ⟨r3,h3r⟩:∃ x,Sy.S K.C f .stmt σ1=x:=⟨_,rfl⟩
 have hm3:Sy.Mo K.C σ1 r3.2:=by rw [← h3r]; exact Sy.S_mo f _ σ1 hm1.le
 rw [h3r] at HST
 obtain ⟨s1,σ2⟩:=r3
 simp only at hm3
 obtain ⟨σ3,h4⟩:∃ x,Sy.wantM K.C σ2 ⟨#[119,104,105,108,101]⟩=x:=⟨_,rfl⟩
 have hmσ3:Sy.Mo K.C σ2 σ3:=by rw [← h4]; exact (Sy.Mo.refl hm3.le).want _
 have HW1:=zz (fun W (hs:PS W K σ2)=>want_any K σ2 ⟨#[119,104,105,108,101]⟩ W hs)
 rw [h4] at HW1
 have HX:=zz (fun W (hs:PS W K σ3)=>asked_any K σ3 W hs)
 obtain ⟨r5,hr5⟩:∃ x,Sy.askedM K.C σ3=x:=⟨_,rfl⟩
 have hmr5:Sy.Mo K.C σ3 r5.2:=by rw [← hr5]; exact (Sy.Mo.refl hmσ3.le).asked
 rw [hr5] at HX
 obtain ⟨x1,σ4⟩:=r5
 simp only at hmr5
 obtain ⟨σ5,h6⟩:∃ x,Sy.wantM K.C σ4 ⟨#[59]⟩=x:=⟨_,rfl⟩
 have hm6:Sy.Mo K.C σ4 σ5:=by rw [← h6]; exact (Sy.Mo.refl hmr5.le).want _
 have HW2:=zz (fun W (hs:PS W K σ4)=>want_any K σ4 ⟨#[59]⟩ W hs)
 rw [h6] at HW2
 have HM:Hid (Sy.wordM K.C f σ=(.mk 6 Sy.vr0 Sy.nt false 0 (some x1) none none [s1],σ5)):=zz (by
     unfold Sy.wordM
     simp only [h1,h2,h3,if_true,if_neg (show ¬ (false=true) by decide)]
     simp only [e1,h3r,h4,hr5,h6])
 have HC21:Hid (σ2.code=0→σ1.code=0):=zz hm3.code
 have HC32:Hid (σ3.code=0→σ2.code=0):=zz hmσ3.code
 have HC43:Hid (σ4.code=0→σ3.code=0):=zz hmr5.code
 have HC54:Hid (σ5.code=0→σ4.code=0):=zz hm6.code
 clear hle h hS hi hf ht htx h1 h2 h3 hr1 e1 hm1 h3r hm3 h4 hmσ3 hr5 hmr5 h6 hm6
 go_enter Tryz.func147,Tryz.ntmps147
 go_upto_region 2 with fail
 have hnw:(w.alloc (.cells #[.int .i64 0,.string ⟨#[]⟩,.string ⟨#[]⟩,.int .i64 0,.bool false,.int .u64 0,.string ⟨#[]⟩,.bool false,.int .u64 0,.pointer none,.pointer none,.pointer none,.slice none 0 0] 132)).heap[w.heap.size]?=some (.cells (smRow 0 Sy.vr0 Sy.nt false 0 none none none (.slice none 0 0)) 132 (0,0)):=heap_alloc_new _ _
 have HA1:=zz ((At.of_no HS.out (Keeps.refl _ _)).no ((Keeps.refl _ w).alloc (.cells #[.int .i64 0,.string ⟨#[]⟩,.string ⟨#[]⟩,.int .i64 0,.bool false,.int .u64 0,.string ⟨#[]⟩,.bool false,.int .u64 0,.pointer none,.pointer none,.pointer none,.slice none 0 0] 132)))
 generalize w.alloc (.cells #[.int .i64 0,.string ⟨#[]⟩,.string ⟨#[]⟩,.int .i64 0,.bool false,.int .u64 0,.string ⟨#[]⟩,.bool false,.int .u64 0,.pointer none,.pointer none,.pointer none,.slice none 0 0] 132)=w1 at hnw HA1 ⊢
 obtain ⟨N,hN⟩:∃ n,w.heap.size=n:=⟨_,rfl⟩
 have HWN:Hid (w.heap.size≤N∧K.B≤N):=zz ⟨by omega,by have:=HS.out.ord.2.2.2; omega⟩
 rw [hN] at hnw ⊢
 have HN1:=zz (Nod.bare (Nat.le_refl N) hnw)
 clear hnw hN
 go_wp2_with fail
 refine (HPK.out w1 HA1.out.p).mono ?_
 rintro e w2 ⟨rfl,hk⟩
 have HA2:=zz (HA1.out.no hk)
 have HN2:=zz (HN1.out.1.no hk)
 have HH2:=zz (HN1.out.2.no hk)
 clear hk
 go_wp2_with fail
 refine (HNX.out w2 HA2.out.p).mono ?_
 rintro e w3 ⟨rfl,hat⟩
 have HA3:=zz (HA2.out.trans hat)
 have HN3:=zz (HN2.out.at_ hat HWN.out.2)
 have HH3:=zz (HH2.out.at_ hat HWN.out.2)
 clear hat
 have y0:w3.cell? ⟨N,0,none⟩=some (.int .i64 0):=HN3.out.c (j:=0) rfl
 have z0:w3.frozen? ⟨N,0,none⟩=false:=HN3.out.f 0
 go_upto_region 14 with fail
 have HA4:=zz (HA3.out.newR HS.out ((Keeps.refl (fun q=>q=N) w3).setCell (p:=⟨N,0,none⟩) (.inl rfl) (.int .i64 6)) HWN.out.1)
 have HN4:=zz (HN3.out.set_kind 6)
 have HH4:=zz (fun (_:σ1.code=0)=>HH3.out.setc 0 (.int .i64 6))
 generalize w3.setCell ⟨N,0,none⟩ (.int .i64 6)=w4 at HA4 HN4 HH4 ⊢
 clear y0 z0
 go_wp2_with fail
 refine (HST.out w4 HA4.out.p).mono ?_
 rintro e' v4 ⟨a2,rfl,hat,hex⟩
 have HVA:=zz (HA4.out.trans hat)
 have HVN:=zz (HN4.out.at_ hat HWN.out.2)
 have HVH:=zz (fun (hc:σ2.code=0)=>(HH4.out (HC21.out hc)).at_ hat HWN.out.2)
 have HVX:Hid (σ2.code=0→SmD v4 (fun q=>N≤q∧q ≠ N) a2 s1):=zz (fun hc=>SmD.mono (hex hc) (fun q _ hd=>by
  have h1:w4.heap.size≤q:=hd
  have h2:=HN4.out.lt
  exact ⟨by omega,by omega⟩))
 clear hat hex
 have hra:(v4.alloc (.cells #[.pointer a2] 65)).heap[N]?=some (.cells _ _ (0,0)):=(Below.heap_alloc _ _ _ HVN.out.lt).trans HVN.out.row
 have y12:(v4.alloc (.cells #[.pointer a2] 65)).cell? ⟨N,12,none⟩=some (.slice none 0 0):=by rw [cell_of_row _ N 12 _ _ _ hra]; rfl
 have z12:(v4.alloc (.cells #[.pointer a2] 65)).frozen? ⟨N,12,none⟩=false:=frozen_of_row _ N 12 _ _ hra
 clear hra
 go_upto_region 15 with fail
 have H6A:=zz ((HVA.out.no ((Keeps.refl _ v4).alloc (.cells #[.pointer a2] 65))).newR HS.out ((Keeps.refl (fun q=>q=N) _).setCell (p:=⟨N,12,none⟩) (.inl rfl) (.slice (some ⟨v4.heap.size,0,none⟩) 1 1)) HWN.out.1)
 have H6N:=zz (HVN.out.one a2 (Nat.le_of_lt HVN.out.lt))
 have H6H:=zz (fun (hc:σ2.code=0)=>(HVH.out hc).one (HVX.out hc))
 generalize (v4.alloc (.cells #[.pointer a2] 65)).setCell ⟨N,12,none⟩ (.slice (some ⟨v4.heap.size,0,none⟩) 1 1)=w6 at H6A H6N H6H ⊢
 obtain ⟨g1,hg1⟩:∃ g,v4.heap.size=g:=⟨_,rfl⟩
 rw [hg1] at H6N H6H ⊢
 clear y12 z12 hg1
 go_wp2_with fail
 refine (HW1.out w6 H6A.out.p).mono ?_
 rintro e' w7 ⟨rfl,hat⟩
 have HA7:=zz (H6A.out.trans hat)
 have HN7:=zz (H6N.out.at_ hat HWN.out.2)
 have HH7:=zz (fun (hc:σ3.code=0)=>(H6H.out (HC32.out hc)).at_ hat HWN.out.2)
 clear hat
 go_upto_region 16 with fail
 have hne:Nonempty (KS (PE K N) w7):=⟨⟨w7,Keeps.refl _ _⟩⟩
 refine Mix.wp_region_mix (fun W'=>∃ u:KS (PE K N) w7,W'=u.W) [] (by kernel_rfl) ?_
 have HV0:Hid (Keeps No w7 w7.drew):=zz ((Keeps.refl _ w7).drew)
 generalize w7.drew=v0 at HV0 ⊢
 have HC0:Hid (Keeps (PE K N) w7 v0):=zz (HV0.out.mono (fun _ _ e=>e.elim))
 have HAV0:=zz (HA7.out.no HV0.out)
 have HNV0:=zz (HN7.out.no HV0.out)
 have HHV0:=zz (fun hc=>(HH7.out hc).no HV0.out)
 refine Mix.mix_seg 0 2 5 (by kernel_rfl) (by kernel_rfl) rfl rfl ⟨⟨v0,HC0.out⟩,rfl⟩ ?_
 simp only [List.drop_succ_cons,List.drop_zero,List.take_succ_cons,List.take_zero]
 repeat (go_big_quiet_step (fail))
 refine wpQuiet_nil ?_
 refine Mix.mix_seg 3 2 3 (by kernel_rfl) (by kernel_rfl) rfl rfl ⟨⟨v0,HC0.out⟩,rfl⟩ ?_
 simp only [List.drop_succ_cons,List.drop_zero,List.take_succ_cons,List.take_zero]
 repeat (go_big_quiet_step (fail))
 refine wpQuiet_nil ?_
 refine Mix.mix_one 2 2 (by kernel_rfl) rfl rfl ?_
 simp only [List.drop_succ_cons,List.drop_zero,List.take_succ_cons,List.take_zero]
 go_wp2_with fail
 refine (HX.out v0 HAV0.out.p).mono ?_
 rintro e' v1 ⟨a1,rfl,hat,hex⟩
 have HC1:Hid (Keeps (PE K N) w7 v1):=zz (HC0.out.trans hat.k (fun q _ e=>.inl e))
 have HAV1:=zz (HAV0.out.trans hat)
 have HNV1:=zz (HNV0.out.at_ hat HWN.out.2)
 have HHV1:=zz (fun (hc:σ4.code=0)=>(HHV0.out (HC43.out hc)).at_ hat HWN.out.2)
 have HOV1:Hid (σ4.code=0→OpD v1 (Dc N N (.slice (some ⟨g1,0,none⟩) [a2].length 1)) a1 (some x1)):=zz (fun hc=>.some (ExD.mono (hex hc) (fun q _ hd=>by
  have h1:v0.heap.size≤q:=hd
  have h2:=HNV0.out.lt
  exact ⟨by omega,by omega,fun e=>by have:=own_ltb HNV0.out.own e; omega⟩)))
 clear hat hex
 go_wp2_with fail
 refine ⟨.inr ⟨⟨v1,HC1.out⟩,rfl⟩,?_⟩
 refine Mix.mix_one 5 1 (by kernel_rfl) rfl rfl ?_
 simp only [List.drop_succ_cons,List.drop_zero,List.take_succ_cons,List.take_zero]
 go_wp2_with fail
 refine ⟨.inr ⟨⟨v1,HC1.out⟩,rfl⟩,?_⟩
 refine Mix.mix_one 6 0 (by kernel_rfl) rfl rfl ?_
 simp only [List.drop_succ_cons,List.drop_zero,List.take_succ_cons,List.take_zero]
 have y9:v1.cell? ⟨N,9,none⟩=some (.pointer none):=HNV1.out.c (j:=9) rfl
 have z9:v1.frozen? ⟨N,9,none⟩=false:=HNV1.out.f 9
 go_wp2_with fail
 have HA8:=zz (HAV1.out.newR HS.out ((Keeps.refl (fun q=>q=N) v1).setCell (p:=⟨N,9,none⟩) (.inl rfl) (.pointer a1)) HWN.out.1)
 have HN8:=zz (HNV1.out.set_p0 a1)
 have HH8:=zz (fun (hc:σ4.code=0)=>((HHV1.out hc).put0 (HOV1.out hc)).setc 9 (.pointer a1))
 have HC2:Hid (Keeps (PE K N) w7 (v1.setCell ⟨N,9,none⟩ (.pointer a1))):=zz (Keeps.setCell (S:=PE K N) HC1.out (.inl (.inr rfl)) _)
 generalize v1.setCell ⟨N,9,none⟩ (.pointer a1)=w8 at HC2 HA8 HN8 HH8 ⊢
 clear y9 z9 hne
 refine ⟨.inr ⟨⟨w8,HC2.out⟩,rfl⟩,?_⟩
 refine Mix.mix_end (by kernel_rfl) ?_
 go_wp2_with fail
 refine (HW2.out w8 HA8.out.p).mono ?_
 rintro e' w9 ⟨rfl,hat⟩
 have HA9:=zz (HA8.out.trans hat)
 have HX9:=zz (fun (hc:σ5.code=0)=>(HN8.out.at_ hat HWN.out.2).fin ((HH8.out (HC54.out hc)).at_ hat HWN.out.2))
 clear hat
 go_wp2_with fail
 go_returns
 rw [HM.out]
 exact ⟨_,rfl,HA9.out,fun hc=>(HX9.out hc).mono HWN.out.1⟩
theorem word_switch (K:Pk) (f:Nat) (hS:∀ g,g≤f→StmtC K g) (σ:Sy.St) (w:World) (h:PS w K σ) (hi:σ.at_ < K.C.T.length) (hf:10 * rem K σ+6≤f+1) (h1:Sy.isM K.C σ ⟨#[105,102]⟩=false) (h2:Sy.isM K.C σ ⟨#[119,104,105,108,101]⟩=false) (h3:Sy.isM K.C σ ⟨#[100,111]⟩=false) (h4:Sy.isM K.C σ ⟨#[102,111,114]⟩=false) (h5:Sy.isM K.C σ ⟨#[115,119,105,116,99,104]⟩=true) :
    Calls Tryz.prog 147 #[.pointer (some ⟨K.P,0,none⟩)] w (SmPost w K (Sy.wordM K.C f σ)):=by
 have hle:=h.le
 have HS:=zz h
 have HIH:=zz hS
 have HI:=zz hi
 have HF:=zz hf
 obtain ⟨t,ht⟩:∃ t,Sy.peekM K.C σ 0=t:=⟨_,rfl⟩
 have htx:Sy.txt K.C σ=t.text:=by unfold Sy.txt; rw [ht]
 have HPK:=zz (fun W (hs:PS W K σ)=>peek_as K σ 0 (by omega) t ht 0 rfl W hs)
 have f2:=fun W=>(tk_fld t.kind t.at_ t.text t.suf t.num t.hex W).2.2
 have q1:(t.text.toList == [105,102])=false:=by have e:=h1; rw [is_txt,htx] at e; exact e
 have q2:(t.text.toList == [119,104,105,108,101])=false:=by have e:=h2; rw [is_txt,htx] at e; exact e
 have q3:(t.text.toList == [100,111])=false:=by have e:=h3; rw [is_txt,htx] at e; exact e
 have q4:(t.text.toList == [102,111,114])=false:=by have e:=h4; rw [is_txt,htx] at e; exact e
 have q5:(t.text.toList == [115,119,105,116,99,104])=true:=by have e:=h5; rw [is_txt,htx] at e; exact e
 have HM:Hid (Sy.wordM K.C f σ=Sy.chooseM K.C f σ):=zz (by
     unfold Sy.wordM
     simp only [h1,h2,h3,h4,h5,if_true,if_neg (show ¬ (false=true) by decide)])
 clear hle h hS hi hf ht htx h1 h2 h3 h4 h5
 go_enter Tryz.func147,Tryz.ntmps147
 go_upto_region 2 with fail
 have hnw:(w.alloc (.cells #[.int .i64 0,.string ⟨#[]⟩,.string ⟨#[]⟩,.int .i64 0,.bool false,.int .u64 0,.string ⟨#[]⟩,.bool false,.int .u64 0,.pointer none,.pointer none,.pointer none,.slice none 0 0] 132)).heap[w.heap.size]?=some (.cells (smRow 0 Sy.vr0 Sy.nt false 0 none none none (.slice none 0 0)) 132 (0,0)):=heap_alloc_new _ _
 have HA1:=zz ((At.of_no HS.out (Keeps.refl _ _)).no ((Keeps.refl _ w).alloc (.cells #[.int .i64 0,.string ⟨#[]⟩,.string ⟨#[]⟩,.int .i64 0,.bool false,.int .u64 0,.string ⟨#[]⟩,.bool false,.int .u64 0,.pointer none,.pointer none,.pointer none,.slice none 0 0] 132)))
 generalize w.alloc (.cells #[.int .i64 0,.string ⟨#[]⟩,.string ⟨#[]⟩,.int .i64 0,.bool false,.int .u64 0,.string ⟨#[]⟩,.bool false,.int .u64 0,.pointer none,.pointer none,.pointer none,.slice none 0 0] 132)=w1 at hnw HA1 ⊢
 obtain ⟨N,hN⟩:∃ n,w.heap.size=n:=⟨_,rfl⟩
 have HWN:Hid (w.heap.size≤N∧K.B≤N):=zz ⟨by omega,by have:=HS.out.ord.2.2.2; omega⟩
 rw [hN] at hnw ⊢
 have HN1:=zz (Nod.bare (Nat.le_refl N) hnw)
 clear hnw hN
 go_wp2_with fail
 refine (HPK.out w1 HA1.out.p).mono ?_
 rintro e w2 ⟨rfl,hk⟩
 have HA2:=zz (HA1.out.no hk)
 have HN2:=zz (HN1.out.1.no hk)
 have HH2:=zz (HN1.out.2.no hk)
 clear hk
 go_wp2_with fail
 have hb:=choice_any K f HIH.out σ σ w w2 N HS.out HA2.out HWN.out.1 ⟨HN2.out,HH2.out⟩ HI.out HF.out
 unfold FillC at hb
 refine hb.mono ?_
 clear hb
 rintro e' w3 ⟨rfl,hat,hsm⟩
 have HA3:=zz hat
 have HX3:=zz hsm
 clear hat hsm
 go_wp2_with fail
 go_returns
 rw [HM.out]
 exact ⟨_,rfl,HA3.out,fun hc=>(HX3.out hc).mono HWN.out.1⟩
theorem word_break (K:Pk) (f:Nat) (hS:∀ g,g≤f→StmtC K g) (σ:Sy.St) (w:World) (h:PS w K σ) (hi:σ.at_ < K.C.T.length) (hf:10 * rem K σ+6≤f+1) (h1:Sy.isM K.C σ ⟨#[105,102]⟩=false) (h2:Sy.isM K.C σ ⟨#[119,104,105,108,101]⟩=false) (h3:Sy.isM K.C σ ⟨#[100,111]⟩=false) (h4:Sy.isM K.C σ ⟨#[102,111,114]⟩=false) (h5:Sy.isM K.C σ ⟨#[115,119,105,116,99,104]⟩=false) (h6:Sy.isM K.C σ ⟨#[98,114,101,97,107]⟩=true) :
    Calls Tryz.prog 147 #[.pointer (some ⟨K.P,0,none⟩)] w (SmPost w K (Sy.wordM K.C f σ)):=by
 have hle:=h.le
 have HS:=zz h
 have HIH:=zz hS
 have HI:=zz hi
 have HF:=zz hf
 obtain ⟨t,ht⟩:∃ t,Sy.peekM K.C σ 0=t:=⟨_,rfl⟩
 have htx:Sy.txt K.C σ=t.text:=by unfold Sy.txt; rw [ht]
 have HPK:=zz (fun W (hs:PS W K σ)=>peek_as K σ 0 (by omega) t ht 0 rfl W hs)
 have f2:=fun W=>(tk_fld t.kind t.at_ t.text t.suf t.num t.hex W).2.2
 have q1:(t.text.toList == [105,102])=false:=by have e:=h1; rw [is_txt,htx] at e; exact e
 have q2:(t.text.toList == [119,104,105,108,101])=false:=by have e:=h2; rw [is_txt,htx] at e; exact e
 have q3:(t.text.toList == [100,111])=false:=by have e:=h3; rw [is_txt,htx] at e; exact e
 have q4:(t.text.toList == [102,111,114])=false:=by have e:=h4; rw [is_txt,htx] at e; exact e
 have q5:(t.text.toList == [115,119,105,116,99,104])=false:=by have e:=h5; rw [is_txt,htx] at e; exact e
 have q6:(t.text.toList == [98,114,101,97,107])=true:=by have e:=h6; rw [is_txt,htx] at e; exact e
 have HM:Hid (Sy.wordM K.C f σ=(.mk 11 Sy.vr0 Sy.nt false 0 none none none [],Sy.wantM K.C (Sy.nextM K.C σ) ⟨#[59]⟩)):=zz (by
     unfold Sy.wordM
     simp only [h1,h2,h3,h4,h5,h6,if_true,if_neg (show ¬ (false=true) by decide)])
 clear hle h hS hi hf ht htx h1 h2 h3 h4 h5 h6
 go_enter Tryz.func147,Tryz.ntmps147
 go_upto_region 2 with fail
 have hnw:(w.alloc (.cells #[.int .i64 0,.string ⟨#[]⟩,.string ⟨#[]⟩,.int .i64 0,.bool false,.int .u64 0,.string ⟨#[]⟩,.bool false,.int .u64 0,.pointer none,.pointer none,.pointer none,.slice none 0 0] 132)).heap[w.heap.size]?=some (.cells (smRow 0 Sy.vr0 Sy.nt false 0 none none none (.slice none 0 0)) 132 (0,0)):=heap_alloc_new _ _
 have HA1:=zz ((At.of_no HS.out (Keeps.refl _ _)).no ((Keeps.refl _ w).alloc (.cells #[.int .i64 0,.string ⟨#[]⟩,.string ⟨#[]⟩,.int .i64 0,.bool false,.int .u64 0,.string ⟨#[]⟩,.bool false,.int .u64 0,.pointer none,.pointer none,.pointer none,.slice none 0 0] 132)))
 generalize w.alloc (.cells #[.int .i64 0,.string ⟨#[]⟩,.string ⟨#[]⟩,.int .i64 0,.bool false,.int .u64 0,.string ⟨#[]⟩,.bool false,.int .u64 0,.pointer none,.pointer none,.pointer none,.slice none 0 0] 132)=w1 at hnw HA1 ⊢
 obtain ⟨N,hN⟩:∃ n,w.heap.size=n:=⟨_,rfl⟩
 have HWN:Hid (w.heap.size≤N∧K.B≤N):=zz ⟨by omega,by have:=HS.out.ord.2.2.2; omega⟩
 rw [hN] at hnw ⊢
 have HN1:=zz (Nod.bare (Nat.le_refl N) hnw)
 clear hnw hN
 go_wp2_with fail
 refine (HPK.out w1 HA1.out.p).mono ?_
 rintro e w2 ⟨rfl,hk⟩
 have HA2:=zz (HA1.out.no hk)
 have HN2:=zz (HN1.out.1.no hk)
 have HH2:=zz (HN1.out.2.no hk)
 clear hk
 go_wp2_with fail
 refine (plain_any K σ N 11 w2 HA2.out.p HWN.out.2 ⟨HN2.out,HH2.out⟩).mono ?_
 rintro e' w3 ⟨rfl,hat,hsm⟩
 have HA3:=zz (HA2.out.viaV hat HWN.out.1)
 have HX3:=zz hsm
 clear hat hsm
 go_wp2_with fail
 go_returns
 rw [HM.out]
 exact ⟨_,rfl,HA3.out,fun hc=>(HX3.out hc).mono HWN.out.1⟩
theorem word_continue (K:Pk) (f:Nat) (hS:∀ g,g≤f→StmtC K g) (σ:Sy.St) (w:World) (h:PS w K σ) (hi:σ.at_ < K.C.T.length) (hf:10 * rem K σ+6≤f+1) (h1:Sy.isM K.C σ ⟨#[105,102]⟩=false) (h2:Sy.isM K.C σ ⟨#[119,104,105,108,101]⟩=false) (h3:Sy.isM K.C σ ⟨#[100,111]⟩=false) (h4:Sy.isM K.C σ ⟨#[102,111,114]⟩=false) (h5:Sy.isM K.C σ ⟨#[115,119,105,116,99,104]⟩=false) (h6:Sy.isM K.C σ ⟨#[98,114,101,97,107]⟩=false) (h7:Sy.isM K.C σ ⟨#[99,111,110,116,105,110,117,101]⟩=true) :
    Calls Tryz.prog 147 #[.pointer (some ⟨K.P,0,none⟩)] w (SmPost w K (Sy.wordM K.C f σ)):=by
 have hle:=h.le
 have HS:=zz h
 have HIH:=zz hS
 have HI:=zz hi
 have HF:=zz hf
 obtain ⟨t,ht⟩:∃ t,Sy.peekM K.C σ 0=t:=⟨_,rfl⟩
 have htx:Sy.txt K.C σ=t.text:=by unfold Sy.txt; rw [ht]
 have HPK:=zz (fun W (hs:PS W K σ)=>peek_as K σ 0 (by omega) t ht 0 rfl W hs)
 have f2:=fun W=>(tk_fld t.kind t.at_ t.text t.suf t.num t.hex W).2.2
 have q1:(t.text.toList == [105,102])=false:=by have e:=h1; rw [is_txt,htx] at e; exact e
 have q2:(t.text.toList == [119,104,105,108,101])=false:=by have e:=h2; rw [is_txt,htx] at e; exact e
 have q3:(t.text.toList == [100,111])=false:=by have e:=h3; rw [is_txt,htx] at e; exact e
 have q4:(t.text.toList == [102,111,114])=false:=by have e:=h4; rw [is_txt,htx] at e; exact e
 have q5:(t.text.toList == [115,119,105,116,99,104])=false:=by have e:=h5; rw [is_txt,htx] at e; exact e
 have q6:(t.text.toList == [98,114,101,97,107])=false:=by have e:=h6; rw [is_txt,htx] at e; exact e
 have q7:(t.text.toList == [99,111,110,116,105,110,117,101])=true:=by have e:=h7; rw [is_txt,htx] at e; exact e
 have HM:Hid (Sy.wordM K.C f σ=(.mk 12 Sy.vr0 Sy.nt false 0 none none none [],Sy.wantM K.C (Sy.nextM K.C σ) ⟨#[59]⟩)):=zz (by
     unfold Sy.wordM
     simp only [h1,h2,h3,h4,h5,h6,h7,if_true,if_neg (show ¬ (false=true) by decide)])
 clear hle h hS hi hf ht htx h1 h2 h3 h4 h5 h6 h7
 go_enter Tryz.func147,Tryz.ntmps147
 go_upto_region 2 with fail
 have hnw:(w.alloc (.cells #[.int .i64 0,.string ⟨#[]⟩,.string ⟨#[]⟩,.int .i64 0,.bool false,.int .u64 0,.string ⟨#[]⟩,.bool false,.int .u64 0,.pointer none,.pointer none,.pointer none,.slice none 0 0] 132)).heap[w.heap.size]?=some (.cells (smRow 0 Sy.vr0 Sy.nt false 0 none none none (.slice none 0 0)) 132 (0,0)):=heap_alloc_new _ _
 have HA1:=zz ((At.of_no HS.out (Keeps.refl _ _)).no ((Keeps.refl _ w).alloc (.cells #[.int .i64 0,.string ⟨#[]⟩,.string ⟨#[]⟩,.int .i64 0,.bool false,.int .u64 0,.string ⟨#[]⟩,.bool false,.int .u64 0,.pointer none,.pointer none,.pointer none,.slice none 0 0] 132)))
 generalize w.alloc (.cells #[.int .i64 0,.string ⟨#[]⟩,.string ⟨#[]⟩,.int .i64 0,.bool false,.int .u64 0,.string ⟨#[]⟩,.bool false,.int .u64 0,.pointer none,.pointer none,.pointer none,.slice none 0 0] 132)=w1 at hnw HA1 ⊢
 obtain ⟨N,hN⟩:∃ n,w.heap.size=n:=⟨_,rfl⟩
 have HWN:Hid (w.heap.size≤N∧K.B≤N):=zz ⟨by omega,by have:=HS.out.ord.2.2.2; omega⟩
 rw [hN] at hnw ⊢
 have HN1:=zz (Nod.bare (Nat.le_refl N) hnw)
 clear hnw hN
 go_wp2_with fail
 refine (HPK.out w1 HA1.out.p).mono ?_
 rintro e w2 ⟨rfl,hk⟩
 have HA2:=zz (HA1.out.no hk)
 have HN2:=zz (HN1.out.1.no hk)
 have HH2:=zz (HN1.out.2.no hk)
 clear hk
 go_wp2_with fail
 refine (plain_any K σ N 12 w2 HA2.out.p HWN.out.2 ⟨HN2.out,HH2.out⟩).mono ?_
 rintro e' w3 ⟨rfl,hat,hsm⟩
 have HA3:=zz (HA2.out.viaV hat HWN.out.1)
 have HX3:=zz hsm
 clear hat hsm
 go_wp2_with fail
 go_returns
 rw [HM.out]
 exact ⟨_,rfl,HA3.out,fun hc=>(HX3.out hc).mono HWN.out.1⟩
theorem word_return (K:Pk) (f:Nat) (hS:∀ g,g≤f→StmtC K g) (σ:Sy.St) (w:World) (h:PS w K σ) (hi:σ.at_ < K.C.T.length) (hf:10 * rem K σ+6≤f+1) (h1:Sy.isM K.C σ ⟨#[105,102]⟩=false) (h2:Sy.isM K.C σ ⟨#[119,104,105,108,101]⟩=false) (h3:Sy.isM K.C σ ⟨#[100,111]⟩=false) (h4:Sy.isM K.C σ ⟨#[102,111,114]⟩=false) (h5:Sy.isM K.C σ ⟨#[115,119,105,116,99,104]⟩=false) (h6:Sy.isM K.C σ ⟨#[98,114,101,97,107]⟩=false) (h7:Sy.isM K.C σ ⟨#[99,111,110,116,105,110,117,101]⟩=false) (h8:Sy.isM K.C σ ⟨#[114,101,116,117,114,110]⟩=true) :
    Calls Tryz.prog 147 #[.pointer (some ⟨K.P,0,none⟩)] w (SmPost w K (Sy.wordM K.C f σ)):=by
 have hle:=h.le
 have HS:=zz h
 have HIH:=zz hS
 have HI:=zz hi
 have HF:=zz hf
 obtain ⟨t,ht⟩:∃ t,Sy.peekM K.C σ 0=t:=⟨_,rfl⟩
 have htx:Sy.txt K.C σ=t.text:=by unfold Sy.txt; rw [ht]
 have HPK:=zz (fun W (hs:PS W K σ)=>peek_as K σ 0 (by omega) t ht 0 rfl W hs)
 have f2:=fun W=>(tk_fld t.kind t.at_ t.text t.suf t.num t.hex W).2.2
 have q1:(t.text.toList == [105,102])=false:=by have e:=h1; rw [is_txt,htx] at e; exact e
 have q2:(t.text.toList == [119,104,105,108,101])=false:=by have e:=h2; rw [is_txt,htx] at e; exact e
 have q3:(t.text.toList == [100,111])=false:=by have e:=h3; rw [is_txt,htx] at e; exact e
 have q4:(t.text.toList == [102,111,114])=false:=by have e:=h4; rw [is_txt,htx] at e; exact e
 have q5:(t.text.toList == [115,119,105,116,99,104])=false:=by have e:=h5; rw [is_txt,htx] at e; exact e
 have q6:(t.text.toList == [98,114,101,97,107])=false:=by have e:=h6; rw [is_txt,htx] at e; exact e
 have q7:(t.text.toList == [99,111,110,116,105,110,117,101])=false:=by have e:=h7; rw [is_txt,htx] at e; exact e
 have q8:(t.text.toList == [114,101,116,117,114,110])=true:=by have e:=h8; rw [is_txt,htx] at e; exact e
 have hr1:=rem_next hi
 obtain ⟨σ1,e1⟩:∃ x,Sy.nextM K.C σ=x:=⟨_,rfl⟩
 have hm1:Sy.Mo K.C σ σ1:=by rw [← e1]; exact (Sy.Mo.refl hle).next
 have HNX:=zz (fun W (hs:PS W K σ)=>next_any K σ W hs)
 rw [e1] at HNX hr1
 obtain ⟨b,hb⟩:∃ b,Sy.isM K.C σ1 ⟨#[59]⟩=b:=⟨_,rfl⟩
 have HIS:=zz (fun W (hs:PS W K σ1)=>is_as K σ1 ⟨#[59]⟩ b hb W hs)
 have HX:=zz (fun W (hs:PS W K σ1)=>exprM_any K σ1 W hs)
 have hmx:=Sy.exprM_mo (Sy.Mo.refl hm1.le)
 obtain ⟨r2,hr2⟩:∃ r,Sy.exprM K.C σ1=r:=⟨_,rfl⟩
 rw [hr2] at HX hmx
 obtain ⟨x1,φ⟩:=r2
 simp only at hmx
 have HWA:=zz (fun W (hs:PS W K σ1)=>want_any K σ1 ⟨#[59]⟩ W hs)
 have HWB:=zz (fun W (hs:PS W K φ)=>want_any K φ ⟨#[59]⟩ W hs)
 have hmA:Sy.Mo K.C σ1 (Sy.wantM K.C σ1 ⟨#[59]⟩):=(Sy.Mo.refl hm1.le).want _
 have hmB:Sy.Mo K.C φ (Sy.wantM K.C φ ⟨#[59]⟩):=(Sy.Mo.refl hmx.le).want _
 obtain ⟨ψA,hψA⟩:∃ x,Sy.wantM K.C σ1 ⟨#[59]⟩=x:=⟨_,rfl⟩
 obtain ⟨ψB,hψB⟩:∃ x,Sy.wantM K.C φ ⟨#[59]⟩=x:=⟨_,rfl⟩
 rw [hψA] at HWA hmA
 rw [hψB] at HWB hmB
 have HM:Hid (Sy.wordM K.C f σ=if b=true then (.mk 13 Sy.vr0 Sy.nt false 0 none none none [],ψA) else (.mk 13 Sy.vr0 Sy.nt false 0 (some x1) none none [],ψB)):=zz (by
     unfold Sy.wordM
     simp only [h1,h2,h3,h4,h5,h6,h7,h8,if_true,if_neg (show ¬ (false=true) by decide)]
     unfold Sy.partM
     cases b
     · simp only [e1,hb,hr2,hψB,if_neg (show ¬ (false=true) by decide)]
     · simp only [e1,hb,hψA,if_true])
 have HCA:Hid (ψA.code=0→σ1.code=0):=zz hmA.code
 have HCB:Hid (ψB.code=0→φ.code=0):=zz hmB.code
 have HCX:Hid (φ.code=0→σ1.code=0):=zz hmx.code
 clear hle h hS hi hf ht htx h1 h2 h3 h4 h5 h6 h7 h8 hr1 e1 hm1 hb hr2 hmx hψA hψB hmA hmB
 go_enter Tryz.func147,Tryz.ntmps147
 go_upto_region 2 with fail
 have hnw:(w.alloc (.cells #[.int .i64 0,.string ⟨#[]⟩,.string ⟨#[]⟩,.int .i64 0,.bool false,.int .u64 0,.string ⟨#[]⟩,.bool false,.int .u64 0,.pointer none,.pointer none,.pointer none,.slice none 0 0] 132)).heap[w.heap.size]?=some (.cells (smRow 0 Sy.vr0 Sy.nt false 0 none none none (.slice none 0 0)) 132 (0,0)):=heap_alloc_new _ _
 have HA1:=zz ((At.of_no HS.out (Keeps.refl _ _)).no ((Keeps.refl _ w).alloc (.cells #[.int .i64 0,.string ⟨#[]⟩,.string ⟨#[]⟩,.int .i64 0,.bool false,.int .u64 0,.string ⟨#[]⟩,.bool false,.int .u64 0,.pointer none,.pointer none,.pointer none,.slice none 0 0] 132)))
 generalize w.alloc (.cells #[.int .i64 0,.string ⟨#[]⟩,.string ⟨#[]⟩,.int .i64 0,.bool false,.int .u64 0,.string ⟨#[]⟩,.bool false,.int .u64 0,.pointer none,.pointer none,.pointer none,.slice none 0 0] 132)=w1 at hnw HA1 ⊢
 obtain ⟨N,hN⟩:∃ n,w.heap.size=n:=⟨_,rfl⟩
 have HWN:Hid (w.heap.size≤N∧K.B≤N):=zz ⟨by omega,by have:=HS.out.ord.2.2.2; omega⟩
 rw [hN] at hnw ⊢
 have HN1:=zz (Nod.bare (Nat.le_refl N) hnw)
 clear hnw hN
 go_wp2_with fail
 refine (HPK.out w1 HA1.out.p).mono ?_
 rintro e w2 ⟨rfl,hk⟩
 have HA2:=zz (HA1.out.no hk)
 have HN2:=zz (HN1.out.1.no hk)
 have HH2:=zz (HN1.out.2.no hk)
 clear hk
 go_wp2_with fail
 refine (HNX.out w2 HA2.out.p).mono ?_
 rintro e w3 ⟨rfl,hat⟩
 have HA3:=zz (HA2.out.trans hat)
 have HN3:=zz (HN2.out.at_ hat HWN.out.2)
 have HH3:=zz (HH2.out.at_ hat HWN.out.2)
 clear hat
 have y0:w3.cell? ⟨N,0,none⟩=some (.int .i64 0):=HN3.out.c (j:=0) rfl
 have z0:w3.frozen? ⟨N,0,none⟩=false:=HN3.out.f 0
 go_upto_region 29 with fail
 have HA4:=zz (HA3.out.newR HS.out ((Keeps.refl (fun q=>q=N) w3).setCell (p:=⟨N,0,none⟩) (.inl rfl) (.int .i64 13)) HWN.out.1)
 have HN4:=zz (HN3.out.set_kind 13)
 have HH4:=zz (fun (_:σ1.code=0)=>HH3.out.setc 0 (.int .i64 13))
 generalize w3.setCell ⟨N,0,none⟩ (.int .i64 13)=w4 at HA4 HN4 HH4 ⊢
 clear y0 z0
 go_wp2_with fail
 refine (HIS.out w4 HA4.out.p).mono ?_
 rintro e' w5 ⟨rfl,hk⟩
 have HA5:=zz (HA4.out.no hk)
 have HN5:=zz (HN4.out.no hk)
 have HH5:=zz (fun (hc:σ1.code=0)=>(HH4.out hc).no hk)
 clear hk
 cases b with
 | true =>
   go_wp2_with fail
   refine (HWA.out w5 HA5.out.p).mono ?_
   rintro e' w6 ⟨rfl,hat⟩
   have HA6:=zz (HA5.out.trans hat)
   have HX6:=zz (fun (hc:ψA.code=0)=>(HN5.out.at_ hat HWN.out.2).fin ((HH5.out (HCA.out hc)).at_ hat HWN.out.2))
   clear hat
   go_wp2_with fail
   go_returns
   rw [HM.out]
   exact ⟨_,rfl,HA6.out,fun hc=>(HX6.out hc).mono HWN.out.1⟩
 | false =>
   go_upto_region 30 with fail
   have hne:Nonempty (KS (PE K N) w5):=⟨⟨w5,Keeps.refl _ _⟩⟩
   refine Mix.wp_region_mix (fun W'=>∃ u:KS (PE K N) w5,W'=u.W) [] (by kernel_rfl) ?_
   have HV0:Hid (Keeps No w5 w5.drew):=zz ((Keeps.refl _ w5).drew)
   generalize w5.drew=v0 at HV0 ⊢
   have HC0:Hid (Keeps (PE K N) w5 v0):=zz (HV0.out.mono (fun _ _ e=>e.elim))
   have HAV0:=zz (HA5.out.no HV0.out)
   have HNV0:=zz (HN5.out.no HV0.out)
   have HHV0:=zz (fun hc=>(HH5.out hc).no HV0.out)
   refine Mix.mix_seg 0 2 5 (by kernel_rfl) (by kernel_rfl) rfl rfl ⟨⟨v0,HC0.out⟩,rfl⟩ ?_
   simp only [List.drop_succ_cons,List.drop_zero,List.take_succ_cons,List.take_zero]
   repeat (go_big_quiet_step (fail))
   refine wpQuiet_nil ?_
   refine Mix.mix_seg 3 2 3 (by kernel_rfl) (by kernel_rfl) rfl rfl ⟨⟨v0,HC0.out⟩,rfl⟩ ?_
   simp only [List.drop_succ_cons,List.drop_zero,List.take_succ_cons,List.take_zero]
   repeat (go_big_quiet_step (fail))
   refine wpQuiet_nil ?_
   refine Mix.mix_one 2 2 (by kernel_rfl) rfl rfl ?_
   simp only [List.drop_succ_cons,List.drop_zero,List.take_succ_cons,List.take_zero]
   go_wp2_with fail
   refine (HX.out v0 HAV0.out.p).mono ?_
   rintro e' v1 ⟨a1,rfl,hat,hex⟩
   have HC1:Hid (Keeps (PE K N) w5 v1):=zz (HC0.out.trans hat.k (fun q _ e=>.inl e))
   have HAV1:=zz (HAV0.out.trans hat)
   have HNV1:=zz (HNV0.out.at_ hat HWN.out.2)
   have HHV1:=zz (fun (hc:φ.code=0)=>(HHV0.out (HCX.out hc)).at_ hat HWN.out.2)
   have HOV1:Hid (φ.code=0→OpD v1 (Dc N N (.slice none 0 0)) a1 (some x1)):=zz (fun hc=>.some (ExD.mono (hex hc) (fun q _ hd=>by
    have h1:v0.heap.size≤q:=hd
    have h2:=HNV0.out.lt
    exact ⟨by omega,by omega,fun e=>nomatch e⟩)))
   clear hat hex
   go_wp2_with fail
   refine ⟨.inr ⟨⟨v1,HC1.out⟩,rfl⟩,?_⟩
   refine Mix.mix_one 5 1 (by kernel_rfl) rfl rfl ?_
   simp only [List.drop_succ_cons,List.drop_zero,List.take_succ_cons,List.take_zero]
   go_wp2_with fail
   refine ⟨.inr ⟨⟨v1,HC1.out⟩,rfl⟩,?_⟩
   refine Mix.mix_one 6 0 (by kernel_rfl) rfl rfl ?_
   simp only [List.drop_succ_cons,List.drop_zero,List.take_succ_cons,List.take_zero]
   have y9:v1.cell? ⟨N,9,none⟩=some (.pointer none):=HNV1.out.c (j:=9) rfl
   have z9:v1.frozen? ⟨N,9,none⟩=false:=HNV1.out.f 9
   go_wp2_with fail
   have HA6:=zz (HAV1.out.newR HS.out ((Keeps.refl (fun q=>q=N) v1).setCell (p:=⟨N,9,none⟩) (.inl rfl) (.pointer a1)) HWN.out.1)
   have HN6:=zz (HNV1.out.set_p0 a1)
   have HH6:=zz (fun (hc:φ.code=0)=>((HHV1.out hc).put0 (HOV1.out hc)).setc 9 (.pointer a1))
   have HC2:Hid (Keeps (PE K N) w5 (v1.setCell ⟨N,9,none⟩ (.pointer a1))):=zz (Keeps.setCell (S:=PE K N) HC1.out (.inl (.inr rfl)) _)
   generalize v1.setCell ⟨N,9,none⟩ (.pointer a1)=w6 at HC2 HA6 HN6 HH6 ⊢
   clear y9 z9 hne
   refine ⟨.inr ⟨⟨w6,HC2.out⟩,rfl⟩,?_⟩
   refine Mix.mix_end (by kernel_rfl) ?_
   go_wp2_with fail
   refine (HWB.out w6 HA6.out.p).mono ?_
   rintro e' w7 ⟨rfl,hat⟩
   have HA7:=zz (HA6.out.trans hat)
   have HX7:=zz (fun (hc:ψB.code=0)=>(HN6.out.at_ hat HWN.out.2).fin ((HH6.out (HCB.out hc)).at_ hat HWN.out.2))
   clear hat
   go_wp2_with fail
   go_returns
   rw [HM.out]
   exact ⟨_,rfl,HA7.out,fun hc=>(HX7.out hc).mono HWN.out.1⟩
theorem word_goto (K:Pk) (f:Nat) (hS:∀ g,g≤f→StmtC K g) (σ:Sy.St) (w:World) (h:PS w K σ) (hi:σ.at_ < K.C.T.length) (hf:10 * rem K σ+6≤f+1) (h1:Sy.isM K.C σ ⟨#[105,102]⟩=false) (h2:Sy.isM K.C σ ⟨#[119,104,105,108,101]⟩=false) (h3:Sy.isM K.C σ ⟨#[100,111]⟩=false) (h4:Sy.isM K.C σ ⟨#[102,111,114]⟩=false) (h5:Sy.isM K.C σ ⟨#[115,119,105,116,99,104]⟩=false) (h6:Sy.isM K.C σ ⟨#[98,114,101,97,107]⟩=false) (h7:Sy.isM K.C σ ⟨#[99,111,110,116,105,110,117,101]⟩=false) (h8:Sy.isM K.C σ ⟨#[114,101,116,117,114,110]⟩=false) (h9:Sy.isM K.C σ ⟨#[103,111,116,111]⟩=true) :
    Calls Tryz.prog 147 #[.pointer (some ⟨K.P,0,none⟩)] w (SmPost w K (Sy.wordM K.C f σ)):=by
 have hle:=h.le
 have HS:=zz h
 have HIH:=zz hS
 have HI:=zz hi
 have HF:=zz hf
 obtain ⟨t,ht⟩:∃ t,Sy.peekM K.C σ 0=t:=⟨_,rfl⟩
 have htx:Sy.txt K.C σ=t.text:=by unfold Sy.txt; rw [ht]
 have HPK:=zz (fun W (hs:PS W K σ)=>peek_as K σ 0 (by omega) t ht 0 rfl W hs)
 have f2:=fun W=>(tk_fld t.kind t.at_ t.text t.suf t.num t.hex W).2.2
 have q1:(t.text.toList == [105,102])=false:=by have e:=h1; rw [is_txt,htx] at e; exact e
 have q2:(t.text.toList == [119,104,105,108,101])=false:=by have e:=h2; rw [is_txt,htx] at e; exact e
 have q3:(t.text.toList == [100,111])=false:=by have e:=h3; rw [is_txt,htx] at e; exact e
 have q4:(t.text.toList == [102,111,114])=false:=by have e:=h4; rw [is_txt,htx] at e; exact e
 have q5:(t.text.toList == [115,119,105,116,99,104])=false:=by have e:=h5; rw [is_txt,htx] at e; exact e
 have q6:(t.text.toList == [98,114,101,97,107])=false:=by have e:=h6; rw [is_txt,htx] at e; exact e
 have q7:(t.text.toList == [99,111,110,116,105,110,117,101])=false:=by have e:=h7; rw [is_txt,htx] at e; exact e
 have q8:(t.text.toList == [114,101,116,117,114,110])=false:=by have e:=h8; rw [is_txt,htx] at e; exact e
 have q9:(t.text.toList == [103,111,116,111])=true:=by have e:=h9; rw [is_txt,htx] at e; exact e
 have hr1:=rem_next hi
 obtain ⟨σ1,e1⟩:∃ x,Sy.nextM K.C σ=x:=⟨_,rfl⟩
 have hm1:Sy.Mo K.C σ σ1:=by rw [← e1]; exact (Sy.Mo.refl hle).next
 have HNX:=zz (fun W (hs:PS W K σ)=>next_any K σ W hs)
 rw [e1] at HNX hr1
 have HNA:=zz (fun W (hs:PS W K σ1)=>name_any K σ1 W hs)
 obtain ⟨r2,hr2⟩:∃ r,Sy.nameM K.C σ1=r:=⟨_,rfl⟩
 have hm2:Sy.Mo K.C σ1 r2.2:=by rw [← hr2]; exact (Sy.Mo.refl hm1.le).name
 rw [hr2] at HNA
 obtain ⟨nm,φ⟩:=r2
 simp only at hm2 HNA
 have HW:=zz (fun W (hs:PS W K φ)=>want_any K φ ⟨#[59]⟩ W hs)
 obtain ⟨ψ,hψ⟩:∃ x,Sy.wantM K.C φ ⟨#[59]⟩=x:=⟨_,rfl⟩
 have hm3:Sy.Mo K.C φ ψ:=by rw [← hψ]; exact (Sy.Mo.refl hm2.le).want _
 rw [hψ] at HW
 have HM:Hid (Sy.wordM K.C f σ=(.mk 14 Sy.vr0 nm false 0 none none none [],ψ)):=zz (by
     unfold Sy.wordM
     simp only [h1,h2,h3,h4,h5,h6,h7,h8,h9,if_true,if_neg (show ¬ (false=true) by decide)]
     simp only [e1,hr2,hψ])
 clear hle h hS hi hf ht htx h1 h2 h3 h4 h5 h6 h7 h8 h9 hr1 e1 hm1 hr2 hm2 hψ hm3
 go_enter Tryz.func147,Tryz.ntmps147
 go_upto_region 2 with fail
 have hnw:(w.alloc (.cells #[.int .i64 0,.string ⟨#[]⟩,.string ⟨#[]⟩,.int .i64 0,.bool false,.int .u64 0,.string ⟨#[]⟩,.bool false,.int .u64 0,.pointer none,.pointer none,.pointer none,.slice none 0 0] 132)).heap[w.heap.size]?=some (.cells (smRow 0 Sy.vr0 Sy.nt false 0 none none none (.slice none 0 0)) 132 (0,0)):=heap_alloc_new _ _
 have HA1:=zz ((At.of_no HS.out (Keeps.refl _ _)).no ((Keeps.refl _ w).alloc (.cells #[.int .i64 0,.string ⟨#[]⟩,.string ⟨#[]⟩,.int .i64 0,.bool false,.int .u64 0,.string ⟨#[]⟩,.bool false,.int .u64 0,.pointer none,.pointer none,.pointer none,.slice none 0 0] 132)))
 generalize w.alloc (.cells #[.int .i64 0,.string ⟨#[]⟩,.string ⟨#[]⟩,.int .i64 0,.bool false,.int .u64 0,.string ⟨#[]⟩,.bool false,.int .u64 0,.pointer none,.pointer none,.pointer none,.slice none 0 0] 132)=w1 at hnw HA1 ⊢
 obtain ⟨N,hN⟩:∃ n,w.heap.size=n:=⟨_,rfl⟩
 have HWN:Hid (w.heap.size≤N∧K.B≤N):=zz ⟨by omega,by have:=HS.out.ord.2.2.2; omega⟩
 rw [hN] at hnw ⊢
 have HN1:=zz (Nod.bare (Nat.le_refl N) hnw)
 clear hnw hN
 go_wp2_with fail
 refine (HPK.out w1 HA1.out.p).mono ?_
 rintro e w2 ⟨rfl,hk⟩
 have HA2:=zz (HA1.out.no hk)
 have HN2:=zz (HN1.out.1.no hk)
 have HH2:=zz (HN1.out.2.no hk)
 clear hk
 go_wp2_with fail
 refine (HNX.out w2 HA2.out.p).mono ?_
 rintro e w3 ⟨rfl,hat⟩
 have HA3:=zz (HA2.out.trans hat)
 have HN3:=zz (HN2.out.at_ hat HWN.out.2)
 have HH3:=zz (HH2.out.at_ hat HWN.out.2)
 clear hat
 have y0x:w3.cell? ⟨N,0,none⟩=some (.int .i64 0):=HN3.out.c (j:=0) rfl
 have z0x:w3.frozen? ⟨N,0,none⟩=false:=HN3.out.f 0
 clear y0x z0x
 go_wp2_with fail
 refine (HNA.out w3 HA3.out.p).mono ?_
 rintro e' w4 ⟨rfl,hat⟩
 have HA4:=zz (HA3.out.trans hat)
 have HN4:=zz (HN3.out.at_ hat HWN.out.2)
 have HH4:=zz (HH3.out.at_ hat HWN.out.2)
 clear hat
 have y0:w4.cell? ⟨N,0,none⟩=some (.int .i64 0):=HN4.out.c (j:=0) rfl
 have z0:w4.frozen? ⟨N,0,none⟩=false:=HN4.out.f 0
 have y6:w4.cell? ⟨N,6,none⟩=some (.string Sy.nt):=HN4.out.c (j:=6) rfl
 have z6:w4.frozen? ⟨N,6,none⟩=false:=HN4.out.f 6
 go_upto_region 35 with fail
 have HA5:=zz (HA4.out.newR HS.out (((Keeps.refl (fun q=>q=N) w4).setCell (p:=⟨N,0,none⟩) (.inl rfl) (.int .i64 14)).setCell (p:=⟨N,6,none⟩) (.inl rfl) (.string nm)) HWN.out.1)
 have HN5:=zz ((HN4.out.set_kind 14).set_name nm)
 have HH5:=zz ((HH4.out.setc 0 (.int .i64 14)).setc 6 (.string nm))
 generalize (w4.setCell ⟨N,0,none⟩ (.int .i64 14)).setCell ⟨N,6,none⟩ (.string nm)=w5 at HA5 HN5 HH5 ⊢
 clear y0 z0 y6 z6
 go_wp2_with fail
 refine (HW.out w5 HA5.out.p).mono ?_
 rintro e' w6 ⟨rfl,hat⟩
 have HA6:=zz (HA5.out.trans hat)
 have HX6:=zz (fun (_:ψ.code=0)=>(HN5.out.at_ hat HWN.out.2).fin (HH5.out.at_ hat HWN.out.2))
 clear hat
 go_wp2_with fail
 go_returns
 rw [HM.out]
 exact ⟨_,rfl,HA6.out,fun hc=>(HX6.out hc).mono HWN.out.1⟩
theorem word_none (K:Pk) (f:Nat) (hS:∀ g,g≤f→StmtC K g) (σ:Sy.St) (w:World) (h:PS w K σ) (hi:σ.at_ < K.C.T.length) (hf:10 * rem K σ+6≤f+1) (h1:Sy.isM K.C σ ⟨#[105,102]⟩=false) (h2:Sy.isM K.C σ ⟨#[119,104,105,108,101]⟩=false) (h3:Sy.isM K.C σ ⟨#[100,111]⟩=false) (h4:Sy.isM K.C σ ⟨#[102,111,114]⟩=false) (h5:Sy.isM K.C σ ⟨#[115,119,105,116,99,104]⟩=false) (h6:Sy.isM K.C σ ⟨#[98,114,101,97,107]⟩=false) (h7:Sy.isM K.C σ ⟨#[99,111,110,116,105,110,117,101]⟩=false) (h8:Sy.isM K.C σ ⟨#[114,101,116,117,114,110]⟩=false) (h9:Sy.isM K.C σ ⟨#[103,111,116,111]⟩=false) :
    Calls Tryz.prog 147 #[.pointer (some ⟨K.P,0,none⟩)] w (SmPost w K (Sy.wordM K.C f σ)):=by
 have hle:=h.le
 have HS:=zz h
 have HIH:=zz hS
 have HI:=zz hi
 have HF:=zz hf
 obtain ⟨t,ht⟩:∃ t,Sy.peekM K.C σ 0=t:=⟨_,rfl⟩
 have htx:Sy.txt K.C σ=t.text:=by unfold Sy.txt; rw [ht]
 have HPK:=zz (fun W (hs:PS W K σ)=>peek_as K σ 0 (by omega) t ht 0 rfl W hs)
 have f2:=fun W=>(tk_fld t.kind t.at_ t.text t.suf t.num t.hex W).2.2
 have q1:(t.text.toList == [105,102])=false:=by have e:=h1; rw [is_txt,htx] at e; exact e
 have q2:(t.text.toList == [119,104,105,108,101])=false:=by have e:=h2; rw [is_txt,htx] at e; exact e
 have q3:(t.text.toList == [100,111])=false:=by have e:=h3; rw [is_txt,htx] at e; exact e
 have q4:(t.text.toList == [102,111,114])=false:=by have e:=h4; rw [is_txt,htx] at e; exact e
 have q5:(t.text.toList == [115,119,105,116,99,104])=false:=by have e:=h5; rw [is_txt,htx] at e; exact e
 have q6:(t.text.toList == [98,114,101,97,107])=false:=by have e:=h6; rw [is_txt,htx] at e; exact e
 have q7:(t.text.toList == [99,111,110,116,105,110,117,101])=false:=by have e:=h7; rw [is_txt,htx] at e; exact e
 have q8:(t.text.toList == [114,101,116,117,114,110])=false:=by have e:=h8; rw [is_txt,htx] at e; exact e
 have q9:(t.text.toList == [103,111,116,111])=false:=by have e:=h9; rw [is_txt,htx] at e; exact e
 have HLO:=zz (fun W (hs:PS W K σ)=>lost_any K σ W hs)
 have HM:Hid (Sy.wordM K.C f σ=(Sy.sm0,Sy.lostM K.C σ)):=zz (by
     unfold Sy.wordM
     simp only [h1,h2,h3,h4,h5,h6,h7,h8,h9,if_true,if_neg (show ¬ (false=true) by decide)])
 obtain ⟨ψ,hψ⟩:∃ x,Sy.lostM K.C σ=x:=⟨_,rfl⟩
 rw [hψ] at HLO HM
 clear hle h hS hi hf ht htx h1 h2 h3 h4 h5 h6 h7 h8 h9 hψ
 go_enter Tryz.func147,Tryz.ntmps147
 go_upto_region 2 with fail
 have hnw:(w.alloc (.cells #[.int .i64 0,.string ⟨#[]⟩,.string ⟨#[]⟩,.int .i64 0,.bool false,.int .u64 0,.string ⟨#[]⟩,.bool false,.int .u64 0,.pointer none,.pointer none,.pointer none,.slice none 0 0] 132)).heap[w.heap.size]?=some (.cells (smRow 0 Sy.vr0 Sy.nt false 0 none none none (.slice none 0 0)) 132 (0,0)):=heap_alloc_new _ _
 have HA1:=zz ((At.of_no HS.out (Keeps.refl _ _)).no ((Keeps.refl _ w).alloc (.cells #[.int .i64 0,.string ⟨#[]⟩,.string ⟨#[]⟩,.int .i64 0,.bool false,.int .u64 0,.string ⟨#[]⟩,.bool false,.int .u64 0,.pointer none,.pointer none,.pointer none,.slice none 0 0] 132)))
 generalize w.alloc (.cells #[.int .i64 0,.string ⟨#[]⟩,.string ⟨#[]⟩,.int .i64 0,.bool false,.int .u64 0,.string ⟨#[]⟩,.bool false,.int .u64 0,.pointer none,.pointer none,.pointer none,.slice none 0 0] 132)=w1 at hnw HA1 ⊢
 obtain ⟨N,hN⟩:∃ n,w.heap.size=n:=⟨_,rfl⟩
 have HWN:Hid (w.heap.size≤N∧K.B≤N):=zz ⟨by omega,by have:=HS.out.ord.2.2.2; omega⟩
 rw [hN] at hnw ⊢
 have HN1:=zz (Nod.bare (Nat.le_refl N) hnw)
 clear hnw hN
 go_wp2_with fail
 refine (HPK.out w1 HA1.out.p).mono ?_
 rintro e w2 ⟨rfl,hk⟩
 have HA2:=zz (HA1.out.no hk)
 have HN2:=zz (HN1.out.1.no hk)
 have HH2:=zz (HN1.out.2.no hk)
 clear hk
 go_wp2_with fail
 refine (HLO.out w2 HA2.out.p).mono ?_
 rintro e' w3 ⟨rfl,hat⟩
 have HA3:=zz (HA2.out.trans hat)
 have HX3:=zz (fun (_:ψ.code=0)=>(HN2.out.at_ hat HWN.out.2).fin (HH2.out.at_ hat HWN.out.2))
 clear hat
 go_wp2_with fail
 go_returns
 rw [HM.out]
 exact ⟨_,rfl,HA3.out,fun hc=>(HX3.out hc).mono HWN.out.1⟩
theorem worded_any (K:Pk) (f:Nat) (hS:∀ g,g≤f→StmtC K g) (σ:Sy.St) (w:World) (h:PS w K σ) (hi:σ.at_ < K.C.T.length) (hf:10 * rem K σ+6≤f+1) :
    Calls Tryz.prog 147 #[.pointer (some ⟨K.P,0,none⟩)] w (SmPost w K (Sy.wordM K.C f σ)):=by
 by_cases h1:Sy.isM K.C σ ⟨#[105,102]⟩=true
 · exact word_if K f hS σ w h hi hf h1
 rw [Bool.not_eq_true] at h1
 by_cases h2:Sy.isM K.C σ ⟨#[119,104,105,108,101]⟩=true
 · exact word_while K f hS σ w h hi hf h1 h2
 rw [Bool.not_eq_true] at h2
 by_cases h3:Sy.isM K.C σ ⟨#[100,111]⟩=true
 · exact word_do K f hS σ w h hi hf h1 h2 h3
 rw [Bool.not_eq_true] at h3
 by_cases h4:Sy.isM K.C σ ⟨#[102,111,114]⟩=true
 · exact word_for K f hS σ w h hi hf h1 h2 h3 h4
 rw [Bool.not_eq_true] at h4
 by_cases h5:Sy.isM K.C σ ⟨#[115,119,105,116,99,104]⟩=true
 · exact word_switch K f hS σ w h hi hf h1 h2 h3 h4 h5
 rw [Bool.not_eq_true] at h5
 by_cases h6:Sy.isM K.C σ ⟨#[98,114,101,97,107]⟩=true
 · exact word_break K f hS σ w h hi hf h1 h2 h3 h4 h5 h6
 rw [Bool.not_eq_true] at h6
 by_cases h7:Sy.isM K.C σ ⟨#[99,111,110,116,105,110,117,101]⟩=true
 · exact word_continue K f hS σ w h hi hf h1 h2 h3 h4 h5 h6 h7
 rw [Bool.not_eq_true] at h7
 by_cases h8:Sy.isM K.C σ ⟨#[114,101,116,117,114,110]⟩=true
 · exact word_return K f hS σ w h hi hf h1 h2 h3 h4 h5 h6 h7 h8
 rw [Bool.not_eq_true] at h8
 by_cases h9:Sy.isM K.C σ ⟨#[103,111,116,111]⟩=true
 · exact word_goto K f hS σ w h hi hf h1 h2 h3 h4 h5 h6 h7 h8 h9
 rw [Bool.not_eq_true] at h9
 exact word_none K f hS σ w h hi hf h1 h2 h3 h4 h5 h6 h7 h8 h9
end Go.Proofs.YtflbkdfbjofllaaGreatDoor
