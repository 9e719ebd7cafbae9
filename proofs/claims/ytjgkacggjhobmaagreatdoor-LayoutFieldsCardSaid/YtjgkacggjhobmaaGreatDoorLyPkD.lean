import Derived.Test.YtjgkacggjhobmaaGreatDoorLyPkC
set_option maxRecDepth 100000
set_option maxHeartbeats 25600000
set_option linter.unusedSimpArgs false
set_option linter.unusedVariables false
namespace Go.Proofs.YtjgkacggjhobmaaGreatDoor
open Go.RowKit Lx
abbrev PE (K:Pk) (N:Nat):Nat→Prop:=fun q=>q=K.P∨q=N
theorem prime_any (K:Pk) (σ:Sy.St) (w:World) (h:PS w K σ):Calls Tryz.prog 130 #[.pointer (some ⟨K.P,0,none⟩)] w (ExPost w K (Sy.primeM K.C σ)):=by
 have HS:=zz h;obtain ⟨t,ht⟩:∃ t,Sy.peekM K.C σ 0=t:=⟨_,rfl⟩;have HPK:=zz (peek_as K σ 0 (by omega) t ht 0 rfl w h);have HNX:=zz (fun W τ (hs:PS W K τ)=>next_any K τ W hs);have HLO:=zz (fun W (hs:PS W K σ)=>lost_any K σ W hs);obtain ⟨nn,hnn⟩:∃ nn,Sy.numberTypeM K.C σ t=nn:=⟨_,rfl⟩;have HNT:=zz (fun W (hs:PS W K σ)=>numberType_any K σ t W hs);rw [hnn] at HNT;obtain ⟨⟨tb,ts⟩,υ⟩:=nn;simp only at HNT;have HM:Hid (Sy.primeM K.C σ=if t.kind=3 then (.mk 1 Sy.nt Sy.nt ⟨tb,ts⟩ t.num false [],Sy.nextM K.C υ) else if t.kind=4 then (.mk 1 Sy.nt Sy.nt ⟨⟨#[105,51,50]⟩,0⟩ t.num false [],Sy.nextM K.C σ) else if t.kind=1 then (.mk 2 Sy.nt t.text Sy.ty0 0 false [],Sy.nextM K.C σ) else (Sy.ex0,Sy.nextM K.C (Sy.lostM K.C σ))):=zz (by
  unfold Sy.primeM;simp only [ht,hnn])
 clear h ht hnn;go_enter Tryz.func130,Tryz.ntmps130;go_wp2_with fail;refine HPK.out.mono ?_;rintro e w1 ⟨rfl,hk1⟩;have HK1:=zz hk1;clear hk1;go_upto_region 3 with fail
 obtain ⟨W,hW⟩:∃ W,(w1.alloc (.cells #[.int .i64 t.kind,.int .i64 (t.at_:Int),.string t.text,.string t.suf,.int .u64 t.num,.bool t.hex] 83)).alloc (.cells #[.int .i64 0,.string ⟨#[]⟩,.string ⟨#[]⟩,.string ⟨#[]⟩,.int .i64 0,.int .u64 0,.bool false,.slice none 0 0] 182)=W:=⟨_,rfl⟩;have hq:W.heap[w1.heap.size]?=some (.cells #[.int .i64 t.kind,.int .i64 (t.at_:Int),.string t.text,.string t.suf,.int .u64 t.num,.bool t.hex] 83 (0,0)):=by rw [← hW,Below.heap_alloc _ _ _ (by simp)]; exact heap_alloc_new _ _
 have hen:W.heap[w1.heap.size+1]?=some (.cells (exRow 0 Sy.nt Sy.nt Sy.ty0 0 false (.slice none 0 0)) 182 (0,0)):=by
  rw [← hW];have e:w1.heap.size+1=(w1.alloc (.cells #[.int .i64 t.kind,.int .i64 (t.at_:Int),.string t.text,.string t.suf,.int .u64 t.num,.bool t.hex] 83)).heap.size:=by simp
  rw [e]; exact heap_alloc_new _ _
 have HA:Hid (At w W K σ):=zz (by rw [← hW]; exact (At.of_no HS.out HK1.out).no (((Keeps.refl _ _).alloc _).alloc _));obtain ⟨Q,hQ⟩:∃ q,w1.heap.size=q:=⟨_,rfl⟩;have HNB:Hid (K.B≤Q+1∧w.heap.size≤Q+1):=zz ⟨by have:=HS.out.ord.2.2.2; have:=HK1.out.size; omega,by have:=HK1.out.size; omega⟩;have HQN:Hid (¬ PE K (Q+1) Q):=zz (fun e=>by
  have:=HS.out.lt; have:=HK1.out.size
  rcases e with e | e
  · have e2:Q=K.P:=e;omega
  · have e2:Q=Q+1:=e;omega)
 rw [hQ] at hq hen;rw [hW,hQ];obtain ⟨N,hN⟩:∃ n,Q+1=n:=⟨_,rfl⟩;rw [hN] at hen HNB HQN ⊢;have HE:=zz hen;obtain ⟨q0,q1,q2,q3,q4,q5⟩:=tk_box hq;clear hW hQ hN hq hen;have hsp:t.kind=3∨(t.kind≠3∧t.kind=4)∨(t.kind≠3∧t.kind≠4∧t.kind=1)∨(t.kind≠3∧t.kind≠4∧t.kind≠1):=by omega
 rcases hsp with hk | ⟨h3,hk⟩ | ⟨h3,h4,hk⟩ | ⟨h3,h4,h1⟩
 · have HM2:=HM.out;rw [if_pos hk] at HM2;have HM2:=zz HM2;have e3:(t.kind==3)=true:=beq_iff_eq.2 hk;obtain ⟨τ,hτ⟩:∃ τ,υ=τ:=⟨_,rfl⟩;rw [hτ] at HM2 HNT;clear hτ hk HM;go_upto_region 6 with fail
   have hne:Nonempty (KS (PE K N) W):=⟨⟨W,Keeps.refl _ _⟩⟩;refine Mix.wp_region_mix (fun W'=>∃ u:KS (PE K N) W,W'=u.W) [] (by kernel_rfl) ?_;have HV0:Hid (Keeps No W W.drew):=zz ((Keeps.refl _ W).drew);generalize W.drew=v0 at HV0 ⊢;have HC0:Hid (Keeps (PE K N) W v0):=zz (HV0.out.mono (fun _ _ e=>e.elim));have HE0:Hid (v0.heap[N]?=some (.cells (exRow 0 Sy.nt Sy.nt Sy.ty0 0 false (.slice none 0 0)) 182 (0,0))):=zz ((HV0.out.block _ (Array.getElem?_eq_some_iff.1 HE.out).1 (fun e=>e)).trans HE.out);have HP0:Hid (PS v0 K σ):=zz (HA.out.p.no HV0.out);have p0:∀ u:KS (PE K N) W,u.W.cell? ⟨Q,0,none⟩=some (.int .i64 t.kind):=fun u=>u.cell q0 HQN.out
   have p1:∀ u:KS (PE K N) W,u.W.cell? ⟨Q,1,none⟩=some (.int .i64 (t.at_:Int)):=fun u=>u.cell q1 HQN.out
   have p2:∀ u:KS (PE K N) W,u.W.cell? ⟨Q,2,none⟩=some (.string t.text):=fun u=>u.cell q2 HQN.out
   have p3:∀ u:KS (PE K N) W,u.W.cell? ⟨Q,3,none⟩=some (.string t.suf):=fun u=>u.cell q3 HQN.out
   have p4:∀ u:KS (PE K N) W,u.W.cell? ⟨Q,4,none⟩=some (.int .u64 t.num):=fun u=>u.cell q4 HQN.out
   have p5:∀ u:KS (PE K N) W,u.W.cell? ⟨Q,5,none⟩=some (.bool t.hex):=fun u=>u.cell q5 HQN.out
   refine Mix.mix_seg 0 7 10 (by kernel_rfl) (by kernel_rfl) rfl rfl ⟨⟨v0,HC0.out⟩,rfl⟩ ?_;simp only [zp1,zp2,zp3,zp4]
   repeat (go_big_quiet_step (fail))
   refine wpQuiet_nil ?_;clear p0 p1 p2 p3 p4 p5;refine Mix.mix_one 7 9 (by kernel_rfl) rfl rfl ?_;simp only [zp1,zp2,zp3,zp4];go_wp2_with fail;refine (HNT.out v0 HP0.out).mono ?_;rintro e v1 ⟨rfl,hat⟩;have HC1:Hid (Keeps (PE K N) W v1):=zz (HC0.out.trans hat.k (fun q _ e=>.inl e));have HE1:Hid (v1.heap[N]?=some (.cells (exRow 0 Sy.nt Sy.nt Sy.ty0 0 false (.slice none 0 0)) 182 (0,0))):=zz ((hat.k.block _ (Array.getElem?_eq_some_iff.1 HE0.out).1 (fun e=>by
    have e2:N=K.P:=e;have:=HNB.out.1; have:=HS.out.ord; omega)).trans HE0.out)
   have HP1:Hid (PS v1 K τ):=zz hat.p;clear hat;go_wp2_with fail;refine ⟨.inr ⟨⟨v1,HC1.out⟩,rfl⟩,?_⟩;refine Mix.mix_seg 8 2 7 (by kernel_rfl) (by kernel_rfl) rfl rfl ⟨⟨v1,HC1.out⟩,rfl⟩ ?_;simp only [zp1,zp2,zp3,zp4]
   repeat (go_big_quiet_step (fail))
   refine wpQuiet_nil ?_;have y0:v1.cell? ⟨N,0,none⟩=some (.int .i64 0):=by rw [cell_of_row v1 N 0 _ _ _ HE1.out]; rfl
   have z0:v1.frozen? ⟨N,0,none⟩=false:=frozen_of_row v1 N 0 _ _ HE1.out;have HE2:Hid ((v1.setCell ⟨N,0,none⟩ (.int .i64 1)).heap[N]?=some (.cells (exRow 1 Sy.nt Sy.nt Sy.ty0 0 false (.slice none 0 0)) 182 (0,0))):=zz (by rw [heap_setCell_same _ N 0 _ _ _ HE1.out]; rfl);have HC2:Hid (Keeps (PE K N) W (v1.setCell ⟨N,0,none⟩ (.int .i64 1))):=zz (Keeps.setCell (S:=PE K N) HC1.out (.inl (.inr rfl)) _);have HP2:Hid (PS (v1.setCell ⟨N,0,none⟩ (.int .i64 1)) K τ):=zz (HP1.out.keepR ((Keeps.refl (fun q=>q=N) _).setCell (.inl rfl) _) (fun q e=>by subst e; exact HNB.out.1));refine Mix.mix_one 10 6 (by kernel_rfl) rfl rfl ?_;simp only [zp1,zp2,zp3,zp4];go_wp2_with fail;generalize v1.setCell ⟨N,0,none⟩ (.int .i64 1)=v2 at HE2 HC2 HP2 ⊢;clear y0 z0;refine ⟨.inr ⟨⟨v2,HC2.out⟩,rfl⟩,?_⟩;refine Mix.mix_seg 11 2 4 (by kernel_rfl) (by kernel_rfl) rfl rfl ⟨⟨v2,HC2.out⟩,rfl⟩ ?_;simp only [zp1,zp2,zp3,zp4]
   repeat (go_big_quiet_step (fail))
   refine wpQuiet_nil ?_;have y0:v2.cell? ⟨N,5,none⟩=some (.int .u64 0):=by rw [cell_of_row v2 N 5 _ _ _ HE2.out]; rfl
   have z0:v2.frozen? ⟨N,5,none⟩=false:=frozen_of_row v2 N 5 _ _ HE2.out;have HE3:Hid ((v2.setCell ⟨N,5,none⟩ (.int .u64 t.num)).heap[N]?=some (.cells (exRow 1 Sy.nt Sy.nt Sy.ty0 t.num false (.slice none 0 0)) 182 (0,0))):=zz (by rw [heap_setCell_same _ N 5 _ _ _ HE2.out]; rfl);have HC3:Hid (Keeps (PE K N) W (v2.setCell ⟨N,5,none⟩ (.int .u64 t.num))):=zz (Keeps.setCell (S:=PE K N) HC2.out (.inl (.inr rfl)) _);have HP3:Hid (PS (v2.setCell ⟨N,5,none⟩ (.int .u64 t.num)) K τ):=zz (HP2.out.keepR ((Keeps.refl (fun q=>q=N) _).setCell (.inl rfl) _) (fun q e=>by subst e; exact HNB.out.1));refine Mix.mix_one 13 3 (by kernel_rfl) rfl rfl ?_;simp only [zp1,zp2,zp3,zp4];go_wp2_with fail;generalize v2.setCell ⟨N,5,none⟩ (.int .u64 t.num)=v3 at HE3 HC3 HP3 ⊢;clear y0 z0;refine ⟨.inr ⟨⟨v3,HC3.out⟩,rfl⟩,?_⟩;refine Mix.mix_seg 14 2 1 (by kernel_rfl) (by kernel_rfl) rfl rfl ⟨⟨v3,HC3.out⟩,rfl⟩ ?_;simp only [zp1,zp2,zp3,zp4]
   repeat (go_big_quiet_step (fail))
   refine wpQuiet_nil ?_;have y0:v3.cell? ⟨N,3,none⟩=some (.string ⟨#[]⟩):=by rw [cell_of_row v3 N 3 _ _ _ HE3.out]; rfl
   have z0:v3.frozen? ⟨N,3,none⟩=false:=frozen_of_row v3 N 3 _ _ HE3.out;have y1:v3.cell? ⟨N,4,none⟩=some (.int .i64 0):=by rw [cell_of_row v3 N 4 _ _ _ HE3.out]; rfl
   have z1:v3.frozen? ⟨N,4,none⟩=false:=frozen_of_row v3 N 4 _ _ HE3.out;have HE4:Hid (((v3.setCell ⟨N,3,none⟩ (.string tb)).setCell ⟨N,4,none⟩ (.int .i64 ts)).heap[N]?=some (.cells (exRow 1 Sy.nt Sy.nt ⟨tb,ts⟩ t.num false (.slice none 0 0)) 182 (0,0))):=zz (by rw [heap_setCell_same _ N 4 _ _ _ (heap_setCell_same _ N 3 _ _ _ HE3.out)]; rfl);have HC4:Hid (Keeps (PE K N) W ((v3.setCell ⟨N,3,none⟩ (.string tb)).setCell ⟨N,4,none⟩ (.int .i64 ts))):=zz (Keeps.setCell (S:=PE K N) (Keeps.setCell (S:=PE K N) HC3.out (.inl (.inr rfl)) _) (.inl (.inr rfl)) _);have HP4:Hid (PS ((v3.setCell ⟨N,3,none⟩ (.string tb)).setCell ⟨N,4,none⟩ (.int .i64 ts)) K τ):=zz (HP3.out.keepR (((Keeps.refl (fun q=>q=N) _).setCell (.inl rfl) _).setCell (.inl rfl) _) (fun q e=>by subst e; exact HNB.out.1));refine Mix.mix_one 16 0 (by kernel_rfl) rfl rfl ?_;simp only [zp1,zp2,zp3,zp4];go_wp2_with fail;generalize (v3.setCell ⟨N,3,none⟩ (.string tb)).setCell ⟨N,4,none⟩ (.int .i64 ts)=v4 at HE4 HC4 HP4 ⊢;clear y0 z0 y1 z1;refine ⟨.inr ⟨⟨v4,HC4.out⟩,rfl⟩,?_⟩;refine Mix.mix_end (by kernel_rfl) ?_;have HAZ:Hid (At w v4 K τ):=zz ⟨HP4.out,HA.out.k.trans HC4.out (fun q hq e=>by rcases e with e | e; exact e; have:=HNB.out.2; omega)⟩;clear hne;go_wp2_with fail;refine (HNX.out v4 τ HAZ.out.p).mono ?_;rintro e wz ⟨rfl,hat⟩;have HZ:=zz (HAZ.out.trans hat);have HEZ:Hid (wz.heap[N]?=some (.cells (exRow 1 Sy.nt Sy.nt ⟨tb,ts⟩ t.num false (.slice none 0 0)) 182 (0,0))):=zz ((hat.k.block _ (Array.getElem?_eq_some_iff.1 HE4.out).1 (fun e=>by
    have e2:N=K.P:=e;have:=HNB.out.1; have:=HS.out.ord; omega)).trans HE4.out)
   clear hat;go_wp2_with fail;go_returns;exact ⟨_,rfl,by rw [HM2.out]; exact HZ.out,fun _=>by rw [HM2.out]; exact ex_leaf _ _ _ HNB.out.2 _ _ _ _ _ _ HEZ.out⟩
 · have HM2:=HM.out;rw [if_neg h3,if_pos hk] at HM2;have HM2:=zz HM2;have e3:(t.kind==3)=false:=beq_eq_false_iff_ne.2 h3;have e4:(t.kind==4)=true:=beq_iff_eq.2 hk;clear h3 hk HM;go_upto_region 8 with fail
   have hne:Nonempty (KS (PE K N) W):=⟨⟨W,Keeps.refl _ _⟩⟩;refine Mix.wp_region_mix (fun W'=>∃ u:KS (PE K N) W,W'=u.W) [] (by kernel_rfl) ?_;have HV0:Hid (Keeps No W W.drew):=zz ((Keeps.refl _ W).drew);generalize W.drew=v0 at HV0 ⊢;have HC0:Hid (Keeps (PE K N) W v0):=zz (HV0.out.mono (fun _ _ e=>e.elim));have HE0:Hid (v0.heap[N]?=some (.cells (exRow 0 Sy.nt Sy.nt Sy.ty0 0 false (.slice none 0 0)) 182 (0,0))):=zz ((HV0.out.block _ (Array.getElem?_eq_some_iff.1 HE.out).1 (fun e=>e)).trans HE.out);have HP0:Hid (PS v0 K σ):=zz (HA.out.p.no HV0.out);have p4:∀ u:KS (PE K N) W,u.W.cell? ⟨Q,4,none⟩=some (.int .u64 t.num):=fun u=>u.cell q4 HQN.out
   refine Mix.mix_seg 0 6 9 (by kernel_rfl) (by kernel_rfl) rfl rfl ⟨⟨v0,HC0.out⟩,rfl⟩ ?_;simp only [zp1,zp2,zp3,zp4]
   repeat (go_big_quiet_step (fail))
   refine wpQuiet_nil ?_;clear p4;refine Mix.mix_seg 6 2 7 (by kernel_rfl) (by kernel_rfl) rfl rfl ⟨⟨v0,HC0.out⟩,rfl⟩ ?_;simp only [zp1,zp2,zp3,zp4]
   repeat (go_big_quiet_step (fail))
   refine wpQuiet_nil ?_;have y0:v0.cell? ⟨N,0,none⟩=some (.int .i64 0):=by rw [cell_of_row v0 N 0 _ _ _ HE0.out]; rfl
   have z0:v0.frozen? ⟨N,0,none⟩=false:=frozen_of_row v0 N 0 _ _ HE0.out;have HE1:Hid ((v0.setCell ⟨N,0,none⟩ (.int .i64 1)).heap[N]?=some (.cells (exRow 1 Sy.nt Sy.nt Sy.ty0 0 false (.slice none 0 0)) 182 (0,0))):=zz (by rw [heap_setCell_same _ N 0 _ _ _ HE0.out]; rfl);have HC1:Hid (Keeps (PE K N) W (v0.setCell ⟨N,0,none⟩ (.int .i64 1))):=zz (Keeps.setCell (S:=PE K N) HC0.out (.inl (.inr rfl)) _);have HP1:Hid (PS (v0.setCell ⟨N,0,none⟩ (.int .i64 1)) K σ):=zz (HP0.out.keepR ((Keeps.refl (fun q=>q=N) _).setCell (.inl rfl) _) (fun q e=>by subst e; exact HNB.out.1));refine Mix.mix_one 8 6 (by kernel_rfl) rfl rfl ?_;simp only [zp1,zp2,zp3,zp4];go_wp2_with fail;generalize v0.setCell ⟨N,0,none⟩ (.int .i64 1)=v1 at HE1 HC1 HP1 ⊢;clear y0 z0;refine ⟨.inr ⟨⟨v1,HC1.out⟩,rfl⟩,?_⟩;refine Mix.mix_seg 9 2 4 (by kernel_rfl) (by kernel_rfl) rfl rfl ⟨⟨v1,HC1.out⟩,rfl⟩ ?_;simp only [zp1,zp2,zp3,zp4]
   repeat (go_big_quiet_step (fail))
   refine wpQuiet_nil ?_;have y0:v1.cell? ⟨N,5,none⟩=some (.int .u64 0):=by rw [cell_of_row v1 N 5 _ _ _ HE1.out]; rfl
   have z0:v1.frozen? ⟨N,5,none⟩=false:=frozen_of_row v1 N 5 _ _ HE1.out;have HE2:Hid ((v1.setCell ⟨N,5,none⟩ (.int .u64 t.num)).heap[N]?=some (.cells (exRow 1 Sy.nt Sy.nt Sy.ty0 t.num false (.slice none 0 0)) 182 (0,0))):=zz (by rw [heap_setCell_same _ N 5 _ _ _ HE1.out]; rfl);have HC2:Hid (Keeps (PE K N) W (v1.setCell ⟨N,5,none⟩ (.int .u64 t.num))):=zz (Keeps.setCell (S:=PE K N) HC1.out (.inl (.inr rfl)) _);have HP2:Hid (PS (v1.setCell ⟨N,5,none⟩ (.int .u64 t.num)) K σ):=zz (HP1.out.keepR ((Keeps.refl (fun q=>q=N) _).setCell (.inl rfl) _) (fun q e=>by subst e; exact HNB.out.1));refine Mix.mix_one 11 3 (by kernel_rfl) rfl rfl ?_;simp only [zp1,zp2,zp3,zp4];go_wp2_with fail;generalize v1.setCell ⟨N,5,none⟩ (.int .u64 t.num)=v2 at HE2 HC2 HP2 ⊢;clear y0 z0;refine ⟨.inr ⟨⟨v2,HC2.out⟩,rfl⟩,?_⟩;refine Mix.mix_seg 12 2 1 (by kernel_rfl) (by kernel_rfl) rfl rfl ⟨⟨v2,HC2.out⟩,rfl⟩ ?_;simp only [zp1,zp2,zp3,zp4]
   repeat (go_big_quiet_step (fail))
   refine wpQuiet_nil ?_;have y0:v2.cell? ⟨N,3,none⟩=some (.string ⟨#[]⟩):=by rw [cell_of_row v2 N 3 _ _ _ HE2.out]; rfl
   have z0:v2.frozen? ⟨N,3,none⟩=false:=frozen_of_row v2 N 3 _ _ HE2.out;have y1:v2.cell? ⟨N,4,none⟩=some (.int .i64 0):=by rw [cell_of_row v2 N 4 _ _ _ HE2.out]; rfl
   have z1:v2.frozen? ⟨N,4,none⟩=false:=frozen_of_row v2 N 4 _ _ HE2.out;have HE3:Hid (((v2.setCell ⟨N,3,none⟩ (.string ⟨#[105,51,50]⟩)).setCell ⟨N,4,none⟩ (.int .i64 0)).heap[N]?=some (.cells (exRow 1 Sy.nt Sy.nt ⟨⟨#[105,51,50]⟩,0⟩ t.num false (.slice none 0 0)) 182 (0,0))):=zz (by rw [heap_setCell_same _ N 4 _ _ _ (heap_setCell_same _ N 3 _ _ _ HE2.out)]; rfl);have HC3:Hid (Keeps (PE K N) W ((v2.setCell ⟨N,3,none⟩ (.string ⟨#[105,51,50]⟩)).setCell ⟨N,4,none⟩ (.int .i64 0))):=zz (Keeps.setCell (S:=PE K N) (Keeps.setCell (S:=PE K N) HC2.out (.inl (.inr rfl)) _) (.inl (.inr rfl)) _);have HP3:Hid (PS ((v2.setCell ⟨N,3,none⟩ (.string ⟨#[105,51,50]⟩)).setCell ⟨N,4,none⟩ (.int .i64 0)) K σ):=zz (HP2.out.keepR (((Keeps.refl (fun q=>q=N) _).setCell (.inl rfl) _).setCell (.inl rfl) _) (fun q e=>by subst e; exact HNB.out.1));refine Mix.mix_one 14 0 (by kernel_rfl) rfl rfl ?_;simp only [zp1,zp2,zp3,zp4];go_wp2_with fail;generalize (v2.setCell ⟨N,3,none⟩ (.string ⟨#[105,51,50]⟩)).setCell ⟨N,4,none⟩ (.int .i64 0)=v3 at HE3 HC3 HP3 ⊢;clear y0 z0 y1 z1;refine ⟨.inr ⟨⟨v3,HC3.out⟩,rfl⟩,?_⟩;refine Mix.mix_end (by kernel_rfl) ?_;have HAZ:Hid (At w v3 K σ):=zz ⟨HP3.out,HA.out.k.trans HC3.out (fun q hq e=>by rcases e with e | e; exact e; have:=HNB.out.2; omega)⟩;clear hne;go_wp2_with fail;refine (HNX.out v3 σ HAZ.out.p).mono ?_;rintro e wz ⟨rfl,hat⟩;have HZ:=zz (HAZ.out.trans hat);have HEZ:Hid (wz.heap[N]?=some (.cells (exRow 1 Sy.nt Sy.nt ⟨⟨#[105,51,50]⟩,0⟩ t.num false (.slice none 0 0)) 182 (0,0))):=zz ((hat.k.block _ (Array.getElem?_eq_some_iff.1 HE3.out).1 (fun e=>by
    have e2:N=K.P:=e;have:=HNB.out.1; have:=HS.out.ord; omega)).trans HE3.out)
   clear hat;go_wp2_with fail;go_returns;exact ⟨_,rfl,by rw [HM2.out]; exact HZ.out,fun _=>by rw [HM2.out]; exact ex_leaf _ _ _ HNB.out.2 _ _ _ _ _ _ HEZ.out⟩
 · have HM2:=HM.out;rw [if_neg h3,if_neg h4,if_pos hk] at HM2;have HM2:=zz HM2;have e3:(t.kind==3)=false:=beq_eq_false_iff_ne.2 h3;have e4:(t.kind==4)=false:=beq_eq_false_iff_ne.2 h4;have e1:(t.kind==1)=true:=beq_iff_eq.2 hk;clear h3 h4 hk HM;go_upto_region 10 with fail
   have hne:Nonempty (KS (PE K N) W):=⟨⟨W,Keeps.refl _ _⟩⟩;refine Mix.wp_region_mix (fun W'=>∃ u:KS (PE K N) W,W'=u.W) [] (by kernel_rfl) ?_;have HV0:Hid (Keeps No W W.drew):=zz ((Keeps.refl _ W).drew);generalize W.drew=v0 at HV0 ⊢;have HC0:Hid (Keeps (PE K N) W v0):=zz (HV0.out.mono (fun _ _ e=>e.elim));have HE0:Hid (v0.heap[N]?=some (.cells (exRow 0 Sy.nt Sy.nt Sy.ty0 0 false (.slice none 0 0)) 182 (0,0))):=zz ((HV0.out.block _ (Array.getElem?_eq_some_iff.1 HE.out).1 (fun e=>e)).trans HE.out);have HP0:Hid (PS v0 K σ):=zz (HA.out.p.no HV0.out);have p2:∀ u:KS (PE K N) W,u.W.cell? ⟨Q,2,none⟩=some (.string t.text):=fun u=>u.cell q2 HQN.out
   refine Mix.mix_seg 0 4 6 (by kernel_rfl) (by kernel_rfl) rfl rfl ⟨⟨v0,HC0.out⟩,rfl⟩ ?_;simp only [zp1,zp2,zp3,zp4]
   repeat (go_big_quiet_step (fail))
   refine wpQuiet_nil ?_;clear p2;refine Mix.mix_seg 4 2 4 (by kernel_rfl) (by kernel_rfl) rfl rfl ⟨⟨v0,HC0.out⟩,rfl⟩ ?_;simp only [zp1,zp2,zp3,zp4]
   repeat (go_big_quiet_step (fail))
   refine wpQuiet_nil ?_;have y0:v0.cell? ⟨N,0,none⟩=some (.int .i64 0):=by rw [cell_of_row v0 N 0 _ _ _ HE0.out]; rfl
   have z0:v0.frozen? ⟨N,0,none⟩=false:=frozen_of_row v0 N 0 _ _ HE0.out;have HE1:Hid ((v0.setCell ⟨N,0,none⟩ (.int .i64 2)).heap[N]?=some (.cells (exRow 2 Sy.nt Sy.nt Sy.ty0 0 false (.slice none 0 0)) 182 (0,0))):=zz (by rw [heap_setCell_same _ N 0 _ _ _ HE0.out]; rfl);have HC1:Hid (Keeps (PE K N) W (v0.setCell ⟨N,0,none⟩ (.int .i64 2))):=zz (Keeps.setCell (S:=PE K N) HC0.out (.inl (.inr rfl)) _);have HP1:Hid (PS (v0.setCell ⟨N,0,none⟩ (.int .i64 2)) K σ):=zz (HP0.out.keepR ((Keeps.refl (fun q=>q=N) _).setCell (.inl rfl) _) (fun q e=>by subst e; exact HNB.out.1));refine Mix.mix_one 6 3 (by kernel_rfl) rfl rfl ?_;simp only [zp1,zp2,zp3,zp4];go_wp2_with fail;generalize v0.setCell ⟨N,0,none⟩ (.int .i64 2)=v1 at HE1 HC1 HP1 ⊢;clear y0 z0;refine ⟨.inr ⟨⟨v1,HC1.out⟩,rfl⟩,?_⟩;refine Mix.mix_seg 7 2 1 (by kernel_rfl) (by kernel_rfl) rfl rfl ⟨⟨v1,HC1.out⟩,rfl⟩ ?_;simp only [zp1,zp2,zp3,zp4]
   repeat (go_big_quiet_step (fail))
   refine wpQuiet_nil ?_;have y0:v1.cell? ⟨N,2,none⟩=some (.string ⟨#[]⟩):=by rw [cell_of_row v1 N 2 _ _ _ HE1.out]; rfl
   have z0:v1.frozen? ⟨N,2,none⟩=false:=frozen_of_row v1 N 2 _ _ HE1.out;have HE2:Hid ((v1.setCell ⟨N,2,none⟩ (.string t.text)).heap[N]?=some (.cells (exRow 2 Sy.nt t.text Sy.ty0 0 false (.slice none 0 0)) 182 (0,0))):=zz (by rw [heap_setCell_same _ N 2 _ _ _ HE1.out]; rfl);have HC2:Hid (Keeps (PE K N) W (v1.setCell ⟨N,2,none⟩ (.string t.text))):=zz (Keeps.setCell (S:=PE K N) HC1.out (.inl (.inr rfl)) _);have HP2:Hid (PS (v1.setCell ⟨N,2,none⟩ (.string t.text)) K σ):=zz (HP1.out.keepR ((Keeps.refl (fun q=>q=N) _).setCell (.inl rfl) _) (fun q e=>by subst e; exact HNB.out.1));refine Mix.mix_one 9 0 (by kernel_rfl) rfl rfl ?_;simp only [zp1,zp2,zp3,zp4];go_wp2_with fail;generalize v1.setCell ⟨N,2,none⟩ (.string t.text)=v2 at HE2 HC2 HP2 ⊢;clear y0 z0;refine ⟨.inr ⟨⟨v2,HC2.out⟩,rfl⟩,?_⟩;refine Mix.mix_end (by kernel_rfl) ?_;have HAZ:Hid (At w v2 K σ):=zz ⟨HP2.out,HA.out.k.trans HC2.out (fun q hq e=>by rcases e with e | e; exact e; have:=HNB.out.2; omega)⟩;clear hne;go_wp2_with fail;refine (HNX.out v2 σ HAZ.out.p).mono ?_;rintro e wz ⟨rfl,hat⟩;have HZ:=zz (HAZ.out.trans hat);have HEZ:Hid (wz.heap[N]?=some (.cells (exRow 2 Sy.nt t.text Sy.ty0 0 false (.slice none 0 0)) 182 (0,0))):=zz ((hat.k.block _ (Array.getElem?_eq_some_iff.1 HE2.out).1 (fun e=>by
    have e2:N=K.P:=e;have:=HNB.out.1; have:=HS.out.ord; omega)).trans HE2.out)
   clear hat;go_wp2_with fail;go_returns;exact ⟨_,rfl,by rw [HM2.out]; exact HZ.out,fun _=>by rw [HM2.out]; exact ex_leaf _ _ _ HNB.out.2 _ _ _ _ _ _ HEZ.out⟩
 · have HM2:=HM.out;rw [if_neg h3,if_neg h4,if_neg h1] at HM2;have HM2:=zz HM2;have e3:(t.kind==3)=false:=beq_eq_false_iff_ne.2 h3;have e4:(t.kind==4)=false:=beq_eq_false_iff_ne.2 h4;have e1:(t.kind==1)=false:=beq_eq_false_iff_ne.2 h1;clear h3 h4 h1 HM;go_wp2_with fail;refine (HLO.out W HA.out.p).mono ?_;rintro e w2 ⟨rfl,hat⟩;have HA2:=zz (HA.out.trans hat);have HE2:Hid (w2.heap[N]?=some (.cells (exRow 0 Sy.nt Sy.nt Sy.ty0 0 false (.slice none 0 0)) 182 (0,0))):=zz ((hat.k.block _ (Array.getElem?_eq_some_iff.1 HE.out).1 (fun e=>by
    have e2:N=K.P:=e;have:=HNB.out.1; have:=HS.out.ord; omega)).trans HE.out)
   clear hat;go_wp2_with fail;refine (HNX.out w2 _ HA2.out.p).mono ?_;rintro e w3 ⟨rfl,hat⟩;have HA3:=zz (HA2.out.trans hat);have HE3:Hid (w3.heap[N]?=some (.cells (exRow 0 Sy.nt Sy.nt Sy.ty0 0 false (.slice none 0 0)) 182 (0,0))):=zz ((hat.k.block _ (Array.getElem?_eq_some_iff.1 HE2.out).1 (fun e=>by
    have e2:N=K.P:=e;have:=HNB.out.1; have:=HS.out.ord; omega)).trans HE2.out)
   clear hat;go_wp2_with fail;go_returns;exact ⟨_,rfl,by rw [HM2.out]; exact HA3.out,fun _=>by rw [HM2.out]; exact ex_leaf _ _ _ HNB.out.2 _ _ _ _ _ _ HE3.out⟩
def rem (K:Pk) (σ:Sy.St):Nat:=K.C.T.length - σ.at_
def ExprC (K:Pk) (f:Nat):Prop:=∀ (σ:Sy.St) (w:World),PS w K σ→10 * rem K σ+7≤f→Calls Tryz.prog 111 #[.pointer (some ⟨K.P,0,none⟩)] w (ExPost w K (Sy.E K.C f .expr σ))
def CondC (K:Pk) (f:Nat):Prop:=∀ (σ:Sy.St) (w:World),PS w K σ→10 * rem K σ+6≤f→Calls Tryz.prog 96 #[.pointer (some ⟨K.P,0,none⟩)] w (ExPost w K (Sy.E K.C f .cond σ))
def BinC (K:Pk) (f:Nat):Prop:=∀ (σ:Sy.St) (w:World) (l:Int),1≤l∧l≤12→PS w K σ→10 * rem K σ+5≤f→Calls Tryz.prog 110 #[.pointer (some ⟨K.P,0,none⟩),.int .i64 l] w (ExPost w K (Sy.E K.C f (.bin l) σ))
def UnaryC (K:Pk) (f:Nat):Prop:=∀ (σ:Sy.St) (w:World),PS w K σ→10 * rem K σ+4≤f→Calls Tryz.prog 116 #[.pointer (some ⟨K.P,0,none⟩)] w (ExPost w K (Sy.E K.C f .unary σ))
def PoPost (w:World) (B:Nat) (K:Pk) (r:Sy.Ex × Sy.St) (e:Ending) (w':World):Prop:=∃ a,e=.returned (.pointer a)∧At w w' K r.2∧(r.2.code=0→ExAt w' B a r.1)
def PostC (K:Pk) (f:Nat):Prop:=∀ (σ:Sy.St) (w:World) (a:Option Addr) (e:Sy.Ex) (B:Nat),K.B≤B→B≤w.heap.size→(σ.code=0→ExAt w B a e)→PS w K σ→10 * rem K σ+3≤f→Calls Tryz.prog 129 #[.pointer (some ⟨K.P,0,none⟩),.pointer a] w (PoPost w B K (Sy.E K.C f (.post e) σ))
structure AllC (K:Pk) (f:Nat):Prop where
 expr:ExprC K f
 cond:CondC K f
 bin:BinC K f
 unary:UnaryC K f
 post:PostC K f
theorem rem_mo {K:Pk} {σ τ:Sy.St} (h:Sy.Mo K.C σ τ):rem K τ≤rem K σ:=by unfold rem; have:=h.at_; omega
theorem rem_next {K:Pk} {σ:Sy.St} (h:σ.at_ < K.C.T.length):rem K (Sy.nextM K.C σ)+1=rem K σ:=by unfold rem; rw [Sy.next_at h]; omega
theorem level_lt {K:Pk} {σ:Sy.St} (h:1≤Sy.levelM (Sy.txt K.C σ)):σ.at_ < K.C.T.length:=by
 apply Classical.byContradiction;intro hn;have e:Sy.txt K.C σ=Sy.nt:=by unfold Sy.txt; rw [peek_end (k:=0) (by omega)]
 rw [e] at h;exact absurd h (by decide)
theorem text_lt {K:Pk} {σ:Sy.St} {p:ByteArray→Bool} (hp:p Sy.nt=false) (h:p (Sy.txt K.C σ)=true):σ.at_ < K.C.T.length:=by
 apply Classical.byContradiction;intro hn;have e:Sy.txt K.C σ=Sy.nt:=by unfold Sy.txt; rw [peek_end (k:=0) (by omega)]
 rw [e,hp] at h;cases h
theorem cond_step (K:Pk) (f:Nat) (ih:∀ g,g < f→AllC K g):CondC K f:=by
 intro σ w h hf;obtain ⟨f,rfl⟩:∃ g,f=g+1:=⟨f - 1,by omega⟩;have hle:=h.le;have HBB:=zz h.ord.2.2.2;have HB:=zz ((ih f (by omega)).bin σ w 1 (by omega) h (by omega));obtain ⟨r1,hr1⟩:∃ r,Sy.E K.C f (.bin 1) σ=r:=⟨_,rfl⟩;have hm1:Sy.Mo K.C σ r1.2:=by rw [← hr1]; exact Sy.E_mo f _ σ hle
 rw [hr1] at HB;obtain ⟨e1,τ⟩:=r1;simp only at hm1;obtain ⟨b,hb⟩:∃ b,Sy.isM K.C τ ⟨#[63]⟩=b:=⟨_,rfl⟩;have HTK:=zz (fun W (hs:PS W K τ)=>take_any K τ ⟨#[63]⟩ b hb W hs);cases b with
 | false =>
   have HM:Hid (Sy.E K.C (f+1) .cond σ=(e1,τ)):=zz (by
    conv=>lhs; unfold Sy.E
    simp only [hr1,hb,if_neg (show ¬ (false=true) by decide)])
   clear ih h hr1 hb hm1;go_enter Tryz.func96,Tryz.ntmps96;go_wp2_with fail;refine HB.out.mono ?_;rintro e w1 ⟨a1,rfl,hat,hex⟩;have HA1:=zz hat;have HX1:=zz hex;clear hat hex;go_wp2_with fail;refine (HTK.out w1 HA1.out.p).mono ?_;rintro e w2 ⟨rfl,hat⟩;have hat2:At w1 w2 K τ:=hat;have HA2:=zz (HA1.out.trans hat2);have HX2:Hid (τ.code=0→ExAt w2 w.heap.size a1 e1):=zz (fun hc=>(HX1.out hc).at_ hat2 HBB.out);clear hat hat2;go_wp2_with fail;go_returns;exact ⟨_,rfl,by rw [HM.out]; exact HA2.out,by rw [HM.out]; exact HX2.out⟩
 | true =>
   have hlt:τ.at_ < K.C.T.length:=Sy.is_lt hb (by decide);have hr:=rem_mo hm1;have hrn:=rem_next hlt;obtain ⟨υ,hυ⟩:∃ υ,Sy.nextM K.C τ=υ:=⟨_,rfl⟩;have hm2:Sy.Mo K.C τ υ:=by rw [← hυ]; exact (Sy.Mo.refl hm1.le).next
   rw [hυ] at hrn HTK;have HE:=zz (fun W (hs:PS W K υ)=>(ih f (by omega)).expr υ W hs (by omega));obtain ⟨r2,hr2⟩:∃ r,Sy.E K.C f .expr υ=r:=⟨_,rfl⟩;have hm3:Sy.Mo K.C υ r2.2:=by rw [← hr2]; exact Sy.E_mo f _ υ hm2.le
   rw [hr2] at HE;obtain ⟨e2,φ⟩:=r2;simp only at hm3;obtain ⟨ψ,hψ⟩:∃ ψ,Sy.wantM K.C φ ⟨#[58]⟩=ψ:=⟨_,rfl⟩;have hm4:Sy.Mo K.C φ ψ:=by rw [← hψ]; exact (Sy.Mo.refl hm3.le).want _
   have HW:=zz (fun W (hs:PS W K φ)=>want_any K φ ⟨#[58]⟩ W hs);rw [hψ] at HW;have hr3:=rem_mo hm3;have hr4:=rem_mo hm4;have HC:=zz (fun W (hs:PS W K ψ)=>(ih f (by omega)).cond ψ W hs (by omega));obtain ⟨r3,hr3'⟩:∃ r,Sy.E K.C f .cond ψ=r:=⟨_,rfl⟩;have hm5:Sy.Mo K.C ψ r3.2:=by rw [← hr3']; exact Sy.E_mo f _ ψ hm4.le
   rw [hr3'] at HC;obtain ⟨e3,ω⟩:=r3;simp only at hm5;have HM:Hid (Sy.E K.C (f+1) .cond σ=(.mk 7 Sy.nt Sy.nt Sy.ty0 0 false [e1,e2,e3],ω)):=zz (by
    conv=>lhs; unfold Sy.E
    simp only [hr1,hb,hυ,hr2,hψ,hr3',if_true])
   have HCD:Hid ((ω.code=0→ψ.code=0)∧(ψ.code=0→φ.code=0)∧(φ.code=0→υ.code=0)∧(υ.code=0→τ.code=0)):=zz ⟨hm5.code,hm4.code,hm3.code,hm2.code⟩;clear ih h hr1 hb hm1 hυ hm2 hr2 hm3 hψ hm4 hr3' hm5 hr hrn hr3 hr4 hlt;go_enter Tryz.func96,Tryz.ntmps96;go_wp2_with fail;refine HB.out.mono ?_;rintro e w1 ⟨a1,rfl,hat,hex⟩;have HA1:=zz hat;have HX1:=zz hex;clear hat hex;go_wp2_with fail;refine (HTK.out w1 HA1.out.p).mono ?_;rintro e w2 ⟨rfl,hat⟩;have hat2:At w1 w2 K υ:=hat;have HA2:=zz (HA1.out.trans hat2);have HX2:Hid (τ.code=0→ExAt w2 w.heap.size a1 e1):=zz (fun hc=>(HX1.out hc).at_ hat2 HBB.out);clear hat hat2;go_wp2_with fail;refine (HE.out w2 HA2.out.p).mono ?_;rintro e w3 ⟨a2,rfl,hat,hex⟩;have HA3:=zz (HA2.out.trans hat);have HX3:Hid (φ.code=0→ExAt w3 w.heap.size a1 e1∧ExAt w3 w.heap.size a2 e2):=zz (fun hc=>⟨(HX2.out (HCD.out.2.2.2 (HCD.out.2.2.1 hc))).at_ hat HBB.out,(hex hc).mono HA2.out.k.size⟩);clear hat hex;go_wp2_with fail;refine (HW.out w3 HA3.out.p).mono ?_;rintro e w4 ⟨rfl,hat⟩;have HA4:=zz (HA3.out.trans hat);have HX4:Hid (ψ.code=0→ExAt w4 w.heap.size a1 e1∧ExAt w4 w.heap.size a2 e2):=zz (fun hc=>⟨(HX3.out (HCD.out.2.1 hc)).1.at_ hat HBB.out,(HX3.out (HCD.out.2.1 hc)).2.at_ hat HBB.out⟩);clear hat;go_wp2_with fail;refine (HC.out w4 HA4.out.p).mono ?_;rintro e w5 ⟨a3,rfl,hat,hex⟩;have HA5:=zz (HA4.out.trans hat);have HX5:Hid (ω.code=0→ExAt w5 w.heap.size a1 e1∧ExAt w5 w.heap.size a2 e2∧ExAt w5 w.heap.size a3 e3):=zz (fun hc=>⟨(HX4.out (HCD.out.1 hc)).1.at_ hat HBB.out,(HX4.out (HCD.out.1 hc)).2.at_ hat HBB.out,(hex hc).mono HA4.out.k.size⟩);clear hat hex;go_wp2_with fail;go_returns;refine ⟨_,rfl,by rw [HM.out]; exact HA5.out.no (((Keeps.refl _ _).alloc _).alloc _),fun hc=>?_⟩;rw [HM.out] at hc ⊢;exact ex_node w5 w.heap.size HA5.out.k.size [a1,a2,a3] [e1,e2,e3] rfl (by simp) 7 Sy.nt Sy.nt Sy.ty0 0 false (three_at (HX5.out hc).1 (HX5.out hc).2.1 (HX5.out hc).2.2)
theorem expr_step (K:Pk) (f:Nat) (ih:∀ g,g < f→AllC K g):ExprC K f:=by
 intro σ w h hf;obtain ⟨f,rfl⟩:∃ g,f=g+1:=⟨f - 1,by omega⟩;have hle:=h.le;have HBB:=zz h.ord.2.2.2;have HB:=zz ((ih f (by omega)).cond σ w h (by omega));obtain ⟨r1,hr1⟩:∃ r,Sy.E K.C f .cond σ=r:=⟨_,rfl⟩;have hm1:Sy.Mo K.C σ r1.2:=by rw [← hr1]; exact Sy.E_mo f _ σ hle
 rw [hr1] at HB;obtain ⟨e1,τ⟩:=r1;simp only at hm1;obtain ⟨t,ht⟩:∃ t,Sy.peekM K.C τ 0=t:=⟨_,rfl⟩;have htx:Sy.txt K.C τ=t.text:=by unfold Sy.txt; rw [ht]
 have HPK:=zz (fun W (hs:PS W K τ)=>peek_as K τ 0 (by omega) t ht 0 rfl W hs);obtain ⟨b1,h1⟩:∃ b,(t.text.toList==[61])=b:=⟨_,rfl⟩;obtain ⟨b2,h2⟩:∃ b,(t.text.toList==[43,61])=b:=⟨_,rfl⟩;obtain ⟨b3,h3⟩:∃ b,(t.text.toList==[45,61])=b:=⟨_,rfl⟩;obtain ⟨b4,h4⟩:∃ b,(t.text.toList==[42,61])=b:=⟨_,rfl⟩;obtain ⟨b5,h5⟩:∃ b,(t.text.toList==[47,61])=b:=⟨_,rfl⟩;obtain ⟨b6,h6⟩:∃ b,(t.text.toList==[37,61])=b:=⟨_,rfl⟩;obtain ⟨b7,h7⟩:∃ b,(t.text.toList==[38,61])=b:=⟨_,rfl⟩;obtain ⟨b8,h8⟩:∃ b,(t.text.toList==[124,61])=b:=⟨_,rfl⟩;obtain ⟨b9,h9⟩:∃ b,(t.text.toList==[94,61])=b:=⟨_,rfl⟩;obtain ⟨b10,h10⟩:∃ b,(t.text.toList==[60,60,61])=b:=⟨_,rfl⟩;obtain ⟨b11,h11⟩:∃ b,(t.text.toList==[62,62,61])=b:=⟨_,rfl⟩;have hasg:Sy.assigns t.text=(b1 || b2 || b3 || b4 || b5 || b6 || b7 || b8 || b9 || b10 || b11):=by
  unfold Sy.assigns;simp only [eqL];rw [h1,h2,h3,h4,h5,h6,h7,h8,h9,h10,h11]
 obtain ⟨A,hA⟩:∃ A,Sy.assigns t.text=A:=⟨_,rfl⟩;rw [hA] at hasg;have f2:=fun W=>(tk_fld t.kind t.at_ t.text t.suf t.num t.hex W).2.2
 cases A with
 | false =>
   have HM:Hid (Sy.E K.C (f+1) .expr σ=(e1,τ)):=zz (by
    conv=>lhs; unfold Sy.E
    simp only [hr1,htx,hA,if_neg (show ¬ (false=true) by decide)])
   obtain ⟨rfl,rfl,rfl,rfl,rfl,rfl,rfl,rfl,rfl,rfl,rfl⟩:b1=false∧b2=false∧b3=false∧b4=false∧b5=false∧b6=false∧b7=false∧b8=false∧b9=false∧b10=false∧b11=false:=by
    have h:=hasg.symm;simp only [Bool.or_eq_false_iff] at h;obtain ⟨⟨⟨⟨⟨⟨⟨⟨⟨⟨g1,g2⟩,g3⟩,g4⟩,g5⟩,g6⟩,g7⟩,g8⟩,g9⟩,g10⟩,g11⟩:=h;exact ⟨g1,g2,g3,g4,g5,g6,g7,g8,g9,g10,g11⟩
   clear ih h hr1 hm1 ht htx hasg hA;go_enter Tryz.func111,Tryz.ntmps111;go_wp2_with fail;refine HB.out.mono ?_;rintro e w1 ⟨a1,rfl,hat,hex⟩;have HA1:=zz hat;have HX1:=zz hex;clear hat hex;go_wp2_with fail;refine (HPK.out w1 HA1.out.p).mono ?_;rintro e w2 ⟨rfl,hk⟩;have HA2:=zz (HA1.out.no hk);have HX2:Hid (τ.code=0→ExAt w2 w.heap.size a1 e1):=zz (fun hc=>(HX1.out hc).no hk);clear hk;go_wp2_with fail;go_returns;exact ⟨_,rfl,by rw [HM.out]; exact HA2.out,by rw [HM.out]; exact HX2.out⟩
 | true =>
   have hlt:τ.at_ < K.C.T.length:=text_lt (p:=Sy.assigns) (by decide) (by rw [htx]; exact hA);have hr:=rem_mo hm1;have hrn:=rem_next hlt;obtain ⟨υ,hυ⟩:∃ υ,Sy.nextM K.C τ=υ:=⟨_,rfl⟩;have hm2:Sy.Mo K.C τ υ:=by rw [← hυ]; exact (Sy.Mo.refl hm1.le).next
   have HNX:=zz (fun W (hs:PS W K τ)=>next_any K τ W hs);rw [hυ] at hrn HNX;have HE:=zz (fun W (hs:PS W K υ)=>(ih f (by omega)).expr υ W hs (by omega));obtain ⟨r2,hr2⟩:∃ r,Sy.E K.C f .expr υ=r:=⟨_,rfl⟩;have hm3:Sy.Mo K.C υ r2.2:=by rw [← hr2]; exact Sy.E_mo f _ υ hm2.le
   rw [hr2] at HE;obtain ⟨e2,φ⟩:=r2;simp only at hm3;have HM:Hid (Sy.E K.C (f+1) .expr σ=(.mk 8 t.text Sy.nt Sy.ty0 0 false [e1,e2],φ)):=zz (by
    conv=>lhs; unfold Sy.E
    simp only [hr1,htx,hA,hυ,hr2,if_true])
   have HCD:Hid ((φ.code=0→υ.code=0)∧(υ.code=0→τ.code=0)):=zz ⟨hm3.code,hm2.code⟩;have hsp:(b1=true)∨(b1=false∧b2=true)∨(b1=false∧b2=false∧b3=true)∨(b1=false∧b2=false∧b3=false∧b4=true)∨(b1=false∧b2=false∧b3=false∧b4=false∧b5=true)∨(b1=false∧b2=false∧b3=false∧b4=false∧b5=false∧b6=true)∨(b1=false∧b2=false∧b3=false∧b4=false∧b5=false∧b6=false∧b7=true)∨(b1=false∧b2=false∧b3=false∧b4=false∧b5=false∧b6=false∧b7=false∧b8=true)∨(b1=false∧b2=false∧b3=false∧b4=false∧b5=false∧b6=false∧b7=false∧b8=false∧b9=true)∨(b1=false∧b2=false∧b3=false∧b4=false∧b5=false∧b6=false∧b7=false∧b8=false∧b9=false∧b10=true)∨(b1=false∧b2=false∧b3=false∧b4=false∧b5=false∧b6=false∧b7=false∧b8=false∧b9=false∧b10=false∧b11=true):=by
    clear h1 h2 h3 h4 h5 h6 h7 h8 h9 h10 h11;cases b1 with
    | true=>exact (.inl rfl)
    | false =>
      cases b2 with
      | true=>exact (.inr (.inl ⟨rfl,rfl⟩))
      | false =>
        cases b3 with
        | true=>exact (.inr (.inr (.inl ⟨rfl,rfl,rfl⟩)))
        | false =>
          cases b4 with
          | true=>exact (.inr (.inr (.inr (.inl ⟨rfl,rfl,rfl,rfl⟩))))
          | false =>
            cases b5 with
            | true=>exact (.inr (.inr (.inr (.inr (.inl ⟨rfl,rfl,rfl,rfl,rfl⟩)))))
            | false =>
              cases b6 with
              | true=>exact (.inr (.inr (.inr (.inr (.inr (.inl ⟨rfl,rfl,rfl,rfl,rfl,rfl⟩))))))
              | false =>
                cases b7 with
                | true=>exact (.inr (.inr (.inr (.inr (.inr (.inr (.inl ⟨rfl,rfl,rfl,rfl,rfl,rfl,rfl⟩)))))))
                | false =>
                  cases b8 with
                  | true=>exact (.inr (.inr (.inr (.inr (.inr (.inr (.inr (.inl ⟨rfl,rfl,rfl,rfl,rfl,rfl,rfl,rfl⟩))))))))
                  | false =>
                    cases b9 with
                    | true=>exact (.inr (.inr (.inr (.inr (.inr (.inr (.inr (.inr (.inl ⟨rfl,rfl,rfl,rfl,rfl,rfl,rfl,rfl,rfl⟩)))))))))
                    | false =>
                      cases b10 with
                      | true=>exact (.inr (.inr (.inr (.inr (.inr (.inr (.inr (.inr (.inr (.inl ⟨rfl,rfl,rfl,rfl,rfl,rfl,rfl,rfl,rfl,rfl⟩))))))))))
                      | false =>
                        cases b11 with
                        | true=>exact (.inr (.inr (.inr (.inr (.inr (.inr (.inr (.inr (.inr (.inr ⟨rfl,rfl,rfl,rfl,rfl,rfl,rfl,rfl,rfl,rfl,rfl⟩))))))))))
                        | false =>
                          exact absurd hasg (by decide)
   clear ih h hr1 hm1 hυ hm2 hr2 hm3 hr hrn hlt ht htx hasg hA;rcases hsp with rfl | ⟨rfl,rfl⟩ | ⟨rfl,rfl,rfl⟩ | ⟨rfl,rfl,rfl,rfl⟩ | ⟨rfl,rfl,rfl,rfl,rfl⟩ | ⟨rfl,rfl,rfl,rfl,rfl,rfl⟩ | ⟨rfl,rfl,rfl,rfl,rfl,rfl,rfl⟩ | ⟨rfl,rfl,rfl,rfl,rfl,rfl,rfl,rfl⟩ | ⟨rfl,rfl,rfl,rfl,rfl,rfl,rfl,rfl,rfl⟩ | ⟨rfl,rfl,rfl,rfl,rfl,rfl,rfl,rfl,rfl,rfl⟩ | ⟨rfl,rfl,rfl,rfl,rfl,rfl,rfl,rfl,rfl,rfl,rfl⟩
   all_goals
    go_enter Tryz.func111,Tryz.ntmps111;go_wp2_with fail;refine HB.out.mono ?_;rintro e w1 ⟨a1,rfl,hat,hex⟩;have HA1:=zz hat;have HX1:=zz hex;clear hat hex;go_wp2_with fail;refine (HPK.out w1 HA1.out.p).mono ?_;rintro e w2 ⟨rfl,hk⟩;have HA2:=zz (HA1.out.no hk);have HX2:Hid (τ.code=0→ExAt w2 w.heap.size a1 e1):=zz (fun hc=>(HX1.out hc).no hk);clear hk;go_wp2_with fail;refine (HNX.out w2 HA2.out.p).mono ?_;rintro e w3 ⟨rfl,hat⟩;have HA3:=zz (HA2.out.trans hat);have HX3:Hid (υ.code=0→ExAt w3 w.heap.size a1 e1):=zz (fun hc=>(HX2.out (HCD.out.2 hc)).at_ hat HBB.out);clear hat;go_wp2_with fail;refine (HE.out w3 HA3.out.p).mono ?_;rintro e w4 ⟨a2,rfl,hat,hex⟩;have HA4:=zz (HA3.out.trans hat);have HX4:Hid (φ.code=0→ExAt w4 w.heap.size a1 e1∧ExAt w4 w.heap.size a2 e2):=zz (fun hc=>⟨(HX3.out (HCD.out.1 hc)).at_ hat HBB.out,(hex hc).mono HA3.out.k.size⟩);clear hat hex;go_wp2_with fail;go_returns;refine ⟨_,rfl,by rw [HM.out]; exact HA4.out.no (((Keeps.refl _ _).alloc _).alloc _),fun hc=>?_⟩;rw [HM.out] at hc ⊢;exact ex_node w4 w.heap.size HA4.out.k.size [a1,a2] [e1,e2] rfl (by simp) 8 t.text Sy.nt Sy.ty0 0 false (two_at (HX4.out hc).1 (HX4.out hc).2)
theorem level_bd (op:ByteArray):0≤Sy.levelM op∧Sy.levelM op≤10:=by
 unfold Sy.levelM
 (repeat' split) <;> decide
theorem level_as (op:ByteArray) (L:Int) (hL:Sy.levelM op=L) (w:World):Calls Tryz.prog 117 #[.string op] w fun e w'=>e=.returned (.int .i64 L)∧w=w':=by
 rw [← hL]; exact level_any op w
theorem ex_two {w:World} {B N q:Nat} {a1 a2:Option Addr} {e1 e2:Sy.Ex} {kind:Int} {op:ByteArray} (hB:B≤N) (hr:w.heap[N]?=some (.cells (exRow kind op Sy.nt Sy.ty0 0 false (.slice (some ⟨q,0,none⟩) 2 2)) 182 (0,0)))
    (hs:w.ownsRow B 94 1 (.slice (some ⟨q,0,none⟩) 2 2) 2 (ptrs [a1,a2])) (h1:ExAt w B a1 e1) (h2:ExAt w B a2 e2):ExAt w B (some ⟨N,0,none⟩) (.mk kind op Sy.nt Sy.ty0 0 false [e1,e2]) :=
 ExAt.node N _ 2 [a1,a2] _ _ _ _ _ _ _ hB hr hs rfl (two_at h1 h2)
theorem bin_step (K:Pk) (f:Nat) (ih:∀ g,g < f→AllC K g):BinC K f:=by
 intro σ w l hlb h hf;obtain ⟨f,rfl⟩:∃ g,f=g+1:=⟨f - 1,by omega⟩;have hle:=h.le;have HS:=zz h;have HBB:=zz h.ord.2.2.2;have HU:=zz ((ih f (by omega)).unary σ w h (by omega));have HIH:=zz ih;obtain ⟨r1,hr1⟩:∃ r,Sy.E K.C f .unary σ=r:=⟨_,rfl⟩;have hm1:Sy.Mo K.C σ r1.2:=by rw [← hr1]; exact Sy.E_mo f _ σ hle
 rw [hr1] at HU;obtain ⟨e1,τ0⟩:=r1;simp only at hm1;have HM:Hid (Sy.E K.C (f+1) (.bin l) σ=Sy.E K.C f (.binL l e1) τ0):=zz (by
  conv=>lhs; unfold Sy.E
  simp only [hr1])
 have hr0:=rem_mo hm1;have HFU:Hid (10 * rem K τ0+3≤f):=zz (by omega);have HLB:=zz hlb;clear ih h hr1 hm1 hr0 hle hf;go_enter Tryz.func110,Tryz.ntmps110;go_wp2_with fail;refine HU.out.mono ?_;rintro e w1 ⟨a1,rfl,hat,hex⟩;have HA1:=zz hat;have HX1:=zz hex;clear hat hex HU;go_upto_region 2 with fail
 go_loopg [5] (rem K τ0) (fun m v wr=>∃ (g:Nat) (a:Option Addr) (left:Sy.Ex) (τ:Sy.St),v=.pointer a∧m=rem K τ∧Hid (Sy.E K.C g (.binL l left) τ=Sy.E K.C f (.binL l e1) τ0∧10 * rem K τ+3≤g∧g≤f)∧Hid (At w wr K τ)∧Hid (τ.code=0→ExAt wr w.heap.size a left))
 case atStart=>exact ⟨f,a1,e1,τ0,rfl,rfl,zz ⟨rfl,HFU.out,Nat.le_refl _⟩,HA1,HX1⟩
 case round =>
  obtain ⟨g,a,left,τ,rfl,hg,HE,HAT,HEX⟩:=hrel;obtain ⟨g,rfl⟩:∃ q,g=q+1:=⟨g - 1,by have:=HE.out.2.1; omega⟩;obtain ⟨t,ht⟩:∃ t,Sy.peekM K.C τ 0=t:=⟨_,rfl⟩;have htx:Sy.txt K.C τ=t.text:=by unfold Sy.txt; rw [ht]
  have HPK:=zz (peek_as K τ 0 (by omega) t ht 0 rfl wr HAT.out.p);have f2:=fun W=>(tk_fld t.kind t.at_ t.text t.suf t.num t.hex W).2.2
  obtain ⟨L,hL⟩:∃ L,Sy.levelM t.text=L:=⟨_,rfl⟩;have hLb:0≤L∧L≤10:=by rw [← hL]; exact level_bd _
  have HLV:=zz (fun W=>level_as t.text L hL W);by_cases hlt:L < l
  · have HFIN:Hid (Sy.E K.C (f+1) (.bin l) σ=(left,τ)):=zz (by
     rw [HM.out,← HE.out.1]
     conv=>lhs; unfold Sy.E
     rw [htx,hL,if_pos hlt])
    clear ht htx hL;go_wp2_with fail;refine HPK.out.mono ?_;rintro e w2 ⟨rfl,hk⟩;have HA2:=zz (HAT.out.no hk);have HX2:Hid (τ.code=0→ExAt w2 w.heap.size a left):=zz (fun hc=>(HEX.out hc).no hk);clear hk;go_wp2_with fail;refine (HLV.out w2).mono ?_;rintro e w3 ⟨rfl,rfl⟩;go_wp2_with fail;go_returns;exact ⟨_,rfl,by rw [HFIN.out]; exact HA2.out,by rw [HFIN.out]; exact HX2.out⟩
  · have hat1:τ.at_ < K.C.T.length:=level_lt (by rw [htx,hL]; omega);have hrn:=rem_next hat1;obtain ⟨υ,hυ⟩:∃ υ,Sy.nextM K.C τ=υ:=⟨_,rfl⟩;have hm2:Sy.Mo K.C τ υ:=by rw [← hυ]; exact (Sy.Mo.refl HAT.out.p.le).next
    have HNX:=zz (fun W (hs:PS W K τ)=>next_any K τ W hs);rw [hυ] at hrn HNX;have HBN:=zz (fun W (hs:PS W K υ)=>(HIH.out g (by have:=HE.out.2.2; omega)).bin υ W (L+1) (by omega) hs (by have:=HE.out.2.1; omega));obtain ⟨r2,hr2⟩:∃ r,Sy.E K.C g (.bin (L+1)) υ=r:=⟨_,rfl⟩;have hm3:Sy.Mo K.C υ r2.2:=by rw [← hr2]; exact Sy.E_mo g _ υ hm2.le
    rw [hr2] at HBN;obtain ⟨e2,φ⟩:=r2;simp only at hm3;have hr3:=rem_mo hm3;have HE2:Hid (Sy.E K.C g (.binL l (Sy.binEx t.text left e2)) φ=Sy.E K.C f (.binL l e1) τ0∧10 * rem K φ+3≤g∧g≤f):=zz (by
     refine ⟨?_,by have:=HE.out.2.1; omega,by have:=HE.out.2.2; omega⟩;rw [← HE.out.1]
     conv=>rhs; unfold Sy.E
     rw [htx,hL,if_neg hlt,hυ];simp only [hr2])
    have HCD:Hid ((φ.code=0→υ.code=0)∧(υ.code=0→τ.code=0)):=zz ⟨hm3.code,hm2.code⟩;obtain ⟨b1,h1⟩:∃ b,(t.text.toList==[38,38])=b:=⟨_,rfl⟩;obtain ⟨b2,h2⟩:∃ b,(t.text.toList==[124,124])=b:=⟨_,rfl⟩;have HBX:Hid (Sy.binEx t.text left e2=if b1=true then .mk 5 Sy.nt Sy.nt Sy.ty0 0 false [left,e2] else if b2=true then .mk 6 Sy.nt Sy.nt Sy.ty0 0 false [left,e2] else .mk 4 t.text Sy.nt Sy.ty0 0 false [left,e2]):=zz (by
     unfold Sy.binEx;simp only [eqL];rw [h1,h2])
    have hms:rem K φ < rem K τ:=by omega
    clear ht htx hL hυ hr2 hm2 hm3 hat1 hrn hr3;go_wp2_with fail;refine HPK.out.mono ?_;rintro e w2 ⟨rfl,hk⟩;have HA2:=zz (HAT.out.no hk);have HX2:Hid (τ.code=0→ExAt w2 w.heap.size a left):=zz (fun hc=>(HEX.out hc).no hk);clear hk;go_wp2_with fail;refine (HLV.out w2).mono ?_;rintro e w3 ⟨rfl,rfl⟩;go_wp2_with fail;refine (HNX.out w2 HA2.out.p).mono ?_;rintro e w3 ⟨rfl,hat⟩;have HA3:=zz (HA2.out.trans hat);have HX3:Hid (υ.code=0→ExAt w3 w.heap.size a left):=zz (fun hc=>(HX2.out (HCD.out.2 hc)).at_ hat HBB.out);clear hat;go_wp2_with fail;refine (HBN.out w3 HA3.out.p).mono ?_;rintro e w4 ⟨a2,rfl,hat,hex⟩;have HA4:=zz (HA3.out.trans hat);have HX4:Hid (φ.code=0→ExAt w4 w.heap.size a left∧ExAt w4 w.heap.size a2 e2):=zz (fun hc=>⟨(HX3.out (HCD.out.1 hc)).at_ hat HBB.out,(hex hc).mono HA3.out.k.size⟩);clear hat hex;go_upto_region 9 with fail
    have hrow:(w4.alloc (.cells #[.pointer a,.pointer a2] 94)).ownsRow w.heap.size 94 1 (.slice (some ⟨w4.heap.size,0,none⟩) 2 2) 2 (ptrs [a,a2]) :=
     ⟨rfl,.inr ⟨w4.heap.size,2,#[.pointer a,.pointer a2],rfl,HA4.out.k.size,heap_alloc_new _ _,Nat.le_refl _,by unfold maxLen; omega,rfl,rfl⟩⟩
    obtain ⟨w5,hw5⟩:∃ W,(w4.alloc (.cells #[.pointer a,.pointer a2] 94)).alloc (.cells #[.int .i64 4,.string t.text,.string ⟨#[]⟩,.string ⟨#[]⟩,.int .i64 0,.int .u64 0,.bool false,.slice (some ⟨w4.heap.size,0,none⟩) 2 2] 182)=W:=⟨_,rfl⟩;have hk5:Keeps No w4 w5:=by rw [← hw5]; exact ((Keeps.refl _ _).alloc _).alloc _
    have hn5:w5.heap[w4.heap.size+1]?=some (.cells (exRow 4 t.text Sy.nt Sy.ty0 0 false (.slice (some ⟨w4.heap.size,0,none⟩) 2 2)) 182 (0,0)):=by
     rw [← hw5];have e:w4.heap.size+1=(w4.alloc (.cells #[.pointer a,.pointer a2] 94)).heap.size:=by simp
     rw [e]; exact heap_alloc_new _ _
    have ho5:w5.ownsRow w.heap.size 94 1 (.slice (some ⟨w4.heap.size,0,none⟩) 2 2) 2 (ptrs [a,a2]):=by rw [← hw5]; exact hrow.alloc _
    have HA5:=zz (HA4.out.no hk5);have HX5:Hid (φ.code=0→ExAt w5 w.heap.size a left∧ExAt w5 w.heap.size a2 e2):=zz (fun hc=>⟨(HX4.out hc).1.no hk5,(HX4.out hc).2.no hk5⟩);have HXL:Hid (∀ (W:World) (S:Nat→Prop),Keeps S w5 W→(∀ q,S q→q < w.heap.size∨w4.heap.size≤q)→φ.code=0→ExAt W w.heap.size a left∧ExAt W w.heap.size a2 e2):=zz (fun W S hk hS hc=>by
     have hk6:Keeps (fun q=>S q∧q < w4.heap.size) w4 W:=⟨hk.os.trans hk5.os,hk.tape.trans hk5.tape,hk.output.trans hk5.output,Nat.le_trans hk5.size hk.size,fun q hq hn=>(hk.block q (Nat.lt_of_lt_of_le hq hk5.size) (fun e=>hn ⟨e,hq⟩)).trans (hk5.block q hq (fun e=>e))⟩;exact ⟨(HX4.out hc).1.keep hk6 (fun q e=>by rcases hS q e.1 with h | h; exact .inl h; have:=e.2; omega),(HX4.out hc).2.keep hk6 (fun q e=>by rcases hS q e.1 with h | h; exact .inl h; have:=e.2; omega)⟩)
    rw [hw5];obtain ⟨Q4,hQ4⟩:∃ q,w4.heap.size=q:=⟨_,rfl⟩;have HQB:Hid (K.B≤Q4∧w.heap.size≤Q4):=zz ⟨by rw [← hQ4]; exact HA4.out.p.ord.2.2.2,by rw [← hQ4]; exact HA4.out.k.size⟩;rw [hQ4] at hn5 ho5 HXL ⊢;have HN5:=zz hn5;have HO5:=zz ho5;clear hw5 hk5 hn5 ho5 hrow hQ4 HX4 HA4;cases b1 with
    | true =>
      have HBX2:=HBX.out;rw [if_pos rfl] at HBX2;have HBX2:=zz HBX2;have y0:w5.cell? ⟨Q4+1,0,none⟩=some (.int .i64 4):=by rw [cell_of_row w5 (Q4+1) 0 _ _ _ HN5.out]; rfl
      have y1:w5.cell? ⟨Q4+1,1,none⟩=some (.string t.text):=by rw [cell_of_row w5 (Q4+1) 1 _ _ _ HN5.out]; rfl
      have z0:w5.frozen? ⟨Q4+1,0,none⟩=false:=frozen_of_row w5 (Q4+1) 0 _ _ HN5.out;have z1:w5.frozen? ⟨Q4+1,1,none⟩=false:=frozen_of_row w5 (Q4+1) 1 _ _ HN5.out;have HKZ:Hid (Keeps (fun q=>q=Q4+1) w5 ((w5.setCell ⟨Q4+1,0,none⟩ (.int .i64 5)).setCell ⟨Q4+1,1,none⟩ (.string ⟨#[]⟩))):=zz (((Keeps.refl (fun q=>q=Q4+1) w5).setCell (.inl rfl) _).setCell (.inl rfl) _);have HNZ:Hid (((w5.setCell ⟨Q4+1,0,none⟩ (.int .i64 5)).setCell ⟨Q4+1,1,none⟩ (.string ⟨#[]⟩)).heap[Q4+1]?=some (.cells (exRow 5 Sy.nt Sy.nt Sy.ty0 0 false (.slice (some ⟨Q4,0,none⟩) 2 2)) 182 (0,0))):=zz (by rw [heap_setCell_same _ (Q4+1) 1 _ _ _ (heap_setCell_same _ (Q4+1) 0 _ _ _ HN5.out)]; rfl);go_wp2_with fail;generalize (w5.setCell ⟨Q4+1,0,none⟩ (.int .i64 5)).setCell ⟨Q4+1,1,none⟩ (.string ⟨#[]⟩)=w6 at HKZ HNZ ⊢;have HA6:Hid (At w w6 K φ):=zz (HA5.out.newR HS.out HKZ.out (by have:=HQB.out.2; omega));have HX6:Hid (φ.code=0→ExAt w6 w.heap.size (some ⟨Q4+1,0,none⟩) (Sy.binEx t.text left e2)):=zz (fun hc=>by
       rw [HBX2.out];have hx:=HXL.out w6 _ HKZ.out (fun q e=>.inr (by omega)) hc;exact ex_two (by have:=HQB.out.2; omega) HNZ.out (own_kept HO5.out (fun q hq=>HKZ.out.block q (own_ltb HO5.out hq) (fun e=>by
        have e2:q=Q4+1:=e;have e3:Q4=q:=by injection hq
        omega))) hx.1 hx.2)
      go_roundg (rem K φ)
      case rel=>exact ⟨g,_,_,φ,rfl,rfl,HE2,HA6,HX6⟩
      case measure=>omega
    | false =>
      cases b2 with
      | true =>
        have HBX2:=HBX.out;rw [if_neg (by decide),if_pos rfl] at HBX2;have HBX2:=zz HBX2;have y0:w5.cell? ⟨Q4+1,0,none⟩=some (.int .i64 4):=by rw [cell_of_row w5 (Q4+1) 0 _ _ _ HN5.out]; rfl
        have y1:w5.cell? ⟨Q4+1,1,none⟩=some (.string t.text):=by rw [cell_of_row w5 (Q4+1) 1 _ _ _ HN5.out]; rfl
        have z0:w5.frozen? ⟨Q4+1,0,none⟩=false:=frozen_of_row w5 (Q4+1) 0 _ _ HN5.out;have z1:w5.frozen? ⟨Q4+1,1,none⟩=false:=frozen_of_row w5 (Q4+1) 1 _ _ HN5.out;have HKZ:Hid (Keeps (fun q=>q=Q4+1) w5 ((w5.setCell ⟨Q4+1,0,none⟩ (.int .i64 6)).setCell ⟨Q4+1,1,none⟩ (.string ⟨#[]⟩))):=zz (((Keeps.refl (fun q=>q=Q4+1) w5).setCell (.inl rfl) _).setCell (.inl rfl) _);have HNZ:Hid (((w5.setCell ⟨Q4+1,0,none⟩ (.int .i64 6)).setCell ⟨Q4+1,1,none⟩ (.string ⟨#[]⟩)).heap[Q4+1]?=some (.cells (exRow 6 Sy.nt Sy.nt Sy.ty0 0 false (.slice (some ⟨Q4,0,none⟩) 2 2)) 182 (0,0))):=zz (by rw [heap_setCell_same _ (Q4+1) 1 _ _ _ (heap_setCell_same _ (Q4+1) 0 _ _ _ HN5.out)]; rfl);go_wp2_with fail;generalize (w5.setCell ⟨Q4+1,0,none⟩ (.int .i64 6)).setCell ⟨Q4+1,1,none⟩ (.string ⟨#[]⟩)=w6 at HKZ HNZ ⊢;have HA6:Hid (At w w6 K φ):=zz (HA5.out.newR HS.out HKZ.out (by have:=HQB.out.2; omega));have HX6:Hid (φ.code=0→ExAt w6 w.heap.size (some ⟨Q4+1,0,none⟩) (Sy.binEx t.text left e2)):=zz (fun hc=>by
         rw [HBX2.out];have hx:=HXL.out w6 _ HKZ.out (fun q e=>.inr (by omega)) hc;exact ex_two (by have:=HQB.out.2; omega) HNZ.out (own_kept HO5.out (fun q hq=>HKZ.out.block q (own_ltb HO5.out hq) (fun e=>by
          have e2:q=Q4+1:=e;have e3:Q4=q:=by injection hq
          omega))) hx.1 hx.2)
        go_roundg (rem K φ)
        case rel=>exact ⟨g,_,_,φ,rfl,rfl,HE2,HA6,HX6⟩
        case measure=>omega
      | false =>
        have HBX2:=HBX.out;rw [if_neg (by decide),if_neg (by decide)] at HBX2;have HBX2:=zz HBX2;have HX6:Hid (φ.code=0→ExAt w5 w.heap.size (some ⟨Q4+1,0,none⟩) (Sy.binEx t.text left e2)):=zz (fun hc=>by
         rw [HBX2.out];exact ex_two (by have:=HQB.out.2; omega) HN5.out HO5.out (HX5.out hc).1 (HX5.out hc).2)
        go_wp2_with fail;go_roundg (rem K φ)
        case rel=>exact ⟨g,_,_,φ,rfl,rfl,HE2,HA5,HX6⟩
        case measure=>omega
theorem is_txt {C:Sy.Cx} {σ:Sy.St} (x:Array UInt8):Sy.isM C σ ⟨x⟩=((Sy.txt C σ).toList==x.toList):=by unfold Sy.isM; rw [eqL]
theorem unary_step (K:Pk) (f:Nat) (ih:∀ g,g < f→AllC K g):UnaryC K f:=by
 intro σ w h hf;obtain ⟨f,rfl⟩:∃ g,f=g+1:=⟨f - 1,by omega⟩;have hle:=h.le;have HS:=zz h;have HBB:=zz h.ord.2.2.2;obtain ⟨t,ht⟩:∃ t,Sy.peekM K.C σ 0=t:=⟨_,rfl⟩;have htx:Sy.txt K.C σ=t.text:=by unfold Sy.txt; rw [ht]
 have HPK:=zz (peek_as K σ 0 (by omega) t ht 0 rfl w h);have f2:=fun W=>(tk_fld t.kind t.at_ t.text t.suf t.num t.hex W).2.2
 obtain ⟨b1,h1⟩:∃ b,(t.text.toList==[45])=b:=⟨_,rfl⟩;obtain ⟨b2,h2⟩:∃ b,(t.text.toList==[126])=b:=⟨_,rfl⟩;obtain ⟨b3,h3⟩:∃ b,(t.text.toList==[33])=b:=⟨_,rfl⟩;obtain ⟨b4,h4⟩:∃ b,(t.text.toList==[38])=b:=⟨_,rfl⟩;obtain ⟨b5,h5⟩:∃ b,(t.text.toList==[42])=b:=⟨_,rfl⟩;obtain ⟨s6,h6⟩:∃ b,(t.text.toList==[115,105,122,101,111,102])=b:=⟨_,rfl⟩;obtain ⟨s7,h7⟩:∃ b,(t.text.toList==[40])=b:=⟨_,rfl⟩;have hun:Sy.unOps t.text=(b1 || b2 || b3 || b4 || b5):=by
  unfold Sy.unOps;simp only [eqL];rw [h1,h2,h3,h4,h5]
 have hi6:Sy.isM K.C σ ⟨#[115,105,122,101,111,102]⟩=s6:=by rw [is_txt,htx]; exact h6
 have hi7:Sy.isM K.C σ ⟨#[40]⟩=s7:=by rw [is_txt,htx]; exact h7
 obtain ⟨U,hU⟩:∃ U,Sy.unOps t.text=U:=⟨_,rfl⟩;rw [hU] at hun;obtain ⟨υ,hυ⟩:∃ υ,Sy.nextM K.C σ=υ:=⟨_,rfl⟩;have hm2:Sy.Mo K.C σ υ:=by rw [← hυ]; exact (Sy.Mo.refl hle).next
 have HNX:=zz (fun W (hs:PS W K σ)=>next_any K σ W hs);rw [hυ] at HNX;cases U with
 | true =>
   have hlt:σ.at_ < K.C.T.length:=text_lt (p:=Sy.unOps) (by decide) (by rw [htx]; exact hU);have hrn:=rem_next hlt;rw [hυ] at hrn;have HE:=zz (fun W (hs:PS W K υ)=>(ih f (by omega)).unary υ W hs (by omega));obtain ⟨r2,hr2⟩:∃ r,Sy.E K.C f .unary υ=r:=⟨_,rfl⟩;rw [hr2] at HE;obtain ⟨e1,φ⟩:=r2;have HM:Hid (Sy.E K.C (f+1) .unary σ=(.mk 3 t.text Sy.nt Sy.ty0 0 false [e1],φ)):=zz (by
    conv=>lhs; unfold Sy.E
    simp only [htx,hU,hυ,hr2,if_true])
   have hsp:(b1=true)∨(b1=false∧b2=true)∨(b1=false∧b2=false∧b3=true)∨(b1=false∧b2=false∧b3=false∧b4=true)∨(b1=false∧b2=false∧b3=false∧b4=false∧b5=true):=by
    clear h1 h2 h3 h4 h5;cases b1 with
    | true=>exact (.inl rfl)
    | false =>
      cases b2 with
      | true=>exact (.inr (.inl ⟨rfl,rfl⟩))
      | false =>
        cases b3 with
        | true=>exact (.inr (.inr (.inl ⟨rfl,rfl,rfl⟩)))
        | false =>
          cases b4 with
          | true=>exact (.inr (.inr (.inr (.inl ⟨rfl,rfl,rfl,rfl⟩))))
          | false =>
            cases b5 with
            | true=>exact (.inr (.inr (.inr (.inr ⟨rfl,rfl,rfl,rfl,rfl⟩))))
            | false =>
              exact absurd hun (by decide)
   clear ih h htx ht hun hU hυ hm2 hlt hrn hr2 hi6 hi7 hle hf;rcases hsp with rfl | ⟨rfl,rfl⟩ | ⟨rfl,rfl,rfl⟩ | ⟨rfl,rfl,rfl,rfl⟩ | ⟨rfl,rfl,rfl,rfl,rfl⟩
   all_goals
    go_enter Tryz.func116,Tryz.ntmps116;go_wp2_with fail;refine HPK.out.mono ?_;rintro e w1 ⟨rfl,hk⟩;have HK1:=zz hk;clear hk;go_wp2_with fail;refine (HNX.out w1 (HS.out.no HK1.out)).mono ?_;rintro e w2 ⟨rfl,hat⟩;have HA2:=zz (At.after HK1.out hat);clear hat;go_wp2_with fail;refine (HE.out w2 HA2.out.p).mono ?_;rintro e w3 ⟨a1,rfl,hat,hex⟩;have HA3:=zz (HA2.out.trans hat);have HX3:Hid (φ.code=0→ExAt w3 w.heap.size a1 e1):=zz (fun hc=>(hex hc).mono HA2.out.k.size);clear hat hex;go_wp2_with fail;go_returns;refine ⟨_,rfl,by rw [HM.out]; exact HA3.out.no (((Keeps.refl _ _).alloc _).alloc _),fun hc=>?_⟩;rw [HM.out] at hc ⊢;exact ex_node w3 w.heap.size HA3.out.k.size [a1] [e1] rfl (by simp) 3 t.text Sy.nt Sy.ty0 0 false (one_at (HX3.out hc))
 | false =>
   obtain ⟨rfl,rfl,rfl,rfl,rfl⟩:b1=false∧b2=false∧b3=false∧b4=false∧b5=false:=by
    have h:=hun.symm;simp only [Bool.or_eq_false_iff] at h;obtain ⟨⟨⟨⟨g1,g2⟩,g3⟩,g4⟩,g5⟩:=h;exact ⟨g1,g2,g3,g4,g5⟩
   cases s6 with
   | true =>
     have HSZ:=zz (fun W (hs:PS W K σ)=>size_any K σ W hs);have HM:Hid (Sy.E K.C (f+1) .unary σ=Sy.sizeM K.C σ):=zz (by
      conv=>lhs; unfold Sy.E
      simp only [htx,hU,hi6,if_true,if_neg (show ¬ (false=true) by decide)])
     clear ih h htx ht hun hU hυ hm2 hi6 hi7 hle hf;go_enter Tryz.func116,Tryz.ntmps116;go_wp2_with fail;refine HPK.out.mono ?_;rintro e w1 ⟨rfl,hk⟩;have HK1:=zz hk;clear hk;go_wp2_with fail;refine (HSZ.out w1 (HS.out.no HK1.out)).mono ?_;rintro e w2 ⟨a1,rfl,hat,hex⟩;have HA2:=zz (At.after HK1.out hat);have HX2:Hid ((Sy.sizeM K.C σ).2.code=0→ExAt w2 w.heap.size a1 (Sy.sizeM K.C σ).1):=zz (fun hc=>(hex hc).mono HK1.out.size);clear hat hex;go_wp2_with fail;go_returns;exact ⟨_,rfl,by rw [HM.out]; exact HA2.out,by rw [HM.out]; exact HX2.out⟩
   | false =>
     cases s7 with
     | false =>
       obtain ⟨r1,hr1⟩:∃ r,Sy.primeM K.C σ=r:=⟨_,rfl⟩;have HPR:=zz (fun W (hs:PS W K σ)=>prime_any K σ W hs);rw [hr1] at HPR;have hm3:Sy.Mo K.C σ r1.2:=by rw [← hr1]; exact (Sy.Mo.refl hle).prime
       obtain ⟨e1,φ⟩:=r1;simp only at hm3;have hr3:=rem_mo hm3;have HPO:=zz (fun W a (hB:w.heap.size≤W.heap.size) (hx:φ.code=0→ExAt W w.heap.size a e1) (hs:PS W K φ)=>(ih f (by omega)).post φ W a e1 w.heap.size HBB.out hB hx hs (by omega));have HM:Hid (Sy.E K.C (f+1) .unary σ=Sy.E K.C f (.post e1) φ):=zz (by
        conv=>lhs; unfold Sy.E
        simp only [htx,hU,hi6,hi7,hr1,if_neg (show ¬ (false=true) by decide)])
       clear ih h htx ht hun hU hυ hm2 hi6 hi7 hle hf hr1 hm3 hr3;go_enter Tryz.func116,Tryz.ntmps116;go_wp2_with fail;refine HPK.out.mono ?_;rintro e w1 ⟨rfl,hk⟩;have HK1:=zz hk;clear hk;go_wp2_with fail;refine (HPR.out w1 (HS.out.no HK1.out)).mono ?_;rintro e w2 ⟨a1,rfl,hat,hex⟩;have HA2:=zz (At.after HK1.out hat);have HX2:Hid (φ.code=0→ExAt w2 w.heap.size a1 e1):=zz (fun hc=>(hex hc).mono HK1.out.size);clear hat hex;go_wp2_with fail;refine (HPO.out w2 a1 HA2.out.k.size HX2.out HA2.out.p).mono ?_;rintro e w3 ⟨a2,rfl,hat,hex⟩;have HA3:=zz (HA2.out.trans hat);have HX3:=zz hex;clear hat hex;go_wp2_with fail;go_returns;exact ⟨_,rfl,by rw [HM.out]; exact HA3.out,by rw [HM.out]; exact HX3.out⟩
     | true =>
       have hlt:σ.at_ < K.C.T.length:=Sy.is_lt hi7 (by decide);have hrn:=rem_next hlt;rw [hυ] at hrn;obtain ⟨TB,hTB⟩:∃ b,Sy.typedM K.C υ=b:=⟨_,rfl⟩;have HTY:=zz (fun W (hs:PS W K υ)=>typed_any K υ W hs);rw [hTB] at HTY;cases TB with
       | false =>
         have HE:=zz (fun W (hs:PS W K υ)=>(ih f (by omega)).expr υ W hs (by omega));obtain ⟨r2,hr2⟩:∃ r,Sy.E K.C f .expr υ=r:=⟨_,rfl⟩;have hm3:Sy.Mo K.C υ r2.2:=by rw [← hr2]; exact Sy.E_mo f _ υ hm2.le
         rw [hr2] at HE;obtain ⟨e1,φ⟩:=r2;simp only at hm3;obtain ⟨ψ,hψ⟩:∃ ψ,Sy.wantM K.C φ ⟨#[41]⟩=ψ:=⟨_,rfl⟩;have hm4:Sy.Mo K.C φ ψ:=by rw [← hψ]; exact (Sy.Mo.refl hm3.le).want _
         have HW:=zz (fun W (hs:PS W K φ)=>want_any K φ ⟨#[41]⟩ W hs);rw [hψ] at HW;have hr3:=rem_mo hm3;have hr4:=rem_mo hm4;have HPO:=zz (fun W a (hB:w.heap.size≤W.heap.size) (hx:ψ.code=0→ExAt W w.heap.size a e1) (hs:PS W K ψ)=>(ih f (by omega)).post ψ W a e1 w.heap.size HBB.out hB hx hs (by omega));have HM:Hid (Sy.E K.C (f+1) .unary σ=Sy.E K.C f (.post e1) ψ):=zz (by
          conv=>lhs; unfold Sy.E
          simp only [htx,hU,hi6,hi7,hυ,hTB,hr2,hψ,if_true,if_neg (show ¬ (false=true) by decide)])
         have HCD:Hid (ψ.code=0→φ.code=0):=zz hm4.code;clear ih h htx ht hun hU hυ hm2 hi6 hi7 hle hf hr2 hm3 hm4 hr3 hr4 hψ hTB hlt hrn;go_enter Tryz.func116,Tryz.ntmps116;go_wp2_with fail;refine HPK.out.mono ?_;rintro e w1 ⟨rfl,hk⟩;have HK1:=zz hk;clear hk;go_wp2_with fail;refine (HNX.out w1 (HS.out.no HK1.out)).mono ?_;rintro e w2 ⟨rfl,hat⟩;have HA2:=zz (At.after HK1.out hat);clear hat;go_wp2_with fail;refine (HTY.out w2 HA2.out.p).mono ?_;rintro e w3 ⟨rfl,hk⟩;have HA3:=zz (HA2.out.no hk);clear hk;go_wp2_with fail;refine (HE.out w3 HA3.out.p).mono ?_;rintro e w4 ⟨a1,rfl,hat,hex⟩;have HA4:=zz (HA3.out.trans hat);have HX4:Hid (φ.code=0→ExAt w4 w.heap.size a1 e1):=zz (fun hc=>(hex hc).mono HA3.out.k.size);clear hat hex;go_wp2_with fail;refine (HW.out w4 HA4.out.p).mono ?_;rintro e w5 ⟨rfl,hat⟩;have HA5:=zz (HA4.out.trans hat);have HX5:Hid (ψ.code=0→ExAt w5 w.heap.size a1 e1):=zz (fun hc=>(HX4.out (HCD.out hc)).at_ hat HBB.out);clear hat;go_wp2_with fail;refine (HPO.out w5 a1 HA5.out.k.size HX5.out HA5.out.p).mono ?_;rintro e w6 ⟨a2,rfl,hat,hex⟩;have HA6:=zz (HA5.out.trans hat);have HX6:=zz hex;clear hat hex;go_wp2_with fail;go_returns;exact ⟨_,rfl,by rw [HM.out]; exact HA6.out,by rw [HM.out]; exact HX6.out⟩
       | true =>
         obtain ⟨r2,hr2⟩:∃ r,Sy.typM K.C υ=r:=⟨_,rfl⟩;have HE:=zz (fun W (hs:PS W K υ)=>typ_any K υ W hs);have hm3:Sy.Mo K.C υ r2.2:=by rw [← hr2]; exact (Sy.Mo.refl hm2.le).typ
         rw [hr2] at HE;obtain ⟨⟨tb,ts⟩,φ⟩:=r2;simp only at hm3 HE;obtain ⟨ψ,hψ⟩:∃ ψ,Sy.wantM K.C φ ⟨#[41]⟩=ψ:=⟨_,rfl⟩;have hm4:Sy.Mo K.C φ ψ:=by rw [← hψ]; exact (Sy.Mo.refl hm3.le).want _
         have HW:=zz (fun W (hs:PS W K φ)=>want_any K φ ⟨#[41]⟩ W hs);rw [hψ] at HW;have hr3:=rem_mo hm3;have hr4:=rem_mo hm4;have HUN:=zz (fun W (hs:PS W K ψ)=>(ih f (by omega)).unary ψ W hs (by omega));obtain ⟨r3,hr3'⟩:∃ r,Sy.E K.C f .unary ψ=r:=⟨_,rfl⟩;rw [hr3'] at HUN;obtain ⟨e1,ω⟩:=r3;have HM:Hid (Sy.E K.C (f+1) .unary σ=(.mk 13 Sy.nt Sy.nt ⟨tb,ts⟩ 0 false [e1],ω)):=zz (by
          conv=>lhs; unfold Sy.E
          simp only [htx,hU,hi6,hi7,hυ,hTB,hr2,hψ,hr3',if_true,if_neg (show ¬ (false=true) by decide)])
         clear ih h htx ht hun hU hυ hm2 hi6 hi7 hle hf hr2 hm3 hm4 hr3 hr4 hψ hTB hlt hrn hr3';go_enter Tryz.func116,Tryz.ntmps116;go_wp2_with fail;refine HPK.out.mono ?_;rintro e w1 ⟨rfl,hk⟩;have HK1:=zz hk;clear hk;go_wp2_with fail;refine (HNX.out w1 (HS.out.no HK1.out)).mono ?_;rintro e w2 ⟨rfl,hat⟩;have HA2:=zz (At.after HK1.out hat);clear hat;go_wp2_with fail;refine (HTY.out w2 HA2.out.p).mono ?_;rintro e w3 ⟨rfl,hk⟩;have HA3:=zz (HA2.out.no hk);clear hk;go_wp2_with fail;refine (HE.out w3 HA3.out.p).mono ?_;rintro e w4 ⟨rfl,hat⟩;have HA4:=zz (HA3.out.trans hat);clear hat;go_upto_region 16 with fail
         have hn5:(w4.alloc (.cells #[.int .i64 13,.string ⟨#[]⟩,.string ⟨#[]⟩,.string tb,.int .i64 ts,.int .u64 0,.bool false,.slice none 0 0] 182)).heap[w4.heap.size]?=some (.cells (exRow 13 Sy.nt Sy.nt ⟨tb,ts⟩ 0 false (.slice none 0 0)) 182 (0,0)):=heap_alloc_new _ _;have HA5:Hid (At w (w4.alloc (.cells #[.int .i64 13,.string ⟨#[]⟩,.string ⟨#[]⟩,.string tb,.int .i64 ts,.int .u64 0,.bool false,.slice none 0 0] 182)) K φ):=zz (HA4.out.no ((Keeps.refl _ _).alloc _));have HNB:Hid (K.B≤w4.heap.size∧w.heap.size≤w4.heap.size):=zz ⟨HA4.out.p.ord.2.2.2,HA4.out.k.size⟩;generalize w4.alloc (.cells #[.int .i64 13,.string ⟨#[]⟩,.string ⟨#[]⟩,.string tb,.int .i64 ts,.int .u64 0,.bool false,.slice none 0 0] 182)=w5 at hn5 HA5 ⊢;obtain ⟨N,hN⟩:∃ n,w4.heap.size=n:=⟨_,rfl⟩;rw [hN] at hn5 HNB ⊢;have HN5:=zz hn5;have HNP:Hid (N≠K.P):=zz (by have:=HS.out.ord; have:=HNB.out.1; omega);clear hN hn5;go_wp2_with fail;refine (HW.out w5 HA5.out.p).mono ?_;rintro e w6 ⟨rfl,hat⟩;have HA6:=zz (HA5.out.trans hat);have HN6:Hid (w6.heap[N]?=some (.cells (exRow 13 Sy.nt Sy.nt ⟨tb,ts⟩ 0 false (.slice none 0 0)) 182 (0,0))):=zz ((hat.k.block _ (Array.getElem?_eq_some_iff.1 HN5.out).1 HNP.out).trans HN5.out);clear hat;go_wp2_with fail;refine (HUN.out w6 HA6.out.p).mono ?_;rintro e w7 ⟨a1,rfl,hat,hex⟩;have HA7:=zz (HA6.out.trans hat);have hn7:w7.heap[N]?=some (.cells (exRow 13 Sy.nt Sy.nt ⟨tb,ts⟩ 0 false (.slice none 0 0)) 182 (0,0)):=(hat.k.block _ (Array.getElem?_eq_some_iff.1 HN6.out).1 HNP.out).trans HN6.out;have HX7:Hid (ω.code=0→ExAt w7 w6.heap.size a1 e1):=zz hex;have HN67:Hid (N < w6.heap.size∧N < w7.heap.size∧w.heap.size≤w6.heap.size):=zz ⟨(Array.getElem?_eq_some_iff.1 HN6.out).1,(Array.getElem?_eq_some_iff.1 hn7).1,HA6.out.k.size⟩;clear hat hex;have hn8:(w7.alloc (.cells #[.pointer a1] 94)).heap[N]?=some (.cells (exRow 13 Sy.nt Sy.nt ⟨tb,ts⟩ 0 false (.slice none 0 0)) 182 (0,0)):=by rw [Below.heap_alloc _ _ _ (Array.getElem?_eq_some_iff.1 hn7).1]; exact hn7
         have y7:(w7.alloc (.cells #[.pointer a1] 94)).cell? ⟨N,7,none⟩=some (.slice none 0 0):=by rw [cell_of_row _ N 7 _ _ _ hn8]; rfl
         have z7:(w7.alloc (.cells #[.pointer a1] 94)).frozen? ⟨N,7,none⟩=false:=frozen_of_row _ N 7 _ _ hn8;have HN8:=zz hn8;clear hn7 hn8;have hrow:(w7.alloc (.cells #[.pointer a1] 94)).ownsRow w.heap.size 94 1 (.slice (some ⟨w7.heap.size,0,none⟩) 1 1) 1 (ptrs [a1]) :=
          ⟨rfl,.inr ⟨w7.heap.size,1,#[.pointer a1],rfl,HA7.out.k.size,heap_alloc_new _ _,Nat.le_refl _,by unfold maxLen; omega,rfl,rfl⟩⟩
         have HA8:Hid (At w (w7.alloc (.cells #[.pointer a1] 94)) K ω):=zz (HA7.out.no ((Keeps.refl _ _).alloc _));have HX8:Hid (ω.code=0→ExAt (w7.alloc (.cells #[.pointer a1] 94)) w6.heap.size a1 e1):=zz (fun hc=>(HX7.out hc).no ((Keeps.refl _ _).alloc _));have HQ8:Hid (w7.heap.size≠N):=zz (by have:=HN67.out.2.1; omega);have HR8:=zz hrow;clear hrow;go_wp2_with fail;have HFIN:Hid (∀ W,W=(w7.alloc (.cells #[.pointer a1] 94)).setCell ⟨N,7,none⟩ (.slice (some ⟨w7.heap.size,0,none⟩) 1 1)→At w W K ω∧(ω.code=0→ExAt W w.heap.size (some ⟨N,0,none⟩) (.mk 13 Sy.nt Sy.nt ⟨tb,ts⟩ 0 false [e1]))):=zz (fun W hW=>by
          subst hW;have hk:Keeps (fun q=>q=N) (w7.alloc (.cells #[.pointer a1] 94)) ((w7.alloc (.cells #[.pointer a1] 94)).setCell ⟨N,7,none⟩ (.slice (some ⟨w7.heap.size,0,none⟩) 1 1)):=(Keeps.refl (fun q=>q=N) _).setCell (.inl rfl) _;refine ⟨HA8.out.newR HS.out hk HNB.out.2,fun hc=>?_⟩;have hx:ExAt ((w7.alloc (.cells #[.pointer a1] 94)).setCell ⟨N,7,none⟩ (.slice (some ⟨w7.heap.size,0,none⟩) 1 1)) w.heap.size a1 e1:=((HX8.out hc).keep hk (fun q e=>.inl (by have e2:q=N:=e; have:=HN67.out.1; omega))).mono HN67.out.2.2;refine ExAt.node N (some ⟨w7.heap.size,0,none⟩) 1 [a1] _ _ _ _ _ _ _ HNB.out.2 ?_ (own_kept HR8.out (fun q hq=>hk.block q (own_ltb HR8.out hq) (fun e=>?_))) rfl (one_at hx)
          · rw [heap_setCell_same _ N 7 _ _ _ HN8.out]; rfl
          · have e2:q=N:=e;have e3:w7.heap.size=q:=by injection hq
            exact HQ8.out (by omega))
         have hf:=HFIN.out _ rfl;go_returns;exact ⟨_,rfl,by rw [HM.out]; exact hf.1,fun hc=>by rw [HM.out] at hc ⊢; exact hf.2 hc⟩
end Go.Proofs.YtjgkacggjhobmaaGreatDoor
