import Derived.Test.YtjgkacggjhobmaaGreatDoorLyPkT
set_option maxRecDepth 100000
set_option maxHeartbeats 25600000
set_option linter.unusedSimpArgs false
set_option linter.unusedVariables false
namespace Go.Proofs.YtjgkacggjhobmaaGreatDoor
open Go.RowKit Go.Maps Lx Sy
def nestIn (A B:ByteArray):ByteArray:=(((⟨#[115,116,114,117,99,116,32,97,32,123,32]⟩++A)++⟨#[32,120,59,32]⟩)++B)++⟨#[32,121,59,32,125,59,32]⟩
def nestT (A B n:ByteArray):ByteArray:=((nestIn A B++⟨#[115,116,114,117,99,116,32,111,32,123,32,99,104,97,114,32,99,59,32,115,116,114,117,99,116,32,97,32,109,91]⟩)++n)++⟨#[93,59,32,99,104,97,114,32,100,59,32,125,59]⟩
def nestA (k j:Nat):List Fld:=[⟨k,[120],0⟩,⟨j,[121],0⟩]
def nestO (M:Nat):List Fld:=[⟨0,[99],0⟩,⟨10,[109],M⟩,⟨0,[100],0⟩]
theorem nest_text {k j M:Nat} (hM:M≠0):(nestT (tx (wB k)) (tx (wB j)) (tx (nB M))).data.toList=stB [97] (nestA k j)++32::stB [111] (nestO M):=by
 unfold nestT nestIn stB nestA nestO fB tx;simp [ByteArray.data_append,hM,wB]
theorem nest_in {k j:Nat}:∃ SA AL:Int,placeK (1,1) [97] (nestA k j)=⟨tx [97],SA,AL,(placeK (1,1) [97] (nestA k j)).fields⟩∧1≤SA∧SA≤1000∧1≤AL∧AL≤8∧SA % AL=0:=by
 obtain ⟨a1,a2,a3,a4⟩:1≤(tsz (1,1) k).1∧(tsz (1,1) k).1≤8∧1≤(tsz (1,1) k).2∧(tsz (1,1) k).2≤8:=by
  have hc:k=0∨k=1∨k=2∨k=3∨k=4∨k=5∨k=6∨k=7∨k=8∨k=9∨10≤k:=by omega
  rcases hc with rfl | rfl | rfl | rfl | rfl | rfl | rfl | rfl | rfl | rfl | h <;> first | decide | (unfold tsz; rw [if_neg (by omega),if_neg (by omega)]; decide)
 obtain ⟨b1,b2,b3,b4⟩:1≤(tsz (1,1) j).1∧(tsz (1,1) j).1≤8∧1≤(tsz (1,1) j).2∧(tsz (1,1) j).2≤8:=by
  have hc:j=0∨j=1∨j=2∨j=3∨j=4∨j=5∨j=6∨j=7∨j=8∨j=9∨10≤j:=by omega
  rcases hc with rfl | rfl | rfl | rfl | rfl | rfl | rfl | rfl | rfl | rfl | h <;> first | decide | (unfold tsz; rw [if_neg (by omega),if_neg (by omega)]; decide)
 have e:accF (1,1) (nestA k j)=stepF (1,1) (stepF (1,1) ⟨0,1,[]⟩ ⟨k,[120],0⟩) ⟨j,[121],0⟩:=rfl;have e1:fsz (1,1) ⟨k,[120],0⟩=(tsz (1,1) k).1:=if_pos rfl;have e2:fsz (1,1) ⟨j,[121],0⟩=(tsz (1,1) j).1:=if_pos rfl;have u1:=up_ok (n:=0) (a:=(tsz (1,1) k).2) (by omega) ⟨a3,a4⟩;have s1:(stepF (1,1) ⟨0,1,[]⟩ ⟨k,[120],0⟩).s=(0+(tsz (1,1) k).2 - 1) / (tsz (1,1) k).2 * (tsz (1,1) k).2+(tsz (1,1) k).1:=by unfold stepF; simp only [e1]
 have l1:(stepF (1,1) ⟨0,1,[]⟩ ⟨k,[120],0⟩).a=max 1 (tsz (1,1) k).2:=rfl;have u2:=up_ok (n:=(stepF (1,1) ⟨0,1,[]⟩ ⟨k,[120],0⟩).s) (a:=(tsz (1,1) j).2) (by omega) ⟨b3,b4⟩;have s2:(accF (1,1) (nestA k j)).s=((stepF (1,1) ⟨0,1,[]⟩ ⟨k,[120],0⟩).s+(tsz (1,1) j).2 - 1) / (tsz (1,1) j).2 * (tsz (1,1) j).2+(tsz (1,1) j).1:=by
  rw [e]; show _+fsz (1,1) ⟨j,[121],0⟩=_; rw [e2]
 have l2:(accF (1,1) (nestA k j)).a=max (max 1 (tsz (1,1) k).2) (tsz (1,1) j).2:=rfl;have u3:=up_ok (n:=(accF (1,1) (nestA k j)).s) (a:=(accF (1,1) (nestA k j)).a) (by omega) (by omega);exact ⟨_,_,rfl,by omega,by omega,by omega,by omega,Int.mul_emod_left _ _⟩
theorem nest_out {SA AL:Int} {M:Nat} (hM:M≠0) (hA:1≤AL):placeK (SA,AL) [111] (nestO M)=⟨tx [111],(AL+SA * (M:Int)+1+AL - 1) / AL * AL,AL,[⟨vrF ⟨0,[99],0⟩,0,1⟩,⟨vrF ⟨10,[109],M⟩,AL,SA * (M:Int)⟩,⟨vrF ⟨0,[100],0⟩,AL+SA * (M:Int),1⟩]⟩:=by
 have e1:(1+AL - 1) / AL * AL=AL:=by rw [show 1+AL - 1=AL by omega,Int.ediv_self (by omega),Int.one_mul]
 have e2:(AL+SA * (M:Int)+1 - 1) / 1 * 1=AL+SA * (M:Int):=by simp
 have e3:fsz (SA,AL) ⟨10,[109],M⟩=SA * (M:Int):=if_neg hM;have e4:max (max 1 AL) 1=AL:=by omega
 have h:accF (SA,AL) (nestO M)=⟨AL+SA * (M:Int)+1,AL,[⟨vrF ⟨0,[99],0⟩,0,1⟩,⟨vrF ⟨10,[109],M⟩,AL,SA * (M:Int)⟩,⟨vrF ⟨0,[100],0⟩,AL+SA * (M:Int),1⟩]⟩:=by
  have t0:tsz (SA,AL) 0=(1,1):=by kernel_rfl
  have t1:tsz (SA,AL) 10=(SA,AL):=by kernel_rfl
  have f0:fsz (SA,AL) ⟨0,[99],0⟩=1:=by show (if 0=0 then _ else _)=_; rw [if_pos rfl,t0]
  have f2:fsz (SA,AL) ⟨0,[100],0⟩=1:=by show (if 0=0 then _ else _)=_; rw [if_pos rfl,t0]
  unfold accF nestO;simp only [List.foldl_cons,List.foldl_nil,stepF,f0,f2,e3,t0,t1];rw [show ((0:Int)+1 - 1) / 1 * 1=0 by decide,show (0:Int)+1=1 by decide,e1,e2];simp only [List.nil_append,List.cons_append];rw [show max (max (max (1:Int) 1) AL) 1=AL by omega]
 unfold placeK;rw [h]
theorem nest_fin {SA AL:Int} {M:Nat} (hA:1≤AL) (hA8:AL≤8) (hS:1≤SA) (hS2:SA≤1000) (hM2:M≤20):0≤SA * (M:Int)∧SA * (M:Int)≤20000∧((AL+SA * (M:Int)+1+AL - 1) / AL * AL) % AL=0∧(AL+SA * (M:Int)+1+AL - 1) / AL * AL - (AL+SA * (M:Int)) - 1 < AL∧AL+SA * (M:Int)+1≤(AL+SA * (M:Int)+1+AL - 1) / AL * AL:=by
 have p1:0≤SA * (M:Int):=Int.mul_nonneg (by omega) (by omega);have p2:SA * (M:Int)≤1000 * 20:=Int.mul_le_mul hS2 (by omega) (by omega) (by omega);have h1:(AL+SA * (M:Int)+1+AL - 1) / AL * AL≤AL+SA * (M:Int)+1+AL - 1:=Int.ediv_mul_le _ (by omega);have h2:=(up_ok (n:=AL+SA * (M:Int)+1) (a:=AL) (by omega) ⟨hA,hA8⟩).1;exact ⟨p1,by omega,Int.mul_emod_left _ _,by omega,h2⟩
def KOk (k:Kn):Prop:=k.fields.length≤12∧∀ f∈k.fields,0≤f.v.ty.stars∧f.v.ty.stars≤1∧f.v.ty.base.size≤100∧0≤f.v.num∧f.v.num≤1000
theorem nests_walk (x y z:Int) (hx:I64 x) (hy:I64 y) (hz:I64 z) (w:World) (hl:LaidP w):Calls Tryz.prog 4 #[.int .i64 x,.int .i64 y,.int .i64 z] w fun e w'=>e=.returned (.bool true)∧Keeps No w w':=by
 have HL:=zz hl;obtain ⟨k,hk,hke⟩:=low_nat x 10 (by decide);have HLX:=zz (fun W=>low_any x 10 hx (by decide) W);rw [hke] at HLX;obtain ⟨j,hj,hje⟩:=low_nat y 10 (by decide);have HLY:=zz (fun W=>low_any y 10 hy (by decide) W);rw [hje] at HLY;obtain ⟨m,hm,hme⟩:=low_nat z 20 (by decide);have HLZ:=zz (fun W=>low_any z 20 hz (by decide) W);rw [hme] at HLZ;obtain ⟨M,hM⟩:∃ M,m+1=M:=⟨_,rfl⟩;have hM1:(1:Int)+(m:Int)=(M:Int):=by omega
 have hMb:1≤M∧M≤20:=by omega
 have HMB:=zz hMb;have HMM:=zz hM1;have hk10:k < 10:=by omega
 have hj10:j < 10:=by omega
 have HK:=zz hk10;have HJ:=zz hj10;have hm20:(m:Int)≤19:=by omega
 have hk0:(0:Int)≤(k:Int):=by omega
 have hj0:(0:Int)≤(j:Int):=by omega
 clear hl hx hy hz hke hje hme hM hM1 hMb hm hk10 hj10;go_enter Tryz.func4,Tryz.ntmps4;go_wp2_with fail;refine (types_any w).mono ?_;rintro e w1 ⟨ga,gb,rfl,hty,hk1⟩;have HTY:=zz hty;have HK1:=zz hk1;clear hty hk1;go_wp2_with fail;refine (HLZ.out w1).mono ?_;rintro e w2 ⟨rfl,hk2⟩;have HTY2:=zz (HTY.out.no hk2);have HK2:Hid (Keeps No w w2):=zz (HK1.out.trans hk2 (fun _ _ e=>e));clear hk2 HTY HK1 HLZ;go_upto_region 3 with fail
 rw [HMM.out];have ca:∀ u:KW w2,u.W.cell? ⟨ga,k,none⟩=some (.string (tx (wB k))):=fun u=>u.cell (HTY2.out.a k HK.out)
 have cb:∀ u:KW w2,u.W.cell? ⟨ga,j,none⟩=some (.string (tx (wB j))):=fun u=>u.cell (HTY2.out.a j HJ.out)
 obtain ⟨wa,hwa⟩:∃ b,tx (wB k)=b:=⟨_,rfl⟩;obtain ⟨wb,hwb⟩:∃ b,tx (wB j)=b:=⟨_,rfl⟩;rw [hwa] at ca;rw [hwb] at cb;have hsa:wa.size≤14:=by rw [← hwa]; exact word_most k
 have hsb:wb.size≤14:=by rw [← hwb]; exact word_most j
 have HWA:=zz hwa;have HWB:=zz hwb;have hne:Nonempty (KW w2):=⟨KW.of _⟩;clear hwa hwb;refine wp_region_class (C:=fun W=>∃ u:KW w2,W=u.W) (by kernel_rfl) (by kernel_rfl) ⟨⟨World.drew _,(Keeps.refl _ _).drew⟩,rfl⟩ ?_
 repeat (go_big_quiet_step (first | (go_at_call 7; with_reducible refine kw_call _ (HLX.out _)) | (go_at_call 7; with_reducible refine kw_call _ (HLY.out _))))
 refine wpQuiet_nil ?_;rintro _ ⟨T,rfl⟩;have HK3:Hid (Keeps No w T.W):=zz (HK2.out.trans T.h (fun _ _ e=>e));generalize T.W=w3 at HK3 ⊢;clear ca cb hne;obtain ⟨I,hI⟩:∃ I,((((⟨#[115,116,114,117,99,116,32,97,32,123,32]⟩:ByteArray)++wa)++⟨#[32,120,59,32]⟩)++wb)++⟨#[32,121,59,32,125,59,32]⟩=I:=⟨_,rfl⟩;have hIs:I.size≤100:=by rw [← hI]; simp only [ByteArray.size_append]; show 11+wa.size+4+wb.size+7≤100; omega
 rw [hI];have HI:=zz hI;obtain ⟨q,hq⟩:∃ q,M / 10=q:=⟨_,rfl⟩;obtain ⟨r,hr⟩:∃ r,M % 10=r:=⟨_,rfl⟩;have hb:=HMB.out;have hqd:Int.tdiv (M:Int) 10=(q:Int):=by rw [Int.tdiv_eq_ediv_of_nonneg (by omega)]; omega
 have hrd:Int.tmod (M:Int) 10=(r:Int):=by rw [Int.tmod_eq_emod_of_nonneg (by omega)]; omega
 have hq2:(q:Int)≤2:=by omega
 have hr9:(r:Int)≤9:=by omega
 have hq0:(0:Int)≤(q:Int):=by omega
 have hr0:(0:Int)≤(r:Int):=by omega
 have hM0:(1:Int)≤(M:Int):=by omega
 have hM20:(M:Int)≤20:=by omega
 have HQ:=zz hq;have HR:=zz hr;obtain ⟨N2,hN2⟩:∃ b,tx [UInt8.ofNat (48+q),UInt8.ofNat (48+r)]=b:=⟨_,rfl⟩;have hNs:N2.size=2:=by rw [← hN2]; rfl
 have HNX:Hid (N2.extract 1 2=tx [UInt8.ofNat (48+r)]):=zz (by rw [← hN2]; rfl);have kc:(convert 28 9 (.slice (some ⟨w3.heap.size,0,none⟩) 2 2)).run Tryz.prog (w3.alloc (.cells #[.int .u8 (48+(q:Int)),.int .u8 (48+(r:Int))] 5))=.ok (.string N2) (w3.alloc (.cells #[.int .u8 (48+(q:Int)),.int .u8 (48+(r:Int))] 5)):=by
  have e1:((48+q:Nat):Int)=48+(q:Int):=by omega
  have e2:((48+r:Nat):Int)=48+(r:Int):=by omega
  have hrow:(w3.alloc (.cells #[.int .u8 (48+(q:Int)),.int .u8 (48+(r:Int))] 5)).heap[w3.heap.size]?=some (.cells #[.int .u8 (48+(q:Int)),.int .u8 (48+(r:Int))] 5 (0,0)):=heap_alloc_new _ _;rw [← hN2];exact conv_two _ w3.heap.size (48+q) (48+r) (by omega) (by omega) (by rw [e1,e2]; exact hrow)
 have HN2:=zz hN2;clear hq hr hb hsa hsb hN2;go_upto_region 5 with fail
 clear kc;have HK4:Hid (Keeps No w (w3.alloc (.cells #[.int .u8 (48+(q:Int)),.int .u8 (48+(r:Int))] 5))):=zz (HK3.out.alloc _);generalize w3.alloc (.cells #[.int .u8 (48+(q:Int)),.int .u8 (48+(r:Int))] 5)=w4 at HK4 ⊢;clear HK3 HK2 HTY2 hqd hrd hq2 hr9 hq0 hr0;have hcs:(M:Int) < 10∨¬ (M:Int) < 10:=by omega
 obtain ⟨NN,hNN⟩:∃ b,tx (nB M)=b:=⟨_,rfl⟩;have hNNs:NN.size≤2:=by rw [← hNN]; exact (nB_len M).2
 have hlt:(M:Int) < 10→tx [UInt8.ofNat (48+r)]=NN:=fun h=>by
  rw [← hNN]; unfold nB; rw [if_pos (by omega),← HR.out,Nat.mod_eq_of_lt (by omega)]
 have hge:¬ (M:Int) < 10→N2=NN:=fun h=>by
  rw [← hNN,← HN2.out]; unfold nB; rw [if_neg (by omega),← HR.out,← HQ.out]
 have HNN:=zz hNN;obtain ⟨T,hT⟩:∃ T,((I++(⟨#[115,116,114,117,99,116,32,111,32,123,32,99,104,97,114,32,99,59,32,115,116,114,117,99,116,32,97,32,109,91]⟩:ByteArray))++NN)++⟨#[93,59,32,99,104,97,114,32,100,59,32,125,59]⟩=T:=⟨_,rfl⟩;have hTn:T=nestT (tx (wB k)) (tx (wB j)) (tx (nB M)):=by rw [← hT,← HI.out,HWA.out,HWB.out,hNN]; rfl
 have hM0':M≠0:=by have:=HMB.out; omega
 obtain ⟨SA,AL,hpl,s1,s2,a1,a2,hsa⟩:=nest_in (k:=k) (j:=j);obtain ⟨F1,hF1⟩:∃ F,(placeK (1,1) [97] (nestA k j)).fields=F:=⟨_,rfl⟩;rw [hF1] at hpl;have hokA:(nestA k j).all Fld.ok=true:=rfl;have hokO:(nestO M).all Fld.ok=true:=by
  have h:decide (M < 100)=true:=decide_eq_true (by have:=HMB.out; omega);show (Fld.ok ⟨0,[99],0⟩&&(Fld.ok ⟨10,[109],M⟩&&(Fld.ok ⟨0,[100],0⟩&&true)))=true;have h2:Fld.ok ⟨10,[109],M⟩=true:=by show (nmB [109]&&(!wordL [109]&&decide (M < 100)))=true; rw [h]; rfl
  rw [h2]; rfl
 have hkn:=knows2 (s:=T) (f:=⟨k,[120],0⟩) (fs:=[⟨j,[121],0⟩]) (g:=⟨0,[99],0⟩) (gs:=[⟨10,[109],M⟩,⟨0,[100],0⟩]) (by rw [hTn]; exact nest_text hM0') hokA hokO (by show 2≤12; omega) (by show 3≤12; omega) (fun x hx=>by
  rcases List.mem_cons.1 hx with rfl | hx
  · exact HK.out
  · rw [List.mem_singleton.1 hx]; exact HJ.out) (by
  have e:placeK (1,1) [97] [⟨k,[120],0⟩,⟨j,[121],0⟩]=⟨tx [97],SA,AL,F1⟩:=hpl;rw [e]; exact ⟨s1,s2,a1,a2⟩)
 have e2:placeK (1,1) [97] [⟨k,[120],0⟩,⟨j,[121],0⟩]=⟨tx [97],SA,AL,F1⟩:=hpl;have e3:placeK (SA,AL) [111] [⟨0,[99],0⟩,⟨10,[109],M⟩,⟨0,[100],0⟩]=_:=nest_out (SA:=SA) hM0' a1;have o1:=place_ok (z:=(1,1)) (n:=[97]) hokA (by show 2≤12; omega);have o2:=place_ok (z:=(SA,AL)) (n:=[111]) hokO (by show 3≤12; omega);rw [hpl] at o1;have o2':KOk (placeK (SA,AL) [111] [⟨0,[99],0⟩,⟨10,[109],M⟩,⟨0,[100],0⟩]):=o2;rw [e3] at o2';rw [e2] at hkn;simp only at hkn;rw [e3] at hkn;obtain ⟨n1,n2,n3,n4,n5⟩:=nest_fin (SA:=SA) (AL:=AL) (M:=M) a1 a2 s1 s2 (by have:=HMB.out; omega);obtain ⟨P,hP⟩:∃ P,SA * (M:Int)=P:=⟨_,rfl⟩;rw [hP] at hkn n1 n2 n3 n4 n5 o2';obtain ⟨OS,hOS⟩:∃ Q,(AL+P+1+AL - 1) / AL * AL=Q:=⟨_,rfl⟩;rw [hOS] at hkn n3 n4 n5 o2';have hP2:(M:Int) * SA=P:=by rw [Int.mul_comm]; exact hP
 have HST:=zz (fun W (h:LaidP W)=>structs_any T _ hkn ⟨by show 2≤100; omega,fun kk hk=>by
  rcases List.mem_cons.1 hk with rfl | hk
  · exact o1
  · rw [List.mem_singleton.1 hk]; exact o2'⟩ W h)
 have HSA:Hid (∀ W,LaidP W→Calls Tryz.prog 10 #[.string T,.string ⟨#[83,46,97]⟩,.int .i64 0] W fun e w'=>e=.returned (.int .i64 SA)∧Keeps No W w'):=zz (fun W h=>laySize_any T _ hkn (j:=8) (st:=0) (by decide) (by decide) (szIs_str (.inl rfl) (i:=0) rfl rfl) ⟨by show 0≤SA; omega,by show SA≤_; omega⟩ (by decide) (if_pos rfl).symm W h);have HSO:Hid (∀ W,LaidP W→Calls Tryz.prog 10 #[.string T,.string ⟨#[83,46,111]⟩,.int .i64 1] W fun e w'=>e=.returned (.int .i64 OS)∧Keeps No W w'):=zz (fun W h=>laySize_any T _ hkn (j:=9) (st:=0) (by decide) (by decide) (szIs_str (.inr rfl) (i:=1) rfl rfl) ⟨by show 0≤OS; omega,by show OS≤_; omega⟩ (by decide) (by rw [if_neg (by decide)]; exact (Int.mul_one OS).symm) W h);have HAW:=zz (fun W (h:LaidP W)=>awake_any W h);have HTT:=zz hT;have ht1:Int.tmod SA AL=0:=by rw [Int.tmod_eq_emod_of_nonneg (by omega)]; exact hsa
 have ht2:Int.tmod OS AL=0:=by rw [Int.tmod_eq_emod_of_nonneg (by omega)]; exact n3
 clear hTn hpl hF1 hokA hokO e2 e3 o1 o2 o2' hkn hT hOS hP hsa n3;have HP2:=zz hP2;have HT1:=zz ht1;have HT2:=zz ht2;have HB:=zz (And.intro s1 (And.intro s2 (And.intro a1 (And.intro a2 (And.intro n1 (And.intro n2 (And.intro n4 n5)))))));clear hP2 ht1 ht2 s1 s2 a1 a2 n1 n2 n4 n5;have HLT:=zz hlt;have HGE:=zz hge;clear hlt hge hNN;go_upto_if 48 with fail
 go_cut [10] (fun v wx=>v=.string NN∧w4=wx)
 case first =>
  rcases hcs with hc | hc
  · have hNx:=HNX.out;rw [HLT.out hc] at hNx;go_wp2_with fail;go_meet;exact ⟨rfl,rfl⟩
  · go_wp2_with fail;go_meet;exact ⟨congrArg Value.string (HGE.out hc),rfl⟩
 case rest =>
 obtain ⟨rfl,rfl⟩:=hcut;clear hcs HLT HGE HNX hNs;go_upto_region 8 with fail
 rw [HTT.out];go_wp2_with fail;refine (HST.out w4 (HL.out.no HK4.out)).mono ?_;rintro e w5 ⟨v,l,rfl,hlk,hLS,hk5⟩;obtain ⟨r1,r2,rfl⟩:∃ r1 r2,l=[r1,r2]:=by
  cases l with
  | nil=>cases hlk
  | cons a t=>cases t with
    | nil=>injection hlk with _ h; cases h
    | cons b u=>cases u with
      | nil=>exact ⟨a,b,rfl⟩
      | cons c u=>injection hlk with _ h; injection h with _ h; cases h
 obtain ⟨kk1,fa1,fc1⟩:=r1;obtain ⟨kk2,fa2,fc2⟩:=r2;have hr1:kk1=⟨tx [97],SA,AL,F1⟩:=by injection hlk
 have hr2:kk2=⟨tx [111],OS,AL,[⟨vrF ⟨0,[99],0⟩,0,1⟩,⟨vrF ⟨10,[109],M⟩,AL,P⟩,⟨vrF ⟨0,[100],0⟩,AL+P,1⟩]⟩:=by injection hlk with _ h; injection h
 subst hr1;subst hr2;obtain ⟨g,c,hv,hc1⟩:=hLS.form (by simp);have hv1:v=.slice (some ⟨g,0,none⟩) 2 c:=hv;clear hv;subst hv1;obtain ⟨gf,hgf,hf⟩:=hLS.fform (r:=(⟨tx [111],OS,AL,[⟨vrF ⟨0,[99],0⟩,0,1⟩,⟨vrF ⟨10,[109],M⟩,AL,P⟩,⟨vrF ⟨0,[100],0⟩,AL+P,1⟩]⟩,fa2,fc2)) (by simp) (by show 0 < 3; omega);have hgf2:fa2=some ⟨gf,0,none⟩:=hgf;clear hgf;subst hgf2;have hn1:Hid (w5.cell? ⟨g,0,none⟩=some (.string (tx [97]))∧w5.cell? ⟨g,1,none⟩=some (.int .i64 SA)∧w5.cell? ⟨g,2,none⟩=some (.int .i64 AL)∧w5.cell? ⟨g,3,none⟩=some (.slice fa1 F1.length fc1)):=zz ⟨hc1 0 _ rfl 0 _ rfl,hc1 0 _ rfl 1 _ rfl,hc1 0 _ rfl 2 _ rfl,hc1 0 _ rfl 3 _ rfl⟩;have hn2:Hid (w5.cell? ⟨g,4,none⟩=some (.string (tx [111]))∧w5.cell? ⟨g,5,none⟩=some (.int .i64 OS)∧w5.cell? ⟨g,6,none⟩=some (.int .i64 AL)∧w5.cell? ⟨g,7,none⟩=some (.slice (some ⟨gf,0,none⟩) 3 fc2)):=zz ⟨hc1 1 _ rfl 0 _ rfl,hc1 1 _ rfl 1 _ rfl,hc1 1 _ rfl 2 _ rfl,hc1 1 _ rfl 3 _ rfl⟩;have hn3:Hid (w5.cell? ⟨gf,8,none⟩=some (.int .i64 AL)∧w5.cell? ⟨gf,9,none⟩=some (.int .i64 P)∧w5.cell? ⟨gf,13,none⟩=some (.int .i64 (AL+P))):=zz ⟨hf 1 _ rfl 3 _ rfl,hf 1 _ rfl 4 _ rfl,hf 2 _ rfl 3 _ rfl⟩;have HK5:Hid (Keeps No w w5):=zz (HK4.out.trans hk5 (fun _ _ e=>e));clear hlk hLS hk5 hc1 hf HST HK4;go_upto_region 9 with fail
 have hk6:Keeps No w5 (w5.alloc (.cells #[.int .i64 0,.int .i64 0] 34)):=(Keeps.refl _ _).alloc _;have hr6:(w5.alloc (.cells #[.int .i64 0,.int .i64 0] 34)).heap[w5.heap.size]?=some (.cells #[.int .i64 0,.int .i64 0] 34 (0,0)):=heap_alloc_new _ _;generalize w5.alloc (.cells #[.int .i64 0,.int .i64 0] 34)=w6 at hk6 hr6 ⊢;obtain ⟨V,hV⟩:∃ q,w5.heap.size=q:=⟨_,rfl⟩;rw [hV] at hr6 ⊢;have v0:w6.cell? ⟨V,0,none⟩=some (.int .i64 0):=by rw [cell_of_row w6 V 0 _ _ _ hr6]; rfl
 have g0:=hk6.cell0 hn1.out.1;have g1:=hk6.cell0 hn1.out.2.1;have g2:=hk6.cell0 hn1.out.2.2.1;have g3:=hk6.cell0 hn1.out.2.2.2;have g4:=hk6.cell0 hn2.out.1;have g5:=hk6.cell0 hn2.out.2.1;have g6:=hk6.cell0 hn2.out.2.2.1;have g7:=hk6.cell0 hn2.out.2.2.2;have HN3:Hid (w6.cell? ⟨gf,8,none⟩=some (.int .i64 AL)∧w6.cell? ⟨gf,9,none⟩=some (.int .i64 P)∧w6.cell? ⟨gf,13,none⟩=some (.int .i64 (AL+P))):=zz ⟨hk6.cell0 hn3.out.1,hk6.cell0 hn3.out.2.1,hk6.cell0 hn3.out.2.2⟩;have HK6:Hid (Keeps No w w6):=zz (HK5.out.trans hk6 (fun _ _ e=>e));clear hk6 hr6 hV hn1 hn2 hn3 HK5;obtain ⟨ta,hta⟩:∃ x,tx [97]=x:=⟨_,rfl⟩;obtain ⟨tq,hto⟩:∃ x,tx [111]=x:=⟨_,rfl⟩;rw [hta] at g0;rw [hto] at g4;obtain ⟨FL,hFL⟩:∃ x,F1.length=x:=⟨_,rfl⟩;rw [hFL] at g3;clear hta hto hFL;go_upto_region 11 with fail
 clear v0;have u0:∀ u:KW w6,u.W.cell? ⟨g,0,none⟩=some (.string ta):=fun u=>u.cell g0
 have u1:∀ u:KW w6,u.W.cell? ⟨g,1,none⟩=some (.int .i64 SA):=fun u=>u.cell g1
 have u2:∀ u:KW w6,u.W.cell? ⟨g,2,none⟩=some (.int .i64 AL):=fun u=>u.cell g2
 have u3:∀ u:KW w6,u.W.cell? ⟨g,3,none⟩=some (.slice fa1 FL fc1):=fun u=>u.cell g3
 have u4:∀ u:KW w6,u.W.cell? ⟨g,4,none⟩=some (.string tq):=fun u=>u.cell g4
 have u5:∀ u:KW w6,u.W.cell? ⟨g,5,none⟩=some (.int .i64 OS):=fun u=>u.cell g5
 have u6:∀ u:KW w6,u.W.cell? ⟨g,6,none⟩=some (.int .i64 AL):=fun u=>u.cell g6
 have u7:∀ u:KW w6,u.W.cell? ⟨g,7,none⟩=some (.slice (some ⟨gf,0,none⟩) 3 fc2):=fun u=>u.cell g7
 have hne:Nonempty (KW w6):=⟨KW.of _⟩;clear g0 g1 g2 g3 g4 g5 g6 g7;go_cut [14,15] (fun p q wx=>∃ I O:Nat,p=.pointer (some ⟨I,0,none⟩)∧q=.pointer (some ⟨O,0,none⟩)∧Hid (Keeps No w6 wx∧wx.heap[I]?=some (.cells #[.string ta,.int .i64 SA,.int .i64 AL,.slice fa1 FL fc1] 39 (0,0))∧wx.heap[O]?=some (.cells #[.string tq,.int .i64 OS,.int .i64 AL,.slice (some ⟨gf,0,none⟩) 3 fc2] 39 (0,0))))
 case first =>
  refine Mix.wp_region_mix (fun W'=>∃ u:KW w6,W'=u.W) [] (by kernel_rfl) ?_;have HV0:Hid (Keeps No w6 w6.drew):=zz ((Keeps.refl _ w6).drew);generalize w6.drew=v0 at HV0 ⊢;refine Mix.mix_seg 0 6 4 (by kernel_rfl) (by kernel_rfl) rfl rfl ⟨⟨v0,HV0.out⟩,rfl⟩ ?_;simp only [zp1,zp2,zp3,zp4]
  repeat (go_big_quiet_step (fail))
  refine wpQuiet_nil ?_;clear u0 u1 u2 u3 u4 u5 u6 u7;refine Mix.mix_two 6 7 3 (by kernel_rfl) rfl rfl rfl ?_ ?_
  case' refine_1 =>
   simp only [zp1,zp2,zp3,zp4];go_wp2_with fail;have hkI:Keeps No v0 (v0.alloc (.cells #[.string ⟨#[]⟩,.int .i64 0,.int .i64 0,.slice none 0 0] 39)):=(Keeps.refl _ _).alloc _;have hrI:(v0.alloc (.cells #[.string ⟨#[]⟩,.int .i64 0,.int .i64 0,.slice none 0 0] 39)).heap[v0.heap.size]?=some (.cells #[.string ⟨#[]⟩,.int .i64 0,.int .i64 0,.slice none 0 0] 39 (0,0)):=heap_alloc_new _ _;generalize v0.alloc (.cells #[.string ⟨#[]⟩,.int .i64 0,.int .i64 0,.slice none 0 0] 39)=v1 at hkI hrI ⊢;obtain ⟨I,hI⟩:∃ q,v0.heap.size=q:=⟨_,rfl⟩;rw [hI] at hrI ⊢;refine ⟨.inr ⟨⟨v1,HV0.out.trans hkI (fun _ _ e=>e)⟩,rfl⟩,?_⟩;refine Mix.mix_one 7 2 (by kernel_rfl) rfl rfl ?_;simp only [zp1,zp2,zp3,zp4];go_wp2_with fail;have hkO:Keeps No v1 (v1.alloc (.cells #[.string ⟨#[]⟩,.int .i64 0,.int .i64 0,.slice none 0 0] 39)):=(Keeps.refl _ _).alloc _;have hrO:(v1.alloc (.cells #[.string ⟨#[]⟩,.int .i64 0,.int .i64 0,.slice none 0 0] 39)).heap[v1.heap.size]?=some (.cells #[.string ⟨#[]⟩,.int .i64 0,.int .i64 0,.slice none 0 0] 39 (0,0)):=heap_alloc_new _ _;generalize v1.alloc (.cells #[.string ⟨#[]⟩,.int .i64 0,.int .i64 0,.slice none 0 0] 39)=v2 at hkO hrO ⊢;obtain ⟨O,hO⟩:∃ q,v1.heap.size=q:=⟨_,rfl⟩;rw [hO] at hrO ⊢;have HIO:Hid (I≠O):=zz (by have:=(Array.getElem?_eq_some_iff.1 hrI).1; omega);have hrI2:=(hkO.block _ (Array.getElem?_eq_some_iff.1 hrI).1 (fun e=>e)).trans hrI;have hrO2:=hrO;have HV2:Hid (Keeps No w6 v2):=zz ((HV0.out.trans hkI (fun _ _ e=>e)).trans hkO (fun _ _ e=>e))
  case' refine_2 =>
   simp only [zp1,zp2,zp3,zp4];go_wp2_with fail;have hkO:Keeps No v0 (v0.alloc (.cells #[.string ⟨#[]⟩,.int .i64 0,.int .i64 0,.slice none 0 0] 39)):=(Keeps.refl _ _).alloc _;have hrO:(v0.alloc (.cells #[.string ⟨#[]⟩,.int .i64 0,.int .i64 0,.slice none 0 0] 39)).heap[v0.heap.size]?=some (.cells #[.string ⟨#[]⟩,.int .i64 0,.int .i64 0,.slice none 0 0] 39 (0,0)):=heap_alloc_new _ _;generalize v0.alloc (.cells #[.string ⟨#[]⟩,.int .i64 0,.int .i64 0,.slice none 0 0] 39)=v1 at hkO hrO ⊢;obtain ⟨O,hO⟩:∃ q,v0.heap.size=q:=⟨_,rfl⟩;rw [hO] at hrO ⊢;refine ⟨.inr ⟨⟨v1,HV0.out.trans hkO (fun _ _ e=>e)⟩,rfl⟩,?_⟩;refine Mix.mix_one 6 2 (by kernel_rfl) rfl rfl ?_;simp only [zp1,zp2,zp3,zp4];go_wp2_with fail;have hkI:Keeps No v1 (v1.alloc (.cells #[.string ⟨#[]⟩,.int .i64 0,.int .i64 0,.slice none 0 0] 39)):=(Keeps.refl _ _).alloc _;have hrI:(v1.alloc (.cells #[.string ⟨#[]⟩,.int .i64 0,.int .i64 0,.slice none 0 0] 39)).heap[v1.heap.size]?=some (.cells #[.string ⟨#[]⟩,.int .i64 0,.int .i64 0,.slice none 0 0] 39 (0,0)):=heap_alloc_new _ _;generalize v1.alloc (.cells #[.string ⟨#[]⟩,.int .i64 0,.int .i64 0,.slice none 0 0] 39)=v2 at hkI hrI ⊢;obtain ⟨I,hI⟩:∃ q,v1.heap.size=q:=⟨_,rfl⟩;rw [hI] at hrI ⊢;have HIO:Hid (I≠O):=zz (by have:=(Array.getElem?_eq_some_iff.1 hrO).1; omega);have hrO2:=(hkI.block _ (Array.getElem?_eq_some_iff.1 hrO).1 (fun e=>e)).trans hrO;have hrI2:=hrI;have HV2:Hid (Keeps No w6 v2):=zz ((HV0.out.trans hkO (fun _ _ e=>e)).trans hkI (fun _ _ e=>e))
  all_goals
   have HI0:Hid (w6.heap.size≤I):=zz (by have:=HV0.out.size; have:=hkI.size; have:=hkO.size; omega);have HO0:Hid (w6.heap.size≤O):=zz (by have:=HV0.out.size; have:=hkI.size; have:=hkO.size; omega);refine ⟨.inr ⟨⟨v2,HV2.out⟩,rfl⟩,?_⟩;have HRO:=zz hrO2;have HRI:=zz hrI2;clear hkI hkO hrI hrO hrI2 hrO2 hI hO HV0;have y0:v2.cell? ⟨I,0,none⟩=some (.string ⟨#[]⟩):=by rw [cell_of_row v2 I 0 _ _ _ HRI.out]; rfl
   have y1:v2.cell? ⟨I,1,none⟩=some (.int .i64 0):=by rw [cell_of_row v2 I 1 _ _ _ HRI.out]; rfl
   have y2:v2.cell? ⟨I,2,none⟩=some (.int .i64 0):=by rw [cell_of_row v2 I 2 _ _ _ HRI.out]; rfl
   have y3:v2.cell? ⟨I,3,none⟩=some (.slice none 0 0):=by rw [cell_of_row v2 I 3 _ _ _ HRI.out]; rfl
   have z0:v2.frozen? ⟨I,0,none⟩=false:=frozen_of_row v2 I 0 _ _ HRI.out;have z1:v2.frozen? ⟨I,1,none⟩=false:=frozen_of_row v2 I 1 _ _ HRI.out;have z2:v2.frozen? ⟨I,2,none⟩=false:=frozen_of_row v2 I 2 _ _ HRI.out;have z3:v2.frozen? ⟨I,3,none⟩=false:=frozen_of_row v2 I 3 _ _ HRI.out;refine Mix.mix_one 8 1 (by kernel_rfl) rfl rfl ?_;simp only [zp1,zp2,zp3,zp4];go_wp2_with fail;obtain ⟨hk3,hr3⟩:=four_set (a:=.string ta) (b:=.int .i64 SA) (c:=.int .i64 AL) (d:=.slice fa1 FL fc1) HRI.out;generalize (((v2.setCell ⟨I,0,none⟩ (.string ta)).setCell ⟨I,1,none⟩ (.int .i64 SA)).setCell ⟨I,2,none⟩ (.int .i64 AL)).setCell ⟨I,3,none⟩ (.slice fa1 FL fc1)=v3 at hk3 hr3 ⊢;have HV3:Hid (Keeps No w6 v3):=zz (HV2.out.trans hk3 (fun q hq e=>by have:=HI0.out; omega));have HRO3:Hid (v3.heap[O]?=some (.cells #[.string ⟨#[]⟩,.int .i64 0,.int .i64 0,.slice none 0 0] 39 (0,0))):=zz ((hk3.block _ (Array.getElem?_eq_some_iff.1 HRO.out).1 (fun e=>HIO.out e.symm)).trans HRO.out);have HRI3:=zz hr3;clear y0 y1 y2 y3 z0 z1 z2 z3 hk3 hr3 HV2 HRO HRI;refine ⟨.inr ⟨⟨v3,HV3.out⟩,rfl⟩,?_⟩;have y0:v3.cell? ⟨O,0,none⟩=some (.string ⟨#[]⟩):=by rw [cell_of_row v3 O 0 _ _ _ HRO3.out]; rfl
   have y1:v3.cell? ⟨O,1,none⟩=some (.int .i64 0):=by rw [cell_of_row v3 O 1 _ _ _ HRO3.out]; rfl
   have y2:v3.cell? ⟨O,2,none⟩=some (.int .i64 0):=by rw [cell_of_row v3 O 2 _ _ _ HRO3.out]; rfl
   have y3:v3.cell? ⟨O,3,none⟩=some (.slice none 0 0):=by rw [cell_of_row v3 O 3 _ _ _ HRO3.out]; rfl
   have z0:v3.frozen? ⟨O,0,none⟩=false:=frozen_of_row v3 O 0 _ _ HRO3.out;have z1:v3.frozen? ⟨O,1,none⟩=false:=frozen_of_row v3 O 1 _ _ HRO3.out;have z2:v3.frozen? ⟨O,2,none⟩=false:=frozen_of_row v3 O 2 _ _ HRO3.out;have z3:v3.frozen? ⟨O,3,none⟩=false:=frozen_of_row v3 O 3 _ _ HRO3.out;refine Mix.mix_one 9 0 (by kernel_rfl) rfl rfl ?_;simp only [zp1,zp2,zp3,zp4];go_wp2_with fail;obtain ⟨hk4,hr4⟩:=four_set (a:=.string tq) (b:=.int .i64 OS) (c:=.int .i64 AL) (d:=.slice (some ⟨gf,0,none⟩) 3 fc2) HRO3.out;generalize (((v3.setCell ⟨O,0,none⟩ (.string tq)).setCell ⟨O,1,none⟩ (.int .i64 OS)).setCell ⟨O,2,none⟩ (.int .i64 AL)).setCell ⟨O,3,none⟩ (.slice (some ⟨gf,0,none⟩) 3 fc2)=v4 at hk4 hr4 ⊢;have HV4:Hid (Keeps No w6 v4):=zz (HV3.out.trans hk4 (fun q hq e=>by have:=HO0.out; omega));have hri4:v4.heap[I]?=some (.cells #[.string ta,.int .i64 SA,.int .i64 AL,.slice fa1 FL fc1] 39 (0,0)):=(hk4.block _ (Array.getElem?_eq_some_iff.1 HRI3.out).1 (fun e=>HIO.out e)).trans HRI3.out;clear y0 y1 y2 y3 z0 z1 z2 z3 hk4 HV3 HRO3 HRI3;refine ⟨.inr ⟨⟨v4,HV4.out⟩,rfl⟩,?_⟩;refine Mix.mix_end (by kernel_rfl) ?_;go_wp2_with fail;go_meet;exact ⟨I,O,rfl,rfl,zz ⟨HV4.out,hri4,hr4⟩⟩
 case rest =>
 obtain ⟨I,O,rfl,rfl,hcc⟩:=hcut;clear u0 u1 u2 u3 u4 u5 u6 u7;generalize wc=v4 at hcc ⊢;obtain ⟨hv4,hri4,hr4⟩:=hcc.out;have HV4:=zz hv4;clear hcc hv4;clear hne;obtain ⟨b1,b2,b3,b4,b5,b6,b7,b8⟩:=HB.out;have hP2:=HP2.out;have ht1:=HT1.out;have ht2:=HT2.out;have c1:¬ AL < 1:=by omega
 have c2:¬ AL=0:=by omega
 have c3:OS≤20100:=by omega
 have c4:0≤OS:=by omega
 have c5:OS - (AL+P) - 1 < AL:=b7;have i1:v4.cell? ⟨I,1,none⟩=some (.int .i64 SA):=by rw [cell_of_row v4 I 1 _ _ _ hri4]; rfl
 have i2:v4.cell? ⟨I,2,none⟩=some (.int .i64 AL):=by rw [cell_of_row v4 I 2 _ _ _ hri4]; rfl
 have o1:v4.cell? ⟨O,1,none⟩=some (.int .i64 OS):=by rw [cell_of_row v4 O 1 _ _ _ hr4]; rfl
 have o2:v4.cell? ⟨O,2,none⟩=some (.int .i64 AL):=by rw [cell_of_row v4 O 2 _ _ _ hr4]; rfl
 have o3:v4.cell? ⟨O,3,none⟩=some (.slice (some ⟨gf,0,none⟩) 3 fc2):=by rw [cell_of_row v4 O 3 _ _ _ hr4]; rfl
 have f1:=HV4.out.cell0 HN3.out.1;have f2:=HV4.out.cell0 HN3.out.2.1;have f3:=HV4.out.cell0 HN3.out.2.2;have HK7:Hid (Keeps No w v4):=zz (HK6.out.trans HV4.out (fun _ _ e=>e));clear hri4 hr4 HV4 HN3 HK6;have E1:∀ u:KW v4,u.W.cell? ⟨I,1,none⟩=some (.int .i64 SA):=fun u=>u.cell i1
 have E2:∀ u:KW v4,u.W.cell? ⟨I,2,none⟩=some (.int .i64 AL):=fun u=>u.cell i2
 have E3:∀ u:KW v4,u.W.cell? ⟨O,1,none⟩=some (.int .i64 OS):=fun u=>u.cell o1
 have E4:∀ u:KW v4,u.W.cell? ⟨O,2,none⟩=some (.int .i64 AL):=fun u=>u.cell o2
 have E5:∀ u:KW v4,u.W.cell? ⟨O,3,none⟩=some (.slice (some ⟨gf,0,none⟩) 3 fc2):=fun u=>u.cell o3
 have E6:∀ u:KW v4,u.W.cell? ⟨gf,8,none⟩=some (.int .i64 AL):=fun u=>u.cell f1
 have E7:∀ u:KW v4,u.W.cell? ⟨gf,9,none⟩=some (.int .i64 P):=fun u=>u.cell f2
 have E8:∀ u:KW v4,u.W.cell? ⟨gf,13,none⟩=some (.int .i64 (AL+P)):=fun u=>u.cell f3
 have CSA:=zz (fun u:KW v4=>HSA.out u.W (HL.out.no (HK7.out.trans u.h (fun _ _ e=>e))));have CSO:=zz (fun u:KW v4=>HSO.out u.W (HL.out.no (HK7.out.trans u.h (fun _ _ e=>e))));have CAW:=zz (fun u:KW v4=>HAW.out u.W (HL.out.no (HK7.out.trans u.h (fun _ _ e=>e))));have hne:Nonempty (KW v4):=⟨KW.of _⟩;go_wp2_with fail;clear i1 i2 o1 o2 o3 f1 f2 f3;refine wp_region_class (C:=fun W=>∃ u:KW v4,W=u.W) (by kernel_rfl) (fast_lex 6 91 (by decide) (by kernel_rfl) (by kernel_rfl)) ⟨⟨World.drew _,(Keeps.refl _ _).drew⟩,rfl⟩ ?_
 repeat (go_big_quiet_step (first | (go_at_call 10; with_reducible refine kw_call _ (CSA.out _)) | (go_at_call 10; with_reducible refine kw_call _ (CSO.out _)) | (go_at_call 5; with_reducible refine kw_call _ (CAW.out _))))
 refine wpQuiet_nil ?_;rintro _ ⟨T2,rfl⟩;go_wp2_with fail;go_returns;exact ⟨rfl,HK7.out.trans T2.h (fun _ _ e=>e)⟩
end Go.Proofs.YtjgkacggjhobmaaGreatDoor
