import Derived.Test.YtjgkacggjhobmaaGreatDoorLyPkR
set_option maxRecDepth 100000
set_option maxHeartbeats 25600000
set_option linter.unusedSimpArgs false
set_option linter.unusedVariables false
namespace Go.Proofs.YtjgkacggjhobmaaGreatDoor
open Go.RowKit Go.Maps Lx Sy
structure PL (w wr:World) (S:Nat) (name:ByteArray) (r:Ac) (fa:Option Addr) (fc:Nat):Prop where
 k:Keeps No w wr
 row:wr.heap[S]?=some (.cells #[.string name,.int .i64 r.s,.int .i64 r.a,.slice fa r.l.length fc] 54 (0,0))
 own:wr.ownsRow w.heap.size 60 7 (.slice fa r.l.length fc) r.l.length (r.l.flatMap kfVals)
 ne:∀ q,(Value.slice fa r.l.length fc).ownBlock=some q→q≠S
 S0:w.heap.size≤S
theorem PL.lt {w wr:World} {S:Nat} {name:ByteArray} {r:Ac} {fa:Option Addr} {fc:Nat} (h:PL w wr S name r fa fc):S < wr.heap.size:=(Array.getElem?_eq_some_iff.1 h.row).1
theorem PL.no {w wr w':World} {S:Nat} {name:ByteArray} {r:Ac} {fa:Option Addr} {fc:Nat} (h:PL w wr S name r fa fc) (hk:Keeps No wr w'):PL w w' S name r fa fc :=
 ⟨h.k.trans hk (fun _ _ e=>e),(hk.block _ h.lt (fun e=>e)).trans h.row,own_kept h.own (fun q hq=>hk.block q (own_ltb h.own hq) (fun e=>e)),h.ne,h.S0⟩
theorem PL.cell {w wr:World} {S:Nat} {name:ByteArray} {r:Ac} {fa:Option Addr} {fc:Nat} (h:PL w wr S name r fa fc) {j:Nat} {v:Value} (hv:#[Value.string name,.int .i64 r.s,.int .i64 r.a,.slice fa r.l.length fc][j]?=some v):wr.cell? ⟨S,j,none⟩=some v:=by
 rw [cell_of_row wr S j _ _ _ h.row]; exact hv
theorem PL.frozen {w wr:World} {S:Nat} {name:ByteArray} {r:Ac} {fa:Option Addr} {fc:Nat} (h:PL w wr S name r fa fc) (j:Nat):wr.frozen? ⟨S,j,none⟩=false:=frozen_of_row wr S j _ _ h.row
theorem PL.set_s {w wr:World} {S:Nat} {name:ByteArray} {r:Ac} {fa:Option Addr} {fc:Nat} (h:PL w wr S name r fa fc) (x:Int):PL w (wr.setCell ⟨S,1,none⟩ (.int .i64 x)) S name ⟨x,r.a,r.l⟩ fa fc:=by
 have hk:Keeps (fun q=>q=S) wr (wr.setCell ⟨S,1,none⟩ (.int .i64 x)):=(Keeps.refl (fun q=>q=S) wr).setCell (.inl rfl) _;exact ⟨h.k.trans hk (fun q hq e=>by subst e; exact absurd hq (by have:=h.S0; omega)),by rw [heap_setCell_same wr S 1 _ _ _ h.row]; rfl,own_kept h.own (fun q hq=>hk.block q (own_ltb h.own hq) (h.ne q hq)),h.ne,h.S0⟩
theorem PL.set_a {w wr:World} {S:Nat} {name:ByteArray} {r:Ac} {fa:Option Addr} {fc:Nat} (h:PL w wr S name r fa fc) (x:Int):PL w (wr.setCell ⟨S,2,none⟩ (.int .i64 x)) S name ⟨r.s,x,r.l⟩ fa fc:=by
 have hk:Keeps (fun q=>q=S) wr (wr.setCell ⟨S,2,none⟩ (.int .i64 x)):=(Keeps.refl (fun q=>q=S) wr).setCell (.inl rfl) _;exact ⟨h.k.trans hk (fun q hq e=>by subst e; exact absurd hq (by have:=h.S0; omega)),by rw [heap_setCell_same wr S 2 _ _ _ h.row]; rfl,own_kept h.own (fun q hq=>hk.block q (own_ltb h.own hq) (h.ne q hq)),h.ne,h.S0⟩
theorem PL.push {w v2 v3:World} {S:Nat} {name:ByteArray} {r:Ac} {fa:Option Addr} {fc:Nat} (h:PL w v2 S name r fa fc) {y:Kf} {g' cap:Nat}
    (ho:v3.ownsRow w.heap.size 60 7 (.slice (some ⟨g',0,none⟩) (r.l.length+1) cap) (r.l.length+1) ((r.l++[y]).flatMap kfVals)) (hg:v2.grownBy v3 (Value.slice fa r.l.length fc).ownBlock) (hgo:(Value.slice fa r.l.length fc).ownBlock=some g'∨v2.heap.size≤g') :
    PL w (v3.setCell ⟨S,3,none⟩ (.slice (some ⟨g',0,none⟩) (r.l.length+1) cap)) S name ⟨r.s,r.a,r.l++[y]⟩ (some ⟨g',0,none⟩) cap:=by
 have hk:Keeps (fun q=>(Value.slice fa r.l.length fc).ownBlock=some q) v2 v3:=(Keeps.refl _ _).grown hg (fun q e=>.inl e);have hn3:v3.heap[S]?=some (.cells _ _ (0,0)):=(hk.block _ h.lt (fun e=>h.ne S e rfl)).trans h.row;have hks:Keeps (fun q=>q=S) v3 (v3.setCell ⟨S,3,none⟩ (.slice (some ⟨g',0,none⟩) (r.l.length+1) cap)):=(Keeps.refl (fun q=>q=S) v3).setCell (.inl rfl) _;have hgS:g'≠S:=fun e=>by
  rcases hgo with e2 | e2
  · exact h.ne g' e2 e
  · have:=h.lt; omega
 have hlen:(r.l++[y]).length=r.l.length+1:=by simp
 refine ⟨(h.k.trans hk (fun q hq e=>absurd hq (by have:=own_lo h.own q e; omega))).trans hks (fun q hq e=>by subst e; exact absurd hq (by have:=h.S0; omega)),?_,?_,?_,h.S0⟩
 · rw [heap_setCell_same v3 S 3 _ _ _ hn3,hlen]; rfl
 · rw [hlen];exact own_kept ho (fun q hq=>hks.block q (own_ltb ho hq) (fun e=>by
    have e1:g'=q:=by injection hq
    exact hgS (e1.trans e)))
 · intro q hq e;have e1:g'=q:=by rw [hlen] at hq; injection hq
   exact hgS (e1.trans e)
def PlacePost (w:World) (k:Kn) (e:Ending) (w':World):Prop:=∃ q fa fc,e=.returned (.pointer (some ⟨q,0,none⟩))∧Keeps No w w'∧KnD w' (fun q=>w.heap.size≤q) q k fa fc
theorem place_any {B:Nat} {X:Tx} {ks:List Kn} {z:Int × Int} (hz:Zok z) (w:World) (hT:Tb w B X ks) {D:Nat→Prop} {N:Nat} {at_:Int} {name:List UInt8} {fs:List Fld} (hI:ItD w D (some ⟨N,0,none⟩) (itS at_ name fs))
    (hok:fs.all Fld.ok=true) (hl:fs.length≤12) (hsa:∀ f∈fs,10≤f.k→SA ks X z) :
    Calls Tryz.prog 26 #[.pointer (some ⟨X.P,0,none⟩),.pointer (some ⟨N,0,none⟩)] w (PlacePost w (placeK z name fs)):=by
 have HT:=zz hT;have hnum:∀ f∈fs,f.num < 100:=fun f hf=>by
  have:=List.all_eq_true.1 hok f hf;unfold Fld.ok at this;rw [Bool.and_eq_true,Bool.and_eq_true,decide_eq_true_eq] at this;exact this.2.2
 have HN:=zz hnum;have HSA:=zz hsa;have HZ:=zz hz;obtain ⟨va,vc,hrow,hvs⟩:∃ va vc,(∃ a b c d e,w.heap[N]?=some (.cells (itRow 1 at_ ⟨tx name,Sy.ty0,false,0⟩ (.slice va fs.length vc) a b c d e) 97 (0,0)))∧RwD w D 58 5 (.slice va fs.length vc) fs.length ((fs.map vrF).flatMap vrVals):=by
  cases hI with
  | mk N va vc ta tc pb pi la lc av i hD hr hv ht hl hlen hsub hb hi =>
    have e:(itS at_ name fs).vars.length=fs.length:=by unfold itS; simp
    rw [e] at hr hv;exact ⟨va,vc,⟨_,_,_,_,_,hr⟩,hv⟩
 obtain ⟨x1,x2,x3,x4,x5,hrow⟩:=hrow;have HV:=zz hvs;have HL:=zz hl;obtain ⟨n,hn⟩:∃ n,fs.length=n:=⟨_,rfl⟩;rw [hn] at hrow HV HL;have HLN:=zz hn;obtain ⟨nm,hnm⟩:∃ b,tx name=b:=⟨_,rfl⟩;rw [hnm] at hrow;have HNM:=zz hnm;have c2:w.cell? ⟨N,2,none⟩=some (.string nm):=by rw [cell_of_row w N 2 _ _ _ hrow]; rfl
 have c7:w.cell? ⟨N,7,none⟩=some (.slice va n vc):=by rw [cell_of_row w N 7 _ _ _ hrow]; rfl
 have HNW:Hid (N < w.heap.size):=zz (Array.getElem?_eq_some_iff.1 hrow).1;have hnb:=own_max HV.out.own;clear hT hnum hz hI hok hl hsa hrow hvs hn hnm;go_enter Tryz.func26,Tryz.ntmps26;go_upto_region 2 with fail
 have HP0:Hid (PL w (w.alloc (.cells #[.string nm,.int .i64 0,.int .i64 1,.slice none 0 0] 54)) w.heap.size nm ⟨0,1,[]⟩ none 0):=Lib.hid
  ⟨(Keeps.refl _ _).alloc _,heap_alloc_new _ _,World.ownsRow_nil _ _ _ _,fun q e=>(nomatch e),Nat.le_refl _⟩
 generalize w.alloc (.cells #[.string nm,.int .i64 0,.int .i64 1,.slice none 0 0] 54)=w1 at HP0 ⊢;obtain ⟨S,hS⟩:∃ q,w.heap.size=q:=⟨_,rfl⟩;rw [hS] at HP0 ⊢;have HS:=zz hS;have d7:w1.cell? ⟨N,7,none⟩=some (.slice va n vc):=HP0.out.k.cell0 c7;clear hS c2 c7;go_wp2_with fail;clear d7;go_loopg [23] n (fun gg u wr=>∃ (i:Nat) (fa:Option Addr) (fc:Nat),u=.int .i64 (i:Int)∧i≤n∧gg=n - i∧Hid (PL w wr S nm (accF z (fs.take i)) fa fc))
 case atStart=>exact ⟨0,none,0,rfl,by omega,by omega,HP0⟩
 case round =>
  obtain ⟨i,fa,fc,rfl,hi,rfl,HPR⟩:=hrel;by_cases hlt:i < n
  · obtain ⟨f,hf⟩:∃ f,fs[i]?=some f:=⟨_,List.getElem?_eq_getElem (by have:=HLN.out; omega)⟩;have hmem:=List.mem_of_getElem? hf;have hlt1:(i:Int) < (n:Int):=by omega
    have hy:(fs.map vrF)[i]?=some (vrF f):=by rw [List.getElem?_map,hf]; rfl
    have how:=(HV.out.keep HPR.out.k (fun _ e=>e.elim)).own;obtain ⟨gv,hg⟩:∃ g,va=some ⟨g,0,none⟩:=by
     obtain ⟨aa,ca,e2,h2⟩:=own_form how;obtain ⟨g,hg⟩:=h2 (by omega);injection e2 with e2;exact ⟨g,e2.trans hg⟩
    subst hg;have cy:=fun (j:Nat) (v:Value) (hj:(vrVals (vrF f))[j]?=some v)=>row_cell5 how hy hj
    have d0:wr.cell? ⟨gv,i * 5,none⟩=some (.string (tx f.name)):=cy 0 _ rfl;have d1:wr.cell? ⟨gv,i * 5+1,none⟩=some (.string (tyK f.k).base):=cy 1 _ rfl;have d2:wr.cell? ⟨gv,i * 5+2,none⟩=some (.int .i64 (tyK f.k).stars):=cy 2 _ rfl;have d3:wr.cell? ⟨gv,i * 5+3,none⟩=some (.bool (decide (f.num≠0))):=cy 3 _ rfl;have d4:wr.cell? ⟨gv,i * 5+4,none⟩=some (.int .u64 (f.num:Int)):=cy 4 _ rfl;have HSI:=zz (fun W (hk:Keeps No w W)=>tsize_any f.k (HSA.out f hmem) W (HT.out.no hk));obtain ⟨t1,t2,t3,t4⟩:=tsz_ok HZ.out f.k;have tf:=fsz_ok HZ.out (HN.out f hmem);have HST:=zz (acc_step (z:=z) hf);obtain ⟨a1,a2,a3,a4,a5⟩:=acc_take HZ.out HN.out i (by have:=HLN.out; omega);obtain ⟨r,hr⟩:∃ r,accF z (fs.take i)=r:=⟨_,rfl⟩;rw [hr] at HPR HST a1 a2 a3 a4 a5;obtain ⟨m,hm⟩:∃ m,f.num=m:=⟨_,rfl⟩;have hmb:m < 100:=by rw [← hm]; exact HN.out f hmem
    obtain ⟨q0,hq0⟩:∃ q,(tsz z f.k).1=q:=⟨_,rfl⟩;obtain ⟨al,hal⟩:∃ q,(tsz z f.k).2=q:=⟨_,rfl⟩;obtain ⟨sf,hsf⟩:∃ q,fsz z f=q:=⟨_,rfl⟩;obtain ⟨ab,hab⟩:∃ b,decide (m≠0)=b:=⟨_,rfl⟩;have hsf':(m=0∧sf=q0∧ab=false)∨(m≠0∧sf=q0 * (m:Int)∧ab=true):=by
     unfold fsz at hsf;rw [hm,hq0] at hsf;split at hsf
     · next e=>exact .inl ⟨e,hsf.symm,by rw [← hab,e]; rfl⟩
     · next e=>exact .inr ⟨e,hsf.symm,by rw [← hab]; exact decide_eq_true e⟩
    have HVF:Hid (vrF f=⟨tx f.name,tyK f.k,ab,(m:Int)⟩):=zz (by unfold vrF; rw [hm,hab]);have HST2:Hid (accF z (fs.take (i+1))=⟨(r.s+al - 1) / al * al+sf,max r.a al,r.l++[⟨vrF f,(r.s+al - 1) / al * al,sf⟩]⟩):=zz (by
     rw [HST.out]; unfold stepF; rw [hal,hsf])
    obtain ⟨yn,hyn⟩:∃ b,tx f.name=b:=⟨_,rfl⟩;obtain ⟨tb,htb⟩:∃ b,(tyK f.k).base=b:=⟨_,rfl⟩;obtain ⟨ts,hts⟩:∃ b,(tyK f.k).stars=b:=⟨_,rfl⟩;rw [hm] at d3 d4;rw [hab] at d3;rw [hyn] at d0;rw [htb] at d1;rw [hts] at d2;rw [htb,hts] at HSI;rw [hq0,hal] at HSI;rw [hq0] at t1 t2;rw [hal] at t3 t4;rw [hsf] at tf;have HVF2:Hid (kfVals ⟨vrF f,(r.s+al - 1) / al * al,sf⟩=[.string yn,.string tb,.int .i64 ts,.bool (ab),.int .u64 (m:Int),.int .i64 ((r.s+al - 1) / al * al),.int .i64 sf]):=zz (by
     unfold kfVals; rw [HVF.out,← hyn,← htb,← hts])
    clear how cy hy hr hm hab hq0 hal hsf hyn htb hts hf hmem HST HVF;have HD3:=zz hsf';clear hsf';go_upto_region 5 with fail
    have hv:(wr.alloc (.cells #[.string yn,.string tb,.int .i64 ts,.bool (ab),.int .u64 (m:Int)] 58)).heap[wr.heap.size]?=some (.cells #[.string yn,.string tb,.int .i64 ts,.bool (ab),.int .u64 (m:Int)] 58 (0,0)):=heap_alloc_new _ _;have hkv:Keeps No wr (wr.alloc (.cells #[.string yn,.string tb,.int .i64 ts,.bool (ab),.int .u64 (m:Int)] 58)):=(Keeps.refl _ _).alloc _;generalize wr.alloc (.cells #[.string yn,.string tb,.int .i64 ts,.bool (ab),.int .u64 (m:Int)] 58)=w2 at hv hkv ⊢;obtain ⟨V,hV⟩:∃ q,wr.heap.size=q:=⟨_,rfl⟩;have HVS:Hid (V≠S∧∀ q,(Value.slice fa r.l.length fc).ownBlock=some q→q≠V):=zz ⟨by have:=HPR.out.lt; omega,fun q e=>by have:=own_ltb HPR.out.own e; omega⟩;rw [hV] at hv ⊢;have HP2:=zz (HPR.out.no hkv);have v1:w2.cell? ⟨V,1,none⟩=some (.string tb):=by rw [cell_of_row w2 V 1 _ _ _ hv]; rfl
    have v2:w2.cell? ⟨V,2,none⟩=some (.int .i64 ts):=by rw [cell_of_row w2 V 2 _ _ _ hv]; rfl
    have HV2:=zz hv;clear hv hkv hV d0 d1 d2 d3 d4 HPR;go_wp2_with fail;refine (HSI.out w2 HP2.out.k).mono ?_;rintro e w3 ⟨rfl,hk⟩;have HP3:=zz (HP2.out.no hk);have hv3:w3.heap[V]?=some (.cells #[.string yn,.string tb,.int .i64 ts,.bool (ab),.int .u64 (m:Int)] 58 (0,0)):=(hk.block _ (Array.getElem?_eq_some_iff.1 HV2.out).1 (fun e=>e)).trans HV2.out;have HV3:=zz hv3;clear hk v1 v2 HP2 HV2 HSI;have e3:w3.cell? ⟨V,3,none⟩=some (.bool (ab)):=by rw [cell_of_row w3 V 3 _ _ _ hv3]; rfl
    have e4:w3.cell? ⟨V,4,none⟩=some (.int .u64 (m:Int)):=by rw [cell_of_row w3 V 4 _ _ _ hv3]; rfl
    have s1:w3.cell? ⟨S,1,none⟩=some (.int .i64 r.s):=HP3.out.cell rfl;have hq0:(q0==0)=false:=beq_eq_false_iff_ne.2 (by omega);clear hv3;have hup:Hid (∀ W,Calls Tryz.prog 47 #[.int .i64 r.s,.int .i64 al] W fun e w'=>e=.returned (.int .i64 ((r.s+al - 1) / al * al))∧Keeps No W w'):=zz (fun W=>up_any r.s al ⟨a1,by have:=HL.out; omega⟩ ⟨t3,t4⟩ W);rcases HD3.out with ⟨hm,he,ha⟩ | ⟨hm,he,ha⟩
    case' inl =>
     rw [ha] at e3;clear ha HD3 e4 hm;go_wp2_with fail;rw [← he]
    case' inr =>
     rw [ha] at e3;have hm1:((m:Int)==0)=false:=beq_eq_false_iff_ne.2 (by omega);have hm2:decide ((4096:Int) < (m:Int))=false:=decide_eq_false (by omega);have hm3:(m:Int)≤100:=by omega
     have hp1:0≤q0 * (m:Int):=by rw [← he]; omega
     have hp2:q0 * (m:Int)≤100000:=by rw [← he]; omega
     clear ha HD3 hm;go_wp2_with fail;rw [← he];clear hp1 hp2 hm1 hm2 hm3 e4
    all_goals
     clear e3 s1 he hq0 t1 t2;refine (hup.out w3).mono ?_;rintro e w4 ⟨rfl,hk⟩;obtain ⟨at2,hat⟩:∃ a,(r.s+al - 1) / al * al=a:=⟨_,rfl⟩;have hatb:r.s≤at2∧at2≤r.s+7:=by rw [← hat]; exact up_ok a1 ⟨t3,t4⟩
     rw [hat] at HST2 HVF2 ⊢;have HP4:=zz (HP3.out.no hk);have hv4:w4.heap[V]?=some (.cells #[.string yn,.string tb,.int .i64 ts,.bool ab,.int .u64 (m:Int)] 58 (0,0)):=(hk.block _ (Array.getElem?_eq_some_iff.1 HV3.out).1 (fun e=>e)).trans HV3.out;have HA5:=zz a5;clear hk hup HP3 HV3 hat a5;go_upto_region 11 with fail
     have pj:∀ u:KS (fun q=>(Value.slice fa r.l.length fc).ownBlock=some q) w4,u.W.cell? ⟨S,3,none⟩=some (.slice fa r.l.length fc):=fun u=>u.cell (HP4.out.cell rfl) (fun e=>HP4.out.ne S e rfl)
     have pv0:∀ u:KS (fun q=>(Value.slice fa r.l.length fc).ownBlock=some q) w4,u.W.cell? ⟨V,0,none⟩=some (.string yn):=fun u=>u.cell (by rw [cell_of_row w4 V 0 _ _ _ hv4]; rfl) (fun e=>HVS.out.2 V e rfl)
     have pv1:∀ u:KS (fun q=>(Value.slice fa r.l.length fc).ownBlock=some q) w4,u.W.cell? ⟨V,1,none⟩=some (.string tb):=fun u=>u.cell (by rw [cell_of_row w4 V 1 _ _ _ hv4]; rfl) (fun e=>HVS.out.2 V e rfl)
     have pv2:∀ u:KS (fun q=>(Value.slice fa r.l.length fc).ownBlock=some q) w4,u.W.cell? ⟨V,2,none⟩=some (.int .i64 ts):=fun u=>u.cell (by rw [cell_of_row w4 V 2 _ _ _ hv4]; rfl) (fun e=>HVS.out.2 V e rfl)
     have pv3:∀ u:KS (fun q=>(Value.slice fa r.l.length fc).ownBlock=some q) w4,u.W.cell? ⟨V,3,none⟩=some (.bool ab):=fun u=>u.cell (by rw [cell_of_row w4 V 3 _ _ _ hv4]; rfl) (fun e=>HVS.out.2 V e rfl)
     have pv4:∀ u:KS (fun q=>(Value.slice fa r.l.length fc).ownBlock=some q) w4,u.W.cell? ⟨V,4,none⟩=some (.int .u64 (m:Int)):=fun u=>u.cell (by rw [cell_of_row w4 V 4 _ _ _ hv4]; rfl) (fun e=>HVS.out.2 V e rfl)
     have hne:Nonempty (KS (fun q=>(Value.slice fa r.l.length fc).ownBlock=some q) w4):=⟨⟨w4,Keeps.refl _ _⟩⟩;clear hv4;refine Mix.wp_region_mix (fun W'=>∃ u:KS (fun q=>(Value.slice fa r.l.length fc).ownBlock=some q) w4,W'=u.W) [13] (by kernel_rfl) ?_;have HV0:Hid (Keeps No w4 w4.drew):=zz ((Keeps.refl _ w4).drew);generalize w4.drew=v0 at HV0 ⊢;have HC0:Hid (Keeps (fun q=>(Value.slice fa r.l.length fc).ownBlock=some q) w4 v0):=zz (HV0.out.mono (fun _ _ e=>e.elim));have HG0:=zz (HP4.out.no HV0.out);refine Mix.mix_seg 0 8 6 (by kernel_rfl) (by kernel_rfl) rfl rfl ⟨⟨v0,HC0.out⟩,rfl⟩ ?_;simp only [zp1,zp2,zp3,zp4]
     repeat (go_big_quiet_step (fail))
     refine wpQuiet_nil ?_;clear pj pv0 pv1 pv2 pv3 pv4;refine Mix.mix_one 8 5 (by kernel_rfl) rfl rfl ?_;simp only [zp1,zp2,zp3,zp4];go_wp2_with fail;refine ⟨.inr ⟨⟨v0,HC0.out⟩,rfl⟩,?_⟩;refine Mix.mix_one 9 4 (by kernel_rfl) rfl rfl ?_;simp only [zp1,zp2,zp3,zp4];go_wp2_with fail;have hk12:Keeps No v0 (v0.alloc (.cells #[.string yn,.string tb,.int .i64 ts,.bool ab,.int .u64 (m:Int),.int .i64 at2,.int .i64 sf] 60)):=(Keeps.refl _ _).alloc _;have hq2:(v0.alloc (.cells #[.string yn,.string tb,.int .i64 ts,.bool ab,.int .u64 (m:Int),.int .i64 at2,.int .i64 sf] 60)).heap[v0.heap.size]?=some (.cells (kfVals ⟨vrF f,at2,sf⟩).toArray 60 (0,0)):=by rw [HVF2.out]; exact heap_alloc_new _ _
     generalize v0.alloc (.cells #[.string yn,.string tb,.int .i64 ts,.bool ab,.int .u64 (m:Int),.int .i64 at2,.int .i64 sf] 60)=v2 at hk12 hq2 ⊢;have HC2:Hid (Keeps (fun q=>(Value.slice fa r.l.length fc).ownBlock=some q) w4 v2):=zz (HC0.out.trans hk12 (fun q _ e=>e.elim));have HG2:=zz (HG0.out.no hk12);have HQ2:=zz hq2;clear hk12 hq2;refine ⟨.inr ⟨⟨v2,HC2.out⟩,rfl⟩,?_⟩;refine Mix.mix_one 10 3 (by kernel_rfl) rfl rfl ?_;simp only [zp1,zp2,zp3,zp4];go_wp2_with (at_builtin; refine wpList_appF _ rfl (.tmp 67) (.tmp 72) 52 rfl Tryz.underlying52 w.heap.size (.slice fa r.l.length fc) r.l.length r.l ⟨vrF f,at2,sf⟩ v0.heap.size rfl HG2.out.own rfl HQ2.out (by have:=HL.out; have:=HA5.out; omega) HG2.out.k.size ?_);intro g' cap' v3 ho3 hg3 hgo;have hk23:Keeps (fun q=>(Value.slice fa r.l.length fc).ownBlock=some q) v2 v3:=(Keeps.refl _ _).grown hg3 (fun q e=>.inl e);have HC3:Hid (Keeps (fun q=>(Value.slice fa r.l.length fc).ownBlock=some q) w4 v3):=zz (HC2.out.trans hk23 (fun q _ e=>e));have hn3:v3.heap[S]?=some (.cells _ _ (0,0)):=(hk23.block _ HG2.out.lt (fun e=>HG2.out.ne S e rfl)).trans HG2.out.row;have yj:v3.cell? ⟨S,3,none⟩=some (.slice fa r.l.length fc):=by rw [cell_of_row v3 S 3 _ _ _ hn3]; rfl
     have zj:v3.frozen? ⟨S,3,none⟩=false:=frozen_of_row v3 S 3 _ _ hn3;have HGO:Hid (∀ W,W=v3.setCell ⟨S,3,none⟩ (.slice (some ⟨g',0,none⟩) (r.l.length+1) cap')→PL w W S nm ⟨r.s,r.a,r.l++[⟨vrF f,at2,sf⟩]⟩ (some ⟨g',0,none⟩) cap'):=zz (fun W hW=>by subst hW; exact HG2.out.push (by rw [List.flatMap_append,List.flatMap_singleton]; exact ho3) hg3 hgo);clear ho3 hg3 hgo hk23 hn3;go_wp2_with fail;refine ⟨.inr ⟨⟨v3,HC3.out⟩,rfl⟩,?_⟩;refine Mix.mix_one 11 2 (by kernel_rfl) rfl rfl ?_;simp only [zp1,zp2,zp3,zp4];go_wp2_with fail;refine ⟨.inr ⟨⟨v3,HC3.out⟩,rfl⟩,?_⟩;refine Mix.mix_one 12 1 (by kernel_rfl) rfl rfl ?_;simp only [zp1,zp2,zp3,zp4];go_wp2_with fail;refine ⟨.inr ⟨⟨v3,HC3.out⟩,rfl⟩,?_⟩;refine Mix.mix_one 13 0 (by kernel_rfl) rfl rfl ?_;simp only [zp1,zp2,zp3,zp4];go_wp2_with fail;have HP5:=zz (HGO.out _ rfl);generalize v3.setCell ⟨S,3,none⟩ (.slice (some ⟨g',0,none⟩) (r.l.length+1) cap')=w5 at HP5 ⊢;clear yj zj hne;refine ⟨.inl ⟨rfl,rfl⟩,?_⟩;refine Mix.mix_end (by kernel_rfl) ?_;have hx1:0≤at2:=by omega
     have hx2:at2≤1300000:=by have:=HL.out; omega
     have hy1:1≤sf:=tf.1;have hy2:sf≤100000:=tf.2;have s1:w5.cell? ⟨S,1,none⟩=some (.int .i64 r.s):=HP5.out.cell rfl;have s1f:w5.frozen? ⟨S,1,none⟩=false:=HP5.out.frozen 1;go_upto_region 13 with fail
     have HP6:=zz (HP5.out.set_s (at2+sf));generalize w5.setCell ⟨S,1,none⟩ (.int .i64 (at2+sf))=w6 at HP6 ⊢;have s2:w6.cell? ⟨S,2,none⟩=some (.int .i64 r.a):=HP6.out.cell rfl;have s2f:w6.frozen? ⟨S,2,none⟩=false:=HP6.out.frozen 2;clear s1 s1f;go_upto_region 14 with fail
     have HP7:=zz (HP6.out.set_a (max r.a al));generalize w6.setCell ⟨S,2,none⟩ (.int .i64 (max r.a al))=w7 at HP7 ⊢;have HPF:Hid (PL w w7 S nm (accF z (fs.take (i+1))) (some ⟨g',0,none⟩) cap'):=zz (by rw [HST2.out]; exact HP7.out);clear s2 s2f hx1 hx2 hy1 hy2 hatb tf a1 a2 a3 a4;go_wp2_with fail;clear hmb t3 t4;go_roundg (n - (i+1))
     case rel=>exact ⟨i+1,some ⟨g',0,none⟩,cap',by go_num,by omega,rfl,HPF⟩
     case measure=>omega
  · have hlt1:¬ (i:Int) < (n:Int):=by omega
    obtain ⟨a1,a2,a3,a4,a5⟩:=acc_take HZ.out HN.out n (by have:=HLN.out; omega);have hin:i=n:=by omega
    rw [hin] at HPR;rw [List.take_of_length_le (by have:=HLN.out; omega)] at HPR a1 a2 a3 a4 a5;have HPK:Hid (placeK z name fs=⟨tx name,((accF z fs).s+(accF z fs).a - 1) / (accF z fs).a * (accF z fs).a,(accF z fs).a,(accF z fs).l⟩):=zz rfl;obtain ⟨r,hr⟩:∃ r,accF z fs=r:=⟨_,rfl⟩;rw [hr] at HPR HPK a1 a2 a3 a4;have HUB:=zz (up_ok a1 ⟨a3,a4⟩);have HUP:Hid (∀ W,Calls Tryz.prog 47 #[.int .i64 r.s,.int .i64 r.a] W fun e w'=>e=.returned (.int .i64 ((r.s+r.a - 1) / r.a * r.a))∧Keeps No W w'):=zz (fun W=>up_any r.s r.a ⟨a1,by have:=HL.out; omega⟩ ⟨a3,a4⟩ W);obtain ⟨t2,ht2⟩:∃ a,(r.s+r.a - 1) / r.a * r.a=a:=⟨_,rfl⟩;rw [ht2] at HUP HPK HUB;have hb2:¬ (2147483647:Int) < t2:=by have:=HUB.out; have:=HL.out; omega
    clear hr ht2 hin a5;go_wp2_with fail;have p1:∀ u:KW wr,u.W.cell? ⟨S,1,none⟩=some (.int .i64 r.s):=fun u=>u.cell (HPR.out.cell rfl)
    have p2:∀ u:KW wr,u.W.cell? ⟨S,2,none⟩=some (.int .i64 r.a):=fun u=>u.cell (HPR.out.cell rfl)
    have hne:Nonempty (KW wr):=⟨KW.of _⟩;refine Mix.wp_region_mix (fun W'=>∃ u:KW wr,W'=u.W) [12] (by kernel_rfl) ?_;have HV0:Hid (Keeps No wr wr.drew):=zz ((Keeps.refl _ wr).drew);generalize wr.drew=v0 at HV0 ⊢;refine Mix.mix_seg 0 9 4 (by kernel_rfl) (by kernel_rfl) rfl rfl ⟨⟨v0,HV0.out⟩,rfl⟩ ?_;simp only [zp1,zp2,zp3,zp4]
    repeat (go_big_quiet_step (fail))
    refine wpQuiet_nil ?_;clear p1 p2;refine Mix.mix_one 9 3 (by kernel_rfl) rfl rfl ?_;simp only [zp1,zp2,zp3,zp4];go_wp2_with fail;refine (HUP.out v0).mono ?_;rintro e v1 ⟨rfl,hk⟩;have HV1:Hid (Keeps No wr v1):=zz (HV0.out.trans hk (fun _ _ e=>e));clear hk;go_wp2_with fail;refine ⟨.inr ⟨⟨v1,HV1.out⟩,rfl⟩,?_⟩;refine Mix.mix_one 10 2 (by kernel_rfl) rfl rfl ?_;simp only [zp1,zp2,zp3,zp4];go_wp2_with fail;refine ⟨.inr ⟨⟨v1,HV1.out⟩,rfl⟩,?_⟩;refine Mix.mix_one 11 1 (by kernel_rfl) rfl rfl ?_;simp only [zp1,zp2,zp3,zp4];go_wp2_with fail;refine ⟨.inr ⟨⟨v1,HV1.out⟩,rfl⟩,?_⟩;refine Mix.mix_one 12 0 (by kernel_rfl) rfl rfl ?_;simp only [zp1,zp2,zp3,zp4];have HP8:=zz (HPR.out.no HV1.out);have y1:v1.cell? ⟨S,1,none⟩=some (.int .i64 r.s):=HP8.out.cell rfl;have z1:v1.frozen? ⟨S,1,none⟩=false:=HP8.out.frozen 1;go_wp2_with fail;have HP9:=zz (HP8.out.set_s t2);generalize v1.setCell ⟨S,1,none⟩ (.int .i64 t2)=v2 at HP9 ⊢;clear y1 z1 hne;refine ⟨.inl ⟨rfl,rfl⟩,?_⟩;refine Mix.mix_end (by kernel_rfl) ?_;have s1:v2.cell? ⟨S,1,none⟩=some (.int .i64 t2):=HP9.out.cell rfl;go_wp2_with fail;go_returns;exact ⟨S,fa,fc,rfl,HP9.out.k,by rw [HPK.out]; exact ⟨by have:=HP9.out.S0; omega,by rw [HNM.out]; exact HP9.out.row,(RwD.of HP9.out.own)⟩⟩
structure TbN (w:World) (B:Nat) (X:Tx) (ks:List Kn) (k:Kn) (q:Nat) (fa:Option Addr) (fc:Nat):Prop where
 row:w.heap[X.P]?=some (.cells #[.map (some X.ma),.map (some X.mb),.slice X.sa ks.length X.sc] 74 (0,0))
 ma:Mp w X.ma (ks++[k]) (X.qs++[q])
 ord:w.ownsRow B 51 1 (.slice X.sa ks.length X.sc) ks.length (ptrs (X.qs.map (fun q=>some ⟨q,0,none⟩)))
 len:X.qs.length=ks.length
 kn:∀ (i:Nat) (k':Kn) (q':Nat),ks[i]?=some k'→X.qs[i]?=some q'→∃ fa fc,KnD w (X.D B ks.length) q' k' fa fc
 nw:KnD w (X.D B ks.length) q k fa fc
 bP:B≤X.P
 bM:B≤X.ma
 ne:X.P≠X.ma∧(∀ q,(Value.slice X.sa ks.length X.sc).ownBlock=some q→q≠X.P∧q≠X.ma)
section
variable {w w':World} {B:Nat} {X:Tx} {ks:List Kn} {k:Kn} {q:Nat} {fa:Option Addr} {fc:Nat}
theorem TbN.no (h:TbN w B X ks k q fa fc) (hk:Keeps No w w'):TbN w' B X ks k q fa fc:=by
 obtain ⟨al,h1,h2⟩:=h.ma;exact ⟨(hk.block _ (Array.getElem?_eq_some_iff.1 h.row).1 (fun e=>e)).trans h.row,⟨al,h1.block (hk.block _ h1.lt (fun e=>e)),h2⟩,own_kept h.ord (fun q hq=>hk.block q (own_ltb h.ord hq) (fun e=>e)),h.len,
  fun i k q a b=>by obtain ⟨fa,fc,g⟩:=h.kn i k q a b; exact ⟨fa,fc,g.keep hk (fun _ e=>e.elim)⟩,h.nw.keep hk (fun _ e=>e.elim),h.bP,h.bM,h.ne⟩
theorem TbN.cell (h:TbN w B X ks k q fa fc) {j:Nat} {v:Value} (hv:#[Value.map (some X.ma),.map (some X.mb),.slice X.sa ks.length X.sc][j]?=some v):w.cell? ⟨X.P,j,none⟩=some v:=by
 rw [cell_of_row w X.P j _ _ _ h.row]; exact hv
theorem TbN.frozen (h:TbN w B X ks k q fa fc) (j:Nat):w.frozen? ⟨X.P,j,none⟩=false:=frozen_of_row w X.P j _ _ h.row
theorem Tb.put (h:Tb w B X ks) (hn:∀ k'∈ks,k'.name≠k.name) (hs:k.name.size≤maxLen) (hl:ks.length < maxLen) (hq:KnD w (X.D B ks.length) q k fa fc) :
    ∃ w',(Instr.mapUpdate 71 (.map (some X.ma)) (.string k.name) (.pointer (some ⟨q,0,none⟩))).run Tryz.prog w=.ok () w'∧TbN w' B X ks k q fa fc∧Keeps (fun x=>x=X.ma) w w':=by
 obtain ⟨al,h1,h2,h3,h4⟩:=h.ma;obtain ⟨w',g1,g2,htu⟩:=MapK.put h1 (M:=mapSP) (k:=k.name) (y:=some q) (by omega) hs trivial;have hk1:Keeps (fun x=>x=X.ma) w w':=⟨htu.grown.os,htu.grown.tape,htu.grown.output,htu.grown.size,fun k hk hn=>htu.grown.block k hk (fun e=>hn (by injection e))⟩;refine ⟨w',g1,⟨(hk1.block _ (Array.getElem?_eq_some_iff.1 h.row).1 h.ne.1).trans h.row,⟨kput al k.name (some q),g2,by have:=kput_le al k.name (some q); rw [List.length_append]; simp; omega,fun n hn2=>?_,fun i k' q' hk' hq'=>?_⟩,
  own_kept h.ord (fun q hq=>hk1.block q (own_ltb h.ord hq) (h.ne.2 q hq).2),h.len,fun i k q a b=>by obtain ⟨fa,fc,g⟩:=h.kn i k q a b; exact ⟨fa,fc,g.keep hk1 (fun x e=>.inl (fun d=>d.2.2.1 e))⟩,hq.keep hk1 (fun x e=>.inl (fun d=>d.2.2.1 e)),h.bP,h.bM,h.ne⟩,hk1⟩
 · have e1:n≠k.name:=fun e=>hn2 k (by simp) e.symm
   rw [kget_put_other _ _ e1];exact h3 n (fun k' hk'=>hn2 k' (by simp [hk']))
 · by_cases hi:i < ks.length
   · rw [List.getElem?_append_left hi] at hk';rw [List.getElem?_append_left (by rw [h.len]; exact hi)] at hq';rw [kget_put_other _ _ (hn k' (List.mem_of_getElem? hk'))];exact h4 i k' q' hk' hq'
   · rw [List.getElem?_append_right (by omega)] at hk';rw [List.getElem?_append_right (by rw [h.len]; omega),h.len] at hq';cases hj:i - ks.length with
     | zero =>
       rw [hj] at hk' hq';obtain rfl:k=k':=by simpa using hk'
       obtain rfl:q=q':=by simpa using hq'
       exact kget_put_same _ _ _
     | succ j=>rw [hj] at hk'; cases hk'
theorem TbN.push {v2 v3:World} (h:TbN v2 B X ks k q fa fc) {g' cap:Nat}
    (ho:v3.ownsRow B 51 1 (.slice (some ⟨g',0,none⟩) (ks.length+1) cap) (ks.length+1) (ptrs (X.qs.map (fun q=>some ⟨q,0,none⟩))++[.pointer (some ⟨q,0,none⟩)])) (hg:v2.grownBy v3 (Value.slice X.sa ks.length X.sc).ownBlock)
    (hgo:(Value.slice X.sa ks.length X.sc).ownBlock=some g'∨v2.heap.size≤g') :
    Tb (v3.setCell ⟨X.P,2,none⟩ (.slice (some ⟨g',0,none⟩) (ks.length+1) cap)) B ⟨X.P,X.ma,X.mb,some ⟨g',0,none⟩,cap,X.qs++[q]⟩ (ks++[k])∧Keeps (fun x=>x=X.P∨(Value.slice X.sa ks.length X.sc).ownBlock=some x) v2 (v3.setCell ⟨X.P,2,none⟩ (.slice (some ⟨g',0,none⟩) (ks.length+1) cap)):=by
 have hk:Keeps (fun q=>(Value.slice X.sa ks.length X.sc).ownBlock=some q) v2 v3:=(Keeps.refl _ _).grown hg (fun q e=>.inl e);have hP:X.P < v2.heap.size:=(Array.getElem?_eq_some_iff.1 h.row).1;have hn3:v3.heap[X.P]?=some (.cells _ _ (0,0)):=(hk.block _ hP (fun e=>(h.ne.2 _ e).1 rfl)).trans h.row;have hks:Keeps (fun q=>q=X.P) v3 (v3.setCell ⟨X.P,2,none⟩ (.slice (some ⟨g',0,none⟩) (ks.length+1) cap)):=(Keeps.refl (fun q=>q=X.P) v3).setCell (.inl rfl) _;have hall:Keeps (fun x=>x=X.P∨(Value.slice X.sa ks.length X.sc).ownBlock=some x) v2 (v3.setCell ⟨X.P,2,none⟩ (.slice (some ⟨g',0,none⟩) (ks.length+1) cap)) :=
  Keeps.trans (hk.mono (fun q _ e=>Or.inr e)) hks (fun q _ e=>Or.inl e)
 have hlen:(ks++[k]).length=ks.length+1:=by simp
 obtain ⟨al,m1,m2⟩:=h.ma;have hgP:g'≠X.P∧g'≠X.ma:=by
  rcases hgo with e | e
  · exact h.ne.2 g' e
  · have:=m1.lt; exact ⟨by omega,by omega⟩
 have dd:∀ x,x < v2.heap.size→X.D B ks.length x→Tx.D ⟨X.P,X.ma,X.mb,some ⟨g',0,none⟩,cap,X.qs++[q]⟩ B (ks++[k]).length x:=fun x hx d=>⟨d.1,d.2.1,d.2.2.1,fun e=>by
  have e1:g'=x:=by injection e
  rcases hgo with e2 | e2
  · exact d.2.2.2 (by rw [← e1]; exact e2)
  · omega⟩
 have kd:∀ {q':Nat} {k':Kn} {fa':Option Addr} {fc':Nat},KnD v2 (X.D B ks.length) q' k' fa' fc'→KnD (v3.setCell ⟨X.P,2,none⟩ (.slice (some ⟨g',0,none⟩) (ks.length+1) cap)) (Tx.D ⟨X.P,X.ma,X.mb,some ⟨g',0,none⟩,cap,X.qs++[q]⟩ B (ks++[k]).length) q' k' fa' fc':=fun g =>
  have g2:KnD v2 (fun x=>X.D B ks.length x∧Tx.D ⟨X.P,X.ma,X.mb,some ⟨g',0,none⟩,cap,X.qs++[q]⟩ B (ks++[k]).length x) _ _ _ _:=g.mono (fun x hx d=>⟨d,dd x hx d⟩)
  (g2.keep hall (fun x e=>.inl (fun d=>by rcases e with e | e; exact d.1.2.1 e; exact d.1.2.2.2 e))).mono (fun x _ d=>d.2)
 refine ⟨⟨?_,⟨al,m1.block (hall.block _ m1.lt (fun e=>by rcases e with e | e; exact h.ne.1 e.symm; exact (h.ne.2 _ e).2 rfl)),m2⟩,?_,by simp [h.len],fun i k' q' hk' hq'=>?_,h.bP,h.bM,h.ne.1,fun x e=>?_⟩,hall⟩
 · rw [heap_setCell_same v3 X.P 2 _ _ _ hn3,hlen]; rfl
 · have e1:ptrs ((X.qs++[q]).map (fun q=>some ⟨q,0,none⟩))=ptrs (X.qs.map (fun q=>some ⟨q,0,none⟩))++[.pointer (some ⟨q,0,none⟩)]:=by unfold ptrs; simp
   rw [hlen,e1];exact own_kept ho (fun x hx=>hks.block x (own_ltb ho hx) (fun e=>by
    have e1:g'=x:=by injection hx
    exact hgP.1 (e1.trans e)))
 · by_cases hi:i < ks.length
   · rw [List.getElem?_append_left hi] at hk';have hq2:X.qs[i]?=some q':=by rw [← List.getElem?_append_left (l₂:=[q]) (by rw [h.len]; exact hi)]; exact hq'
     obtain ⟨fa,fc,g⟩:=h.kn i k' q' hk' hq2;exact ⟨fa,fc,kd g⟩
   · rw [List.getElem?_append_right (by omega)] at hk';have hq2:[q][i - X.qs.length]?=some q':=by rw [← List.getElem?_append_right (l₁:=X.qs) (by rw [h.len]; omega)]; exact hq'
     rw [h.len] at hq2;cases hj:i - ks.length with
     | zero =>
       rw [hj] at hk' hq2;obtain rfl:k=k':=by simpa using hk'
       obtain rfl:q=q':=by simpa using hq2
       exact ⟨fa,fc,kd h.nw⟩
     | succ j=>rw [hj] at hk'; cases hk'
 · have e1:g'=x:=by injection e
   rw [← e1]; exact hgP
end
theorem infoKst:(Tryz.prog.info? 51).map (fun i=>(i.zero,i.size,i.bytes))=some (some (.pointer none),1,8):=by kernel_rfl
theorem wpList_appKst (w:World) {ops:Array Oper} {rest:List Oper} {o:Oper} {a:Act} {Q:Exit→Act→World→Prop} (hgd:o.guard=none) (s x:Operand)
    (ho:o.op=.call { callee:=.builtin .append,args:=#[s,x],argTypes:=#[49,49] })
    (B:Nat) (v:Value) (n:Nat) (xs:List Value) (u:Option Addr) (q:Nat) (hs:a.eval s=v) (hown:w.ownsRow B 51 1 v n xs) (hx:a.eval x=.slice (some ⟨q,0,none⟩) 1 1) (hq:w.heap[q]?=some (.cells #[.pointer u] 51 (0,0)))
    (hn:n≤999999) (hB:B≤w.heap.size)
    (h:∀ g' cap w',w'.ownsRow B 51 1 (.slice (some ⟨g',0,none⟩) (n+1) cap) (n+1) (xs++[.pointer u])→w.grownBy w' v.ownBlock→(v.ownBlock=some g'∨w.heap.size≤g')→wpList Tryz.prog ops Q rest (a.put o.dst (.slice (some ⟨g',0,none⟩) (n+1) cap)) w'):wpList Tryz.prog ops Q (o::rest) a w:=by
 obtain ⟨i0,hi,hz0,hz1,hz2⟩:=info_parts infoKst;refine wpList_append_lies w hgd s x _ ho B 51 i0 (.pointer none) 1 8 Tryz.underlying49 hi hz0 hz1 hz2 rfl (by decide) v n xs hs hown ⟨q,0,none⟩ 1 1 [.pointer u] hx rfl (fun j y hy=>?_) (fun y hy=>by simp at hy; subst hy; rfl) (by decide) (by unfold maxLen; omega) (by omega) hB _ rfl (fun g' cap w' k1 k2 k3 _=>h g' cap w' k1 k2 (k3.imp id (fun e=>by omega)));cases j with
 | zero=>obtain rfl:Value.pointer u=y:=by simpa using hy
         have e:(⟨q,0,none⟩:Addr).add 0=⟨q,0,none⟩:=by unfold Addr.add; split <;> simp_all
         rw [e]; unfold World.cell?; simp only; rw [hq]; rfl
 | succ j=>cases hy
def AddPost (w:World) (B:Nat) (X:Tx) (ks:List Kn) (e:Ending) (w':World):Prop:=e=.returned (.tuple #[])∧∃ X':Tx,X'.P=X.P∧Tb w' B X' ks∧Keeps (fun q=>B≤q) w w'
theorem add_any {B:Nat} {X:Tx} {ks:List Kn} {z:Int × Int} (hz:Zok z) (w:World) (hT:Tb w B X ks) {D:Nat→Prop} {N:Nat} {at_:Int} {name:List UInt8} {fs:List Fld} (hI:ItD w D (some ⟨N,0,none⟩) (itS at_ name fs))
    (hok:fs.all Fld.ok=true) (hl:fs.length≤12) (hsa:∀ f∈fs,10≤f.k→SA ks X z) (hnm:nmB name=true) (hnew:∀ k∈ks,k.name≠tx name) (hkl:ks.length≤1000) :
    Calls Tryz.prog 18 #[.pointer (some ⟨X.P,0,none⟩),.pointer (some ⟨N,0,none⟩)] w (AddPost w B X (ks++[placeK z name fs])):=by
 have HPL:=zz (place_any hz w hT hI hok hl hsa);have HT:=zz hT;have HNW:=zz hnew;have HKL:=zz hkl;have hns:(tx name).size≤maxLen:=by have:=Sy.name_size hnm; unfold maxLen; omega
 have HNS:=zz hns;have hlk:=hT.look_no hnew hns;have hrow:∃ x1 x2 x3 x4 x5 x6,w.heap[N]?=some (.cells (itRow 1 at_ ⟨tx name,Sy.ty0,false,0⟩ x1 x2 x3 x4 x5 x6) 97 (0,0)):=by
  cases hI with
  | mk N va vc ta tc pb pi la lc av i hD hr hv ht hl hlen hsub hb hi=>exact ⟨_,_,_,_,_,_,hr⟩
 obtain ⟨x1,x2,x3,x4,x5,x6,hrow⟩:=hrow;have HKN:Hid ((placeK z name fs).name=tx name):=zz rfl;obtain ⟨k,hk⟩:∃ k,placeK z name fs=k:=⟨_,rfl⟩;rw [hk] at HPL HKN ⊢;obtain ⟨nm,hnm2⟩:∃ b,tx name=b:=⟨_,rfl⟩;rw [hnm2] at hrow HKN HNW HNS hlk;have c0:w.cell? ⟨N,0,none⟩=some (.int .i64 1):=by rw [cell_of_row w N 0 _ _ _ hrow]; rfl
 have c2:w.cell? ⟨N,2,none⟩=some (.string nm):=by rw [cell_of_row w N 2 _ _ _ hrow]; rfl
 have m0:w.cell? ⟨X.P,0,none⟩=some (.map (some X.ma)):=HT.out.cell rfl;clear hz hT hI hok hl hsa hnm hnew hkl hns hrow hk hnm2;go_enter Tryz.func18,Tryz.ntmps18;go_wp2_with fail;refine HPL.out.mono ?_;rintro e w1 ⟨q,fa,fc,rfl,hk1,hkn⟩;have HK1:=zz hk1;have HT1:=zz (HT.out.no hk1);have hq1:KnD w1 (X.D B ks.length) q k fa fc:=hkn.mono (fun x hx d=>by
  have h1:X.P < w.heap.size:=(Array.getElem?_eq_some_iff.1 HT.out.row).1;obtain ⟨al,m1,_⟩:=HT.out.ma;have h2:=m1.lt;have h3:=own_max HT.out.ord;refine ⟨by have:=HT.out.bP; omega,by omega,by omega,fun e=>by have:=own_ltb HT.out.ord e; omega⟩)
 obtain ⟨w2,hput,htn,hk2⟩:=HT1.out.put (k:=k) (q:=q) (fa:=fa) (fc:=fc) (fun k' hk'=>by rw [HKN.out]; exact HNW.out k' hk') (by rw [HKN.out]; exact HNS.out) (by have:=HKL.out; unfold maxLen; omega) hq1;rw [HKN.out] at hput;have m1:w1.cell? ⟨X.P,0,none⟩=some (.map (some X.ma)):=HT1.out.cell rfl;have HTN:=zz htn;have HK2:=zz hk2;clear hk1 hkn hq1 htn hk2 c0 c2 m0 hlk HPL;go_upto_region 10 with fail
 have p2:w2.cell? ⟨X.P,2,none⟩=some (.slice X.sa ks.length X.sc):=HTN.out.cell rfl;clear hput m1;go_wp2_with (at_builtin; refine stop_here ?_);unfold Stop;have hk6:Keeps No w2 (w2.alloc (.cells #[.pointer (some ⟨q,0,none⟩)] 51)):=(Keeps.refl _ _).alloc _;have hq6:(w2.alloc (.cells #[.pointer (some ⟨q,0,none⟩)] 51)).heap[w2.heap.size]?=some (.cells #[.pointer (some ⟨q,0,none⟩)] 51 (0,0)):=heap_alloc_new _ _;generalize w2.alloc (.cells #[.pointer (some ⟨q,0,none⟩)] 51)=w6 at hk6 hq6 ⊢;have HT6:=zz (HTN.out.no hk6);have HQ6:=zz hq6;have HK6:Hid (Keeps (fun x=>B≤x) w w6):=zz (((HK1.out.mono (fun _ _ e=>e.elim)).trans HK2.out (fun x _ e=>by rw [e]; exact HT.out.bM)).trans hk6 (fun _ _ e=>e.elim));have HB6:Hid (B≤w6.heap.size):=zz (by have:=(Array.getElem?_eq_some_iff.1 HT6.out.row).1; have:=HT.out.bP; omega);clear hk6 hq6 p2 HTN;go_wp2_with (at_builtin; refine wpList_appKst _ rfl (.tmp 54) (.tmp 56) rfl B (.slice X.sa ks.length X.sc) ks.length (ptrs (X.qs.map (fun q=>some ⟨q,0,none⟩))) (some ⟨q,0,none⟩) w2.heap.size rfl HT6.out.ord rfl HQ6.out (by have:=HKL.out; omega) HB6.out ?_);intro g' cap' v3 ho3 hg3 hgo;have hpu:=HT6.out.push ho3 hg3 hgo;have hn3:v3.heap[X.P]?=some (.cells _ _ (0,0)):=(((Keeps.refl (fun q=>(Value.slice X.sa ks.length X.sc).ownBlock=some q) w6).grown hg3 (fun q e=>.inl e)).block _ (Array.getElem?_eq_some_iff.1 HT6.out.row).1 (fun e=>(HT6.out.ne.2 _ e).1 rfl)).trans HT6.out.row;have yj:v3.cell? ⟨X.P,2,none⟩=some (.slice X.sa ks.length X.sc):=by rw [cell_of_row v3 X.P 2 _ _ _ hn3]; rfl
 have zj:v3.frozen? ⟨X.P,2,none⟩=false:=frozen_of_row v3 X.P 2 _ _ hn3;have HPU:=zz hpu;clear ho3 hg3 hgo hn3 hpu;go_wp2_with fail;go_returns;exact ⟨rfl,⟨X.P,X.ma,X.mb,some ⟨g',0,none⟩,cap',X.qs++[q]⟩,rfl,HPU.out.1,HK6.out.trans HPU.out.2 (fun x _ e=>by
  rcases e with e | e
  · rw [e]; exact HT.out.bP
  · exact own_lo HT6.out.ord x e)⟩
theorem new_any (w:World):Calls Tryz.prog 17 #[] w fun e w'=>∃ X:Tx,e=.returned (.pointer (some ⟨X.P,0,none⟩))∧Tb w' w.heap.size X []∧Keeps No w w':=by
 have hmm:=@run_makeMap Tryz.prog;go_enter Tryz.func17,Tryz.ntmps17;go_wp2_with fail;go_returns;refine ⟨⟨w.heap.size+1+1,w.heap.size,w.heap.size+1,none,0,[]⟩,rfl,?_,(((Keeps.refl _ _).alloc _).alloc _).alloc _⟩;have hr:(((w.alloc (.map #[] 0)).alloc (.map #[] 0)).alloc (.cells #[.map (some w.heap.size),.map (some (w.heap.size+1)),.slice none 0 0] 74)).heap[w.heap.size+1+1]?=some (.cells #[.map (some w.heap.size),.map (some (w.heap.size+1)),.slice none 0 0] 74 (0,0)):=by
  rw [show w.heap.size+1+1=((w.alloc (.map #[] 0)).alloc (.map #[] 0)).heap.size by simp]; exact heap_alloc_new _ _
 exact ⟨hr,⟨[],((MapK.made w).alloc _).alloc _,Nat.le_refl _,fun _ _=>rfl,fun i k q h=>nomatch h⟩,World.ownsRow_nil _ _ _ _,rfl,fun i k q h=>(nomatch h),by show w.heap.size≤w.heap.size+1+1; omega,Nat.le_refl _,
  ⟨by show w.heap.size+1+1≠w.heap.size; omega,fun q e=>nomatch e⟩⟩
theorem Tb.under {w w':World} {B:Nat} {X:Tx} {ks:List Kn} {S:Nat→Prop} (h:Tb w B X ks) (hk:Keeps S w w') (hS:∀ q,S q→q < B∨w.heap.size≤q):Tb w' B X ks:=by
 obtain ⟨al,h1,h2⟩:=h.ma;have hn:∀ q,B≤q→q < w.heap.size→¬ S q:=fun q a b e=>by rcases hS q e with g | g <;> omega
 have hP:=(Array.getElem?_eq_some_iff.1 h.row).1;exact ⟨(hk.block _ hP (hn _ h.bP hP)).trans h.row,⟨al,h1.block (hk.block _ h1.lt (hn _ h.bM h1.lt)),h2⟩,own_kept h.ord (fun q hq=>hk.block q (own_ltb h.ord hq) (hn q (own_lo h.ord q hq) (own_ltb h.ord hq))),h.len,
  fun i k q a b=>by obtain ⟨fa,fc,g⟩:=h.kn i k q a b; exact ⟨fa,fc,g.keep hk (fun q e=>by rcases hS q e with g | g; exact .inl (fun d=>by have:=d.1; omega); exact .inr g)⟩,h.bP,h.bM,h.ne⟩
abbrev Pt:=List UInt8 × List Fld
def zOf (ks:List Kn):Int × Int:=match ks with
 | k::_=>(k.size,k.align)
 | []=>(1,1)
def knL (ps:List Pt):List Kn:=ps.foldl (fun ks p=>ks++[placeK (zOf ks) p.1 p.2]) []
theorem knL_take {ps:List Pt} {i:Nat} {p:Pt} (h:ps[i]?=some p):knL (ps.take (i+1))=knL (ps.take i)++[placeK (zOf (knL (ps.take i))) p.1 p.2]:=by
 unfold knL;rw [List.take_add_one,h,List.foldl_append]; rfl
theorem knL_len:∀ (ps:List Pt) (i:Nat),i≤ps.length→(knL (ps.take i)).length=i
 | ps,0,_=>rfl
 | ps,i+1,h=>by
   obtain ⟨p,hp⟩:∃ p,ps[i]?=some p:=⟨_,List.getElem?_eq_getElem (by omega)⟩;rw [knL_take hp,List.length_append,knL_len ps i (by omega)]; rfl
structure Pok (ks:List Kn) (p:Pt):Prop where
 ok:p.2.all Fld.ok=true
 len:p.2.length≤12
 nm:nmB p.1=true
 z:Zok (zOf ks)
 sa:∀ f∈p.2,10≤f.k→∃ k,ks[0]?=some k∧k.name=nmK 8
 ne:∀ k∈ks,k.name≠tx p.1
def KnownPost (w:World) (ks:List Kn) (e:Ending) (w':World):Prop:=∃ (B:Nat) (X:Tx),e=.returned (.tuple #[.pointer (some ⟨X.P,0,none⟩),.agg #[.int .i64 0,.int .i64 0]])∧Tb w' B X ks∧w.heap.size≤B∧Keeps No w w'
theorem known_any (s:ByteArray) (ps:List Pt) (is:List It) (hps:parseM s=⟨is,0,0⟩) (hpo:parseOk s=true) (hlen:is.length=ps.length) (hn:ps.length≤100) (his:∀ (i:Nat) (p:Pt),ps[i]?=some p→∃ a,is[i]?=some (itS a p.1 p.2))
    (hok:∀ (i:Nat) (p:Pt),ps[i]?=some p→Pok (knL (ps.take i)) p) (w:World) (hl:LaidP w):Calls Tryz.prog 11 #[.string s] w (KnownPost w (knL ps)):=by
 have HL:=zz hl;have HPA:=zz (fun W (h:LaidP W)=>parse_any s W h hpo);rw [hps] at HPA;have HLEN:=zz hlen;have HN:=zz hn;have HIS:=zz his;have HOK:=zz hok;clear hl hps hpo hlen hn his hok;go_enter Tryz.func11,Tryz.ntmps11;go_upto_region 1 with fail
 have hk1:Keeps No w (w.alloc (.cells #[.int .i64 0,.int .i64 0] 34)):=(Keeps.refl _ _).alloc _;have hr1:(w.alloc (.cells #[.int .i64 0,.int .i64 0] 34)).heap[w.heap.size]?=some (.cells #[.int .i64 0,.int .i64 0] 34 (0,0)):=heap_alloc_new _ _;generalize w.alloc (.cells #[.int .i64 0,.int .i64 0] 34)=w1 at hk1 hr1 ⊢;obtain ⟨R,hR⟩:∃ q,w.heap.size=q:=⟨_,rfl⟩;rw [hR] at hr1 ⊢;have HR:=zz hR;have HK1:=zz hk1;have HR1:=zz hr1;clear hk1 hr1 hR;go_wp2_with fail;refine (HPA.out w1 (HL.out.no HK1.out)).mono ?_;rintro e w2 ⟨sa,sc,av,rfl,hk,hrw,hal,hit⟩;have HK2:Hid (Keeps No w w2):=zz (HK1.out.trans hk (fun _ _ e=>e));have HR2:Hid (w2.heap[R]?=some (.cells #[.int .i64 0,.int .i64 0] 34 (0,0))):=zz ((hk.block _ (Array.getElem?_eq_some_iff.1 HR1.out).1 (fun e=>e)).trans HR1.out);have HRW:=zz hrw;have HAL:=zz hal;have HIT:=zz hit;obtain ⟨n,hnn⟩:∃ n,av.length=n:=⟨_,rfl⟩;rw [hnn] at HRW;have HNN:=zz hnn;clear hk hrw hal hit HK1 HR1 HPA;go_upto_region 2 with fail
 have hk3:Keeps No w2 (w2.alloc (.cells #[.int .i64 0,.int .i64 0] 34)):=(Keeps.refl _ _).alloc _;have hr3:(w2.alloc (.cells #[.int .i64 0,.int .i64 0] 34)).heap[w2.heap.size]?=some (.cells #[.int .i64 0,.int .i64 0] 34 (0,0)):=heap_alloc_new _ _;generalize w2.alloc (.cells #[.int .i64 0,.int .i64 0] 34)=w3 at hk3 hr3 ⊢;obtain ⟨U,hU⟩:∃ q,w2.heap.size=q:=⟨_,rfl⟩;have c0:w3.cell? ⟨U,0,none⟩=some (.int .i64 0):=by rw [← hU,cell_of_row w3 w2.heap.size 0 _ _ _ hr3]; rfl
 rw [hU];have HK3:Hid (Keeps No w w3):=zz (HK2.out.trans hk3 (fun _ _ e=>e));have HR3:Hid (w3.heap[R]?=some (.cells #[.int .i64 0,.int .i64 0] 34 (0,0))):=zz ((hk3.block _ (Array.getElem?_eq_some_iff.1 HR2.out).1 (fun e=>e)).trans HR2.out);have HK23:=zz hk3;have HS3:Hid (w2.heap.size≤w3.heap.size):=zz hk3.size;clear hk3 hr3 hU;go_wp2_with fail;refine (new_any w3).mono ?_;rintro e w4 ⟨X,rfl,hT,hk⟩;have HT4:=zz hT;have HK4:=zz hk;obtain ⟨B,hB⟩:∃ b,w3.heap.size=b:=⟨_,rfl⟩;rw [hB] at HT4;have HB:=zz hB;clear hT hk hB c0;go_wp2_with fail;go_loopg [21] n (fun gg u wr=>∃ (i:Nat) (Y:Tx),u=.int .i64 (i:Int)∧i≤n∧gg=n - i∧Hid (Y.P=X.P∧Tb wr B Y (knL (ps.take i))∧Keeps (fun q=>B≤q) w3 wr))
 case atStart=>exact ⟨0,X,rfl,by omega,by omega,zz ⟨rfl,HT4.out,HK4.out.mono (fun _ _ e=>e.elim)⟩⟩
 case round =>
  obtain ⟨i,Y,rfl,hi,rfl,HRL⟩:=hrel;by_cases hlt:i < n
  · obtain ⟨p,hp⟩:∃ p,ps[i]?=some p:=⟨_,List.getElem?_eq_getElem (by have:=HLEN.out; have:=HAL.out; have:=HNN.out; omega)⟩;obtain ⟨at_,hat⟩:=HIS.out i p hp;obtain ⟨a,ha⟩:∃ a,av[i]?=some a:=⟨_,List.getElem?_eq_getElem (by have:=HNN.out; omega)⟩;have hpo:=HOK.out i p hp;have hlt1:(i:Int) < (n:Int):=by omega
    have hSB:∀ q,B≤q→¬ q < w2.heap.size∨w3.heap.size≤q:=fun q e=>.inl (by have:=HS3.out; have:=HB.out; omega)
    have hI:ItD wr (fun q=>q < w2.heap.size) a (itS at_ p.1 p.2):=((HIT.out i a _ ha hat).keep HK23.out (fun _ e=>e.elim)).keep HRL.out.2.2 hSB;have how:=((HRW.out.keep HK23.out (fun _ e=>e.elim)).keep HRL.out.2.2 hSB).own;obtain ⟨ga,hg⟩:∃ g,sa=some ⟨g,0,none⟩:=by
     obtain ⟨aa,ca,e2,h2⟩:=own_form how;obtain ⟨g,hg⟩:=h2 (by omega);injection e2 with e2;exact ⟨g,e2.trans hg⟩
    subst hg;have d0:wr.cell? ⟨ga,i,none⟩=some (.pointer a):=by
     have e:=how.cells (g:=ga) rfl i (.pointer a) (by unfold ptrs; rw [List.getElem?_map,ha]; rfl);rw [Lib.add_plain,Nat.zero_add] at e; exact e
    obtain ⟨N,hN⟩:∃ N,a=some ⟨N,0,none⟩:=by
     cases hI with
     | mk N=>exact ⟨N,rfl⟩
    subst hN;have hsa:∀ f∈p.2,10≤f.k→SA (knL (ps.take i)) Y (zOf (knL (ps.take i))):=fun f hf hk=>by
     obtain ⟨k,h1,h2⟩:=hpo.sa f hf hk;have hlen:=HRL.out.2.1.len;obtain ⟨q,hq⟩:∃ q,Y.qs[0]?=some q:=⟨_,List.getElem?_eq_getElem (by rw [hlen]; exact (List.getElem?_eq_some_iff.1 h1).1)⟩;refine ⟨0,q,k,h1,hq,h2,?_⟩;cases hks:knL (ps.take i) with
     | nil=>rw [hks] at h1; cases h1
     | cons k0 t=>rw [hks] at h1; injection h1 with h1; subst h1; rfl
    have hkl:=knL_len ps i (by have:=HLEN.out; have:=HAL.out; have:=HNN.out; omega);have HAD:=zz (add_any hpo.z wr HRL.out.2.1 hI hpo.ok hpo.len hsa hpo.nm hpo.ne (by have:=HN.out; have:=HLEN.out; have:=HAL.out; have:=HNN.out; omega));have HST:=zz (knL_take hp);rw [HRL.out.1] at HAD;have hnb:=own_max how;clear hp hat ha hpo hSB hI how hsa hkl;go_wp2_with fail;refine HAD.out.mono ?_;rintro e w5 ⟨rfl,Z,hz1,hz2,hz3⟩;have HZ:Hid (Z.P=X.P∧Tb w5 B Z (knL (ps.take (i+1)))∧Keeps (fun q=>B≤q) w3 w5):=zz ⟨hz1.trans HRL.out.1,by rw [HST.out]; exact hz2,HRL.out.2.2.trans hz3 (fun q _ e=>e)⟩;clear hz1 hz2 hz3 d0 HAD;go_wp2_with fail;go_roundg (n - (i+1))
    case rel=>exact ⟨i+1,Z,by go_num,by omega,rfl,HZ⟩
    case measure=>omega
  · have hlt1:¬ (i:Int) < (n:Int):=by omega
    have HTE:Hid (Tb wr B Y (knL ps)):=zz (by
     have e:=HRL.out.2.1;rw [List.take_of_length_le (by have:=HLEN.out; have:=HAL.out; have:=HNN.out; omega)] at e;exact e)
    have hRr:wr.heap[R]?=some (.cells #[.int .i64 0,.int .i64 0] 34 (0,0)):=(HRL.out.2.2.block R (Array.getElem?_eq_some_iff.1 HR3.out).1 (fun e=>by have:=(Array.getElem?_eq_some_iff.1 HR3.out).1; have:=HB.out; omega)).trans HR3.out;have e0:wr.cell? ⟨R,0,none⟩=some (.int .i64 0):=by rw [cell_of_row wr R 0 _ _ _ hRr]; rfl
    have e1:wr.cell? ⟨R,1,none⟩=some (.int .i64 0):=by rw [cell_of_row wr R 1 _ _ _ hRr]; rfl
    have f0:wr.frozen? ⟨R,0,none⟩=false:=frozen_of_row wr R 0 _ _ hRr;have f1:wr.frozen? ⟨R,1,none⟩=false:=frozen_of_row wr R 1 _ _ hRr;go_wp2_with fail;have hkR:Keeps (fun q=>q=R) wr ((wr.setCell ⟨R,0,none⟩ (.int .i64 0)).setCell ⟨R,1,none⟩ (.int .i64 0)):=((Keeps.refl (fun q=>q=R) wr).setCell (.inl rfl) _).setCell (.inl rfl) _;have hr1:(wr.setCell ⟨R,0,none⟩ (.int .i64 0)).heap[R]?=some (.cells #[.int .i64 0,.int .i64 0] 34 (0,0)):=by rw [heap_setCell_same wr R 0 _ _ _ hRr]; rfl
    have hr2:((wr.setCell ⟨R,0,none⟩ (.int .i64 0)).setCell ⟨R,1,none⟩ (.int .i64 0)).heap[R]?=some (.cells #[.int .i64 0,.int .i64 0] 34 (0,0)):=by rw [heap_setCell_same _ R 1 _ _ _ hr1]; rfl
    generalize (wr.setCell ⟨R,0,none⟩ (.int .i64 0)).setCell ⟨R,1,none⟩ (.int .i64 0)=w9 at hkR hr2 ⊢;have HR3L:Hid (R < B):=zz (by have:=(Array.getElem?_eq_some_iff.1 HR3.out).1; have:=HB.out; omega);have HF:Hid (Tb w9 B Y (knL ps)∧w.heap.size≤B∧Keeps No w w9):=zz ⟨HTE.out.under hkR (fun q e=>.inl (by rw [e]; exact HR3L.out)),by have:=HR.out; have:=HR3L.out; omega,
     (HK3.out.trans HRL.out.2.2 (fun q hq e=>by have:=HB.out; have:=HR.out; have:=HR3L.out; omega)).trans hkR (fun q hq e=>by have:=HR.out; omega)⟩
    have g0:w9.cell? ⟨R,0,none⟩=some (.int .i64 0):=by rw [cell_of_row w9 R 0 _ _ _ hr2]; rfl
    have g1:w9.cell? ⟨R,1,none⟩=some (.int .i64 0):=by rw [cell_of_row w9 R 1 _ _ _ hr2]; rfl
    clear hkR hr1 hr2 e0 e1 f0 f1 hRr;refine bodyPost_ret (v:=.tuple #[.pointer (some ⟨X.P,0,none⟩),.agg #[.int .i64 0,.int .i64 0]]) ?_ rfl ⟨B,Y,by rw [HRL.out.1],HF.out.1,HF.out.2.1,HF.out.2.2⟩;simp [results,Tryz.results11,go_sem,g0,g1,Act.put]
def bsS:Nat→ByteArray
 | 0=>⟨#[105,56,42]⟩
 | 1=>⟨#[117,56,42]⟩
 | 2=>⟨#[105,49,54,42]⟩
 | 3=>⟨#[117,49,54,42]⟩
 | 4=>⟨#[105,51,50,42]⟩
 | 5=>⟨#[117,51,50,42]⟩
 | 6=>⟨#[105,54,52,42]⟩
 | 7=>⟨#[117,54,52,42]⟩
 | 8=>⟨#[83,46,97,42]⟩
 | 9=>⟨#[83,46,111,42]⟩
 | _=>⟨#[118,111,105,100,42]⟩
def tyS (j st:Nat):ByteArray:=if st=0 then bsK j else bsS j
theorem trimB_any {j st:Nat} (hj:j < 11) (w:World):Calls Tryz.prog 33 #[.string (tyS j st),.int .u8 42] w fun e w'=>e=.returned (.string (bsK j))∧w'=w:=by
 have hc:j=0∨j=1∨j=2∨j=3∨j=4∨j=5∨j=6∨j=7∨j=8∨j=9∨j=10:=by omega
 obtain ⟨S,hS⟩:∃ b,bsS j=b:=⟨_,rfl⟩;obtain ⟨T,hT⟩:∃ b,bsK j=b:=⟨_,rfl⟩;obtain ⟨A,hA⟩:∃ b,tyS j st=b:=⟨_,rfl⟩;have hAS:A=T∨A=S:=by rw [← hA,← hT,← hS]; unfold tyS; split; exact .inl rfl; exact .inr rfl
 rw [hA,hT];clear hA;go_enter Tryz.func33,Tryz.ntmps33;go_wp2_with fail;go_loopg [0] (if A=T then 0 else 1) (fun gg u wr=>wr=w∧(gg=0∧u=.string T∨gg=1∧u=.string S))
 case atStart =>
  refine ⟨rfl,?_⟩;by_cases e:A=T
  · exact .inl ⟨if_pos e,by rw [e]⟩
  · exact .inr ⟨if_neg e,by rw [hAS.resolve_left e]⟩
 case round =>
  obtain ⟨rfl,⟨rfl,rfl⟩ | ⟨rfl,rfl⟩⟩:=hrel
  · clear hS hAS;rcases hc with rfl | rfl | rfl | rfl | rfl | rfl | rfl | rfl | rfl | rfl | rfl
    all_goals
     simp only [bsK] at hT;subst hT;go_wp2_with fail;go_returns;exact ⟨rfl,rfl⟩
  · clear hAS;have x0:(ByteArray.mk #[105,56,42]).extract 0 2=⟨#[105,56]⟩:=by kernel_rfl
    have x1:(ByteArray.mk #[117,56,42]).extract 0 2=⟨#[117,56]⟩:=by kernel_rfl
    have x2:(ByteArray.mk #[105,49,54,42]).extract 0 3=⟨#[105,49,54]⟩:=by kernel_rfl
    have x3:(ByteArray.mk #[117,49,54,42]).extract 0 3=⟨#[117,49,54]⟩:=by kernel_rfl
    have x4:(ByteArray.mk #[105,51,50,42]).extract 0 3=⟨#[105,51,50]⟩:=by kernel_rfl
    have x5:(ByteArray.mk #[117,51,50,42]).extract 0 3=⟨#[117,51,50]⟩:=by kernel_rfl
    have x6:(ByteArray.mk #[105,54,52,42]).extract 0 3=⟨#[105,54,52]⟩:=by kernel_rfl
    have x7:(ByteArray.mk #[117,54,52,42]).extract 0 3=⟨#[117,54,52]⟩:=by kernel_rfl
    have x8:(ByteArray.mk #[83,46,97,42]).extract 0 3=⟨#[83,46,97]⟩:=by kernel_rfl
    have x9:(ByteArray.mk #[83,46,111,42]).extract 0 3=⟨#[83,46,111]⟩:=by kernel_rfl
    have x10:(ByteArray.mk #[118,111,105,100,42]).extract 0 4=⟨#[118,111,105,100]⟩:=by kernel_rfl
    rcases hc with rfl | rfl | rfl | rfl | rfl | rfl | rfl | rfl | rfl | rfl | rfl
    all_goals
     simp only [bsK] at hT;simp only [bsS] at hS;subst hT;subst hS;go_wp2_with fail;go_roundg 0
     case rel=>exact ⟨rfl,.inl ⟨rfl,rfl⟩⟩
     case measure=>omega
theorem trim_any {j st:Nat} (hj:j < 11) (w:World):Calls Tryz.prog 20 #[.string (tyS j st),.string ⟨#[42]⟩] w fun e w'=>e=.returned (.string (bsK j))∧w'=w:=by
 have HB:=zz (fun W=>trimB_any (st:=st) hj W);have hne:((tyS j st).toList==[])=false∧(tyS j st==⟨#[]⟩)=false:=by
  have hc:j=0∨j=1∨j=2∨j=3∨j=4∨j=5∨j=6∨j=7∨j=8∨j=9∨j=10:=by omega
  unfold tyS;split
  all_goals
   rcases hc with rfl | rfl | rfl | rfl | rfl | rfl | rfl | rfl | rfl | rfl | rfl <;> exact ⟨by kernel_rfl,by kernel_rfl⟩
 obtain ⟨A,hA⟩:∃ b,tyS j st=b:=⟨_,rfl⟩;rw [hA] at HB hne ⊢;obtain ⟨h1,h2⟩:=hne;clear hA;go_enter Tryz.func20,Tryz.ntmps20;go_wp2_with fail;refine (HB.out _).mono ?_;rintro e w1 ⟨rfl,rfl⟩;go_wp2_with fail;go_returns;exact ⟨rfl,rfl⟩
theorem tyS_size {j:Nat} (hj:j < 11) {st:Nat} (hst:st≤1):(tyS j st).size=(bsK j).size+st∧(bsK j).size≤4:=by
 have hc:j=0∨j=1∨j=2∨j=3∨j=4∨j=5∨j=6∨j=7∨j=8∨j=9∨j=10:=by omega
 have hs:st=0∨st=1:=by omega
 rcases hs with rfl | rfl <;> rcases hc with rfl | rfl | rfl | rfl | rfl | rfl | rfl | rfl | rfl | rfl | rfl <;> exact ⟨rfl,by decide⟩
theorem name_toks {j:Nat} (hj:j=8∨j=9):Lx.tokensM (nmK j)=⟨[⟨1,0,nmK j,⟨#[]⟩,0,false⟩],0,0⟩:=by rcases hj with rfl | rfl <;> kernel_rfl
theorem two_set {w:World} {R:Nat} {x y a b:Value} {T:TypeId} (h:w.heap[R]?=some (.cells #[x,y] T (0,0))):Keeps (fun q=>q=R) w ((w.setCell ⟨R,0,none⟩ a).setCell ⟨R,1,none⟩ b)∧((w.setCell ⟨R,0,none⟩ a).setCell ⟨R,1,none⟩ b).heap[R]?=some (.cells #[a,b] T (0,0)):=by
 have hr1:(w.setCell ⟨R,0,none⟩ a).heap[R]?=some (.cells #[a,y] T (0,0)):=by rw [heap_setCell_same w R 0 _ _ _ h]; rfl
 exact ⟨((Keeps.refl (fun q=>q=R) w).setCell (.inl rfl) _).setCell (.inl rfl) _,by rw [heap_setCell_same _ R 1 _ _ _ hr1]; rfl⟩
def ReadPost (w:World) (b:ByteArray) (st:Int) (e:Ending) (w':World):Prop:=e=.returned (.tuple #[.agg #[.string b,.int .i64 st],.bool true])∧Keeps No w w'
theorem readType_any {j st:Nat} (hj:j < 11) (hst:st≤1) (w:World):Calls Tryz.prog 14 #[.string (tyS j st)] w (ReadPost w (bsK j) (st:Int)):=by
 have HTR:=zz (fun W=>trim_any (st:=st) hj W);have HBA:=zz (fun W=>shBase_any hj (st:Int) W);obtain ⟨hz,hz4⟩:=tyS_size hj hst;have HNT:Hid (j=8∨j=9→Lx.tokensM (nmK j)=⟨[⟨1,0,nmK j,⟨#[]⟩,0,false⟩],0,0⟩):=zz name_toks;have HTK:=zz (fun W=>tokens_any (nmK j) W);have hkd:(kdK j=1∨kdK j=2)∨(kdK j=3∧(j=8∨j=9)):=by
  have hc:j=0∨j=1∨j=2∨j=3∨j=4∨j=5∨j=6∨j=7∨j=8∨j=9∨j=10:=by omega
  rcases hc with rfl | rfl | rfl | rfl | rfl | rfl | rfl | rfl | rfl | rfl | rfl <;> first | exact .inl (.inl rfl) | exact .inl (.inr rfl) | exact .inr ⟨rfl,by decide⟩
 obtain ⟨A,hA⟩:∃ b,tyS j st=b:=⟨_,rfl⟩;obtain ⟨b,hb⟩:∃ b,bsK j=b:=⟨_,rfl⟩;obtain ⟨nm,hnm⟩:∃ b,nmK j=b:=⟨_,rfl⟩;obtain ⟨kd,hk⟩:∃ b,kdK j=b:=⟨_,rfl⟩;rw [hA,hb] at HTR hz;rw [hb] at hz4;rw [hb,hk,hnm] at HBA;rw [hnm] at HTK HNT;rw [hk] at hkd;rw [hA,hb];have hz1:(A.size:Int) - (b.size:Int)=(st:Int):=by omega
 have hz2:(A.size:Int)≤5:=by omega
 have hz3:(b.size:Int)≤4:=by omega
 have HZ1:=zz hz1;clear hA hb hnm hk hj hst hz hz4 hz1;go_enter Tryz.func14,Tryz.ntmps14;go_upto_region 1 with fail
 have hk1:Keeps No w (w.alloc (.cells #[.string ⟨#[]⟩,.int .i64 0] 56)):=(Keeps.refl _ _).alloc _;have hr1:(w.alloc (.cells #[.string ⟨#[]⟩,.int .i64 0] 56)).heap[w.heap.size]?=some (.cells #[.string ⟨#[]⟩,.int .i64 0] 56 (0,0)):=heap_alloc_new _ _;generalize w.alloc (.cells #[.string ⟨#[]⟩,.int .i64 0] 56)=w1 at hk1 hr1 ⊢;obtain ⟨R,hR⟩:∃ q,w.heap.size=q:=⟨_,rfl⟩;rw [hR] at hr1 ⊢;have HR:=zz hR;have HK1:=zz hk1;have HR1:=zz hr1;clear hk1 hr1 hR;go_wp2_with fail;refine (HTR.out w1).mono ?_;rintro e w2 ⟨rfl,hw⟩;obtain rfl:w2=w1:=hw;go_upto_region 3 with fail
 rw [HZ1.out];have hk3:Keeps No w2 (w2.alloc (.cells #[.string b,.int .i64 (st:Int)] 56)):=(Keeps.refl _ _).alloc _;have hr3:(w2.alloc (.cells #[.string b,.int .i64 (st:Int)] 56)).heap[w2.heap.size]?=some (.cells #[.string b,.int .i64 (st:Int)] 56 (0,0)):=heap_alloc_new _ _;generalize w2.alloc (.cells #[.string b,.int .i64 (st:Int)] 56)=w3 at hk3 hr3 ⊢;obtain ⟨U,hU⟩:∃ q,w2.heap.size=q:=⟨_,rfl⟩;rw [hU] at hr3 ⊢;have HK3:Hid (Keeps No w w3):=zz (HK1.out.trans hk3 (fun _ _ e=>e));have HR3:Hid (w3.heap[R]?=some (.cells #[.string ⟨#[]⟩,.int .i64 0] 56 (0,0))):=zz ((hk3.block _ (Array.getElem?_eq_some_iff.1 HR1.out).1 (fun e=>e)).trans HR1.out);have HU3:=zz hr3;have HRU:Hid (R≠U):=zz (by have:=(Array.getElem?_eq_some_iff.1 HR1.out).1; omega);have c0:w3.cell? ⟨U,0,none⟩=some (.string b):=by rw [cell_of_row w3 U 0 _ _ _ hr3]; rfl
 have c1:w3.cell? ⟨U,1,none⟩=some (.int .i64 (st:Int)):=by rw [cell_of_row w3 U 1 _ _ _ hr3]; rfl
 clear hk3 hr3 hU HK1 HR1 hz2 hz3;go_wp2_with fail;refine (HBA.out w3).mono ?_;rintro e w4 ⟨rfl,hk⟩;have HK4:Hid (Keeps No w w4):=zz (HK3.out.trans hk (fun _ _ e=>e));have HR4:Hid (w4.heap[R]?=some (.cells #[.string ⟨#[]⟩,.int .i64 0] 56 (0,0))):=zz ((hk.block _ (Array.getElem?_eq_some_iff.1 HR3.out).1 (fun e=>e)).trans HR3.out);have HU4:Hid (w4.heap[U]?=some (.cells #[.string b,.int .i64 (st:Int)] 56 (0,0))):=zz ((hk.block _ (Array.getElem?_eq_some_iff.1 HU3.out).1 (fun e=>e)).trans HU3.out);clear hk c0 c1 HK3 HR3 HU3;rcases hkd with hkd | ⟨rfl,hjj⟩
 · have d0:w4.cell? ⟨U,0,none⟩=some (.string b):=by rw [cell_of_row w4 U 0 _ _ _ HU4.out]; rfl
   have d1:w4.cell? ⟨U,1,none⟩=some (.int .i64 (st:Int)):=by rw [cell_of_row w4 U 1 _ _ _ HU4.out]; rfl
   have e0:w4.cell? ⟨R,0,none⟩=some (.string ⟨#[]⟩):=by rw [cell_of_row w4 R 0 _ _ _ HR4.out]; rfl
   have e1:w4.cell? ⟨R,1,none⟩=some (.int .i64 0):=by rw [cell_of_row w4 R 1 _ _ _ HR4.out]; rfl
   have f0:w4.frozen? ⟨R,0,none⟩=false:=frozen_of_row w4 R 0 _ _ HR4.out;have f1:w4.frozen? ⟨R,1,none⟩=false:=frozen_of_row w4 R 1 _ _ HR4.out;rcases hkd with rfl | rfl
   all_goals
    go_wp2_with fail;obtain ⟨hkE,hrE⟩:=two_set (a:=.string b) (b:=.int .i64 (st:Int)) HR4.out;generalize (w4.setCell ⟨R,0,none⟩ (.string b)).setCell ⟨R,1,none⟩ (.int .i64 (st:Int))=wE at hkE hrE ⊢;have g0:wE.cell? ⟨R,0,none⟩=some (.string b):=by rw [cell_of_row wE R 0 _ _ _ hrE]; rfl
    have g1:wE.cell? ⟨R,1,none⟩=some (.int .i64 (st:Int)):=by rw [cell_of_row wE R 1 _ _ _ hrE]; rfl
    refine bodyPost_ret (v:=.tuple #[.agg #[.string b,.int .i64 (st:Int)],.bool true]) ?_ rfl ⟨rfl,HK4.out.trans hkE (fun q hq e=>by have:=HR.out; omega)⟩;simp [results,Tryz.results14,go_sem,g0,g1,Act.put]
 · have hT:=HNT.out hjj;rw [hT] at HTK;clear hjj hT;go_wp2_with fail;refine (HTK.out w4).mono ?_;rintro e w5 ⟨v,rfl,hown,hbel⟩;simp only at hown ⊢;have hk5:Keeps No w4 w5:=Keeps.of_below hbel;have HK5:Hid (Keeps No w w5):=zz (HK4.out.trans hk5 (fun _ _ e=>e));have HR5:Hid (w5.heap[R]?=some (.cells #[.string ⟨#[]⟩,.int .i64 0] 56 (0,0))):=zz ((hk5.block _ (Array.getElem?_eq_some_iff.1 HR4.out).1 (fun e=>e)).trans HR4.out);have HU5:Hid (w5.heap[U]?=some (.cells #[.string b,.int .i64 (st:Int)] 56 (0,0))):=zz ((hk5.block _ (Array.getElem?_eq_some_iff.1 HU4.out).1 (fun e=>e)).trans HU4.out);have HOW:=zz hown;obtain ⟨ta,tcap,rfl,hta⟩:=own_form hown;obtain ⟨gt,rfl⟩:=hta (by show 0 < 1; omega);clear hown hbel hk5 hta HK4 HR4 HU4;go_upto_region 10 with fail
   have hk6:Keeps No w5 (w5.alloc (.cells #[.int .i64 0,.int .i64 0] 34)):=(Keeps.refl _ _).alloc _;generalize w5.alloc (.cells #[.int .i64 0,.int .i64 0] 34)=w6 at hk6 ⊢;have HK6:Hid (Keeps No w w6):=zz (HK5.out.trans hk6 (fun _ _ e=>e));have HR6:Hid (w6.heap[R]?=some (.cells #[.string ⟨#[]⟩,.int .i64 0] 56 (0,0))):=zz ((hk6.block _ (Array.getElem?_eq_some_iff.1 HR5.out).1 (fun e=>e)).trans HR5.out);have hu6:w6.heap[U]?=some (.cells #[.string b,.int .i64 (st:Int)] 56 (0,0)):=(hk6.block _ (Array.getElem?_eq_some_iff.1 HU5.out).1 (fun e=>e)).trans HU5.out;have d0:w6.cell? ⟨U,0,none⟩=some (.string b):=by rw [cell_of_row w6 U 0 _ _ _ hu6]; rfl
   have d1:w6.cell? ⟨U,1,none⟩=some (.int .i64 (st:Int)):=by rw [cell_of_row w6 U 1 _ _ _ hu6]; rfl
   have e0:w6.cell? ⟨R,0,none⟩=some (.string ⟨#[]⟩):=by rw [cell_of_row w6 R 0 _ _ _ HR6.out]; rfl
   have e1:w6.cell? ⟨R,1,none⟩=some (.int .i64 0):=by rw [cell_of_row w6 R 1 _ _ _ HR6.out]; rfl
   have f0:w6.frozen? ⟨R,0,none⟩=false:=frozen_of_row w6 R 0 _ _ HR6.out;have f1:w6.frozen? ⟨R,1,none⟩=false:=frozen_of_row w6 R 1 _ _ HR6.out;have k0:w6.cell? ⟨gt,0,none⟩=some (.int .i64 1):=by
    have e:=HOW.out.cells (g:=gt) rfl 0 (.int .i64 1) rfl;rw [Lib.add_plain] at e; exact hk6.cell0 e
   have k2:w6.cell? ⟨gt,2,none⟩=some (.string nm):=by
    have e:=HOW.out.cells (g:=gt) rfl 2 (.string nm) rfl;rw [Lib.add_plain] at e; exact hk6.cell0 e
   clear hk6 hu6 HK5 HR5 HU5;have hlen:([⟨1,0,nm,⟨#[]⟩,0,false⟩]:List Tk).length=1:=rfl;simp only [hlen];go_wp2_with fail;obtain ⟨hkE,hrE⟩:=two_set (a:=.string b) (b:=.int .i64 (st:Int)) HR6.out;generalize (w6.setCell ⟨R,0,none⟩ (.string b)).setCell ⟨R,1,none⟩ (.int .i64 (st:Int))=wE at hkE hrE ⊢;have g0:wE.cell? ⟨R,0,none⟩=some (.string b):=by rw [cell_of_row wE R 0 _ _ _ hrE]; rfl
   have g1:wE.cell? ⟨R,1,none⟩=some (.int .i64 (st:Int)):=by rw [cell_of_row wE R 1 _ _ _ hrE]; rfl
   refine bodyPost_ret (v:=.tuple #[.agg #[.string b,.int .i64 (st:Int)],.bool true]) ?_ rfl ⟨rfl,HK6.out.trans hkE (fun q hq e=>by have:=HR.out; omega)⟩;simp [results,Tryz.results14,go_sem,g0,g1,Act.put]
def SzIs (ks:List Kn) (b:ByteArray) (st sz:Int):Prop:=∃ al:Int,∀ (B:Nat) (X:Tx) (W:World),Tb W B X ks→Calls Tryz.prog 23 #[.pointer (some ⟨X.P,0,none⟩),.agg #[.string b,.int .i64 st]] W fun e w'=>e=.returned (.tuple #[.int .i64 sz,.int .i64 al])∧Keeps No W w'
theorem tabSize_any {ks:List Kn} {b:ByteArray} {st sz:Int} (h:SzIs ks b st sz) {B:Nat} {X:Tx} (w:World) (hT:Tb w B X ks) :
    Calls Tryz.prog 15 #[.pointer (some ⟨X.P,0,none⟩),.agg #[.string b,.int .i64 st]] w fun e w'=>e=.returned (.int .i64 sz)∧Keeps No w w':=by
 obtain ⟨al,h⟩:=h;have HS:=zz (fun W (hk:Keeps No w W)=>h B X W (hT.no hk));clear h hT;go_enter Tryz.func15,Tryz.ntmps15;go_upto_region 1 with fail
 have c0:(w.alloc (.cells #[.string b,.int .i64 st] 56)).cell? ⟨w.heap.size,0,none⟩=some (.string b):=ty_cell rfl;have c1:(w.alloc (.cells #[.string b,.int .i64 st] 56)).cell? ⟨w.heap.size,1,none⟩=some (.int .i64 st):=ty_cell rfl;have hk1:Keeps No w (w.alloc (.cells #[.string b,.int .i64 st] 56)):=(Keeps.refl _ _).alloc _;generalize w.alloc (.cells #[.string b,.int .i64 st] 56)=w1 at c0 c1 hk1 ⊢;obtain ⟨R,hR⟩:∃ R,w.heap.size=R:=⟨_,rfl⟩;rw [hR] at c0 c1 ⊢;have HK1:=zz hk1;clear hk1 hR;go_wp2_with fail;refine (HS.out w1 HK1.out).mono ?_;rintro e w2 ⟨rfl,hk⟩;have HK2:Hid (Keeps No w w2):=zz (HK1.out.trans hk (fun _ _ e=>e));clear hk;go_wp2_with fail;go_returns;exact ⟨rfl,HK2.out⟩
theorem laySize_any (s:ByteArray) (ks:List Kn) (hkn:∀ W,LaidP W→Calls Tryz.prog 11 #[.string s] W (KnownPost W ks)) {j st:Nat} (hj:j < 11) (hst:st≤1) {sz num r:Int} (hsz:SzIs ks (bsK j) st sz) (h0:0≤sz∧sz≤1000000) (h1:0≤num∧num≤1000)
    (hr:r=if num=0 then sz else sz * num) (w:World) (hl:LaidP w):Calls Tryz.prog 10 #[.string s,.string (tyS j st),.int .i64 num] w fun e w'=>e=.returned (.int .i64 r)∧Keeps No w w':=by
 have HL:=zz hl;have HKN:=zz hkn;have HRT:=zz (fun W=>readType_any hj hst W);have HTS:=zz (fun B X W (hT:Tb W B X ks)=>tabSize_any hsz W hT);obtain ⟨A,hA⟩:∃ b,tyS j st=b:=⟨_,rfl⟩;obtain ⟨b,hb⟩:∃ b,bsK j=b:=⟨_,rfl⟩;rw [hA,hb] at HRT;rw [hb] at HTS;rw [hA];have HR:=zz hr;have H0:=zz h0;have H1:=zz h1;have hn1:¬ num < 0:=by omega
 clear hA hb hj hst hsz hl hkn hr h0 h1;go_enter Tryz.func10,Tryz.ntmps10;go_wp2_with fail;refine (HRT.out w).mono ?_;rintro e w1 ⟨rfl,hk⟩;have HK1:=zz hk;clear hk;go_upto_region 2 with fail
 have hk2:Keeps No w1 (w1.alloc (.cells #[.string b,.int .i64 (st:Int)] 56)):=(Keeps.refl _ _).alloc _;have hr2:(w1.alloc (.cells #[.string b,.int .i64 (st:Int)] 56)).heap[w1.heap.size]?=some (.cells #[.string b,.int .i64 (st:Int)] 56 (0,0)):=heap_alloc_new _ _;generalize w1.alloc (.cells #[.string b,.int .i64 (st:Int)] 56)=w2 at hk2 hr2 ⊢;obtain ⟨U,hU⟩:∃ q,w1.heap.size=q:=⟨_,rfl⟩;rw [hU] at hr2 ⊢;have HK2:Hid (Keeps No w w2):=zz (HK1.out.trans hk2 (fun _ _ e=>e));have HU2:=zz hr2;clear hk2 hr2 hU HK1;go_wp2_with fail;refine (HKN.out w2 (HL.out.no HK2.out)).mono ?_;rintro e w3 ⟨B,X,rfl,hT,hB,hk⟩;have HK3:Hid (Keeps No w w3):=zz (HK2.out.trans hk (fun _ _ e=>e));have HU3:Hid (w3.heap[U]?=some (.cells #[.string b,.int .i64 (st:Int)] 56 (0,0))):=zz ((hk.block _ (Array.getElem?_eq_some_iff.1 HU2.out).1 (fun e=>e)).trans HU2.out);have HT3:=zz hT;clear hT hB hk HK2 HU2;go_upto_region 5 with fail
 have hk4:Keeps No w3 (w3.alloc (.cells #[.int .i64 0,.int .i64 0] 34)):=(Keeps.refl _ _).alloc _;have hr4:(w3.alloc (.cells #[.int .i64 0,.int .i64 0] 34)).heap[w3.heap.size]?=some (.cells #[.int .i64 0,.int .i64 0] 34 (0,0)):=heap_alloc_new _ _;generalize w3.alloc (.cells #[.int .i64 0,.int .i64 0] 34)=w4 at hk4 hr4 ⊢;obtain ⟨V,hV⟩:∃ q,w3.heap.size=q:=⟨_,rfl⟩;rw [hV] at hr4 ⊢;have HK4:Hid (Keeps No w w4):=zz (HK3.out.trans hk4 (fun _ _ e=>e));have hu4:w4.heap[U]?=some (.cells #[.string b,.int .i64 (st:Int)] 56 (0,0)):=(hk4.block _ (Array.getElem?_eq_some_iff.1 HU3.out).1 (fun e=>e)).trans HU3.out;have HT4:=zz (HT3.out.no hk4);have c0:w4.cell? ⟨V,0,none⟩=some (.int .i64 0):=by rw [cell_of_row w4 V 0 _ _ _ hr4]; rfl
 have d0:w4.cell? ⟨U,0,none⟩=some (.string b):=by rw [cell_of_row w4 U 0 _ _ _ hu4]; rfl
 have d1:w4.cell? ⟨U,1,none⟩=some (.int .i64 (st:Int)):=by rw [cell_of_row w4 U 1 _ _ _ hu4]; rfl
 clear hk4 hr4 hV hu4 HK3 HU3 HT3;go_wp2_with fail;refine (HTS.out B X w4 HT4.out).mono ?_;rintro e w5 ⟨rfl,hk⟩;have HK5:Hid (Keeps No w w5):=zz (HK4.out.trans hk (fun _ _ e=>e));clear hk c0 d0 d1 HT4 HK4;have h0:=H0.out;have h1:=H1.out;by_cases hn:num=0
 · subst hn;have hrr:r=sz:=by rw [HR.out,if_pos rfl]
   subst hrr;clear H0 H1 HR hn1;go_wp2_with fail;go_returns;exact ⟨rfl,HK5.out⟩
 · have hrr:r=sz * num:=by rw [HR.out,if_neg hn]
   have hn0:(num==0)=false:=beq_eq_false_iff_ne.2 hn;by_cases hs:sz=0
   · subst hs;have hr0:r=0:=by rw [hrr,Int.zero_mul]
     subst hr0;clear H0 H1 HR hn1 hn h0 h1 hrr;go_wp2_with fail;go_returns;exact ⟨rfl,HK5.out⟩
   · have hs0:(sz==0)=false:=beq_eq_false_iff_ne.2 hs;have hp1:0≤sz * num:=Int.mul_nonneg h0.1 h1.1;have hp2:sz * num≤1000000 * 1000:=Int.mul_le_mul h0.2 h1.2 h1.1 (by omega);have hq1:2147≤Int.tdiv 2147483647 sz:=by
      rw [Int.tdiv_eq_ediv_of_nonneg (by omega)];exact Int.le_ediv_of_mul_le (by omega) (by omega)
     have hq2:Int.tdiv 2147483647 sz≤2147483647:=by
      rw [Int.tdiv_eq_ediv_of_nonneg (by omega)];exact Int.ediv_le_self _ (by omega)
     obtain ⟨q,hq⟩:∃ q,Int.tdiv 2147483647 sz=q:=⟨_,rfl⟩;rw [hq] at hq1 hq2;have hlt:¬ q < num:=by omega
     have hz1:0≤sz:=h0.1;have hz2:sz≤1000000:=h0.2;clear H0 H1 HR hn1 hn h0 h1;go_wp2_with fail;go_returns;exact ⟨by rw [hrr]; rfl,HK5.out⟩
def lfVals (f:Kf):List Value:=[.string f.v.name,.string (tyM f.v.ty),.int .i64 f.v.num,.int .i64 f.at_,.int .i64 f.size]
abbrev Lr:=Kn × Option Addr × Nat
def lsVals (r:Lr):List Value:=[.string r.1.name,.int .i64 r.1.size,.int .i64 r.1.align,.slice r.2.1 r.1.fields.length r.2.2]
structure LsD (w:World) (B:Nat) (v:Value) (l:List Lr):Prop where
 own:w.ownsRow B 39 4 v l.length (l.flatMap lsVals)
 fs:∀ r∈l,RwD w (fun q=>B≤q∧v.ownBlock≠some q) 41 5 (.slice r.2.1 r.1.fields.length r.2.2) r.1.fields.length (r.1.fields.flatMap lfVals)
theorem LsD.no {w w':World} {B:Nat} {v:Value} {l:List Lr} (h:LsD w B v l) (hk:Keeps No w w'):LsD w' B v l :=
 ⟨own_kept h.own (fun q hq=>hk.block q (own_ltb h.own hq) (fun e=>e)),fun r hr=>(h.fs r hr).keep hk (fun _ e=>e.elim)⟩
structure LT (w wr:World) (S:Nat) (k:Kn) (l:List Kf) (fa:Option Addr) (fc:Nat):Prop where
 kp:Keeps No w wr
 row:wr.heap[S]?=some (.cells #[.string k.name,.int .i64 k.size,.int .i64 k.align,.slice fa l.length fc] 39 (0,0))
 own:wr.ownsRow w.heap.size 41 5 (.slice fa l.length fc) l.length (l.flatMap lfVals)
 ne:∀ q,(Value.slice fa l.length fc).ownBlock=some q→q≠S
 S0:w.heap.size≤S
section
variable {w wr w' v2 v3:World} {S:Nat} {k:Kn} {l:List Kf} {fa:Option Addr} {fc:Nat}
theorem LT.lt (h:LT w wr S k l fa fc):S < wr.heap.size:=(Array.getElem?_eq_some_iff.1 h.row).1
theorem LT.no (h:LT w wr S k l fa fc) (hk:Keeps No wr w'):LT w w' S k l fa fc :=
 ⟨h.kp.trans hk (fun _ _ e=>e),(hk.block _ h.lt (fun e=>e)).trans h.row,own_kept h.own (fun q hq=>hk.block q (own_ltb h.own hq) (fun e=>e)),h.ne,h.S0⟩
theorem LT.cell (h:LT w wr S k l fa fc) {j:Nat} {v:Value} (hv:#[Value.string k.name,.int .i64 k.size,.int .i64 k.align,.slice fa l.length fc][j]?=some v):wr.cell? ⟨S,j,none⟩=some v:=by
 rw [cell_of_row wr S j _ _ _ h.row]; exact hv
theorem LT.push (h:LT w v2 S k l fa fc) {y:Kf} {g' cap:Nat}
    (ho:v3.ownsRow w.heap.size 41 5 (.slice (some ⟨g',0,none⟩) (l.length+1) cap) (l.length+1) ((l++[y]).flatMap lfVals)) (hg:v2.grownBy v3 (Value.slice fa l.length fc).ownBlock) (hgo:(Value.slice fa l.length fc).ownBlock=some g'∨v2.heap.size≤g') :
    LT w (v3.setCell ⟨S,3,none⟩ (.slice (some ⟨g',0,none⟩) (l.length+1) cap)) S k (l++[y]) (some ⟨g',0,none⟩) cap:=by
 have hk:Keeps (fun q=>(Value.slice fa l.length fc).ownBlock=some q) v2 v3:=(Keeps.refl _ _).grown hg (fun q e=>.inl e);have hn3:v3.heap[S]?=some (.cells _ _ (0,0)):=(hk.block _ h.lt (fun e=>h.ne S e rfl)).trans h.row;have hks:Keeps (fun q=>q=S) v3 (v3.setCell ⟨S,3,none⟩ (.slice (some ⟨g',0,none⟩) (l.length+1) cap)):=(Keeps.refl (fun q=>q=S) v3).setCell (.inl rfl) _;have hgS:g'≠S:=fun e=>by
  rcases hgo with e2 | e2
  · exact h.ne g' e2 e
  · have:=h.lt; omega
 have hlen:(l++[y]).length=l.length+1:=by simp
 refine ⟨(h.kp.trans hk (fun q hq e=>absurd hq (by have:=own_lo h.own q e; omega))).trans hks (fun q hq e=>by subst e; exact absurd hq (by have:=h.S0; omega)),?_,?_,?_,h.S0⟩
 · rw [heap_setCell_same v3 S 3 _ _ _ hn3,hlen]; rfl
 · rw [hlen];exact own_kept ho (fun q hq=>hks.block q (own_ltb ho hq) (fun e=>by
    have e1:g'=q:=by injection hq
    exact hgS (e1.trans e)))
 · intro q hq e;have e1:g'=q:=by rw [hlen] at hq; injection hq
   exact hgS (e1.trans e)
end
theorem infoLf:(Tryz.prog.info? 41).map (fun i=>(i.zero,i.size,i.bytes))=some (some (.agg #[.string ⟨#[]⟩,.string ⟨#[]⟩,.int .i64 0,.int .i64 0,.int .i64 0]),5,56):=by kernel_rfl
theorem infoLs:(Tryz.prog.info? 39).map (fun i=>(i.zero,i.size,i.bytes))=some (some (.agg #[.string ⟨#[]⟩,.int .i64 0,.int .i64 0,.slice none 0 0]),4,56):=by kernel_rfl
theorem lf_one (v:Kf):∀ u∈lfVals v,u.oneCell'=true:=by
 intro u hu;unfold lfVals at hu;simp only [List.mem_cons,List.not_mem_nil,or_false] at hu;rcases hu with rfl | rfl | rfl | rfl | rfl <;> rfl
theorem ls_one (v:Lr):∀ u∈lsVals v,u.oneCell'=true:=by
 intro u hu;unfold lsVals at hu;simp only [List.mem_cons,List.not_mem_nil,or_false] at hu;rcases hu with rfl | rfl | rfl | rfl <;> rfl
theorem wpList_appLf (w:World) {ops:Array Oper} {rest:List Oper} {o:Oper} {a:Act} {Q:Exit→Act→World→Prop} (hgd:o.guard=none) (s x:Operand) (t:TypeId)
    (ho:o.op=.call { callee:=.builtin .append,args:=#[s,x],argTypes:=#[t,t] }) (ht:Tryz.prog.underlying t=some (.slice 41))
    (B:Nat) (v:Value) (n:Nat) (l1:List Kf) (y:Kf) (q:Nat) (hs:a.eval s=v) (hown:w.ownsRow B 41 5 v n (l1.flatMap lfVals)) (hx:a.eval x=.slice (some ⟨q,0,none⟩) 1 1) (hq:w.heap[q]?=some (.cells (lfVals y).toArray 41 (0,0)))
    (hn:n≤999999) (hB:B≤w.heap.size)
    (h:∀ g' cap w',w'.ownsRow B 41 5 (.slice (some ⟨g',0,none⟩) (n+1) cap) (n+1) ((l1++[y]).flatMap lfVals)→w.grownBy w' v.ownBlock→(v.ownBlock=some g'∨w.heap.size≤g')→wpList Tryz.prog ops Q rest (a.put o.dst (.slice (some ⟨g',0,none⟩) (n+1) cap)) w'):wpList Tryz.prog ops Q (o::rest) a w:=by
 obtain ⟨i0,hi,hz0,hz1,hz2⟩:=info_parts infoLf;refine wpList_append_lies w hgd s x t ho B 41 i0 _ 5 56 ht hi hz0 hz1 hz2 rfl (by decide) v n _ hs hown ⟨q,0,none⟩ 1 1 (lfVals y) hx rfl (fun j u hu=>?_) (lf_one y) (by decide) (by unfold maxLen; omega) (by omega) hB _ rfl (fun g' cap w' k1 k2 k3 _=>h g' cap w' (by rw [List.flatMap_append]; simpa using k1) k2 (k3.imp id (fun e=>by omega)));have e:(⟨q,0,none⟩:Addr).add j=⟨q,0+j,none⟩:=by unfold Addr.add; split <;> simp_all
 rw [e,Nat.zero_add,cell_of_row w q _ _ _ _ hq,List.getElem?_toArray];exact hu
theorem wpList_appLs (w:World) {ops:Array Oper} {rest:List Oper} {o:Oper} {a:Act} {Q:Exit→Act→World→Prop} (hgd:o.guard=none) (s x:Operand) (t:TypeId)
    (ho:o.op=.call { callee:=.builtin .append,args:=#[s,x],argTypes:=#[t,t] }) (ht:Tryz.prog.underlying t=some (.slice 39))
    (B:Nat) (v:Value) (n:Nat) (l1:List Lr) (y:Lr) (q:Nat) (hs:a.eval s=v) (hown:w.ownsRow B 39 4 v n (l1.flatMap lsVals)) (hx:a.eval x=.slice (some ⟨q,0,none⟩) 1 1) (hq:w.heap[q]?=some (.cells (lsVals y).toArray 39 (0,0)))
    (hn:n≤999999) (hB:B≤w.heap.size)
    (h:∀ g' cap w',w'.ownsRow B 39 4 (.slice (some ⟨g',0,none⟩) (n+1) cap) (n+1) ((l1++[y]).flatMap lsVals)→w.grownBy w' v.ownBlock→(v.ownBlock=some g'∨w.heap.size≤g')→wpList Tryz.prog ops Q rest (a.put o.dst (.slice (some ⟨g',0,none⟩) (n+1) cap)) w'):wpList Tryz.prog ops Q (o::rest) a w:=by
 obtain ⟨i0,hi,hz0,hz1,hz2⟩:=info_parts infoLs;refine wpList_append_lies w hgd s x t ho B 39 i0 _ 4 56 ht hi hz0 hz1 hz2 rfl (by decide) v n _ hs hown ⟨q,0,none⟩ 1 1 (lsVals y) hx rfl (fun j u hu=>?_) (ls_one y) (by decide) (by unfold maxLen; omega) (by omega) hB _ rfl (fun g' cap w' k1 k2 k3 _=>h g' cap w' (by rw [List.flatMap_append]; simpa using k1) k2 (k3.imp id (fun e=>by omega)));have e:(⟨q,0,none⟩:Addr).add j=⟨q,0+j,none⟩:=by unfold Addr.add; split <;> simp_all
 rw [e,Nat.zero_add,cell_of_row w q _ _ _ _ hq,List.getElem?_toArray];exact hu
theorem flat_getL:∀ (l:List Kf) (i:Nat) (t:Kf) (j:Nat) (v:Value),l[i]?=some t→(kfVals t)[j]?=some v→(l.flatMap kfVals)[i * 7+j]?=some v
 | [],i,y,j,v,h,_=>by cases h
 | a::t,0,y,j,v,h,hj=>by
   injection h with h; subst h;have hjl:j < (kfVals a).length:=(List.getElem?_eq_some_iff.1 hj).1;rw [Nat.zero_mul,Nat.zero_add,List.flatMap_cons,List.getElem?_append_left hjl];exact hj
 | a::t,i+1,y,j,v,h,hj=>by
   have e:(kfVals a).length=7:=rfl;rw [List.flatMap_cons,List.getElem?_append_right (by omega),e,show (i+1) * 7+j - 7=i * 7+j by omega];exact flat_getL t i y j v h hj
theorem row_cell7 {w:World} {g:Nat} {vc n:Nat} {vs:List Kf} (h:w.ownsRow 0 60 7 (.slice (some ⟨g,0,none⟩) n vc) n (vs.flatMap kfVals)) {i:Nat} {y:Kf} (hy:vs[i]?=some y) {j:Nat} {v:Value} (hj:(kfVals y)[j]?=some v):w.cell? ⟨g,i * 7+j,none⟩=some v:=by
 have:=h.cells (g:=g) rfl (i * 7+j) v (flat_getL vs i y j v hy hj);rw [Lib.add_plain,Nat.zero_add] at this; exact this
theorem LsD.push {v2 v3:World} {B:Nat} {v:Value} {l:List Lr} (h:LsD v2 B v l) {r:Lr} {g' cap:Nat} (hr:RwD v2 (fun q=>B≤q∧v.ownBlock≠some q) 41 5 (.slice r.2.1 r.1.fields.length r.2.2) r.1.fields.length (r.1.fields.flatMap lfVals))
    (ho:v3.ownsRow B 39 4 (.slice (some ⟨g',0,none⟩) (l.length+1) cap) (l.length+1) ((l++[r]).flatMap lsVals)) (hg:v2.grownBy v3 v.ownBlock) (hgo:v.ownBlock=some g'∨v2.heap.size≤g') :
    LsD v3 B (.slice (some ⟨g',0,none⟩) (l.length+1) cap) (l++[r])∧Keeps (fun q=>v.ownBlock=some q) v2 v3:=by
 have hk:Keeps (fun q=>v.ownBlock=some q) v2 v3:=(Keeps.refl _ _).grown hg (fun q e=>.inl e);have kd:∀ r:Lr,RwD v2 (fun q=>B≤q∧v.ownBlock≠some q) 41 5 (.slice r.2.1 r.1.fields.length r.2.2) r.1.fields.length (r.1.fields.flatMap lfVals)→RwD v3 (fun q=>B≤q∧(Value.slice (some ⟨g',0,none⟩) (l.length+1) cap).ownBlock≠some q) 41 5 (.slice r.2.1 r.1.fields.length r.2.2) r.1.fields.length (r.1.fields.flatMap lfVals):=fun r hr =>
  have g2:RwD v2 (fun q=>(B≤q∧v.ownBlock≠some q)∧(Value.slice (some ⟨g',0,none⟩) (l.length+1) cap).ownBlock≠some q) 41 5 (.slice r.2.1 r.1.fields.length r.2.2) r.1.fields.length (r.1.fields.flatMap lfVals):=hr.mono (fun x hx d=>⟨d,fun e=>by
   have e1:g'=x:=by injection e
   rcases hgo with e2 | e2
   · exact d.2 (by rw [← e1]; exact e2)
   · omega⟩)
  (g2.keep hk (fun x e=>.inl (fun d=>d.1.2 e))).mono (fun x _ d=>⟨d.1.1,d.2⟩)
 refine ⟨⟨by rw [List.length_append]; exact ho,fun r' hr'=>?_⟩,hk⟩;rcases List.mem_append.1 hr' with h1 | h1
 · exact kd r' (h.fs r' h1)
 · rw [List.mem_singleton.1 h1]; exact kd r hr
end Go.Proofs.YtjgkacggjhobmaaGreatDoor
