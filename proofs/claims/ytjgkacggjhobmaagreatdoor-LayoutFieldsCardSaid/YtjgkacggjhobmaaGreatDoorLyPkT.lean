import Derived.Test.YtjgkacggjhobmaaGreatDoorLyPkS
import Derived.Test.YtjgkacggjhobmaaGreatDoorRows
import Derived.Test.YtjgkacggjhobmaaGreatDoorLyPkL
import Derived.ProofKit
import Derived.LaidMore
import Derived.Lay
import Derived.OpenShut
import Derived.Stop.Joined
import Derived.Stop.LaidErr
import Derived.Laws.IdiomStrings
set_option maxRecDepth 100000
set_option maxHeartbeats 25600000
set_option linter.unusedSimpArgs false
set_option linter.unusedVariables false
namespace Go.Proofs.YtjgkacggjhobmaaGreatDoor
open Go.RowKit Go.Maps Lx Sy
theorem order_any {P:Nat} {v:Value} (w:World) (h:w.cell? ⟨P,2,none⟩=some v):Calls Tryz.prog 12 #[.pointer (some ⟨P,0,none⟩)] w fun e w'=>e=.returned v∧w'=w:=by
 go_enter Tryz.func12,Tryz.ntmps12;go_wp2_with fail;go_returns;exact ⟨rfl,rfl⟩
theorem four_set {w:World} {R:Nat} {x0 x1 x2 x3 a b c d:Value} {T:TypeId} (h:w.heap[R]?=some (.cells #[x0,x1,x2,x3] T (0,0))) :
    Keeps (fun q=>q=R) w ((((w.setCell ⟨R,0,none⟩ a).setCell ⟨R,1,none⟩ b).setCell ⟨R,2,none⟩ c).setCell ⟨R,3,none⟩ d)∧((((w.setCell ⟨R,0,none⟩ a).setCell ⟨R,1,none⟩ b).setCell ⟨R,2,none⟩ c).setCell ⟨R,3,none⟩ d).heap[R]?=some (.cells #[a,b,c,d] T (0,0)):=by
 have h1:(w.setCell ⟨R,0,none⟩ a).heap[R]?=some (.cells #[a,x1,x2,x3] T (0,0)):=by rw [heap_setCell_same w R 0 _ _ _ h]; rfl
 have h2:((w.setCell ⟨R,0,none⟩ a).setCell ⟨R,1,none⟩ b).heap[R]?=some (.cells #[a,b,x2,x3] T (0,0)):=by rw [heap_setCell_same _ R 1 _ _ _ h1]; rfl
 have h3:(((w.setCell ⟨R,0,none⟩ a).setCell ⟨R,1,none⟩ b).setCell ⟨R,2,none⟩ c).heap[R]?=some (.cells #[a,b,c,x3] T (0,0)):=by rw [heap_setCell_same _ R 2 _ _ _ h2]; rfl
 exact ⟨((((Keeps.refl (fun q=>q=R) w).setCell (.inl rfl) _).setCell (.inl rfl) _).setCell (.inl rfl) _).setCell (.inl rfl) _,by rw [heap_setCell_same _ R 3 _ _ _ h3]; rfl⟩
def StructsPost (w:World) (ks:List Kn) (e:Ending) (w':World):Prop:=∃ (v:Value) (l:List Lr),e=.returned (.tuple #[v,.agg #[.int .i64 0,.int .i64 0]])∧l.map (fun r=>r.1)=ks∧LsD w' w.heap.size v l∧Keeps No w w'
def KsOk (ks:List Kn):Prop:=ks.length≤100∧∀ k∈ks,k.fields.length≤12∧∀ f∈k.fields,0≤f.v.ty.stars∧f.v.ty.stars≤1∧f.v.ty.base.size≤100∧0≤f.v.num∧f.v.num≤1000
theorem structs_any (s:ByteArray) (ks:List Kn) (hkn:∀ W,LaidP W→Calls Tryz.prog 11 #[.string s] W (KnownPost W ks)) (hks:KsOk ks) (w:World) (hl:LaidP w):Calls Tryz.prog 9 #[.string s] w (StructsPost w ks):=by
 have HL:=zz hl;have HKN:=zz hkn;have HOK:=zz hks;obtain ⟨n,hn⟩:∃ n,ks.length=n:=⟨_,rfl⟩;have HN:=zz hn;have hnb:n≤100:=by rw [← hn]; exact hks.1
 clear hl hkn hks hn;go_enter Tryz.func9,Tryz.ntmps9;go_upto_region 1 with fail
 have hk1:Keeps No w (w.alloc (.cells #[.int .i64 0,.int .i64 0] 34)):=(Keeps.refl _ _).alloc _;have hr1:(w.alloc (.cells #[.int .i64 0,.int .i64 0] 34)).heap[w.heap.size]?=some (.cells #[.int .i64 0,.int .i64 0] 34 (0,0)):=heap_alloc_new _ _;generalize w.alloc (.cells #[.int .i64 0,.int .i64 0] 34)=w1 at hk1 hr1 ⊢;obtain ⟨R,hR⟩:∃ q,w.heap.size=q:=⟨_,rfl⟩;rw [hR] at hr1 ⊢;have HR:=zz hR;have HK1:=zz hk1;have HR1:=zz hr1;clear hk1 hr1 hR;go_wp2_with fail;refine (HKN.out w1 (HL.out.no HK1.out)).mono ?_;rintro e w2 ⟨B,X,rfl,hT,hB,hk⟩;have HK2:Hid (Keeps No w w2):=zz (HK1.out.trans hk (fun _ _ e=>e));have HR2:Hid (w2.heap[R]?=some (.cells #[.int .i64 0,.int .i64 0] 34 (0,0))):=zz ((hk.block _ (Array.getElem?_eq_some_iff.1 HR1.out).1 (fun e=>e)).trans HR1.out);have HT2:=zz hT;clear hT hB hk HK1 HR1 HKN;go_upto_region 2 with fail
 have hk3:Keeps No w2 (w2.alloc (.cells #[.int .i64 0,.int .i64 0] 34)):=(Keeps.refl _ _).alloc _;have hr3:(w2.alloc (.cells #[.int .i64 0,.int .i64 0] 34)).heap[w2.heap.size]?=some (.cells #[.int .i64 0,.int .i64 0] 34 (0,0)):=heap_alloc_new _ _;generalize w2.alloc (.cells #[.int .i64 0,.int .i64 0] 34)=w3 at hk3 hr3 ⊢;obtain ⟨U,hU⟩:∃ q,w2.heap.size=q:=⟨_,rfl⟩;rw [hU] at hr3 ⊢;have c0:w3.cell? ⟨U,0,none⟩=some (.int .i64 0):=by rw [cell_of_row w3 U 0 _ _ _ hr3]; rfl
 have HK3:Hid (Keeps No w w3):=zz (HK2.out.trans hk3 (fun _ _ e=>e));have HR3:Hid (w3.heap[R]?=some (.cells #[.int .i64 0,.int .i64 0] 34 (0,0))):=zz ((hk3.block _ (Array.getElem?_eq_some_iff.1 HR2.out).1 (fun e=>e)).trans HR2.out);have HT3:=zz (HT2.out.no hk3);clear hk3 hr3 hU HT2 HK2 HR2;have p2:w3.cell? ⟨X.P,2,none⟩=some (.slice X.sa n X.sc):=by have:=HT3.out.cell (j:=2) rfl; rw [HN.out] at this; exact this
 obtain ⟨sa0,hsa0⟩:∃ x,X.sa=x:=⟨_,rfl⟩;rw [hsa0] at p2;have HSA:=zz hsa0;clear hsa0;go_wp2_with fail;refine (order_any w3 p2).mono ?_;rintro e w4 ⟨rfl,hw⟩;obtain rfl:w4=w3:=hw;clear p2 c0;go_wp2_with fail;go_loopg [24,6] n (fun gg u v wr=>∃ (i:Nat) (l:List Lr),u=.int .i64 (i:Int)∧i≤n∧gg=n - i∧Hid (l.map (fun r=>r.1)=ks.take i∧LsD wr w4.heap.size v l∧Keeps No w4 wr))
 case atStart=>exact ⟨0,[],rfl,by omega,by omega,zz ⟨rfl,⟨World.ownsRow_nil _ _ _ _,fun r hr=>(nomatch hr)⟩,Keeps.refl _ _⟩⟩
 case round =>
  obtain ⟨i,l,rfl,hi,rfl,HRL⟩:=hrel;obtain ⟨oa,oc,ho6,_⟩:=own_form HRL.out.2.1.own;subst ho6;by_cases hlt:i < n
  · obtain ⟨k,hk⟩:∃ k,ks[i]?=some k:=⟨_,List.getElem?_eq_getElem (by have:=HN.out; omega)⟩;have HTR:=zz (HT3.out.no HRL.out.2.2);obtain ⟨q,hq⟩:∃ q,X.qs[i]?=some q:=⟨_,List.getElem?_eq_getElem (by have:=HTR.out.len; have:=HN.out; omega)⟩;obtain ⟨fa,fc,hkd⟩:=HTR.out.kn i k q hk hq;have hlt1:(i:Int) < (n:Int):=by omega
    have how:=HTR.out.ord;rw [HN.out] at how;obtain ⟨ga,hg⟩:∃ g,X.sa=some ⟨g,0,none⟩:=by
     obtain ⟨aa,ca,e2,h2⟩:=own_form how;obtain ⟨g,hg⟩:=h2 (by omega);injection e2 with e2;exact ⟨g,e2.trans hg⟩
    have d0:wr.cell? ⟨ga,i,none⟩=some (.pointer (some ⟨q,0,none⟩)):=by
     rw [hg] at how;have e:=how.cells (g:=ga) rfl i (.pointer (some ⟨q,0,none⟩)) (by unfold ptrs; rw [List.getElem?_map,List.getElem?_map,hq]; rfl);rw [Lib.add_plain,Nat.zero_add] at e; exact e
    have HKD:=zz hkd;have HGA:=zz hg;have hokk:=HOK.out.2 k (List.mem_of_getElem? hk);have HF:=zz hokk.2;have hf12:=hokk.1;have HTK:Hid (ks.take (i+1)=ks.take i++[k]):=zz (by rw [List.take_add_one,hk]; rfl);obtain ⟨kn,hkn⟩:∃ x,k.name=x:=⟨_,rfl⟩;obtain ⟨kz,hkz⟩:∃ x,k.size=x:=⟨_,rfl⟩;obtain ⟨kl,hkl⟩:∃ x,k.align=x:=⟨_,rfl⟩;obtain ⟨m,hm⟩:∃ x,k.fields.length=x:=⟨_,rfl⟩;have hrow:=hkd.row;rw [hkn,hkz,hkl,hm] at hrow;rw [hm] at hf12;have HKN:=zz hkn;have HKZ:=zz hkz;have HKL:=zz hkl;have HM:=zz hm;have HQR:=zz hrow;clear hk hq hkd how hokk hkn hkz hkl hm hrow;have hg0:sa0=some ⟨ga,0,none⟩:=HSA.out.symm.trans hg;clear hg;subst hg0;go_upto_region 8 with fail
    have p0:∀ u:KW wr,u.W.cell? ⟨q,0,none⟩=some (.string kn):=fun u=>u.cell (by rw [cell_of_row wr q 0 _ _ _ HQR.out]; rfl)
    have p1:∀ u:KW wr,u.W.cell? ⟨q,1,none⟩=some (.int .i64 kz):=fun u=>u.cell (by rw [cell_of_row wr q 1 _ _ _ HQR.out]; rfl)
    have p2:∀ u:KW wr,u.W.cell? ⟨q,2,none⟩=some (.int .i64 kl):=fun u=>u.cell (by rw [cell_of_row wr q 2 _ _ _ HQR.out]; rfl)
    have hne:Nonempty (KW wr):=⟨KW.of _⟩;clear d0;refine Mix.wp_region_mix (fun W'=>∃ u:KW wr,W'=u.W) [14] (by kernel_rfl) ?_;have HV0:Hid (Keeps No wr wr.drew):=zz ((Keeps.refl _ wr).drew);generalize wr.drew=v0 at HV0 ⊢;refine Mix.mix_seg 0 12 3 (by kernel_rfl) (by kernel_rfl) rfl rfl ⟨⟨v0,HV0.out⟩,rfl⟩ ?_;simp only [zp1,zp2,zp3,zp4]
    repeat (go_big_quiet_step (fail))
    refine wpQuiet_nil ?_;clear p0 p1 p2;refine Mix.mix_two 12 13 2 (by kernel_rfl) rfl rfl rfl ?_ ?_
    case' refine_1 =>
     simp only [zp1,zp2,zp3,zp4];go_wp2_with fail;refine ⟨.inr ⟨⟨v0,HV0.out⟩,rfl⟩,?_⟩;refine Mix.mix_one 13 1 (by kernel_rfl) rfl rfl ?_;simp only [zp1,zp2,zp3,zp4];go_wp2_with fail;have hk5:Keeps No v0 (v0.alloc (.cells #[.string ⟨#[]⟩,.int .i64 0,.int .i64 0,.slice none 0 0] 39)):=(Keeps.refl _ _).alloc _;have hr5:(v0.alloc (.cells #[.string ⟨#[]⟩,.int .i64 0,.int .i64 0,.slice none 0 0] 39)).heap[v0.heap.size]?=some (.cells #[.string ⟨#[]⟩,.int .i64 0,.int .i64 0,.slice none 0 0] 39 (0,0)):=heap_alloc_new _ _;generalize v0.alloc (.cells #[.string ⟨#[]⟩,.int .i64 0,.int .i64 0,.slice none 0 0] 39)=w5 at hk5 hr5 ⊢;have HV5:Hid (Keeps No wr w5):=zz (HV0.out.trans hk5 (fun _ _ e=>e));refine ⟨.inr ⟨⟨w5,HV5.out⟩,rfl⟩,?_⟩
    case' refine_2 =>
     simp only [zp1,zp2,zp3,zp4];go_wp2_with fail;have hk5:Keeps No v0 (v0.alloc (.cells #[.string ⟨#[]⟩,.int .i64 0,.int .i64 0,.slice none 0 0] 39)):=(Keeps.refl _ _).alloc _;have hr5:(v0.alloc (.cells #[.string ⟨#[]⟩,.int .i64 0,.int .i64 0,.slice none 0 0] 39)).heap[v0.heap.size]?=some (.cells #[.string ⟨#[]⟩,.int .i64 0,.int .i64 0,.slice none 0 0] 39 (0,0)):=heap_alloc_new _ _;generalize v0.alloc (.cells #[.string ⟨#[]⟩,.int .i64 0,.int .i64 0,.slice none 0 0] 39)=w5 at hk5 hr5 ⊢;have HV5:Hid (Keeps No wr w5):=zz (HV0.out.trans hk5 (fun _ _ e=>e));refine ⟨.inr ⟨⟨w5,HV5.out⟩,rfl⟩,?_⟩;refine Mix.mix_one 12 1 (by kernel_rfl) rfl rfl ?_;simp only [zp1,zp2,zp3,zp4];go_wp2_with fail;refine ⟨.inr ⟨⟨w5,HV5.out⟩,rfl⟩,?_⟩
    all_goals
     obtain ⟨S,hS⟩:∃ x,v0.heap.size=x:=⟨_,rfl⟩;rw [hS] at hr5 ⊢;have HSW:Hid (wr.heap.size≤S):=zz (by have:=HV0.out.size; omega);have y0:w5.cell? ⟨S,0,none⟩=some (.string ⟨#[]⟩):=by rw [cell_of_row w5 S 0 _ _ _ hr5]; rfl
     have y1:w5.cell? ⟨S,1,none⟩=some (.int .i64 0):=by rw [cell_of_row w5 S 1 _ _ _ hr5]; rfl
     have y2:w5.cell? ⟨S,2,none⟩=some (.int .i64 0):=by rw [cell_of_row w5 S 2 _ _ _ hr5]; rfl
     have y3:w5.cell? ⟨S,3,none⟩=some (.slice none 0 0):=by rw [cell_of_row w5 S 3 _ _ _ hr5]; rfl
     have z0:w5.frozen? ⟨S,0,none⟩=false:=frozen_of_row w5 S 0 _ _ hr5;have z1:w5.frozen? ⟨S,1,none⟩=false:=frozen_of_row w5 S 1 _ _ hr5;have z2:w5.frozen? ⟨S,2,none⟩=false:=frozen_of_row w5 S 2 _ _ hr5;have z3:w5.frozen? ⟨S,3,none⟩=false:=frozen_of_row w5 S 3 _ _ hr5;have HR5:=zz hr5;clear hS hr5 hk5 HV0;refine Mix.mix_one 14 0 (by kernel_rfl) rfl rfl ?_;simp only [zp1,zp2,zp3,zp4];go_wp2_with fail;obtain ⟨hk6,hr6⟩:=four_set (a:=.string kn) (b:=.int .i64 kz) (c:=.int .i64 kl) (d:=.slice none 0 0) HR5.out;generalize (((w5.setCell ⟨S,0,none⟩ (.string kn)).setCell ⟨S,1,none⟩ (.int .i64 kz)).setCell ⟨S,2,none⟩ (.int .i64 kl)).setCell ⟨S,3,none⟩ (.slice none 0 0)=w6 at hk6 hr6 ⊢;have HLT:Hid (LT wr w6 S k [] none 0):=zz ⟨HV5.out.trans hk6 (fun x hx e=>by have:=HSW.out; omega),by rw [HKN.out,HKZ.out,HKL.out]; exact hr6,World.ownsRow_nil _ _ _ _,fun x e=>(nomatch e),HSW.out⟩;clear y0 y1 y2 y3 z0 z1 z2 z3 hk6 hr6 hne HR5;refine ⟨.inl ⟨rfl,rfl⟩,?_⟩;refine Mix.mix_end (by kernel_rfl) ?_;obtain ⟨wA,rfl⟩:∃ W,W=wr:=⟨_,rfl⟩;have q3:w6.cell? ⟨q,3,none⟩=some (.slice fa m fc):=HLT.out.kp.cell0 (by rw [cell_of_row wA q 3 _ _ _ HQR.out]; rfl);go_wp2_with fail;clear q3;go_loopg [46] m (fun gg u wr=>∃ (j:Nat) (L:List Kf) (ta:Option Addr) (tc:Nat),u=.int .i64 (j:Int)∧j≤m∧gg=m - j∧Hid (L=k.fields.take j∧LT wA wr S k L ta tc))
     case atStart=>exact ⟨0,[],none,0,rfl,by omega,by omega,zz ⟨rfl,HLT.out⟩⟩
     case round =>
      obtain ⟨j,L,ta,tc,rfl,hj,rfl,HLL⟩:=hrel;by_cases hjt:j < m
      · obtain ⟨y,hy⟩:∃ y,k.fields[j]?=some y:=⟨_,List.getElem?_eq_getElem (by have:=HM.out; omega)⟩;have hjt1:(j:Int) < (m:Int):=by omega
        have how:=(HKD.out.fs.keep HLL.out.2.kp (fun _ e=>e.elim)).own;rw [HM.out] at how;obtain ⟨gf,hgf⟩:∃ g,fa=some ⟨g,0,none⟩:=by
         obtain ⟨aa,ca,e2,h2⟩:=own_form how;obtain ⟨g,hg⟩:=h2 (by omega);injection e2 with e2;exact ⟨g,e2.trans hg⟩
        subst hgf;have cy:=fun (i:Nat) (v:Value) (hi:(kfVals y)[i]?=some v)=>row_cell7 how hy hi
        have d0:=cy 0 _ rfl;have d1:=cy 1 _ rfl;have d2:=cy 2 _ rfl;have d3:=cy 3 _ rfl;have d4:=cy 4 _ rfl;have d5:=cy 5 _ rfl;have d6:=cy 6 _ rfl;rw [Nat.add_zero] at d0;obtain ⟨b1,b2,b3,b4,b5⟩:=HF.out y (List.mem_of_getElem? hy);have HTT:=zz (fun W=>text_any y.v.ty.base y.v.ty.stars (tyM y.v.ty) b1 (by omega) (by omega) rfl W);have HLN:Hid (L.length=j):=zz (by rw [HLL.out.1,List.length_take]; have:=HM.out; omega);have HTK2:Hid (k.fields.take (j+1)=L++[y]):=zz (by rw [List.take_add_one,hy,HLL.out.1]; rfl);have HLV:Hid (lfVals y=[.string y.v.name,.string (tyM y.v.ty),.int .i64 y.v.num,.int .i64 y.at_,.int .i64 y.size]):=zz rfl;obtain ⟨tt,htt⟩:∃ x,tyM y.v.ty=x:=⟨_,rfl⟩;rw [htt] at HTT HLV;obtain ⟨⟨yn,⟨yb,ys⟩,ya,yu⟩,yat,yz⟩:=y;simp only at d0 d1 d2 d3 d4 d5 d6 b1 b2 b3 b4 b5 HTT HLV;clear how cy hy htt;go_upto_region 12 with fail
        have hv:(wr.alloc (.cells #[.string yn,.string yb,.int .i64 ys,.bool ya,.int .u64 yu,.int .i64 yat,.int .i64 yz] 60)).heap[wr.heap.size]?=some (.cells #[.string yn,.string yb,.int .i64 ys,.bool ya,.int .u64 yu,.int .i64 yat,.int .i64 yz] 60 (0,0)):=heap_alloc_new _ _;have hkv:Keeps No wr (wr.alloc (.cells #[.string yn,.string yb,.int .i64 ys,.bool ya,.int .u64 yu,.int .i64 yat,.int .i64 yz] 60)):=(Keeps.refl _ _).alloc _;generalize wr.alloc (.cells #[.string yn,.string yb,.int .i64 ys,.bool ya,.int .u64 yu,.int .i64 yat,.int .i64 yz] 60)=w7 at hv hkv ⊢;obtain ⟨V,hV⟩:∃ x,wr.heap.size=x:=⟨_,rfl⟩;have HVS:Hid (V≠S∧∀ x,(Value.slice ta L.length tc).ownBlock=some x→x≠V):=zz ⟨by have:=HLL.out.2.lt; omega,fun x e=>by have:=own_ltb HLL.out.2.own e; omega⟩;rw [hV] at hv ⊢;have HP7:=zz (HLL.out.2.no hkv);clear hkv hV d0 d1 d2 d3 d4 d5 d6;have pj:∀ u:KS (fun x=>(Value.slice ta L.length tc).ownBlock=some x) w7,u.W.cell? ⟨S,3,none⟩=some (.slice ta L.length tc):=fun u=>u.cell (HP7.out.cell rfl) (fun e=>HP7.out.ne S e rfl)
        have pv0:∀ u:KS (fun x=>(Value.slice ta L.length tc).ownBlock=some x) w7,u.W.cell? ⟨V,0,none⟩=some (.string yn):=fun u=>u.cell (by rw [cell_of_row w7 V 0 _ _ _ hv]; rfl) (fun e=>HVS.out.2 V e rfl)
        have pv1:∀ u:KS (fun x=>(Value.slice ta L.length tc).ownBlock=some x) w7,u.W.cell? ⟨V,1,none⟩=some (.string yb):=fun u=>u.cell (by rw [cell_of_row w7 V 1 _ _ _ hv]; rfl) (fun e=>HVS.out.2 V e rfl)
        have pv2:∀ u:KS (fun x=>(Value.slice ta L.length tc).ownBlock=some x) w7,u.W.cell? ⟨V,2,none⟩=some (.int .i64 ys):=fun u=>u.cell (by rw [cell_of_row w7 V 2 _ _ _ hv]; rfl) (fun e=>HVS.out.2 V e rfl)
        have pv4:∀ u:KS (fun x=>(Value.slice ta L.length tc).ownBlock=some x) w7,u.W.cell? ⟨V,4,none⟩=some (.int .u64 yu):=fun u=>u.cell (by rw [cell_of_row w7 V 4 _ _ _ hv]; rfl) (fun e=>HVS.out.2 V e rfl)
        have pv5:∀ u:KS (fun x=>(Value.slice ta L.length tc).ownBlock=some x) w7,u.W.cell? ⟨V,5,none⟩=some (.int .i64 yat):=fun u=>u.cell (by rw [cell_of_row w7 V 5 _ _ _ hv]; rfl) (fun e=>HVS.out.2 V e rfl)
        have pv6:∀ u:KS (fun x=>(Value.slice ta L.length tc).ownBlock=some x) w7,u.W.cell? ⟨V,6,none⟩=some (.int .i64 yz):=fun u=>u.cell (by rw [cell_of_row w7 V 6 _ _ _ hv]; rfl) (fun e=>HVS.out.2 V e rfl)
        have hne:Nonempty (KS (fun x=>(Value.slice ta L.length tc).ownBlock=some x) w7):=⟨⟨w7,Keeps.refl _ _⟩⟩;clear hv;refine Mix.wp_region_mix (fun W'=>∃ u:KS (fun x=>(Value.slice ta L.length tc).ownBlock=some x) w7,W'=u.W) [21] (by kernel_rfl) ?_;have HV0:Hid (Keeps No w7 w7.drew):=zz ((Keeps.refl _ w7).drew);generalize w7.drew=v0 at HV0 ⊢;have HC0:Hid (Keeps (fun x=>(Value.slice ta L.length tc).ownBlock=some x) w7 v0):=zz (HV0.out.mono (fun _ _ e=>e.elim));have HG0:=zz (HP7.out.no HV0.out);refine Mix.mix_seg 0 8 14 (by kernel_rfl) (by kernel_rfl) rfl rfl ⟨⟨v0,HC0.out⟩,rfl⟩ ?_;simp only [zp1,zp2,zp3,zp4]
        repeat (go_big_quiet_step (fail))
        refine wpQuiet_nil ?_;refine Mix.mix_seg 9 8 6 (by kernel_rfl) (by kernel_rfl) rfl rfl ⟨⟨v0,HC0.out⟩,rfl⟩ ?_;simp only [zp1,zp2,zp3,zp4]
        repeat (go_big_quiet_step (fail))
        refine wpQuiet_nil ?_;clear pj pv0 pv1 pv2 pv4 pv5 pv6;refine Mix.mix_one 8 5 (by kernel_rfl) rfl rfl ?_;simp only [zp1,zp2,zp3,zp4];go_wp2_with fail;refine (HTT.out v0).mono ?_;rintro e v1 ⟨rfl,hk⟩;have HC1:Hid (Keeps (fun x=>(Value.slice ta L.length tc).ownBlock=some x) w7 v1):=zz (HC0.out.trans hk (fun _ _ e=>e.elim));have HG1:=zz (HG0.out.no hk);clear hk HG0 HC0 HV0;go_wp2_with fail;refine ⟨.inr ⟨⟨v1,HC1.out⟩,rfl⟩,?_⟩;refine Mix.mix_one 17 4 (by kernel_rfl) rfl rfl ?_;simp only [zp1,zp2,zp3,zp4];go_wp2_with fail;refine ⟨.inr ⟨⟨v1,HC1.out⟩,rfl⟩,?_⟩;refine Mix.mix_one 18 3 (by kernel_rfl) rfl rfl ?_;simp only [zp1,zp2,zp3,zp4];go_wp2_with fail;have hk12:Keeps No v1 (v1.alloc (.cells #[.string yn,.string tt,.int .i64 yu,.int .i64 yat,.int .i64 yz] 41)):=(Keeps.refl _ _).alloc _;have hq2:(v1.alloc (.cells #[.string yn,.string tt,.int .i64 yu,.int .i64 yat,.int .i64 yz] 41)).heap[v1.heap.size]?=some (.cells (lfVals ⟨⟨yn,⟨yb,ys⟩,ya,yu⟩,yat,yz⟩).toArray 41 (0,0)):=by rw [HLV.out]; exact heap_alloc_new _ _
        generalize v1.alloc (.cells #[.string yn,.string tt,.int .i64 yu,.int .i64 yat,.int .i64 yz] 41)=v2 at hk12 hq2 ⊢;have HC2:Hid (Keeps (fun x=>(Value.slice ta L.length tc).ownBlock=some x) w7 v2):=zz (HC1.out.trans hk12 (fun _ _ e=>e.elim));have HG2:=zz (HG1.out.no hk12);have HQ2:=zz hq2;clear hk12 hq2;refine ⟨.inr ⟨⟨v2,HC2.out⟩,rfl⟩,?_⟩;refine Mix.mix_one 19 2 (by kernel_rfl) rfl rfl ?_;simp only [zp1,zp2,zp3,zp4];go_wp2_with (at_builtin; refine wpList_appLf _ rfl (.tmp 51) (.tmp 68) 37 rfl Tryz.underlying37 wA.heap.size (.slice ta L.length tc) L.length L ⟨⟨yn,⟨yb,ys⟩,ya,yu⟩,yat,yz⟩ v1.heap.size rfl HG2.out.own rfl HQ2.out (by have:=HLN.out; omega) HG2.out.kp.size ?_);intro g' cap' v3 ho3 hg3 hgo;have hk23:Keeps (fun x=>(Value.slice ta L.length tc).ownBlock=some x) v2 v3:=(Keeps.refl _ _).grown hg3 (fun x e=>.inl e);have HC3:Hid (Keeps (fun x=>(Value.slice ta L.length tc).ownBlock=some x) w7 v3):=zz (HC2.out.trans hk23 (fun x _ e=>e));have hn3:v3.heap[S]?=some (.cells _ _ (0,0)):=(hk23.block _ HG2.out.lt (fun e=>HG2.out.ne S e rfl)).trans HG2.out.row;have yj:v3.cell? ⟨S,3,none⟩=some (.slice ta L.length tc):=by rw [cell_of_row v3 S 3 _ _ _ hn3]; rfl
        have zj:v3.frozen? ⟨S,3,none⟩=false:=frozen_of_row v3 S 3 _ _ hn3;have HGO:Hid (∀ W,W=v3.setCell ⟨S,3,none⟩ (.slice (some ⟨g',0,none⟩) (L.length+1) cap')→LT wA W S k (L++[⟨⟨yn,⟨yb,ys⟩,ya,yu⟩,yat,yz⟩]) (some ⟨g',0,none⟩) cap'):=zz (fun W hW=>by subst hW; exact HG2.out.push (by rw [List.flatMap_append,List.flatMap_singleton]; exact ho3) hg3 hgo);clear ho3 hg3 hgo hk23 hn3;go_wp2_with fail;refine ⟨.inr ⟨⟨v3,HC3.out⟩,rfl⟩,?_⟩;refine Mix.mix_one 20 1 (by kernel_rfl) rfl rfl ?_;simp only [zp1,zp2,zp3,zp4];go_wp2_with fail;refine ⟨.inr ⟨⟨v3,HC3.out⟩,rfl⟩,?_⟩;refine Mix.mix_one 21 0 (by kernel_rfl) rfl rfl ?_;simp only [zp1,zp2,zp3,zp4];go_wp2_with fail;have HP9:=zz (HGO.out _ rfl);generalize v3.setCell ⟨S,3,none⟩ (.slice (some ⟨g',0,none⟩) (L.length+1) cap')=v4 at HP9 ⊢;clear yj zj hne;refine ⟨.inl ⟨rfl,rfl⟩,?_⟩;refine Mix.mix_end (by kernel_rfl) ?_;clear b1 b2 b3 b4 b5;go_wp2_with fail;go_roundg (m - (j+1))
        case rel=>exact ⟨j+1,L++[⟨⟨yn,⟨yb,ys⟩,ya,yu⟩,yat,yz⟩],some ⟨g',0,none⟩,cap',by go_num,by omega,rfl,zz ⟨HTK2.out.symm,HP9.out⟩⟩
        case measure=>omega
      · have hjt1:¬ (j:Int) < (m:Int):=by omega
        have HLE:Hid (LT wA wr S k k.fields ta tc):=zz (by
         have e:=HLL.out.2;rw [HLL.out.1,List.take_of_length_le (by have:=HM.out; omega)] at e;exact e)
        have hrow:=HLE.out.row;rw [HKN.out,HKZ.out,HKL.out,HM.out] at hrow;have s0:wr.cell? ⟨S,0,none⟩=some (.string kn):=by rw [cell_of_row wr S 0 _ _ _ hrow]; rfl
        have s1:wr.cell? ⟨S,1,none⟩=some (.int .i64 kz):=by rw [cell_of_row wr S 1 _ _ _ hrow]; rfl
        have s2:wr.cell? ⟨S,2,none⟩=some (.int .i64 kl):=by rw [cell_of_row wr S 2 _ _ _ hrow]; rfl
        have s3:wr.cell? ⟨S,3,none⟩=some (.slice ta m tc):=by rw [cell_of_row wr S 3 _ _ _ hrow]; rfl
        clear hrow;go_wp2_with (at_builtin; refine stop_here ?_);unfold Stop;have hk6:Keeps No wr (wr.alloc (.cells #[.string kn,.int .i64 kz,.int .i64 kl,.slice ta m tc] 39)):=(Keeps.refl _ _).alloc _;have hq6:(wr.alloc (.cells #[.string kn,.int .i64 kz,.int .i64 kl,.slice ta m tc] 39)).heap[wr.heap.size]?=some (.cells (lsVals (k,ta,tc)).toArray 39 (0,0)):=by
         unfold lsVals; rw [HKN.out,HKZ.out,HKL.out,HM.out]; exact heap_alloc_new _ _
        generalize wr.alloc (.cells #[.string kn,.int .i64 kz,.int .i64 kl,.slice ta m tc] 39)=w8 at hk6 hq6 ⊢;have HQ6:=zz hq6;have HLS:Hid (LsD w8 w4.heap.size (.slice oa l.length oc) l):=zz ((HRL.out.2.1.no HLE.out.kp).no hk6);have HK8:Hid (Keeps No w4 w8):=zz ((HRL.out.2.2.trans HLE.out.kp (fun _ _ e=>e)).trans hk6 (fun _ _ e=>e));have HLF:Hid (RwD w8 (fun x=>w4.heap.size≤x∧(Value.slice oa l.length oc).ownBlock≠some x) 41 5 (.slice ta k.fields.length tc) k.fields.length (k.fields.flatMap lfVals)):=zz ((((RwD.of HLE.out.own).keep hk6 (fun _ e=>e.elim))).mono (fun x hx d=>⟨by have:=HRL.out.2.2.size; omega,fun e=>by have:=own_ltb HRL.out.2.1.own e; omega⟩));have HLL2:Hid (l.length=i):=zz (by have:=congrArg List.length HRL.out.1; rw [List.length_map,List.length_take] at this; have:=HN.out; omega);clear hk6 hq6 s0 s1 s2 s3;go_wp2_with (at_builtin; refine wpList_appLs _ rfl (.tmp 72) (.tmp 74) 31 rfl Tryz.underlying31 w4.heap.size (.slice oa l.length oc) l.length l (k,ta,tc) wr.heap.size rfl HLS.out.own rfl HQ6.out (by have:=HLL2.out; omega) HK8.out.size ?_);intro g' cap' v3 ho3 hg3 hgo;obtain ⟨hp1,hp2⟩:=HLS.out.push (r:=(k,ta,tc)) HLF.out (by rw [List.flatMap_append,List.flatMap_singleton]; exact ho3) hg3 hgo;have HPF:Hid ((l++[(k,ta,tc)]).map (fun r=>r.1)=ks.take (i+1)∧LsD v3 w4.heap.size (.slice (some ⟨g',0,none⟩) (l.length+1) cap') (l++[(k,ta,tc)])∧Keeps No w4 v3):=zz ⟨by rw [List.map_append,HRL.out.1,HTK.out]; rfl,hp1,HK8.out.trans hp2 (fun x hx e=>by have:=own_lo HLS.out.own x e; omega)⟩;clear ho3 hg3 hgo hp1 hp2;go_wp2_with fail;go_roundg (n - (i+1))
        case rel=>exact ⟨i+1,l++[(k,ta,tc)],by go_num,by omega,rfl,HPF⟩
        case measure=>omega
  · have hlt1:¬ (i:Int) < (n:Int):=by omega
    have hRr:wr.heap[R]?=some (.cells #[.int .i64 0,.int .i64 0] 34 (0,0)):=(HRL.out.2.2.block R (Array.getElem?_eq_some_iff.1 HR3.out).1 (fun e=>e)).trans HR3.out;have e0:wr.cell? ⟨R,0,none⟩=some (.int .i64 0):=by rw [cell_of_row wr R 0 _ _ _ hRr]; rfl
    have e1:wr.cell? ⟨R,1,none⟩=some (.int .i64 0):=by rw [cell_of_row wr R 1 _ _ _ hRr]; rfl
    have f0:wr.frozen? ⟨R,0,none⟩=false:=frozen_of_row wr R 0 _ _ hRr;have f1:wr.frozen? ⟨R,1,none⟩=false:=frozen_of_row wr R 1 _ _ hRr;go_wp2_with fail;obtain ⟨hkE,hrE⟩:=two_set (a:=.int .i64 0) (b:=.int .i64 0) hRr;generalize (wr.setCell ⟨R,0,none⟩ (.int .i64 0)).setCell ⟨R,1,none⟩ (.int .i64 0)=wE at hkE hrE ⊢;have g0:wE.cell? ⟨R,0,none⟩=some (.int .i64 0):=by rw [cell_of_row wE R 0 _ _ _ hrE]; rfl
    have g1:wE.cell? ⟨R,1,none⟩=some (.int .i64 0):=by rw [cell_of_row wE R 1 _ _ _ hrE]; rfl
    have hRlt:R < w4.heap.size:=(Array.getElem?_eq_some_iff.1 HR3.out).1;have hWR:w.heap.size≤w4.heap.size:=HK3.out.size;have hLE:LsD wE w.heap.size (.slice oa l.length oc) l:=⟨own_kept (own_mono HRL.out.2.1.own hWR) (fun x hx=>hkE.block x (own_ltb HRL.out.2.1.own hx) (fun e=>by have:=own_lo HRL.out.2.1.own x hx; omega)),
     fun r hr=>((HRL.out.2.1.fs r hr).keep hkE (fun x e=>.inl (fun d=>by have:=d.1; omega))).mono (fun x _ d=>⟨by have:=d.1; omega,d.2⟩)⟩
    refine bodyPost_ret (v:=.tuple #[.slice oa l.length oc,.agg #[.int .i64 0,.int .i64 0]]) ?_ rfl ⟨.slice oa l.length oc,l,rfl,by rw [HRL.out.1,List.take_of_length_le (by have:=HN.out; omega)],hLE,(HK3.out.trans HRL.out.2.2 (fun _ _ e=>e)).trans hkE (fun x hx e=>by have:=HR.out; omega)⟩;simp [results,Tryz.results9,go_sem,g0,g1,Act.put]
theorem LsD.form {w:World} {B:Nat} {v:Value} {l:List Lr} (h:LsD w B v l) (hl:0 < l.length):∃ g c,v=.slice (some ⟨g,0,none⟩) l.length c∧∀ (i:Nat) (r:Lr),l[i]?=some r→∀ (j:Nat) (x:Value),(lsVals r)[j]?=some x→w.cell? ⟨g,i * 4+j,none⟩=some x:=by
 obtain ⟨a,c,rfl,h2⟩:=own_form h.own;obtain ⟨g,rfl⟩:=h2 hl;have fl:∀ (l:List Lr) (i:Nat) (t:Lr) (j:Nat) (v:Value),l[i]?=some t→(lsVals t)[j]?=some v→(l.flatMap lsVals)[i * 4+j]?=some v:=by
  intro l
  induction l with
  | nil=>intro i t j v h; cases h
  | cons a t ih =>
    intro i y j v h hj;have e:(lsVals a).length=4:=rfl;cases i with
    | zero =>
      injection h with h; subst h;have hjl:j < (lsVals a).length:=(List.getElem?_eq_some_iff.1 hj).1;rw [Nat.zero_mul,Nat.zero_add,List.flatMap_cons,List.getElem?_append_left hjl]; exact hj
    | succ i =>
      rw [List.flatMap_cons,List.getElem?_append_right (by omega),e,show (i+1) * 4+j - 4=i * 4+j by omega];exact ih i y j v h hj
 refine ⟨g,c,rfl,fun i r hi j x hj=>?_⟩;have e:=h.own.cells (g:=g) rfl (i * 4+j) x (fl l i r j x hi hj);rw [Lib.add_plain,Nat.zero_add] at e; exact e
theorem LsD.fform {w:World} {B:Nat} {v:Value} {l:List Lr} (h:LsD w B v l) {r:Lr} (hr:r∈l) (hl:0 < r.1.fields.length):∃ g,r.2.1=some ⟨g,0,none⟩∧∀ (i:Nat) (f:Kf),r.1.fields[i]?=some f→∀ (j:Nat) (x:Value),(lfVals f)[j]?=some x→w.cell? ⟨g,i * 5+j,none⟩=some x:=by
 have ho:=(h.fs r hr).own;obtain ⟨a,c,e,h2⟩:=own_form ho;obtain ⟨g,rfl⟩:=h2 hl;have e1:r.2.1=some ⟨g,0,none⟩:=by injection e
 rw [e1] at ho;have fl:∀ (l:List Kf) (i:Nat) (t:Kf) (j:Nat) (v:Value),l[i]?=some t→(lfVals t)[j]?=some v→(l.flatMap lfVals)[i * 5+j]?=some v:=by
  intro l
  induction l with
  | nil=>intro i t j v h; cases h
  | cons a t ih =>
    intro i y j v h hj;have e:(lfVals a).length=5:=rfl;cases i with
    | zero =>
      injection h with h; subst h;have hjl:j < (lfVals a).length:=(List.getElem?_eq_some_iff.1 hj).1;rw [Nat.zero_mul,Nat.zero_add,List.flatMap_cons,List.getElem?_append_left hjl]; exact hj
    | succ i =>
      rw [List.flatMap_cons,List.getElem?_append_right (by omega),e,show (i+1) * 5+j - 5=i * 5+j by omega];exact ih i y j v h hj
 refine ⟨g,e1,fun i f hi j x hj=>?_⟩;have e:=ho.cells (g:=g) rfl (i * 5+j) x (fl _ i f j x hi hj);rw [Lib.add_plain,Nat.zero_add] at e; exact e
theorem szIs_ptr {ks:List Kn} {j:Nat} (hj:j < 10):SzIs ks (bsK j) 1 8:=⟨8,fun B X W h=>size_ptr hj (by omega) W h⟩
theorem szIs_int {ks:List Kn} {j:Nat} (hj:j < 8):SzIs ks (bsK j) 0 (wdK j / 8):=⟨_,fun B X W h=>size_int hj W h⟩
theorem szIs_void {ks:List Kn}:SzIs ks (bsK 10) 0 0:=⟨0,fun B X W h=>size_void W h⟩
theorem szIs_str {ks:List Kn} {j:Nat} (hj:j=8∨j=9) {i:Nat} {k:Kn} (hk:ks[i]?=some k) (hn:k.name=nmK j):SzIs ks (bsK j) 0 k.size:=⟨k.align,fun B X W h=>by
 obtain ⟨q,hq⟩:∃ q,X.qs[i]?=some q:=⟨_,List.getElem?_eq_getElem (by rw [h.len]; exact (List.getElem?_eq_some_iff.1 hk).1)⟩;exact size_str hj hk hq hn W h⟩
def Knows (s:ByteArray) (ks:List Kn):Prop:=∀ W,LaidP W→Calls Tryz.prog 11 #[.string s] W (KnownPost W ks)
theorem knows0:Knows ⟨#[]⟩ []:=fun W hl=>known_any ⟨#[]⟩ [] [] (by kernel_rfl) (by kernel_rfl) rfl (by decide) (fun i p h=>nomatch h) (fun i p h=>nomatch h) W hl
theorem knows1 {s:ByteArray} {f:Fld} {fs:List Fld} (hs:s.data.toList=stB [97] (f::fs)) (h:(f::fs).all Fld.ok=true) (hl:(f::fs).length≤12) (hk:∀ g∈f::fs,g.k < 10):Knows s [placeK (1,1) [97] (f::fs)]:=fun W hL=>by
 obtain ⟨a,h1,h2⟩:=parse1 hs rfl rfl h hl;refine known_any s [([97],f::fs)] [itS a [97] (f::fs)] h1 h2 rfl (by show 1≤100; omega) (fun i p hp=>?_) (fun i p hp=>?_) W hL
 · cases i with
   | zero=>injection hp with hp; subst hp; exact ⟨a,rfl⟩
   | succ i=>cases hp
 · cases i with
   | zero =>
     injection hp with hp; subst hp;exact ⟨h,hl,rfl,(by unfold Zok; decide:Zok (1,1)),fun g hg hc=>absurd (hk g hg) (by omega),fun k hk=>nomatch hk⟩
   | succ i=>cases hp
theorem placeK_name (z:Int × Int) (n:List UInt8) (fs:List Fld):(placeK z n fs).name=tx n:=rfl
theorem knows2 {s:ByteArray} {f g:Fld} {fs gs:List Fld} (hs:s.data.toList=stB [97] (f::fs)++32::stB [111] (g::gs)) (h1:(f::fs).all Fld.ok=true) (h2:(g::gs).all Fld.ok=true) (hl1:(f::fs).length≤12) (hl2:(g::gs).length≤12) (hk:∀ x∈f::fs,x.k < 10)
    (hz:Zok ((placeK (1,1) [97] (f::fs)).size,(placeK (1,1) [97] (f::fs)).align)) :
    Knows s [placeK (1,1) [97] (f::fs),placeK ((placeK (1,1) [97] (f::fs)).size,(placeK (1,1) [97] (f::fs)).align) [111] (g::gs)]:=fun W hL=>by
 obtain ⟨a,b,e1,e2⟩:=parse2 hs rfl rfl rfl rfl h1 h2 hl1 hl2;refine known_any s [([97],f::fs),([111],g::gs)] [itS a [97] (f::fs),itS b [111] (g::gs)] e1 e2 rfl (by show 2≤100; omega) (fun i p hp=>?_) (fun i p hp=>?_) W hL
 · match i,hp with
   | 0,hp=>injection hp with hp; subst hp; exact ⟨a,rfl⟩
   | 1,hp=>injection hp with hp; subst hp; exact ⟨b,rfl⟩
   | i+2,hp=>cases hp
 · match i,hp with
   | 0,hp =>
     injection hp with hp; subst hp;exact ⟨h1,hl1,rfl,by show Zok (1,1); unfold Zok; decide,fun g hg hc=>absurd (hk g hg) (by omega),fun k hk=>nomatch hk⟩
   | 1,hp =>
     injection hp with hp; subst hp;refine ⟨h2,hl2,rfl,hz,fun x hx hc=>⟨placeK (1,1) [97] (f::fs),rfl,rfl⟩,fun k hk=>?_⟩;have e:knL ([([97],f::fs),([111],g::gs)].take 1)=[placeK (1,1) [97] (f::fs)]:=rfl;rw [e] at hk;rw [List.mem_singleton.1 hk,placeK_name];exact fun e=>absurd (show [97]=[(111:UInt8)] from congrArg (fun b:ByteArray=>b.data.toList) e) (by decide)
   | i+2,hp=>cases hp
theorem accF_fields (z:Int × Int):∀ (fs:List Fld) (r:Ac),∀ x∈(fs.foldl (stepF z) r).l,x∈r.l∨∃ f∈fs,x.v=vrF f
 | [],r,x,hx=>.inl hx
 | f::fs,r,x,hx=>by
   rcases accF_fields z fs (stepF z r f) x hx with h | ⟨g,h1,h2⟩
   · rcases List.mem_append.1 h with h | h
     · exact .inl h
     · rw [List.mem_singleton.1 h]; exact .inr ⟨f,by simp,rfl⟩
   · exact .inr ⟨g,by simp [h1],h2⟩
theorem accF_len (z:Int × Int):∀ (fs:List Fld) (r:Ac),(fs.foldl (stepF z) r).l.length=r.l.length+fs.length
 | [],r=>rfl
 | f::fs,r=>by
   rw [List.foldl_cons,accF_len z fs (stepF z r f),List.length_cons];show (r.l++[_]).length+fs.length=_;rw [List.length_append,List.length_singleton]; omega
theorem tyK_base (k:Nat):(tyK k).base.size≤100:=by
 match k with
 | 0=>decide
 | 1=>decide
 | 2=>decide
 | 3=>decide
 | 4=>decide
 | 5=>decide
 | 6=>decide
 | 7=>decide
 | 8=>decide
 | 9=>decide
 | n+10=>exact (by decide:(tyK 10).base.size≤100)
theorem place_ok {z:Int × Int} {n:List UInt8} {fs:List Fld} (h:fs.all Fld.ok=true) (hl:fs.length≤12):(placeK z n fs).fields.length≤12∧∀ f∈(placeK z n fs).fields,0≤f.v.ty.stars∧f.v.ty.stars≤1∧f.v.ty.base.size≤100∧0≤f.v.num∧f.v.num≤1000:=by
 have e:=accF_len z fs ⟨0,1,[]⟩;refine ⟨by show (accF z fs).l.length≤12; unfold accF; rw [e]; show 0+_≤_; omega,fun f hf=>?_⟩;rcases accF_fields z fs ⟨0,1,[]⟩ f hf with h1 | ⟨g,h1,h2⟩
 · cases h1
 · have h3:=List.all_eq_true.1 h g h1;unfold Fld.ok at h3;rw [Bool.and_eq_true,Bool.and_eq_true,decide_eq_true_eq] at h3;have h4:=(tyK_size g.k).2;have h5:=tyK_base g.k;rw [h2];exact ⟨h4.1,h4.2,h5,by show (0:Int)≤(g.num:Int); omega,by show (g.num:Int)≤1000; omega⟩
def awText:ByteArray:=⟨#[115,116,114,117,99,116,32,97,32,123,32,99,104,97,114,32,120,59,32,108,111,110,103,32,121,59,32,125,59]⟩
def awFs:List Fld:=[⟨0,[120],0⟩,⟨6,[121],0⟩]
theorem aw_knows:Knows awText [placeK (1,1) [97] awFs]:=knows1 (s:=awText) (f:=⟨0,[120],0⟩) (fs:=[⟨6,[121],0⟩]) (by kernel_rfl) (by kernel_rfl) (by decide) (by decide)
theorem aw_k:placeK (1,1) [97] awFs=⟨⟨#[97]⟩,16,8,[⟨vrF ⟨0,[120],0⟩,0,1⟩,⟨vrF ⟨6,[121],0⟩,8,8⟩]⟩:=by kernel_rfl
theorem awake_any (w:World) (hl:LaidP w):Calls Tryz.prog 5 #[] w fun e w'=>e=.returned (.bool true)∧Keeps No w w':=by
 have HL:=zz hl;have HST:=zz (fun W (h:LaidP W)=>structs_any awText _ aw_knows ⟨by decide,fun k hk=>by rw [List.mem_singleton.1 hk]; exact place_ok (by kernel_rfl) (by decide)⟩ W h);have HS1:Hid (∀ W,LaidP W→Calls Tryz.prog 10 #[.string ⟨#[]⟩,.string ⟨#[105,51,50,42]⟩,.int .i64 3] W fun e w'=>e=.returned (.int .i64 24)∧Keeps No W w'):=zz (fun W h=>laySize_any ⟨#[]⟩ [] knows0 (j:=4) (st:=1) (by decide) (by decide) (szIs_ptr (by decide)) (by decide) (by decide) (by decide) W h);have HS2:Hid (∀ W,LaidP W→Calls Tryz.prog 10 #[.string ⟨#[]⟩,.string ⟨#[118,111,105,100]⟩,.int .i64 1] W fun e w'=>e=.returned (.int .i64 0)∧Keeps No W w'):=zz (fun W h=>laySize_any ⟨#[]⟩ [] knows0 (j:=10) (st:=0) (by decide) (by decide) szIs_void (by decide) (by decide) (by decide) W h);have hT:awText=⟨#[115,116,114,117,99,116,32,97,32,123,32,99,104,97,114,32,120,59,32,108,111,110,103,32,121,59,32,125,59]⟩:=rfl;rw [hT] at HST;clear hl hT;go_enter Tryz.func5,Tryz.ntmps5;go_wp2_with fail;refine (HST.out w HL.out).mono ?_;rintro e w1 ⟨v,l,rfl,hlk,hLS,hk⟩;rw [aw_k] at hlk;obtain ⟨r,rfl⟩:∃ r,l=[r]:=by
  cases l with
  | nil=>cases hlk
  | cons a t=>cases t with
    | nil=>exact ⟨a,rfl⟩
    | cons b u=>injection hlk with _ h; cases h
 have hr:r.1=⟨⟨#[97]⟩,16,8,[⟨vrF ⟨0,[120],0⟩,0,1⟩,⟨vrF ⟨6,[121],0⟩,8,8⟩]⟩:=by injection hlk
 obtain ⟨g,c,hv,hc⟩:=hLS.form (by simp);have hv1:v=.slice (some ⟨g,0,none⟩) 1 c:=hv;clear hv;subst hv1;obtain ⟨gf,hgf,hf⟩:=hLS.fform (r:=r) (by simp) (by rw [hr]; decide);have hr0:=hc 0 r rfl;obtain ⟨k,fa,fc⟩:=r;simp only at hr hgf hf;subst hr;subst hgf;have a1:w1.cell? ⟨g,1,none⟩=some (.int .i64 16):=hr0 1 _ rfl;have a3:w1.cell? ⟨g,3,none⟩=some (.slice (some ⟨gf,0,none⟩) 2 fc):=hr0 3 _ rfl;have f8:w1.cell? ⟨gf,8,none⟩=some (.int .i64 8):=hf 1 _ rfl 3 _ rfl;have HK1:=zz hk;clear hk hLS hc hf hr0 hlk HST;go_upto_region 2 with fail
 have hk2:Keeps No w1 (w1.alloc (.cells #[.int .i64 0,.int .i64 0] 34)):=(Keeps.refl _ _).alloc _;have hr2:(w1.alloc (.cells #[.int .i64 0,.int .i64 0] 34)).heap[w1.heap.size]?=some (.cells #[.int .i64 0,.int .i64 0] 34 (0,0)):=heap_alloc_new _ _;generalize w1.alloc (.cells #[.int .i64 0,.int .i64 0] 34)=w2 at hk2 hr2 ⊢;have b1:=hk2.cell0 a1;have b3:=hk2.cell0 a3;have b8:=hk2.cell0 f8;have b0:w2.cell? ⟨w1.heap.size,0,none⟩=some (.int .i64 0):=by rw [cell_of_row w2 w1.heap.size 0 _ _ _ hr2]; rfl
 have HK2:Hid (Keeps No w w2):=zz (HK1.out.trans hk2 (fun _ _ e=>e));clear a1 a3 f8 hk2 hr2 HK1;go_wp2_with fail;refine (HS1.out w2 (HL.out.no HK2.out)).mono ?_;rintro e w3 ⟨rfl,hk⟩;have HK3:Hid (Keeps No w w3):=zz (HK2.out.trans hk (fun _ _ e=>e));clear hk b0 b1 b3 b8;go_wp2_with fail;refine (HS2.out w3 (HL.out.no HK3.out)).mono ?_;rintro e w4 ⟨rfl,hk⟩;have HK4:Hid (Keeps No w w4):=zz (HK3.out.trans hk (fun _ _ e=>e));clear hk;go_wp2_with fail;go_returns;exact ⟨rfl,HK4.out⟩
end Go.Proofs.YtjgkacggjhobmaaGreatDoor
namespace Go.Proofs.YtjgkacggjhobmaaGreatDoor
open Go.ChangeShapes Go.WideShapes Go.ChangeAt Go.RowKit
def laidD : List (String × DataW Unit) := [("math/bits.deBruijn32tab", Rows.laid_math_bits_deBruijn32tab), ("math/bits.deBruijn64tab", Rows.laid_math_bits_deBruijn64tab), ("internal/strconv.uint64pow10", Rows.laid_internal_strconv_uint64pow10), ("unicode/utf8.acceptRanges", Rows.laid_unicode_utf8_acceptRanges), ("unicode/utf8.first", Rows.laid_unicode_utf8_first)]
theorem own:ownKnob Tryz.prog.godebug=none:=by kernel_rfl
theorem tP:(Tryz.prog.globals[3]?).map (·.type)=some 197:=by kernel_rfl
theorem cP8:Tryz.prog.cellsOf 30=1:=by kernel_rfl
theorem cP20:Tryz.prog.cellsOf 197=20:=by kernel_rfl
theorem pow_eq:(Rows.laid_internal_strconv_uint64pow10:DataW Unit)=Lib.tabData .u64 Lib.pow10Tab:=by rfl
theorem door_met (os:Os) (args:Array Value):laidMetH Tryz.prog laidD ((World.laidAll Tryz.prog os laidD).forCall (fun _ _=>0) ⟨#[],args,[]⟩).memory:=by
 rw [MakeChecks.laidMetH_plain _ _ _ (by kernel_rfl)];exact laidMet_laidAll _ (by kernel_rfl) (by kernel_rfl)
theorem laid_of {W:World} (h:laidMetH Tryz.prog laidD W):LaidP W:=by
 rw [MakeChecks.laidMetH_plain _ _ _ (by kernel_rfl)] at h;have h2:=laidMet.tail (laidMet.tail h);rw [pow_eq] at h2
 have ht : Lib.TabIs Tryz.prog W "internal/strconv.uint64pow10" .u64 Lib.pow10Tab := Lib.tabIs_of_head gP tP Tryz.underlying197 Tryz.underlying30 cP8 cP20 h2
 refine ⟨ht,?_⟩;by_cases hz:3 < W.heap.size
 · exact hz
 · unfold Lib.TabIs World.var? at ht;rw [gP] at ht;have e:W.heap[3]?=none:=Array.getElem?_eq_none (by omega);simp [e] at ht
end Go.Proofs.YtjgkacggjhobmaaGreatDoor
namespace Go.Proofs.YtjgkacggjhobmaaGreatDoor
open Go.RowKit Go.Maps Lx Sy
theorem low_any (x n:Int) (hx:I64 x) (hn:1≤n∧n≤4611686018427387904) (w:World) :
    Calls Tryz.prog 7 #[.int .i64 x,.int .i64 n] w fun e w'=>e=.returned (.int .i64 (IntKind.u64.wrap x % n))∧Keeps No w w':=by
 unfold I64 at hx;have hb:0≤IntKind.u64.wrap x∧IntKind.u64.wrap x≤18446744073709551615:=by simp only [IntKind.wrap,IntKind.bits,IntKind.signed]; simp; omega
 have h0:¬ n=0:=by omega
 have h1:0≤IntKind.u64.wrap x % n∧IntKind.u64.wrap x % n < n:=⟨Int.emod_nonneg _ h0,Int.emod_lt_of_pos _ (by omega)⟩;go_enter Tryz.func7,Tryz.ntmps7;go_wp2;go_returns;exact ⟨rfl,Keeps.refl _ _⟩
theorem low_nat (x n:Int) (hn:1≤n):∃ k:Nat,(k:Int) < n∧IntKind.u64.wrap x % n=(k:Int):=by
 have h0:¬ n=0:=by omega
 have h1:0≤IntKind.u64.wrap x % n∧IntKind.u64.wrap x % n < n:=⟨Int.emod_nonneg _ h0,Int.emod_lt_of_pos _ (by omega)⟩;exact ⟨(IntKind.u64.wrap x % n).toNat,by omega,by omega⟩
def dmB (k:Nat):ByteArray:=tyM (tyK k)
structure TyRows (w:World) (ga gb:Nat):Prop where
 a:∀ k,k < 10→w.cell? ⟨ga,k,none⟩=some (.string (tx (wB k)))
 b:∀ k,k < 10→w.cell? ⟨gb,k,none⟩=some (.string (dmB k))
theorem TyRows.no {w w':World} {ga gb:Nat} (h:TyRows w ga gb) (hk:Keeps No w w'):TyRows w' ga gb:=⟨fun k h1=>hk.cell0 (h.a k h1),fun k h1=>hk.cell0 (h.b k h1)⟩
def rowW:Array Value:=#[.string ⟨#[99,104,97,114]⟩,.string ⟨#[117,110,115,105,103,110,101,100,32,99,104,97,114]⟩,.string ⟨#[115,104,111,114,116]⟩,.string ⟨#[117,110,115,105,103,110,101,100,32,115,104,111,114,116]⟩,.string ⟨#[105,110,116]⟩,.string ⟨#[117,110,115,105,103,110,101,100]⟩,.string ⟨#[108,111,110,103]⟩,.string ⟨#[117,110,115,105,103,110,101,100,32,108,111,110,103]⟩,.string ⟨#[99,104,97,114,42]⟩,.string ⟨#[115,116,114,117,99,116,32,97,42]⟩]
def rowD:Array Value:=#[.string ⟨#[105,56]⟩,.string ⟨#[117,56]⟩,.string ⟨#[105,49,54]⟩,.string ⟨#[117,49,54]⟩,.string ⟨#[105,51,50]⟩,.string ⟨#[117,51,50]⟩,.string ⟨#[105,54,52]⟩,.string ⟨#[117,54,52]⟩,.string ⟨#[105,56,42]⟩,.string ⟨#[83,46,97,42]⟩]
theorem rowW_at {k:Nat} (hk:k < 10):rowW[k]?=some (.string (tx (wB k))):=by
 match k,hk with
 | 0,_=>exact rfl
 | 1,_=>exact rfl
 | 2,_=>exact rfl
 | 3,_=>exact rfl
 | 4,_=>exact rfl
 | 5,_=>exact rfl
 | 6,_=>exact rfl
 | 7,_=>exact rfl
 | 8,_=>exact rfl
 | 9,_=>exact rfl
 | n+10,h=>exact absurd h (by omega)
theorem rowD_at {k:Nat} (hk:k < 10):rowD[k]?=some (.string (dmB k)):=by
 match k,hk with
 | 0,_=>exact congrArg (fun b=>some (Value.string b)) (show (⟨#[105,56]⟩:ByteArray)=dmB 0 by kernel_rfl)
 | 1,_=>exact congrArg (fun b=>some (Value.string b)) (show (⟨#[117,56]⟩:ByteArray)=dmB 1 by kernel_rfl)
 | 2,_=>exact congrArg (fun b=>some (Value.string b)) (show (⟨#[105,49,54]⟩:ByteArray)=dmB 2 by kernel_rfl)
 | 3,_=>exact congrArg (fun b=>some (Value.string b)) (show (⟨#[117,49,54]⟩:ByteArray)=dmB 3 by kernel_rfl)
 | 4,_=>exact congrArg (fun b=>some (Value.string b)) (show (⟨#[105,51,50]⟩:ByteArray)=dmB 4 by kernel_rfl)
 | 5,_=>exact congrArg (fun b=>some (Value.string b)) (show (⟨#[117,51,50]⟩:ByteArray)=dmB 5 by kernel_rfl)
 | 6,_=>exact congrArg (fun b=>some (Value.string b)) (show (⟨#[105,54,52]⟩:ByteArray)=dmB 6 by kernel_rfl)
 | 7,_=>exact congrArg (fun b=>some (Value.string b)) (show (⟨#[117,54,52]⟩:ByteArray)=dmB 7 by kernel_rfl)
 | 8,_=>exact congrArg (fun b=>some (Value.string b)) (show (⟨#[105,56,42]⟩:ByteArray)=dmB 8 by kernel_rfl)
 | 9,_=>exact congrArg (fun b=>some (Value.string b)) (show (⟨#[83,46,97,42]⟩:ByteArray)=dmB 9 by kernel_rfl)
 | n+10,h=>exact absurd h (by omega)
theorem types_any (w:World):Calls Tryz.prog 6 #[] w fun e w'=>∃ ga gb,e=.returned (.tuple #[.slice (some ⟨ga,0,none⟩) 10 10,.slice (some ⟨gb,0,none⟩) 10 10])∧TyRows w' ga gb∧Keeps No w w':=by
 have h2:TyRows ((w.alloc (.cells rowW 9)).alloc (.cells rowD 9)) w.heap.size (w.heap.size+1):=by
  have e1:(w.alloc (.cells rowW 9)).heap[w.heap.size]?=some (.cells rowW 9 (0,0)):=heap_alloc_new _ _;have e2:((w.alloc (.cells rowW 9)).alloc (.cells rowD 9)).heap[w.heap.size+1]?=some (.cells rowD 9 (0,0)):=by
   rw [show w.heap.size+1=(w.alloc (.cells rowW 9)).heap.size by simp]; exact heap_alloc_new _ _
  refine ⟨fun k hk=>((Keeps.refl No _).alloc _).cell0 (by rw [cell_of_row _ w.heap.size k _ _ _ e1]; exact rowW_at hk),fun k hk=>?_⟩;rw [cell_of_row _ (w.heap.size+1) k _ _ _ e2]; exact rowD_at hk
 have hk:Keeps No w ((w.alloc (.cells rowW 9)).alloc (.cells rowD 9)):=((Keeps.refl _ _).alloc _).alloc _;unfold rowW rowD at h2 hk;have H2:=zz h2;have HK:=zz hk;clear h2 hk;go_enter Tryz.func6,Tryz.ntmps6;go_wp2_with fail;go_returns;exact ⟨w.heap.size,w.heap.size+1,rfl,H2.out,HK.out⟩
theorem conv_two (w:World) (g a b:Nat) (ha:a≤255) (hb:b≤255) (h:w.heap[g]?=some (.cells #[.int .u8 (a:Int),.int .u8 (b:Int)] 5 (0,0))):(convert 28 9 (.slice (some ⟨g,0,none⟩) 2 2)).run Tryz.prog w=.ok (.string (tx [UInt8.ofNat a,UInt8.ofNat b])) w:=by
 have hv:((UInt8.ofNat a).toNat:Int)=(a:Int):=by rw [UInt8.toNat_ofNat']; omega
 have hu:((UInt8.ofNat b).toNat:Int)=(b:Int):=by rw [UInt8.toNat_ofNat']; omega
 have:=run_convert_bytes_back (P:=Tryz.prog) w 28 9 5 ⟨g,0,none⟩ 2 [UInt8.ofNat a,UInt8.ofNat b] Tryz.underlying28 Tryz.underlying5 Tryz.underlying9 (fun j hj=>by
  match j,hj with
  | 0,_=>rw [Lib.add_plain,cell_of_row w g _ _ _ _ h]; show some (Value.int .u8 (a:Int))=some (.int .u8 ((UInt8.ofNat a).toNat:Int)); rw [hv]
  | 1,_=>rw [Lib.add_plain,cell_of_row w g _ _ _ _ h]; show some (Value.int .u8 (b:Int))=some (.int .u8 ((UInt8.ofNat b).toNat:Int)); rw [hu])
 exact this
theorem conv_one (w:World) (g a:Nat) (ha:a≤255) (h:w.heap[g]?=some (.cells #[.int .u8 (a:Int)] 5 (0,0))):(convert 28 9 (.slice (some ⟨g,0,none⟩) 1 1)).run Tryz.prog w=.ok (.string (tx [UInt8.ofNat a])) w:=by
 have hv:((UInt8.ofNat a).toNat:Int)=(a:Int):=by rw [UInt8.toNat_ofNat']; omega
 have:=run_convert_bytes_back (P:=Tryz.prog) w 28 9 5 ⟨g,0,none⟩ 1 [UInt8.ofNat a] Tryz.underlying28 Tryz.underlying5 Tryz.underlying9 (fun j hj=>by
  match j,hj with
  | 0,_=>rw [Lib.add_plain,cell_of_row w g _ _ _ _ h]; show some (Value.int .u8 (a:Int))=some (.int .u8 ((UInt8.ofNat a).toNat:Int)); rw [hv])
 exact this
end Go.Proofs.YtjgkacggjhobmaaGreatDoor
namespace Go.Proofs.YtjgkacggjhobmaaGreatDoor
open Go.RowKit
def fastOp (md:Region.Mode) (ops:Array Oper) (v b j:Nat) (o:Oper):Bool :=
 (o.dst==some (b+j) || (o.dst==some v&&j+1==ops.size))&&((o.looksAt ops).all (fun s=>(decide (s < b)&&s != v) || (decide (b≤s)&&decide (s < b+j)&&o.after.any fun e=>Region.binds md e&&e.on==s - b))&&o.after.all (fun e=>decide (e.on < j)))
def fastFrom (md:Region.Mode) (ops:Array Oper) (v b:Nat):List Oper→Nat→Bool
 | [],_=>true
 | o::l,j=>fastOp md ops v b j o&&fastFrom md ops v b l (j+1)
theorem fastFrom_at {md:Region.Mode} {ops:Array Oper} {v b:Nat}:∀ (l:List Oper) (j:Nat),fastFrom md ops v b l j=true→∀ i o,l[i]?=some o→fastOp md ops v b (j+i) o=true:=by
 intro l
 induction l with
 | nil=>intro j _ i o h; simp at h
 | cons a t ih =>
   intro j h i o hi;simp only [fastFrom,Bool.and_eq_true] at h;cases i with
   | zero=>simp at hi; subst hi; exact h.1
   | succ i=>have:=ih (j+1) h.2 i o (by simpa using hi); rw [show j+(i+1)=j+1+i by omega]; exact this
theorem fast_lex {md:Region.Mode} {l:List Oper} (v b:Nat) (hv:v < b) (hs:Region.noSelect l.toArray=true) (h:fastFrom md l.toArray v b l 0=true):Region.lexB md l.toArray=true:=by
 have hall:∀ i o,l.toArray[i]?=some o→fastOp md l.toArray v b i o=true:=fun i o hi=>by
  have:=fastFrom_at l 0 h i o (by simpa using hi);rwa [Nat.zero_add] at this
 generalize l.toArray=ops at hs hall ⊢;have key:∀ (fuel k:Nat) (listed:Array Bool),k+fuel=ops.size→listed.size=ops.size→(∀ i,i < ops.size→listed[i]?=some (decide (i < k)))→Region.lexFrom md ops fuel k listed=true:=by
  intro fuel
  induction fuel with
  | zero =>
    intro k listed hk hz hl;unfold Region.lexFrom Region.ready;rw [List.isEmpty_iff,List.filter_eq_nil_iff];intro i hi;have hi:=List.mem_range.1 hi;have:=hl i hi;rw [Array.getD_eq_getD_getElem?,this];simp;omega
  | succ fuel ih =>
    intro k listed hk hz hl;have hkk:k < ops.size:=by omega
    obtain ⟨o,ho⟩:∃ o,ops[k]?=some o:=⟨_,Array.getElem?_eq_getElem hkk⟩;have hf:=hall k o ho;simp only [fastOp,Bool.and_eq_true,Bool.or_eq_true,beq_iff_eq] at hf;obtain ⟨hd,hlk,haf⟩:=hf;have g1:∀ i,i < ops.size→listed.getD i true=decide (i < k):=fun i hi=>by rw [Array.getD_eq_getD_getElem?,hl i hi]; rfl
    have g2:∀ i,i < ops.size→listed.getD i false=decide (i < k):=fun i hi=>by rw [Array.getD_eq_getD_getElem?,hl i hi]; rfl
    unfold Region.lexFrom;simp only [Bool.and_eq_true];refine ⟨⟨?_,?_⟩,ih (k+1) _ (by omega) (by simpa using hz) (fun i hi=>?_)⟩
    · rw [List.contains_iff_mem];unfold Region.ready;rw [List.mem_filter];refine ⟨List.mem_range.2 hkk,?_⟩;rw [g1 k hkk,ho];simp only [Option.map_some,Option.getD_some,Nat.lt_irrefl,decide_false,Bool.not_false,Bool.true_and];rw [Array.all_eq_true_iff_forall_mem] at haf ⊢;intro e he;have:=of_decide_eq_true (haf e he);rw [g2 e.on (by omega)];simp [this]
    · unfold Region.free;rw [ho];simp only [List.all_eq_true,List.mem_range];intro j hj;obtain ⟨p,hp⟩:∃ p,ops[j]?=some p:=⟨_,Array.getElem?_eq_getElem hj⟩;rw [g1 j hj,hp];simp only [Bool.or_eq_true,beq_iff_eq,decide_eq_true_eq];by_cases e1:j=k
      · exact .inl (.inl e1)
      by_cases e2:j < k
      · exact .inl (.inr e2)
      refine .inr ?_;have hg:=hall j p hp;simp only [fastOp,Bool.and_eq_true,Bool.or_eq_true,beq_iff_eq] at hg;obtain ⟨gd,glk,gaf⟩:=hg;by_cases hm:(b+k)∈p.looksAt ops
      · have:=List.all_eq_true.1 glk _ hm;simp only [Bool.or_eq_true,decide_eq_true_eq,Bool.and_eq_true] at this;rcases this with ⟨t,_⟩ | ⟨_,t⟩
        · exact absurd t (Nat.not_lt.2 (Nat.le_add_right b k))
        · refine .inl ?_;rw [show b+k - b=k by omega] at t;simpa using t
      · refine .inr ?_;have hm3:v ∉ o.looksAt ops:=fun hm2=>by
         have:=List.all_eq_true.1 hlk _ hm2;simp only [Bool.or_eq_true,decide_eq_true_eq,Bool.and_eq_true] at this;rcases this with ⟨_,t⟩ | ⟨⟨t,_⟩,_⟩
         · simp at t
         · exact absurd hv (Nat.not_lt.2 t)
        have hm2:(b+j) ∉ o.looksAt ops:=fun hm2=>by
         have:=List.all_eq_true.1 hlk _ hm2;simp only [Bool.or_eq_true,decide_eq_true_eq,Bool.and_eq_true] at this;rcases this with ⟨t,_⟩ | ⟨⟨_,t⟩,_⟩
         · exact absurd t (Nat.not_lt.2 (Nat.le_add_right b j))
         · exact absurd (Nat.lt_of_add_lt_add_left t) e2
        have hd':o.dst=some (b+k):=by
         rcases hd with h | ⟨_,h⟩
         · exact h
         · omega
        have n1:b+j≠b+k:=fun h=>e1 (Nat.add_left_cancel h)
        have n2:v≠b+k:=fun h=>absurd (Nat.le_add_right b k) (Nat.not_le.2 (h ▸ hv))
        unfold Oper.apart;rw [hd'];rcases gd with h | ⟨h,_⟩
        · rw [h]; simp [hm,hm2]; exact fun h=>e1 h
        · rw [h]; simp [hm,hm3,n2]
    · by_cases e:i=k
      · subst e; rw [Array.getElem?_setIfInBounds_self_of_lt (by omega)]; simp
      · rw [Array.getElem?_setIfInBounds_ne (fun h=>e h.symm),hl i hi]
        congr 1
        have:i < k ↔ i < k+1:=by omega
        simp [this]
 unfold Region.lexB;rw [hs,Bool.true_and];exact key _ 0 _ (by omega) (by simp) (fun i hi=>by simp [hi])
end Go.Proofs.YtjgkacggjhobmaaGreatDoor
