import Derived.Test.YtflbkdfbjofllaaGreatDoorSyPkO
import Derived.Deep.LoopGhost
import Derived.Test.YtflbkdfbjofllaaGreatDoorSyPkB
import Derived.KernelRfl
import Derived.IntWalk
import Derived.WideShapes
import Derived.Test.YtflbkdfbjofllaaGreatDoorSyPkP
import Derived.Deep.DeepCutAuto
import Derived.StillTailTactics
import Derived.Laws.Tables
import Derived.Test.YtflbkdfbjofllaaGreatDoorSyPkQ
import Derived.Test.YtflbkdfbjofllaaGreatDoorSyPkF
import Derived.Test.YtflbkdfbjofllaaGreatDoorSyPkI
import Derived.Test.YtflbkdfbjofllaaGreatDoorSyPkL
set_option maxRecDepth 100000
set_option maxHeartbeats 25600000
set_option linter.unusedSimpArgs false
set_option linter.unusedVariables false
namespace Go.Proofs.YtflbkdfbjofllaaGreatDoor.L
open Go.RowKit
theorem rat_as (s:ByteArray) (k:Nat) (o c:Int) (ho:o=(k:Int)) (hs:s.size≤4611686018427387904) (HC:Hid (Lx.pk s k=c)) (w:World) :
    Calls Tryz.prog 39 #[.string s,.int .i64 o] w fun e w'=>e=.returned (.int .u8 c)∧w=w':=by
 subst ho;rw [← HC.out];by_cases hlt:k < s.size
 · have hlt':(k:Int) < (s.size:Int):=by omega
   have HP:=zz (Lx.pk_lt hlt);go_enter Tryz.func39,Tryz.ntmps39;go_wp2;go_returns;exact ⟨ri rfl HP.out.symm,rfl⟩
 · have hlt':¬ (k:Int) < (s.size:Int):=by omega
   have HP:=zz (Lx.pk_ge hlt);go_enter Tryz.func39,Tryz.ntmps39;go_wp2;go_returns;exact ⟨ri rfl HP.out.symm,rfl⟩
theorem rletter_as (c:Int) (L:Bool) (hc:0≤c∧c≤255) (HL:Hid (Lx.letB c=L)) (w:World):Calls Tryz.prog 40 #[.int .u8 c] w fun e w'=>e=.returned (.bool L)∧w=w':=by
 rw [← HL.out];go_enter Tryz.func40,Tryz.ntmps40;go_wp2
 all_goals go_returns
 all_goals exact ⟨rb rfl (by rw [Bool.eq_iff_iff,Lx.letB_iff]; simp; omega),rfl⟩
theorem rdigit_as (c:Int) (L:Bool) (hc:0≤c∧c≤255) (HL:Hid (Lx.digB c=L)) (w:World):Calls Tryz.prog 41 #[.int .u8 c] w fun e w'=>e=.returned (.bool L)∧w=w':=by
 rw [← HL.out];go_enter Tryz.func41,Tryz.ntmps41;go_wp2
 all_goals go_returns
 all_goals exact ⟨rb rfl (by rw [Bool.eq_iff_iff,Lx.digB_iff]; simp; omega),rfl⟩
theorem rhex_as (c V:Int) (hc:0≤c∧c≤255) (HV:Hid (Lx.valB 16 c=V)) (w:World):Calls Tryz.prog 73 #[.int .u8 c] w fun e w'=>e=.returned (.int .i64 V)∧w=w':=by
 have hV:=HV.out;unfold Lx.valB at hV;clear HV;cases hD:Lx.digB c
 · rw [hD,if_neg (by decide)] at hV;have HD:=zz hD;clear hD;by_cases h1:97≤c∧c≤102
   · rw [if_pos ⟨rfl,h1⟩] at hV;have HV:=zz hV;clear hV;obtain ⟨a,b⟩:=h1;go_enter Tryz.func73,Tryz.ntmps73;go_wp2_with fail;refine (rdigit_as c false hc HD _).mono ?_;rintro e w1 ⟨rfl,rfl⟩;go_wp2_with fail;go_returns;exact ⟨ri rfl (by rw [← HV.out]; omega),rfl⟩
   · by_cases h2:65≤c∧c≤70
     · rw [if_neg (fun h=>h1 h.2),if_pos ⟨rfl,h2⟩] at hV;have HV:=zz hV;clear hV;obtain ⟨a,b⟩:=h2;have h1':¬ 97≤c:=by omega
       go_enter Tryz.func73,Tryz.ntmps73;go_wp2_with fail;refine (rdigit_as c false hc HD _).mono ?_;rintro e w1 ⟨rfl,rfl⟩;go_wp2_with fail;go_returns;exact ⟨ri rfl (by rw [← HV.out]; omega),rfl⟩
     · rw [if_neg (fun h=>h1 h.2),if_neg (fun h=>h2 h.2)] at hV;have HV:=zz hV;clear hV;go_enter Tryz.func73,Tryz.ntmps73;go_wp2_with fail;refine (rdigit_as c false hc HD _).mono ?_;rintro e w1 ⟨rfl,rfl⟩;go_wp2_with fail
       all_goals go_returns
       all_goals first | exact ⟨ri rfl HV.out,rfl⟩ | (exfalso; omega)
 · rw [hD,if_pos rfl] at hV;have HD:=zz hD;have h9:=(Lx.digB_iff c).1 hD;have HV:=zz hV;clear hD hV;go_enter Tryz.func73,Tryz.ntmps73;go_wp2_with fail;refine (rdigit_as c true hc HD _).mono ?_;rintro e w1 ⟨rfl,rfl⟩;go_wp2_with fail;go_returns;exact ⟨ri rfl HV.out,rfl⟩
end Go.Proofs.YtflbkdfbjofllaaGreatDoor.L
namespace Go.Proofs.YtflbkdfbjofllaaGreatDoor.L
open Go.RowKit
def wl:List ByteArray:=[⟨#[118,111,105,100]⟩,⟨#[99,104,97,114]⟩,⟨#[115,104,111,114,116]⟩,⟨#[105,110,116]⟩,⟨#[108,111,110,103]⟩,⟨#[117,110,115,105,103,110,101,100]⟩,⟨#[115,116,114,117,99,116]⟩,⟨#[116,121,112,101,100,101,102]⟩,
 ⟨#[105,102]⟩,⟨#[101,108,115,101]⟩,⟨#[119,104,105,108,101]⟩,⟨#[100,111]⟩,⟨#[102,111,114]⟩,⟨#[115,119,105,116,99,104]⟩,⟨#[99,97,115,101]⟩,⟨#[100,101,102,97,117,108,116]⟩,⟨#[98,114,101,97,107]⟩,⟨#[99,111,110,116,105,110,117,101]⟩,⟨#[114,101,116,117,114,110]⟩,⟨#[103,111,116,111]⟩,⟨#[115,105,122,101,111,102]⟩]
theorem wl_lists:wl.map ByteArray.toList=[[118,111,105,100],[99,104,97,114],[115,104,111,114,116],[105,110,116],[108,111,110,103],[117,110,115,105,103,110,101,100],[115,116,114,117,99,116],[116,121,112,101,100,101,102],
 [105,102],[101,108,115,101],[119,104,105,108,101],[100,111],[102,111,114],[115,119,105,116,99,104],[99,97,115,101],[100,101,102,97,117,108,116],[98,114,101,97,107],[99,111,110,116,105,110,117,101],[114,101,116,117,114,110],[103,111,116,111],[115,105,122,101,111,102]]:=by kernel_rfl
theorem wordB_mem (t:ByteArray):Lx.wordB t=true ↔ t.toList∈wl.map ByteArray.toList:=by
 rw [wl_lists]; unfold Lx.wordB; simp; grind
theorem words_any (w:World):Calls Tryz.prog 72 #[] w fun e w'=>e=.returned (.slice (some ⟨w.heap.size,0,none⟩) 21 21)∧w.alloc (.cells (wl.map Value.string).toArray 9)=w':=by
 go_enter Tryz.func72,Tryz.ntmps72;go_wp2;go_returns;exact ⟨rfl,rfl⟩
theorem wl_cell (w:World) (T:TypeId) {k:Nat} (hk:k < 21):(w.alloc (.cells (wl.map Value.string).toArray T)).cell? ⟨w.heap.size,k,none⟩=some (.string (wl.getD k ⟨#[]⟩)):=by
 have h:(wl.map Value.string).toArray[k]?=some (.string (wl.getD k ⟨#[]⟩)):=by
  have hl:k < wl.length:=hk;simp [List.getD,List.getElem?_eq_getElem hl]
 rw [World.cell?_alloc_at _ _ _ _ rfl];exact h
theorem wl_getD {j:Nat} (h:j < wl.length):wl.getD j ⟨#[]⟩=wl[j]:=by simp [List.getD,List.getElem?_eq_getElem h]
theorem rword_as (t:ByteArray) (B:Bool) (HB:Hid (Lx.wordB t=B)) (w:World):Calls Tryz.prog 42 #[.string t] w fun e w'=>e=.returned (.bool B)∧w.alloc (.cells (wl.map Value.string).toArray 9)=w':=by
 go_enter Tryz.func42,Tryz.ntmps42;go_wp2_with fail;refine (words_any w).mono ?_;rintro e w1 ⟨rfl,rfl⟩;obtain ⟨W,hW⟩:∃ W,W=w.alloc (.cells (wl.map Value.string).toArray 9):=⟨_,rfl⟩;have HW:=zz hW;rw [← hW];clear hW;go_wp2_with fail;go_loopg [4] 21 (fun g v wr=>∃ k:Nat,v=.int .i64 (k:Int)∧k≤21∧g=21 - k∧Hid (∀ j,j < k→(wl.getD j ⟨#[]⟩).toList≠t.toList)∧W=wr)
 case atStart=>exact ⟨0,rfl,by omega,rfl,fun j hj=>absurd hj (by omega),rfl⟩
 case round =>
  obtain ⟨k,rfl,hk,hg,HN,rfl⟩:=hrel;by_cases hlt:k < 21
  · have hlt':(k:Int) < 21:=by omega
    have k0:(0:Int)≤(k:Int):=by omega
    obtain ⟨a,ha⟩:∃ a,wl.getD k ⟨#[]⟩=a:=⟨_,rfl⟩;have hc:W.cell? ⟨w.heap.size,k,none⟩=some (.string a):=by rw [HW.out,wl_cell w _ hlt,ha]
    by_cases he:a.toList=t.toList
    · have q1:(a.toList==t.toList)=true:=by rw [he]; exact beq_self_eq_true _
      have HT:Hid (B=true):=by
       rw [← HB.out,wordB_mem,← he,← ha];have hl:k < wl.length:=hlt;exact List.mem_map.2 ⟨_,by rw [wl_getD hl]; exact List.getElem_mem hl,rfl⟩
      clear he ha;go_wp2_with fail;go_returns;exact ⟨rb rfl HT.out.symm,HW.out.symm⟩
    · have q1:(a.toList==t.toList)=false:=beq_eq_false_iff_ne.2 he;have HN2:Hid (∀ j,j < k+1→(wl.getD j ⟨#[]⟩).toList≠t.toList):=fun j hj=>by
       by_cases hjk:j=k
       · rw [hjk,ha]; exact he
       · exact HN.out j (by omega)
      clear he ha HN;go_wp2_with fail;go_roundg (gk - 1)
      case rel=>exact ⟨k+1,by go_num,by omega,by omega,HN2,rfl⟩
      case measure=>omega
  · obtain rfl:k=21:=by omega
    have HF:Hid (B=false):=by
     rw [← HB.out];cases hw:Lx.wordB t
     · exact zz rfl
     · rw [wordB_mem] at hw;obtain ⟨x,hx,hxt⟩:=List.mem_map.1 hw;obtain ⟨j,hj,hjx⟩:=List.mem_iff_getElem.1 hx;exact absurd hxt (by rw [← hjx,← wl_getD hj]; exact HN.out j hj)
    clear HN;go_wp2_with fail;go_returns;exact ⟨rb rfl HF.out.symm,HW.out.symm⟩
end Go.Proofs.YtflbkdfbjofllaaGreatDoor.L
namespace Go.Proofs.YtflbkdfbjofllaaGreatDoor.L
open Go.RowKit
def sl:List ByteArray:=[⟨#[60,60,61]⟩,⟨#[62,62,61]⟩,⟨#[60,60]⟩,⟨#[62,62]⟩,⟨#[60,61]⟩,⟨#[62,61]⟩,⟨#[61,61]⟩,⟨#[33,61]⟩,⟨#[38,38]⟩,⟨#[124,124]⟩,⟨#[45,62]⟩,⟨#[43,61]⟩,⟨#[45,61]⟩,⟨#[42,61]⟩,⟨#[47,61]⟩,⟨#[37,61]⟩,⟨#[38,61]⟩,⟨#[124,61]⟩,⟨#[94,61]⟩,⟨#[43]⟩,⟨#[45]⟩,⟨#[42]⟩,⟨#[47]⟩,⟨#[37]⟩,⟨#[38]⟩,⟨#[124]⟩,⟨#[94]⟩,⟨#[126]⟩,⟨#[33]⟩,⟨#[60]⟩,⟨#[62]⟩,⟨#[61]⟩,⟨#[40]⟩,⟨#[41]⟩,⟨#[91]⟩,⟨#[93]⟩,⟨#[123]⟩,⟨#[125]⟩,⟨#[44]⟩,⟨#[59]⟩,⟨#[58]⟩,⟨#[63]⟩,⟨#[46]⟩]
def matchB (s:ByteArray) (i:Nat) (a:ByteArray):Bool:=decide (i+a.size≤s.size)&&((s.extract i (i+a.size)).toList==a.toList)
def rsign (s:ByteArray) (i:Nat):ByteArray:=(sl.find? (matchB s i)).getD ⟨#[]⟩
theorem sl_size:∀ a∈sl,1≤a.size∧a.size≤3:=by decide
theorem sl_getD {j:Nat} (h:j < sl.length):sl.getD j ⟨#[]⟩=sl[j]:=by simp [List.getD,List.getElem?_eq_getElem h]
theorem sl_drop {k:Nat} (h:k < 43):sl.drop k=sl.getD k ⟨#[]⟩::sl.drop (k+1):=by
 rw [sl_getD (show k < sl.length from h)]; exact List.drop_eq_getElem_cons h
theorem sl_cell (w:World) (T:TypeId) {k:Nat} (hk:k < 43):(w.alloc (.cells (sl.map Value.string).toArray T)).cell? ⟨w.heap.size,k,none⟩=some (.string (sl.getD k ⟨#[]⟩)):=by
 have h:(sl.map Value.string).toArray[k]?=some (.string (sl.getD k ⟨#[]⟩)):=by
  have hl:k < sl.length:=hk;simp [List.getD,List.getElem?_eq_getElem hl]
 rw [World.cell?_alloc_at _ _ _ _ rfl];exact h
theorem signs_any (w:World):Calls Tryz.prog 74 #[] w fun e w'=>e=.returned (.slice (some ⟨w.heap.size,0,none⟩) 43 43)∧w.alloc (.cells (sl.map Value.string).toArray 9)=w':=by
 go_enter Tryz.func74,Tryz.ntmps74;go_wp2;go_returns;exact ⟨rfl,rfl⟩
theorem rsign_as (s:ByteArray) (i:Nat) (hi:i≤s.size) (hs:s.size≤4611686018427387904) (S:ByteArray) (HS:Hid (rsign s i=S)) (w:World):Calls Tryz.prog 45 #[.string s,.int .i64 (i:Int)] w fun e w'=>e=.returned (.string S)∧∃ n,(w.alloc (.cells (sl.map Value.string).toArray 9)).drewN n=w':=by
 go_enter Tryz.func45,Tryz.ntmps45;go_wp2_with fail;refine (signs_any w).mono ?_;rintro e w1 ⟨rfl,rfl⟩;obtain ⟨W,hW⟩:∃ W,W=w.alloc (.cells (sl.map Value.string).toArray 9):=⟨_,rfl⟩;have HW:=zz hW;rw [← hW];clear hW;have HSF:Hid (S=(sl.find? (matchB s i)).getD ⟨#[]⟩):=zz HS.out.symm;clear HS;go_wp2_with fail;go_loopg [6] 43 (fun g v wr=>∃ k n:Nat,v=.int .i64 (k:Int)∧k≤43∧g=43 - k∧Hid (S=((sl.drop k).find? (matchB s i)).getD ⟨#[]⟩)∧W.drewN n=wr)
 case atStart=>exact ⟨0,0,rfl,by omega,rfl,HSF,rfl⟩
 case round =>
  obtain ⟨k,n,rfl,hk,hg,HN,rfl⟩:=hrel;clear HSF;by_cases hlt:k < 43
  · have hlt':(k:Int) < 43:=by omega
    have k0:(0:Int)≤(k:Int):=by omega
    obtain ⟨a,ha⟩:∃ a,sl.getD k ⟨#[]⟩=a:=⟨_,rfl⟩;have hz:1≤a.size∧a.size≤3:=sl_size a (by rw [← ha,sl_getD (show k < sl.length from hlt)]; exact List.getElem_mem _);have hd:=sl_drop hlt;rw [ha] at hd;have hc:W.cell? ⟨w.heap.size,k,none⟩=some (.string a):=by rw [HW.out,sl_cell w _ hlt,ha]
    have HD:=zz hd;clear hd ha;have HN1:Hid (S=((a::sl.drop (k+1)).find? (matchB s i)).getD ⟨#[]⟩):=by rw [← HD.out]; exact HN
    clear HN;by_cases hf:i+a.size≤s.size
    · have f1:(a.size:Int)≤(s.size:Int) - (i:Int):=by omega
      have f2:(i:Int)+(a.size:Int)≤(s.size:Int):=by omega
      have f3:(0:Int)≤(i:Int)+(a.size:Int):=by omega
      have f4:((i:Int)+(a.size:Int)).toNat=i+a.size:=by omega
      have f5:IntKind.i64.wrap ((i:Int)+(a.size:Int))=(i:Int)+(a.size:Int):=IntWalk.i64_in _ (by omega);have f6:(i:Int)≤(i:Int)+(a.size:Int):=by omega
      by_cases he:(s.extract i (i+a.size)).toList=a.toList
      · have q1:((s.extract i (i+a.size)).toList==a.toList)=true:=by rw [he]; exact beq_self_eq_true _
        have HT:Hid (S=a):=by
         rw [HN1.out,List.find?_cons_of_pos (by unfold matchB; rw [decide_eq_true hf,q1]; rfl)]; exact zz rfl
        clear he HN1;go_wp2_with fail;go_quiet (fail);go_wp2_with fail;go_returns;exact ⟨rs rfl HT.out.symm,_,by rw [HW.out]⟩
      · have q1:((s.extract i (i+a.size)).toList==a.toList)=false:=beq_eq_false_iff_ne.2 he;have HT:Hid (S=((sl.drop (k+1)).find? (matchB s i)).getD ⟨#[]⟩):=by
         rw [HN1.out,List.find?_cons_of_neg (by unfold matchB; rw [q1]; simp)]; exact zz rfl
        clear he HN1;go_wp2_with fail;go_quiet (fail);clear f5;go_wp2_with fail;go_roundg (gk - 1)
        case rel=>exact ⟨k+1,_,by go_num,by omega,by omega,HT,rfl⟩
        case measure=>omega
    · have f1:¬ (a.size:Int)≤(s.size:Int) - (i:Int):=by omega
      have f1b:decide ((a.size:Int)≤(s.size:Int) - (i:Int))=false:=decide_eq_false f1;have f5:IntKind.i64.wrap ((s.size:Int) - (i:Int))=(s.size:Int) - (i:Int):=IntWalk.i64_in _ (by omega);have HT:Hid (S=((sl.drop (k+1)).find? (matchB s i)).getD ⟨#[]⟩):=by
       rw [HN1.out,List.find?_cons_of_neg (by unfold matchB; rw [decide_eq_false hf]; simp)]; exact zz rfl
      clear HN1;go_wp2_with fail;go_quiet (fail);clear f5;go_wp2_with fail;go_roundg (gk - 1)
      case rel=>exact ⟨k+1,_,by go_num,by omega,by omega,HT,rfl⟩
      case measure=>omega
  · obtain rfl:k=43:=by omega
    have HT:Hid (S=⟨#[]⟩):=HN;clear HN;go_wp2_with fail;go_returns;exact ⟨rs rfl HT.out.symm,_,by rw [HW.out]⟩
end Go.Proofs.YtflbkdfbjofllaaGreatDoor.L
namespace Go.Proofs.YtflbkdfbjofllaaGreatDoor.L
open Go.RowKit
theorem pk_list (s:ByteArray) (k:Nat):Lx.pk s k=match s.data.toList[k]? with | some b=>(b.toNat:Int) | none=>0:=by
 by_cases h:k < s.size
 · rw [Lx.pk_lt h];have h':k < s.data.toList.length:=by simpa using h
   rw [List.getElem?_eq_getElem h'];rfl
 · rw [Lx.pk_ge h,List.getElem?_eq_none (by simpa using h)]
theorem ext_list (s:ByteArray) (i n:Nat):(s.extract i (i+n)).toList=(s.data.toList.drop i).take n:=by
 rw [ByteArray.toList_eq,ByteArray.data_extract,Array.toList_extract];simp [List.extract]
theorem matchB_list (s:ByteArray) (i:Nat) (a:ByteArray) (ha:1≤a.size):matchB s i a=((s.data.toList.drop i).take a.size==a.toList):=by
 unfold matchB;rw [ext_list];by_cases h:i+a.size≤s.size
 · rw [decide_eq_true h]; rfl
 · rw [decide_eq_false h]
   symm
   rw [Bool.false_and,beq_eq_false_iff_ne];intro e;have:=congrArg List.length e;rw [ByteArray.toList_eq] at this;simp at this;have e1:s.data.size=s.size:=rfl;have e2:a.data.size=a.size:=rfl;omega
section
variable (s:ByteArray) (i:Nat)
theorem m1 (x:UInt8) (hx:x≠0):matchB s i ⟨#[x]⟩=decide (Lx.pk s i=(x.toNat:Int)):=by
 rw [matchB_list _ _ _ (by show 1≤1; decide),ByteArray.toList_eq,Bool.eq_iff_iff,beq_iff_eq,decide_eq_true_iff];have hx':x.toNat≠0:=fun h=>hx (UInt8.toNat_inj.1 h)
 show ((s.data.toList.drop i).take 1=[x]) ↔ _;have p0:=pk_list s i;have g0:(s.data.toList.drop i)[0]?=s.data.toList[i]?:=by simp
 rw [← g0] at p0;rcases hr:s.data.toList.drop i with _ | ⟨c,r⟩
 · rw [hr] at p0; rw [p0]; simp; omega
 · rw [hr] at p0; rw [p0]; simp [← UInt8.toNat_inj]; omega
theorem m2 (x y:UInt8) (hx:x≠0) (hy:y≠0):matchB s i ⟨#[x,y]⟩=decide (Lx.pk s i=(x.toNat:Int)∧Lx.pk s (i+1)=(y.toNat:Int)):=by
 rw [matchB_list _ _ _ (by show 1≤2; decide),ByteArray.toList_eq,Bool.eq_iff_iff,beq_iff_eq,decide_eq_true_iff];have hx':x.toNat≠0:=fun h=>hx (UInt8.toNat_inj.1 h)
 have hy':y.toNat≠0:=fun h=>hy (UInt8.toNat_inj.1 h)
 show ((s.data.toList.drop i).take 2=[x,y]) ↔ _;have p0:=pk_list s i;have p1:=pk_list s (i+1);have g0:(s.data.toList.drop i)[0]?=s.data.toList[i]?:=by simp
 have g1:(s.data.toList.drop i)[1]?=s.data.toList[i+1]?:=by simp
 rw [← g0] at p0;rw [← g1] at p1;rcases hr:s.data.toList.drop i with _ | ⟨c,_ | ⟨d,r⟩⟩
 · rw [hr] at p0 p1; rw [p0,p1]; simp; omega
 · rw [hr] at p0 p1; rw [p0,p1]; simp [← UInt8.toNat_inj]; omega
 · rw [hr] at p0 p1; rw [p0,p1]; simp [← UInt8.toNat_inj]; omega
theorem m3 (x y z:UInt8) (hx:x≠0) (hy:y≠0) (hz:z≠0):matchB s i ⟨#[x,y,z]⟩=decide (Lx.pk s i=(x.toNat:Int)∧Lx.pk s (i+1)=(y.toNat:Int)∧Lx.pk s (i+2)=(z.toNat:Int)):=by
 rw [matchB_list _ _ _ (by show 1≤3; decide),ByteArray.toList_eq,Bool.eq_iff_iff,beq_iff_eq,decide_eq_true_iff];have hx':x.toNat≠0:=fun h=>hx (UInt8.toNat_inj.1 h)
 have hy':y.toNat≠0:=fun h=>hy (UInt8.toNat_inj.1 h)
 have hz':z.toNat≠0:=fun h=>hz (UInt8.toNat_inj.1 h)
 show ((s.data.toList.drop i).take 3=[x,y,z]) ↔ _;have p0:=pk_list s i;have p1:=pk_list s (i+1);have p2:=pk_list s (i+2);have g0:(s.data.toList.drop i)[0]?=s.data.toList[i]?:=by simp
 have g1:(s.data.toList.drop i)[1]?=s.data.toList[i+1]?:=by simp
 have g2:(s.data.toList.drop i)[2]?=s.data.toList[i+2]?:=by simp
 rw [← g0] at p0;rw [← g1] at p1;rw [← g2] at p2;rcases hr:s.data.toList.drop i with _ | ⟨c,_ | ⟨d,_ | ⟨e,r⟩⟩⟩
 · rw [hr] at p0 p1 p2; rw [p0,p1,p2]; simp; omega
 · rw [hr] at p0 p1 p2; rw [p0,p1,p2]; simp [← UInt8.toNat_inj]; omega
 · rw [hr] at p0 p1 p2; rw [p0,p1,p2]; simp [← UInt8.toNat_inj]; omega
 · rw [hr] at p0 p1 p2; rw [p0,p1,p2]; simp [← UInt8.toNat_inj]; omega
end
theorem ba_toList_inj {a b:ByteArray} (h:a.toList=b.toList):a=b:=by
 rw [ByteArray.toList_eq,ByteArray.toList_eq] at h;exact Go.WideShapes.bytes_inj h
theorem rsign_text (s:ByteArray) (i:Nat) (h:(rsign s i).size≠0):i+(rsign s i).size≤s.size∧rsign s i=s.extract i (i+(rsign s i).size):=by
 unfold rsign at h ⊢;cases hf:sl.find? (matchB s i) with
 | none=>rw [hf] at h; exact absurd rfl h
 | some a =>
   have hm:=List.find?_some hf;unfold matchB at hm;rw [Bool.and_eq_true,decide_eq_true_iff,beq_iff_eq] at hm;exact ⟨hm.1,(ba_toList_inj hm.2).symm⟩
theorem sufStr_ext (s:ByteArray) (k:Nat):s.extract k (k+Lx.sufLen s k)=Lx.sufStr s k:=by
 apply ba_toList_inj;rw [ext_list];have p0:=pk_list s k;have p1:=pk_list s (k+1);have g0:(s.data.toList.drop k)[0]?=s.data.toList[k]?:=by simp
 have g1:(s.data.toList.drop k)[1]?=s.data.toList[k+1]?:=by simp
 rw [← g0] at p0;rw [← g1] at p1;obtain ⟨l,hl⟩:∃ l,s.data.toList.drop k=l:=⟨_,rfl⟩;rw [hl] at p0 p1 ⊢;clear g0 g1 hl;have u8:∀ (a:UInt8) (n:Nat) (hn:n < 256),(a.toNat:Int)=(n:Int)→a=UInt8.ofNat n:=fun a n hn h=>by
  apply UInt8.toNat_inj.1;rw [UInt8.toNat_ofNat']; omega
 unfold Lx.sufLen Lx.sufStr;by_cases h117:Lx.pk s k=117
 · rw [if_pos h117,if_pos h117];rcases l with _ | ⟨a,l⟩
   · simp at p0; omega
   · have ha:=u8 a 117 (by decide) (by simp at p0; omega);by_cases h108:Lx.pk s (k+1)=108
     · rw [if_pos h108,if_pos h108];rcases l with _ | ⟨b,l⟩
       · simp at p1; omega
       · have hb:=u8 b 108 (by decide) (by simp at p1; omega);subst ha hb;rw [ByteArray.toList_eq]; rfl
     · rw [if_neg h108,if_neg h108];subst ha;rw [ByteArray.toList_eq]; rfl
 · rw [if_neg h117,if_neg h117];by_cases h108:Lx.pk s k=108
   · rw [if_pos h108,if_pos h108];rcases l with _ | ⟨a,l⟩
     · simp at p0; omega
     · have ha:=u8 a 108 (by decide) (by simp at p0; omega);subst ha;rw [ByteArray.toList_eq]; rfl
   · rw [if_neg h108,if_neg h108];rw [ByteArray.toList_eq]; rfl
end Go.Proofs.YtflbkdfbjofllaaGreatDoor.L
namespace Go.Proofs.YtflbkdfbjofllaaGreatDoor.L
open Go.RowKit
theorem gn_trans {a b c:World} (h:a.grownBy b none) (k:b.grownBy c none):a.grownBy c none :=
 ⟨k.os.trans h.os,k.tape.trans h.tape,k.output.trans h.output,Nat.le_trans h.size k.size,fun q hq hr=>(k.block q (Nat.lt_of_lt_of_le hq h.size) hr).trans (h.block q hq hr)⟩
theorem gn_alloc {a b:World} (h:a.grownBy b none) (o:Obj):a.grownBy (b.alloc o) none:=gn_trans h (World.grownBy_alloc b o _)
theorem gn_drew {a w:World} (h:a.grownBy w none):a.grownBy w.drew none:=⟨h.os,h.tape,h.output,h.size,h.block⟩
theorem gn_drewN {a w:World} (h:a.grownBy w none) (n:Nat):a.grownBy (w.drewN n) none:=⟨h.os,h.tape,h.output,h.size,h.block⟩
theorem gn_refl (w:World):w.grownBy w none:=⟨rfl,rfl,rfl,Nat.le_refl _,fun _ _ _=>rfl⟩
theorem gn_set {a w:World} (h:a.grownBy w none) {q:Nat} (hq:a.heap.size≤q) (o:Nat) (u:Value):a.grownBy (w.setCell ⟨q,o,none⟩ u) none :=
 ⟨h.os,h.tape,h.output,by have:=h.size; simpa [World.setCell] using this,fun k hk hr=>(Below.heap_setCell _ _ _ _ (fun e=>by have e':k=q:=e; omega)).trans (h.block k hk hr)⟩
def RChar (s:ByteArray) (i:Nat) (b:Bool) (E:Nat) (n:Int) (w:World) (e:Ending) (w':World):Prop :=
 ∃ (T:ByteArray) (m:Int),e=.returned (.tuple #[.agg #[.int .i64 4,.int .i64 (i:Int),.string T,.string ⟨#[]⟩,.int .u64 m,.bool false],.bool b])∧(b=true→T=s.extract i E∧m=n)∧w.grownBy w' none
theorem rchar_bad (s:ByteArray) (i:Nat) (hi:i < s.size) (hs:s.size≤4611686018427387904) (c:Int) (HC:Hid (Lx.pk s (i+1)=c)) (hc:c < 32∨126 < c∨c=39) (E:Nat) (n:Int) (w:World) :
    Calls Tryz.prog 44 #[.string s,.int .i64 (i:Int)] w (RChar s i false E n w):=by
 go_enter Tryz.func44,Tryz.ntmps44;go_wp2_with fail;refine (rat_as s (i+1) _ c (by omega) hs HC _).mono ?_;rintro e w1 ⟨rfl,rfl⟩;go_wp2_with fail
 all_goals first
  | (exfalso; simp only [beq_eq_false_iff_ne,ne_eq] at *; omega)
  | (exfalso; simp at *; omega)
  | (refine bodyPost_ret (v:=.tuple #[.agg #[.int .i64 4,.int .i64 (i:Int),.string ⟨#[]⟩,.string ⟨#[]⟩,.int .u64 0,.bool false],.bool false]) (by simp [results,Tryz.results44,go_sem]) rfl ⟨_,_,rfl,(fun h=>by cases h),?_⟩
     repeat (first | with_reducible exact gn_refl _ | with_reducible refine gn_alloc ?_ _))
theorem rchar_plain (s:ByteArray) (i:Nat) (hi:i < s.size) (hs:s.size≤4611686018427387904) (c d:Int) (HC:Hid (Lx.pk s (i+1)=c)) (HD:Hid (Lx.pk s (i+2)=d)) (hc:¬ (c < 32∨126 < c∨c=39)) (hb:c≠92) (w:World) :
    Calls Tryz.prog 44 #[.string s,.int .i64 (i:Int)] w (RChar s i (decide (d=39)) (i+3) c w):=by
 have h1:i+1 < s.size:=Lx.pk_in (by rw [HC.out]; omega);have n1:¬ (s.size:Int)≤(i:Int)+1:=by omega
 have n2:¬ c < 32:=by omega
 have n3:¬ 126 < c:=by omega
 have n4:(c==39)=false:=beq_eq_false_iff_ne.2 (by omega);have n5:(c==92)=false:=beq_eq_false_iff_ne.2 hb;have hw:IntKind.u64.wrap c=c:=by simp only [IntKind.wrap,IntKind.bits,IntKind.signed]; simp; omega
 clear hc hb;by_cases hd:d=39
 · subst hd;have h2:i+2 < s.size:=Lx.pk_in (by rw [HD.out]; decide);have h3:(i:Int)+3≤(s.size:Int):=by omega
   go_enter Tryz.func44,Tryz.ntmps44;go_wp2_with fail;refine (rat_as s (i+1) _ c (by omega) hs HC _).mono ?_;rintro e w1 ⟨rfl,rfl⟩;go_wp2_with fail;refine (rat_as s (i+2) _ 39 (by omega) hs HD _).mono ?_;rintro e w1 ⟨rfl,rfl⟩;go_wp2_with fail;refine bodyPost_ret (v:=.tuple #[.agg #[.int .i64 4,.int .i64 (i:Int),.string (s.extract i (i+3)),.string ⟨#[]⟩,.int .u64 c,.bool false],.bool true]) (by simp [results,Tryz.results44,go_sem]; done) rfl ⟨_,_,rfl,(fun _=>⟨rfl,rfl⟩),?_⟩
   repeat (first | with_reducible exact gn_refl _ | with_reducible refine gn_alloc ?_ _)
 · rw [decide_eq_false hd];have m1:(d != 39)=true:=bne_iff_ne.2 hd;clear hd;go_enter Tryz.func44,Tryz.ntmps44;go_wp2_with fail;refine (rat_as s (i+1) _ c (by omega) hs HC _).mono ?_;rintro e w1 ⟨rfl,rfl⟩;go_wp2_with fail;refine (rat_as s (i+2) _ d (by omega) hs HD _).mono ?_;rintro e w1 ⟨rfl,rfl⟩;go_wp2_with fail;refine bodyPost_ret (v:=.tuple #[.agg #[.int .i64 4,.int .i64 (i:Int),.string ⟨#[]⟩,.string ⟨#[]⟩,.int .u64 c,.bool false],.bool false]) (by simp [results,Tryz.results44,go_sem]; done) rfl ⟨_,_,rfl,(fun h=>by cases h),?_⟩
   repeat (first | with_reducible exact gn_refl _ | with_reducible refine gn_alloc ?_ _)
theorem rchar_110_yes (s:ByteArray) (i:Nat) (hi:i < s.size) (hs:s.size≤4611686018427387904) (HC:Hid (Lx.pk s (i+1)=92)) (HD:Hid (Lx.pk s (i+2)=110)) (HE:Hid (Lx.pk s (i+3)=39)) (w:World) :
    Calls Tryz.prog 44 #[.string s,.int .i64 (i:Int)] w (RChar s i true (i+4) 10 w):=by
 have n0:(i:Int)+1 < (s.size:Int):=by have:=Lx.pk_in (s:=s) (i:=i+1) (by rw [HC.out]; decide); omega
 have hm:(i:Int)+2≤(s.size:Int):=by omega
 have hp:110=(Lx.pk s (i+2)):=HD.out.symm;have h2:i+2 < s.size:=Lx.pk_in (by rw [HD.out]; decide);have h3:i+3 < s.size:=Lx.pk_in (by rw [HE.out]; decide);have h4:(i:Int)+4≤(s.size:Int):=by omega
 have h5:(i:Int)+2 < (s.size:Int):=by omega
 rw [Lx.pk_lt h2] at hp;have hp':(s[i+2].toNat:Int)=110:=hp.symm;clear hp;go_enter Tryz.func44,Tryz.ntmps44;go_wp2_with fail;refine (rat_as s (i+1) _ 92 (by omega) hs HC _).mono ?_;rintro e w1 ⟨rfl,rfl⟩;go_wp2_with fail;refine (rat_as s (i+2) _ 110 (by omega) hs HD _).mono ?_;rintro e w1 ⟨rfl,rfl⟩;go_wp2_with fail;refine (rat_as s (i+3) _ 39 (by omega) hs HE _).mono ?_;rintro e w1 ⟨rfl,rfl⟩;go_wp2_with fail;refine bodyPost_ret (v:=.tuple #[.agg #[.int .i64 4,.int .i64 (i:Int),.string (s.extract i (i+4)),.string ⟨#[]⟩,.int .u64 10,.bool false],.bool true]) (by simp [results,Tryz.results44,go_sem]; done) rfl ⟨_,_,rfl,(fun _=>⟨rfl,rfl⟩),?_⟩
 repeat (first | with_reducible exact gn_refl _ | with_reducible refine gn_alloc ?_ _)
theorem rchar_110_no (s:ByteArray) (i:Nat) (hi:i < s.size) (hs:s.size≤4611686018427387904) (HC:Hid (Lx.pk s (i+1)=92)) (HD:Hid (Lx.pk s (i+2)=110)) (e:Int) (HE:Hid (Lx.pk s (i+3)=e)) (he:(e != 39)=true) (E:Nat) (n:Int) (w:World) :
    Calls Tryz.prog 44 #[.string s,.int .i64 (i:Int)] w (RChar s i false E n w):=by
 have n0:(i:Int)+1 < (s.size:Int):=by have:=Lx.pk_in (s:=s) (i:=i+1) (by rw [HC.out]; decide); omega
 have hm:(i:Int)+2≤(s.size:Int):=by omega
 have hp:110=(Lx.pk s (i+2)):=HD.out.symm;have h2:i+2 < s.size:=Lx.pk_in (by rw [HD.out]; decide);have h5:(i:Int)+2 < (s.size:Int):=by omega
 rw [Lx.pk_lt h2] at hp;have hp':(s[i+2].toNat:Int)=110:=hp.symm;clear hp;go_enter Tryz.func44,Tryz.ntmps44;go_wp2_with fail;refine (rat_as s (i+1) _ 92 (by omega) hs HC _).mono ?_;rintro e w1 ⟨rfl,rfl⟩;go_wp2_with fail;refine (rat_as s (i+2) _ 110 (by omega) hs HD _).mono ?_;rintro e w1 ⟨rfl,rfl⟩;go_wp2_with fail;refine (rat_as s (i+3) _ e (by omega) hs HE _).mono ?_;rintro e w1 ⟨rfl,rfl⟩;go_wp2_with fail;refine bodyPost_ret (v:=.tuple #[.agg #[.int .i64 4,.int .i64 (i:Int),.string ⟨#[]⟩,.string ⟨#[]⟩,.int .u64 10,.bool false],.bool false]) (by simp [results,Tryz.results44,go_sem]; done) rfl ⟨_,_,rfl,(fun h=>by cases h),?_⟩
 repeat (first | with_reducible exact gn_refl _ | with_reducible refine gn_alloc ?_ _)
theorem rchar_48_yes (s:ByteArray) (i:Nat) (hi:i < s.size) (hs:s.size≤4611686018427387904) (HC:Hid (Lx.pk s (i+1)=92)) (HD:Hid (Lx.pk s (i+2)=48)) (HE:Hid (Lx.pk s (i+3)=39)) (w:World) :
    Calls Tryz.prog 44 #[.string s,.int .i64 (i:Int)] w (RChar s i true (i+4) 0 w):=by
 have n0:(i:Int)+1 < (s.size:Int):=by have:=Lx.pk_in (s:=s) (i:=i+1) (by rw [HC.out]; decide); omega
 have hm:(i:Int)+2≤(s.size:Int):=by omega
 have hp:48=(Lx.pk s (i+2)):=HD.out.symm;have h2:i+2 < s.size:=Lx.pk_in (by rw [HD.out]; decide);have h3:i+3 < s.size:=Lx.pk_in (by rw [HE.out]; decide);have h4:(i:Int)+4≤(s.size:Int):=by omega
 have h5:(i:Int)+2 < (s.size:Int):=by omega
 rw [Lx.pk_lt h2] at hp;have hp':(s[i+2].toNat:Int)=48:=hp.symm;clear hp;go_enter Tryz.func44,Tryz.ntmps44;go_wp2_with fail;refine (rat_as s (i+1) _ 92 (by omega) hs HC _).mono ?_;rintro e w1 ⟨rfl,rfl⟩;go_wp2_with fail;refine (rat_as s (i+2) _ 48 (by omega) hs HD _).mono ?_;rintro e w1 ⟨rfl,rfl⟩;go_wp2_with fail;refine (rat_as s (i+3) _ 39 (by omega) hs HE _).mono ?_;rintro e w1 ⟨rfl,rfl⟩;go_wp2_with fail;refine bodyPost_ret (v:=.tuple #[.agg #[.int .i64 4,.int .i64 (i:Int),.string (s.extract i (i+4)),.string ⟨#[]⟩,.int .u64 0,.bool false],.bool true]) (by simp [results,Tryz.results44,go_sem]; done) rfl ⟨_,_,rfl,(fun _=>⟨rfl,rfl⟩),?_⟩
 repeat (first | with_reducible exact gn_refl _ | with_reducible refine gn_alloc ?_ _)
theorem rchar_48_no (s:ByteArray) (i:Nat) (hi:i < s.size) (hs:s.size≤4611686018427387904) (HC:Hid (Lx.pk s (i+1)=92)) (HD:Hid (Lx.pk s (i+2)=48)) (e:Int) (HE:Hid (Lx.pk s (i+3)=e)) (he:(e != 39)=true) (E:Nat) (n:Int) (w:World) :
    Calls Tryz.prog 44 #[.string s,.int .i64 (i:Int)] w (RChar s i false E n w):=by
 have n0:(i:Int)+1 < (s.size:Int):=by have:=Lx.pk_in (s:=s) (i:=i+1) (by rw [HC.out]; decide); omega
 have hm:(i:Int)+2≤(s.size:Int):=by omega
 have hp:48=(Lx.pk s (i+2)):=HD.out.symm;have h2:i+2 < s.size:=Lx.pk_in (by rw [HD.out]; decide);have h5:(i:Int)+2 < (s.size:Int):=by omega
 rw [Lx.pk_lt h2] at hp;have hp':(s[i+2].toNat:Int)=48:=hp.symm;clear hp;go_enter Tryz.func44,Tryz.ntmps44;go_wp2_with fail;refine (rat_as s (i+1) _ 92 (by omega) hs HC _).mono ?_;rintro e w1 ⟨rfl,rfl⟩;go_wp2_with fail;refine (rat_as s (i+2) _ 48 (by omega) hs HD _).mono ?_;rintro e w1 ⟨rfl,rfl⟩;go_wp2_with fail;refine (rat_as s (i+3) _ e (by omega) hs HE _).mono ?_;rintro e w1 ⟨rfl,rfl⟩;go_wp2_with fail;refine bodyPost_ret (v:=.tuple #[.agg #[.int .i64 4,.int .i64 (i:Int),.string ⟨#[]⟩,.string ⟨#[]⟩,.int .u64 0,.bool false],.bool false]) (by simp [results,Tryz.results44,go_sem]; done) rfl ⟨_,_,rfl,(fun h=>by cases h),?_⟩
 repeat (first | with_reducible exact gn_refl _ | with_reducible refine gn_alloc ?_ _)
theorem rchar_92_yes (s:ByteArray) (i:Nat) (hi:i < s.size) (hs:s.size≤4611686018427387904) (HC:Hid (Lx.pk s (i+1)=92)) (HD:Hid (Lx.pk s (i+2)=92)) (HE:Hid (Lx.pk s (i+3)=39)) (w:World) :
    Calls Tryz.prog 44 #[.string s,.int .i64 (i:Int)] w (RChar s i true (i+4) 92 w):=by
 have n0:(i:Int)+1 < (s.size:Int):=by have:=Lx.pk_in (s:=s) (i:=i+1) (by rw [HC.out]; decide); omega
 have hm:(i:Int)+2≤(s.size:Int):=by omega
 have hp:92=(Lx.pk s (i+2)):=HD.out.symm;have h2:i+2 < s.size:=Lx.pk_in (by rw [HD.out]; decide);have h3:i+3 < s.size:=Lx.pk_in (by rw [HE.out]; decide);have h4:(i:Int)+4≤(s.size:Int):=by omega
 have h5:(i:Int)+2 < (s.size:Int):=by omega
 rw [Lx.pk_lt h2] at hp;have hp':(s[i+2].toNat:Int)=92:=hp.symm;clear hp;go_enter Tryz.func44,Tryz.ntmps44;go_wp2_with fail;refine (rat_as s (i+1) _ 92 (by omega) hs HC _).mono ?_;rintro e w1 ⟨rfl,rfl⟩;go_wp2_with fail;refine (rat_as s (i+2) _ 92 (by omega) hs HD _).mono ?_;rintro e w1 ⟨rfl,rfl⟩;go_wp2_with fail;refine (rat_as s (i+3) _ 39 (by omega) hs HE _).mono ?_;rintro e w1 ⟨rfl,rfl⟩;go_wp2_with fail;refine bodyPost_ret (v:=.tuple #[.agg #[.int .i64 4,.int .i64 (i:Int),.string (s.extract i (i+4)),.string ⟨#[]⟩,.int .u64 92,.bool false],.bool true]) (by simp [results,Tryz.results44,go_sem]; done) rfl ⟨_,_,rfl,(fun _=>⟨rfl,rfl⟩),?_⟩
 repeat (first | with_reducible exact gn_refl _ | with_reducible refine gn_alloc ?_ _)
theorem rchar_92_no (s:ByteArray) (i:Nat) (hi:i < s.size) (hs:s.size≤4611686018427387904) (HC:Hid (Lx.pk s (i+1)=92)) (HD:Hid (Lx.pk s (i+2)=92)) (e:Int) (HE:Hid (Lx.pk s (i+3)=e)) (he:(e != 39)=true) (E:Nat) (n:Int) (w:World) :
    Calls Tryz.prog 44 #[.string s,.int .i64 (i:Int)] w (RChar s i false E n w):=by
 have n0:(i:Int)+1 < (s.size:Int):=by have:=Lx.pk_in (s:=s) (i:=i+1) (by rw [HC.out]; decide); omega
 have hm:(i:Int)+2≤(s.size:Int):=by omega
 have hp:92=(Lx.pk s (i+2)):=HD.out.symm;have h2:i+2 < s.size:=Lx.pk_in (by rw [HD.out]; decide);have h5:(i:Int)+2 < (s.size:Int):=by omega
 rw [Lx.pk_lt h2] at hp;have hp':(s[i+2].toNat:Int)=92:=hp.symm;clear hp;go_enter Tryz.func44,Tryz.ntmps44;go_wp2_with fail;refine (rat_as s (i+1) _ 92 (by omega) hs HC _).mono ?_;rintro e w1 ⟨rfl,rfl⟩;go_wp2_with fail;refine (rat_as s (i+2) _ 92 (by omega) hs HD _).mono ?_;rintro e w1 ⟨rfl,rfl⟩;go_wp2_with fail;refine (rat_as s (i+3) _ e (by omega) hs HE _).mono ?_;rintro e w1 ⟨rfl,rfl⟩;go_wp2_with fail;refine bodyPost_ret (v:=.tuple #[.agg #[.int .i64 4,.int .i64 (i:Int),.string ⟨#[]⟩,.string ⟨#[]⟩,.int .u64 92,.bool false],.bool false]) (by simp [results,Tryz.results44,go_sem]; done) rfl ⟨_,_,rfl,(fun h=>by cases h),?_⟩
 repeat (first | with_reducible exact gn_refl _ | with_reducible refine gn_alloc ?_ _)
theorem rchar_39_yes (s:ByteArray) (i:Nat) (hi:i < s.size) (hs:s.size≤4611686018427387904) (HC:Hid (Lx.pk s (i+1)=92)) (HD:Hid (Lx.pk s (i+2)=39)) (HE:Hid (Lx.pk s (i+3)=39)) (w:World) :
    Calls Tryz.prog 44 #[.string s,.int .i64 (i:Int)] w (RChar s i true (i+4) 39 w):=by
 have n0:(i:Int)+1 < (s.size:Int):=by have:=Lx.pk_in (s:=s) (i:=i+1) (by rw [HC.out]; decide); omega
 have hm:(i:Int)+2≤(s.size:Int):=by omega
 have hp:39=(Lx.pk s (i+2)):=HD.out.symm;have h2:i+2 < s.size:=Lx.pk_in (by rw [HD.out]; decide);have h3:i+3 < s.size:=Lx.pk_in (by rw [HE.out]; decide);have h4:(i:Int)+4≤(s.size:Int):=by omega
 have h5:(i:Int)+2 < (s.size:Int):=by omega
 rw [Lx.pk_lt h2] at hp;have hp':(s[i+2].toNat:Int)=39:=hp.symm;clear hp;go_enter Tryz.func44,Tryz.ntmps44;go_wp2_with fail;refine (rat_as s (i+1) _ 92 (by omega) hs HC _).mono ?_;rintro e w1 ⟨rfl,rfl⟩;go_wp2_with fail;refine (rat_as s (i+2) _ 39 (by omega) hs HD _).mono ?_;rintro e w1 ⟨rfl,rfl⟩;go_wp2_with fail;refine (rat_as s (i+3) _ 39 (by omega) hs HE _).mono ?_;rintro e w1 ⟨rfl,rfl⟩;go_wp2_with fail;refine bodyPost_ret (v:=.tuple #[.agg #[.int .i64 4,.int .i64 (i:Int),.string (s.extract i (i+4)),.string ⟨#[]⟩,.int .u64 39,.bool false],.bool true]) (by simp [results,Tryz.results44,go_sem]; done) rfl ⟨_,_,rfl,(fun _=>⟨rfl,rfl⟩),?_⟩
 repeat (first | with_reducible exact gn_refl _ | with_reducible refine gn_alloc ?_ _)
theorem rchar_39_no (s:ByteArray) (i:Nat) (hi:i < s.size) (hs:s.size≤4611686018427387904) (HC:Hid (Lx.pk s (i+1)=92)) (HD:Hid (Lx.pk s (i+2)=39)) (e:Int) (HE:Hid (Lx.pk s (i+3)=e)) (he:(e != 39)=true) (E:Nat) (n:Int) (w:World) :
    Calls Tryz.prog 44 #[.string s,.int .i64 (i:Int)] w (RChar s i false E n w):=by
 have n0:(i:Int)+1 < (s.size:Int):=by have:=Lx.pk_in (s:=s) (i:=i+1) (by rw [HC.out]; decide); omega
 have hm:(i:Int)+2≤(s.size:Int):=by omega
 have hp:39=(Lx.pk s (i+2)):=HD.out.symm;have h2:i+2 < s.size:=Lx.pk_in (by rw [HD.out]; decide);have h5:(i:Int)+2 < (s.size:Int):=by omega
 rw [Lx.pk_lt h2] at hp;have hp':(s[i+2].toNat:Int)=39:=hp.symm;clear hp;go_enter Tryz.func44,Tryz.ntmps44;go_wp2_with fail;refine (rat_as s (i+1) _ 92 (by omega) hs HC _).mono ?_;rintro e w1 ⟨rfl,rfl⟩;go_wp2_with fail;refine (rat_as s (i+2) _ 39 (by omega) hs HD _).mono ?_;rintro e w1 ⟨rfl,rfl⟩;go_wp2_with fail;refine (rat_as s (i+3) _ e (by omega) hs HE _).mono ?_;rintro e w1 ⟨rfl,rfl⟩;go_wp2_with fail;refine bodyPost_ret (v:=.tuple #[.agg #[.int .i64 4,.int .i64 (i:Int),.string ⟨#[]⟩,.string ⟨#[]⟩,.int .u64 39,.bool false],.bool false]) (by simp [results,Tryz.results44,go_sem]; done) rfl ⟨_,_,rfl,(fun h=>by cases h),?_⟩
 repeat (first | with_reducible exact gn_refl _ | with_reducible refine gn_alloc ?_ _)
theorem rchar_else (s:ByteArray) (i:Nat) (hi:i < s.size) (hs:s.size≤4611686018427387904) (HC:Hid (Lx.pk s (i+1)=92)) (d:Int) (HD:Hid (Lx.pk s (i+2)=d)) (h1:(d==110)=false) (h2:(d==48)=false) (h3:(d==92)=false) (h4:(d==39)=false) (E:Nat) (n:Int) (w:World) :
    Calls Tryz.prog 44 #[.string s,.int .i64 (i:Int)] w (RChar s i false E n w):=by
 have n0:(i:Int)+1 < (s.size:Int):=by have:=Lx.pk_in (s:=s) (i:=i+1) (by rw [HC.out]; decide); omega
 have hm:(i:Int)+2≤(s.size:Int):=by omega
 go_enter Tryz.func44,Tryz.ntmps44;go_wp2_with fail;refine (rat_as s (i+1) _ 92 (by omega) hs HC _).mono ?_;rintro e w1 ⟨rfl,rfl⟩;go_wp2_with fail;refine (rat_as s (i+2) _ d (by omega) hs HD _).mono ?_;rintro e w1 ⟨rfl,rfl⟩;go_wp2_with fail;refine bodyPost_ret (v:=.tuple #[.agg #[.int .i64 4,.int .i64 (i:Int),.string ⟨#[]⟩,.string ⟨#[]⟩,.int .u64 0,.bool false],.bool false]) (by simp [results,Tryz.results44,go_sem]; done) rfl ⟨_,_,rfl,(fun h=>by cases h),?_⟩
 repeat (first | with_reducible exact gn_refl _ | with_reducible refine gn_alloc ?_ _)
theorem rchar_any (s:ByteArray) (i:Nat) (hi:i < s.size) (hs:s.size≤4611686018427387904) (w:World) :
    Calls Tryz.prog 44 #[.string s,.int .i64 (i:Int)] w (RChar s i (decide ((Lx.chM s i).1=0)) (i+(Lx.chM s i).2.1) (Lx.chM s i).2.2 w):=by
 obtain ⟨c,hc⟩:∃ c,Lx.pk s (i+1)=c:=⟨_,rfl⟩;obtain ⟨d,hd⟩:∃ d,Lx.pk s (i+2)=d:=⟨_,rfl⟩;obtain ⟨e,he⟩:∃ e,Lx.pk s (i+3)=e:=⟨_,rfl⟩;unfold Lx.chM;rw [hc,hd,he];by_cases h92:c=92
 · rw [if_pos h92];subst h92;by_cases h1:d=110
   · subst h1;rw [if_pos (.inl rfl)];by_cases h39:e=39
     · subst h39; exact rchar_110_yes s i hi hs (zz hc) (zz hd) (zz he) w
     · rw [if_neg h39]; exact rchar_110_no s i hi hs (zz hc) (zz hd) e (zz he) (bne_iff_ne.2 h39) _ _ w
   · by_cases h2:d=48
     · subst h2;rw [if_pos (.inr (.inl rfl))];by_cases h39:e=39
       · subst h39; exact rchar_48_yes s i hi hs (zz hc) (zz hd) (zz he) w
       · rw [if_neg h39]; exact rchar_48_no s i hi hs (zz hc) (zz hd) e (zz he) (bne_iff_ne.2 h39) _ _ w
     · by_cases h3:d=92
       · subst h3;rw [if_pos (.inr (.inr (.inl rfl)))];by_cases h39:e=39
         · subst h39; exact rchar_92_yes s i hi hs (zz hc) (zz hd) (zz he) w
         · rw [if_neg h39]; exact rchar_92_no s i hi hs (zz hc) (zz hd) e (zz he) (bne_iff_ne.2 h39) _ _ w
       · by_cases h4:d=39
         · subst h4;rw [if_pos (.inr (.inr (.inr rfl)))];by_cases h39:e=39
           · subst h39; exact rchar_39_yes s i hi hs (zz hc) (zz hd) (zz he) w
           · rw [if_neg h39]; exact rchar_39_no s i hi hs (zz hc) (zz hd) e (zz he) (bne_iff_ne.2 h39) _ _ w
         · rw [if_neg (by omega)];exact rchar_else s i hi hs (zz hc) d (zz hd) (beq_eq_false_iff_ne.2 h1) (beq_eq_false_iff_ne.2 h2) (beq_eq_false_iff_ne.2 h3) (beq_eq_false_iff_ne.2 h4) _ _ w
 · rw [if_neg h92];by_cases hb:c < 32∨126 < c∨c=39
   · rw [if_pos hb]; exact rchar_bad s i hi hs c (zz hc) hb _ _ w
   · rw [if_neg hb];have:=rchar_plain s i hi hs c d (zz hc) (zz hd) hb h92 w;by_cases h39:d=39
     · rw [if_pos h39]; rw [decide_eq_true h39] at this; exact this
     · rw [if_neg h39]; rw [decide_eq_false h39] at this;exact this.mono fun e w' ⟨T,m,h1,_,h3⟩=>⟨T,m,h1,(fun h=>by cases h),h3⟩
end Go.Proofs.YtflbkdfbjofllaaGreatDoor.L
namespace Go.Proofs.YtflbkdfbjofllaaGreatDoor.L
open Go.RowKit
theorem rgap_as (s:ByteArray) (i:Nat) (hi:i≤s.size) (hs:s.size≤4611686018427387904) (G:Nat) (B:Bool) (HG:Hid (Lx.gap s s.size i=(G,B))) (w:World) :
    Calls Tryz.prog 26 #[.string s,.int .i64 (i:Int)] w fun e w'=>e=.returned (.tuple #[.int .i64 (G:Int),.bool B])∧w=w':=by
 go_enter Tryz.func26,Tryz.ntmps26;go_wp2_with fail;go_loopg [1] (s.size - i) (fun g v wr=>∃ k f:Nat,v=.int .i64 (k:Int)∧k≤s.size∧g=s.size - k∧g≤f∧Hid ((G,B)=Lx.gap s f k)∧w=wr)
 case atStart=>exact ⟨i,s.size,rfl,hi,rfl,by omega,zz HG.out.symm,rfl⟩
 case round =>
  obtain ⟨k,f,rfl,hk,hg,hf,HE,rfl⟩:=hrel;clear HG;by_cases hlt:k < s.size
  · have hlt':(k:Int) < (s.size:Int):=by omega
    obtain ⟨f,rfl⟩:∃ f',f=f'+1:=⟨f - 1,by omega⟩;have hp:=Lx.pk_lt hlt;obtain ⟨d,hd⟩:∃ d,Lx.pk s (k+1)=d:=⟨_,rfl⟩;have HP:=zz hp;have HD:=zz hd;clear hp hd;by_cases hb:(s[k].toNat:Int)=32∨(s[k].toNat:Int)=9∨(s[k].toNat:Int)=10∨(s[k].toNat:Int)=13
    · have HE2:Hid ((G,B)=Lx.gap s f (k+1)):=by rw [HE.out]; exact zz (Lx.gap_blank hlt (by rw [HP.out,Lx.blankB_iff]; exact hb))
      clear HE;rcases hb with hb | hb | hb | hb
      · have q1:((s[k].toNat:Int)==32)=true:=by rw [hb]; rfl
        have q2:(s[k].toNat:Int)=32:=hb;clear hb;go_wp2_with fail
        all_goals go_roundg (gk - 1)
        all_goals first
         | exact ⟨k+1,f,by go_num,by omega,by omega,by omega,HE2,rfl⟩
         | omega
      · have q1:((s[k].toNat:Int)==9)=true:=by rw [hb]; rfl
        have q2:(s[k].toNat:Int)=9:=hb;clear hb;go_wp2_with fail
        all_goals go_roundg (gk - 1)
        all_goals first
         | exact ⟨k+1,f,by go_num,by omega,by omega,by omega,HE2,rfl⟩
         | omega
      · have q1:((s[k].toNat:Int)==10)=true:=by rw [hb]; rfl
        have q2:(s[k].toNat:Int)=10:=hb;clear hb;go_wp2_with fail
        all_goals go_roundg (gk - 1)
        all_goals first
         | exact ⟨k+1,f,by go_num,by omega,by omega,by omega,HE2,rfl⟩
         | omega
      · have q1:((s[k].toNat:Int)==13)=true:=by rw [hb]; rfl
        have q2:(s[k].toNat:Int)=13:=hb;clear hb;go_wp2_with fail
        all_goals go_roundg (gk - 1)
        all_goals first
         | exact ⟨k+1,f,by go_num,by omega,by omega,by omega,HE2,rfl⟩
         | omega
    · have n1:((s[k].toNat:Int)==32)=false:=by simpa using fun h=>hb (.inl h)
      have n2:((s[k].toNat:Int)==9)=false:=by simpa using fun h=>hb (.inr (.inl h))
      have n3:((s[k].toNat:Int)==10)=false:=by simpa using fun h=>hb (.inr (.inr (.inl h)))
      have n4:((s[k].toNat:Int)==13)=false:=by simpa using fun h=>hb (.inr (.inr (.inr h)))
      have hbB:Hid (Lx.blankB (Lx.pk s k)=false):=zz (by rw [HP.out]; cases h:Lx.blankB (s[k].toNat:Int); rfl; exact absurd ((Lx.blankB_iff _).1 h) hb);clear hb;by_cases h47:(s[k].toNat:Int)=47
      · have m1:((s[k].toNat:Int)==47)=true:=by rw [h47]; rfl
        have H47:Hid (Lx.pk s k=47):=zz (HP.out.trans h47);clear h47;by_cases hd47:d=47
        · subst hd47;have HE2:Hid ((G,B)=Lx.gap s f (Lx.lineEnd s k)):=by rw [HE.out]; exact zz (Lx.gap_line hlt H47.out HD.out)
          have hl1:=Lx.lineEnd_gt hlt H47.out;have hl2:=Lx.lineEnd_le hk;clear HE;go_wp2_with fail;refine (rat_as s (k+1) _ 47 (by omega) hs HD _).mono ?_;rintro e w1 ⟨rfl,rfl⟩;clear n1 n2 n3 n4 m1;go_wp2_with fail;go_loopg [1] (s.size - k) (fun g v wr=>∃ q h:Nat,v=.int .i64 (q:Int)∧k≤q∧q≤s.size∧g=s.size - q∧g≤h∧Hid (Lx.lineEnd s k=Lx.scan (Lx.lineP s) h q)∧w=wr)
          case atStart=>exact ⟨k,s.size,rfl,by omega,hk,rfl,by omega,zz rfl,rfl⟩
          case round =>
           rename_i gk2 _ _ _ _
           obtain ⟨q,h,rfl,hkq,hqs,hg2,hh,HL,rfl⟩:=hrel;by_cases hql:q < s.size
           · have hql':(q:Int) < (s.size:Int):=by omega
             have hp2:=Lx.pk_lt hql;obtain ⟨h,rfl⟩:∃ h',h=h'+1:=⟨h - 1,by omega⟩;by_cases h10:(s[q].toNat:Int)=10
             · have r1:((s[q].toNat:Int) != 10)=false:=by rw [h10]; rfl
               have HL2:Hid (Lx.lineEnd s k=q):=by rw [HL.out]; exact zz (Lx.scan_no (by unfold Lx.lineP; rw [hp2,h10]; simp))
               clear HL hp2 h10;rw [HL2.out] at hl1 hl2 HE2;go_wp2_with fail;go_roundg (s.size - q)
               case rel=>exact ⟨q,f,rfl,by omega,rfl,by omega,HE2,rfl⟩
               case measure=>omega
             · by_cases h13:(s[q].toNat:Int)=13
               · have r1:((s[q].toNat:Int) != 10)=true:=by simpa using h10
                 have r2:((s[q].toNat:Int) != 13)=false:=by rw [h13]; rfl
                 have HL2:Hid (Lx.lineEnd s k=q):=by rw [HL.out]; exact zz (Lx.scan_no (by unfold Lx.lineP; rw [hp2,h13]; simp))
                 clear HL hp2 h10 h13;rw [HL2.out] at hl1 hl2 HE2;go_wp2_with fail;go_roundg (s.size - q)
                 case rel=>exact ⟨q,f,rfl,by omega,rfl,by omega,HE2,rfl⟩
                 case measure=>omega
               · have r1:((s[q].toNat:Int) != 10)=true:=by simpa using h10
                 have r2:((s[q].toNat:Int) != 13)=true:=by simpa using h13
                 have HL2:Hid (Lx.lineEnd s k=Lx.scan (Lx.lineP s) h (q+1)):=by
                  rw [HL.out]; exact zz (Lx.scan_yes (by unfold Lx.lineP; rw [hp2,decide_eq_true hql]; simp [h10,h13]))
                 clear HL hp2 h10 h13;go_wp2_with fail;go_roundg (s.size - (q+1))
                 case rel=>exact ⟨q+1,h,by go_num,by omega,by omega,rfl,by omega,HL2,rfl⟩
                 case measure=>omega
           · have hql':¬ (q:Int) < (s.size:Int):=by omega
             have HL2:Hid (Lx.lineEnd s k=q):=by rw [HL.out]; exact zz (Lx.scan_no (Lx.lineP_ge s q (by omega)))
             clear HL;rw [HL2.out] at hl1 hl2 HE2;go_wp2_with fail;go_roundg (s.size - q)
             case rel=>exact ⟨q,f,rfl,by omega,rfl,by omega,HE2,rfl⟩
             case measure=>omega
        · have r1:(d==47)=false:=by simpa using hd47
          by_cases hd42:d=42
          · subst hd42;clear r1 hd47;have hk2:k+2≤s.size:=by
             have:=Lx.pk_in (s:=s) (i:=k+1) (by rw [HD.out]; decide);omega
            have hk2':(k:Int)+2≤(s.size:Int):=by omega
            have HE1:=zz (HE.out.trans (Lx.gap_block hlt H47.out HD.out));clear HE;go_wp2_with fail;refine (rat_as s (k+1) _ 42 (by omega) hs HD _).mono ?_;rintro e w1 ⟨rfl,rfl⟩;go_wp2_with fail;refine (rat_as s (k+1) _ 42 (by omega) hs HD _).mono ?_;rintro e w1 ⟨rfl,rfl⟩;clear n1 n2 n3 n4 m1;go_wp2_with fail;go_loopg [6] (s.size - (k+2)) (fun g v wr=>∃ q h:Nat,v=.int .i64 (q:Int)∧k+2≤q∧q≤s.size∧g=s.size - q∧g≤h∧Hid (Lx.blockEnd s (k+2)=Lx.scan (Lx.blockP s) h q)∧w=wr)
            case atStart=>exact ⟨k+2,s.size,by go_num,by omega,hk2,rfl,by omega,zz rfl,rfl⟩
            case round =>
             obtain ⟨q,h,rfl,hkq,hqs,hg2,hh,HL,rfl⟩:=hrel;by_cases hql:q+1 < s.size
             · have hql':(q:Int)+1 < (s.size:Int):=by omega
               have hq0:q < s.size:=by omega
               have hq0':(q:Int) < (s.size:Int):=by omega
               have w3:((q:Int)+1).toNat=q+1:=by omega
               have hp2:=Lx.pk_lt hq0;have hp3:=Lx.pk_lt hql;by_cases hm:(s[q].toNat:Int)=42∧(s[q+1].toNat:Int)=47
               · have HL2:Hid (Lx.blockEnd s (k+2)=q):=by rw [HL.out]; exact zz (Lx.scan_no (by unfold Lx.blockP; rw [hp2,hp3,hm.1,hm.2]; simp))
                 have r1:((s[q].toNat:Int) != 42)=false:=by rw [hm.1]; rfl
                 have r2:((s[q+1].toNat:Int) != 47)=false:=by rw [hm.2]; rfl
                 have HE2:Hid ((G,B)=Lx.gap s f (q+2)):=by rw [HE1.out,HL2.out,if_pos hql]; exact zz rfl
                 have hge:¬ (s.size:Int)≤(q:Int)+1:=by omega
                 clear HL hp2 hp3 hm HE1;go_wp2_with fail;go_roundg (s.size - (q+2))
                 case rel=>exact ⟨q+2,f,by go_num,by omega,rfl,by omega,HE2,rfl⟩
                 case measure=>omega
               · obtain ⟨h,rfl⟩:∃ h',h=h'+1:=⟨h - 1,by omega⟩;have HL2:Hid (Lx.blockEnd s (k+2)=Lx.scan (Lx.blockP s) h (q+1)):=by
                  rw [HL.out]; exact zz (Lx.scan_yes (by unfold Lx.blockP; rw [hp2,hp3,decide_eq_true hql]; simpa using Decidable.not_and_iff_or_not.1 hm))
                 by_cases h42:(s[q].toNat:Int)=42
                 · have r1:((s[q].toNat:Int) != 42)=false:=by rw [h42]; rfl
                   have r2:((s[q+1].toNat:Int) != 47)=true:=by simpa using fun h=>hm ⟨h42,h⟩
                   clear HL hp2 hp3 hm h42;go_wp2_with fail;go_roundg (s.size - (q+1))
                   case rel=>exact ⟨q+1,h,by go_num,by omega,by omega,rfl,by omega,HL2,rfl⟩
                   case measure=>omega
                 · have r1:((s[q].toNat:Int) != 42)=true:=by simpa using h42
                   clear HL hp2 hp3 hm h42;go_wp2_with fail;go_roundg (s.size - (q+1))
                   case rel=>exact ⟨q+1,h,by go_num,by omega,by omega,rfl,by omega,HL2,rfl⟩
                   case measure=>omega
             · have hql':¬ (q:Int)+1 < (s.size:Int):=by omega
               have HL2:Hid (Lx.blockEnd s (k+2)=q):=by rw [HL.out]; exact zz (Lx.scan_no (Lx.blockP_ge s q (by omega)))
               have HE2:Hid ((G,B)=(k,false)):=by rw [HE1.out,HL2.out,if_neg hql]; exact zz rfl
               have hge:(s.size:Int)≤(q:Int)+1:=by omega
               clear HL HE1;go_wp2_with fail;go_returns;have:=HE2.out;simp only [Prod.mk.injEq] at this;obtain ⟨rfl,rfl⟩:=this;exact ⟨rfl,rfl⟩
          · have r2:(d==42)=false:=by simpa using hd42
            have HE2:Hid ((G,B)=(k,true)):=by
             rw [HE.out]; exact zz (Lx.gap_stop hbB.out (by rw [HD.out]; exact fun h=>hd47 h.2) (by rw [HD.out]; exact fun h=>hd42 h.2))
            clear HE;go_wp2_with fail;refine (rat_as s (k+1) _ d (by omega) hs HD _).mono ?_;rintro e w1 ⟨rfl,rfl⟩;go_wp2_with fail;refine (rat_as s (k+1) _ d (by omega) hs HD _).mono ?_;rintro e w1 ⟨rfl,rfl⟩;go_wp2_with fail;go_returns;have:=HE2.out;simp only [Prod.mk.injEq] at this;obtain ⟨rfl,rfl⟩:=this;exact ⟨rfl,rfl⟩
      · have q5:((s[k].toNat:Int)==47)=false:=by simpa using h47
        have HE2:Hid ((G,B)=(k,true)):=by
         rw [HE.out]; exact zz (Lx.gap_stop hbB.out (by rw [HP.out]; exact fun h=>h47 h.1) (by rw [HP.out]; exact fun h=>h47 h.1))
        clear HE;go_wp2_with fail;go_returns;have:=HE2.out;simp only [Prod.mk.injEq] at this;obtain ⟨rfl,rfl⟩:=this;exact ⟨rfl,rfl⟩
  · have hlt':¬ (k:Int) < (s.size:Int):=by omega
    have HE2:Hid ((G,B)=(k,true)):=by rw [HE.out]; exact zz (Lx.gap_end hlt)
    clear HE;go_wp2_with fail;go_returns;have:=HE2.out;simp only [Prod.mk.injEq] at this;obtain ⟨rfl,rfl⟩:=this;exact ⟨rfl,rfl⟩
end Go.Proofs.YtflbkdfbjofllaaGreatDoor.L
namespace Go.Proofs.YtflbkdfbjofllaaGreatDoor.L
open Go.RowKit
theorem one6 (a b:Int) (T S:ByteArray) (n:Int) (h:Bool):(#[Value.int .i64 a,.int .i64 b,.string T,.string S,.int .u64 n,.bool h]:Array Value).all (fun x=>x.oneCell')=true:=by simp [Value.oneCell']
theorem infoS:(Tryz.prog.info? 45).map (·.size)=some 6:=by kernel_rfl
theorem gn_row {a w:World} (h:a.grownBy w none) {g:Nat} (hg:a.heap.size≤g) (cs:Array Value):a.grownBy (w.setRow g cs) none :=
 ⟨h.os,h.tape,h.output,by rw [setRow_size]; exact h.size,fun k hk hr=>(setRow_other _ _ _ _ (by omega)).trans (h.block k hk hr)⟩
theorem row_cell (w:World) (g:Nat) (cs:Array Value) {t:TypeId} {old:Array Value} (hg:w.heap[g]?=some (.cells old t (0,0))) (j:Nat):(w.setRow g cs).cell? ⟨g,j,none⟩=cs[j]?:=cell_setRow_same w g j old cs t (0,0) hg
structure NB (w:World) (i:Nat) (T S:ByteArray) (V:Int) (H:Bool) (x:World):Prop where
 g:w.grownBy x none
 a:TokAt w.heap.size x
 b:TokG (w.heap.size+1) 3 (i:Int) T S V H x
section
variable {w x:World} {i:Nat} {T S:ByteArray} {V:Int} {H:Bool}
theorem NB.start (w:World) (i:Nat) (H:Bool):NB w i ⟨#[]⟩ ⟨#[]⟩ 0 H ((w.alloc (.cells #[.int .i64 0,.int .i64 0,.string ⟨#[]⟩,.string ⟨#[]⟩,.int .u64 0,.bool false] 45)).alloc (.cells #[.int .i64 3,.int .i64 (i:Int),.string ⟨#[]⟩,.string ⟨#[]⟩,.int .u64 0,.bool H] 45)):=by
 refine ⟨gn_alloc (gn_alloc (gn_refl w) _) _,⟨?_⟩,⟨?_⟩⟩
 · exact (Below.heap_alloc _ _ _ (by simp)).trans (heap_alloc_new w _)
 · have:=heap_alloc_new (w.alloc (.cells #[.int .i64 0,.int .i64 0,.string ⟨#[]⟩,.string ⟨#[]⟩,.int .u64 0,.bool false] 45)) (.cells #[.int .i64 3,.int .i64 (i:Int),.string ⟨#[]⟩,.string ⟨#[]⟩,.int .u64 0,.bool H] 45);rw [heap_two] at this; exact this
theorem NB.lt (h:NB w i T S V H x):w.heap.size+1 < x.heap.size:=h.b.lt
theorem NB.drewN (h:NB w i T S V H x) (n:Nat):NB w i T S V H (x.drewN n):=⟨gn_drewN h.g n,⟨h.a.a⟩,⟨h.b.a⟩⟩
theorem NB.drew (h:NB w i T S V H x):NB w i T S V H x.drew:=⟨gn_drew h.g,⟨h.a.a⟩,⟨h.b.a⟩⟩
theorem NB.num (h:NB w i T S V H x) {m n:Int} (e:m=n):NB w i T S n H (x.setCell ⟨w.heap.size+1,4,none⟩ (.int .u64 m)):=by
 subst e;exact ⟨gn_set h.g (by omega) _ _,⟨(Below.heap_setCell _ _ _ _ (by show w.heap.size≠w.heap.size+1; omega)).trans h.a.a⟩,⟨by simp [World.setCell,Array.getElem?_modify,h.b.a]⟩⟩
theorem NB.sufd (h:NB w i T S V H x) (u:ByteArray):NB w i T u V H (x.setCell ⟨w.heap.size+1,3,none⟩ (.string u)) :=
 ⟨gn_set h.g (by omega) _ _,⟨(Below.heap_setCell _ _ _ _ (by show w.heap.size≠w.heap.size+1; omega)).trans h.a.a⟩,⟨by simp [World.setCell,Array.getElem?_modify,h.b.a]⟩⟩
theorem NB.texted (h:NB w i T S V H x) (u:ByteArray):NB w i u S V H (x.setCell ⟨w.heap.size+1,2,none⟩ (.string u)) :=
 ⟨gn_set h.g (by omega) _ _,⟨(Below.heap_setCell _ _ _ _ (by show w.heap.size≠w.heap.size+1; omega)).trans h.a.a⟩,⟨by simp [World.setCell,Array.getElem?_modify,h.b.a]⟩⟩
end
def RTok (s:ByteArray) (i:Nat) (R:Lx.NumR) (w:World) (e:Ending) (w':World):Prop :=
 ∃ (k a:Int) (T S:ByteArray) (n:Int) (h:Bool),e=.returned (.tuple #[.agg #[.int .i64 k,.int .i64 a,.string T,.string S,.int .u64 n,.bool h],.int .i64 R.code])∧(R.code=0→k=R.kind∧a=(i:Int)∧T=s.extract i R.j∧S=R.suf∧n=R.num∧h=R.hex)∧w.grownBy w' none
theorem fit16 {n V:Int} (hV:0≤V) (hv:V≤15):(1152921504606846976≤n) ↔ ¬ n≤(18446744073709551615 - V) / 16:=by omega
theorem valB10 {c:Int} (h:0≤Lx.valB 10 c):Lx.digB c=true:=by
 cases hD:Lx.digB c
 · unfold Lx.valB at h; rw [hD,if_neg (by decide),if_neg (by omega),if_neg (by omega)] at h; omega
 · rfl
theorem zero_next {s:ByteArray} {i:Nat} (hi:i < s.size) (h0:Lx.pk s i=48):Lx.digs s 10 s.size i 0 true=Lx.digs s 10 (s.size - 1) (i+1) 0 true:=by
 obtain ⟨m,hm⟩:∃ m,s.size=m+1:=⟨s.size - 1,by omega⟩;have hv:Lx.valB 10 48=0:=by decide
 rw [hm,Lx.digs_yes (by rw [h0,hv]; decide),h0,hv];simp
theorem zero_digM {s:ByteArray} {i:Nat} (h0:Lx.pk s i=48):Lx.digM s 10 i=(i+1,0,true):=by unfold Lx.digM; rw [if_pos ⟨rfl,h0⟩]
theorem zero_more {s:ByteArray} {i k:Nat} {n:Int} {b:Bool} (hi:i < s.size) (h0:Lx.pk s i=48) (h:Lx.digs s 10 s.size i 0 true=(k,n,b)) (hk:i+1 < k):Lx.tailM s 10 i false=Lx.bad 3 (i+1):=by
 rw [zero_next hi h0] at h;by_cases hv:0≤Lx.valB 10 (Lx.pk s (i+1))
 · have hD:=valB10 hv;have hd:=(Lx.digB_iff _).1 hD;have hs:Lx.sufLen s (i+1)=0:=by unfold Lx.sufLen; rw [if_neg (by omega),if_neg (by omega)]
   have hE:Lx.nEnd s 10 i=i+1:=by unfold Lx.nEnd; rw [zero_digM h0]; show i+1+Lx.sufLen s (i+1)=_; rw [hs]
   have hC:Lx.nCode s 10 i=3:=by unfold Lx.nCode; rw [hE,if_pos (by unfold Lx.inB; rw [hD,Bool.or_true])]
   unfold Lx.tailM; rw [hC,hE,if_neg (by decide)]
 · rw [Lx.digs_no hv] at h;have:=congrArg Prod.fst h;simp at this; omega
theorem zero_one {s:ByteArray} {i k:Nat} {n:Int} {b:Bool} (hi:i < s.size) (h0:Lx.pk s i=48) (h:Lx.digs s 10 s.size i 0 true=(k,n,b)) (hk:¬ i+1 < k):Lx.digM s 10 i=(k,n,b):=by
 rw [zero_next hi h0] at h;by_cases hv:0≤Lx.valB 10 (Lx.pk s (i+1))
 · have hlt:=Lx.valB_in hv;obtain ⟨m,hm⟩:∃ m,s.size - 1=m+1:=⟨s.size - 2,by omega⟩;rw [hm,Lx.digs_yes hv] at h;have hb:=Lx.digs_bd (s:=s) (b:=10) m (i+1+1) ((0 * 10+Lx.valB 10 (Lx.pk s (i+1))) % 18446744073709551616) (true&&decide (0≤(18446744073709551615 - Lx.valB 10 (Lx.pk s (i+1))) / 10)) (by omega) (by omega);rw [h] at hb;have:=hb.1;simp at this; omega
 · rw [Lx.digs_no hv] at h;rw [zero_digM h0]; exact h
end Go.Proofs.YtflbkdfbjofllaaGreatDoor.L
namespace Go.Proofs.YtflbkdfbjofllaaGreatDoor.L
open Go.RowKit
theorem rnumber_d (s:ByteArray) (i:Nat) (q0:i < s.size) (hs:s.size≤4611686018427387904) (h0:Lx.pk s i≠48) (w:World) :
    Calls Tryz.prog 43 #[.string s,.int .i64 (i:Int)] w (RTok s i (Lx.tailM s 10 i false) w):=by
 have q1:(i:Int) < (s.size:Int):=by omega
 have q9:((s[i].toNat:Int)==48)=false:=by rw [← Lx.pk_lt q0]; exact beq_eq_false_iff_ne.2 h0
 have H0:=zz h0;clear h0;have HN:=zz (NB.start w i false);go_enter Tryz.func43,Tryz.ntmps43;go_wp2_with fail;go_loopg [7,8] (s.size - i) (fun g v u wr=>∃ (k f:Nat) (n:Int) (b:Bool),v=.int .i64 (k:Int)∧u=.bool b∧i≤k∧k≤s.size∧g=s.size - k∧g≤f∧0≤n∧n≤18446744073709551615∧Hid (Lx.digs s 10 s.size i 0 true=Lx.digs s 10 f k n (!b))∧Hid (NB w i ⟨#[]⟩ ⟨#[]⟩ n false wr))
 case atStart=>exact ⟨i,s.size,0,false,rfl,rfl,by omega,by omega,rfl,by omega,by decide,by decide,zz rfl,HN⟩
 case round =>
  obtain ⟨k,f,n,b,rfl,rfl,hk0,hk,hg,hf,hn0,hn1,HE,H⟩:=hrel;clear HN;obtain ⟨c,hc⟩:∃ c,Lx.pk s k=c:=⟨_,rfl⟩;have hcb:=Lx.pk_bd s k;obtain ⟨D,hD⟩:∃ D,Lx.digB c=D:=⟨_,rfl⟩;rw [hc] at hcb;have HDg:=zz hD;have HC:=zz hc;have HV:Hid (Lx.valB 10 c=if D=true then c - 48 else -1):=by
   refine zz ?_;unfold Lx.valB; rw [hD]; cases D
   · rw [if_neg (by decide),if_neg (by omega),if_neg (by omega)]; rfl
   · rfl
  clear hc;cases D
  · have HE1:Hid (Lx.digs s 10 s.size i 0 true=(k,n,!b)):=by rw [HE.out]; exact zz (Lx.digs_no (by rw [HC.out,HV.out,if_neg Bool.false_ne_true]; omega))
    clear HE hD;have HE2:Hid (Lx.digM s 10 i=(k,n,!b)):=by rw [← HE1.out]; exact zz (by unfold Lx.digM; rw [if_neg (fun h=>H0.out h.2)])
    go_wp2_with fail;refine (rat_as s k _ c rfl hs HC _).mono ?_;rintro e w1 ⟨rfl,rfl⟩;go_wp2_with fail;refine (rdigit_as c false hcb HDg _).mono ?_;rintro e w1 ⟨rfl,rfl⟩;go_wp2_with fail;obtain ⟨d,hd⟩:∃ d,Lx.pk s (k+1)=d:=⟨_,rfl⟩;have HD:=zz hd;clear hd;refine (rat_as s k _ c rfl hs HC _).mono ?_;rintro e w1 ⟨rfl,rfl⟩;go_upto_if 100 with fail
    obtain ⟨k1,hk1⟩:∃ k1,(if c=117 then k+1 else k)=k1:=⟨_,rfl⟩;go_cut [7] (fun v wx=>v=.int .i64 (k1:Int)∧wr=wx)
    case first =>
     by_cases h117:c=117
     · rw [if_pos h117] at hk1;subst hk1;have q9:(c==117)=true:=beq_iff_eq.2 h117;clear h117;go_wp2_with fail;go_meet;exact ⟨by go_num,rfl⟩
     · rw [if_neg h117] at hk1;subst hk1;have q9:(c==117)=false:=beq_eq_false_iff_ne.2 h117;clear h117;go_wp2_with fail;go_meet;exact ⟨rfl,rfl⟩
    case rest =>
     obtain ⟨rfl,rfl⟩:=hcut;obtain ⟨d1,hd1⟩:∃ d1,Lx.pk s k1=d1:=⟨_,rfl⟩;have HD1:=zz hd1;obtain ⟨E,hE⟩:∃ E,(if d1=108 then k1+1 else k1)=E:=⟨_,rfl⟩;have hk1b:k≤k1∧k1≤s.size:=by
      by_cases h117:c=117
      · rw [if_pos h117] at hk1;have:=Lx.pk_in (s:=s) (i:=k) (by rw [HC.out,h117]; decide);omega
      · rw [if_neg h117] at hk1; omega
     have hEb:k1≤E∧E≤s.size:=by
      by_cases h108:d1=108
      · rw [if_pos h108] at hE;have:=Lx.pk_in (s:=s) (i:=k1) (by rw [hd1,h108]; decide);omega
      · rw [if_neg h108] at hE; omega
     have HEE:Hid (E=k+Lx.sufLen s k):=by
      refine zz ?_;unfold Lx.sufLen;rw [HC.out];by_cases h117:c=117
      · rw [if_pos h117] at hk1;rw [if_pos h117,hk1,hd1,← hE];split <;> omega
      · rw [if_neg h117] at hk1;subst hk1;have:d1=c:=hd1.symm.trans HC.out;rw [if_neg h117,← hE,this];split <;> omega
     clear hd1 hk1;go_wp2_with fail;refine (rat_as s k1 _ d1 rfl hs HD1 _).mono ?_;rintro e w1 ⟨rfl,rfl⟩;go_upto_if 106 with fail
     go_cut [7] (fun v wx=>v=.int .i64 (E:Int)∧wr=wx)
     case first =>
      by_cases h108:d1=108
      · rw [if_pos h108] at hE;subst hE;have q9:(d1==108)=true:=beq_iff_eq.2 h108;clear h108;go_wp2_with fail;go_meet;exact ⟨by go_num,rfl⟩
      · rw [if_neg h108] at hE;subst hE;have q9:(d1==108)=false:=beq_eq_false_iff_ne.2 h108;clear h108;go_wp2_with fail;go_meet;exact ⟨rfl,rfl⟩
     case rest =>
      obtain ⟨rfl,rfl⟩:=hcut;obtain ⟨g0,g1,g2,g3,g4,g5,gf⟩:=H.out.b.cells;have b1:(k:Int)≤(E:Int):=by omega
      have b2:(i:Int)≤(E:Int):=by omega
      have b3:(E:Int)≤(s.size:Int):=by omega
      clear hE;go_upto_region 26 with fail
      go_cut [] (fun wx=>NB w i (s.extract i E) (s.extract k E) n false wx)
      case first =>
       go_region
       all_goals (go_wp2_with fail; go_meet)
       all_goals exact ((H.out.sufd _).texted _).drew
      case rest =>
       have N2:=zz hcut;clear hcut H g0 g1 g2 g3 g4 g5 gf;obtain ⟨c3,hc3⟩:∃ c,Lx.pk s E=c:=⟨_,rfl⟩;have hb3:=Lx.pk_bd s E;rw [hc3] at hb3;have HC3:=zz hc3;obtain ⟨D,hD⟩:∃ D,Lx.digB c3=D:=⟨_,rfl⟩;obtain ⟨L,hL⟩:∃ L,Lx.letB c3=L:=⟨_,rfl⟩;have HD3:=zz hD;have HL3:=zz hL;have HEn:Hid (Lx.nEnd s 10 (i)=E):=by
        refine zz ?_;unfold Lx.nEnd; rw [HE2.out]; exact HEE.out.symm
       have HCd:Hid (Lx.nCode s 10 (i)=if (L || D)=true then 3 else if (!b)=true then 0 else 6):=by
        refine zz ?_;unfold Lx.nCode Lx.inB;rw [HEn.out,hc3,hL,hD,HE2.out]
       have HSf:Hid (E=k+Lx.sufLen s k→s.extract k E=Lx.sufStr s k):=zz (fun h=>by rw [h]; exact sufStr_ext s k);clear hc3 hD hL;obtain ⟨t0,t1,t2,t3,t4,t5,tf⟩:=N2.out.a.cells;obtain ⟨g0,g1,g2,g3,g4,g5,gf⟩:=N2.out.b.cells;cases D
       · cases L
         · cases b
           · have HT:Hid (Lx.tailM s 10 (i) false=⟨0,E,3,Lx.sufStr s k,n,false⟩):=by
              refine zz ?_;unfold Lx.tailM; rw [HCd.out,HEn.out,HE2.out]; rfl
             go_wp2_with fail;refine (rat_as s E _ c3 rfl hs HC3 _).mono ?_;rintro e w1 ⟨rfl,rfl⟩;go_wp2_with fail;refine (rdigit_as c3 _ hb3 HD3 _).mono ?_;rintro e w1 ⟨rfl,rfl⟩;go_wp2_with fail;refine (rat_as s E _ c3 rfl hs HC3 _).mono ?_;rintro e w1 ⟨rfl,rfl⟩;go_wp2_with fail;refine (rletter_as c3 _ hb3 HL3 _).mono ?_;rintro e w1 ⟨rfl,rfl⟩;dsimp only
             repeat go_step
             refine bodyPost_ret (v:=.tuple #[.agg #[.int .i64 3,.int .i64 (i:Int),.string (s.extract i E),.string (s.extract k E),.int .u64 n,.bool false],.int .i64 0]) ?_ ?_ ?_
             · simp [results,Tryz.results43,go_sem,t0,t1,t2,t3,t4,t5]
             · rfl
             · rw [HT.out];refine ⟨_,_,_,_,_,_,rfl,(fun _=>⟨rfl,rfl,rfl,HSf.out HEE.out,rfl,rfl⟩),?_⟩
               repeat (with_reducible refine gn_set ?_ (Nat.le_refl _) _ _)
               exact N2.out.g
           · have HT:Hid (Lx.tailM s 10 (i) false=Lx.bad 6 E):=by
              refine zz ?_;unfold Lx.tailM; rw [HCd.out,HEn.out]; rfl
             go_wp2_with fail;refine (rat_as s E _ c3 rfl hs HC3 _).mono ?_;rintro e w1 ⟨rfl,rfl⟩;go_wp2_with fail;refine (rdigit_as c3 _ hb3 HD3 _).mono ?_;rintro e w1 ⟨rfl,rfl⟩;go_wp2_with fail;refine (rat_as s E _ c3 rfl hs HC3 _).mono ?_;rintro e w1 ⟨rfl,rfl⟩;go_wp2_with fail;refine (rletter_as c3 _ hb3 HL3 _).mono ?_;rintro e w1 ⟨rfl,rfl⟩;dsimp only
             repeat go_step
             refine bodyPost_ret (v:=.tuple #[.agg #[.int .i64 3,.int .i64 (i:Int),.string (s.extract i E),.string (s.extract k E),.int .u64 n,.bool false],.int .i64 6]) ?_ ?_ ?_
             · simp [results,Tryz.results43,go_sem,t0,t1,t2,t3,t4,t5]
             · rfl
             · rw [HT.out];refine ⟨_,_,_,_,_,_,rfl,(fun h=>absurd h (show ¬ (6:Int)=0 by decide)),?_⟩
               repeat (with_reducible refine gn_set ?_ (Nat.le_refl _) _ _)
               exact N2.out.g
         · have HT:Hid (Lx.tailM s 10 (i) false=Lx.bad 3 E):=by
            refine zz ?_;unfold Lx.tailM; rw [HCd.out,HEn.out]; rfl
           go_wp2_with fail;refine (rat_as s E _ c3 rfl hs HC3 _).mono ?_;rintro e w1 ⟨rfl,rfl⟩;go_wp2_with fail;refine (rdigit_as c3 _ hb3 HD3 _).mono ?_;rintro e w1 ⟨rfl,rfl⟩;go_wp2_with fail;refine (rat_as s E _ c3 rfl hs HC3 _).mono ?_;rintro e w1 ⟨rfl,rfl⟩;go_wp2_with fail;refine (rletter_as c3 _ hb3 HL3 _).mono ?_;rintro e w1 ⟨rfl,rfl⟩;dsimp only
           repeat go_step
           refine bodyPost_ret (v:=.tuple #[.agg #[.int .i64 3,.int .i64 (i:Int),.string (s.extract i E),.string (s.extract k E),.int .u64 n,.bool false],.int .i64 3]) ?_ ?_ ?_
           · simp [results,Tryz.results43,go_sem,t0,t1,t2,t3,t4,t5]
           · rfl
           · rw [HT.out];refine ⟨_,_,_,_,_,_,rfl,(fun h=>absurd h (show ¬ (3:Int)=0 by decide)),?_⟩
             repeat (with_reducible refine gn_set ?_ (Nat.le_refl _) _ _)
             exact N2.out.g
       · have HT:Hid (Lx.tailM s 10 (i) false=Lx.bad 3 E):=by
          refine zz ?_;unfold Lx.tailM; rw [HCd.out,HEn.out,Bool.or_true]; rfl
         go_wp2_with fail;refine (rat_as s E _ c3 rfl hs HC3 _).mono ?_;rintro e w1 ⟨rfl,rfl⟩;go_wp2_with fail;refine (rdigit_as c3 _ hb3 HD3 _).mono ?_;rintro e w1 ⟨rfl,rfl⟩;dsimp only
         repeat go_step
         refine bodyPost_ret (v:=.tuple #[.agg #[.int .i64 3,.int .i64 (i:Int),.string (s.extract i E),.string (s.extract k E),.int .u64 n,.bool false],.int .i64 3]) ?_ ?_ ?_
         · simp [results,Tryz.results43,go_sem,t0,t1,t2,t3,t4,t5]
         · rfl
         · rw [HT.out];refine ⟨_,_,_,_,_,_,rfl,(fun h=>absurd h (show ¬ (3:Int)=0 by decide)),?_⟩
           repeat (with_reducible refine gn_set ?_ (Nat.le_refl _) _ _)
           exact N2.out.g
  · have hd9:=(Lx.digB_iff c).1 hD;clear hD;have hlt:k < s.size:=Lx.valB_in (b:=10) (by rw [HC.out,HV.out,if_pos rfl]; omega);have hlt':(k:Int) < (s.size:Int):=by omega
    have hp:=Lx.pk_lt hlt;rw [HC.out] at hp;have HP:=zz hp.symm;clear hp;obtain ⟨f,rfl⟩:∃ f',f=f'+1:=⟨f - 1,by omega⟩;obtain ⟨V,hV⟩:∃ V,c - 48=V:=⟨_,rfl⟩;have hVb:0≤V∧V≤9:=by omega
    have HE2:Hid (Lx.digs s 10 s.size i 0 true=Lx.digs s 10 f (k+1) ((n * 10+V) % 18446744073709551616) ((!b)&&decide (n≤(18446744073709551615 - V) / 10))):=by
     rw [HE.out]; exact zz (by rw [Lx.digs_yes (by rw [HC.out,HV.out,if_pos rfl]; omega),HC.out,HV.out,if_pos rfl,hV])
    clear HE;obtain ⟨g0,g1,g2,g3,g4,g5,gf⟩:=H.out.b.cells;have HO:Hid ((!b&&decide (n≤(18446744073709551615 - V) / 10))=!(b || decide ((18446744073709551615 - V) / 10 < n))):=by
     refine zz ?_;cases b
     · rw [Bool.eq_iff_iff]; simp
     · rfl
    rw [HO.out] at HE2;clear HO;have hp2:=HP.out;have hw1:IntKind.u8.wrap (c - 48)=V:=by rw [hV]; simp only [IntKind.wrap,IntKind.bits,IntKind.signed]; simp; omega
    have hw2:IntKind.u64.wrap V=V:=by simp only [IntKind.wrap,IntKind.bits,IntKind.signed]; simp; omega
    have hw3:IntKind.u64.wrap (18446744073709551615 - V)=18446744073709551615 - V:=by simp only [IntKind.wrap,IntKind.bits,IntKind.signed]; simp; omega
    have hw4:(18446744073709551615 - V).tdiv 10=(18446744073709551615 - V) / 10:=Int.tdiv_eq_ediv_of_nonneg (by omega);obtain ⟨b',hb'⟩:∃ b',(b || decide ((18446744073709551615 - V) / 10 < n))=b':=⟨_,rfl⟩;rw [hb'] at HE2;have HB:=zz hb';clear hb' hV;cases b
    all_goals
     go_wp2_with fail;refine (rat_as s k _ c rfl hs HC _).mono ?_;rintro e w1 ⟨rfl,rfl⟩;go_wp2_with fail;refine (rdigit_as c true hcb HDg _).mono ?_;rintro e w1 ⟨rfl,rfl⟩;go_wp2_with fail;go_roundg (s.size - (k+1))
     case rel =>
      refine ⟨k+1,f,(n * 10+V) % 18446744073709551616,b',by go_num,?_,by omega,by omega,rfl,by omega,Int.emod_nonneg _ (by decide),by omega,HE2,?_⟩
      · rw [← HB.out]; rfl
      · refine zz (NB.num (n:=(n * 10+V) % 18446744073709551616) H.out ?_)
        first | rfl | omega | (simp only [IntKind.wrap,IntKind.bits,IntKind.signed]; simp; done) | (simp only [IntKind.wrap,IntKind.bits,IntKind.signed]; simp; omega)
     case measure=>omega
end Go.Proofs.YtflbkdfbjofllaaGreatDoor.L
namespace Go.Proofs.YtflbkdfbjofllaaGreatDoor.L
open Go.RowKit
theorem rnumber_hex (s:ByteArray) (i:Nat) (hi:i+2≤s.size) (hs:s.size≤4611686018427387904) (h0:Lx.pk s i=48) (h1:Lx.pk s (i+1)=120) (c2 V2:Int) (HC2:Hid (Lx.pk s (i+2)=c2)) (hc2:0≤c2∧c2≤255) (HV2:Hid (Lx.valB 16 c2=V2)) (hv2:0≤V2) (w:World) :
    Calls Tryz.prog 43 #[.string s,.int .i64 (i:Int)] w (RTok s i (Lx.tailM s 16 (i+2) true) w):=by
 have q0:i < s.size:=by omega
 have q1:(i:Int) < (s.size:Int):=by omega
 have q2:(i:Int)+2≤(s.size:Int):=by omega
 rw [Lx.pk_lt q0] at h0;have H1:=zz h1;clear h1;have HN:=zz (NB.start w i true);go_enter Tryz.func43,Tryz.ntmps43;go_wp2_with fail;refine (rat_as s (i+1) _ 120 (by omega) hs H1 _).mono ?_;rintro e w1 ⟨rfl,rfl⟩;go_wp2_with fail;refine (rat_as s (i+2) _ c2 (by omega) hs HC2 _).mono ?_;rintro e w1 ⟨rfl,rfl⟩;go_wp2_with fail;refine (rhex_as c2 V2 hc2 HV2 _).mono ?_;rintro e w1 ⟨rfl,rfl⟩;clear h0;go_wp2_with fail;go_loopg [7,8] (s.size - (i+2)) (fun g v u wr=>∃ (k f:Nat) (n:Int) (b:Bool),v=.int .i64 (k:Int)∧u=.bool b∧i+2≤k∧k≤s.size∧g=s.size - k∧g≤f∧0≤n∧n≤18446744073709551615∧Hid (Lx.digM s 16 (i+2)=Lx.digs s 16 f k n (!b))∧Hid (NB w i ⟨#[]⟩ ⟨#[]⟩ n true wr))
 case atStart=>exact ⟨i+2,s.size,0,false,by go_num,rfl,by omega,hi,rfl,by omega,by decide,by decide,zz (by unfold Lx.digM; rw [if_neg (by omega)]; rfl),HN⟩
 case round =>
  obtain ⟨k,f,n,b,rfl,rfl,hk0,hk,hg,hf,hn0,hn1,HE,H⟩:=hrel;clear HN;obtain ⟨c,hc⟩:∃ c,Lx.pk s k=c:=⟨_,rfl⟩;have hcb:=Lx.pk_bd s k;obtain ⟨V,hV⟩:∃ V,Lx.valB 16 c=V:=⟨_,rfl⟩;have hVb:=Lx.valB_bd 16 c;rw [hc] at hcb;rw [hV] at hVb;have HV:=zz hV;have HC:=zz hc;clear hV hc;by_cases hv:0≤V
  · have hlt:k < s.size:=Lx.valB_in (b:=16) (by rw [HC.out,HV.out]; exact hv);have hlt':(k:Int) < (s.size:Int):=by omega
    have hp:=Lx.pk_lt hlt;rw [HC.out] at hp;have HP:=zz hp.symm;clear hp;obtain ⟨f,rfl⟩:∃ f',f=f'+1:=⟨f - 1,by omega⟩;have HE2:Hid (Lx.digM s 16 (i+2)=Lx.digs s 16 f (k+1) ((n * 16+V) % 18446744073709551616) ((!b)&&decide (n≤(18446744073709551615 - V) / 16))):=by
     rw [HE.out]; exact zz (by rw [Lx.digs_yes (by rw [HC.out,HV.out]; exact hv),HC.out,HV.out])
    clear HE;obtain ⟨g0,g1,g2,g3,g4,g5,gf⟩:=H.out.b.cells;have hw16:IntKind.u64.wrap V=V:=by simp only [IntKind.wrap,IntKind.bits,IntKind.signed]; simp; omega
    have HO:Hid ((!b&&decide (n≤(18446744073709551615 - V) / 16))=!(b || decide (1152921504606846976≤n))):=by
     have:=fit16 (n:=n) hv (by omega);refine zz ?_;cases b
     · rw [Bool.eq_iff_iff]; simp; omega
     · rfl
    rw [HO.out] at HE2;clear HO;have hp2:=HP.out;obtain ⟨b',hb'⟩:∃ b',(b || decide (1152921504606846976≤n))=b':=⟨_,rfl⟩;rw [hb'] at HE2;have HB:=zz hb';clear hb';cases b
    all_goals
     go_wp2_with fail;refine (rat_as s k _ c rfl hs HC _).mono ?_;rintro e w1 ⟨rfl,rfl⟩;go_wp2_with fail;refine (rhex_as c V hcb HV _).mono ?_;rintro e w1 ⟨rfl,rfl⟩;go_wp2_with fail;go_still_tail 10,(by kernel_rfl)
     still_call ((rhex_as c V hcb HV _).mono fun e w' h=>⟨h.1,h.2.symm⟩)
     repeat still_step
     refine wpStill_nil ?_;change wpList _ _ _ _ _ wr.drew;clear hw16;go_wp2_with fail;go_roundg (s.size - (k+1))
     case rel =>
      refine ⟨k+1,f,(n * 16+V) % 18446744073709551616,b',by go_num,?_,by omega,by omega,rfl,by omega,Int.emod_nonneg _ (by decide),by omega,HE2,?_⟩
      · rw [← HB.out]; rfl
      · refine zz (NB.num (n:=(n * 16+V) % 18446744073709551616) H.out.drew ?_)
        first | rfl | omega | (simp only [IntKind.wrap,IntKind.bits,IntKind.signed]; simp; done) | (simp only [IntKind.wrap,IntKind.bits,IntKind.signed]; simp; omega)
     case measure=>omega
  · have HE2:Hid (Lx.digM s 16 (i+2)=(k,n,!b)):=by rw [HE.out]; exact zz (Lx.digs_no (by rw [HC.out,HV.out]; exact hv))
    clear HE;go_wp2_with fail;refine (rat_as s k _ c rfl hs HC _).mono ?_;rintro e w1 ⟨rfl,rfl⟩;go_wp2_with fail;refine (rhex_as c V hcb HV _).mono ?_;rintro e w1 ⟨rfl,rfl⟩;go_wp2_with fail;obtain ⟨d,hd⟩:∃ d,Lx.pk s (k+1)=d:=⟨_,rfl⟩;have HD:=zz hd;clear hd;refine (rat_as s k _ c rfl hs HC _).mono ?_;rintro e w1 ⟨rfl,rfl⟩;go_upto_if 100 with fail
    obtain ⟨k1,hk1⟩:∃ k1,(if c=117 then k+1 else k)=k1:=⟨_,rfl⟩;go_cut [7] (fun v wx=>v=.int .i64 (k1:Int)∧wr=wx)
    case first =>
     by_cases h117:c=117
     · rw [if_pos h117] at hk1;subst hk1;have q9:(c==117)=true:=beq_iff_eq.2 h117;clear h117;go_wp2_with fail;go_meet;exact ⟨by go_num,rfl⟩
     · rw [if_neg h117] at hk1;subst hk1;have q9:(c==117)=false:=beq_eq_false_iff_ne.2 h117;clear h117;go_wp2_with fail;go_meet;exact ⟨rfl,rfl⟩
    case rest =>
     obtain ⟨rfl,rfl⟩:=hcut;obtain ⟨d1,hd1⟩:∃ d1,Lx.pk s k1=d1:=⟨_,rfl⟩;have HD1:=zz hd1;obtain ⟨E,hE⟩:∃ E,(if d1=108 then k1+1 else k1)=E:=⟨_,rfl⟩;have hk1b:k≤k1∧k1≤s.size:=by
      by_cases h117:c=117
      · rw [if_pos h117] at hk1;have:=Lx.pk_in (s:=s) (i:=k) (by rw [HC.out,h117]; decide);omega
      · rw [if_neg h117] at hk1; omega
     have hEb:k1≤E∧E≤s.size:=by
      by_cases h108:d1=108
      · rw [if_pos h108] at hE;have:=Lx.pk_in (s:=s) (i:=k1) (by rw [hd1,h108]; decide);omega
      · rw [if_neg h108] at hE; omega
     have HEE:Hid (E=k+Lx.sufLen s k):=by
      refine zz ?_;unfold Lx.sufLen;rw [HC.out];by_cases h117:c=117
      · rw [if_pos h117] at hk1;rw [if_pos h117,hk1,hd1,← hE];split <;> omega
      · rw [if_neg h117] at hk1;subst hk1;have:d1=c:=hd1.symm.trans HC.out;rw [if_neg h117,← hE,this];split <;> omega
     clear hd1 hk1;go_wp2_with fail;refine (rat_as s k1 _ d1 rfl hs HD1 _).mono ?_;rintro e w1 ⟨rfl,rfl⟩;go_upto_if 106 with fail
     go_cut [7] (fun v wx=>v=.int .i64 (E:Int)∧wr=wx)
     case first =>
      by_cases h108:d1=108
      · rw [if_pos h108] at hE;subst hE;have q9:(d1==108)=true:=beq_iff_eq.2 h108;clear h108;go_wp2_with fail;go_meet;exact ⟨by go_num,rfl⟩
      · rw [if_neg h108] at hE;subst hE;have q9:(d1==108)=false:=beq_eq_false_iff_ne.2 h108;clear h108;go_wp2_with fail;go_meet;exact ⟨rfl,rfl⟩
     case rest =>
      obtain ⟨rfl,rfl⟩:=hcut;obtain ⟨g0,g1,g2,g3,g4,g5,gf⟩:=H.out.b.cells;have b1:(k:Int)≤(E:Int):=by omega
      have b2:(i:Int)≤(E:Int):=by omega
      have b3:(E:Int)≤(s.size:Int):=by omega
      clear hE;go_upto_region 26 with fail
      go_cut [] (fun wx=>NB w i (s.extract i E) (s.extract k E) n true wx)
      case first =>
       go_region
       all_goals (go_wp2_with fail; go_meet)
       all_goals exact ((H.out.sufd _).texted _).drew
      case rest =>
       have N2:=zz hcut;clear hcut H g0 g1 g2 g3 g4 g5 gf;obtain ⟨c3,hc3⟩:∃ c,Lx.pk s E=c:=⟨_,rfl⟩;have hb3:=Lx.pk_bd s E;rw [hc3] at hb3;have HC3:=zz hc3;obtain ⟨D,hD⟩:∃ D,Lx.digB c3=D:=⟨_,rfl⟩;obtain ⟨L,hL⟩:∃ L,Lx.letB c3=L:=⟨_,rfl⟩;have HD3:=zz hD;have HL3:=zz hL;have HEn:Hid (Lx.nEnd s 16 (i+2)=E):=by
        refine zz ?_;unfold Lx.nEnd; rw [HE2.out]; exact HEE.out.symm
       have HCd:Hid (Lx.nCode s 16 (i+2)=if (L || D)=true then 3 else if (!b)=true then 0 else 6):=by
        refine zz ?_;unfold Lx.nCode Lx.inB;rw [HEn.out,hc3,hL,hD,HE2.out]
       have HSf:Hid (E=k+Lx.sufLen s k→s.extract k E=Lx.sufStr s k):=zz (fun h=>by rw [h]; exact sufStr_ext s k);clear hc3 hD hL;obtain ⟨t0,t1,t2,t3,t4,t5,tf⟩:=N2.out.a.cells;obtain ⟨g0,g1,g2,g3,g4,g5,gf⟩:=N2.out.b.cells;cases D
       · cases L
         · cases b
           · have HT:Hid (Lx.tailM s 16 (i+2) true=⟨0,E,3,Lx.sufStr s k,n,true⟩):=by
              refine zz ?_;unfold Lx.tailM; rw [HCd.out,HEn.out,HE2.out]; rfl
             go_wp2_with fail;refine (rat_as s E _ c3 rfl hs HC3 _).mono ?_;rintro e w1 ⟨rfl,rfl⟩;go_wp2_with fail;refine (rdigit_as c3 _ hb3 HD3 _).mono ?_;rintro e w1 ⟨rfl,rfl⟩;go_wp2_with fail;refine (rat_as s E _ c3 rfl hs HC3 _).mono ?_;rintro e w1 ⟨rfl,rfl⟩;go_wp2_with fail;refine (rletter_as c3 _ hb3 HL3 _).mono ?_;rintro e w1 ⟨rfl,rfl⟩;dsimp only
             repeat go_step
             refine bodyPost_ret (v:=.tuple #[.agg #[.int .i64 3,.int .i64 (i:Int),.string (s.extract i E),.string (s.extract k E),.int .u64 n,.bool true],.int .i64 0]) ?_ ?_ ?_
             · simp [results,Tryz.results43,go_sem,t0,t1,t2,t3,t4,t5]
             · rfl
             · rw [HT.out];refine ⟨_,_,_,_,_,_,rfl,(fun _=>⟨rfl,rfl,rfl,HSf.out HEE.out,rfl,rfl⟩),?_⟩
               repeat (with_reducible refine gn_set ?_ (Nat.le_refl _) _ _)
               exact N2.out.g
           · have HT:Hid (Lx.tailM s 16 (i+2) true=Lx.bad 6 E):=by
              refine zz ?_;unfold Lx.tailM; rw [HCd.out,HEn.out]; rfl
             go_wp2_with fail;refine (rat_as s E _ c3 rfl hs HC3 _).mono ?_;rintro e w1 ⟨rfl,rfl⟩;go_wp2_with fail;refine (rdigit_as c3 _ hb3 HD3 _).mono ?_;rintro e w1 ⟨rfl,rfl⟩;go_wp2_with fail;refine (rat_as s E _ c3 rfl hs HC3 _).mono ?_;rintro e w1 ⟨rfl,rfl⟩;go_wp2_with fail;refine (rletter_as c3 _ hb3 HL3 _).mono ?_;rintro e w1 ⟨rfl,rfl⟩;dsimp only
             repeat go_step
             refine bodyPost_ret (v:=.tuple #[.agg #[.int .i64 3,.int .i64 (i:Int),.string (s.extract i E),.string (s.extract k E),.int .u64 n,.bool true],.int .i64 6]) ?_ ?_ ?_
             · simp [results,Tryz.results43,go_sem,t0,t1,t2,t3,t4,t5]
             · rfl
             · rw [HT.out];refine ⟨_,_,_,_,_,_,rfl,(fun h=>absurd h (show ¬ (6:Int)=0 by decide)),?_⟩
               repeat (with_reducible refine gn_set ?_ (Nat.le_refl _) _ _)
               exact N2.out.g
         · have HT:Hid (Lx.tailM s 16 (i+2) true=Lx.bad 3 E):=by
            refine zz ?_;unfold Lx.tailM; rw [HCd.out,HEn.out]; rfl
           go_wp2_with fail;refine (rat_as s E _ c3 rfl hs HC3 _).mono ?_;rintro e w1 ⟨rfl,rfl⟩;go_wp2_with fail;refine (rdigit_as c3 _ hb3 HD3 _).mono ?_;rintro e w1 ⟨rfl,rfl⟩;go_wp2_with fail;refine (rat_as s E _ c3 rfl hs HC3 _).mono ?_;rintro e w1 ⟨rfl,rfl⟩;go_wp2_with fail;refine (rletter_as c3 _ hb3 HL3 _).mono ?_;rintro e w1 ⟨rfl,rfl⟩;dsimp only
           repeat go_step
           refine bodyPost_ret (v:=.tuple #[.agg #[.int .i64 3,.int .i64 (i:Int),.string (s.extract i E),.string (s.extract k E),.int .u64 n,.bool true],.int .i64 3]) ?_ ?_ ?_
           · simp [results,Tryz.results43,go_sem,t0,t1,t2,t3,t4,t5]
           · rfl
           · rw [HT.out];refine ⟨_,_,_,_,_,_,rfl,(fun h=>absurd h (show ¬ (3:Int)=0 by decide)),?_⟩
             repeat (with_reducible refine gn_set ?_ (Nat.le_refl _) _ _)
             exact N2.out.g
       · have HT:Hid (Lx.tailM s 16 (i+2) true=Lx.bad 3 E):=by
          refine zz ?_;unfold Lx.tailM; rw [HCd.out,HEn.out,Bool.or_true]; rfl
         go_wp2_with fail;refine (rat_as s E _ c3 rfl hs HC3 _).mono ?_;rintro e w1 ⟨rfl,rfl⟩;go_wp2_with fail;refine (rdigit_as c3 _ hb3 HD3 _).mono ?_;rintro e w1 ⟨rfl,rfl⟩;dsimp only
         repeat go_step
         refine bodyPost_ret (v:=.tuple #[.agg #[.int .i64 3,.int .i64 (i:Int),.string (s.extract i E),.string (s.extract k E),.int .u64 n,.bool true],.int .i64 3]) ?_ ?_ ?_
         · simp [results,Tryz.results43,go_sem,t0,t1,t2,t3,t4,t5]
         · rfl
         · rw [HT.out];refine ⟨_,_,_,_,_,_,rfl,(fun h=>absurd h (show ¬ (3:Int)=0 by decide)),?_⟩
           repeat (with_reducible refine gn_set ?_ (Nat.le_refl _) _ _)
           exact N2.out.g
end Go.Proofs.YtflbkdfbjofllaaGreatDoor.L
namespace Go.Proofs.YtflbkdfbjofllaaGreatDoor.L
open Go.RowKit
theorem rnumber_z (s:ByteArray) (i:Nat) (q0:i < s.size) (hs:s.size≤4611686018427387904) (h0:Lx.pk s i=48) (x1:Int) (HX1:Hid (Lx.pk s (i+1)=x1)) (h1:x1≠120) (w:World) :
    Calls Tryz.prog 43 #[.string s,.int .i64 (i:Int)] w (RTok s i (Lx.tailM s 10 i false) w):=by
 have q1:(i:Int) < (s.size:Int):=by omega
 have q9:(s[i].toNat:Int)=48:=by rw [← Lx.pk_lt q0]; exact h0
 have hne:(x1==120)=false:=beq_eq_false_iff_ne.2 h1;have H0:=zz h0;clear h0 h1;have HN:=zz (NB.start w i false);go_enter Tryz.func43,Tryz.ntmps43;go_wp2_with fail;refine (rat_as s (i+1) _ x1 (by omega) hs HX1 _).mono ?_;rintro e w1 ⟨rfl,rfl⟩;go_wp2_with fail;go_loopg [7,8] (s.size - i) (fun g v u wr=>∃ (k f:Nat) (n:Int) (b:Bool),v=.int .i64 (k:Int)∧u=.bool b∧i≤k∧k≤s.size∧g=s.size - k∧g≤f∧0≤n∧n≤18446744073709551615∧Hid (Lx.digs s 10 s.size i 0 true=Lx.digs s 10 f k n (!b))∧Hid (NB w i ⟨#[]⟩ ⟨#[]⟩ n false wr))
 case atStart=>exact ⟨i,s.size,0,false,rfl,rfl,by omega,by omega,rfl,by omega,by decide,by decide,zz rfl,HN⟩
 case round =>
  obtain ⟨k,f,n,b,rfl,rfl,hk0,hk,hg,hf,hn0,hn1,HE,H⟩:=hrel;clear HN;obtain ⟨c,hc⟩:∃ c,Lx.pk s k=c:=⟨_,rfl⟩;have hcb:=Lx.pk_bd s k;obtain ⟨D,hD⟩:∃ D,Lx.digB c=D:=⟨_,rfl⟩;rw [hc] at hcb;have HDg:=zz hD;have HC:=zz hc;have HV:Hid (Lx.valB 10 c=if D=true then c - 48 else -1):=by
   refine zz ?_;unfold Lx.valB; rw [hD]; cases D
   · rw [if_neg (by decide),if_neg (by omega),if_neg (by omega)]; rfl
   · rfl
  clear hc;cases D
  · have HE1:Hid (Lx.digs s 10 s.size i 0 true=(k,n,!b)):=by rw [HE.out]; exact zz (Lx.digs_no (by rw [HC.out,HV.out,if_neg Bool.false_ne_true]; omega))
    clear HE hD;by_cases hki:i+1 < k
    · have HT:=zz (zero_more q0 H0.out HE1.out hki);have hki':(i:Int)+1 < (k:Int):=by omega
      obtain ⟨t0,t1,t2,t3,t4,t5,tf⟩:=H.out.a.cells;obtain ⟨g0,g1,g2,g3,g4,g5,gf⟩:=H.out.b.cells;clear hki;go_wp2_with fail;refine (rat_as s k _ c rfl hs HC _).mono ?_;rintro e w1 ⟨rfl,rfl⟩;go_wp2_with fail;refine (rdigit_as c false hcb HDg _).mono ?_;rintro e w1 ⟨rfl,rfl⟩;dsimp only
      repeat go_step
      refine bodyPost_ret (v:=.tuple #[.agg #[.int .i64 3,.int .i64 (i:Int),.string ⟨#[]⟩,.string ⟨#[]⟩,.int .u64 n,.bool false],.int .i64 3]) ?_ ?_ ?_
      · simp [results,Tryz.results43,go_sem,t0,t1,t2,t3,t4,t5]
      · rfl
      · rw [HT.out];refine ⟨_,_,_,_,_,_,rfl,(fun h=>absurd h (show ¬ (3:Int)=0 by decide)),?_⟩
        repeat (with_reducible refine gn_set ?_ (Nat.le_refl _) _ _)
        exact H.out.g
    · have HE2:Hid (Lx.digM s 10 i=(k,n,!b)):=zz (zero_one q0 H0.out HE1.out hki);have hki':¬ (i:Int)+1 < (k:Int):=by omega
      clear hki;go_wp2_with fail;refine (rat_as s k _ c rfl hs HC _).mono ?_;rintro e w1 ⟨rfl,rfl⟩;go_wp2_with fail;refine (rdigit_as c false hcb HDg _).mono ?_;rintro e w1 ⟨rfl,rfl⟩;go_wp2_with fail;obtain ⟨d,hd⟩:∃ d,Lx.pk s (k+1)=d:=⟨_,rfl⟩;have HD:=zz hd;clear hd;refine (rat_as s k _ c rfl hs HC _).mono ?_;rintro e w1 ⟨rfl,rfl⟩;go_upto_if 100 with fail
      obtain ⟨k1,hk1⟩:∃ k1,(if c=117 then k+1 else k)=k1:=⟨_,rfl⟩;go_cut [7] (fun v wx=>v=.int .i64 (k1:Int)∧wr=wx)
      case first =>
       by_cases h117:c=117
       · rw [if_pos h117] at hk1;subst hk1;have q9:(c==117)=true:=beq_iff_eq.2 h117;clear h117;go_wp2_with fail;go_meet;exact ⟨by go_num,rfl⟩
       · rw [if_neg h117] at hk1;subst hk1;have q9:(c==117)=false:=beq_eq_false_iff_ne.2 h117;clear h117;go_wp2_with fail;go_meet;exact ⟨rfl,rfl⟩
      case rest =>
       obtain ⟨rfl,rfl⟩:=hcut;obtain ⟨d1,hd1⟩:∃ d1,Lx.pk s k1=d1:=⟨_,rfl⟩;have HD1:=zz hd1;obtain ⟨E,hE⟩:∃ E,(if d1=108 then k1+1 else k1)=E:=⟨_,rfl⟩;have hk1b:k≤k1∧k1≤s.size:=by
        by_cases h117:c=117
        · rw [if_pos h117] at hk1;have:=Lx.pk_in (s:=s) (i:=k) (by rw [HC.out,h117]; decide);omega
        · rw [if_neg h117] at hk1; omega
       have hEb:k1≤E∧E≤s.size:=by
        by_cases h108:d1=108
        · rw [if_pos h108] at hE;have:=Lx.pk_in (s:=s) (i:=k1) (by rw [hd1,h108]; decide);omega
        · rw [if_neg h108] at hE; omega
       have HEE:Hid (E=k+Lx.sufLen s k):=by
        refine zz ?_;unfold Lx.sufLen;rw [HC.out];by_cases h117:c=117
        · rw [if_pos h117] at hk1;rw [if_pos h117,hk1,hd1,← hE];split <;> omega
        · rw [if_neg h117] at hk1;subst hk1;have:d1=c:=hd1.symm.trans HC.out;rw [if_neg h117,← hE,this];split <;> omega
       clear hd1 hk1;go_wp2_with fail;refine (rat_as s k1 _ d1 rfl hs HD1 _).mono ?_;rintro e w1 ⟨rfl,rfl⟩;go_upto_if 106 with fail
       go_cut [7] (fun v wx=>v=.int .i64 (E:Int)∧wr=wx)
       case first =>
        by_cases h108:d1=108
        · rw [if_pos h108] at hE;subst hE;have q9:(d1==108)=true:=beq_iff_eq.2 h108;clear h108;go_wp2_with fail;go_meet;exact ⟨by go_num,rfl⟩
        · rw [if_neg h108] at hE;subst hE;have q9:(d1==108)=false:=beq_eq_false_iff_ne.2 h108;clear h108;go_wp2_with fail;go_meet;exact ⟨rfl,rfl⟩
       case rest =>
        obtain ⟨rfl,rfl⟩:=hcut;obtain ⟨g0,g1,g2,g3,g4,g5,gf⟩:=H.out.b.cells;have b1:(k:Int)≤(E:Int):=by omega
        have b2:(i:Int)≤(E:Int):=by omega
        have b3:(E:Int)≤(s.size:Int):=by omega
        clear hE;go_upto_region 26 with fail
        go_cut [] (fun wx=>NB w i (s.extract i E) (s.extract k E) n false wx)
        case first =>
         go_region
         all_goals (go_wp2_with fail; go_meet)
         all_goals exact ((H.out.sufd _).texted _).drew
        case rest =>
         have N2:=zz hcut;clear hcut H g0 g1 g2 g3 g4 g5 gf;obtain ⟨c3,hc3⟩:∃ c,Lx.pk s E=c:=⟨_,rfl⟩;have hb3:=Lx.pk_bd s E;rw [hc3] at hb3;have HC3:=zz hc3;obtain ⟨D,hD⟩:∃ D,Lx.digB c3=D:=⟨_,rfl⟩;obtain ⟨L,hL⟩:∃ L,Lx.letB c3=L:=⟨_,rfl⟩;have HD3:=zz hD;have HL3:=zz hL;have HEn:Hid (Lx.nEnd s 10 (i)=E):=by
          refine zz ?_;unfold Lx.nEnd; rw [HE2.out]; exact HEE.out.symm
         have HCd:Hid (Lx.nCode s 10 (i)=if (L || D)=true then 3 else if (!b)=true then 0 else 6):=by
          refine zz ?_;unfold Lx.nCode Lx.inB;rw [HEn.out,hc3,hL,hD,HE2.out]
         have HSf:Hid (E=k+Lx.sufLen s k→s.extract k E=Lx.sufStr s k):=zz (fun h=>by rw [h]; exact sufStr_ext s k);clear hc3 hD hL;obtain ⟨t0,t1,t2,t3,t4,t5,tf⟩:=N2.out.a.cells;obtain ⟨g0,g1,g2,g3,g4,g5,gf⟩:=N2.out.b.cells;cases D
         · cases L
           · cases b
             · have HT:Hid (Lx.tailM s 10 (i) false=⟨0,E,3,Lx.sufStr s k,n,false⟩):=by
                refine zz ?_;unfold Lx.tailM; rw [HCd.out,HEn.out,HE2.out]; rfl
               go_wp2_with fail;refine (rat_as s E _ c3 rfl hs HC3 _).mono ?_;rintro e w1 ⟨rfl,rfl⟩;go_wp2_with fail;refine (rdigit_as c3 _ hb3 HD3 _).mono ?_;rintro e w1 ⟨rfl,rfl⟩;go_wp2_with fail;refine (rat_as s E _ c3 rfl hs HC3 _).mono ?_;rintro e w1 ⟨rfl,rfl⟩;go_wp2_with fail;refine (rletter_as c3 _ hb3 HL3 _).mono ?_;rintro e w1 ⟨rfl,rfl⟩;dsimp only
               repeat go_step
               refine bodyPost_ret (v:=.tuple #[.agg #[.int .i64 3,.int .i64 (i:Int),.string (s.extract i E),.string (s.extract k E),.int .u64 n,.bool false],.int .i64 0]) ?_ ?_ ?_
               · simp [results,Tryz.results43,go_sem,t0,t1,t2,t3,t4,t5]
               · rfl
               · rw [HT.out];refine ⟨_,_,_,_,_,_,rfl,(fun _=>⟨rfl,rfl,rfl,HSf.out HEE.out,rfl,rfl⟩),?_⟩
                 repeat (with_reducible refine gn_set ?_ (Nat.le_refl _) _ _)
                 exact N2.out.g
             · have HT:Hid (Lx.tailM s 10 (i) false=Lx.bad 6 E):=by
                refine zz ?_;unfold Lx.tailM; rw [HCd.out,HEn.out]; rfl
               go_wp2_with fail;refine (rat_as s E _ c3 rfl hs HC3 _).mono ?_;rintro e w1 ⟨rfl,rfl⟩;go_wp2_with fail;refine (rdigit_as c3 _ hb3 HD3 _).mono ?_;rintro e w1 ⟨rfl,rfl⟩;go_wp2_with fail;refine (rat_as s E _ c3 rfl hs HC3 _).mono ?_;rintro e w1 ⟨rfl,rfl⟩;go_wp2_with fail;refine (rletter_as c3 _ hb3 HL3 _).mono ?_;rintro e w1 ⟨rfl,rfl⟩;dsimp only
               repeat go_step
               refine bodyPost_ret (v:=.tuple #[.agg #[.int .i64 3,.int .i64 (i:Int),.string (s.extract i E),.string (s.extract k E),.int .u64 n,.bool false],.int .i64 6]) ?_ ?_ ?_
               · simp [results,Tryz.results43,go_sem,t0,t1,t2,t3,t4,t5]
               · rfl
               · rw [HT.out];refine ⟨_,_,_,_,_,_,rfl,(fun h=>absurd h (show ¬ (6:Int)=0 by decide)),?_⟩
                 repeat (with_reducible refine gn_set ?_ (Nat.le_refl _) _ _)
                 exact N2.out.g
           · have HT:Hid (Lx.tailM s 10 (i) false=Lx.bad 3 E):=by
              refine zz ?_;unfold Lx.tailM; rw [HCd.out,HEn.out]; rfl
             go_wp2_with fail;refine (rat_as s E _ c3 rfl hs HC3 _).mono ?_;rintro e w1 ⟨rfl,rfl⟩;go_wp2_with fail;refine (rdigit_as c3 _ hb3 HD3 _).mono ?_;rintro e w1 ⟨rfl,rfl⟩;go_wp2_with fail;refine (rat_as s E _ c3 rfl hs HC3 _).mono ?_;rintro e w1 ⟨rfl,rfl⟩;go_wp2_with fail;refine (rletter_as c3 _ hb3 HL3 _).mono ?_;rintro e w1 ⟨rfl,rfl⟩;dsimp only
             repeat go_step
             refine bodyPost_ret (v:=.tuple #[.agg #[.int .i64 3,.int .i64 (i:Int),.string (s.extract i E),.string (s.extract k E),.int .u64 n,.bool false],.int .i64 3]) ?_ ?_ ?_
             · simp [results,Tryz.results43,go_sem,t0,t1,t2,t3,t4,t5]
             · rfl
             · rw [HT.out];refine ⟨_,_,_,_,_,_,rfl,(fun h=>absurd h (show ¬ (3:Int)=0 by decide)),?_⟩
               repeat (with_reducible refine gn_set ?_ (Nat.le_refl _) _ _)
               exact N2.out.g
         · have HT:Hid (Lx.tailM s 10 (i) false=Lx.bad 3 E):=by
            refine zz ?_;unfold Lx.tailM; rw [HCd.out,HEn.out,Bool.or_true]; rfl
           go_wp2_with fail;refine (rat_as s E _ c3 rfl hs HC3 _).mono ?_;rintro e w1 ⟨rfl,rfl⟩;go_wp2_with fail;refine (rdigit_as c3 _ hb3 HD3 _).mono ?_;rintro e w1 ⟨rfl,rfl⟩;dsimp only
           repeat go_step
           refine bodyPost_ret (v:=.tuple #[.agg #[.int .i64 3,.int .i64 (i:Int),.string (s.extract i E),.string (s.extract k E),.int .u64 n,.bool false],.int .i64 3]) ?_ ?_ ?_
           · simp [results,Tryz.results43,go_sem,t0,t1,t2,t3,t4,t5]
           · rfl
           · rw [HT.out];refine ⟨_,_,_,_,_,_,rfl,(fun h=>absurd h (show ¬ (3:Int)=0 by decide)),?_⟩
             repeat (with_reducible refine gn_set ?_ (Nat.le_refl _) _ _)
             exact N2.out.g
  · have hd9:=(Lx.digB_iff c).1 hD;clear hD;have hlt:k < s.size:=Lx.valB_in (b:=10) (by rw [HC.out,HV.out,if_pos rfl]; omega);have hlt':(k:Int) < (s.size:Int):=by omega
    have hp:=Lx.pk_lt hlt;rw [HC.out] at hp;have HP:=zz hp.symm;clear hp;obtain ⟨f,rfl⟩:∃ f',f=f'+1:=⟨f - 1,by omega⟩;obtain ⟨V,hV⟩:∃ V,c - 48=V:=⟨_,rfl⟩;have hVb:0≤V∧V≤9:=by omega
    have HE2:Hid (Lx.digs s 10 s.size i 0 true=Lx.digs s 10 f (k+1) ((n * 10+V) % 18446744073709551616) ((!b)&&decide (n≤(18446744073709551615 - V) / 10))):=by
     rw [HE.out]; exact zz (by rw [Lx.digs_yes (by rw [HC.out,HV.out,if_pos rfl]; omega),HC.out,HV.out,if_pos rfl,hV])
    clear HE;obtain ⟨g0,g1,g2,g3,g4,g5,gf⟩:=H.out.b.cells;have HO:Hid ((!b&&decide (n≤(18446744073709551615 - V) / 10))=!(b || decide ((18446744073709551615 - V) / 10 < n))):=by
     refine zz ?_;cases b
     · rw [Bool.eq_iff_iff]; simp
     · rfl
    rw [HO.out] at HE2;clear HO;have hp2:=HP.out;have hw1:IntKind.u8.wrap (c - 48)=V:=by rw [hV]; simp only [IntKind.wrap,IntKind.bits,IntKind.signed]; simp; omega
    have hw2:IntKind.u64.wrap V=V:=by simp only [IntKind.wrap,IntKind.bits,IntKind.signed]; simp; omega
    have hw3:IntKind.u64.wrap (18446744073709551615 - V)=18446744073709551615 - V:=by simp only [IntKind.wrap,IntKind.bits,IntKind.signed]; simp; omega
    have hw4:(18446744073709551615 - V).tdiv 10=(18446744073709551615 - V) / 10:=Int.tdiv_eq_ediv_of_nonneg (by omega);obtain ⟨b',hb'⟩:∃ b',(b || decide ((18446744073709551615 - V) / 10 < n))=b':=⟨_,rfl⟩;rw [hb'] at HE2;have HB:=zz hb';clear hb' hV;cases b
    all_goals
     go_wp2_with fail;refine (rat_as s k _ c rfl hs HC _).mono ?_;rintro e w1 ⟨rfl,rfl⟩;go_wp2_with fail;refine (rdigit_as c true hcb HDg _).mono ?_;rintro e w1 ⟨rfl,rfl⟩;go_wp2_with fail;go_roundg (s.size - (k+1))
     case rel =>
      refine ⟨k+1,f,(n * 10+V) % 18446744073709551616,b',by go_num,?_,by omega,by omega,rfl,by omega,Int.emod_nonneg _ (by decide),by omega,HE2,?_⟩
      · rw [← HB.out]; rfl
      · refine zz (NB.num (n:=(n * 10+V) % 18446744073709551616) H.out ?_)
        first | rfl | omega | (simp only [IntKind.wrap,IntKind.bits,IntKind.signed]; simp; done) | (simp only [IntKind.wrap,IntKind.bits,IntKind.signed]; simp; omega)
     case measure=>omega
end Go.Proofs.YtflbkdfbjofllaaGreatDoor.L
namespace Go.Proofs.YtflbkdfbjofllaaGreatDoor.L
open Go.RowKit
theorem rnumber_bad (s:ByteArray) (i:Nat) (hi:i+2≤s.size) (hs:s.size≤4611686018427387904) (h0:Lx.pk s i=48) (h1:Lx.pk s (i+1)=120) (c2 V2:Int) (HC2:Hid (Lx.pk s (i+2)=c2)) (hc2:0≤c2∧c2≤255) (HV2:Hid (Lx.valB 16 c2=V2)) (hv2:V2 < 0) (w:World) :
    Calls Tryz.prog 43 #[.string s,.int .i64 (i:Int)] w (RTok s i (Lx.bad 3 (i+2)) w):=by
 have q0:i < s.size:=by omega
 have q1:(i:Int) < (s.size:Int):=by omega
 have q2:(i:Int)+2≤(s.size:Int):=by omega
 rw [Lx.pk_lt q0] at h0;have H1:=zz h1;clear h1;have HN:=zz (NB.start w i true);obtain ⟨t0,t1,t2,t3,t4,t5,tf⟩:=HN.out.a.cells;go_enter Tryz.func43,Tryz.ntmps43;go_wp2_with fail;refine (rat_as s (i+1) _ 120 (by omega) hs H1 _).mono ?_;rintro e w1 ⟨rfl,rfl⟩;go_wp2_with fail;refine (rat_as s (i+2) _ c2 (by omega) hs HC2 _).mono ?_;rintro e w1 ⟨rfl,rfl⟩;go_wp2_with fail;refine (rhex_as c2 V2 hc2 HV2 _).mono ?_;rintro e w1 ⟨rfl,rfl⟩;clear h0;go_wp2_with fail;refine bodyPost_ret (v:=.tuple #[.agg #[.int .i64 3,.int .i64 (i:Int),.string ⟨#[]⟩,.string ⟨#[]⟩,.int .u64 0,.bool true],.int .i64 3]) (by simp [results,Tryz.results43,go_sem]) rfl ?_;refine ⟨_,_,_,_,_,_,rfl,(fun h=>absurd h (show ¬ (3:Int)=0 by decide)),?_⟩
 repeat (first | with_reducible exact gn_refl _ | with_reducible refine gn_alloc ?_ _)
theorem rnumber_any (s:ByteArray) (i:Nat) (q0:i < s.size) (hs:s.size≤4611686018427387904) (w:World) :
    Calls Tryz.prog 43 #[.string s,.int .i64 (i:Int)] w (RTok s i (Lx.numberM s i) w):=by
 unfold Lx.numberM;by_cases h0:Lx.pk s i=48
 · by_cases h1:Lx.pk s (i+1)=120
   · have hi:i+2≤s.size:=by have:=Lx.pk_in (s:=s) (i:=i+1) (by rw [h1]; decide); omega
     rw [if_pos ⟨h0,h1⟩];by_cases hv:Lx.valB 16 (Lx.pk s (i+2)) < 0
     · rw [if_pos hv]; exact rnumber_bad s i hi hs h0 h1 _ _ (zz rfl) (Lx.pk_bd _ _) (zz rfl) hv w
     · rw [if_neg hv]; exact rnumber_hex s i hi hs h0 h1 _ _ (zz rfl) (Lx.pk_bd _ _) (zz rfl) (by omega) w
   · rw [if_neg (fun h=>h1 h.2)]; exact rnumber_z s i q0 hs h0 _ (zz rfl) h1 w
 · rw [if_neg (fun h=>h0 h.1)]; exact rnumber_d s i q0 hs h0 w
end Go.Proofs.YtflbkdfbjofllaaGreatDoor.L
namespace Go.Proofs.YtflbkdfbjofllaaGreatDoor.L
open Go.RowKit
def fsz (c d e:Int):Nat :=
 if c=60∧d=60∧e=61 then 3 else
 if c=62∧d=62∧e=61 then 3 else
 if c=60∧d=60 then 2 else
 if c=62∧d=62 then 2 else
 if c=60∧d=61 then 2 else
 if c=62∧d=61 then 2 else
 if c=61∧d=61 then 2 else
 if c=33∧d=61 then 2 else
 if c=38∧d=38 then 2 else
 if c=124∧d=124 then 2 else
 if c=45∧d=62 then 2 else
 if c=43∧d=61 then 2 else
 if c=45∧d=61 then 2 else
 if c=42∧d=61 then 2 else
 if c=47∧d=61 then 2 else
 if c=37∧d=61 then 2 else
 if c=38∧d=61 then 2 else
 if c=124∧d=61 then 2 else
 if c=94∧d=61 then 2 else
 if c=43 then 1 else
 if c=45 then 1 else
 if c=42 then 1 else
 if c=47 then 1 else
 if c=37 then 1 else
 if c=38 then 1 else
 if c=124 then 1 else
 if c=94 then 1 else
 if c=126 then 1 else
 if c=33 then 1 else
 if c=60 then 1 else
 if c=62 then 1 else
 if c=61 then 1 else
 if c=40 then 1 else
 if c=41 then 1 else
 if c=91 then 1 else
 if c=93 then 1 else
 if c=123 then 1 else
 if c=125 then 1 else
 if c=44 then 1 else
 if c=59 then 1 else
 if c=58 then 1 else
 if c=63 then 1 else
 if c=46 then 1 else
 0
theorem ps (p:ByteArray→Bool) (a:ByteArray) (l:List ByteArray):(((a::l).find? p).getD ⟨#[]⟩).size=if p a=true then a.size else ((l.find? p).getD ⟨#[]⟩).size:=by
 by_cases h:p a=true
 · rw [List.find?_cons_of_pos h,if_pos h]; rfl
 · rw [List.find?_cons_of_neg h,if_neg h]
theorem if_to {b:Bool} {q:Prop} [Decidable q] {n m m':Nat} (h1:b=decide q) (h2:m=m'):(if b=true then n else m)=if q then n else m':=by
 subst h2; rw [h1]; by_cases h:q <;> simp [h]
theorem rsign_fsz (s:ByteArray) (i:Nat):(rsign s i).size=fsz (Lx.pk s i) (Lx.pk s (i+1)) (Lx.pk s (i+2)):=by
 unfold rsign sl fsz;refine (ps _ _ _).trans (if_to (m3 s i _ _ _ (by decide) (by decide) (by decide)) ?_);refine (ps _ _ _).trans (if_to (m3 s i _ _ _ (by decide) (by decide) (by decide)) ?_);refine (ps _ _ _).trans (if_to (m2 s i _ _ (by decide) (by decide)) ?_);refine (ps _ _ _).trans (if_to (m2 s i _ _ (by decide) (by decide)) ?_);refine (ps _ _ _).trans (if_to (m2 s i _ _ (by decide) (by decide)) ?_);refine (ps _ _ _).trans (if_to (m2 s i _ _ (by decide) (by decide)) ?_);refine (ps _ _ _).trans (if_to (m2 s i _ _ (by decide) (by decide)) ?_);refine (ps _ _ _).trans (if_to (m2 s i _ _ (by decide) (by decide)) ?_);refine (ps _ _ _).trans (if_to (m2 s i _ _ (by decide) (by decide)) ?_);refine (ps _ _ _).trans (if_to (m2 s i _ _ (by decide) (by decide)) ?_);refine (ps _ _ _).trans (if_to (m2 s i _ _ (by decide) (by decide)) ?_);refine (ps _ _ _).trans (if_to (m2 s i _ _ (by decide) (by decide)) ?_);refine (ps _ _ _).trans (if_to (m2 s i _ _ (by decide) (by decide)) ?_);refine (ps _ _ _).trans (if_to (m2 s i _ _ (by decide) (by decide)) ?_);refine (ps _ _ _).trans (if_to (m2 s i _ _ (by decide) (by decide)) ?_);refine (ps _ _ _).trans (if_to (m2 s i _ _ (by decide) (by decide)) ?_);refine (ps _ _ _).trans (if_to (m2 s i _ _ (by decide) (by decide)) ?_);refine (ps _ _ _).trans (if_to (m2 s i _ _ (by decide) (by decide)) ?_);refine (ps _ _ _).trans (if_to (m2 s i _ _ (by decide) (by decide)) ?_);refine (ps _ _ _).trans (if_to (m1 s i _ (by decide)) ?_);refine (ps _ _ _).trans (if_to (m1 s i _ (by decide)) ?_);refine (ps _ _ _).trans (if_to (m1 s i _ (by decide)) ?_);refine (ps _ _ _).trans (if_to (m1 s i _ (by decide)) ?_);refine (ps _ _ _).trans (if_to (m1 s i _ (by decide)) ?_);refine (ps _ _ _).trans (if_to (m1 s i _ (by decide)) ?_);refine (ps _ _ _).trans (if_to (m1 s i _ (by decide)) ?_);refine (ps _ _ _).trans (if_to (m1 s i _ (by decide)) ?_);refine (ps _ _ _).trans (if_to (m1 s i _ (by decide)) ?_);refine (ps _ _ _).trans (if_to (m1 s i _ (by decide)) ?_);refine (ps _ _ _).trans (if_to (m1 s i _ (by decide)) ?_);refine (ps _ _ _).trans (if_to (m1 s i _ (by decide)) ?_);refine (ps _ _ _).trans (if_to (m1 s i _ (by decide)) ?_);refine (ps _ _ _).trans (if_to (m1 s i _ (by decide)) ?_);refine (ps _ _ _).trans (if_to (m1 s i _ (by decide)) ?_);refine (ps _ _ _).trans (if_to (m1 s i _ (by decide)) ?_);refine (ps _ _ _).trans (if_to (m1 s i _ (by decide)) ?_);refine (ps _ _ _).trans (if_to (m1 s i _ (by decide)) ?_);refine (ps _ _ _).trans (if_to (m1 s i _ (by decide)) ?_);refine (ps _ _ _).trans (if_to (m1 s i _ (by decide)) ?_);refine (ps _ _ _).trans (if_to (m1 s i _ (by decide)) ?_);refine (ps _ _ _).trans (if_to (m1 s i _ (by decide)) ?_);refine (ps _ _ _).trans (if_to (m1 s i _ (by decide)) ?_);refine (ps _ _ _).trans (if_to (m1 s i _ (by decide)) ?_);rfl
theorem fsz_signM (c d e:Int):fsz c d e=Lx.signM c d e:=by
 by_cases h33:c=33
 · subst h33; simp [fsz,Lx.signM] <;> ((repeat' split) <;> first | rfl | omega)
 by_cases h37:c=37
 · subst h37; simp [fsz,Lx.signM] <;> ((repeat' split) <;> first | rfl | omega)
 by_cases h38:c=38
 · subst h38; simp [fsz,Lx.signM] <;> ((repeat' split) <;> first | rfl | omega)
 by_cases h40:c=40
 · subst h40; simp [fsz,Lx.signM] <;> ((repeat' split) <;> first | rfl | omega)
 by_cases h41:c=41
 · subst h41; simp [fsz,Lx.signM] <;> ((repeat' split) <;> first | rfl | omega)
 by_cases h42:c=42
 · subst h42; simp [fsz,Lx.signM] <;> ((repeat' split) <;> first | rfl | omega)
 by_cases h43:c=43
 · subst h43; simp [fsz,Lx.signM] <;> ((repeat' split) <;> first | rfl | omega)
 by_cases h44:c=44
 · subst h44; simp [fsz,Lx.signM] <;> ((repeat' split) <;> first | rfl | omega)
 by_cases h45:c=45
 · subst h45; simp [fsz,Lx.signM] <;> ((repeat' split) <;> first | rfl | omega)
 by_cases h46:c=46
 · subst h46; simp [fsz,Lx.signM] <;> ((repeat' split) <;> first | rfl | omega)
 by_cases h47:c=47
 · subst h47; simp [fsz,Lx.signM] <;> ((repeat' split) <;> first | rfl | omega)
 by_cases h58:c=58
 · subst h58; simp [fsz,Lx.signM] <;> ((repeat' split) <;> first | rfl | omega)
 by_cases h59:c=59
 · subst h59; simp [fsz,Lx.signM] <;> ((repeat' split) <;> first | rfl | omega)
 by_cases h60:c=60
 · subst h60; simp [fsz,Lx.signM] <;> ((repeat' split) <;> first | rfl | omega)
 by_cases h61:c=61
 · subst h61; simp [fsz,Lx.signM] <;> ((repeat' split) <;> first | rfl | omega)
 by_cases h62:c=62
 · subst h62; simp [fsz,Lx.signM] <;> ((repeat' split) <;> first | rfl | omega)
 by_cases h63:c=63
 · subst h63; simp [fsz,Lx.signM] <;> ((repeat' split) <;> first | rfl | omega)
 by_cases h91:c=91
 · subst h91; simp [fsz,Lx.signM] <;> ((repeat' split) <;> first | rfl | omega)
 by_cases h93:c=93
 · subst h93; simp [fsz,Lx.signM] <;> ((repeat' split) <;> first | rfl | omega)
 by_cases h94:c=94
 · subst h94; simp [fsz,Lx.signM] <;> ((repeat' split) <;> first | rfl | omega)
 by_cases h123:c=123
 · subst h123; simp [fsz,Lx.signM] <;> ((repeat' split) <;> first | rfl | omega)
 by_cases h124:c=124
 · subst h124; simp [fsz,Lx.signM] <;> ((repeat' split) <;> first | rfl | omega)
 by_cases h125:c=125
 · subst h125; simp [fsz,Lx.signM] <;> ((repeat' split) <;> first | rfl | omega)
 by_cases h126:c=126
 · subst h126; simp [fsz,Lx.signM] <;> ((repeat' split) <;> first | rfl | omega)
 simp [fsz,Lx.signM,h33,h37,h38,h40,h41,h42,h43,h44,h45,h46,h47,h58,h59,h60,h61,h62,h63,h91,h93,h94,h123,h124,h125,h126]
theorem rsign_size (s:ByteArray) (i:Nat):(rsign s i).size=Lx.signM (Lx.pk s i) (Lx.pk s (i+1)) (Lx.pk s (i+2)):=(rsign_fsz s i).trans (fsz_signM _ _ _)
end Go.Proofs.YtflbkdfbjofllaaGreatDoor.L
namespace Go.Proofs.YtflbkdfbjofllaaGreatDoor.L
open Go.RowKit
theorem wordB_short {t:ByteArray} (h:Lx.wordB t=true):t.size≤8:=by
 have e:t.toList.length=t.size:=by rw [ByteArray.toList_eq]; simp
 rw [← e];unfold Lx.wordB at h;simp only [Bool.or_eq_true,beq_iff_eq] at h;rcases h with h | h
 all_goals (repeat' (first | (rcases h with h | h) | (rw [h]; decide)))
theorem ext_size {s:ByteArray} {i k:Nat} (h1:i≤k) (h2:k≤s.size):(s.extract i k).size=k - i:=by
 rw [ByteArray.size_extract]; omega
theorem rone_name (s:ByteArray) (i:Nat) (hi:i < s.size) (hs:s.size≤4611686018427387904) (hL:Lx.letB (Lx.pk s i)=true) (w:World) :
    Calls Tryz.prog 27 #[.string s,.int .i64 (i:Int)] w (RTok s i (Lx.tokenM s i) w):=by
 have q1:(i:Int) < (s.size:Int):=by omega
 obtain ⟨c0,hc0⟩:∃ c,(s[i].toNat:Int)=c:=⟨_,rfl⟩;have hcb:=Lx.pk_bd s i;rw [Lx.pk_lt hi] at hL hcb;rw [hc0] at hL hcb;have HL:=zz hL;clear hL;have HTM:Hid (Lx.tokenM s i=⟨(Lx.nameM s i (Lx.nameEnd s i)).1,Lx.nameEnd s i,(Lx.nameM s i (Lx.nameEnd s i)).2,⟨#[]⟩,0,false⟩):=by
  refine zz ?_;unfold Lx.tokenM; rw [if_pos (by rw [Lx.pk_lt hi,hc0]; exact HL.out)]
 go_enter Tryz.func27,Tryz.ntmps27;go_wp2_with fail;refine (rletter_as c0 true hcb HL _).mono ?_;rintro e w1 ⟨rfl,rfl⟩;go_wp2_with fail;go_loopg [6] (s.size - i) (fun g v wr=>∃ (k f:Nat),v=.int .i64 (k:Int)∧i≤k∧k≤s.size∧g=s.size - k∧g≤f∧Hid (Lx.nameEnd s i=Lx.scan (Lx.nameP s) f k)∧(w.alloc (.cells #[.int .i64 0,.int .i64 0,.string ⟨#[]⟩,.string ⟨#[]⟩,.int .u64 0,.bool false] 45))=wr)
 case atStart=>exact ⟨i,s.size,rfl,by omega,by omega,rfl,by omega,zz rfl,rfl⟩
 case round =>
  obtain ⟨k,f,rfl,hk0,hk,hg,hf,HE,rfl⟩:=hrel;obtain ⟨c,hc⟩:∃ c,Lx.pk s k=c:=⟨_,rfl⟩;have hkb:=Lx.pk_bd s k;obtain ⟨L,hL⟩:∃ L,Lx.letB c=L:=⟨_,rfl⟩;obtain ⟨D,hD⟩:∃ D,Lx.digB c=D:=⟨_,rfl⟩;have hP:Lx.nameP s k=(L || D):=by unfold Lx.nameP Lx.inB; rw [hc,hL,hD]
  rw [hc] at hkb;have HC:=zz hc;have HLk:=zz hL;have HDk:=zz hD;have HP:=zz hP;clear hc hL hD hP;by_cases hon:(L || D)=true
  · have hlt:k < s.size:=by
     by_cases h:k < s.size
     · exact h
     · have:=Lx.nameP_ge s k (by omega); rw [HP.out,hon] at this; cases this
    obtain ⟨f,rfl⟩:∃ f',f=f'+1:=⟨f - 1,by omega⟩;have HE2:Hid (Lx.nameEnd s i=Lx.scan (Lx.nameP s) f (k+1)):=by rw [HE.out]; exact zz (Lx.scan_yes (by rw [HP.out]; exact hon))
    clear HE;cases L
    · cases D
      · cases hon
      clear hon;go_wp2_with fail;refine (rat_as s k _ c rfl hs HC _).mono ?_;rintro e w1 ⟨rfl,rfl⟩;go_wp2_with fail;refine (rletter_as c false hkb HLk _).mono ?_;rintro e w1 ⟨rfl,rfl⟩;go_wp2_with fail;refine (rat_as s k _ c rfl hs HC _).mono ?_;rintro e w1 ⟨rfl,rfl⟩;go_wp2_with fail;refine (rdigit_as c true hkb HDk _).mono ?_;rintro e w1 ⟨rfl,rfl⟩;go_wp2_with fail;go_roundg (s.size - (k+1))
      case rel=>exact ⟨k+1,f,by go_num,by omega,by omega,rfl,by omega,HE2,rfl⟩
      case measure=>omega
    · clear hon;go_wp2_with fail;refine (rat_as s k _ c rfl hs HC _).mono ?_;rintro e w1 ⟨rfl,rfl⟩;go_wp2_with fail;refine (rletter_as c true hkb HLk _).mono ?_;rintro e w1 ⟨rfl,rfl⟩;go_wp2_with fail;go_roundg (s.size - (k+1))
      case rel=>exact ⟨k+1,f,by go_num,by omega,by omega,rfl,by omega,HE2,rfl⟩
      case measure=>omega
  · have hL0:L=false:=by cases L; rfl; exact absurd rfl hon
    have hD0:D=false:=by cases D; rfl; exact absurd (Bool.or_true _) hon
    subst hL0 hD0;have HE2:Hid (Lx.nameEnd s i=k):=by rw [HE.out]; exact zz (Lx.scan_no HP.out)
    clear HE hon;have hik:(i:Int)≤(k:Int):=by omega
    have hks:(k:Int)≤(s.size:Int):=by omega
    obtain ⟨B,hB⟩:∃ B,Lx.wordB (s.extract i k)=B:=⟨_,rfl⟩;have HB:=zz hB;clear hB;have HLW:=zz (wordB_short (t:=s.extract i k));have HXS:=zz (ext_size hk0 hk);go_wp2_with fail;refine (rat_as s k _ c rfl hs HC _).mono ?_;rintro e w1 ⟨rfl,rfl⟩;go_wp2_with fail;refine (rletter_as c false hkb HLk _).mono ?_;rintro e w1 ⟨rfl,rfl⟩;go_wp2_with fail;refine (rat_as s k _ c rfl hs HC _).mono ?_;rintro e w1 ⟨rfl,rfl⟩;go_wp2_with fail;refine (rdigit_as c false hkb HDk _).mono ?_;rintro e w1 ⟨rfl,rfl⟩;go_wp2_with fail;refine (rword_as _ B HB _).mono ?_;rintro e w1 ⟨rfl,rfl⟩;have hki:((k - i:Nat):Int)=(k:Int) - (i:Int):=by omega
    cases B
    · by_cases h30:30 < k - i
      · have h30':30 < (k:Int) - (i:Int):=by omega
        clear hki;have HT:Hid (Lx.tokenM s i=⟨6,k,0,⟨#[]⟩,0,false⟩):=by
         refine zz ?_;rw [HTM.out,HE2.out]; unfold Lx.nameM; rw [if_pos h30]
        clear h30;go_wp2_with fail;refine bodyPost_ret (v:=.tuple #[.agg #[.int .i64 1,.int .i64 (i:Int),.string (s.extract i k),.string ⟨#[]⟩,.int .u64 0,.bool false],.int .i64 6]) (by simp [results,Tryz.results27,go_sem]) rfl ?_;rw [HT.out];refine ⟨_,_,_,_,_,_,rfl,(fun h=>absurd h (show ¬ (6:Int)=0 by decide)),?_⟩
        repeat (first | with_reducible exact gn_refl _ | with_reducible refine gn_alloc ?_ _)
      · have h30':¬ 30 < (k:Int) - (i:Int):=by omega
        clear hki;have HT:Hid (Lx.tokenM s i=⟨0,k,1,⟨#[]⟩,0,false⟩):=by
         refine zz ?_;rw [HTM.out,HE2.out]; unfold Lx.nameM; rw [if_neg h30,HB.out]; rfl
        clear h30;go_wp2_with fail;refine bodyPost_ret (v:=.tuple #[.agg #[.int .i64 1,.int .i64 (i:Int),.string (s.extract i k),.string ⟨#[]⟩,.int .u64 0,.bool false],.int .i64 0]) (by simp [results,Tryz.results27,go_sem]) rfl ?_;rw [HT.out];refine ⟨_,_,_,_,_,_,rfl,(fun _=>⟨rfl,rfl,rfl,rfl,rfl,rfl⟩),?_⟩
        repeat (first | with_reducible exact gn_refl _ | with_reducible refine gn_alloc ?_ _)
    · have h30:¬ 30 < k - i:=by have:=HLW.out HB.out; rw [HXS.out] at this; omega
      clear hki;have HT:Hid (Lx.tokenM s i=⟨0,k,2,⟨#[]⟩,0,false⟩):=by
       refine zz ?_;rw [HTM.out,HE2.out]; unfold Lx.nameM; rw [if_neg h30,HB.out]; rfl
      clear h30;go_wp2_with fail;refine bodyPost_ret (v:=.tuple #[.agg #[.int .i64 2,.int .i64 (i:Int),.string (s.extract i k),.string ⟨#[]⟩,.int .u64 0,.bool false],.int .i64 0]) (by simp [results,Tryz.results27,go_sem]) rfl ?_;rw [HT.out];refine ⟨_,_,_,_,_,_,rfl,(fun _=>⟨rfl,rfl,rfl,rfl,rfl,rfl⟩),?_⟩
      repeat (first | with_reducible exact gn_refl _ | with_reducible refine gn_alloc ?_ _)
theorem chM_code (s:ByteArray) (i:Nat):(Lx.chM s i).1=0∨(Lx.chM s i).1=3:=by
 unfold Lx.chM; (repeat' split) <;> simp
theorem rone_num (s:ByteArray) (i:Nat) (hi:i < s.size) (hs:s.size≤4611686018427387904) (hL:Lx.letB (Lx.pk s i)=false) (hD:Lx.digB (Lx.pk s i)=true) (w:World) :
    Calls Tryz.prog 27 #[.string s,.int .i64 (i:Int)] w (RTok s i (Lx.tokenM s i) w):=by
 have q1:(i:Int) < (s.size:Int):=by omega
 have HTM:Hid (Lx.tokenM s i=Lx.numberM s i):=by
  refine zz ?_;unfold Lx.tokenM; rw [hL,hD]; rfl
 rw [HTM.out];have HN:=rnumber_any s i hi hs;obtain ⟨c0,hc0⟩:∃ c,(s[i].toNat:Int)=c:=⟨_,rfl⟩;have hcb:=Lx.pk_bd s i;rw [Lx.pk_lt hi] at hL hD hcb;rw [hc0] at hL hD hcb;have HL:=zz hL;have HD:=zz hD;clear hL hD HTM;obtain ⟨R,hR⟩:∃ R,Lx.numberM s i=R:=⟨_,rfl⟩;rw [hR] at HN ⊢;clear hR;have HNN:=zz HN;clear HN;go_enter Tryz.func27,Tryz.ntmps27;go_wp2_with fail;refine (rletter_as c0 false hcb HL _).mono ?_;rintro e w1 ⟨rfl,rfl⟩;go_wp2_with fail;refine (rdigit_as c0 true hcb HD _).mono ?_;rintro e w1 ⟨rfl,rfl⟩;go_wp2_with fail;refine (HNN.out _).mono ?_;rintro e w1 ⟨k,a,T,S,n,h,rfl,hok,hg⟩;have hsz:=hg.size;rw [heap_two] at hsz;have hrow:w1.heap[w.heap.size]?=some (.cells #[.int .i64 0,.int .i64 0,.string ⟨#[]⟩,.string ⟨#[]⟩,.int .u64 0,.bool false] 45 (0,0)):=(hg.block _ (by rw [heap_two]; omega) (by simp)).trans (heap_alloc_new w _);have HG:=zz hg;have HO:=zz hok;have HR:=zz hrow;clear hg hok hrow;obtain ⟨t0,t1,t2,t3,t4,t5,tf⟩:=(TokAt.mk HR.out:TokAt w.heap.size w1).cells;go_wp2_with fail;refine bodyPost_ret (v:=.tuple #[.agg #[.int .i64 k,.int .i64 a,.string T,.string S,.int .u64 n,.bool h],.int .i64 R.code]) ?_ ?_ ?_
 · simp [results,Tryz.results27,go_sem,t0,t1,t2,t3,t4,t5]
 · rfl
 · refine ⟨_,_,_,_,_,_,rfl,HO.out,?_⟩
   repeat (with_reducible refine gn_set ?_ (Nat.le_refl _) _ _)
   exact gn_trans (gn_alloc (gn_refl w) _) HG.out
theorem letB39:Lx.letB 39=false:=by decide
theorem digB39:Lx.digB 39=false:=by decide
theorem rone_char (s:ByteArray) (i:Nat) (hi:i < s.size) (hs:s.size≤4611686018427387904) (h39:Lx.pk s i=39) (w:World) :
    Calls Tryz.prog 27 #[.string s,.int .i64 (i:Int)] w (RTok s i (Lx.tokenM s i) w):=by
 have q1:(i:Int) < (s.size:Int):=by omega
 have hT:Lx.tokenM s i=⟨(Lx.chM s i).1,i+(Lx.chM s i).2.1,Lx.chK s i,⟨#[]⟩,(Lx.chM s i).2.2,false⟩:=by
  unfold Lx.tokenM; rw [h39,letB39,digB39]; rfl
 rw [hT];have hcc:=chM_code s i;have HK:Hid ((Lx.chM s i).1=0→Lx.chK s i=4):=zz (fun h=>by unfold Lx.chK; rw [if_pos h]);obtain ⟨C,hC⟩:∃ C,(Lx.chM s i).1=C:=⟨_,rfl⟩;have HN:=rchar_any s i hi hs;rw [hC] at hcc HK HN ⊢;rw [Lx.pk_lt hi] at h39;have q9:(s[i].toNat:Int)=39:=h39;clear h39 hT hC;obtain ⟨E,hE⟩:∃ E,i+(Lx.chM s i).2.1=E:=⟨_,rfl⟩;obtain ⟨V,hV⟩:∃ V,(Lx.chM s i).2.2=V:=⟨_,rfl⟩;rw [hE,hV] at HN ⊢;clear hE hV;have HNN:=zz HN;clear HN;rcases hcc with rfl | rfl
 · go_enter Tryz.func27,Tryz.ntmps27;go_wp2_with fail;refine (rletter_as 39 false (by decide) (zz letB39) _).mono ?_;rintro e w1 ⟨rfl,rfl⟩;go_wp2_with fail;refine (rdigit_as 39 false (by decide) (zz digB39) _).mono ?_;rintro e w1 ⟨rfl,rfl⟩;go_wp2_with fail;refine (HNN.out _).mono ?_;rintro e w1 ⟨T,m,rfl,hok,hg⟩;have hok:=hok rfl;obtain ⟨rfl,rfl⟩:=hok;have hsz:=hg.size;rw [heap_two] at hsz;have hrow:w1.heap[w.heap.size]?=some (.cells #[.int .i64 0,.int .i64 0,.string ⟨#[]⟩,.string ⟨#[]⟩,.int .u64 0,.bool false] 45 (0,0)):=(hg.block _ (by rw [heap_two]; omega) (by simp)).trans (heap_alloc_new w _);have HG:=zz hg;have HR:=zz hrow;clear hg hrow;have hne:w.heap.size < w1.heap.size:=by omega
   have hrb:∀ o:Obj,(w1.alloc o).heap[w.heap.size]?=some (.cells #[.int .i64 0,.int .i64 0,.string ⟨#[]⟩,.string ⟨#[]⟩,.int .u64 0,.bool false] 45 (0,0)):=fun o=>(Below.heap_alloc _ _ _ hne).trans HR.out
   have hrc:=fun (o:Obj) (j:Nat)=>row_cell _ _ #[.int .i64 4,.int .i64 (i:Int),.string (s.extract i E),.string ⟨#[]⟩,.int .u64 m,.bool false] (hrb o) j
   have HRB:=zz hrb;have HRC:=zz hrc;clear hrb hrc hne hsz;go_upto_region 17 with fail
   repeat (first | (refine wpList_store_row rfl _ _ _ rfl w.heap.size _ rfl rfl _ _ (HRB.out _) infoS rfl (one6 _ _ _ _ _ _) ?_) | go_values | go_skip | go_guarded | go_step | go_upon | go_back)
   have hrc:=HRC.out;refine bodyPost_ret (v:=.tuple #[.agg #[.int .i64 4,.int .i64 (i:Int),.string (s.extract i E),.string ⟨#[]⟩,.int .u64 m,.bool false],.int .i64 0]) ?_ ?_ ?_
   · simp [results,Tryz.results27,go_sem,hrc]
   · rfl
   · refine ⟨_,_,_,_,_,_,rfl,(fun _=>⟨(HK.out (by trivial)).symm,rfl,rfl,rfl,rfl,rfl⟩),?_⟩;exact gn_row (gn_alloc (gn_trans (gn_alloc (gn_refl w) _) HG.out) _) (Nat.le_refl _) _
 · have HN3:Hid (∀ w,Calls Tryz.prog 44 #[.string s,.int .i64 (i:Int)] w (RChar s i false E V w)):=zz (fun w=>HNN.out w);clear HNN;go_enter Tryz.func27,Tryz.ntmps27;go_wp2_with fail;refine (rletter_as 39 false (by decide) (zz letB39) _).mono ?_;rintro e w1 ⟨rfl,rfl⟩;go_wp2_with fail;refine (rdigit_as 39 false (by decide) (zz digB39) _).mono ?_;rintro e w1 ⟨rfl,rfl⟩;go_wp2_with fail;refine (HN3.out _).mono ?_;rintro e w1 ⟨T,m,rfl,hok,hg⟩;clear hok;have hsz:=hg.size;rw [heap_two] at hsz;have hrow:w1.heap[w.heap.size]?=some (.cells #[.int .i64 0,.int .i64 0,.string ⟨#[]⟩,.string ⟨#[]⟩,.int .u64 0,.bool false] 45 (0,0)):=(hg.block _ (by rw [heap_two]; omega) (by simp)).trans (heap_alloc_new w _);have HG:=zz hg;have HR:=zz hrow;clear hg hrow;have hne:w.heap.size < w1.heap.size:=by omega
   have hrb:∀ o:Obj,(w1.alloc o).heap[w.heap.size]?=some (.cells #[.int .i64 0,.int .i64 0,.string ⟨#[]⟩,.string ⟨#[]⟩,.int .u64 0,.bool false] 45 (0,0)):=fun o=>(Below.heap_alloc _ _ _ hne).trans HR.out
   have hrc:=fun (o:Obj) (j:Nat)=>row_cell _ _ #[.int .i64 4,.int .i64 (i:Int),.string T,.string ⟨#[]⟩,.int .u64 m,.bool false] (hrb o) j
   have HRB:=zz hrb;have HRC:=zz hrc;clear hrb hrc hne hsz;go_upto_region 16 with fail
   repeat (first | (refine wpList_store_row rfl _ _ _ rfl w.heap.size _ rfl rfl _ _ (HRB.out _) infoS rfl (one6 _ _ _ _ _ _) ?_) | go_values | go_skip | go_guarded | go_step | go_upon | go_back)
   have hrc:=HRC.out;refine bodyPost_ret (v:=.tuple #[.agg #[.int .i64 4,.int .i64 (i:Int),.string T,.string ⟨#[]⟩,.int .u64 m,.bool false],.int .i64 3]) ?_ ?_ ?_
   · simp [results,Tryz.results27,go_sem,hrc]
   · rfl
   · refine ⟨_,_,_,_,_,_,rfl,(fun h=>absurd h (show ¬ (3:Int)=0 by decide)),?_⟩;exact gn_row (gn_alloc (gn_trans (gn_alloc (gn_refl w) _) HG.out) _) (Nat.le_refl _) _
theorem rone_sign (s:ByteArray) (i:Nat) (hi:i < s.size) (hs:s.size≤4611686018427387904) (hL:Lx.letB (Lx.pk s i)=false) (hD:Lx.digB (Lx.pk s i)=false) (h39:Lx.pk s i≠39) (w:World) :
    Calls Tryz.prog 27 #[.string s,.int .i64 (i:Int)] w (RTok s i (Lx.tokenM s i) w):=by
 have q1:(i:Int) < (s.size:Int):=by omega
 have hT:Lx.tokenM s i=if Lx.signM (Lx.pk s i) (Lx.pk s (i+1)) (Lx.pk s (i+2))=0 then Lx.bad 3 i else ⟨0,i+Lx.signM (Lx.pk s i) (Lx.pk s (i+1)) (Lx.pk s (i+2)),5,⟨#[]⟩,0,false⟩:=by
  unfold Lx.tokenM; rw [hL,hD,if_neg (by decide),if_neg (by decide),if_neg h39]
 rw [← rsign_size] at hT;have hX:=rsign_text s i;obtain ⟨S,hS⟩:∃ S,rsign s i=S:=⟨_,rfl⟩;rw [hS] at hT hX;obtain ⟨c0,hc0⟩:∃ c,(s[i].toNat:Int)=c:=⟨_,rfl⟩;have hcb:=Lx.pk_bd s i;rw [Lx.pk_lt hi,hc0] at hL hD hcb h39;have q9:(c0==39)=false:=beq_eq_false_iff_ne.2 h39;have HS:=zz hS;have HL:=zz hL;have HD:=zz hD;have HT:=zz hT;have HX:=zz hX;rw [HT.out];clear hS hL hD hT hX h39;have hlen:S.toList.length=S.size:=by rw [ByteArray.toList_eq]; simp
 by_cases h0:S.size=0
 · have e1:S.toList=[]:=List.length_eq_zero_iff.1 (by rw [hlen]; exact h0);have e2:S.toList.isEmpty=true:=by rw [e1]; rfl
   rw [if_pos h0];clear h0 hlen HX HT;go_enter Tryz.func27,Tryz.ntmps27;go_wp2_with fail;refine (rletter_as c0 false hcb HL _).mono ?_;rintro e w1 ⟨rfl,rfl⟩;go_wp2_with fail;refine (rdigit_as c0 false hcb HD _).mono ?_;rintro e w1 ⟨rfl,rfl⟩;go_wp2_with fail;refine (rsign_as s i (by omega) hs S HS _).mono ?_;rintro e w1 ⟨rfl,n,rfl⟩;go_wp2_with fail;refine bodyPost_ret (v:=.tuple #[.agg #[.int .i64 5,.int .i64 (i:Int),.string S,.string ⟨#[]⟩,.int .u64 0,.bool false],.int .i64 3]) ?_ ?_ ?_
   · simp [results,Tryz.results27,go_sem]
   · rfl
   · refine ⟨_,_,_,_,_,_,rfl,(fun h=>absurd h (show ¬ (3:Int)=0 by decide)),?_⟩
     repeat (first | with_reducible exact gn_refl _ | with_reducible refine gn_alloc ?_ _ | with_reducible refine gn_drewN ?_ _ | with_reducible refine gn_set ?_ (Nat.le_refl _) _ _)
 · have e2:S.toList.isEmpty=false:=by
    cases he:S.toList with
    | nil=>rw [he] at hlen; exact absurd hlen.symm h0
    | cons a l=>rfl
   rw [if_neg h0];have HXX:=zz (HX.out h0).2;clear h0 hlen HX HT;go_enter Tryz.func27,Tryz.ntmps27;go_wp2_with fail;refine (rletter_as c0 false hcb HL _).mono ?_;rintro e w1 ⟨rfl,rfl⟩;go_wp2_with fail;refine (rdigit_as c0 false hcb HD _).mono ?_;rintro e w1 ⟨rfl,rfl⟩;go_wp2_with fail;refine (rsign_as s i (by omega) hs S HS _).mono ?_;rintro e w1 ⟨rfl,n,rfl⟩;go_wp2_with fail;refine bodyPost_ret (v:=.tuple #[.agg #[.int .i64 5,.int .i64 (i:Int),.string S,.string ⟨#[]⟩,.int .u64 0,.bool false],.int .i64 0]) ?_ ?_ ?_
   · simp [results,Tryz.results27,go_sem]
   · rfl
   · refine ⟨_,_,_,_,_,_,rfl,(fun _=>⟨rfl,rfl,HXX.out,rfl,rfl,rfl⟩),?_⟩
     repeat (first | with_reducible exact gn_refl _ | with_reducible refine gn_alloc ?_ _ | with_reducible refine gn_drewN ?_ _ | with_reducible refine gn_set ?_ (Nat.le_refl _) _ _)
theorem rone_any (s:ByteArray) (i:Nat) (hi:i < s.size) (hs:s.size≤4611686018427387904) (w:World) :
    Calls Tryz.prog 27 #[.string s,.int .i64 (i:Int)] w (RTok s i (Lx.tokenM s i) w):=by
 cases hL:Lx.letB (Lx.pk s i)
 · cases hD:Lx.digB (Lx.pk s i)
   · by_cases h39:Lx.pk s i=39
     · exact rone_char s i hi hs h39 w
     · exact rone_sign s i hi hs hL hD h39 w
   · exact rone_num s i hi hs hL hD w
 · exact rone_name s i hi hs hL w
end Go.Proofs.YtflbkdfbjofllaaGreatDoor.L
namespace Go.Proofs.YtflbkdfbjofllaaGreatDoor.L
open Go.RowKit
structure RInv (w:World) (v:Value) (l:List Lx.Tk) (wr:World):Prop where
 wrg:WrAt w.heap.size wr
 own:wr.ownsRow (w.heap.size+1) 45 6 v l.length (Lx.rowOf l)
 below:Below w.heap.size w wr
section
variable {w wr w':World} {v:Value} {l:List Lx.Tk}
theorem RInv.lt (h:RInv w v l wr):w.heap.size < wr.heap.size:=(Array.getElem?_eq_some_iff.1 h.wrg.a).1
theorem RInv.grow (h:RInv w v l wr) (k:wr.grownBy w' none):RInv w v l w' :=
 ⟨⟨(k.block _ h.lt (by simp)).trans h.wrg.a⟩,h.own.kept k (by cases hv:v.ownBlock with
  | none=>exact .inl rfl
  | some q=>exact .inr (by simp)),h.below.grown k (by have:=h.lt; omega) (fun q e=>by cases e)⟩
theorem RInv.alloc (h:RInv w v l wr) (o:Obj):RInv w v l (wr.alloc o):=h.grow (gn_alloc (gn_refl wr) o)
theorem RInv.ne (h:RInv w v l wr) {k:Nat} (hk:k < w.heap.size+1∨wr.heap.size≤k):v.ownBlock≠some k:=fun e=>by have:=h.own.lt k e; omega
theorem RInv.app {v':Value} {w1:World} {o:Obj} {t:Lx.Tk} (h:RInv w v l wr) (hg:(wr.alloc o).grownBy w1 v.ownBlock) (hown:w1.ownsRow (w.heap.size+1) 45 6 v' (l.length+1) (Lx.rowOf l++t.cells)):RInv w v' (l++[t]) w1:=by
 have a:=h.alloc o;refine ⟨⟨(hg.block _ a.lt (fun e=>h.ne (.inl (by omega)) e.symm)).trans a.wrg.a⟩,?_,?_⟩
 · rw [Lx.rowOf_snoc,List.length_append]; exact hown
 · exact a.below.grown hg (by have:=a.lt; omega) (fun q e=>by have:=(h.own.lt q e).1; omega)
theorem RInv.form (h:RInv w v l wr):∃ a cap,v=.slice a l.length cap:=by
 rcases h.own.2 with ⟨h1,h2⟩ | ⟨g,cap,cur,h1,_⟩
 · exact ⟨none,0,by rw [h2]; exact h1⟩
 · exact ⟨_,_,h1⟩
end
theorem rtokens_long (s:ByteArray) (h:20000 < s.size) (w:World):Calls Tryz.prog 17 #[.string s] w (TokensPost w (Lx.tokensM s)):=by
 have hr:Lx.tokensM s=⟨[],6,0⟩:=if_pos h;have HR:=zz hr;have h':(20000:Int) < (s.size:Int):=by omega
 clear hr;go_enter Tryz.func17,Tryz.ntmps17;go_wp2_with fail;refine bodyPost_ret (v:=.tuple #[.slice none 0 0,.agg #[.int .i64 6,.int .i64 0]]) (by simp [results,Tryz.results17,go_sem]) rfl (post_bad HR.out ?_)
 repeat (first | exact Below.refl _ _ | with_reducible refine Below.drew ?_ | (with_reducible refine Below.alloc ?_ ?_ _; rotate_left; first | exact Nat.le_refl _ | (simp; done) | (simp; omega)) | (with_reducible refine Below.setCell ?_ ?_ _; rotate_left; first | exact Nat.le_refl _ | (simp; done) | (simp; omega)))
theorem rtokens_short (s:ByteArray) (hs:s.size≤20000) (w:World):Calls Tryz.prog 17 #[.string s] w (TokensPost w (Lx.tokensM s)):=by
 have HR:Hid (Lx.tokensM s=Lx.toksM s (s.size+1) 0 []):=zz (if_neg (by omega));have hs':¬ (20000:Int) < (s.size:Int):=by omega
 have hm:s.size≤4611686018427387904:=by omega
 obtain ⟨i0,hi,hz0,hz1,hz2⟩:=info_parts infoT;have I0:Hid (RInv w (.slice none 0 0) [] (w.alloc (.cells #[.int .i64 0,.int .i64 0] 25))):=by
  refine ⟨⟨heap_alloc_new w _⟩,World.ownsRow_nil _ _ _ _,(Below.refl _ _).alloc (Nat.le_refl _) _⟩
 obtain ⟨⟨G0,B0⟩,hgap0⟩:∃ r,Lx.gap s s.size 0=r:=⟨_,rfl⟩;have HG0:=zz hgap0;clear hgap0;have HG00:Hid (∀ w1,Calls Tryz.prog 26 #[.string s,.int .i64 0] w1 fun e w'=>e=.returned (.tuple #[.int .i64 (G0:Int),.bool B0])∧w1=w'):=zz (fun w1=>rgap_as s 0 (by omega) hm G0 B0 HG0 w1);go_enter Tryz.func17,Tryz.ntmps17;go_wp2_with fail;refine (HG00.out _).mono ?_;rintro e w1 ⟨rfl,rfl⟩;go_wp2_with fail;go_loopg [4,5,6] s.size (fun g v x y wr=>∃ (i f j:Nat) (b:Bool) (l:List Lx.Tk),x=.int .i64 (j:Int)∧y=.bool b∧i≤s.size∧g=s.size - i∧g < f∧l.length≤6000∧Hid (Lx.gap s s.size i=(j,b))∧Hid (Lx.tokensM s=Lx.toksM s f i l)∧Hid (RInv w v l wr))
 case atStart=>exact ⟨0,s.size+1,G0,B0,[],rfl,rfl,Nat.zero_le _,rfl,by omega,by decide,HG0,HR,I0⟩
 case round =>
  obtain ⟨i,f,j,b,l,rfl,rfl,hi1,hg,hf,hl,HG,HE,T⟩:=hrel;clear HR I0 HG0;obtain ⟨f,rfl⟩:∃ f',f=f'+1:=⟨f - 1,by omega⟩;have hgb:=Lx.gap_bd (s:=s) s.size i hi1;rw [HG.out] at hgb;obtain ⟨hgb1,hgb2⟩:=hgb;simp only at hgb1 hgb2;cases b
  · have HE2:=zz (HE.out.trans (Lx.toks_bad HG.out));obtain ⟨t0,t1,tf⟩:=T.out.wrg.cells;clear HE;go_wp2_with fail;refine bodyPost_ret (v:=.tuple #[.slice none 0 0,.agg #[.int .i64 3,.int .i64 (j:Int)]]) (by simp [results,Tryz.results17,go_sem,t0,t1]) rfl (post_bad HE2.out ?_);exact (T.out.below.setCell (Nat.le_refl _) _).setCell (Nat.le_refl _) _
  · by_cases hend:j=s.size
    · have HE2:=zz (HE.out.trans (Lx.toks_end HG.out hend));have hq:¬ (j:Int) < (s.size:Int):=by omega
      obtain ⟨t0,t1,tf⟩:=T.out.wrg.cells;clear HE hend;go_wp2_with fail;refine bodyPost_ret (v:=.tuple #[u4,.agg #[.int .i64 0,.int .i64 0]]) (by simp [results,Tryz.results17,go_sem,t0,t1]) rfl ?_;rw [HE2.out];have hb:Below w.heap.size w _:=(T.out.below.setCell (p:=⟨w.heap.size,0,none⟩) (Nat.le_refl _) (.int .i64 0)).setCell (p:=⟨w.heap.size,1,none⟩) (Nat.le_refl _) (.int .i64 0);exact ⟨_,rfl,World.ownsRow.mono (ownsRow_setCell_below (ownsRow_setCell_below T.out.own (by show w.heap.size < _; omega) _) (by show w.heap.size < _; omega) _) (by omega),hb⟩
    · have hlt:j < s.size:=by omega
      have hq:(j:Int) < (s.size:Int):=by omega
      obtain ⟨r,hr⟩:∃ r,Lx.tokenM s j=r:=⟨_,rfl⟩;have hbd:=Lx.tokenM_bd hlt;have hN:=rone_any s j hlt hm;rw [hr] at hbd hN;have HRR:=zz hr;clear hr;obtain ⟨C,E,K,X,V,H⟩:=r;obtain ⟨hb1,hb2,hb3,hb4,hb5,hb6⟩:=hbd;simp only at hb1 hb2 hb3 hb4 hb5 hb6;have HN:=zz hN;clear hN;go_wp2_with fail;refine (HN.out _).mono ?_;rintro e w2 ⟨k,a,t,x,n,h,rfl,hok,hgr⟩;have T2:=zz (T.out.grow hgr);have HOK:=zz hok;clear HN hgr hok T;by_cases hC:C=0
      · subst hC;by_cases h6:l.length=6000
        · have HE2:=zz (HE.out.trans (Lx.toks_many HG.out hend (by rw [HRR.out]) h6));obtain ⟨a4,cap4,hf4⟩:=T2.out.form;rw [h6] at hf4;have T3:=zz (T2.out.alloc (.cells #[.int .i64 k,.int .i64 a,.string t,.string x,.int .u64 n,.bool h] 45));obtain ⟨t0,t1,tf⟩:=T3.out.wrg.cells;clear HE T2;subst hf4;go_wp2_with fail;refine bodyPost_ret (v:=.tuple #[.slice none 0 0,.agg #[.int .i64 6,.int .i64 (j:Int)]]) (by simp [results,Tryz.results17,go_sem,t0,t1]) rfl (post_bad HE2.out ?_);exact (T3.out.below.setCell (Nat.le_refl _) _).setCell (Nat.le_refl _) _
        · have HE2:=zz (HE.out.trans (Lx.toks_more HG.out hend (by rw [HRR.out]) h6));have hjE:j < E:=hb1 rfl;obtain ⟨rfl,rfl,rfl,rfl,rfl,rfl⟩:=HOK.out rfl;obtain ⟨a4,cap4,hf4⟩:=T2.out.form;have h6':((l.length:Int)==6000)=false:=beq_eq_false_iff_ne.2 (by omega);have T5:=zz (T2.out.alloc (.cells #[.int .i64 k,.int .i64 (j:Int),.string (s.extract j E),.string x,.int .u64 n,.bool h] 45));have HNE:=zz (T2.out.ne (.inr (Nat.le_refl _)));clear HE hb1 HOK;have hsz:=T2.out.lt;subst hf4;obtain ⟨⟨G,B⟩,hgap⟩:∃ r,Lx.gap s s.size E=r:=⟨_,rfl⟩;have HG2:=zz hgap;have hxs:(j:Int)+((E - j:Nat):Int)=(E:Int):=by omega
          have hE9:(E:Int)≤20000:=by omega
          have hx9:((E - j:Nat):Int)≤20000:=by omega
          have HXS:=zz hxs;clear hgap hxs;go_wp2_with (at_builtin; (refine wpList_append_own _ rfl _ _ 41 rfl (w.heap.size+1) 45 i0 (.agg #[.int .i64 0,.int .i64 0,.string ⟨#[]⟩,.string ⟨#[]⟩,.int .u64 0,.bool false]) 6 64 Tryz.underlying41 hi hz0 hz1 hz2 rfl (by decide) _ _ _ rfl (T5.out.own.alloc _) ⟨_,0,none⟩ 1 1 [.int .i64 k,.int .i64 (j:Int),.string (s.extract j E),.string x,.int .u64 n,.bool h] rfl rfl ?a1 ?b1 (by unfold maxLen; omega) (by omega) (by simp; omega) ?_))
          case a1 =>
           intro q u hq
           match q,hq with
           | 0,hq=>simp at hq; subst hq; simp [Addr.add]
           | 1,hq=>simp at hq; subst hq; simp [Addr.add]
           | 2,hq=>simp at hq; subst hq; simp [Addr.add]
           | 3,hq=>simp at hq; subst hq; simp [Addr.add]
           | 4,hq=>simp at hq; subst hq; simp [Addr.add]
           | 5,hq=>simp at hq; subst hq; simp [Addr.add]
          case b1=>intro u hu; simp at hu; rcases hu with rfl | rfl | rfl | rfl | rfl | rfl <;> rfl
          intro v' w4 hown' hgrow _;have T6:=zz (T5.out.app (t:=⟨k,j,s.extract j E,x,n,h⟩) hgrow hown');have G6:TokG w2.heap.size k (j:Int) (s.extract j E) x n h w4:=⟨(hgrow.block _ (by simp; omega) (fun e=>HNE.out e.symm)).trans ((Below.heap_alloc _ _ _ (by simp)).trans (heap_alloc_new w2 _))⟩;have g2:=G6.cells.2.2.1;clear hgrow hown' G6 hsz h6';have hxs:=HXS.out;go_wp2_with fail
          (with_reducible refine (rgap_as s E hb2 hm G B HG2 _).mono ?_)
          rintro e w5 ⟨rfl,rfl⟩;clear hxs g2;go_wp2_with fail;go_roundg (s.size - E)
          case rel =>
           refine ⟨E,f,G,B,l++[⟨k,j,s.extract j E,x,n,h⟩],rfl,rfl,hb2,rfl,by omega,by rw [List.length_append]; simp; omega,HG2,?_,T6⟩;rw [HE2.out,HRR.out]; exact zz rfl
          case measure=>omega
      · have HE2:=zz (HE.out.trans (Lx.toks_wrong HG.out hend (by rw [HRR.out]; exact hC)));rw [HRR.out] at HE2;have q1:(C==0)=false:=beq_eq_false_iff_ne.2 hC;have q2:(C != 0)=true:=bne_iff_ne.2 hC;have T3:=zz (T2.out.alloc (.cells #[.int .i64 k,.int .i64 a,.string t,.string x,.int .u64 n,.bool h] 45));obtain ⟨t0,t1,tf⟩:=T3.out.wrg.cells;clear HE T2 hb1;go_wp2_with fail;refine bodyPost_ret (v:=.tuple #[.slice none 0 0,.agg #[.int .i64 C,.int .i64 (j:Int)]]) (by simp [results,Tryz.results17,go_sem,t0,t1]) rfl (post_bad HE2.out ?_);exact (T3.out.below.setCell (Nat.le_refl _) _).setCell (Nat.le_refl _) _
end Go.Proofs.YtflbkdfbjofllaaGreatDoor.L
namespace Go.Proofs.YtflbkdfbjofllaaGreatDoor.L
open Go.RowKit
def hv (b:Int):Int→List UInt8→Int
 | a,[]=>a
 | a,d::l=>hv b (a * b+Lx.valB b (d.toNat:Int)) l
end Go.Proofs.YtflbkdfbjofllaaGreatDoor.L
namespace Go.Proofs.YtflbkdfbjofllaaGreatDoor.L
open Go.RowKit
def lb (l:List UInt8) (k:Nat):Int:=match l[k]? with | some b=>(b.toNat:Int) | none=>0
theorem pk_lb (s:ByteArray) (k:Nat):Lx.pk s k=lb s.data.toList k:=pk_list s k
theorem lb_left {a b:List UInt8} {k:Nat} (h:k < a.length):lb (a++b) k=lb a k:=by unfold lb; rw [List.getElem?_append_left h]
theorem lb_right {a b:List UInt8} {k:Nat} (h:a.length≤k):lb (a++b) k=lb b (k - a.length):=by unfold lb; rw [List.getElem?_append_right h]
theorem size_list (s:ByteArray):s.size=s.data.toList.length:=by simp
theorem scan_run {p:Nat→Bool} (e f i:Nat) (hi:i≤e) (hf:e≤i+f) (hp:∀ k,i≤k→k < e→p k=true) (he:p e=false):Lx.scan p f i=e:=by
 induction f generalizing i with
 | zero=>have:i=e:=by omega
         subst this; rfl
 | succ f ih =>
   by_cases h:i=e
   · subst h; exact Lx.scan_no he
   · rw [Lx.scan_yes (hp i (Nat.le_refl _) (by omega))];exact ih (i+1) (by omega) (by omega) (fun k hk=>hp k (by omega))
structure NameAt (s:ByteArray) (t:List UInt8):Prop where
 all:s.data.toList=[32]++t++[32,59]
 pos:0 < t.length
 nam:∀ b∈t,Lx.inB (b.toNat:Int)=true
 fst:Lx.letB (lb t 0)=true
section
variable {s:ByteArray} {t:List UInt8}
theorem NameAt.size (h:NameAt s t):s.size=t.length+3:=by rw [size_list,h.all]; simp
theorem NameAt.p0 (h:NameAt s t):Lx.pk s 0=32:=by rw [pk_lb,h.all]; rfl
theorem NameAt.ps (h:NameAt s t):Lx.pk s (2+t.length)=59:=by
 rw [pk_lb,h.all,lb_right (by simp; omega)];have:2+t.length - ([32]++t:List UInt8).length=1:=by simp; omega
 rw [this]; rfl
theorem NameAt.ext (h:NameAt s t) (B:ByteArray) (hB:B.data.toList=t):s.extract 1 (1+t.length)=B:=by
 apply ba_toList_inj;rw [ext_list,h.all,ByteArray.toList_eq,hB];simp
end
end Go.Proofs.YtflbkdfbjofllaaGreatDoor.L
namespace Go.Proofs.YtflbkdfbjofllaaGreatDoor.L
open Go.RowKit
theorem pk_drop (s:ByteArray) (p k:Nat):Lx.pk s (p+k)=lb (s.data.toList.drop p) k:=by
 rw [pk_lb]; unfold lb; rw [List.getElem?_drop]
end Go.Proofs.YtflbkdfbjofllaaGreatDoor.L
namespace Go.Proofs.YtflbkdfbjofllaaGreatDoor.L
open Go.RowKit
end Go.Proofs.YtflbkdfbjofllaaGreatDoor.L
namespace Go.Proofs.YtflbkdfbjofllaaGreatDoor.L
open Go.RowKit
theorem blank_not {c:Int} (h:Lx.blankB c=true):Lx.inB c=false∧c≠47∧c≠42∧c≠61∧c≠62∧c≠60∧c≠38∧c≠124∧c≠108∧c≠117∧c≠120:=by
 have h1:=(Lx.blankB_iff c).1 h;rcases h1 with rfl | rfl | rfl | rfl <;> decide
theorem blank_val {c:Int} (h:Lx.blankB c=true) (b:Int):Lx.valB b c < 0:=by
 have h1:=(Lx.blankB_iff c).1 h;have hd:Lx.digB c=false:=by rcases h1 with rfl | rfl | rfl | rfl <;> decide
 unfold Lx.valB;rw [hd,if_neg (by decide),if_neg (by omega),if_neg (by omega)]; decide
theorem ul_val {c:Int} (h:c=117∨c=108) (b:Int):Lx.valB b c < 0:=by
 have hd:Lx.digB c=false:=by rcases h with rfl | rfl <;> decide
 unfold Lx.valB;rw [hd,if_neg (by decide),if_neg (by omega),if_neg (by omega)]; decide
structure Moved (s s':ByteArray) (i p:Nat) (t:List UInt8):Prop where
 a:∃ r,s.data.toList.drop i=t++r
 b:∃ c r,s'.data.toList.drop p=t++c::r∧Lx.blankB (c.toNat:Int)=true
section
variable {s s':ByteArray} {i p:Nat} {t:List UInt8}
theorem Moved.eq (h:Moved s s' i p t) {k:Nat} (hk:k < t.length):Lx.pk s' (p+k)=Lx.pk s (i+k):=by
 obtain ⟨r,ha⟩:=h.a;obtain ⟨c,r',hb,_⟩:=h.b;rw [pk_drop,pk_drop,ha,hb,lb_left hk,lb_left hk]
theorem Moved.eq0 (h:Moved s s' i p t) (hk:0 < t.length):Lx.pk s' p=Lx.pk s i:=h.eq hk
theorem Moved.blank (h:Moved s s' i p t):Lx.blankB (Lx.pk s' (p+t.length))=true:=by
 obtain ⟨c,r',hb,hc⟩:=h.b;rw [pk_drop,hb,lb_right (Nat.le_refl _),Nat.sub_self]; exact hc
theorem Moved.lt (h:Moved s s' i p t):p+t.length < s'.size:=Lx.pk_in (fun h0=>by have:=h.blank; rw [h0] at this; exact absurd this (by decide))
theorem Moved.ext (h:Moved s s' i p t):s'.extract p (p+t.length)=s.extract i (i+t.length):=by
 obtain ⟨r,ha⟩:=h.a;obtain ⟨c,r',hb,_⟩:=h.b;have e1:(s'.extract p (p+t.length)).toList=t:=by rw [ext_list,hb]; simp
 have e2:(s.extract i (i+t.length)).toList=t:=by rw [ext_list,ha]; simp
 rw [ByteArray.toList_eq] at e1 e2;exact ByteArray.ext (Array.toList_inj.1 (e1.trans e2.symm))
theorem Moved.drop (h:Moved s s' i p t) {k:Nat} (hk:k≤t.length):Moved s s' (i+k) (p+k) (t.drop k):=by
 obtain ⟨r,ha⟩:=h.a;obtain ⟨c,r',hb,hc⟩:=h.b;refine ⟨⟨r,?_⟩,⟨c,r',?_,hc⟩⟩
 · rw [← List.drop_drop,ha,List.drop_append_of_le_length hk]
 · rw [← List.drop_drop,hb,List.drop_append_of_le_length hk]
theorem name_moved (h:Moved s s' i p t) (hj:Lx.nameEnd s i=i+t.length):Lx.nameEnd s' p=p+t.length∧Lx.nameM s' p (p+t.length)=Lx.nameM s i (i+t.length):=by
 constructor
 · refine scan_run (p+t.length) s'.size p (by omega) (by have:=h.lt; omega) (fun k h1 h2=>?_) ?_
   · have e:=h.eq (k:=k - p) (by omega);rw [show p+(k - p)=k by omega] at e
     have:=Lx.scan_all (Lx.nameP s) s.size i (i+(k - p)) (by omega) (by have:Lx.scan (Lx.nameP s) s.size i=i+t.length:=hj
                                                                        omega)
     unfold Lx.nameP at this ⊢;rw [e]; exact this
   · exact (blank_not h.blank).1
 · unfold Lx.nameM;rw [h.ext,show p+t.length - p=t.length by omega,show i+t.length - i=t.length by omega]
theorem digs_ge (b:Int):∀ (f k:Nat) (a:Int) (ok:Bool),k≤(Lx.digs s b f k a ok).1:=by
 intro f
 induction f with
 | zero=>intro k a ok; exact Nat.le_refl _
 | succ f ih =>
   intro k a ok;by_cases h0:0≤Lx.valB b (Lx.pk s k)
   · rw [Lx.digs_yes h0]; have:=ih (k+1) ((a * b+Lx.valB b (Lx.pk s k)) % 18446744073709551616) (ok&&decide (a≤(18446744073709551615 - Lx.valB b (Lx.pk s k)) / b)); omega
   · rw [Lx.digs_no h0]; exact Nat.le_refl _
theorem digs_moved (b:Int):∀ (f f' k k':Nat) (a:Int) (ok:Bool) (m:Nat) (v:Int) (o:Bool),Lx.digs s b f k a ok=(k+m,v,o)→(∀ q,q < m→Lx.pk s' (k'+q)=Lx.pk s (k+q))→Lx.valB b (Lx.pk s' (k'+m)) < 0→m≤f' →
    Lx.digs s' b f' k' a ok=(k'+m,v,o):=by
 intro f
 induction f with
 | zero =>
   intro f' k k' a ok m v o h hq hv hf;have h':(k,a,ok)=(k+m,v,o):=h;simp only [Prod.mk.injEq] at h';obtain ⟨h1,rfl,rfl⟩:=h';obtain rfl:m=0:=by omega
   rw [Lx.digs_no (by simpa using hv)]; rfl
 | succ f ih =>
   intro f' k k' a ok m v o h hq hv hf;by_cases h0:0≤Lx.valB b (Lx.pk s k)
   · rw [Lx.digs_yes h0] at h;have hm:=digs_ge (s:=s) b f (k+1) ((a * b+Lx.valB b (Lx.pk s k)) % 18446744073709551616) (ok&&decide (a≤(18446744073709551615 - Lx.valB b (Lx.pk s k)) / b));rw [h] at hm;simp only at hm;obtain ⟨m,rfl⟩:∃ m',m=m'+1:=⟨m - 1,by omega⟩;obtain ⟨f',rfl⟩:∃ g,f'=g+1:=⟨f' - 1,by omega⟩;have e0:Lx.pk s' k'=Lx.pk s k:=hq 0 (by omega);rw [Lx.digs_yes (by rw [e0]; exact h0),e0];rw [ih f' (k+1) (k'+1) _ _ m v o (by rw [h]; congr 1; omega) (fun q hq1=>by
      have:=hq (q+1) (by omega);rw [show k'+1+q=k'+(q+1) by omega,show k+1+q=k+(q+1) by omega]; exact this) (by rw [show k'+1+m=k'+(m+1) by omega]; exact hv) (by omega)]
     congr 1; omega
   · rw [Lx.digs_no h0] at h;simp only [Prod.mk.injEq] at h;obtain ⟨h1,rfl,rfl⟩:=h;obtain rfl:m=0:=by omega
     rw [Lx.digs_no (by simpa using hv)]; rfl
theorem suf_moved {k k' m n:Nat} (hn:m+Lx.sufLen s (k+m)=n) (hq:∀ q,q < n→Lx.pk s' (k'+q)=Lx.pk s (k+q)) (hb:Lx.blankB (Lx.pk s' (k'+n))=true) :
    Lx.sufLen s' (k'+m)=Lx.sufLen s (k+m)∧Lx.sufStr s' (k'+m)=Lx.sufStr s (k+m)∧∀ b,Lx.valB b (Lx.pk s' (k'+m)) < 0:=by
 have hnb:=blank_not hb;by_cases h1:Lx.pk s (k+m)=117
 · by_cases h2:Lx.pk s (k+m+1)=108
   · have hl:Lx.sufLen s (k+m)=2:=by unfold Lx.sufLen; rw [if_pos h1,if_pos h2]
     have e1:=hq m (by omega);have e2:=hq (m+1) (by omega);rw [← Nat.add_assoc,← Nat.add_assoc] at e2;refine ⟨?_,?_,fun b=>ul_val (.inl (by rw [e1,h1])) b⟩
     · unfold Lx.sufLen; rw [e1,e2]
     · unfold Lx.sufStr; rw [e1,e2]
   · have hl:Lx.sufLen s (k+m)=1:=by unfold Lx.sufLen; rw [if_pos h1,if_neg h2]
     have e1:=hq m (by omega);have e2:¬ Lx.pk s' (k'+m+1)=108:=by rw [show k'+m+1=k'+n by omega]; exact hnb.2.2.2.2.2.2.2.2.1
     refine ⟨?_,?_,fun b=>ul_val (.inl (by rw [e1,h1])) b⟩
     · unfold Lx.sufLen; rw [e1,if_pos h1,if_pos h1,if_neg e2,if_neg h2]
     · unfold Lx.sufStr; rw [e1,if_pos h1,if_pos h1,if_neg e2,if_neg h2]
 · by_cases h2:Lx.pk s (k+m)=108
   · have hl:Lx.sufLen s (k+m)=1:=by unfold Lx.sufLen; rw [if_neg h1,if_pos h2]
     have e1:=hq m (by omega);refine ⟨?_,?_,fun b=>ul_val (.inr (by rw [e1,h2])) b⟩
     · unfold Lx.sufLen; rw [e1,if_neg h1,if_neg h1]
     · unfold Lx.sufStr; rw [e1,if_neg h1,if_neg h1]
   · have hl:Lx.sufLen s (k+m)=0:=by unfold Lx.sufLen; rw [if_neg h1,if_neg h2]
     obtain rfl:m=n:=by omega
     refine ⟨?_,?_,fun b=>blank_val hb b⟩
     · unfold Lx.sufLen; rw [if_neg h1,if_neg h2,if_neg hnb.2.2.2.2.2.2.2.2.2.1,if_neg hnb.2.2.2.2.2.2.2.2.1]
     · unfold Lx.sufStr; rw [if_neg h1,if_neg h2,if_neg hnb.2.2.2.2.2.2.2.2.2.1,if_neg hnb.2.2.2.2.2.2.2.2.1]
theorem tail_moved {b:Int} {hex:Bool} (h:Moved s s' i p t) (ht:0 < t.length) (hc:(Lx.tailM s b i hex).code=0) (hj:(Lx.tailM s b i hex).j=i+t.length) :
    Lx.tailM s' b p hex={ Lx.tailM s b i hex with j:=p+t.length }:=by
 have hC:Lx.nCode s b i=0:=by
  unfold Lx.tailM at hc;by_cases h0:Lx.nCode s b i=0
  · exact h0
  · rw [if_neg h0] at hc; exact hc
 have hE:Lx.nEnd s b i=i+t.length:=by
  unfold Lx.tailM at hj; rw [if_pos hC] at hj; exact hj
 obtain ⟨⟨e,v,o⟩,hd⟩:∃ r,Lx.digM s b i=r:=⟨_,rfl⟩;have hei:i≤e:=by
  unfold Lx.digM at hd;split at hd
  · simp only [Prod.mk.injEq] at hd; omega
  · have:=digs_ge (s:=s) b s.size i 0 true; rw [hd] at this; exact this
 obtain ⟨m,rfl⟩:∃ m,e=i+m:=⟨e - i,by omega⟩;have hn:m+Lx.sufLen s (i+m)=t.length:=by unfold Lx.nEnd at hE; rw [hd] at hE; simp only at hE; omega
 have ho:o=true:=by
  unfold Lx.nCode at hC;rw [hd] at hC;split at hC
  · exact absurd hC (by decide)
  · simp only at hC;split at hC
    · assumption
    · exact absurd hC (by decide)
 obtain ⟨s1,s2,s3⟩:=suf_moved (k:=i) (k':=p) hn (fun q hq=>h.eq hq) h.blank;have hd':Lx.digM s' b p=(p+m,v,o):=by
  unfold Lx.digM at hd ⊢;rw [h.eq0 ht];split
  · next h0 =>
    rw [if_pos h0] at hd;simp only [Prod.mk.injEq] at hd;obtain ⟨h1,h2,h3⟩:=hd;rw [← h2,← h3]; congr 1; omega
  · next h0 =>
    rw [if_neg h0] at hd;exact digs_moved b s.size s'.size i p 0 true m v o hd (fun q hq=>h.eq (by omega)) (s3 b) (by have:=h.lt; omega)
 have hE':Lx.nEnd s' b p=p+t.length:=by unfold Lx.nEnd; rw [hd']; simp only; rw [s1]; omega
 have hC':Lx.nCode s' b p=0:=by
  unfold Lx.nCode;rw [hE',(blank_not h.blank).1,if_neg (by decide),hd',if_pos ho]
 unfold Lx.tailM;rw [if_pos hC,if_pos hC',hE',hd,hd',s2]
theorem number_moved (h:Moved s s' i p t) (hi:i < s.size) (hD:Lx.digB (Lx.pk s i)=true) (ht:0 < t.length) (hc:(Lx.numberM s i).code=0) (hj:(Lx.numberM s i).j=i+t.length) :
    Lx.numberM s' p={ Lx.numberM s i with j:=p+t.length }:=by
 by_cases hx:Lx.pk s i=48∧Lx.pk s (i+1)=120
 · unfold Lx.numberM at hc hj;rw [if_pos hx] at hc hj;by_cases hv:Lx.valB 16 (Lx.pk s (i+2)) < 0
   · rw [if_pos hv] at hc; exact absurd hc (show ¬ (3:Int)=0 by decide)
   · rw [if_neg hv] at hc hj;have hC:Lx.nCode s 16 (i+2)=0:=by
      unfold Lx.tailM at hc;by_cases h0:Lx.nCode s 16 (i+2)=0
      · exact h0
      · rw [if_neg h0] at hc; exact hc
     have hE:Lx.nEnd s 16 (i+2)=i+t.length:=by
      unfold Lx.tailM at hj; rw [if_pos hC] at hj; exact hj
     have hlt:=Lx.valB_in (s:=s) (b:=16) (k:=i+2) (by omega);have hgt:=Lx.digs_gt (s:=s) (b:=16) (n:=0) (ok:=true) hlt (by omega) ⟨by decide,by decide⟩;have h3:2 < t.length:=by
      unfold Lx.nEnd Lx.digM at hE;rw [if_neg (by omega)] at hE;omega
     have hM:=h.drop (k:=2) (by omega);have hl:(t.drop 2).length=t.length - 2:=List.length_drop;have hT:=tail_moved hM (by omega) hc (by rw [hj,hl]; omega);rw [hl,show p+2+(t.length - 2)=p+t.length by omega] at hT;have e0:=h.eq0 ht;have e1:=h.eq (k:=1) (by omega);have e2:=h.eq (k:=2) (by omega);unfold Lx.numberM;rw [if_pos hx,if_neg hv,e0,e1,if_pos hx,e2,if_neg hv,hT]
 · unfold Lx.numberM at hc hj;rw [if_neg hx] at hc hj;have hx':¬ (Lx.pk s' p=48∧Lx.pk s' (p+1)=120):=by
    rintro ⟨h0,h1⟩;by_cases h2:1 < t.length
    · rw [h.eq0 ht] at h0; rw [h.eq h2] at h1; exact hx ⟨h0,h1⟩
    · have:=h.blank;rw [show t.length=1 by omega] at this;exact (blank_not this).2.2.2.2.2.2.2.2.2.2 h1
   unfold Lx.numberM;rw [if_neg hx,if_neg hx'];exact tail_moved h ht hc hj
theorem ch_moved (h:Moved s s' i p t) (hc:(Lx.chM s i).1=0) (hj:(Lx.chM s i).2.1=t.length):Lx.chM s' p=Lx.chM s i:=by
 by_cases h92:Lx.pk s (i+1)=92
 · have h4:t.length=4:=by
    rw [← hj];unfold Lx.chM at hc ⊢;rw [if_pos h92] at hc ⊢;split at hc
    · next h2 =>
      rw [if_pos h2];split at hc
      · next h3=>rw [if_pos h3]
      · exact absurd hc (by decide)
    · exact absurd hc (by decide)
   unfold Lx.chM;rw [h.eq (k:=1) (by omega),h.eq (k:=2) (by omega),h.eq (k:=3) (by omega)]
 · have h3:t.length=3:=by
    rw [← hj];unfold Lx.chM at hc ⊢;rw [if_neg h92] at hc ⊢;split at hc
    · exact absurd hc (by decide)
    · next h2 =>
      rw [if_neg h2];split at hc
      · next h3=>rw [if_pos h3]
      · exact absurd hc (by decide)
   unfold Lx.chM;rw [h.eq (k:=1) (by omega),h.eq (k:=2) (by omega),if_neg h92,if_neg h92]
theorem sign_one {c d e d' e':Int} (hb:Lx.blankB d'=true) (h:Lx.signM c d e=1):Lx.signM c d' e'=1:=by
 obtain ⟨n1,n2,n3,n4,n5,n6,n7,n8,n9,n10,n11⟩:=blank_not hb;unfold Lx.signM at h ⊢;by_cases h1:c=60∨c=62
 · rw [if_pos h1,if_neg (by omega),if_neg (by omega)]
 · rw [if_neg h1] at h ⊢;by_cases h2:c=45
   · rw [if_pos h2,if_neg (by omega)]
   · rw [if_neg h2] at h ⊢;by_cases h3:c=38∨c=124
     · rw [if_pos h3,if_neg (by omega)]
     · rw [if_neg h3] at h ⊢;by_cases h4:c=43∨c=42∨c=47∨c=37∨c=94∨c=61∨c=33
       · rw [if_pos h4,if_neg (by omega)]
       · rw [if_neg h4] at h ⊢; exact h
theorem sign_two {c d e e':Int} (hb:Lx.blankB e'=true) (h:Lx.signM c d e=2):Lx.signM c d e'=2:=by
 obtain ⟨n1,n2,n3,n4,n5,n6,n7,n8,n9,n10,n11⟩:=blank_not hb;unfold Lx.signM at h ⊢;by_cases h1:c=60∨c=62
 · rw [if_pos h1] at h ⊢;by_cases h5:d=c∧e=61
   · rw [if_pos h5] at h; omega
   · rw [if_neg h5] at h; rw [if_neg (by omega)]; exact h
 · rw [if_neg h1] at h ⊢; exact h
theorem sign_moved (h:Moved s s' i p t) (ht:0 < t.length) (hj:Lx.signM (Lx.pk s i) (Lx.pk s (i+1)) (Lx.pk s (i+2))=t.length):Lx.signM (Lx.pk s' p) (Lx.pk s' (p+1)) (Lx.pk s' (p+2))=t.length:=by
 have hle:=Lx.signM_le (Lx.pk s i) (Lx.pk s (i+1)) (Lx.pk s (i+2));have hb:=h.blank;rw [h.eq0 ht];by_cases h1:t.length=1
 · rw [h1] at hj hb ⊢; exact sign_one hb hj
 · rw [h.eq (k:=1) (by omega)];by_cases h2:t.length=2
   · rw [h2] at hj hb ⊢; exact sign_two hb hj
   · rw [h.eq (k:=2) (by omega)]; exact hj
theorem tok_moved (h:Moved s s' i p t) (hi:i < s.size) (hc:(Lx.tokenM s i).code=0) (hj:(Lx.tokenM s i).j=i+t.length) :
    Lx.tokenM s' p={ Lx.tokenM s i with j:=p+t.length }:=by
 have ht:0 < t.length:=by have:=(Lx.tokenM_bd hi).1 hc; omega
 have e0:=h.eq0 ht;by_cases hL:Lx.letB (Lx.pk s i)=true
 · unfold Lx.tokenM at hj hc ⊢;rw [if_pos hL] at hj hc ⊢;simp only at hj hc ⊢;obtain ⟨h1,h2⟩:=name_moved h hj;rw [if_pos (by rw [e0]; exact hL),h1,h2,hj]
 · by_cases hD:Lx.digB (Lx.pk s i)=true
   · unfold Lx.tokenM at hj hc ⊢;rw [if_neg hL,if_pos hD] at hj hc ⊢;rw [if_neg (by rw [e0]; exact hL),if_pos (by rw [e0]; exact hD)];exact number_moved h hi hD ht hc hj
   · by_cases hQ:Lx.pk s i=39
     · unfold Lx.tokenM at hj hc ⊢;rw [if_neg hL,if_neg hD,if_pos hQ] at hj hc ⊢;rw [if_neg (by rw [e0]; exact hL),if_neg (by rw [e0]; exact hD),if_pos (by rw [e0]; exact hQ)];simp only at hj hc ⊢;have hch:=ch_moved h hc (by omega);unfold Lx.chK;rw [hch,show (Lx.chM s i).2.1=t.length by omega]
     · unfold Lx.tokenM at hj hc ⊢;rw [if_neg hL,if_neg hD,if_neg hQ] at hj hc ⊢;rw [if_neg (by rw [e0]; exact hL),if_neg (by rw [e0]; exact hD),if_neg (by rw [e0]; exact hQ)];by_cases hz:Lx.signM (Lx.pk s i) (Lx.pk s (i+1)) (Lx.pk s (i+2))=0
       · rw [if_pos hz] at hc; exact absurd hc (show ¬ (3:Int)=0 by decide)
       · rw [if_neg hz] at hj ⊢;simp only at hj ⊢;have hs:=sign_moved h ht (by omega);rw [hs,if_neg (by omega)]
end
end Go.Proofs.YtflbkdfbjofllaaGreatDoor.L
namespace Go.Proofs.YtflbkdfbjofllaaGreatDoor.L
open Go.RowKit
def Start (s:ByteArray) (g:Nat):Prop:=Lx.blankB (Lx.pk s g)=false∧¬ (Lx.pk s g=47∧Lx.pk s (g+1)=47)∧¬ (Lx.pk s g=47∧Lx.pk s (g+1)=42)
theorem gap_start {s:ByteArray}:∀ (f i:Nat) {g:Nat},Lx.gap s f i=(g,true)→g < s.size→s.size≤i+f→Start s g:=by
 intro f
 induction f with
 | zero=>intro i g h hg hf; simp only [Lx.gap,Prod.mk.injEq] at h; omega
 | succ f ih =>
   intro i g h hg hf;by_cases h0:i < s.size
   · by_cases hb:Lx.blankB (Lx.pk s i)=true
     · rw [Lx.gap_blank h0 hb] at h; exact ih (i+1) h hg (by omega)
     · by_cases h1:Lx.pk s i=47∧Lx.pk s (i+1)=47
       · rw [Lx.gap_line h0 h1.1 h1.2] at h;have:=Lx.lineEnd_gt h0 h1.1;exact ih _ h hg (by omega)
       · by_cases h2:Lx.pk s i=47∧Lx.pk s (i+1)=42
         · rw [Lx.gap_block h0 h2.1 h2.2] at h;split at h
           · have:=Lx.blockEnd_ge s (i+2); exact ih _ h hg (by omega)
           · simp only [Prod.mk.injEq] at h; exact absurd h.2 (by decide)
         · have hb':Lx.blankB (Lx.pk s i)=false:=by simpa using hb
           rw [Lx.gap_stop hb' h1 h2] at h;simp only [Prod.mk.injEq,and_true] at h;subst h; exact ⟨hb',h1,h2⟩
   · rw [Lx.gap_end h0] at h; simp only [Prod.mk.injEq,and_true] at h; omega
theorem Start.gap {s:ByteArray} {g:Nat} (h:Start s g) (f:Nat):Lx.gap s f g=(g,true):=Lx.gap_stop h.1 h.2.1 h.2.2
theorem Start.moved {s s':ByteArray} {i p:Nat} {t:List UInt8} (h:Start s i) (m:Moved s s' i p t) (ht:0 < t.length):Start s' p:=by
 have e0:=m.eq0 ht;by_cases h2:1 < t.length
 · have e1:=m.eq (k:=1) h2;unfold Start; rw [e0,e1]; exact h
 · have hb:=m.blank;rw [show t.length=1 by omega] at hb;have:=blank_not hb;exact ⟨by rw [e0]; exact h.1,fun hh=>this.2.1 hh.2,fun hh=>this.2.2.1 hh.2⟩
def Chain (s:ByteArray):Nat→List Lx.Tk→Prop
 | _,[]=>True
 | i,t::L=>∃ g,i≤g∧g < s.size∧Start s g∧(Lx.tokenM s g).code=0∧t=Lx.tkOf s g (Lx.tokenM s g)∧Chain s (Lx.tokenM s g).j L
theorem toks_chain (s:ByteArray):∀ (f i:Nat) (acc:List Lx.Tk),i≤s.size→acc.length≤6000→∀ r,Lx.toksM s f i acc=r→(r.code=0∧r.l.length≤6000∧∃ L,r.l=acc++L∧Chain s i L)∨(r.code≠0∧r.l=[]):=by
 intro f
 induction f with
 | zero=>intro i acc hi ha r hr; subst hr; exact .inl ⟨rfl,ha,[],by rw [List.append_nil]; rfl,trivial⟩
 | succ f ih =>
   intro i acc hi ha r hr;obtain ⟨⟨g,b⟩,hg⟩:∃ r,Lx.gap s s.size i=r:=⟨_,rfl⟩;have hb:=Lx.gap_bd (s:=s) s.size i hi;rw [hg] at hb;simp only at hb;cases b
   · rw [Lx.toks_bad hg] at hr; subst hr; exact .inr ⟨show ¬ (3:Int)=0 by decide,rfl⟩
   · by_cases he:g=s.size
     · rw [Lx.toks_end hg he] at hr; subst hr; exact .inl ⟨rfl,ha,[],by rw [List.append_nil],trivial⟩
     · by_cases hc:(Lx.tokenM s g).code=0
       · by_cases hn:acc.length=6000
         · rw [Lx.toks_many hg he hc hn] at hr; subst hr; exact .inr ⟨show ¬ (6:Int)=0 by decide,rfl⟩
         · rw [Lx.toks_more hg he hc hn] at hr;have hbd:=Lx.tokenM_bd (s:=s) (i:=g) (by omega);rcases ih _ _ hbd.2.1 (by rw [List.length_append]; simp; omega) r hr with ⟨h1,h2,L,h3,h4⟩ | h
           · refine .inl ⟨h1,h2,Lx.tkOf s g (Lx.tokenM s g)::L,by rw [h3,List.append_assoc]; rfl,g,hb.1,by omega,gap_start _ _ hg (by omega) (by omega),hc,rfl,h4⟩
           · exact .inr h
       · rw [Lx.toks_wrong hg he hc] at hr; subst hr; exact .inr ⟨hc,rfl⟩
def noAt (t:Lx.Tk):Lx.Tk:={ t with at_:=0 }
theorem chain_text {s:ByteArray} {g:Nat} (hg:g < s.size) (hc:(Lx.tokenM s g).code=0):(Lx.tokenM s g).j=g+(s.extract g (Lx.tokenM s g).j).data.toList.length∧∃ r,s.data.toList.drop g=(s.extract g (Lx.tokenM s g).j).data.toList++r:=by
 have hbd:=Lx.tokenM_bd hg;have h1:=hbd.1 hc;obtain ⟨n,hn⟩:∃ n,(Lx.tokenM s g).j=g+n:=⟨(Lx.tokenM s g).j - g,by omega⟩;have h2:=hbd.2.1;rw [hn] at h2 ⊢;have e:(s.extract g (g+n)).data.toList=(s.data.toList.drop g).take n:=by rw [← ByteArray.toList_eq]; exact ext_list s g n
 refine ⟨?_,(s.data.toList.drop g).drop n,by rw [e]; exact (List.take_append_drop n _).symm⟩;rw [e,List.length_take,List.length_drop,← size_list]; omega
theorem chain_len (s:ByteArray):∀ (L:List Lx.Tk) (i:Nat),Chain s i L→L.length≤s.size - i:=by
 intro L
 induction L with
 | nil=>intro i _; exact Nat.zero_le _
 | cons t L ih =>
   intro i h;obtain ⟨g,hg1,hg2,hS,hc,ht,hC'⟩:=h;have:=ih _ hC';have:=(Lx.tokenM_bd hg2).1 hc;rw [List.length_cons]; omega
def endOf:Nat→List Lx.Tk→Nat
 | e,[]=>e
 | _,t::L=>endOf (t.at_+t.text.size) L
theorem chain_each (s:ByteArray):∀ (L:List Lx.Tk) (i:Nat),Chain s i L→∀ (A:List Lx.Tk) (t:Lx.Tk) (B:List Lx.Tk),L=A++t::B→endOf i A≤t.at_∧t.at_+t.text.size≤s.size∧s.extract t.at_ (t.at_+t.text.size)=t.text∧0 < t.text.size:=by
 intro L
 induction L with
 | nil=>intro i _ A t B h; cases A <;> cases h
 | cons a L ih =>
   intro i h A t B hL;obtain ⟨g,hg1,hg2,hS,hc,ht,hC'⟩:=h;obtain ⟨hj,hr⟩:=chain_text hg2 hc;have hbd:=Lx.tokenM_bd hg2;have hz:(s.extract g (Lx.tokenM s g).j).size=(Lx.tokenM s g).j - g:=by
    have:=size_list (s.extract g (Lx.tokenM s g).j); omega
   have hp:=hbd.1 hc;cases A with
   | nil =>
     rw [List.nil_append] at hL;injection hL with h1 h2;subst h1;rw [ht];show i≤g∧g+(s.extract g (Lx.tokenM s g).j).size≤s.size∧s.extract g (g+(s.extract g (Lx.tokenM s g).j).size)=s.extract g (Lx.tokenM s g).j∧0 < (s.extract g (Lx.tokenM s g).j).size;rw [hz,show g+((Lx.tokenM s g).j - g)=(Lx.tokenM s g).j by omega];exact ⟨hg1,hbd.2.1,rfl,by omega⟩
   | cons a' A =>
     rw [List.cons_append] at hL;injection hL with h1 h2;subst h1;have:=ih _ hC' A t B h2;have he:a.at_+a.text.size=(Lx.tokenM s g).j:=by
      rw [ht];show g+(s.extract g (Lx.tokenM s g).j).size=_;omega
     show endOf (a.at_+a.text.size) A≤_∧_;rw [he]; exact this
theorem first_tokens (s:ByteArray) (hs:s.size≤600):(∃ L,Lx.tokensM s=⟨L,0,0⟩∧Chain s 0 L∧L.length≤600)∨(∃ c p,Lx.tokensM s=⟨[],c,p⟩∧c≠0):=by
 obtain ⟨r,hr⟩:∃ r,Lx.tokensM s=r:=⟨_,rfl⟩;have hr':=hr;unfold Lx.tokensM at hr';rw [if_neg (by omega)] at hr';rcases toks_chain s _ 0 [] (Nat.zero_le _) (by simp) r hr' with ⟨h1,h2,L,h3,h4⟩ | ⟨h1,h2⟩
 · left;have h5:=chain_len s L 0 h4;obtain ⟨l,c,p⟩:=r;simp only at h1 h2 h3;subst h1;have hp:p=0:=by
    have key:∀ (f i:Nat) (acc:List Lx.Tk),(Lx.toksM s f i acc).code=0→(Lx.toksM s f i acc).pos=0:=by
     intro f
     induction f with
     | zero=>intro i acc _; rfl
     | succ f ih =>
       intro i acc;rw [Lx.toksM]
       (repeat' split) <;> intro h <;> first | rfl | exact ih _ _ h | (exact absurd h (show ¬ (3:Int)=0 by decide)) | (exact absurd h (show ¬ (6:Int)=0 by decide)) | (exact absurd h (by assumption))
    have:=key (s.size+1) 0 [] (by rw [hr']);rw [hr'] at this; exact this
   subst hp;exact ⟨L,by rw [hr,h3,List.nil_append],h4,by omega⟩
 · right;obtain ⟨l,c,p⟩:=r;simp only at h1 h2;subst h2;exact ⟨c,p,hr,h1⟩
end Go.Proofs.YtflbkdfbjofllaaGreatDoor.L
namespace Go.Proofs.YtflbkdfbjofllaaGreatDoor.Sy
open Go.RowKit Lx
def erT (t:Tk):Tk:={ t with at_:=0 }
def erC (C:Cx):Cx:=⟨C.T.map erT,0⟩
def erS (σ:St):St:={ σ with wat:=0 }
def erI (i:It):It:={ i with at_:=0 }
section
variable (C:Cx)
theorem er_len:(erC C).T.length=C.T.length:=by unfold erC; simp
theorem er_peek (σ:St) (k:Nat):peekM (erC C) (erS σ) k=erT (peekM C σ k):=by
 unfold peekM erC erS;simp only [List.getD_eq_getElem?_getD,List.getElem?_map];cases C.T[σ.at_+k]? <;> rfl
theorem er_text (t:Tk):(erT t).text=t.text:=rfl
theorem er_kind (t:Tk):(erT t).kind=t.kind:=rfl
theorem er_num (t:Tk):(erT t).num=t.num:=rfl
theorem er_suf (t:Tk):(erT t).suf=t.suf:=rfl
theorem er_at (σ:St):(erS σ).at_=σ.at_:=rfl
theorem er_types (σ:St):(erS σ).types=σ.types:=rfl
theorem er_txt (σ:St):txt (erC C) (erS σ)=txt C σ:=by unfold txt; rw [er_peek,er_text]
theorem er_next (σ:St):nextM (erC C) (erS σ)=erS (nextM C σ):=by
 unfold nextM;rw [er_len,er_at];split <;> rfl
theorem er_fail (σ:St) (c a:Int):failM (erC C) (erS σ) c 0=erS (failM C σ c a):=by
 unfold failM;rw [er_len];show St.mk _ _ _ _=St.mk _ _ _ _;have e:(if (erS σ).code=0 then 0 else (erS σ).wat)=(0:Int):=by split <;> rfl
 rw [e]; rfl
theorem er_lost (σ:St):lostM (erC C) (erS σ)=erS (lostM C σ):=by
 unfold lostM;rw [er_peek];exact er_fail C σ 4 _
theorem er_is (σ:St) (t:ByteArray):isM (erC C) (erS σ) t=isM C σ t:=by unfold isM; rw [er_txt]
theorem er_go (σ:St) (t:ByteArray):goM (erC C) (erS σ) t=erS (goM C σ t):=by unfold goM; rw [er_is,er_next]; split <;> rfl
theorem er_want (σ:St) (t:ByteArray):wantM (erC C) (erS σ) t=erS (wantM C σ t):=by unfold wantM; rw [er_is,er_next,er_lost]; split <;> rfl
theorem er_name (σ:St):nameM (erC C) (erS σ)=((nameM C σ).1,erS (nameM C σ).2):=by
 unfold nameM;rw [er_peek,er_kind,er_txt,er_next,er_lost];split <;> rfl
theorem er_typed (σ:St):typedM (erC C) (erS σ)=typedM C σ:=by unfold typedM; rw [er_peek,er_kind,er_txt,er_types]
theorem er_base (σ:St):baseM (erC C) (erS σ)=((baseM C σ).1,erS (baseM C σ).2):=by
 unfold baseM;simp only [er_txt,er_next,er_name]
 (repeat' split) <;> rfl
theorem er_stars:∀ (f:Nat) (σ:St) (n:Int),starsM (erC C) f (erS σ) n=((starsM C f σ n).1,erS (starsM C f σ n).2)
 | 0,σ,n=>rfl
 | f+1,σ,n=>by
   unfold starsM;rw [er_is,er_next];split
   · exact er_stars f _ _
   · rfl
theorem er_typ (σ:St):typM (erC C) (erS σ)=((typM C σ).1,erS (typM C σ).2):=by
 unfold typM;simp only [er_typed,er_base,er_stars,er_len,er_lost];split <;> rfl
theorem er_number (σ:St):numberM (erC C) (erS σ)=((numberM C σ).1,(numberM C σ).2.1,erS (numberM C σ).2.2):=by
 unfold numberM;simp only [er_is,er_next,er_peek,er_kind,er_num,er_suf,er_want,er_lost]
 (repeat' split) <;> rfl
theorem er_numType (k:Tk):numType (erT k)=numType k:=rfl
theorem er_numberType (σ:St) (k:Tk):numberTypeM (erC C) (erS σ) (erT k)=((numberTypeM C σ k).1,erS (numberTypeM C σ k).2):=by
 unfold numberTypeM;rw [er_numType];split
 · rfl
 · show (ty0,failM (erC C) (erS σ) 6 0)=_;rw [er_fail C σ 6 (k.at_:Int)]
theorem er_prime (σ:St):primeM (erC C) (erS σ)=((primeM C σ).1,erS (primeM C σ).2):=by
 unfold primeM;simp only [er_peek,er_kind,er_num,er_text,er_numberType,er_next,er_lost]
 (repeat' split) <;> rfl
theorem er_size (σ:St):sizeM (erC C) (erS σ)=((sizeM C σ).1,erS (sizeM C σ).2):=by
 unfold sizeM;simp only [er_next,er_want,er_typ,er_number]
theorem er_E:∀ (f:Nat) (j:Job) (σ:St),E (erC C) f j (erS σ)=((E C f j σ).1,erS (E C f j σ).2)
 | 0,j,σ=>by unfold E; rfl
 | f+1,j,σ=>by
   have ih:=er_E f;cases j with
   | expr=>unfold E; simp only [ih,er_txt,er_next]; split <;> rfl
   | cond=>unfold E; simp only [ih,er_is,er_next,er_want]; split <;> rfl
   | bin l=>unfold E; simp only [ih]
   | binL l x=>unfold E; simp only [ih,er_txt,er_next]; split <;> rfl
   | unary=>unfold E; simp only [ih,er_txt,er_next,er_is,er_size,er_typed,er_typ,er_want,er_prime]; (repeat' split) <;> rfl
   | post x=>unfold E; simp only [ih,er_next,er_is,er_want,er_name]; (repeat' split) <;> rfl
   | args x=>unfold E; simp only [ih,er_next,er_is]; split <;> rfl
theorem er_fuel (σ:St):fuel (erC C) (erS σ)=fuel C σ:=by unfold fuel; rw [er_len,er_at]
theorem er_expr (σ:St):exprM (erC C) (erS σ)=((exprM C σ).1,erS (exprM C σ).2):=by unfold exprM; rw [er_fuel,er_E]
theorem er_cond (σ:St):condM (erC C) (erS σ)=((condM C σ).1,erS (condM C σ).2):=by unfold condM; rw [er_fuel,er_E]
theorem er_asked (σ:St):askedM (erC C) (erS σ)=((askedM C σ).1,erS (askedM C σ).2):=by unfold askedM; simp only [er_want,er_expr]
theorem er_let (σ:St):letM (erC C) (erS σ)=((letM C σ).1,erS (letM C σ).2):=by
 unfold letM;simp only [er_typ,er_name,er_number,er_is,er_next,er_expr];split <;> simp only [er_want]
theorem er_labelled (σ:St):labelledM (erC C) (erS σ)=((labelledM C σ).1,erS (labelledM C σ).2):=by
 unfold labelledM;simp only [er_next,er_is,er_go,er_peek,er_kind,er_num,er_numberType,er_lost]
 (repeat' split) <;> simp only [er_next,er_want]
theorem er_part (σ:St) (t:ByteArray):partM (erC C) (erS σ) t=((partM C σ t).1,erS (partM C σ t).2):=by
 unfold partM;simp only [er_is,er_expr];split <;> simp only [er_want]
theorem er_itep {α:Type} {c:Prop} [Decidable c] {a b:α × St} {a' b':α × St} (h1:c→a'=(a.1,erS a.2)) (h2:¬ c→b'=(b.1,erS b.2)):(if c then a' else b')=((if c then a else b).1,erS (if c then a else b).2):=by
 by_cases h:c
 · simp only [if_pos h]; exact h1 h
 · simp only [if_neg h]; exact h2 h
theorem er_S:∀ (f:Nat) (j:Sj) (σ:St),S (erC C) f j (erS σ)=((S C f j σ).1,erS (S C f j σ).2)
 | 0,j,σ=>by unfold S; rfl
 | f+1,j,σ=>by
   have ih:=er_S f;cases j with
   | block=>unfold S; simp only [ih,er_want]
   | blockL acc =>
     unfold S; simp only [ih,er_is,er_next,er_at,er_len,er_lost];refine er_itep (fun _=>rfl) (fun _=>?_);exact er_itep (fun _=>rfl) (fun _=>rfl)
   | choiceL e acc =>
     unfold S; simp only [ih,er_is,er_next,er_at,er_len,er_lost,er_labelled,er_want];refine er_itep (fun _=>rfl) (fun _=>?_);refine er_itep (fun _=>rfl) (fun _=>?_);refine er_itep (fun _=>rfl) (fun _=>?_);exact er_itep (fun _=>rfl) (fun _=>rfl)
   | stmt =>
     unfold S; simp only [ih,er_is,er_next,er_typed,er_let,er_peek,er_kind,er_text,er_txt,er_asked,er_want,er_part,er_name,er_lost,er_expr];refine er_itep (fun _=>rfl) (fun _=>?_);refine er_itep (fun _=>rfl) (fun _=>?_);refine er_itep (fun _=>rfl) (fun _=>?_);refine er_itep (fun _=>rfl) (fun _=>?_);refine er_itep (fun _=>?_) (fun _=>rfl);refine er_itep (fun _=>er_itep (fun _=>rfl) (fun _=>rfl)) (fun _=>?_);refine er_itep (fun _=>rfl) (fun _=>?_);refine er_itep (fun _=>rfl) (fun _=>?_);refine er_itep (fun _=>rfl) (fun _=>?_);refine er_itep (fun _=>rfl) (fun _=>?_);refine er_itep (fun _=>rfl) (fun _=>?_);refine er_itep (fun _=>rfl) (fun _=>?_);refine er_itep (fun _=>rfl) (fun _=>?_);exact er_itep (fun _=>rfl) (fun _=>rfl)
theorem er_block (σ:St):blockM (erC C) (erS σ)=((blockM C σ).1,erS (blockM C σ).2):=by unfold blockM; rw [er_len,er_at,er_S]
theorem er_param (σ:St):paramM (erC C) (erS σ)=((paramM C σ).1,erS (paramM C σ).2):=by unfold paramM; simp only [er_typ,er_name]
theorem er_params:∀ (f:Nat) (σ:St) (acc:List Vr),paramsM (erC C) f (erS σ) acc=((paramsM C f σ acc).1,erS (paramsM C f σ acc).2)
 | 0,σ,acc=>rfl
 | f+1,σ,acc=>by unfold paramsM; simp only [er_is,er_next,er_param,er_params f]; exact er_itep (fun _=>rfl) (fun _=>rfl)
theorem er_tyl:∀ (f:Nat) (σ:St) (acc:List Ty),typesM (erC C) f (erS σ) acc=((typesM C f σ acc).1,erS (typesM C f σ acc).2)
 | 0,σ,acc=>rfl
 | f+1,σ,acc=>by unfold typesM; simp only [er_is,er_next,er_typ,er_tyl f]; exact er_itep (fun _=>rfl) (fun _=>rfl)
theorem er_conds:∀ (f:Nat) (σ:St) (acc:List Ex),condsM (erC C) f (erS σ) acc=((condsM C f σ acc).1,erS (condsM C f σ acc).2)
 | 0,σ,acc=>rfl
 | f+1,σ,acc=>by unfold condsM; simp only [er_is,er_next,er_cond,er_conds f]; exact er_itep (fun _=>rfl) (fun _=>rfl)
theorem er_field (σ:St):fieldM (erC C) (erS σ)=((fieldM C σ).1,erS (fieldM C σ).2):=by unfold fieldM; simp only [er_typ,er_name,er_number,er_want]
theorem er_fields:∀ (f:Nat) (σ:St) (acc:List Vr),fieldsM (erC C) f (erS σ) acc=((fieldsM C f σ acc).1,erS (fieldsM C f σ acc).2)
 | 0,σ,acc=>rfl
 | f+1,σ,acc=>by
   unfold fieldsM; simp only [er_field,er_is,er_next,er_want,er_typed,er_fields f,er_lost];refine er_itep (fun _=>rfl) (fun _=>?_);exact er_itep (fun _=>rfl) (fun _=>rfl)
theorem er_struct (i:It) (σ:St):structM (erC C) (erI i) (erS σ)=(erI (structM C i σ).1,erS (structM C i σ).2):=by
 unfold structM;simp only [er_next,er_name,er_want,er_len,er_fields];rfl
theorem er_typedef (i:It) (σ:St):typedefM (erC C) (erI i) (erS σ)=(erI (typedefM C i σ).1,erS (typedefM C i σ).2):=by
 unfold typedefM;simp only [er_next,er_typ,er_name,er_want,er_is,er_len,er_tyl];split <;> (simp only [er_want]; rfl)
theorem er_function (i:It) (σ:St):functionM (erC C) (erI i) (erS σ)=(erI (functionM C i σ).1,erS (functionM C i σ).2):=by
 unfold functionM;simp only [er_next,er_is,er_param,er_len,er_params,er_want];by_cases h:isM C (nextM C σ) ⟨#[41]⟩=true
 · simp only [if_pos h,er_is,er_next,er_block,er_lost];split
   · rfl
   split <;> rfl
 · simp only [if_neg h,er_is,er_next,er_block,er_lost];split
   · rfl
   split <;> rfl
theorem er_initial (i:It) (σ:St):initialM (erC C) (erI i) (erS σ)=(erI (initialM C i σ).1,erS (initialM C i σ).2):=by
 unfold initialM;simp only [er_is,er_next,er_cond,er_len,er_conds,er_want];split <;> rfl
theorem er_declaration (i:It) (σ:St):declarationM (erC C) (erI i) (erS σ)=(erI (declarationM C i σ).1,erS (declarationM C i σ).2):=by
 unfold declarationM;simp only [er_typ,er_name,er_is,er_number,er_next];split
 · exact er_function C { i with v:={ i.v with ty:=(typM C σ).1,name:=(nameM C (typM C σ).2).1 } } (nameM C (typM C σ).2).2
 · split
   · have h:=er_initial C { i with kind:=5,v:=⟨(nameM C (typM C σ).2).1,(typM C σ).1,(numberM C (nameM C (typM C σ).2).2).1,(numberM C (nameM C (typM C σ).2).2).2.1⟩ } (nextM C (numberM C (nameM C (typM C σ).2).2).2.2);have e:(erI { i with kind:=5,v:=⟨(nameM C (typM C σ).2).1,(typM C σ).1,(numberM C (nameM C (typM C σ).2).2).1,(numberM C (nameM C (typM C σ).2).2).2.1⟩ })={ erI i with kind:=5,v:=⟨(nameM C (typM C σ).2).1,(typM C σ).1,(numberM C (nameM C (typM C σ).2).2).1,(numberM C (nameM C (typM C σ).2).2).2.1⟩ }:=rfl;rw [e] at h;rw [h];simp only [er_want]
   · simp only [er_want]; rfl
theorem er_item (σ:St):itemM (erC C) (erS σ)=(erI (itemM C σ).1,erS (itemM C σ).2):=by
 unfold itemM;simp only [er_peek,er_is,er_kind,er_text];have e:it0 ((erT (peekM C σ 0)).at_:Int)=erI (it0 ((peekM C σ 0).at_:Int)):=rfl;rw [e];split
 · exact er_struct C _ σ
 split
 · exact er_typedef C _ σ
 · exact er_declaration C _ σ
theorem er_items:∀ (f:Nat) (σ:St) (acc:List It),itemsM (erC C) f (erS σ) (acc.map erI)=((itemsM C f σ acc).1.map erI,erS (itemsM C f σ acc).2)
 | 0,σ,acc=>rfl
 | f+1,σ,acc=>by
   unfold itemsM;simp only [er_at,er_len,er_item];split
   · have h:=er_items f (itemM C σ).2 (acc++[(itemM C σ).1]);rw [List.map_append] at h;exact h
   · rfl
end
theorem er_depth (l:List It):depthM (l.map erI)=depthM l:=by
 unfold depthM;rw [List.foldl_map];rfl
theorem er_dump (l:List It):dumpL (l.map erI)=dumpL l:=by
 unfold dumpL;rw [List.foldl_map];rfl
theorem er_same {s t:ByteArray} (h1:(tokensM s).code=0) (h2:(tokensM t).code=0) (h:(tokensM s).l.map erT=(tokensM t).l.map erT):(dumpM s).1=(dumpM t).1∧(dumpM s).2.1=(dumpM t).2.1:=by
 have hl:(tokensM s).l.length=(tokensM t).l.length:=by have:=congrArg List.length h; simpa using this
 have hC:erC ⟨(tokensM s).l,s.size⟩=erC ⟨(tokensM t).l,t.size⟩:=by unfold erC; rw [h]
 have a:=er_items ⟨(tokensM s).l,s.size⟩ ((tokensM s).l.length+1) ⟨0,[],0,0⟩ [];have b:=er_items ⟨(tokensM t).l,t.size⟩ ((tokensM s).l.length+1) ⟨0,[],0,0⟩ [];rw [hC,b] at a;obtain ⟨x,hx⟩:∃ x,itemsM ⟨(tokensM s).l,s.size⟩ ((tokensM s).l.length+1) ⟨0,[],0,0⟩ []=x:=⟨_,rfl⟩;obtain ⟨y,hy⟩:∃ y,itemsM ⟨(tokensM t).l,t.size⟩ ((tokensM s).l.length+1) ⟨0,[],0,0⟩ []=y:=⟨_,rfl⟩;rw [hx,hy] at a;have a1:y.1.map erI=x.1.map erI:=congrArg Prod.fst a;have a2:erS y.2=erS x.2:=congrArg Prod.snd a;have a3:y.2.code=x.2.code:=by
  have e:=congrArg St.code a2;exact e
 have d1:depthM y.1=depthM x.1:=by rw [← er_depth y.1,a1,er_depth]
 have d2:dumpL y.1=dumpL x.1:=by rw [← er_dump y.1,a1,er_dump]
 unfold dumpM parseM;simp only;rw [if_neg (show ¬ (tokensM s).code≠0 from fun e=>e h1),if_neg (show ¬ (tokensM t).code≠0 from fun e=>e h2),← hl,hx,hy,a3,d1];split
 · exact ⟨rfl,rfl⟩
 split
 · exact ⟨rfl,rfl⟩
 · exact ⟨d2.symm,rfl⟩
end Go.Proofs.YtflbkdfbjofllaaGreatDoor.Sy
namespace Go.Proofs.YtflbkdfbjofllaaGreatDoor.L
open Go.RowKit
def gs4:List (List UInt8):=[[32],[10],[32,47,42,42,47],[32,47,47,32,10]]
theorem gs4_head:∀ w∈gs4,∃ c r,w=c::r∧Lx.blankB (c.toNat:Int)=true:=by
 intro w hw;simp only [gs4,List.mem_cons,List.mem_nil_iff,or_false] at hw;rcases hw with rfl | rfl | rfl | rfl <;> exact ⟨_,_,rfl,by decide⟩
theorem gs4_len:∀ w∈gs4,1≤w.length∧w.length≤5:=by decide
theorem gs4_gap {s:ByteArray} {p:Nat} {w u:List UInt8} (hw:w=[]∨w∈gs4) (h:s.data.toList.drop p=w++u) (hS:∀ f,Lx.gap s f (p+w.length)=(p+w.length,true)):Lx.gap s s.size p=(p+w.length,true):=by
 have P:∀ k,k < w.length→Lx.pk s (p+k)=lb w k:=fun k hk=>by rw [pk_drop,h,lb_left hk]
 rcases hw with rfl | hw
 · exact hS _
 have hlen:p+w.length≤s.size:=by
  have:=congrArg List.length h;have e:s.data.size=s.size:=rfl;have:=(gs4_len w hw).1;simp at *; omega
 have B1:∀ (f k:Nat),k < w.length→Lx.blankB (lb w k)=true→Lx.gap s (f+1) (p+k)=Lx.gap s f (p+k+1):=fun f k hk hb=>Lx.gap_blank (by omega) (by rw [P k hk]; exact hb)
 simp only [gs4,List.mem_cons,List.mem_nil_iff,or_false] at hw;rcases hw with rfl | rfl | rfl | rfl
 · obtain ⟨f,hf⟩:∃ f,s.size=f+1:=⟨s.size - 1,by simp at hlen; omega⟩;rw [hf];exact (B1 f 0 (by decide) (by decide)).trans (hS f)
 · obtain ⟨f,hf⟩:∃ f,s.size=f+1:=⟨s.size - 1,by simp at hlen; omega⟩;rw [hf];exact (B1 f 0 (by decide) (by decide)).trans (hS f)
 · obtain ⟨f,hf⟩:∃ f,s.size=f+1+1:=⟨s.size - 2,by simp at hlen; omega⟩;have hl5:p+5≤s.size:=hlen;have hbe:Lx.blockEnd s (p+1+2)=p+3:=by
    refine scan_run (p+3) s.size (p+1+2) (by omega) (by omega) (fun k h1 h2=>absurd h1 (by omega)) ?_;unfold Lx.blockP;rw [P 3 (by decide),show p+3+1=p+4 from rfl,P 4 (by decide),decide_eq_true (by omega)]; rfl
   rw [hf];refine (B1 (f+1) 0 (by decide) (by decide)).trans ?_;show Lx.gap s (f+1) (p+1)=_;rw [Lx.gap_block (by omega) (by rw [P 1 (by decide)]; rfl) (by rw [show p+1+1=p+2 from rfl,P 2 (by decide)]; rfl),hbe,if_pos (by omega)];exact hS f
 · obtain ⟨f,hf⟩:∃ f,s.size=f+1+1+1:=⟨s.size - 3,by simp at hlen; omega⟩;have hl5:p+5≤s.size:=hlen;have hle:Lx.lineEnd s (p+1)=p+4:=by
    refine scan_run (p+4) s.size (p+1) (by omega) (by omega) (fun k h1 h2=>?_) ?_
    · have hk:k=p+1∨k=p+2∨k=p+3:=by omega
      unfold Lx.lineP;rcases hk with rfl | rfl | rfl
      · rw [decide_eq_true (by omega),P 1 (by decide)]; rfl
      · rw [decide_eq_true (by omega),P 2 (by decide)]; rfl
      · rw [decide_eq_true (by omega),P 3 (by decide)]; rfl
    · unfold Lx.lineP;rw [P 4 (by decide),decide_eq_true (by omega)]; rfl
   rw [hf];refine (B1 (f+1+1) 0 (by decide) (by decide)).trans ?_;show Lx.gap s (f+1+1) (p+1)=_;rw [Lx.gap_line (by omega) (by rw [P 1 (by decide)]; rfl) (by rw [show p+1+1=p+2 from rfl,P 2 (by decide)]; rfl),hle];exact (B1 f 4 (by decide) (by decide)).trans (hS f)
def rbr (G:Nat→List UInt8):Nat→List Lx.Tk→List UInt8
 | _,[]=>[]
 | k,t::L=>t.text.data.toList++(G k++rbr G (k+1) L)
theorem rbr_snoc (G:Nat→List UInt8):∀ (L:List Lx.Tk) (k:Nat) (t:Lx.Tk),rbr G k (L++[t])=rbr G k L++(t.text.data.toList++G (k+L.length)):=by
 intro L
 induction L with
 | nil=>intro k t; simp [rbr]
 | cons a L ih=>intro k t; simp [rbr,ih,List.append_assoc,show k+1+L.length=k+(L.length+1) by omega]
theorem chain4 (s s':ByteArray) (G:Nat→List UInt8) (hG:∀ k,G k∈gs4):∀ (L:List Lx.Tk) (f i p k:Nat) (w:List UInt8) (acc:List Lx.Tk),Chain s i L→(w=[]∨w∈gs4)→s'.data.toList.drop p=w++rbr G k L→p≤s'.size→L.length < f→acc.length+L.length≤6000 →
    ∃ L',Lx.toksM s' f p acc=⟨acc++L',0,0⟩∧L'.map noAt=L.map noAt:=by
 intro L
 induction L with
 | nil =>
   intro f i p k w acc hC hw h hp hf ha;obtain ⟨f,rfl⟩:∃ f',f=f'+1:=⟨f - 1,by omega⟩;rw [rbr,List.append_nil] at h;have hlen:=congrArg List.length h;have e:s'.data.size=s'.size:=rfl;simp at hlen;have hq:p+w.length=s'.size:=by omega
   have hg:=gs4_gap (s:=s') (p:=p) (w:=w) (u:=[]) hw (by rw [List.append_nil]; exact h) (fun f=>Lx.gap_end (by omega));exact ⟨[],by rw [Lx.toks_end hg hq,List.append_nil],rfl⟩
 | cons t L ih =>
   intro f i p k w acc hC hw h hp hf ha;obtain ⟨f,rfl⟩:∃ f',f=f'+1:=⟨f - 1,by omega⟩;obtain ⟨g,hg1,hg2,hS,hc,ht,hC'⟩:=hC;obtain ⟨hj,hr⟩:=chain_text hg2 hc;have htx:t.text=s.extract g (Lx.tokenM s g).j:=by rw [ht]; rfl
   rw [rbr,htx] at h;obtain ⟨u,hu⟩:∃ u,(s.extract g (Lx.tokenM s g).j).data.toList=u:=⟨_,rfl⟩;rw [hu] at h hj hr;have hd1:s'.data.toList.drop (p+w.length)=u++(G k++rbr G (k+1) L):=by
    rw [← List.drop_drop,h,List.drop_append,List.drop_of_length_le (Nat.le_refl _),Nat.sub_self,List.drop_zero,List.nil_append]
   obtain ⟨c,r,hc1,hc2⟩:=gs4_head _ (hG k);have hM:Moved s s' g (p+w.length) u:=⟨hr,c,r++rbr G (k+1) L,by rw [hd1,hc1]; rfl,hc2⟩;have hbd:=Lx.tokenM_bd hg2;have hpos:0 < u.length:=by have:=hbd.1 hc; omega
   have hS':=hS.moved hM hpos;have hT:=tok_moved hM hg2 hc hj;have hgap:=gs4_gap hw h (fun f=>hS'.gap f);have hlt:=hM.lt;have hd2:s'.data.toList.drop (p+w.length+u.length)=G k++rbr G (k+1) L:=by
    rw [← List.drop_drop,hd1,List.drop_append,List.drop_of_length_le (Nat.le_refl _),Nat.sub_self,List.drop_zero,List.nil_append]
   rw [List.length_cons] at hf ha;obtain ⟨L',hL1,hL2⟩:=ih f (Lx.tokenM s g).j (p+w.length+u.length) (k+1) (G k) (acc++[Lx.tkOf s' (p+w.length) (Lx.tokenM s' (p+w.length))]) hC' (.inr (hG k)) hd2 (by omega) (by omega) (by rw [List.length_append]; simp; omega);refine ⟨Lx.tkOf s' (p+w.length) (Lx.tokenM s' (p+w.length))::L',?_,?_⟩
   · rw [Lx.toks_more hgap (by omega) (by rw [hT]; exact hc) (by omega)];rw [hT] at hL1 ⊢;simp only at hL1 ⊢;rw [hL1,List.append_assoc]; rfl
   · rw [List.map_cons,List.map_cons,hL2,ht,hT]
     congr 1
     unfold noAt Lx.tkOf;simp only;rw [hM.ext,← hj]
theorem rbr_chain (s:ByteArray) (G:Nat→List UInt8) (hG:∀ k,G k∈gs4):∀ (L:List Lx.Tk) (i k:Nat),Chain s i L→(rbr G k L).length≤5 * L.length+(s.size - i):=by
 intro L
 induction L with
 | nil=>intro i k _; simp [rbr]
 | cons t L ih =>
   intro i k h;obtain ⟨g,hg1,hg2,hS,hc,ht,hC'⟩:=h;obtain ⟨hj,hr⟩:=chain_text hg2 hc;have hbd:=Lx.tokenM_bd hg2;have:=ih _ (k+1) hC';have h2:=(gs4_len _ (hG k)).2;have htx:t.text=s.extract g (Lx.tokenM s g).j:=by rw [ht]; rfl
   rw [rbr,List.length_append,List.length_append,List.length_cons,htx];have:=hbd.1 hc;omega
theorem gaps_tokens (s s':ByteArray) (G:Nat→List UInt8) (hG:∀ k,G k∈gs4) (hs:s.size≤600) (L:List Lx.Tk) (hC:Chain s 0 L) (h:s'.data.toList=rbr G 0 L) :
    ∃ L',Lx.tokensM s'=⟨L',0,0⟩∧L'.map noAt=L.map noAt:=by
 have h1:=chain_len s L 0 hC;have h2:=rbr_chain s G hG L 0 0 hC;have hz:s'.size=(rbr G 0 L).length:=by rw [size_list,h]
 have h3:L.length≤(rbr G 0 L).length:=by
  have:∀ (M:List Lx.Tk) (k:Nat),M.length≤(rbr G k M).length:=by
   intro M
   induction M with
   | nil=>intro k; exact Nat.zero_le _
   | cons t M ih =>
     intro k;have:=ih (k+1);have:=(gs4_len _ (hG k)).1;rw [rbr,List.length_append,List.length_append,List.length_cons]; omega
  exact this L 0
 obtain ⟨L',hL1,hL2⟩:=chain4 s s' G hG L (s'.size+1) 0 0 0 [] [] hC (.inl rfl) (by rw [List.drop_zero,h]; rfl) (Nat.zero_le _) (by omega) (by simp; omega);refine ⟨L',?_,hL2⟩;unfold Lx.tokensM;rw [if_neg (by omega),hL1]; rfl
theorem gaps_dump (s s':ByteArray) (G:Nat→List UInt8) (hG:∀ k,G k∈gs4) (hs:s.size≤600) (L:List Lx.Tk) (hL:Lx.tokensM s=⟨L,0,0⟩) (hC:Chain s 0 L) (h:s'.data.toList=rbr G 0 L) :
    (Sy.dumpM s).1=(Sy.dumpM s').1∧(Sy.dumpM s).2.1=(Sy.dumpM s').2.1:=by
 obtain ⟨L',h1,h2⟩:=gaps_tokens s s' G hG hs L hC h;refine Sy.er_same (by rw [hL]) (by rw [h1]) ?_;rw [hL,h1];exact h2.symm
end Go.Proofs.YtflbkdfbjofllaaGreatDoor.L
namespace Go.Proofs.YtflbkdfbjofllaaGreatDoor.Sy
open Go.RowKit Lx
def tw (t:Tk):Nat:=400+t.text.size
def twL:List Tk→Nat
 | []=>0
 | t::l=>tw t+twL l
section
variable (C:Cx)
def phi (σ:St):Nat:=twL (C.T.drop σ.at_)
structure Tks (C:Cx):Prop where
 ok:∀ t∈C.T,tkOk t=true
 short:∀ t∈C.T,t.text.size≤900000
 few:C.T.length≤10000
end
variable {C:Cx}
theorem phi_lt {σ:St} (h:σ.at_ < C.T.length):phi C σ=tw (peekM C σ 0)+phi C (nextM C σ):=by
 unfold phi;rw [next_at h,List.drop_eq_getElem_cons h];unfold peekM;simp only [Nat.add_zero,List.getD_eq_getElem?_getD,List.getElem?_eq_getElem h,Option.getD_some];rfl
theorem twL_drop (l:List Tk) (n m:Nat):twL (l.drop (n+m))≤twL (l.drop n):=by
 induction m with
 | zero=>exact Nat.le_refl _
 | succ m ih =>
   refine Nat.le_trans ?_ ih;rw [← Nat.add_assoc];by_cases h:n+m < l.length
   · rw [List.drop_eq_getElem_cons h]; exact Nat.le_add_left _ _
   · rw [List.drop_eq_nil_of_le (by omega)]; exact Nat.zero_le _
theorem phi_at {σ τ:St} (h:σ.at_≤τ.at_):phi C τ≤phi C σ:=by
 unfold phi;obtain ⟨m,hm⟩:∃ m,τ.at_=σ.at_+m:=⟨τ.at_ - σ.at_,by omega⟩;rw [hm]; exact twL_drop _ _ _
theorem phi_mo {σ τ:St} (h:Mo C σ τ):phi C τ≤phi C σ:=phi_at h.at_
theorem phi_gt {σ τ:St} (h:σ.at_≤τ.at_) (hp:phi C τ < phi C σ):σ.at_ < τ.at_:=by
 rcases Nat.lt_or_ge σ.at_ τ.at_ with h1 | h1
 · exact h1
 · have e:τ.at_=σ.at_:=by omega
   unfold phi at hp;rw [e] at hp;omega
theorem is_phi {σ:St} {t:ByteArray} (h:isM C σ t=true) (ht:(nt==t)=false):phi C σ=400+t.size+phi C (nextM C σ):=by
 rw [phi_lt (is_lt h ht)];have e:(peekM C σ 0).text=t:=eq_of_beq h;unfold tw;rw [e]
theorem fail_code {σ:St} {c a:Int} (hc:c≠0):(failM C σ c a).code≠0:=by
 intro e;have e':(if σ.code=0 then c else σ.code)=0:=e;split at e'
 · exact hc e'
 · next hn=>exact hn e'
theorem lost_code {σ:St}:(lostM C σ).code≠0:=fail_code (by decide)
theorem want_phi {σ:St} {t:ByteArray} (h:(wantM C σ t).code=0) (ht:(nt==t)=false):phi C σ=400+t.size+phi C (wantM C σ t):=by
 unfold wantM at h ⊢;by_cases hi:isM C σ t=true
 · rw [if_pos hi]; exact is_phi hi ht
 · rw [if_neg hi] at h; exact absurd h lost_code
theorem peek_kind {σ:St} (h:(peekM C σ 0).kind≠0):σ.at_ < C.T.length:=by
 apply Classical.byContradiction;intro hn;apply h;unfold peekM;rw [List.getD_eq_getElem?_getD,List.getElem?_eq_none (by omega)];rfl
theorem peek_ok (hT:Tks C) (σ:St):0≤(peekM C σ 0).num∧(peekM C σ 0).num≤18446744073709551615:=by
 by_cases h:σ.at_ < C.T.length
 · have h1:=hT.ok _ (List.getElem_mem h);unfold tkOk at h1;rw [decide_eq_true_eq] at h1;have e:peekM C σ 0=C.T[σ.at_]:=by unfold peekM; rw [Nat.add_zero,List.getD_eq_getElem?_getD,List.getElem?_eq_getElem h]; rfl
   rw [e]; exact h1.2.2
 · have e:peekM C σ 0=⟨0,C.en,nt,nt,0,false⟩:=by unfold peekM; rw [List.getD_eq_getElem?_getD,List.getElem?_eq_none (by omega)]; rfl
   rw [e]; exact ⟨Int.le_refl _,by show (0:Int)≤18446744073709551615; decide⟩
theorem txt_le (hT:Tks C) (σ:St):(txt C σ).size≤900000:=by
 by_cases h:σ.at_ < C.T.length
 · have h1:=hT.short _ (List.getElem_mem h);have e:peekM C σ 0=C.T[σ.at_]:=by unfold peekM; rw [Nat.add_zero,List.getD_eq_getElem?_getD,List.getElem?_eq_getElem h]; rfl
   unfold txt;rw [e]; exact h1
 · have e:peekM C σ 0=⟨0,C.en,nt,nt,0,false⟩:=by unfold peekM; rw [List.getD_eq_getElem?_getD,List.getElem?_eq_none (by omega)]; rfl
   unfold txt;rw [e]; exact Nat.zero_le _
theorem phi_txt {σ:St} (h:σ.at_ < C.T.length):phi C σ=400+(txt C σ).size+phi C (nextM C σ):=phi_lt h
theorem txt_lt {σ:St} {p:ByteArray→Bool} (h:p (txt C σ)=true) (hp:p nt=false):σ.at_ < C.T.length:=by
 apply Classical.byContradiction;intro hn;unfold txt peekM at h;rw [List.getD_eq_getElem?_getD,List.getElem?_eq_none (by omega)] at h;simp only [Option.getD_none] at h;rw [h] at hp; cases hp
theorem name_phi {σ:St} (h:(nameM C σ).2.code=0):phi C σ=400+(nameM C σ).1.size+phi C (nameM C σ).2:=by
 unfold nameM at h ⊢;by_cases hk:(peekM C σ 0).kind=1
 · rw [if_pos hk]; exact phi_txt (peek_kind (by rw [hk]; decide))
 · rw [if_neg hk] at h; exact absurd h lost_code
theorem name_le (hT:Tks C) (σ:St):(nameM C σ).1.size≤900000:=by
 unfold nameM;split
 · exact txt_le hT σ
 · exact Nat.zero_le _
def tyW (t:Ty):Nat:=t.base.size+t.stars.toNat
theorem bits_le (t:ByteArray):(bitsM t).size≤2:=by
 unfold bitsM
 (repeat' split) <;> exact of_decide_eq_true rfl
theorem cat_size (a b:ByteArray):(a++b).size=a.size+b.size:=ByteArray.size_append
theorem base_phi {σ:St} (ht:typedM C σ=true) (h:(baseM C σ).2.code=0):(baseM C σ).1.size+300+phi C (baseM C σ).2≤phi C σ:=by
 have h1:=phi_txt (typed_lt ht);have hn:=Mo.next (Mo.refl (Nat.le_of_lt (typed_lt ht)) (C:=C));unfold baseM at h ⊢;simp only at h ⊢;split
 · show 4+300+phi C (nextM C σ)≤_; omega
 · next ha =>
   rw [if_neg ha] at h;split
   · next hb =>
     rw [if_pos hb] at h;have h2:=name_phi h;show (⟨#[83,46]⟩++(nameM C (nextM C σ)).1:ByteArray).size+300+_≤_;rw [cat_size];show 2+_+300+phi C (nameM C (nextM C σ)).2≤_;omega
   · next hb =>
     rw [if_neg hb] at h;split
     · split
       · show 3+300+phi C (nextM C σ)≤_; omega
       · have h3:=bits_le (txt C (nextM C σ));have h4:=phi_mo (Mo.next (Mo.refl hn.le));show (⟨#[117]⟩++bitsM (txt C (nextM C σ)):ByteArray).size+300+_≤_;rw [cat_size];show 1+_+300+phi C (nextM C (nextM C σ))≤_;omega
     · split
       · show (⟨#[84,46]⟩++txt C σ:ByteArray).size+300+_≤_;rw [cat_size];show 2+_+300+phi C (nextM C σ)≤_;omega
       · have h3:=bits_le (txt C σ);show (⟨#[105]⟩++bitsM (txt C σ):ByteArray).size+300+_≤_;rw [cat_size];show 1+_+300+phi C (nextM C σ)≤_;omega
theorem base_le (hT:Tks C) (σ:St):(baseM C σ).1.size≤900002:=by
 have h1:=txt_le hT σ;have h2:=name_le hT (nextM C σ);have h3:=bits_le (txt C (nextM C σ));have h4:=bits_le (txt C σ);unfold baseM;simp only
 (repeat' split)
 · show 4≤_; omega
 · show (⟨#[83,46]⟩++(nameM C (nextM C σ)).1:ByteArray).size≤_;rw [cat_size]; show 2+_≤_; omega
 · show 3≤_; omega
 · show (⟨#[117]⟩++bitsM (txt C (nextM C σ)):ByteArray).size≤_;rw [cat_size]; show 1+_≤_; omega
 · show (⟨#[84,46]⟩++txt C σ:ByteArray).size≤_;rw [cat_size]; show 2+_≤_; omega
 · show (⟨#[105]⟩++bitsM (txt C σ):ByteArray).size≤_;rw [cat_size]; show 1+_≤_; omega
theorem stars_phi:∀ (f:Nat) (σ:St) (n:Int),0≤n→n≤(starsM C f σ n).1∧(starsM C f σ n).1≤n+f∧(starsM C f σ n).1.toNat+phi C (starsM C f σ n).2≤n.toNat+phi C σ
 | 0,σ,n,h=>⟨Int.le_refl _,by unfold starsM; simp only; omega,by unfold starsM; simp only; omega⟩
 | f+1,σ,n,h=>by
   unfold starsM;split
   · next hi =>
     obtain ⟨h1,h2,h3⟩:=stars_phi f (nextM C σ) (n+1) (by omega);have h4:=is_phi hi (show (nt==(⟨#[42]⟩:ByteArray))=false from rfl);exact ⟨by omega,by omega,by omega⟩
   · exact ⟨Int.le_refl _,by simp only; omega,by simp only; omega⟩
theorem typ_phi (hT:Tks C) {σ:St} (h:(typM C σ).2.code=0):(0≤(typM C σ).1.stars∧(typM C σ).1.stars≤1000000)∧tyW (typM C σ).1+300+phi C (typM C σ).2≤phi C σ:=by
 unfold typM at h ⊢;by_cases ht:typedM C σ=true
 · rw [if_pos ht] at h ⊢;have hf:=hT.few;have hb:(baseM C σ).2.code=0:=(Mo.stars C.T.length (baseM C σ).2 0 (Mo.refl (Mo.base (Mo.refl (Nat.le_of_lt (typed_lt ht)) (C:=C))).le)).code h;obtain ⟨h1,h2,h3⟩:=stars_phi (C:=C) C.T.length (baseM C σ).2 0 (Int.le_refl _);have h4:=base_phi ht hb;refine ⟨⟨h1,by show (starsM C C.T.length (baseM C σ).2 0).1≤_; omega⟩,?_⟩;unfold tyW;show (baseM C σ).1.size+(starsM C C.T.length (baseM C σ).2 0).1.toNat+300+phi C (starsM C C.T.length (baseM C σ).2 0).2≤_;have e:(0:Int).toNat=0:=rfl;rw [e] at h3;omega
 · rw [if_neg ht] at h; exact absurd h lost_code
theorem number_phi (hT:Tks C) {σ:St} (hs:σ.at_≤C.T.length):(0≤(numberM C σ).2.1∧(numberM C σ).2.1≤18446744073709551615)∧phi C (numberM C σ).2.2≤phi C σ:=by
 refine ⟨?_,phi_mo (Mo.number (Mo.refl hs))⟩;unfold numberM;simp only;split
 · split
   · exact peek_ok hT _
   · exact ⟨Int.le_refl _,by show (0:Int)≤_; decide⟩
 · exact ⟨Int.le_refl _,by show (0:Int)≤_; decide⟩
mutual
def wE:Ex→Nat
 | .mk kind op name ty num arr subs=>80+op.size+name.size+tyW ty+wEs subs
def wEs:List Ex→Nat
 | []=>0
 | e::t=>wE e+wEs t
end
theorem wEs_app (a b:List Ex):wEs (a++b)=wEs a+wEs b:=by
 induction a with
 | nil=>simp only [List.nil_append,wEs,Nat.zero_add]
 | cons e t ih=>simp only [List.cons_append,wEs,ih,Nat.add_assoc]
theorem okEs_app (a b:List Ex):okEs (a++b)=(okEs a&&okEs b):=by
 induction a with
 | nil=>simp only [List.nil_append,okEs,Bool.true_and]
 | cons e t ih=>simp only [List.cons_append,okEs,ih,Bool.and_assoc]
theorem ok_mk {kind:Int} {op name:ByteArray} {ty:Ty} {num:Int} {arr:Bool} {subs:List Ex} (hk:1≤kind∧kind≤14) (hs:0≤ty.stars∧ty.stars≤1000000) (hn:0≤num∧num≤18446744073709551615) (hb:okEs subs=true) :
    okE (.mk kind op name ty num arr subs)=true:=by
 simp only [okE,okN];rw [hb,decide_eq_true hk,decide_eq_true ⟨hs.1,hs.2,hn.1,hn.2⟩];rfl
theorem ok_0 {kind:Int} {op name:ByteArray} {subs:List Ex} (hk:1≤kind∧kind≤14) (hb:okEs subs=true):okE (.mk kind op name ty0 0 false subs)=true :=
 ok_mk hk ⟨Int.le_refl _,by show (0:Int)≤_; decide⟩ ⟨Int.le_refl _,by decide⟩ hb
theorem okEs1 {a:Ex} (h:okE a=true):okEs [a]=true:=by simp only [okEs,h]; rfl
theorem okEs2 {a b:Ex} (h:okE a=true) (g:okE b=true):okEs [a,b]=true:=by simp only [okEs,h,g]; rfl
theorem okEs3 {a b c:Ex} (h:okE a=true) (g:okE b=true) (k:okE c=true):okEs [a,b,c]=true:=by simp only [okEs,h,g,k]; rfl
theorem wE_0 (kind:Int) (op name:ByteArray) (subs:List Ex):wE (.mk kind op name ty0 0 false subs)=80+op.size+name.size+wEs subs:=by simp only [wE]; rfl
theorem wEs1 (a:Ex):wEs [a]=wE a:=by simp only [wEs]; rfl
theorem wEs2 (a b:Ex):wEs [a,b]=wE a+wE b:=by simp only [wEs]; rfl
theorem wEs3 (a b c:Ex):wEs [a,b,c]=wE a+(wE b+wE c):=by simp only [wEs]; rfl
theorem nt_size:nt.size=0:=rfl
theorem wE_ge (e:Ex):80≤wE e:=by
 cases e; simp only [wE]; omega
theorem wE_subs (e:Ex):80+wEs e.subs≤wE e:=by
 cases e; simp only [wE,Ex.subs]; omega
theorem okE_subs {e:Ex} (h:okE e=true):okEs e.subs=true:=by
 cases e;simp only [okE,Bool.and_eq_true] at h;exact h.2.2
theorem numType_size {k:Tk} {t:ByteArray} (h:numType k=some t):t.size≤3:=by
 unfold numType at h
 (repeat' split at h) <;> first | (injection h with h; subst h; exact of_decide_eq_true rfl) | cases h
theorem numberType_phi {σ:St} {k:Tk} (h:(numberTypeM C σ k).2.code=0):(numberTypeM C σ k).2=σ∧(numberTypeM C σ k).1.stars=0∧(numberTypeM C σ k).1.base.size≤3:=by
 unfold numberTypeM at h ⊢;split
 · next t ht=>exact ⟨rfl,rfl,numType_size ht⟩
 · next hn=>rw [hn] at h; exact absurd h (fail_code (by decide))
theorem prime_phi (hT:Tks C) {σ:St} (hs:σ.at_≤C.T.length) (h:(primeM C σ).2.code=0):okE (primeM C σ).1=true∧wE (primeM C σ).1+phi C (primeM C σ).2≤phi C σ:=by
 have hn:=peek_ok hT σ;unfold primeM at h ⊢;simp only at h ⊢;split
 · next hk =>
   rw [if_pos hk] at h;have h0:(numberTypeM C σ (peekM C σ 0)).2.code=0:=(Mo.next (Mo.refl (Mo.numberType (Mo.refl hs) _).le)).code h;obtain ⟨e1,e2,e3⟩:=numberType_phi h0;have hp:=phi_txt (C:=C) (peek_kind (σ:=σ) (by rw [hk]; decide));refine ⟨ok_mk ⟨by decide,by decide⟩ ⟨by rw [e2]; exact Int.le_refl _,by rw [e2]; decide⟩ hn rfl,?_⟩;simp only;rw [e1];simp only [wE,tyW,wEs];rw [e2,nt_size];show 80+0+0+((numberTypeM C σ (peekM C σ 0)).1.base.size+0)+0+_≤_;omega
 · next hk =>
   rw [if_neg hk] at h;split
   · next hk2 =>
     have hp:=phi_txt (C:=C) (peek_kind (σ:=σ) (by rw [hk2]; decide));refine ⟨ok_mk ⟨by decide,by decide⟩ ⟨by show (0:Int)≤0; decide,by show (0:Int)≤_; decide⟩ hn rfl,?_⟩;simp only [wE,tyW,wEs];show 80+0+0+(3+0)+0+phi C (nextM C σ)≤_;omega
   · next hk2 =>
     rw [if_neg hk2] at h;split
     · next hk3 =>
       have hp:=phi_txt (C:=C) (peek_kind (σ:=σ) (by rw [hk3]; decide));refine ⟨ok_0 ⟨by decide,by decide⟩ rfl,?_⟩;simp only;rw [wE_0];have e:(peekM C σ 0).text=txt C σ:=rfl;rw [e,nt_size];simp only [wEs];omega
     · next hk3 =>
       rw [if_neg hk3] at h;exact absurd ((Mo.next (Mo.refl (Nat.le_refl _)) (C:=C)).code h) lost_code
theorem size_phi (hT:Tks C) {σ:St} (hs:σ.at_≤C.T.length) (hi:isM C σ ⟨#[115,105,122,101,111,102]⟩=true) (h:(sizeM C σ).2.code=0):okE (sizeM C σ).1=true∧wE (sizeM C σ).1+phi C (sizeM C σ).2≤phi C σ:=by
 have r:=Mo.refl hs (C:=C);unfold sizeM at h ⊢;simp only at h ⊢;have m4:=((r.next.want ⟨#[40]⟩).typ).number;have h4:=((Mo.refl m4.le).want _).code h;have m3:=(r.next.want ⟨#[40]⟩).typ;have h3:=((Mo.refl m3.le).number).code h4;have n1:=typ_phi hT h3;have n2:=number_phi hT m3.le;have n3:=is_phi hi rfl;have n4:=phi_mo ((Mo.refl r.next.le).want ⟨#[40]⟩);have n5:=phi_mo ((Mo.refl m4.le).want ⟨#[41]⟩);refine ⟨ok_mk ⟨by decide,by decide⟩ n1.1 n2.1 rfl,?_⟩;simp only [wE,wEs];rw [nt_size];omega
def need:Job→Nat
 | .bin _=>2
 | .cond=>3
 | .expr=>4
 | _=>1
def okJ:Job→Bool
 | .bin l=>decide (1≤l)
 | .binL l e=>decide (1≤l)&&okE e
 | .post e=>okE e
 | .args e=>okE e
 | _=>true
def wJ:Job→Nat
 | .binL _ l=>wE l
 | .post e=>wE e
 | .args e=>wE e
 | _=>0
theorem ok_1 {kind:Int} {op name:ByteArray} {x:Ex} (hk:1≤kind∧kind≤14) (hx:okE x=true):okJ (.post (.mk kind op name ty0 0 false [x]))=true:=ok_0 (op:=op) (name:=name) hk (okEs1 hx)
theorem ok_2 {kind:Int} {op name:ByteArray} {x y:Ex} (hk:1≤kind∧kind≤14) (hx:okE x=true) (hy:okE y=true):okJ (.args (.mk kind op name ty0 0 false [x,y]))=true:=ok_0 (op:=op) (name:=name) hk (okEs2 hx hy)
theorem ok_n {kind:Int} {op name:ByteArray} {l:List Ex} (hk:1≤kind∧kind≤14) (hx:okEs l=true):okJ (.args (.mk kind op name ty0 0 false l))=true:=ok_0 (op:=op) (name:=name) hk hx
def EOk (C:Cx) (f:Nat) (j:Job) (σ:St):Prop :=
 σ.at_≤C.T.length→10 * (C.T.length - σ.at_)+need j≤f→okJ j=true→(E C f j σ).2.code=0→okE (E C f j σ).1=true∧wE (E C f j σ).1+phi C (E C f j σ).2≤phi C σ+wJ j
theorem binEx_ok {op:ByteArray} {l r:Ex} (hl:okE l=true) (hr:okE r=true):okE (binEx op l r)=true∧wE (binEx op l r)≤80+op.size+wE l+wE r:=by
 unfold binEx
 (repeat' split)
 · exact ⟨ok_0 ⟨by decide,by decide⟩ (okEs2 hl hr),by rw [wE_0,wEs2,nt_size]; omega⟩
 · exact ⟨ok_0 ⟨by decide,by decide⟩ (okEs2 hl hr),by rw [wE_0,wEs2,nt_size]; omega⟩
 · exact ⟨ok_0 ⟨by decide,by decide⟩ (okEs2 hl hr),by rw [wE_0,wEs2,nt_size]; omega⟩
theorem E_ok (hT:Tks C):∀ (f:Nat) (j:Job) (σ:St),EOk C f j σ
 | 0,j,σ=>fun _ hf=>absurd hf (by cases j <;> simp only [need] <;> omega)
 | f+1,j,σ=>fun hs hf hj hc=>by
   have r:=Mo.refl hs (C:=C);have ih:∀ (j:Job) (τ:St),EOk C f j τ:=fun j τ=>E_ok hT f j τ
   have mo:∀ {τ:St} (j:Job),τ.at_≤C.T.length→Mo C τ (E C f j τ).2:=fun j k=>E_mo f j _ k
   cases j with
   | expr =>
     unfold E at hc ⊢;simp only at hc ⊢;have m1:=mo .cond hs;by_cases ha:assigns (txt C (E C f .cond σ).2)=true
     · rw [if_pos ha] at hc ⊢;have ha1:=txt_lt ha rfl;have m2:=Mo.next (Mo.refl m1.le);have m3:=mo .expr m2.le;have c2:=m3.code hc;have c1:=m2.code c2;obtain ⟨o1,w1⟩:=ih .cond σ hs (by simp only [need] at hf ⊢; omega) rfl c1;have g1:=phi_gt (C:=C) m1.at_ (by have:=wE_ge (E C f .cond σ).1; simp only [wJ] at w1; omega);have p1:=phi_txt ha1;have g2:=next_at ha1;obtain ⟨o2,w2⟩:=ih .expr _ m2.le (by simp only [need] at hf ⊢; omega) rfl hc;refine ⟨ok_0 ⟨by decide,by decide⟩ (okEs2 o1 o2),?_⟩;rw [wE_0,wEs2,nt_size];simp only [wJ] at *;omega
     · rw [if_neg ha] at hc ⊢;obtain ⟨o1,w1⟩:=ih .cond σ hs (by simp only [need] at hf ⊢; omega) rfl hc;exact ⟨o1,w1⟩
   | cond =>
     unfold E at hc ⊢;simp only at hc ⊢;have m1:=mo (.bin 1) hs;by_cases ha:isM C (E C f (.bin 1) σ).2 ⟨#[63]⟩=true
     · rw [if_pos ha] at hc ⊢;simp only at hc ⊢;have ha1:=is_lt ha rfl;have m2:=Mo.next (Mo.refl m1.le);have m3:=mo .expr m2.le;have m4:=(Mo.refl m3.le).want ⟨#[58]⟩;have m5:=mo .cond m4.le;have c4:=m5.code hc;have c3:=m4.code c4;have c2:=m3.code c3;have c1:=m2.code c2;obtain ⟨o1,w1⟩:=ih (.bin 1) σ hs (by simp only [need] at hf ⊢; omega) rfl c1;have g1:=phi_gt (C:=C) m1.at_ (by have:=wE_ge (E C f (.bin 1) σ).1; simp only [wJ] at w1; omega);have p1:=is_phi ha rfl;have g2:=next_at ha1;obtain ⟨o2,w2⟩:=ih .expr _ m2.le (by simp only [need] at hf ⊢; omega) rfl c3;have a3:=m3.at_;have a4:=m4.at_;have p4:=phi_mo m4;obtain ⟨o3,w3⟩:=ih .cond _ m4.le (by simp only [need] at hf ⊢; omega) rfl hc;refine ⟨ok_0 ⟨by decide,by decide⟩ (okEs3 o1 o2 o3),?_⟩;rw [wE_0,wEs3,nt_size];simp only [wJ] at *;omega
     · rw [if_neg ha] at hc ⊢;obtain ⟨o1,w1⟩:=ih (.bin 1) σ hs (by simp only [need] at hf ⊢; omega) rfl hc;exact ⟨o1,w1⟩
   | bin l =>
     unfold E at hc ⊢;simp only at hc ⊢;have hl:1≤l:=of_decide_eq_true hj;have m1:=mo .unary hs;have m2:=mo (.binL l (E C f .unary σ).1) m1.le;have c1:=m2.code hc;obtain ⟨o1,w1⟩:=ih .unary σ hs (by simp only [need] at hf ⊢; omega) rfl c1;have g1:=phi_gt (C:=C) m1.at_ (by have:=wE_ge (E C f .unary σ).1; simp only [wJ] at w1; omega);obtain ⟨o2,w2⟩:=ih (.binL l (E C f .unary σ).1) _ m1.le (by simp only [need] at hf ⊢; omega) (by simp only [okJ]; rw [o1,decide_eq_true hl]; rfl) hc;refine ⟨o2,?_⟩;simp only [wJ] at *;omega
   | binL l x =>
     simp only [okJ] at hj;rw [Bool.and_eq_true,decide_eq_true_eq] at hj;obtain ⟨hl1,hx⟩:=hj;unfold E at hc ⊢;by_cases hl:levelM (txt C σ) < l
     · rw [if_pos hl] at hc ⊢;exact ⟨hx,by simp only [wJ]; omega⟩
     · rw [if_neg hl] at hc ⊢;simp only at hc ⊢;have m1:=Mo.next r;have m2:=mo (.bin (levelM (txt C σ)+1)) m1.le;have m3:=mo (.binL l (binEx (txt C σ) x (E C f (.bin (levelM (txt C σ)+1)) (nextM C σ)).1)) m2.le;have c2:=m3.code hc;have hlt:σ.at_ < C.T.length:=txt_lt (p:=fun t=>decide (levelM t≠0)) (decide_eq_true (by omega)) rfl;have g1:=next_at hlt;have p1:=phi_txt hlt;obtain ⟨o1,w1⟩:=ih (.bin (levelM (txt C σ)+1)) _ m1.le (by simp only [need] at hf ⊢; omega) (decide_eq_true (by omega)) c2;obtain ⟨b1,b2⟩:=binEx_ok (op:=txt C σ) hx o1;have a2:=m2.at_;obtain ⟨o2,w2⟩:=ih (.binL l (binEx (txt C σ) x (E C f (.bin (levelM (txt C σ)+1)) (nextM C σ)).1)) _ m2.le (by simp only [need] at hf ⊢; omega) (by simp only [okJ]; rw [b1,decide_eq_true hl1]; rfl) hc;refine ⟨o2,?_⟩;simp only [wJ] at *;omega
   | unary =>
     unfold E at hc ⊢;simp only at hc ⊢;by_cases h1:unOps (txt C σ)=true
     · rw [if_pos h1] at hc ⊢;have hlt:=txt_lt h1 rfl;have p1:=phi_txt hlt;have g1:=next_at hlt;obtain ⟨o1,w1⟩:=ih .unary _ r.next.le (by simp only [need] at hf ⊢; omega) rfl hc;refine ⟨ok_0 ⟨by decide,by decide⟩ (okEs1 o1),?_⟩;rw [wE_0,wEs1,nt_size];simp only [wJ] at *;omega
     rw [if_neg h1] at hc ⊢;by_cases h2:isM C σ ⟨#[115,105,122,101,111,102]⟩=true
     · rw [if_pos h2] at hc ⊢;obtain ⟨o1,w1⟩:=size_phi hT hs h2 hc;exact ⟨o1,by simp only [wJ]; omega⟩
     rw [if_neg h2] at hc ⊢;by_cases h3:isM C σ ⟨#[40]⟩=true
     · rw [if_pos h3] at hc ⊢;have hlt:=is_lt h3 rfl;have p1:=is_phi h3 rfl;have g1:=next_at hlt;by_cases h4:typedM C (nextM C σ)=true
       · rw [if_pos h4] at hc ⊢;simp only at hc ⊢;have m1:=(Mo.refl r.next.le (C:=C)).typ;have m2:=(Mo.refl m1.le).want ⟨#[41]⟩;have m3:=mo .unary m2.le;have c2:=m3.code hc;have c1:=m2.code c2;have t1:=typ_phi hT c1;have a1:=m1.at_;have a2:=m2.at_;have p2:=phi_mo m2;obtain ⟨o1,w1⟩:=ih .unary _ m2.le (by simp only [need] at hf ⊢; omega) rfl hc;refine ⟨ok_mk ⟨by decide,by decide⟩ t1.1 ⟨Int.le_refl _,by decide⟩ (okEs1 o1),?_⟩;rw [show ∀ (t:Ty) (x:Ex),wE (.mk 13 nt nt t 0 false [x])=80+tyW t+wE x from fun t x=>by simp only [wE,wEs,nt_size]; omega];have z1:wJ .unary=0:=rfl;rw [z1] at w1;have z2:wJ .unary=0:=rfl;show _≤_+0;omega
       · rw [if_neg h4] at hc ⊢;have m1:=mo .expr r.next.le;have m2:=(Mo.refl m1.le).want ⟨#[41]⟩;have m3:=mo (.post (E C f .expr (nextM C σ)).1) m2.le;have c2:=m3.code hc;have c1:=m2.code c2;have a1:=m1.at_;have a2:=m2.at_;have p2:=phi_mo m2;obtain ⟨o1,w1⟩:=ih .expr _ r.next.le (by simp only [need] at hf ⊢; omega) rfl c1;obtain ⟨o2,w2⟩:=ih (.post (E C f .expr (nextM C σ)).1) _ m2.le (by simp only [need] at hf ⊢; omega) o1 hc;refine ⟨o2,?_⟩;simp only [wJ] at *;omega
     rw [if_neg h3] at hc ⊢;have m1:=Mo.prime r;have m2:=mo (.post (primeM C σ).1) m1.le;have c1:=m2.code hc;obtain ⟨o1,w1⟩:=prime_phi hT hs c1;have g1:=phi_gt (C:=C) m1.at_ (by have:=wE_ge (primeM C σ).1; omega);have l1:=m1.le;obtain ⟨o2,w2⟩:=ih (.post (primeM C σ).1) _ m1.le (by simp only [need] at hf ⊢; omega) o1 hc;refine ⟨o2,?_⟩;simp only [wJ] at *;omega
   | post x =>
     have hx:okE x=true:=hj;unfold E at hc ⊢;by_cases h1:isM C σ ⟨#[91]⟩=true
     · rw [if_pos h1] at hc ⊢;simp only at hc ⊢;have hlt:=is_lt h1 rfl;have p1:=is_phi h1 rfl;have g1:=next_at hlt;have m1:=mo .expr r.next.le;have m2:=(Mo.refl m1.le).want ⟨#[93]⟩;have m3:=mo (.post (.mk 9 nt nt ty0 0 false [x,(E C f .expr (nextM C σ)).1])) m2.le;have c2:=m3.code hc;have c1:=m2.code c2;have a1:=m1.at_;have a2:=m2.at_;have p2:=phi_mo m2;obtain ⟨o1,w1⟩:=ih .expr _ r.next.le (by simp only [need] at hf ⊢; omega) rfl c1;have o3:okE (.mk 9 nt nt ty0 0 false [x,(E C f .expr (nextM C σ)).1])=true:=ok_0 ⟨by decide,by decide⟩ (okEs2 hx o1);obtain ⟨o2,w2⟩:=ih (.post (.mk 9 nt nt ty0 0 false [x,(E C f .expr (nextM C σ)).1])) _ m2.le (by simp only [need] at hf ⊢; omega) o3 hc;refine ⟨o2,?_⟩;simp only [wJ] at *;rw [wE_0,wEs2,nt_size] at w2;omega
     rw [if_neg h1] at hc ⊢;by_cases h2:isM C σ ⟨#[46]⟩=true
     · rw [if_pos h2] at hc ⊢;simp only at hc ⊢;have hlt:=is_lt h2 rfl;have p1:=is_phi h2 rfl;have g1:=next_at hlt;have m1:=(Mo.refl r.next.le (C:=C)).name;have m3:=mo (.post (.mk 10 nt (nameM C (nextM C σ)).1 ty0 0 false [x])) m1.le;have c1:=m3.code hc;have p2:=name_phi c1;have a1:=m1.at_;obtain ⟨o2,w2⟩:=ih (.post (.mk 10 nt (nameM C (nextM C σ)).1 ty0 0 false [x])) _ m1.le (by simp only [need] at hf ⊢; omega) (ok_1 ⟨by decide,by decide⟩ hx) hc;refine ⟨o2,?_⟩;simp only [wJ] at *;rw [wE_0,wEs1,nt_size] at w2;omega
     rw [if_neg h2] at hc ⊢;by_cases h3:isM C σ ⟨#[45,62]⟩=true
     · rw [if_pos h3] at hc ⊢;simp only at hc ⊢;have hlt:=is_lt h3 rfl;have p1:=is_phi h3 rfl;have g1:=next_at hlt;have m1:=(Mo.refl r.next.le (C:=C)).name;have m3:=mo (.post (.mk 11 nt (nameM C (nextM C σ)).1 ty0 0 false [x])) m1.le;have c1:=m3.code hc;have p2:=name_phi c1;have a1:=m1.at_;obtain ⟨o2,w2⟩:=ih (.post (.mk 11 nt (nameM C (nextM C σ)).1 ty0 0 false [x])) _ m1.le (by simp only [need] at hf ⊢; omega) (ok_1 ⟨by decide,by decide⟩ hx) hc;refine ⟨o2,?_⟩;simp only [wJ] at *;rw [wE_0,wEs1,nt_size] at w2;omega
     rw [if_neg h3] at hc ⊢;by_cases h4:isM C σ ⟨#[40]⟩=true
     · rw [if_pos h4] at hc ⊢;have hlt:=is_lt h4 rfl;have p1:=is_phi h4 rfl;have g1:=next_at hlt;by_cases h5:isM C (nextM C σ) ⟨#[41]⟩=true
       · rw [if_pos h5] at hc ⊢;have m1:=Mo.next (Mo.refl r.next.le (C:=C));have a1:=m1.at_;have p2:=phi_mo m1;obtain ⟨o2,w2⟩:=ih (.post (.mk 12 nt nt ty0 0 false [x])) _ m1.le (by simp only [need] at hf ⊢; omega) (ok_1 ⟨by decide,by decide⟩ hx) hc;refine ⟨o2,?_⟩;simp only [wJ] at *;rw [wE_0,wEs1,nt_size] at w2;omega
       · rw [if_neg h5] at hc ⊢;simp only at hc ⊢;have m1:=mo .expr r.next.le;have m2:=mo (.args (.mk 12 nt nt ty0 0 false [x,(E C f .expr (nextM C σ)).1])) m1.le;have m3:=(Mo.refl m2.le).want ⟨#[41]⟩;have m4:=mo (.post (E C f (.args (.mk 12 nt nt ty0 0 false [x,(E C f .expr (nextM C σ)).1])) (E C f .expr (nextM C σ)).2).1) m3.le;have c3:=m4.code hc;have c2:=m3.code c3;have c1:=m2.code c2;have a1:=m1.at_;have a2:=m2.at_;have a3:=m3.at_;have p3:=phi_mo m3;obtain ⟨o1,w1⟩:=ih .expr _ r.next.le (by simp only [need] at hf ⊢; omega) rfl c1;obtain ⟨o2,w2⟩:=ih (.args (.mk 12 nt nt ty0 0 false [x,(E C f .expr (nextM C σ)).1])) _ m1.le (by simp only [need] at hf ⊢; omega) (ok_2 ⟨by decide,by decide⟩ hx o1) c2;obtain ⟨o3,w3⟩:=ih (.post (E C f (.args (.mk 12 nt nt ty0 0 false [x,(E C f .expr (nextM C σ)).1])) (E C f .expr (nextM C σ)).2).1) _ m3.le (by simp only [need] at hf ⊢; omega) o2 hc;refine ⟨o3,?_⟩;simp only [wJ] at *;rw [wE_0,wEs2,nt_size] at w2;omega
     rw [if_neg h4] at hc ⊢;exact ⟨hx,by simp only [wJ]; omega⟩
   | args x =>
     have hx:okE x=true:=hj;unfold E at hc ⊢;by_cases h1:isM C σ ⟨#[44]⟩=true
     · rw [if_pos h1] at hc ⊢;simp only at hc ⊢;have hlt:=is_lt h1 rfl;have p1:=is_phi h1 rfl;have g1:=next_at hlt;have m1:=mo .expr r.next.le;have m2:=mo (.args (.mk 12 nt nt ty0 0 false (x.subs++[(E C f .expr (nextM C σ)).1]))) m1.le;have c1:=m2.code hc;have a1:=m1.at_;obtain ⟨o1,w1⟩:=ih .expr _ r.next.le (by simp only [need] at hf ⊢; omega) rfl c1;have o3:okEs (x.subs++[(E C f .expr (nextM C σ)).1])=true:=by rw [okEs_app,okE_subs hx,okEs1 o1]; rfl
       obtain ⟨o2,w2⟩:=ih (.args (.mk 12 nt nt ty0 0 false (x.subs++[(E C f .expr (nextM C σ)).1]))) _ m1.le (by simp only [need] at hf ⊢; omega) (ok_n ⟨by decide,by decide⟩ o3) hc;refine ⟨o2,?_⟩;have hsub:=wE_subs x;simp only [wJ] at *;rw [wE_0,wEs_app,wEs1,nt_size] at w2;omega
     · rw [if_neg h1] at hc ⊢;exact ⟨hx,by simp only [wJ]; omega⟩
theorem exprM_ok (hT:Tks C) {σ:St} (hs:σ.at_≤C.T.length) (hc:(exprM C σ).2.code=0):okE (exprM C σ).1=true∧wE (exprM C σ).1+phi C (exprM C σ).2≤phi C σ:=by
 have h:=E_ok hT (fuel C σ) .expr σ hs (by simp only [need,fuel]; omega) rfl hc;exact ⟨h.1,by have:=h.2; simp only [wJ,Nat.add_zero] at this; exact this⟩
theorem condM_ok (hT:Tks C) {σ:St} (hs:σ.at_≤C.T.length) (hc:(condM C σ).2.code=0):okE (condM C σ).1=true∧wE (condM C σ).1+phi C (condM C σ).2≤phi C σ:=by
 have h:=E_ok hT (fuel C σ) .cond σ hs (by simp only [need,fuel]; omega) rfl hc;exact ⟨h.1,by have:=h.2; simp only [wJ,Nat.add_zero] at this; exact this⟩
end Go.Proofs.YtflbkdfbjofllaaGreatDoor.Sy
namespace Go.Proofs.YtflbkdfbjofllaaGreatDoor.Sy
open Go.RowKit Lx
variable {C:Cx}
def wV (v:Vr):Nat:=v.name.size+tyW v.ty
def wO:Option Ex→Nat
 | none=>0
 | some e=>wE e
mutual
def wS:Sm→Nat
 | .mk kind v name minus num e0 e1 e2 body=>100+wV v+name.size+wO e0+wO e1+wO e2+wSs body
def wSs:List Sm→Nat
 | []=>0
 | e::t=>wS e+wSs t
end
theorem wSs_app (a b:List Sm):wSs (a++b)=wSs a+wSs b:=by
 induction a with
 | nil=>simp only [List.nil_append,wSs,Nat.zero_add]
 | cons e t ih=>simp only [List.cons_append,wSs,ih,Nat.add_assoc]
theorem okSs_app (a b:List Sm):okSs (a++b)=(okSs a&&okSs b):=by
 induction a with
 | nil=>simp only [List.nil_append,okSs,Bool.true_and]
 | cons e t ih=>simp only [List.cons_append,okSs,ih,Bool.and_assoc]
theorem wSs1 (a:Sm):wSs [a]=wS a:=by simp only [wSs]; rfl
theorem wSs2 (a b:Sm):wSs [a,b]=wS a+wS b:=by simp only [wSs]; rfl
theorem okSs1 {a:Sm} (h:okS a=true):okSs [a]=true:=by simp only [okSs,h]; rfl
theorem okSs2 {a b:Sm} (h:okS a=true) (g:okS b=true):okSs [a,b]=true:=by simp only [okSs,h,g]; rfl
theorem vr0_w:wV vr0=0:=rfl
theorem okS_mk {kind:Int} {v:Vr} {name:ByteArray} {minus:Bool} {num:Int} {e0 e1 e2:Option Ex} {body:List Sm} (hk:1≤kind∧kind≤16) (hv:0≤v.ty.stars∧v.ty.stars≤1000000) (hv2:0≤v.num∧v.num≤18446744073709551615) (hn:0≤num∧num≤18446744073709551615)
    (h0:okO e0=true) (h1:okO e1=true) (h2:okO e2=true) (hb:okSs body=true):okS (.mk kind v name minus num e0 e1 e2 body)=true:=by
 simp only [okS,okN];rw [h0,h1,h2,hb,decide_eq_true hk,decide_eq_true ⟨hv.1,hv.2,hv2.1,hv2.2⟩,decide_eq_true ⟨Int.le_refl _,(by decide:(0:Int)≤1000000),hn.1,hn.2⟩];rfl
theorem okS_0 {kind:Int} {name:ByteArray} {minus:Bool} {e0 e1 e2:Option Ex} {body:List Sm} (hk:1≤kind∧kind≤16) (h0:okO e0=true) (h1:okO e1=true) (h2:okO e2=true) (hb:okSs body=true):okS (.mk kind vr0 name minus 0 e0 e1 e2 body)=true :=
 okS_mk hk ⟨Int.le_refl _,by show (0:Int)≤_; decide⟩ ⟨Int.le_refl _,by show (0:Int)≤_; decide⟩ ⟨Int.le_refl _,by decide⟩ h0 h1 h2 hb
theorem wS_0 (kind:Int) (name:ByteArray) (minus:Bool) (num:Int) (e0 e1 e2:Option Ex) (body:List Sm):wS (.mk kind vr0 name minus num e0 e1 e2 body)=100+name.size+wO e0+wO e1+wO e2+wSs body:=by simp only [wS,vr0_w,Nat.add_zero]
theorem asked_ok (hT:Tks C) {σ:St} (hs:σ.at_≤C.T.length) (hc:(askedM C σ).2.code=0):okE (askedM C σ).1=true∧wE (askedM C σ).1+phi C (askedM C σ).2≤phi C σ:=by
 unfold askedM at hc ⊢;simp only at hc ⊢;have m1:=(Mo.refl hs (C:=C)).want ⟨#[40]⟩;have m2:=exprM_mo (Mo.refl m1.le);have m3:=(Mo.refl m2.le).want ⟨#[41]⟩;obtain ⟨o1,w1⟩:=exprM_ok hT m1.le (m3.code hc);have p1:=phi_mo m1;have p3:=phi_mo m3;exact ⟨o1,by omega⟩
theorem part_ok (hT:Tks C) {σ:St} (t:ByteArray) (hs:σ.at_≤C.T.length) (hc:(partM C σ t).2.code=0):okO (partM C σ t).1=true∧wO (partM C σ t).1+phi C (partM C σ t).2≤phi C σ:=by
 unfold partM at hc ⊢;simp only at hc ⊢;by_cases h:isM C σ t=true
 · rw [if_pos h] at hc ⊢;exact ⟨rfl,by have:=phi_mo ((Mo.refl hs (C:=C)).want t); simp only [wO]; omega⟩
 · rw [if_neg h] at hc ⊢;have m2:=exprM_mo (Mo.refl hs (C:=C));have m3:=(Mo.refl m2.le).want t;obtain ⟨o1,w1⟩:=exprM_ok hT hs (m3.code hc);have p3:=phi_mo m3;exact ⟨o1,by simp only [wO]; omega⟩
theorem let_ok (hT:Tks C) {σ:St} (hs:σ.at_≤C.T.length) (hc:(letM C σ).2.code=0):okS (letM C σ).1=true∧wS (letM C σ).1+phi C (letM C σ).2≤phi C σ:=by
 unfold letM at hc ⊢;simp only at hc ⊢;have m1:=(Mo.refl hs (C:=C)).typ;have m2:=(Mo.refl m1.le).name;have m3:=(Mo.refl m2.le).number;have n3:=number_phi hT m2.le;by_cases h:isM C (numberM C (nameM C (typM C σ).2).2).2.2 ⟨#[61]⟩=true
 · rw [if_pos h] at hc ⊢;simp only at hc ⊢;have m4:=(Mo.refl m3.le).next;have m5:=exprM_mo (Mo.refl m4.le);have m6:=(Mo.refl m5.le).want ⟨#[59]⟩;have c5:=m6.code hc;have c3:=m4.code (m5.code c5);have c2:=m3.code c3;have c1:=m2.code c2;have t1:=typ_phi hT c1;have t2:=name_phi c2;obtain ⟨o1,w1⟩:=exprM_ok hT m4.le c5;have p4:=phi_mo m4;have p6:=phi_mo m6;refine ⟨okS_mk ⟨by decide,by decide⟩ t1.1 n3.1 ⟨Int.le_refl _,by decide⟩ o1 rfl rfl rfl,?_⟩;simp only [wS,wV,wSs,wO,nt_size];omega
 · rw [if_neg h] at hc ⊢;simp only at hc ⊢;have m6:=(Mo.refl m3.le).want ⟨#[59]⟩;have c3:=m6.code hc;have c2:=m3.code c3;have c1:=m2.code c2;have t1:=typ_phi hT c1;have t2:=name_phi c2;have p6:=phi_mo m6;refine ⟨okS_mk ⟨by decide,by decide⟩ t1.1 n3.1 ⟨Int.le_refl _,by decide⟩ rfl rfl rfl rfl,?_⟩;simp only [wS,wV,wSs,wO,nt_size];omega
theorem labelled_ok (hT:Tks C) {σ:St} (hl:σ.at_ < C.T.length) (hc:(labelledM C σ).2.code=0):okS (labelledM C σ).1=true∧wS (labelledM C σ).1+phi C (labelledM C σ).2≤phi C σ:=by
 have m:=Mo.labelled (Mo.refl (Mo.next (Mo.refl (Nat.le_of_lt hl) (C:=C))).le);have p0:=phi_txt hl;have hm:Mo C (nextM C σ) (labelledM C σ).2:=by
  have r:=Mo.refl (Mo.next (Mo.refl (Nat.le_of_lt hl) (C:=C))).le;unfold labelledM;simp only;split
  · exact (((r.go _).numberType _).next).want _
  split
  · exact ((r.go _).next).want _
  · exact ((r.go _).lost.next).want _
 have p1:=phi_mo hm;unfold labelledM;simp only;refine ⟨okS_mk ⟨by decide,by decide⟩ ⟨Int.le_refl _,by show (0:Int)≤_; decide⟩ ⟨Int.le_refl _,by show (0:Int)≤_; decide⟩ (peek_ok hT _) rfl rfl rfl rfl,?_⟩;rw [wS_0];unfold labelledM at p1;simp only at p1;simp only [wSs,wO,nt_size];omega
def needS:Sj→Nat
 | .stmt=>6
 | .block=>5
 | _=>7
def okSj:Sj→Bool
 | .blockL acc=>okSs acc
 | .choiceL e acc=>okO e&&okSs acc
 | _=>true
def wSj:Sj→Nat
 | .blockL acc=>100+wSs acc
 | .choiceL e acc=>100+wO e+wSs acc
 | _=>0
def SOk (C:Cx) (f:Nat) (j:Sj) (σ:St):Prop :=
 σ.at_≤C.T.length→10 * (C.T.length - σ.at_)+needS j≤f→okSj j=true→(S C f j σ).2.code=0→okS (S C f j σ).1=true∧wS (S C f j σ).1+phi C (S C f j σ).2≤phi C σ+wSj j
theorem wS_ge (e:Sm):100≤wS e:=by cases e; simp only [wS]; omega
theorem ite_sok {P:Sm × St→Prop} {c:Prop} [Decidable c] {a b:Sm × St} (hc:(if c then a else b).2.code=0) (h1:c→a.2.code=0→P a) (h2:¬ c→b.2.code=0→P b):P (if c then a else b):=by
 by_cases h:c
 · rw [if_pos h] at hc ⊢; exact h1 h hc
 · rw [if_neg h] at hc ⊢; exact h2 h hc
theorem S_ok (hT:Tks C):∀ (f:Nat) (j:Sj) (σ:St),SOk C f j σ
 | 0,j,σ=>fun _ hf=>absurd hf (by cases j <;> simp only [needS] <;> omega)
 | f+1,j,σ=>fun hs hf hj hc=>by
   have r:=Mo.refl hs (C:=C);have ih:∀ (j:Sj) (τ:St),SOk C f j τ:=fun j τ=>S_ok hT f j τ
   have mo:∀ {τ:St} (j:Sj),τ.at_≤C.T.length→Mo C τ (S C f j τ).2:=fun j k=>S_mo f j _ k
   cases j with
   | block =>
     unfold S at hc ⊢;have m1:=r.want ⟨#[123]⟩;have m2:=mo (.blockL []) m1.le;have c1:=m2.code hc;have p1:=want_phi c1 rfl;have g1:=phi_gt (C:=C) m1.at_ (by omega);have l1:=m1.le;obtain ⟨o1,w1⟩:=ih (.blockL []) _ m1.le (by simp only [needS] at hf ⊢; omega) rfl hc;refine ⟨o1,?_⟩;simp only [wSj,wSs] at *;omega
   | blockL acc =>
     have ha:okSs acc=true:=hj;unfold S at hc ⊢;by_cases h1:isM C σ ⟨#[125]⟩=true
     · rw [if_pos h1] at hc ⊢;have p1:=phi_mo r.next;exact ⟨okS_0 ⟨by decide,by decide⟩ rfl rfl rfl ha,by rw [wS_0]; simp only [wSj,wO,nt_size]; omega⟩
     rw [if_neg h1] at hc ⊢;by_cases h2:σ.at_=C.T.length
     · rw [if_pos h2] at hc; exact absurd hc lost_code
     rw [if_neg h2] at hc ⊢;simp only at hc ⊢;have m1:=mo .stmt hs;have m2:=mo (.blockL (acc++[(S C f .stmt σ).1])) m1.le;have c1:=m2.code hc;obtain ⟨o1,w1⟩:=ih .stmt σ hs (by simp only [needS] at hf ⊢; omega) rfl c1;have g1:=phi_gt (C:=C) m1.at_ (by have:=wS_ge (S C f .stmt σ).1; simp only [wSj] at w1; omega);obtain ⟨o2,w2⟩:=ih (.blockL (acc++[(S C f .stmt σ).1])) _ m1.le (by simp only [needS] at hf ⊢; omega) (by simp only [okSj]; rw [okSs_app,ha,okSs1 o1]; rfl) hc;refine ⟨o2,?_⟩;simp only [wSj] at *;rw [wSs_app,wSs1] at w2;omega
   | choiceL e acc =>
     simp only [okSj] at hj;rw [Bool.and_eq_true] at hj;obtain ⟨he,ha⟩:=hj;unfold S at hc ⊢;by_cases h1:isM C σ ⟨#[125]⟩=true
     · rw [if_pos h1] at hc ⊢;have p1:=phi_mo r.next;exact ⟨okS_0 ⟨by decide,by decide⟩ he rfl rfl ha,by rw [wS_0]; simp only [wSj,wO,nt_size]; omega⟩
     rw [if_neg h1] at hc ⊢;by_cases h2:σ.at_=C.T.length
     · rw [if_pos h2] at hc; exact absurd hc lost_code
     rw [if_neg h2] at hc ⊢;by_cases h3:isM C σ ⟨#[99,97,115,101]⟩=true
     · rw [if_pos h3] at hc ⊢;simp only at hc ⊢;have m1:=r.labelled;have m2:=mo (.choiceL e (acc++[(labelledM C σ).1])) m1.le;have c1:=m2.code hc;obtain ⟨o1,w1⟩:=labelled_ok hT (is_lt h3 rfl) c1;have g1:=phi_gt (C:=C) m1.at_ (by have:=wS_ge (labelledM C σ).1; omega);obtain ⟨o2,w2⟩:=ih (.choiceL e (acc++[(labelledM C σ).1])) _ m1.le (by simp only [needS] at hf ⊢; omega) (by simp only [okSj]; rw [okSs_app,he,ha,okSs1 o1]; rfl) hc;refine ⟨o2,?_⟩;simp only [wSj] at *;rw [wSs_app,wSs1] at w2;omega
     rw [if_neg h3] at hc ⊢;by_cases h4:isM C σ ⟨#[100,101,102,97,117,108,116]⟩=true
     · rw [if_pos h4] at hc ⊢;have p1:=is_phi h4 rfl;have g1:=next_at (is_lt h4 rfl);have m1:=(Mo.refl r.next.le (C:=C)).want ⟨#[58]⟩;have p2:=phi_mo m1;have a1:=m1.at_;have o1:okS (.mk 10 vr0 nt false 0 none none none [])=true:=okS_0 ⟨by decide,by decide⟩ rfl rfl rfl rfl;have e1:wS (.mk 10 vr0 nt false 0 none none none [])=100:=rfl;have hlt:=is_lt h4 rfl;obtain ⟨o2,w2⟩:=ih (.choiceL e (acc++[.mk 10 vr0 nt false 0 none none none []])) _ m1.le (by simp only [needS] at hf ⊢; omega) (by simp only [okSj]; rw [okSs_app,he,ha,okSs1 o1]; rfl) hc;refine ⟨o2,?_⟩;simp only [wSj] at *;rw [wSs_app,wSs1,e1] at w2;omega
     rw [if_neg h4] at hc ⊢;simp only at hc ⊢;have m1:=mo .stmt hs;have m2:=mo (.choiceL e (acc++[(S C f .stmt σ).1])) m1.le;have c1:=m2.code hc;obtain ⟨o1,w1⟩:=ih .stmt σ hs (by simp only [needS] at hf ⊢; omega) rfl c1;have g1:=phi_gt (C:=C) m1.at_ (by have:=wS_ge (S C f .stmt σ).1; simp only [wSj] at w1; omega);obtain ⟨o2,w2⟩:=ih (.choiceL e (acc++[(S C f .stmt σ).1])) _ m1.le (by simp only [needS] at hf ⊢; omega) (by simp only [okSj]; rw [okSs_app,he,ha,okSs1 o1]; rfl) hc;refine ⟨o2,?_⟩;simp only [wSj] at *;rw [wSs_app,wSs1] at w2;omega
   | stmt =>
     unfold S at hc ⊢;simp only at hc ⊢;have W0:wSj .stmt=0:=rfl;rw [W0,Nat.add_zero];simp only [needS] at hf;refine ite_sok (P:=fun x=>okS x.1=true∧wS x.1+phi C x.2≤phi C σ) hc (fun h hc=>?_) (fun _ hc=>?_)
     · obtain ⟨o1,w1⟩:=ih .block σ hs (by simp only [needS]; omega) rfl hc;exact ⟨o1,by simp only [wSj] at w1; omega⟩
     refine ite_sok (P:=fun x=>okS x.1=true∧wS x.1+phi C x.2≤phi C σ) hc (fun h hc=>?_) (fun _ hc=>?_)
     · have p1:=is_phi h rfl;exact ⟨okS_0 ⟨by decide,by decide⟩ rfl rfl rfl rfl,by rw [wS_0]; simp only [wSs,wO,nt_size]; omega⟩
     refine ite_sok (P:=fun x=>okS x.1=true∧wS x.1+phi C x.2≤phi C σ) hc (fun h hc=>let_ok hT hs hc) (fun _ hc=>?_);refine ite_sok (P:=fun x=>okS x.1=true∧wS x.1+phi C x.2≤phi C σ) hc (fun h hc=>?_) (fun _ hc=>?_)
     · have hlt:=peek_kind (C:=C) (σ:=σ) (by rw [h.1]; decide);have p1:=phi_txt hlt;have g1:=next_at hlt;have m1:=Mo.next (Mo.refl r.next.le (C:=C));have a1:=m1.at_;have p2:=phi_mo m1;obtain ⟨o1,w1⟩:=ih .stmt _ m1.le (by simp only [needS]; omega) rfl hc;refine ⟨okS_0 ⟨by decide,by decide⟩ rfl rfl rfl (okSs1 o1),?_⟩;simp only;rw [wS_0,wSs1];simp only [wSj] at w1;simp only [wO];omega
     refine ite_sok (P:=fun x=>okS x.1=true∧wS x.1+phi C x.2≤phi C σ) hc (fun h hc=>?_) (fun _ hc=>?_)
     · have hlt:=peek_kind (C:=C) (σ:=σ) (by rw [h.1]; decide);have p1:=phi_txt hlt;have g1:=next_at hlt;have n1:=r.next.le;refine ite_sok (P:=fun x=>okS x.1=true∧wS x.1+phi C x.2≤phi C σ) hc (fun h hc=>?_) (fun _ hc=>?_)
       · -- if
         have m1:=(Mo.refl n1).asked;have m2:=mo .stmt m1.le;have a1:=m1.at_;have a2:=m2.at_;refine ite_sok (P:=fun x=>okS x.1=true∧wS x.1+phi C x.2≤phi C σ) hc (fun h hc=>?_) (fun _ hc=>?_)
         · have hlt2:=is_lt h rfl;have p3:=is_phi h rfl;have g3:=next_at hlt2;have m3:=Mo.next (Mo.refl m2.le);have m4:=mo .stmt m3.le;have c3:=m4.code hc;have c2:=m3.code c3;have c1:=m2.code c2;obtain ⟨o1,w1⟩:=asked_ok hT n1 c1;obtain ⟨o2,w2⟩:=ih .stmt _ m1.le (by simp only [needS]; omega) rfl c2;obtain ⟨o3,w3⟩:=ih .stmt _ m3.le (by simp only [needS]; omega) rfl hc;refine ⟨okS_0 ⟨by decide,by decide⟩ o1 rfl rfl (okSs2 o2 o3),?_⟩;simp only;rw [wS_0,wSs2];simp only [wSj] at *;simp only [wO,nt_size];omega
         · have c1:=m2.code hc;obtain ⟨o1,w1⟩:=asked_ok hT n1 c1;obtain ⟨o2,w2⟩:=ih .stmt _ m1.le (by simp only [needS]; omega) rfl hc;refine ⟨okS_0 ⟨by decide,by decide⟩ o1 rfl rfl (okSs1 o2),?_⟩;simp only;rw [wS_0,wSs1];simp only [wSj] at *;simp only [wO,nt_size];omega
       refine ite_sok (P:=fun x=>okS x.1=true∧wS x.1+phi C x.2≤phi C σ) hc (fun h hc=>?_) (fun _ hc=>?_)
       · have m1:=(Mo.refl n1).asked;have m2:=mo .stmt m1.le;have a1:=m1.at_;have c1:=m2.code hc;obtain ⟨o1,w1⟩:=asked_ok hT n1 c1;obtain ⟨o2,w2⟩:=ih .stmt _ m1.le (by simp only [needS]; omega) rfl hc;refine ⟨okS_0 ⟨by decide,by decide⟩ o1 rfl rfl (okSs1 o2),?_⟩;simp only;rw [wS_0,wSs1];simp only [wSj] at *;simp only [wO,nt_size];omega
       refine ite_sok (P:=fun x=>okS x.1=true∧wS x.1+phi C x.2≤phi C σ) hc (fun h hc=>?_) (fun _ hc=>?_)
       · have m1:=mo .stmt n1;have m2:=(Mo.refl m1.le).want ⟨#[119,104,105,108,101]⟩;have m3:=(Mo.refl m2.le).asked;have m4:=(Mo.refl m3.le).want ⟨#[59]⟩;have c3:=m4.code hc;have c2:=m3.code c3;have c1:=m2.code c2;obtain ⟨o2,w2⟩:=ih .stmt _ n1 (by simp only [needS]; omega) rfl c1;obtain ⟨o1,w1⟩:=asked_ok hT m2.le c3;have p2:=phi_mo m2;have p4:=phi_mo m4;refine ⟨okS_0 ⟨by decide,by decide⟩ o1 rfl rfl (okSs1 o2),?_⟩;simp only;rw [wS_0,wSs1];simp only [wSj] at *;simp only [wO,nt_size];omega
       refine ite_sok (P:=fun x=>okS x.1=true∧wS x.1+phi C x.2≤phi C σ) hc (fun h hc=>?_) (fun _ hc=>?_)
       · have m0:=(Mo.refl n1).want ⟨#[40]⟩;have m1:=(Mo.refl m0.le).part ⟨#[59]⟩;have m2:=(Mo.refl m1.le).part ⟨#[59]⟩;have m3:=(Mo.refl m2.le).part ⟨#[41]⟩;have m4:=mo .stmt m3.le;have c3:=m4.code hc;have c2:=m3.code c3;have c1:=m2.code c2;obtain ⟨o1,w1⟩:=part_ok hT _ m0.le c1;obtain ⟨o2,w2⟩:=part_ok hT _ m1.le c2;obtain ⟨o3,w3⟩:=part_ok hT _ m2.le c3;have a0:=m0.at_;have a1:=m1.at_;have a2:=m2.at_;have a3:=m3.at_;have p0:=phi_mo m0;obtain ⟨o4,w4⟩:=ih .stmt _ m3.le (by simp only [needS]; omega) rfl hc;refine ⟨okS_0 ⟨by decide,by decide⟩ o1 o2 o3 (okSs1 o4),?_⟩;simp only;rw [wS_0,wSs1];simp only [wSj] at *;simp only [nt_size] at *;omega
       refine ite_sok (P:=fun x=>okS x.1=true∧wS x.1+phi C x.2≤phi C σ) hc (fun h hc=>?_) (fun _ hc=>?_)
       · have m1:=(Mo.refl n1).asked;have m2:=(Mo.refl m1.le).want ⟨#[123]⟩;have m3:=mo (.choiceL (some (askedM C (nextM C σ)).1) []) m2.le;have c2:=m3.code hc;have c1:=m2.code c2;have a1:=m1.at_;have a2:=m2.at_;have p2:=phi_mo m2;obtain ⟨o1,w1⟩:=asked_ok hT n1 c1;obtain ⟨o2,w2⟩:=ih (.choiceL (some (askedM C (nextM C σ)).1) []) _ m2.le (by simp only [needS]; omega) (by simp only [okSj,okO,okSs,o1]; rfl) hc;refine ⟨o2,?_⟩;simp only [wSj,wSs,wO] at w2;omega
       refine ite_sok (P:=fun x=>okS x.1=true∧wS x.1+phi C x.2≤phi C σ) hc (fun h hc=>?_) (fun _ hc=>?_)
       · have p2:=phi_mo ((Mo.refl n1).want ⟨#[59]⟩);exact ⟨okS_0 ⟨by decide,by decide⟩ rfl rfl rfl rfl,by rw [wS_0]; simp only [wSs,wO,nt_size]; omega⟩
       refine ite_sok (P:=fun x=>okS x.1=true∧wS x.1+phi C x.2≤phi C σ) hc (fun h hc=>?_) (fun _ hc=>?_)
       · have p2:=phi_mo ((Mo.refl n1).want ⟨#[59]⟩);exact ⟨okS_0 ⟨by decide,by decide⟩ rfl rfl rfl rfl,by rw [wS_0]; simp only [wSs,wO,nt_size]; omega⟩
       refine ite_sok (P:=fun x=>okS x.1=true∧wS x.1+phi C x.2≤phi C σ) hc (fun h hc=>?_) (fun _ hc=>?_)
       · obtain ⟨o1,w1⟩:=part_ok hT _ n1 hc;refine ⟨okS_0 ⟨by decide,by decide⟩ o1 rfl rfl rfl,?_⟩;simp only;rw [wS_0,nt_size];have e1:wSs []=0:=by simp only [wSs]
         have e0:wO none=0:=rfl;omega
       refine ite_sok (P:=fun x=>okS x.1=true∧wS x.1+phi C x.2≤phi C σ) hc (fun h hc=>?_) (fun _ hc=>absurd hc lost_code)
       · have m1:=(Mo.refl n1).name;have m2:=(Mo.refl m1.le).want ⟨#[59]⟩;have c1:=m2.code hc;have p2:=name_phi c1;have p3:=phi_mo m2;refine ⟨okS_0 ⟨by decide,by decide⟩ rfl rfl rfl rfl,?_⟩;simp only;rw [wS_0];simp only [wSs,wO];omega
     · have m1:=exprM_mo r;have m2:=(Mo.refl m1.le).want ⟨#[59]⟩;have c1:=m2.code hc;obtain ⟨o1,w1⟩:=exprM_ok hT hs c1;have p2:=want_phi hc rfl;refine ⟨okS_0 ⟨by decide,by decide⟩ o1 rfl rfl rfl,?_⟩;simp only;rw [wS_0];simp only [wSs,wO,nt_size] at *;omega
theorem blockM_ok (hT:Tks C) {σ:St} (hs:σ.at_≤C.T.length) (hc:(blockM C σ).2.code=0):okS (blockM C σ).1=true∧wS (blockM C σ).1+phi C (blockM C σ).2≤phi C σ:=by
 have h:=S_ok hT (10 * (C.T.length - σ.at_)+8) .block σ hs (by simp only [needS]; omega) rfl hc;exact ⟨h.1,by have:=h.2; simp only [wSj,Nat.add_zero] at this; exact this⟩
end Go.Proofs.YtflbkdfbjofllaaGreatDoor.Sy
namespace Go.Proofs.YtflbkdfbjofllaaGreatDoor.Sy
open Go.RowKit Lx
variable {C:Cx}
def okT (t:Ty):Prop:=0≤t.stars∧t.stars≤1000000
def okV (v:Vr):Prop:=okT v.ty∧0≤v.num∧v.num≤18446744073709551615
def wVs:List Vr→Nat
 | []=>0
 | v::l=>60+wV v+wVs l
def wTs:List Ty→Nat
 | []=>0
 | v::l=>10+tyW v+wTs l
theorem wVs_app (a b:List Vr):wVs (a++b)=wVs a+wVs b:=by
 induction a with
 | nil=>show wVs b=0+_; omega
 | cons e t ih=>show 60+wV e+wVs (t++b)=60+wV e+wVs t+_; rw [ih]; omega
theorem wTs_app (a b:List Ty):wTs (a++b)=wTs a+wTs b:=by
 induction a with
 | nil=>show wTs b=0+_; omega
 | cons e t ih=>show 10+tyW e+wTs (t++b)=10+tyW e+wTs t+_; rw [ih]; omega
def wB:Option Sm→Nat
 | none=>0
 | some b=>wS b
def wI (i:It):Nat:=200+wV i.v+wVs i.vars+wTs i.types+wB i.body+wO i.init+wEs i.list
theorem okI_mk {i:It} (k:Int) (hke:i.kind=k) (hk:1≤k∧k≤5) (hb:i.v.ty.base.size≤1000000) (hv:okV i.v) (hvs:∀ v∈i.vars,okV v) (hts:∀ t∈i.types,okT t) (h0:okO i.init=true) (hl:okEs i.list=true) (hbo:∀ b,i.body=some b→okS b=true) (hb4:i.body=none→k≠4):okI i=true:=by
 subst hke;unfold okI okN;rw [decide_eq_true hk,decide_eq_true hb,h0,hl,decide_eq_true ⟨hv.1.1,hv.1.2,hv.2.1,hv.2.2⟩];have e1:i.vars.all (fun v=>decide (0≤v.ty.stars∧v.ty.stars≤1000000∧0≤v.num∧v.num≤18446744073709551615))=true:=by
  rw [List.all_eq_true];intro v h;have:=hvs v h;exact decide_eq_true ⟨this.1.1,this.1.2,this.2.1,this.2.2⟩
 have e2:i.types.all (fun t=>decide (0≤t.stars∧t.stars≤1000000∧(0:Int)≤0∧(0:Int)≤18446744073709551615))=true:=by
  rw [List.all_eq_true];intro t h;have:=hts t h;exact decide_eq_true ⟨this.1,this.2,Int.le_refl _,by decide⟩
 rw [e1,e2];cases hi:i.body with
 | some b=>simp only [Bool.true_and]; exact hbo b hi
 | none=>simp only [Bool.true_and]; exact decide_eq_true (hb4 hi)
theorem param_ok (hT:Tks C) {σ:St} (hs:σ.at_≤C.T.length) (hc:(paramM C σ).2.code=0):okV (paramM C σ).1∧60+wV (paramM C σ).1+phi C (paramM C σ).2≤phi C σ:=by
 unfold paramM at hc ⊢;simp only at hc ⊢;have m1:=(Mo.refl hs (C:=C)).typ;have m2:=(Mo.refl m1.le).name;have c1:=m2.code hc;have t1:=typ_phi hT c1;have t2:=name_phi hc;refine ⟨⟨t1.1,Int.le_refl _,by show (0:Int)≤_; decide⟩,?_⟩;unfold wV;simp only;omega
theorem params_mo:∀ (f:Nat) (σ:St) (acc:List Vr),σ.at_≤C.T.length→Mo C σ (paramsM C f σ acc).2
 | 0,σ,acc,hs=>by unfold paramsM; exact Mo.refl hs
 | f+1,σ,acc,hs=>by
   unfold paramsM;split
   · have m:=(Mo.refl hs (C:=C)).next.param;exact m.trans (params_mo f _ _ m.le)
   · exact Mo.refl hs
theorem params_ok (hT:Tks C):∀ (f:Nat) (σ:St) (acc:List Vr),σ.at_≤C.T.length→(∀ v∈acc,okV v)→(paramsM C f σ acc).2.code=0→(∀ v∈(paramsM C f σ acc).1,okV v)∧wVs (paramsM C f σ acc).1+phi C (paramsM C f σ acc).2≤phi C σ+wVs acc
 | 0,σ,acc,hs,ha,hc=>by unfold paramsM; exact ⟨ha,by simp only; omega⟩
 | f+1,σ,acc,hs,ha,hc=>by
   unfold paramsM at hc ⊢;by_cases h:isM C σ ⟨#[44]⟩=true
   · rw [if_pos h] at hc ⊢;simp only at hc ⊢;have m0:=(Mo.refl hs (C:=C)).next;have m1:=(Mo.refl m0.le).param;have c1:=(params_mo f _ _ m1.le).code hc;obtain ⟨o1,w1⟩:=param_ok hT m0.le c1;have p0:=phi_mo m0;obtain ⟨o2,w2⟩:=params_ok hT f _ (acc++[(paramM C (nextM C σ)).1]) m1.le (fun v hv=>by
      rcases List.mem_append.1 hv with hv | hv
      · exact ha v hv
      · rw [List.mem_singleton] at hv; rw [hv]; exact o1) hc
     refine ⟨o2,?_⟩;rw [wVs_app] at w2;have e:wVs [(paramM C (nextM C σ)).1]=60+wV (paramM C (nextM C σ)).1:=rfl;omega
   · rw [if_neg h] at hc ⊢; exact ⟨ha,by simp only; omega⟩
theorem types_mo:∀ (f:Nat) (σ:St) (acc:List Ty),σ.at_≤C.T.length→Mo C σ (typesM C f σ acc).2
 | 0,σ,acc,hs=>by unfold typesM; exact Mo.refl hs
 | f+1,σ,acc,hs=>by
   unfold typesM;split
   · have m:=(Mo.refl hs (C:=C)).next.typ;exact m.trans (types_mo f _ _ m.le)
   · exact Mo.refl hs
theorem types_ok (hT:Tks C):∀ (f:Nat) (σ:St) (acc:List Ty),σ.at_≤C.T.length→(∀ v∈acc,okT v)→(typesM C f σ acc).2.code=0→(∀ v∈(typesM C f σ acc).1,okT v)∧wTs (typesM C f σ acc).1+phi C (typesM C f σ acc).2≤phi C σ+wTs acc
 | 0,σ,acc,hs,ha,hc=>by unfold typesM; exact ⟨ha,by simp only; omega⟩
 | f+1,σ,acc,hs,ha,hc=>by
   unfold typesM at hc ⊢;by_cases h:isM C σ ⟨#[44]⟩=true
   · rw [if_pos h] at hc ⊢;simp only at hc ⊢;have m0:=(Mo.refl hs (C:=C)).next;have m1:=(Mo.refl m0.le).typ;have c1:=(types_mo f _ _ m1.le).code hc;have t1:=typ_phi hT c1;have p0:=phi_mo m0;obtain ⟨o2,w2⟩:=types_ok hT f _ (acc++[(typM C (nextM C σ)).1]) m1.le (fun v hv=>by
      rcases List.mem_append.1 hv with hv | hv
      · exact ha v hv
      · rw [List.mem_singleton] at hv; rw [hv]; exact t1.1) hc
     refine ⟨o2,?_⟩;rw [wTs_app] at w2;have e:wTs [(typM C (nextM C σ)).1]=10+tyW (typM C (nextM C σ)).1:=rfl;omega
   · rw [if_neg h] at hc ⊢; exact ⟨ha,by simp only; omega⟩
theorem conds_mo:∀ (f:Nat) (σ:St) (acc:List Ex),σ.at_≤C.T.length→Mo C σ (condsM C f σ acc).2
 | 0,σ,acc,hs=>by unfold condsM; exact Mo.refl hs
 | f+1,σ,acc,hs=>by
   unfold condsM;split
   · have m:=condM_mo (Mo.refl hs (C:=C)).next;exact m.trans (conds_mo f _ _ m.le)
   · exact Mo.refl hs
theorem conds_ok (hT:Tks C):∀ (f:Nat) (σ:St) (acc:List Ex),σ.at_≤C.T.length→okEs acc=true→(condsM C f σ acc).2.code=0→okEs (condsM C f σ acc).1=true∧wEs (condsM C f σ acc).1+phi C (condsM C f σ acc).2≤phi C σ+wEs acc
 | 0,σ,acc,hs,ha,hc=>by unfold condsM; exact ⟨ha,by simp only; omega⟩
 | f+1,σ,acc,hs,ha,hc=>by
   unfold condsM at hc ⊢;by_cases h:isM C σ ⟨#[44]⟩=true
   · rw [if_pos h] at hc ⊢;simp only at hc ⊢;have m0:=(Mo.refl hs (C:=C)).next;have m1:=condM_mo (Mo.refl m0.le);have c1:=(conds_mo f _ _ m1.le).code hc;obtain ⟨o1,w1⟩:=condM_ok hT m0.le c1;have p0:=phi_mo m0;obtain ⟨o2,w2⟩:=conds_ok hT f _ (acc++[(condM C (nextM C σ)).1]) m1.le (by rw [okEs_app,ha,okEs1 o1]; rfl) hc;refine ⟨o2,?_⟩;rw [wEs_app,wEs1] at w2;omega
   · rw [if_neg h] at hc ⊢; exact ⟨ha,by simp only; omega⟩
theorem field_ok (hT:Tks C) {σ:St} (hs:σ.at_≤C.T.length) (hc:(fieldM C σ).2.code=0):okV (fieldM C σ).1∧60+wV (fieldM C σ).1+phi C (fieldM C σ).2≤phi C σ:=by
 unfold fieldM at hc ⊢;simp only at hc ⊢;have m1:=(Mo.refl hs (C:=C)).typ;have m2:=(Mo.refl m1.le).name;have m3:=(Mo.refl m2.le).number;have m4:=(Mo.refl m3.le).want ⟨#[59]⟩;have c3:=m4.code hc;have c2:=m3.code c3;have c1:=m2.code c2;have t1:=typ_phi hT c1;have t2:=name_phi c2;have n3:=number_phi hT m2.le;have p4:=phi_mo m4;refine ⟨⟨t1.1,n3.1⟩,?_⟩;unfold wV;simp only;omega
theorem fields_mo:∀ (f:Nat) (σ:St) (acc:List Vr),σ.at_≤C.T.length→Mo C σ (fieldsM C f σ acc).2
 | 0,σ,acc,hs=>by unfold fieldsM; exact Mo.refl hs
 | f+1,σ,acc,hs=>by
   have m:=(Mo.refl hs (C:=C)).field;unfold fieldsM;simp only;split
   · exact m.next.want _
   split
   · exact m.trans (fields_mo f _ _ m.le)
   · exact m.lost
theorem fields_ok (hT:Tks C):∀ (f:Nat) (σ:St) (acc:List Vr),σ.at_≤C.T.length→(∀ v∈acc,okV v)→(fieldsM C f σ acc).2.code=0→(∀ v∈(fieldsM C f σ acc).1,okV v)∧wVs (fieldsM C f σ acc).1+phi C (fieldsM C f σ acc).2≤phi C σ+wVs acc
 | 0,σ,acc,hs,ha,hc=>by unfold fieldsM; exact ⟨ha,by simp only; omega⟩
 | f+1,σ,acc,hs,ha,hc=>by
   have m:=(Mo.refl hs (C:=C)).field;have c1:(fieldM C σ).2.code=0:=by
    have h:=hc;unfold fieldsM at h;simp only at h;split at h
    · exact ((Mo.refl m.le).next.want _).code h
    split at h
    · exact (fields_mo f _ _ m.le).code h
    · exact absurd h lost_code
   obtain ⟨o1,w1⟩:=field_ok hT hs c1;have ha':∀ v∈acc++[(fieldM C σ).1],okV v:=fun v hv=>by
    rcases List.mem_append.1 hv with hv | hv
    · exact ha v hv
    · rw [List.mem_singleton] at hv; rw [hv]; exact o1
   have e:wVs (acc++[(fieldM C σ).1])=wVs acc+(60+wV (fieldM C σ).1):=by rw [wVs_app]; rfl
   unfold fieldsM at hc ⊢;simp only at hc ⊢;by_cases h1:isM C (fieldM C σ).2 ⟨#[125]⟩=true
   · rw [if_pos h1] at hc ⊢;have p:=phi_mo ((Mo.refl m.le).next.want ⟨#[59]⟩);exact ⟨ha',by simp only; omega⟩
   rw [if_neg h1] at hc ⊢;by_cases h2:typedM C (fieldM C σ).2=true
   · rw [if_pos h2] at hc ⊢;obtain ⟨o2,w2⟩:=fields_ok hT f _ _ m.le ha' hc;exact ⟨o2,by omega⟩
   · rw [if_neg h2] at hc; exact absurd hc lost_code
structure Bare (i:It):Prop where
 vars:i.vars=[]
 types:i.types=[]
 body:i.body=none
 init:i.init=none
 list:i.list=[]
 v:okV i.v
 b:i.v.ty.base.size≤1000000
theorem Bare.w {i:It} (h:Bare i):wI i=200+wV i.v:=by
 unfold wI;rw [h.vars,h.types,h.body,h.init,h.list];rfl
theorem typ_le (hT:Tks C) (σ:St):(typM C σ).1.base.size≤1000000:=by
 unfold typM;split
 · exact Nat.le_trans (base_le hT σ) (by decide)
 · exact Nat.zero_le _
theorem struct_ok (hT:Tks C) {i:It} {σ:St} (hi:Bare i) (hs:σ.at_≤C.T.length) (hc:(structM C i σ).2.code=0):okI (structM C i σ).1=true∧wI (structM C i σ).1+phi C (structM C i σ).2≤phi C σ+wI i:=by
 unfold structM at hc ⊢;simp only at hc ⊢;have m0:=(Mo.refl hs (C:=C)).next;have m1:=(Mo.refl m0.le).name;have m2:=(Mo.refl m1.le).want ⟨#[123]⟩;have m3:=fields_mo (C.T.length+1) _ [] m2.le;have c2:=m3.code hc;have c1:=m2.code c2;have t1:=name_phi c1;obtain ⟨o1,w1⟩:=fields_ok hT (C.T.length+1) _ [] m2.le (fun v hv=>by cases hv) hc;have p0:=phi_mo m0;have p2:=phi_mo m2;refine ⟨okI_mk 1 rfl ⟨by decide,by decide⟩ hi.b hi.v o1 (fun t ht=>by simp only [hi.types] at ht; cases ht) (by simp only [hi.init]; rfl) (by simp only [hi.list]; rfl) (fun b hb=>by simp only [hi.body] at hb; cases hb) (fun _=>by decide),?_⟩;rw [hi.w];unfold wI wV;simp only [hi.types,hi.body,hi.init,hi.list];have e1:wTs []=0:=rfl;have e2:wB none=0:=rfl;have e3:wO none=0:=rfl;have e4:wEs []=0:=by unfold wEs; rfl
 have e5:wVs []=0:=rfl;rw [e1,e2,e3,e4];rw [e5] at w1;omega
theorem typedef_ok (hT:Tks C) {i:It} {σ:St} (hi:Bare i) (hs:σ.at_≤C.T.length) (hc:(typedefM C i σ).2.code=0):okI (typedefM C i σ).1=true∧wI (typedefM C i σ).1+phi C (typedefM C i σ).2≤phi C σ+200:=by
 unfold typedefM at hc ⊢;simp only at hc ⊢;have m0:=(Mo.refl hs (C:=C)).next;have m1:=(Mo.refl m0.le).typ;have m2:=(Mo.refl m1.le).name;have m3:=(Mo.refl m2.le).want ⟨#[40]⟩;have p0:=phi_mo m0;have p3:=phi_mo m3;have hle:=typ_le hT (nextM C σ);have e2:wB none=0:=rfl;have e3:wO none=0:=rfl;have e4:wEs []=0:=by unfold wEs; rfl
 have e5:wVs []=0:=rfl;have e6:wTs []=0:=rfl;by_cases h:isM C (wantM C (nameM C (typM C (nextM C σ)).2).2 ⟨#[40]⟩) ⟨#[41]⟩=true
 · rw [if_pos h] at hc ⊢;simp only at hc ⊢;have m4:=(Mo.refl m3.le).next;have m5:=(Mo.refl m4.le).want ⟨#[59]⟩;have c4:(wantM C (nextM C (wantM C (nameM C (typM C (nextM C σ)).2).2 ⟨#[40]⟩)) ⟨#[59]⟩).code=0:=hc;have c2:=m3.code (m4.code (m5.code c4));have c1:=m2.code c2;have t1:=typ_phi hT c1;have t2:=name_phi c2;have p4:=phi_mo m4;have p5:=phi_mo m5;refine ⟨okI_mk 2 rfl ⟨by decide,by decide⟩ hle ⟨t1.1,hi.v.2⟩ (fun t ht=>by simp only [hi.vars] at ht; cases ht) (fun t ht=>by cases ht) (by simp only [hi.init]; rfl) (by simp only [hi.list]; rfl) (fun b hb=>by simp only [hi.body] at hb; cases hb) (fun _=>by decide),?_⟩;unfold wI wV;simp only [hi.vars,hi.body,hi.init,hi.list];show 200+_+wVs []+wTs []+wB none+wO none+wEs []+phi C (wantM C (nextM C (wantM C (nameM C (typM C (nextM C σ)).2).2 ⟨#[40]⟩)) ⟨#[59]⟩)≤_;rw [e2,e3,e4,e5,e6];omega
 · rw [if_neg h] at hc ⊢;simp only at hc ⊢;have m4:=(Mo.refl m3.le).typ;have m5:=types_mo C.T.length _ [(typM C (wantM C (nameM C (typM C (nextM C σ)).2).2 ⟨#[40]⟩)).1] m4.le;have m6:=(Mo.refl m5.le).want ⟨#[41]⟩;have m7:=(Mo.refl m6.le).want ⟨#[59]⟩;have c6:=m7.code hc;have c5:=m6.code c6;have c4:=m5.code c5;have c2:=m3.code (m4.code c4);have c1:=m2.code c2;have t1:=typ_phi hT c1;have t2:=name_phi c2;have t4:=typ_phi hT c4;obtain ⟨o1,w1⟩:=types_ok hT C.T.length _ [(typM C (wantM C (nameM C (typM C (nextM C σ)).2).2 ⟨#[40]⟩)).1] m4.le (fun v hv=>by rw [List.mem_singleton] at hv; rw [hv]; exact t4.1) c5;have p6:=phi_mo m6;have p7:=phi_mo m7;refine ⟨okI_mk 2 rfl ⟨by decide,by decide⟩ hle ⟨t1.1,hi.v.2⟩ (fun t ht=>by simp only [hi.vars] at ht; cases ht) o1 (by simp only [hi.init]; rfl) (by simp only [hi.list]; rfl) (fun b hb=>by simp only [hi.body] at hb; cases hb) (fun _=>by decide),?_⟩;unfold wI wV;simp only [hi.vars,hi.body,hi.init,hi.list];have e7:wTs [(typM C (wantM C (nameM C (typM C (nextM C σ)).2).2 ⟨#[40]⟩)).1]=10+tyW (typM C (wantM C (nameM C (typM C (nextM C σ)).2).2 ⟨#[40]⟩)).1:=rfl;rw [e7] at w1;show 200+_+wVs []+_+wB none+wO none+wEs []+phi C (wantM C (wantM C (typesM C C.T.length (typM C (wantM C (nameM C (typM C (nextM C σ)).2).2 ⟨#[40]⟩)).2 [(typM C (wantM C (nameM C (typM C (nextM C σ)).2).2 ⟨#[40]⟩)).1]).2 ⟨#[41]⟩) ⟨#[59]⟩)≤_;rw [e2,e3,e4,e5];omega
theorem nil_w:wTs []=0∧wB none=0∧wO none=0∧wEs []=0∧wVs []=0:=⟨rfl,rfl,rfl,by unfold wEs; rfl,rfl⟩
theorem function_ok (hT:Tks C) {i:It} {σ:St} (hi:Bare i) (hs:σ.at_≤C.T.length) (hc:(functionM C i σ).2.code=0):okI (functionM C i σ).1=true∧wI (functionM C i σ).1+phi C (functionM C i σ).2≤phi C σ+wI i:=by
 obtain ⟨e1,e2,e3,e4,e5⟩:=nil_w;rw [hi.w];have m0:=(Mo.refl hs (C:=C)).next;have p0:=phi_mo m0;obtain ⟨k,hk⟩:∃ k,(if isM C (nextM C σ) ⟨#[41]⟩ then (([]:List Vr),nextM C (nextM C σ)) else ((paramsM C C.T.length (paramM C (nextM C σ)).2 [(paramM C (nextM C σ)).1]).1,wantM C (paramsM C C.T.length (paramM C (nextM C σ)).2 [(paramM C (nextM C σ)).1]).2 ⟨#[41]⟩))=k:=⟨_,rfl⟩;have hm:Mo C (nextM C σ) k.2:=by
  rw [← hk];split
  · exact (Mo.refl m0.le).next
  · have m1:=(Mo.refl m0.le).param;exact (m1.trans (params_mo _ _ _ m1.le)).want _
 have hko:k.2.code=0→(∀ v∈k.1,okV v)∧wVs k.1+phi C k.2≤phi C (nextM C σ):=by
  rw [← hk];split
  · intro _;exact ⟨(fun v hv=>by cases hv),by have:=phi_mo (Mo.refl m0.le (C:=C)).next; rw [e5]; show 0+phi C (nextM C (nextM C σ))≤_; omega⟩
  · intro hcc;have m1:=(Mo.refl m0.le).param;have m2:=params_mo C.T.length (paramM C (nextM C σ)).2 [(paramM C (nextM C σ)).1] m1.le;have m3:=(Mo.refl m2.le).want ⟨#[41]⟩;have c2:=m3.code hcc;have c1:=m2.code c2;obtain ⟨o1,w1⟩:=param_ok hT m0.le c1;obtain ⟨o2,w2⟩:=params_ok hT C.T.length (paramM C (nextM C σ)).2 [(paramM C (nextM C σ)).1] m1.le (fun v hv=>by rw [List.mem_singleton] at hv; rw [hv]; exact o1) c2;have p3:=phi_mo m3;have e6:wVs [(paramM C (nextM C σ)).1]=60+wV (paramM C (nextM C σ)).1:=rfl;exact ⟨o2,by simp only; omega⟩
 have ef:functionM C i σ=(if isM C k.2 ⟨#[59]⟩ then ({ i with kind:=3,vars:=k.1 },nextM C k.2) else if isM C k.2 ⟨#[123]⟩ then ({ i with kind:=4,vars:=k.1,body:=some (blockM C k.2).1 },(blockM C k.2).2) else ({ i with kind:=4,vars:=k.1 },lostM C k.2)):=by
  unfold functionM;simp only;rw [hk]
 rw [ef] at hc ⊢;clear ef hk;by_cases h1:isM C k.2 ⟨#[59]⟩=true
 · rw [if_pos h1] at hc ⊢;obtain ⟨o,w⟩:=hko ((Mo.refl hm.le).next.code hc);have p:=phi_mo (Mo.refl hm.le).next;refine ⟨okI_mk 3 rfl ⟨by decide,by decide⟩ hi.b hi.v o (fun t ht=>by simp only [hi.types] at ht; cases ht) (by simp only [hi.init]; rfl) (by simp only [hi.list]; rfl) (fun b hb=>by simp only [hi.body] at hb; cases hb) (fun _=>by decide),?_⟩;unfold wI;simp only [hi.types,hi.body,hi.init,hi.list];omega
 rw [if_neg h1] at hc ⊢;by_cases h2:isM C k.2 ⟨#[123]⟩=true
 · rw [if_pos h2] at hc ⊢;have m4:=Mo.block (Mo.refl hm.le);obtain ⟨o,w⟩:=hko (m4.code hc);obtain ⟨o2,w2⟩:=blockM_ok hT hm.le hc;refine ⟨okI_mk 4 rfl ⟨by decide,by decide⟩ hi.b hi.v o (fun t ht=>by simp only [hi.types] at ht; cases ht) (by simp only [hi.init]; rfl) (by simp only [hi.list]; rfl) (fun b hb=>by injection hb with hb; rw [← hb]; exact o2) (fun hb=>by cases hb),?_⟩;unfold wI;simp only [hi.types,hi.init,hi.list];have e8:wB (some (blockM C k.2).1)=wS (blockM C k.2).1:=rfl;omega
 · rw [if_neg h2] at hc; exact absurd hc lost_code
theorem declaration_ok (hT:Tks C) {i:It} {σ:St} (hi:Bare i) (hs:σ.at_≤C.T.length) (hc:(declarationM C i σ).2.code=0):okI (declarationM C i σ).1=true∧wI (declarationM C i σ).1+phi C (declarationM C i σ).2≤phi C σ+200:=by
 obtain ⟨e1,e2,e3,e4,e5⟩:=nil_w;have m1:=(Mo.refl hs (C:=C)).typ;have m2:=(Mo.refl m1.le).name;have hle:=typ_le hT σ;unfold declarationM at hc ⊢;simp only at hc ⊢;by_cases h:isM C (nameM C (typM C σ).2).2 ⟨#[40]⟩=true
 · rw [if_pos h] at hc ⊢;have hmf:Mo C (nameM C (typM C σ).2).2 (functionM C { i with v:={ i.v with ty:=(typM C σ).1,name:=(nameM C (typM C σ).2).1 } } (nameM C (typM C σ).2).2).2:=by
    have m0:=(Mo.refl m2.le (C:=C)).next;have mp:∀ k:List Vr × St,Mo C (nameM C (typM C σ).2).2 k.2→Mo C (nameM C (typM C σ).2).2 (if isM C k.2 ⟨#[59]⟩ then (({ i with kind:=3,vars:=k.1 }:It),nextM C k.2) else if isM C k.2 ⟨#[123]⟩ then ({ i with kind:=4,vars:=k.1,body:=some (blockM C k.2).1 },(blockM C k.2).2) else ({ i with kind:=4,vars:=k.1 },lostM C k.2)).2:=fun k hm=>by
     split
     · exact hm.next
     split
     · exact hm.block
     · exact hm.lost
    have m3:Mo C (nameM C (typM C σ).2).2 (if isM C (nextM C (nameM C (typM C σ).2).2) ⟨#[41]⟩ then (([]:List Vr),nextM C (nextM C (nameM C (typM C σ).2).2)) else ((paramsM C C.T.length (paramM C (nextM C (nameM C (typM C σ).2).2)).2 [(paramM C (nextM C (nameM C (typM C σ).2).2)).1]).1,wantM C (paramsM C C.T.length (paramM C (nextM C (nameM C (typM C σ).2).2)).2 [(paramM C (nextM C (nameM C (typM C σ).2).2)).1]).2 ⟨#[41]⟩)).2:=by
     split
     · exact m0.next
     · exact (m0.param.trans (params_mo _ _ _ m0.param.le)).want _
    unfold functionM;simp only;revert m3;generalize (if isM C (nextM C (nameM C (typM C σ).2).2) ⟨#[41]⟩ then (([]:List Vr),nextM C (nextM C (nameM C (typM C σ).2).2)) else ((paramsM C C.T.length (paramM C (nextM C (nameM C (typM C σ).2).2)).2 [(paramM C (nextM C (nameM C (typM C σ).2).2)).1]).1,wantM C (paramsM C C.T.length (paramM C (nextM C (nameM C (typM C σ).2).2)).2 [(paramM C (nextM C (nameM C (typM C σ).2).2)).1]).2 ⟨#[41]⟩))=k;intro m3;split
    · exact m3.next
    split
    · exact m3.block
    · exact m3.lost
   have c2:=hmf.code hc;have c1:=m2.code c2;have t1:=typ_phi hT c1;have t2:=name_phi c2;have hb:Bare { i with v:={ i.v with ty:=(typM C σ).1,name:=(nameM C (typM C σ).2).1 } }:=⟨hi.vars,hi.types,hi.body,hi.init,hi.list,⟨t1.1,hi.v.2⟩,hle⟩;obtain ⟨o,w⟩:=function_ok hT hb m2.le hc;refine ⟨o,?_⟩;rw [hb.w] at w;unfold wV at w;simp only at w;omega
 · rw [if_neg h] at hc ⊢;have m3:=(Mo.refl m2.le).number;have n3:=number_phi hT m2.le;simp only at hc ⊢;by_cases h2:isM C (numberM C (nameM C (typM C σ).2).2).2.2 ⟨#[61]⟩=true
   · rw [if_pos h2] at hc ⊢;have m4:=(Mo.refl m3.le).next;have p4:=phi_mo m4;unfold initialM at hc ⊢;by_cases h3:isM C (nextM C (numberM C (nameM C (typM C σ).2).2).2.2) ⟨#[123]⟩=true
     · rw [if_pos h3] at hc ⊢;simp only at hc ⊢;have m5:=(Mo.refl m4.le).next;have m6:=condM_mo (Mo.refl m5.le);have m7:=conds_mo C.T.length _ [(condM C (nextM C (nextM C (numberM C (nameM C (typM C σ).2).2).2.2))).1] m6.le;have m8:=(Mo.refl m7.le).want ⟨#[125]⟩;have m9:=(Mo.refl m8.le).want ⟨#[59]⟩;have c7:=m8.code (m9.code hc);have c6:=m7.code c7;have c3:=m4.code (m5.code (m6.code c6));have c2:=m3.code c3;have c1:=m2.code c2;have t1:=typ_phi hT c1;have t2:=name_phi c2;obtain ⟨o6,w6⟩:=condM_ok hT m5.le c6;obtain ⟨o7,w7⟩:=conds_ok hT C.T.length _ [(condM C (nextM C (nextM C (numberM C (nameM C (typM C σ).2).2).2.2))).1] m6.le (okEs1 o6) c7;have p5:=phi_mo m5;have p8:=phi_mo m8;have p9:=phi_mo m9;rw [wEs1] at w7;refine ⟨okI_mk 5 rfl ⟨by decide,by decide⟩ hle ⟨t1.1,n3.1⟩ (fun t ht=>by simp only [hi.vars] at ht; cases ht) (fun t ht=>by simp only [hi.types] at ht; cases ht) (by simp only [hi.init]; rfl) o7 (fun b hb=>by simp only [hi.body] at hb; cases hb) (fun _=>by decide),?_⟩;unfold wI wV;simp only [hi.vars,hi.types,hi.body,hi.init];omega
     · rw [if_neg h3] at hc ⊢;simp only at hc ⊢;have m6:=condM_mo (Mo.refl m4.le);have m9:=(Mo.refl m6.le).want ⟨#[59]⟩;have c6:=m9.code hc;have c3:=m4.code (m6.code c6);have c2:=m3.code c3;have c1:=m2.code c2;have t1:=typ_phi hT c1;have t2:=name_phi c2;obtain ⟨o6,w6⟩:=condM_ok hT m4.le c6;have p9:=phi_mo m9;refine ⟨okI_mk 5 rfl ⟨by decide,by decide⟩ hle ⟨t1.1,n3.1⟩ (fun t ht=>by simp only [hi.vars] at ht; cases ht) (fun t ht=>by simp only [hi.types] at ht; cases ht) o6 (by simp only [hi.list]; rfl) (fun b hb=>by simp only [hi.body] at hb; cases hb) (fun _=>by decide),?_⟩;unfold wI wV;simp only [hi.vars,hi.types,hi.body,hi.list];have e9:wO (some (condM C (nextM C (numberM C (nameM C (typM C σ).2).2).2.2)).1)=wE (condM C (nextM C (numberM C (nameM C (typM C σ).2).2).2.2)).1:=rfl;omega
   · rw [if_neg h2] at hc ⊢;simp only at hc ⊢;have m9:=(Mo.refl m3.le).want ⟨#[59]⟩;have c3:=m9.code hc;have c2:=m3.code c3;have c1:=m2.code c2;have t1:=typ_phi hT c1;have t2:=name_phi c2;have p9:=phi_mo m9;refine ⟨okI_mk 5 rfl ⟨by decide,by decide⟩ hle ⟨t1.1,n3.1⟩ (fun t ht=>by simp only [hi.vars] at ht; cases ht) (fun t ht=>by simp only [hi.types] at ht; cases ht) (by simp only [hi.init]; rfl) (by simp only [hi.list]; rfl) (fun b hb=>by simp only [hi.body] at hb; cases hb) (fun _=>by decide),?_⟩;unfold wI wV;simp only [hi.vars,hi.types,hi.body,hi.list,hi.init];omega
theorem it0_is (a:Int):Bare (it0 a):=⟨rfl,rfl,rfl,rfl,rfl,⟨⟨Int.le_refl _,by show (0:Int)≤_; decide⟩,Int.le_refl _,by show (0:Int)≤_; decide⟩,Nat.zero_le _⟩
theorem it0_w (a:Int):wI (it0 a)=200:=by rw [(it0_is a).w]; rfl
theorem item_ok (hT:Tks C) {σ:St} (hs:σ.at_≤C.T.length) (hc:(itemM C σ).2.code=0):okI (itemM C σ).1=true∧wI (itemM C σ).1+phi C (itemM C σ).2≤phi C σ+200:=by
 unfold itemM at hc ⊢;simp only at hc ⊢;split
 · next h =>
   rw [if_pos h] at hc;have:=struct_ok hT (it0_is _) hs hc;rw [it0_w] at this;exact this
 · next h =>
   rw [if_neg h] at hc;split
   · next h2=>rw [if_pos h2] at hc; exact typedef_ok hT (it0_is _) hs hc
   · next h2=>rw [if_neg h2] at hc; exact declaration_ok hT (it0_is _) hs hc
def wIs:List It→Nat
 | []=>0
 | i::l=>wI i+wIs l
theorem wIs_app (a b:List It):wIs (a++b)=wIs a+wIs b:=by
 induction a with
 | nil=>show wIs b=0+_; omega
 | cons e t ih=>show wI e+wIs (t++b)=wI e+wIs t+_; rw [ih]; omega
end Go.Proofs.YtflbkdfbjofllaaGreatDoor.Sy
namespace Go.Proofs.YtflbkdfbjofllaaGreatDoor.Sy
open Go.RowKit Lx
variable {C:Cx}
theorem items_ok (hT:Tks C):∀ (f:Nat) (σ:St) (acc:List It),σ.at_≤C.T.length→(∀ i∈acc,okI i=true)→(itemsM C f σ acc).2.code=0→(∀ i∈(itemsM C f σ acc).1,okI i=true)∧wIs (itemsM C f σ acc).1+phi C (itemsM C f σ acc).2≤phi C σ+wIs acc+200 * f
 | 0,σ,acc,hs,ha,hc=>by unfold itemsM; exact ⟨ha,by simp only; omega⟩
 | f+1,σ,acc,hs,ha,hc=>by
   unfold itemsM at hc ⊢;by_cases h:σ.at_ < C.T.length
   · rw [if_pos h] at hc ⊢;simp only at hc ⊢;have m:=(item_mi h).2;have mi:∀ (g:Nat) (τ:St) (ac:List It),τ.at_≤C.T.length→(itemsM C g τ ac).2.code=0→τ.code=0:=by
      intro g
      induction g with
      | zero=>intro τ ac _ hh; exact hh
      | succ g ih =>
        intro τ ac ht hh;unfold itemsM at hh;split at hh
        · next hl =>
          have mm:=(item_mi hl).2;exact mm.code (ih _ _ mm.le hh)
        · exact hh
     have c1:=mi f _ _ m.le hc;obtain ⟨o1,w1⟩:=item_ok hT hs c1;obtain ⟨o2,w2⟩:=items_ok hT f _ (acc++[(itemM C σ).1]) m.le (fun v hv=>by
      rcases List.mem_append.1 hv with hv | hv
      · exact ha v hv
      · rw [List.mem_singleton] at hv; rw [hv]; exact o1) hc
     refine ⟨o2,?_⟩;rw [wIs_app] at w2;have e:wIs [(itemM C σ).1]=wI (itemM C σ).1:=by show wI _+0=_; omega
     omega
   · rw [if_neg h] at hc ⊢; exact ⟨ha,by simp only; omega⟩
theorem dec_size:∀ (f n:Nat) (acc:List UInt8),(decL f n acc).length≤f+acc.length
 | 0,n,acc=>by unfold decL; omega
 | f+1,n,acc=>by
   unfold decL;split
   · simp only [List.length_cons]; omega
   · have:=dec_size f (n / 10) (UInt8.ofNat (48+n % 10)::acc);simp only [List.length_cons] at this;omega
theorem decM_size (n:Int):(decM n).size≤20:=by
 have:=dec_size 20 n.toNat [];unfold decM;show (decL 20 n.toNat []).toArray.size≤20;simp only [List.size_toArray];simpa using this
theorem starL_size (n:Nat):(starL n).size=n:=by
 induction n with
 | zero=>rfl
 | succ n ih=>unfold starL; rw [cat_size,ih]; rfl
theorem tyM_size (t:Ty):(tyM t).size=tyW t:=by unfold tyM tyW; rw [cat_size,starL_size]
theorem part_ub (s:ByteArray) (x:Wr):(partW s x).out.size≤x.out.size+1+s.size:=by
 show ((if x.fresh then x.out else x.out++⟨#[32]⟩)++s).size≤_;rw [cat_size];split
 · omega
 · rw [cat_size]; show x.out.size+1+_≤_; omega
def lW:List ByteArray→Nat
 | []=>0
 | s::l=>1+s.size+lW l
theorem parts_ub:∀ (l:List ByteArray) (x:Wr),(partsW l x).out.size≤x.out.size+lW l
 | [],x=>Nat.le_refl _
 | s::l,x=>by
   show (partsW l (partW s x)).out.size≤_;have h1:=parts_ub l (partW s x);have h2:=part_ub s x;show _≤_+(1+s.size+lW l);omega
theorem openP_ub (l:List ByteArray) (x:Wr):(openP l x).out.size≤x.out.size+2+lW l:=by
 have h1:=parts_ub l (openW x);have h2:=part_ub ⟨#[40]⟩ x;have e:(openW x).out=(partW ⟨#[40]⟩ x).out:=rfl;rw [e] at h1;have e2:(⟨#[40]⟩:ByteArray).size=1:=rfl;rw [e2] at h2;unfold openP;omega
theorem head_ub (kind:Int) (op name:ByteArray) (ty:Ty) (num:Int) (x:Wr):(headW (exHead kind op name ty num) x).out.size≤x.out.size+60+op.size+tyW ty+(if kind=10∨kind=11 then 0 else name.size):=by
 have hd:=decM_size num;have ht:=tyM_size ty;unfold exHead;by_cases h1:kind=1
 · rw [if_pos h1]; refine Nat.le_trans (openP_ub _ _) ?_; simp only [lW]; show _+2+(1+3+_)≤_; omega
 rw [if_neg h1];by_cases h2:kind=2
 · rw [if_pos h2]; refine Nat.le_trans (openP_ub _ _) ?_; simp only [lW]; rw [if_neg (by omega)]; show _+2+(1+4+_)≤_; omega
 rw [if_neg h2];by_cases h3:kind=3
 · rw [if_pos h3]; refine Nat.le_trans (openP_ub _ _) ?_; simp only [lW]; show _+2+(1+2+_)≤_; omega
 rw [if_neg h3];by_cases h4:kind=4
 · rw [if_pos h4]; refine Nat.le_trans (openP_ub _ _) ?_; simp only [lW]; show _+2+(1+3+_)≤_; omega
 rw [if_neg h4];by_cases h5:kind=5
 · rw [if_pos h5]; refine Nat.le_trans (openP_ub _ _) ?_; simp only [lW]; show _+2+(1+3+_)≤_; omega
 rw [if_neg h5];by_cases h6:kind=6
 · rw [if_pos h6]; refine Nat.le_trans (openP_ub _ _) ?_; simp only [lW]; show _+2+(1+2+_)≤_; omega
 rw [if_neg h6];by_cases h7:kind=7
 · rw [if_pos h7]; refine Nat.le_trans (openP_ub _ _) ?_; simp only [lW]; show _+2+(1+4+_)≤_; omega
 rw [if_neg h7];by_cases h8:kind=8
 · rw [if_pos h8]; refine Nat.le_trans (openP_ub _ _) ?_; simp only [lW]; show _+2+(1+3+_)≤_; omega
 rw [if_neg h8];by_cases h9:kind=9
 · rw [if_pos h9]; refine Nat.le_trans (openP_ub _ _) ?_; simp only [lW]; show _+2+(1+5+_)≤_; omega
 rw [if_neg h9];by_cases ha:kind=10
 · rw [if_pos ha]; refine Nat.le_trans (openP_ub _ _) ?_; simp only [lW]; show _+2+(1+3+_)≤_; omega
 rw [if_neg ha];by_cases hb:kind=11
 · rw [if_pos hb]; refine Nat.le_trans (openP_ub _ _) ?_; simp only [lW]; show _+2+(1+5+_)≤_; omega
 rw [if_neg hb];by_cases hc:kind=12
 · rw [if_pos hc]; refine Nat.le_trans (openP_ub _ _) ?_; simp only [lW]; show _+2+(1+4+_)≤_; omega
 rw [if_neg hc];by_cases he:kind=13
 · rw [if_pos he]; refine Nat.le_trans (openP_ub _ _) ?_; simp only [lW]; show _+2+(1+4+_)≤_; omega
 rw [if_neg he];by_cases hf:kind=14
 · rw [if_pos hf]; refine Nat.le_trans (openP_ub _ _) ?_; simp only [lW]; show _+2+(1+4+_)≤_; omega
 rw [if_neg hf];show x.out.size≤_;omega
mutual
theorem exW_ub:∀ (e:Ex) (x:Wr),(exW e x).out.size≤x.out.size+wE e
 | .mk kind op name ty num arr subs,x=>by
   have h1:=head_ub kind op name ty num x;have h2:=exsW_ub subs (headW (exHead kind op name ty num) x);unfold exW wE;simp only;rw [close_size];split
   · next h =>
     rw [if_pos h] at h1;have h3:=part_ub name (exsW subs (headW (exHead kind op name ty num) x));omega
   · next h =>
     rw [if_neg h] at h1;omega
theorem exsW_ub:∀ (l:List Ex) (x:Wr),(exsW l x).out.size≤x.out.size+wEs l
 | [],x=>by unfold exsW; omega
 | e::t,x=>by
   unfold exsW wEs;have h1:=exW_ub e x;have h2:=exsW_ub t (exW e x);omega
end
theorem optW_ub (e:Option Ex) (x:Wr):(optW e x).out.size≤x.out.size+wO e+2:=by
 cases e with
 | none =>
   have h:=part_ub dash x;have e:dash.size=1:=rfl;show (partW dash x).out.size≤_;omega
 | some e=>have:=exW_ub e x; show (exW e x).out.size≤_+wE e+2; omega
theorem heads_size (k:Nat):(heads.getD k nt).size≤8:=by
 by_cases h:k < 17
 · have hc:k=0∨k=1∨k=2∨k=3∨k=4∨k=5∨k=6∨k=7∨k=8∨k=9∨k=10∨k=11∨k=12∨k=13∨k=14∨k=15∨k=16:=by omega
   rcases hc with rfl | rfl | rfl | rfl | rfl | rfl | rfl | rfl | rfl | rfl | rfl | rfl | rfl | rfl | rfl | rfl | rfl <;> exact of_decide_eq_true rfl
 · rw [List.getD_eq_getElem?_getD,List.getElem?_eq_none (by show 17≤k; omega)];exact Nat.zero_le _
theorem ite_ub {n:Nat} {c:Prop} [Decidable c] {a b:Wr} (h1:c→a.out.size≤n) (h2:¬ c→b.out.size≤n):(if c then a else b).out.size≤n:=by split; exact h1 (by assumption); exact h2 (by assumption)
mutual
theorem smW_ub:∀ (s:Sm) (x:Wr),(smW s x).out.size≤x.out.size+wS s
 | .mk kind v name minus num e0 e1 e2 body,x=>by
   have h0:=openP_ub [heads.getD kind.toNat nt] x;have hh:=heads_size kind.toNat;simp only [lW] at h0;have hb:=fun y=>smsW_ub body y
   have g0:=fun y=>optW_ub e0 y
   have g1:=fun y=>optW_ub e1 y
   have g2:=fun y=>optW_ub e2 y
   have hd:=decM_size num;have hdv:=decM_size v.num;have hty:=tyM_size v.ty;have hds:dash.size=1:=rfl;unfold smW wS wV;simp only;rw [close_size];generalize openP [heads.getD kind.toNat nt] x=w0 at h0 ⊢;have hn:∀ q:Wr,q.out.size≤x.out.size+99+(v.name.size+tyW v.ty)+name.size+wO e0+wO e1+wO e2+wSs body→q.out.size+1≤x.out.size+(100+(v.name.size+tyW v.ty)+name.size+wO e0+wO e1+wO e2+wSs body):=fun q hq=>by omega
   refine hn _ ?_;clear hn;refine ite_ub (fun _=>by have a1:=hb w0; omega) (fun _=>?_);refine ite_ub (fun _=>by
    have a1:=part_ub (tyM v.ty) w0;have a2:=part_ub v.name (partW (tyM v.ty) w0);have a3:=part_ub (decM v.num) (partW v.name (partW (tyM v.ty) w0));have a4:=g0 (partW (decM v.num) (partW v.name (partW (tyM v.ty) w0)));omega) (fun _=>?_)
   refine ite_ub (fun _=>by
    have a1:=g0 w0;have a2:=hb (optW e0 w0);have a3:=part_ub dash (smsW body (optW e0 w0));exact ite_ub (fun _=>by omega) (fun _=>by omega)) (fun _=>?_)
   refine ite_ub (fun _=>by
    have a1:=g0 w0;have a2:=hb (optW e0 w0);omega) (fun _=>?_)
   refine ite_ub (fun _=>by
    have a1:=hb w0;have a2:=g0 (smsW body w0);omega) (fun _=>?_)
   refine ite_ub (fun _=>by
    have a1:=g0 w0;have a2:=g1 (optW e0 w0);have a3:=g2 (optW e1 (optW e0 w0));have a4:=hb (optW e2 (optW e1 (optW e0 w0)));omega) (fun _=>?_)
   refine ite_ub (fun _=>by
    have a1:=part_ub (dash++decM num) w0;have a2:=part_ub (decM num) w0;rw [cat_size] at a1;exact ite_ub (fun _=>by omega) (fun _=>by omega)) (fun _=>?_)
   refine ite_ub (fun _=>by have a1:=g0 w0; omega) (fun _=>?_);refine ite_ub (fun _=>by have a1:=part_ub name w0; omega) (fun _=>?_);refine ite_ub (fun _=>by
    have a1:=part_ub name w0;have a2:=hb (partW name w0);omega) (fun _=>?_)
   omega
theorem smsW_ub:∀ (l:List Sm) (x:Wr),(smsW l x).out.size≤x.out.size+wSs l
 | [],x=>by unfold smsW; omega
 | e::t,x=>by
   unfold smsW wSs;have h1:=smW_ub e x;have h2:=smsW_ub t (smW e x);omega
end
theorem vars_ub (l:List Vr) (x:Wr):(l.foldl (fun w v=>closeW (openP [tyM v.ty,v.name,decM v.num] w)) x).out.size≤x.out.size+wVs l:=by
 induction l generalizing x with
 | nil=>exact Nat.le_refl _
 | cons v t ih =>
   have h1:=ih (closeW (openP [tyM v.ty,v.name,decM v.num] x));have h2:=openP_ub [tyM v.ty,v.name,decM v.num] x;have hd:=decM_size v.num;have ht:=tyM_size v.ty;rw [close_size] at h1;simp only [lW] at h2;show _≤x.out.size+(60+(v.name.size+tyW v.ty)+wVs t);rw [List.foldl_cons];omega
theorem params_ub (l:List Vr) (x:Wr):(paramsW l x).out.size≤x.out.size+3+wVs l:=by
 have h:∀ (l:List Vr) (x:Wr),(l.foldl (fun w v=>closeW (openP [tyM v.ty,v.name] w)) x).out.size≤x.out.size+wVs l:=by
  intro l
  induction l with
  | nil=>intro x; exact Nat.le_refl _
  | cons v t ih =>
    intro x;have h1:=ih (closeW (openP [tyM v.ty,v.name] x));have h2:=openP_ub [tyM v.ty,v.name] x;have ht:=tyM_size v.ty;rw [close_size] at h1;simp only [lW] at h2;show _≤x.out.size+(60+(v.name.size+tyW v.ty)+wVs t);rw [List.foldl_cons];omega
 unfold paramsW;rw [close_size];have h1:=h l (openP [] x);have h2:=openP_ub [] x;simp only [lW] at h2;omega
theorem types_ub (l:List Ty) (x:Wr):(l.foldl (fun w t=>partW (tyM t) w) x).out.size≤x.out.size+wTs l:=by
 induction l generalizing x with
 | nil=>exact Nat.le_refl _
 | cons v t ih =>
   have h1:=ih (partW (tyM v) x);have h2:=part_ub (tyM v) x;have ht:=tyM_size v;show _≤x.out.size+(10+tyW v+wTs t);rw [List.foldl_cons];omega
theorem itW_ub (i:It) (x:Wr):(itW i x).out.size≤x.out.size+wI i:=by
 have hd:=decM_size i.v.num;have ht:=tyM_size i.v.ty;unfold itW wI wV;rw [close_size];have hn:∀ q:Wr,q.out.size≤x.out.size+199+(i.v.name.size+tyW i.v.ty)+wVs i.vars+wTs i.types+wB i.body+wO i.init+wEs i.list→q.out.size+1≤x.out.size+(200+(i.v.name.size+tyW i.v.ty)+wVs i.vars+wTs i.types+wB i.body+wO i.init+wEs i.list):=fun q hq=>by omega
 refine hn _ ?_;clear hn;refine ite_ub (fun _=>?_) (fun _=>?_)
 · have h1:=openP_ub [⟨#[115,116,114,117,99,116]⟩,i.v.name] x;have h2:=vars_ub i.vars (openP [⟨#[115,116,114,117,99,116]⟩,i.v.name] x);have e:(⟨#[115,116,114,117,99,116]⟩:ByteArray).size=6:=rfl;simp only [lW,e] at h1;omega
 refine ite_ub (fun _=>?_) (fun _=>?_)
 · have h1:=openP_ub [⟨#[116,121,112,101,100,101,102]⟩,tyM i.v.ty,i.v.name] x;have h2:=openP_ub [] (openP [⟨#[116,121,112,101,100,101,102]⟩,tyM i.v.ty,i.v.name] x);have h3:=types_ub i.types (openP [] (openP [⟨#[116,121,112,101,100,101,102]⟩,tyM i.v.ty,i.v.name] x));have e:(⟨#[116,121,112,101,100,101,102]⟩:ByteArray).size=7:=rfl;simp only [lW,e] at h1 h2;rw [close_size];omega
 refine ite_ub (fun _=>?_) (fun _=>?_)
 · have h1:=openP_ub [⟨#[112,114,111,116,111]⟩,tyM i.v.ty,i.v.name] x;have h2:=params_ub i.vars (openP [⟨#[112,114,111,116,111]⟩,tyM i.v.ty,i.v.name] x);have e:(⟨#[112,114,111,116,111]⟩:ByteArray).size=5:=rfl;simp only [lW,e] at h1;omega
 refine ite_ub (fun _=>?_) (fun _=>?_)
 · cases hb:i.body with
   | none=>simp only; omega
   | some b =>
     have h1:=openP_ub [⟨#[102,117,110,99]⟩,tyM i.v.ty,i.v.name] x;have h2:=params_ub i.vars (openP [⟨#[102,117,110,99]⟩,tyM i.v.ty,i.v.name] x);have h3:=smW_ub b (paramsW i.vars (openP [⟨#[102,117,110,99]⟩,tyM i.v.ty,i.v.name] x));have e:(⟨#[102,117,110,99]⟩:ByteArray).size=4:=rfl;simp only [lW,e] at h1;show (smW b (paramsW i.vars (openP [⟨#[102,117,110,99]⟩,tyM i.v.ty,i.v.name] x))).out.size≤_;unfold wB;simp only;omega
 refine ite_ub (fun _=>?_) (fun _=>by omega);have h1:=openP_ub [⟨#[118,97,114]⟩,tyM i.v.ty,i.v.name,decM i.v.num] x;have e:(⟨#[118,97,114]⟩:ByteArray).size=3:=rfl;simp only [lW,e] at h1;simp only;cases hl:i.listed with
 | true =>
   have h2:=openP_ub [⟨#[108,105,115,116]⟩] (openP [⟨#[118,97,114]⟩,tyM i.v.ty,i.v.name,decM i.v.num] x);have h3:=exsW_ub i.list (openP [⟨#[108,105,115,116]⟩] (openP [⟨#[118,97,114]⟩,tyM i.v.ty,i.v.name,decM i.v.num] x));have e:(⟨#[108,105,115,116]⟩:ByteArray).size=4:=rfl;simp only [lW,e] at h2;show (closeW (exsW i.list (openP [⟨#[108,105,115,116]⟩] (openP [⟨#[118,97,114]⟩,tyM i.v.ty,i.v.name,decM i.v.num] x)))).out.size≤_;rw [close_size];omega
 | false =>
   have h2:=optW_ub i.init (openP [⟨#[118,97,114]⟩,tyM i.v.ty,i.v.name,decM i.v.num] x);show (optW i.init (openP [⟨#[118,97,114]⟩,tyM i.v.ty,i.v.name,decM i.v.num] x)).out.size≤_;omega
theorem dumpL_ub (l:List It):(dumpL l).size≤wIs l+l.length:=by
 have h:∀ (l:List It) (x:Wr),(l.foldl (fun w i=>(let w1:=itW i w; { w1 with out:=w1.out++⟨#[10]⟩,fresh:=true })) x).out.size≤x.out.size+wIs l+l.length:=by
  intro l
  induction l with
  | nil=>intro x; exact Nat.le_refl _
  | cons i t ih =>
    intro x;have h1:=ih (let w1:=itW i x; { w1 with out:=w1.out++⟨#[10]⟩,fresh:=true });have h2:=itW_ub i x;have e:(let w1:=itW i x; ({ w1 with out:=w1.out++⟨#[10]⟩,fresh:=true }:Wr)).out.size=(itW i x).out.size+1:=by
     show ((itW i x).out++⟨#[10]⟩).size=_;rw [cat_size]; rfl
    rw [e] at h1;rw [List.foldl_cons,List.length_cons];show _≤_+(wI i+wIs t)+_;omega
 have:=h l ⟨nt,0,0,true⟩;have e:nt.size=0:=rfl;rw [e,Nat.zero_add] at this;exact this
theorem mem_ub {l:List It} {i:It} (h:i∈l):wI i≤wIs l:=by
 induction l with
 | nil=>cases h
 | cons a t ih =>
   show wI i≤wI a+wIs t;rcases List.mem_cons.1 h with rfl | h
   · omega
   · have:=ih h; omega
end Go.Proofs.YtflbkdfbjofllaaGreatDoor.Sy
namespace Go.Proofs.YtflbkdfbjofllaaGreatDoor.Sy
open Go.RowKit Lx
theorem ext_le (s:ByteArray) (i j:Nat):(s.extract i j).size≤s.size:=by rw [ByteArray.size_extract]; omega
def TkIn (s:ByteArray) (t:Tk):Prop:=tkOk t=true∧t.text.size≤s.size
theorem toks_in (s:ByteArray) (hs:s.size≤1000000):∀ (f i:Nat) (acc:List Tk),i≤s.size→(∀ t∈acc,TkIn s t)→acc.length≤6000→(∀ t∈(toksM s f i acc).l,TkIn s t)∧(toksM s f i acc).l.length≤6000
 | 0,i,acc,hi,ha,hl=>⟨ha,hl⟩
 | f+1,i,acc,hi,ha,hl=>by
   have hn:∀ (l:List Tk),l=[]→(∀ t∈l,TkIn s t)∧l.length≤6000:=fun l e=>by rw [e]; exact ⟨(fun t h=>by cases h),Nat.zero_le _⟩
   have hg:=gap_bd (s:=s) s.size i hi;unfold toksM;split
   · exact hn _ rfl
   split
   · exact ⟨ha,hl⟩
   split
   · exact hn _ rfl
   split
   · exact hn _ rfl
   · next h1 h2 h3 h4 =>
     have hb:=tokenM_bd (s:=s) (i:=(gap s s.size i).1) (by omega);refine toks_in s hs f _ _ hb.2.1 (fun t ht=>?_) (by rw [List.length_append,List.length_singleton]; omega);rcases List.mem_append.1 ht with ht | ht
     · exact ha t ht
     · rw [List.mem_singleton] at ht;subst ht;have hx:=ext_le s (gap s s.size i).1 (tokenM s (gap s s.size i).1).j;refine ⟨?_,hx⟩;unfold tkOk tkOf;exact decide_eq_true ⟨by simp only; omega,by have:=hb.2.2.2.2.2; simp only; omega,hb.2.2.1.1,hb.2.2.1.2⟩
theorem tokens_in (s:ByteArray) (hs:s.size≤1000000):(∀ t∈(tokensM s).l,TkIn s t)∧(tokensM s).l.length≤6000∧((tokensM s).code=0→s.size≤20000):=by
 unfold tokensM;split
 · exact ⟨(fun t h=>by cases h),Nat.zero_le _,fun h=>absurd h (by show ¬ (6:Int)=0; decide)⟩
 · have h:=toks_in s hs (s.size+1) 0 [] (Nat.zero_le _) (fun t h=>by cases h) (Nat.zero_le _);exact ⟨h.1,h.2,fun _=>by omega⟩
theorem twL_le {n:Nat}:∀ {l:List Tk},(∀ t∈l,t.text.size≤n)→twL l≤(400+n) * l.length
 | [],_=>Nat.zero_le _
 | t::l,h=>by
   have h1:=h t (List.mem_cons_self ..);have h2:=twL_le (n:=n) (l:=l) (fun t ht=>h t (List.mem_cons_of_mem _ ht));show tw t+twL l≤_;rw [List.length_cons,Nat.mul_succ];unfold tw;omega
theorem itemsM_len' (C:Cx) (g:Nat) (σ:St) (acc:List It):(itemsM C g σ acc).1.length≤acc.length+g:=by
 induction g generalizing σ acc with
 | zero=>exact Nat.le_refl _
 | succ g ih =>
   unfold itemsM;split
   · have e:=ih (itemM C σ).2 (acc++[(itemM C σ).1]);rw [List.length_append,List.length_singleton] at e;simp only;omega
   · simp only; omega
theorem parseOk_any (s:ByteArray) (hs:s.size≤1000000):parseOk s=true:=by
 obtain ⟨h1,h2,h3⟩:=tokens_in s hs;unfold parseOk;rw [decide_eq_true ⟨hs,h2⟩,show (tokensM s).l.all tkOk=true from List.all_eq_true.2 (fun t ht=>(h1 t ht).1)];simp only [Bool.true_and];split
 · rfl
 next hc =>
 split
 · rfl
 next hd =>
 have hc0:(tokensM s).code=0:=by simpa using hc
 have hd0:(itemsOf s).2.code=0:=by simpa using hd
 have hz:=h3 hc0;have hT:Tks ⟨(tokensM s).l,s.size⟩:=⟨fun t ht=>(h1 t ht).1,fun t ht=>Nat.le_trans (h1 t ht).2 (by omega),by show (tokensM s).l.length≤10000; omega⟩;have hi:=items_ok hT ((tokensM s).l.length+1) ⟨0,[],0,0⟩ [] (Nat.zero_le _) (fun t h=>by cases h) hd0;have hp:phi ⟨(tokensM s).l,s.size⟩ ⟨0,[],0,0⟩≤20400 * 6000:=by
  show twL ((tokensM s).l.drop 0)≤_;rw [List.drop_zero];refine Nat.le_trans (twL_le (n:=20000) (fun t ht=>Nat.le_trans (h1 t ht).2 hz)) ?_;exact Nat.mul_le_mul_left _ h2
 have hw:wIs (itemsOf s).1≤20400 * 6000+200 * 6001:=by
  have:=hi.2;have e:wIs []=0:=rfl;rw [e] at this;unfold itemsOf;omega
 have hlen:(itemsOf s).1.length≤6001:=by
  have h:=itemsM_len' ⟨(tokensM s).l,s.size⟩ ((tokensM s).l.length+1) ⟨0,[],0,0⟩ [];unfold itemsOf;rw [List.length_nil] at h;omega
 rw [Bool.and_eq_true,Bool.and_eq_true];refine ⟨List.all_eq_true.2 hi.1,List.all_eq_true.2 (fun i hm=>?_),?_⟩
 · have e1:=itW_ub i ⟨nt,0,0,true⟩;have e2:=mem_ub hm;have e3:nt.size=0:=rfl;simp only [e3] at e1;exact decide_eq_true (by unfold BIG; omega)
 · have e1:=dumpL_ub (itemsOf s).1;exact decide_eq_true (by unfold BIG; omega)
end Go.Proofs.YtflbkdfbjofllaaGreatDoor.Sy
namespace Go.Proofs.YtflbkdfbjofllaaGreatDoor
open Go.RowKit Lx
namespace L
theorem row_get (l:List Lx.Tk) (k o:Nat) (t:Lx.Tk) (ht:l[k]?=some t) (ho:o < 6):(Lx.rowOf l)[k * 6+o]?=t.cells[o]?:=by
 induction l generalizing k with
 | nil=>cases ht
 | cons a l ih =>
   have e:Lx.rowOf (a::l)=a.cells++Lx.rowOf l:=by unfold Lx.rowOf; rw [List.flatMap_cons]
   have ea:a.cells.length=6:=rfl;rw [e];cases k with
   | zero=>injection ht with ht; subst ht; rw [List.getElem?_append_left (by omega)]; congr 1; omega
   | succ k =>
     rw [List.getElem?_append_right (by omega)];have h:=ih k ht;rw [← h]
     congr 1; omega
theorem gap_cell (w:World) (T:TypeId) {k:Nat} (hk:k < 4):∃ a:ByteArray,(w.alloc (.cells #[.string ⟨#[32]⟩,.string ⟨#[10]⟩,.string ⟨#[32,47,42,42,47]⟩,.string ⟨#[32,47,47,32,10]⟩] T)).cell? ⟨w.heap.size,k,none⟩=some (.string a)∧a.data.toList=gs4.getD k []:=by
 rw [World.cell?_alloc_at _ _ _ _ rfl]
 match k,hk with
 | 0,_=>exact ⟨_,rfl,rfl⟩
 | 1,_=>exact ⟨_,rfl,rfl⟩
 | 2,_=>exact ⟨_,rfl,rfl⟩
 | 3,_=>exact ⟨_,rfl,rfl⟩
 | n+4,h=>exact absurd h (by omega)
def gN (g0:Int) (i:Nat):Nat:=(IntKind.u64.wrap (IntKind.i64.wrap (g0+(i:Int))) % 4).toNat
def gG (g0:Int) (i:Nat):List UInt8:=gs4.getD (gN g0 i) []
theorem gN_lt (g0:Int) (i:Nat):gN g0 i < 4:=by
 have h1:0≤IntKind.u64.wrap (IntKind.i64.wrap (g0+(i:Int))) % 4∧IntKind.u64.wrap (IntKind.i64.wrap (g0+(i:Int))) % 4 < 4:=⟨Int.emod_nonneg _ (by decide),Int.emod_lt_of_pos _ (by decide)⟩;unfold gN; omega
theorem gN_eq (g0:Int) (i:Nat):IntKind.u64.wrap (IntKind.i64.wrap (g0+(i:Int))) % 4=(gN g0 i:Int):=by
 have h1:0≤IntKind.u64.wrap (IntKind.i64.wrap (g0+(i:Int))) % 4:=Int.emod_nonneg _ (by decide);unfold gN; omega
theorem gG_mem (g0:Int) (i:Nat):gG g0 i∈gs4:=by
 have h:gN g0 i < gs4.length:=gN_lt g0 i;unfold gG;rw [List.getD_eq_getElem?_getD,List.getElem?_eq_getElem h];exact List.getElem_mem h
theorem rbr_take {s:ByteArray} {G:Nat→List UInt8} (hG:∀ k,G k∈gs4) {L:List Lx.Tk} (hC:Chain s 0 L) (hs:s.size≤600) (hL:L.length≤600) (k:Nat):(rbr G 0 (L.take k)).length≤3600:=by
 have h1:=rbr_chain s G hG L 0 0 hC;have h2:∀ (A B:List Lx.Tk) (j:Nat),(rbr G j A).length≤(rbr G j (A++B)).length:=by
  intro A
  induction A with
  | nil=>intro B j; exact Nat.zero_le _
  | cons t A ih=>intro B j; have:=ih B (j+1); rw [List.cons_append,rbr,rbr]; simp only [List.length_append]; omega
 have h3:=h2 (L.take k) (L.drop k) 0;rw [List.take_append_drop] at h3;omega
theorem rbr_next {G:Nat→List UInt8} {L:List Lx.Tk} {k:Nat} {t:Lx.Tk} {A a:ByteArray} (ht:L[k]?=some t) (hA:A.data.toList=rbr G 0 (L.take k)) (ha:a.data.toList=G k):(A++t.text++a).data.toList=rbr G 0 (L.take (k+1)):=by
 have hk:k < L.length:=(List.getElem?_eq_some_iff.1 ht).1;rw [List.take_add_one,ht];show _=rbr G 0 (L.take k++[t]);rw [rbr_snoc,List.length_take,Nat.min_eq_left (by omega),Nat.zero_add];simp [hA,ha]
theorem text_le {s:ByteArray} {L:List Lx.Tk} (hC:Chain s 0 L) {k:Nat} {t:Lx.Tk} (ht:L[k]?=some t):t.text.size≤s.size:=by
 obtain ⟨hk,he⟩:=List.getElem?_eq_some_iff.1 ht;have h:=chain_each s L 0 hC (L.take k) t (L.drop (k+1)) (by rw [← he,← List.drop_eq_getElem_cons hk,List.take_append_drop]);omega
end L
theorem rtokens_any (s:ByteArray) (w:World):Calls Tryz.prog 17 #[.string s] w (L.TokensPost w (Lx.tokensM s)):=by
 by_cases h:20000 < s.size
 · exact L.rtokens_long s h w
 · exact L.rtokens_short s (by omega) w
theorem gaps_walk (s:ByteArray) (g0:Int) (hm:s.size≤maxLen) (hg:I64 g0) (w:World) (hl:LaidP w):Calls Tryz.prog 4 #[.string s,.int .i64 g0] w fun e w'=>e=.returned (.bool true)∧Keeps No w w':=by
 have HL:=zz hl;have hg1:-9223372036854775808≤g0∧g0≤9223372036854775807:=hg;clear hl hg;by_cases h600:600 < s.size
 · have h600':(600:Int) < (s.size:Int):=by omega
   go_enter Tryz.func4,Tryz.ntmps4;go_wp2_with fail;refine (awake_any w HL.out).mono ?_;rintro e w1 ⟨rfl,hb⟩;have HB:=zz hb;clear hb;go_wp2_with fail;go_returns;exact ⟨rb rfl rfl,HB.out⟩
 have h600':¬ (600:Int) < (s.size:Int):=by omega
 have hs:s.size≤600:=by omega
 have HRT:=zz (rtokens_any s w);rcases L.first_tokens s hs with ⟨tl,hL,hC,hLn⟩ | ⟨c,p,hL,hc⟩
 · rw [hL] at HRT;obtain ⟨N,hN⟩:∃ N,tl.length=N:=⟨_,rfl⟩;have HN:=zz hN;have HT:=zz hL;have HC:=zz hC;have hN6:N≤600:=by omega
   clear hL hC hLn hN h600;go_enter Tryz.func4,Tryz.ntmps4;go_wp2_with fail;refine HRT.out.mono ?_;rintro e w1 ⟨va,rfl,hown,hb⟩;simp only at hown;rw [HN.out] at hown;obtain ⟨aa,ca,rfl,pa⟩:∃ aa ca,va=.slice aa N ca∧(0 < N→∃ g,aa=some ⟨g,0,none⟩):=by
    rcases hown.2 with ⟨h1,h2⟩ | ⟨g,cap,cur,h1,_⟩
    · exact ⟨none,0,by rw [h2]; exact h1,fun h=>by omega⟩
    · exact ⟨_,_,h1,fun _=>⟨g,rfl⟩⟩
   have HK1:=zz (Keeps.of_below hb);have HO:=zz hown;have PA:=zz pa;clear hown hb pa;go_upto_region 4 with fail
   have hn2:(w1.alloc (.cells #[.int .i64 0,.int .i64 0] 25)).heap[w1.heap.size]?=some (.cells #[.int .i64 0,.int .i64 0] 25 (0,0)):=heap_alloc_new _ _;have hk2:Keeps No w1 (w1.alloc (.cells #[.int .i64 0,.int .i64 0] 25)):=(Keeps.refl _ _).alloc _;have HO2:=zz (HO.out.alloc (.cells #[.int .i64 0,.int .i64 0] 25));generalize w1.alloc (.cells #[.int .i64 0,.int .i64 0] 25)=w2 at hn2 hk2 HO2 ⊢;obtain ⟨R,hR⟩:∃ q,w1.heap.size=q:=⟨_,rfl⟩;rw [hR] at hn2 ⊢;have x0:w2.cell? ⟨R,0,none⟩=some (.int .i64 0):=by rw [cell_of_row w2 R 0 _ _ _ hn2]; rfl
   have HK2:=zz (HK1.out.trans hk2 (fun _ _ e=>e));clear hR hn2 hk2 HO HK1;go_wp2_with fail;clear x0;go_loopg [7,8] N (fun g x v wr=>∃ (A:ByteArray) (i:Nat),x=.string A∧v=.int .i64 (i:Int)∧i≤N∧g=N - i∧Hid (A.data.toList=L.rbr (L.gG g0) 0 (tl.take i))∧Hid (Keeps No w2 wr))
   case atStart=>exact ⟨⟨#[]⟩,0,rfl,rfl,Nat.zero_le _,rfl,zz rfl,zz (Keeps.refl _ _)⟩
   case round =>
    obtain ⟨A,i,rfl,rfl,hi,hgh,HA,HW⟩:=hrel;have hAs:A.size≤3600:=by
     rw [L.size_list,HA.out];exact L.rbr_take (L.gG_mem g0) HC.out hs (by rw [HN.out]; omega) i
    by_cases hlt:i < N
    · have hlt':(i:Int) < (N:Int):=by omega
      obtain ⟨ga,rfl⟩:=PA.out (by omega);obtain ⟨t,ht⟩:∃ t,tl[i]?=some t:=⟨_,List.getElem?_eq_getElem (by rw [HN.out]; exact hlt)⟩;have a2:w2.cell? ⟨ga,i * 6+2,none⟩=some (.string t.text):=(HO2.out.cells (g:=ga) rfl (i * 6+2) _ (by rw [L.row_get tl i 2 t ht (by decide)]; rfl)) |> fun h=>by rw [Lib.add_plain] at h; simpa using h
      have hTs:t.text.size≤600:=Nat.le_trans (L.text_le HC.out ht) hs;obtain ⟨k,hk⟩:∃ k,L.gN g0 i=k:=⟨_,rfl⟩;have hk4:k < 4:=by rw [← hk]; exact L.gN_lt g0 i
      obtain ⟨ar,har1,har2⟩:=L.gap_cell wr.drew 9 hk4;have har3:ar.size≤5:=by rw [L.size_list,har2,← hk]; exact (L.gs4_len _ (L.gG_mem g0 i)).2
      have HNX:=zz (L.rbr_next (a:=ar) ht HA.out (by rw [har2,← hk]; rfl));obtain ⟨Z,hZ⟩:∃ Z,IntKind.i64.wrap (g0+(i:Int))=Z:=⟨_,rfl⟩;have hZb:I64 Z:=by rw [← hZ]; unfold I64; simp only [IntKind.wrap,IntKind.bits,IntKind.signed]; simp; omega
      have HLO:=zz (fun W=>low_any Z 4 hZb (by decide) W);rw [show IntKind.u64.wrap Z % 4=(k:Int) by rw [← hZ,← hk]; exact L.gN_eq g0 i] at HLO;have a2':=HW.out.cell0 a2;obtain ⟨T,hT⟩:∃ T,t.text=T:=⟨_,rfl⟩;rw [hT] at a2' hTs HNX;have HAR:=zz har1;have hkI:(k:Int) < 4:=by omega
      have hk0:(0:Int)≤(k:Int):=by omega
      have i0:(0:Int)≤(i:Int):=by omega
      have HK3:Hid (Keeps No w2 wr.drew):=zz HW.out.drew;have c2:∀ u:KS No wr,u.W.cell? _=_:=fun u=>u.cell a2' (fun e=>e)
      have hne:Nonempty (KS No wr):=⟨⟨wr,Keeps.refl _ _⟩⟩;have HKW:Hid (Keeps No wr wr.drew):=zz ((Keeps.refl _ _).drew);have HDR:Hid (wr.drew.heap.size=wr.heap.size):=zz rfl;clear ht a2 a2' hT hk hZb har1 har2;go_wp2_with fail;refine Mix.wp_region_mix (fun W=>∃ u:KS No wr,W=u.W) [] (by kernel_rfl) ?_;generalize wr.drew=wd at HK3 HAR HKW HDR ⊢;refine Mix.mix_seg 0 7 9 (by kernel_rfl) (by kernel_rfl) rfl rfl ⟨⟨wd,HKW.out⟩,rfl⟩ ?_;simp only [zp1,zp2,zp3,zp4]
      repeat (go_big_quiet_step (fail))
      refine wpQuiet_nil ?_;refine Mix.mix_seg 8 3 6 (by kernel_rfl) (by kernel_rfl) rfl rfl ⟨⟨wd,HKW.out⟩,rfl⟩ ?_;simp only [zp1,zp2,zp3,zp4]
      repeat (go_big_quiet_step (fail))
      refine wpQuiet_nil ?_;clear c2 hne;have HK5:Hid (Keeps No w2 (wd.alloc (.cells #[.string ⟨#[32]⟩,.string ⟨#[10]⟩,.string ⟨#[32,47,42,42,47]⟩,.string ⟨#[32,47,47,32,10]⟩] 9))):=zz (HK3.out.alloc _);have HKV:Hid (Keeps No wr (wd.alloc (.cells #[.string ⟨#[32]⟩,.string ⟨#[10]⟩,.string ⟨#[32,47,42,42,47]⟩,.string ⟨#[32,47,47,32,10]⟩] 9))):=zz (HKW.out.alloc _);refine Mix.mix_two 7 11 5 (by kernel_rfl) rfl rfl rfl ?_ ?_
      case' refine_1 =>
       simp only [zp1,zp2,zp3,zp4];go_wp2_with fail;refine ⟨.inr ⟨⟨_,HKV.out⟩,rfl⟩,?_⟩;refine Mix.mix_one 11 4 (by kernel_rfl) rfl rfl ?_;simp only [zp1,zp2,zp3,zp4];go_wp2_with fail;refine (HLO.out _).mono ?_;rintro e w9 ⟨rfl,rfl⟩;go_wp2_with fail;refine ⟨.inr ⟨⟨_,HKV.out⟩,rfl⟩,?_⟩
      case' refine_2 =>
       simp only [zp1,zp2,zp3,zp4];go_wp2_with fail;refine (HLO.out _).mono ?_;rintro e w9 ⟨rfl,rfl⟩;go_wp2_with fail;refine ⟨.inr ⟨⟨_,HKW.out⟩,rfl⟩,?_⟩;refine Mix.mix_one 7 4 (by kernel_rfl) rfl rfl ?_;simp only [zp1,zp2,zp3,zp4];go_wp2_with fail;refine ⟨.inr ⟨⟨_,HKV.out⟩,rfl⟩,?_⟩
      all_goals
       have hc:=HAR.out;refine Mix.mix_one 12 3 (by kernel_rfl) rfl rfl ?_;simp only [zp1,zp2,zp3,zp4];go_wp2_with fail;refine ⟨.inr ⟨⟨_,HKV.out⟩,rfl⟩,?_⟩;refine Mix.mix_one 13 2 (by kernel_rfl) rfl rfl ?_;simp only [zp1,zp2,zp3,zp4];go_wp2_with fail;refine ⟨.inr ⟨⟨_,HKV.out⟩,rfl⟩,?_⟩;refine Mix.mix_one 14 1 (by kernel_rfl) rfl rfl ?_;simp only [zp1,zp2,zp3,zp4];go_wp2_with fail;refine ⟨.inr ⟨⟨_,HKV.out⟩,rfl⟩,?_⟩;refine Mix.mix_one 15 0 (by kernel_rfl) rfl rfl ?_;simp only [zp1,zp2,zp3,zp4];go_wp2_with fail;refine ⟨.inr ⟨⟨_,HKV.out⟩,rfl⟩,?_⟩;refine Mix.mix_end (by kernel_rfl) ?_;clear hc;generalize wd.alloc (.cells #[.string ⟨#[32]⟩,.string ⟨#[10]⟩,.string ⟨#[32,47,42,42,47]⟩,.string ⟨#[32,47,47,32,10]⟩] 9)=w6 at HK5 ⊢;go_wp2_with fail;go_roundg (N - (i+1))
       case rel=>exact ⟨_,i+1,rfl,by go_num,by omega,rfl,HNX,HK5⟩
       case measure=>omega
    · obtain rfl:i=N:=by omega
      have hlt':¬ (i:Int) < (i:Int):=by omega
      rw [List.take_of_length_le (by rw [HN.out]; exact Nat.le_refl _)] at HA;obtain ⟨hd1,hd2⟩:=L.gaps_dump s A (L.gG g0) (L.gG_mem g0) hs tl HT.out HC.out HA.out;obtain ⟨⟨t,c,p⟩,hx⟩:∃ x,Sy.dumpM s=x:=⟨_,rfl⟩;obtain ⟨⟨t2,c2,p2⟩,hy⟩:∃ x,Sy.dumpM A=x:=⟨_,rfl⟩;rw [hx,hy] at hd1 hd2;simp only at hd1 hd2;subst hd1 hd2;have HD1:=zz (fun W hW=>dump_to s t c p hx (Sy.parseOk_any s (by omega)) W hW);have HD2:=zz (fun W hW=>dump_to A t c p2 hy (Sy.parseOk_any A (by omega)) W hW);have HKX:=zz (HK2.out.trans HW.out (fun _ _ e=>e));clear hx hy HA HW HC HT hAs;go_wp2_with fail;refine (HD1.out wr (HL.out.no HKX.out)).mono ?_;rintro e' w3 ⟨rfl,hk3⟩;go_upto_region 12 with fail
      have hn4:(w3.alloc (.cells #[.int .i64 c,.int .i64 p] 25)).heap[w3.heap.size]?=some (.cells #[.int .i64 c,.int .i64 p] 25 (0,0)):=heap_alloc_new _ _;have hk4:Keeps No w3 (w3.alloc (.cells #[.int .i64 c,.int .i64 p] 25)):=(Keeps.refl _ _).alloc _;generalize w3.alloc (.cells #[.int .i64 c,.int .i64 p] 25)=w4 at hn4 hk4 ⊢;obtain ⟨R1,hR1⟩:∃ q,w3.heap.size=q:=⟨_,rfl⟩;rw [hR1] at hn4 ⊢;have HR4:=zz hn4;have HK4:=zz ((HKX.out.trans hk3 (fun _ _ e=>e)).trans hk4 (fun _ _ e=>e));clear hR1 hn4 hk4 hk3;go_wp2_with fail;refine (HD2.out w4 (HL.out.no HK4.out)).mono ?_;rintro e' w5 ⟨rfl,hk5⟩;go_upto_region 13 with fail
      have hn6:(w5.alloc (.cells #[.int .i64 c,.int .i64 p2] 25)).heap[w5.heap.size]?=some (.cells #[.int .i64 c,.int .i64 p2] 25 (0,0)):=heap_alloc_new _ _;have hk6:Keeps No w5 (w5.alloc (.cells #[.int .i64 c,.int .i64 p2] 25)):=(Keeps.refl _ _).alloc _;generalize w5.alloc (.cells #[.int .i64 c,.int .i64 p2] 25)=w6 at hn6 hk6 ⊢;obtain ⟨R2,hR2⟩:∃ q,w5.heap.size=q:=⟨_,rfl⟩;rw [hR2] at hn6 ⊢;have y0:w6.cell? ⟨R2,0,none⟩=some (.int .i64 c):=by rw [cell_of_row w6 R2 0 _ _ _ hn6]; rfl
      have x0:w6.cell? ⟨R1,0,none⟩=some (.int .i64 c):=by rw [cell_of_row w6 R1 0 _ _ _ (wrong_kept hk6 (wrong_kept hk5 HR4.out))]; rfl
      have HK6:=zz ((HK4.out.trans hk5 (fun _ _ e=>e)).trans hk6 (fun _ _ e=>e));have HAW:=zz (awake_any w6 (HL.out.no HK6.out));clear hR2 hn6 hk6 hk5;go_wp2_with fail;refine HAW.out.mono ?_;rintro e' w9 ⟨rfl,hk9⟩;have HK9:=zz (HK6.out.trans hk9 (fun _ _ e=>e));clear hk9 x0 y0;go_wp2_with fail;go_returns;exact ⟨rfl,HK9.out⟩
 · rw [hL] at HRT;have hc1:(c != 0)=true:=bne_iff_ne.2 hc;have HC1:=zz hc1;clear hL hc hc1 h600;go_enter Tryz.func4,Tryz.ntmps4;go_wp2_with fail;refine HRT.out.mono ?_;rintro e w1 ⟨va,rfl,hown,hb⟩;simp only at hown;obtain ⟨aa,ca,rfl⟩:∃ aa ca,va=.slice aa 0 ca:=by
    rcases hown.2 with ⟨h1,h2⟩ | ⟨g,cap,cur,h1,_⟩
    · exact ⟨none,0,h1⟩
    · exact ⟨_,_,h1⟩
   have HK1:=zz (Keeps.of_below hb);clear hown hb;go_upto_region 4 with fail
   have hn2:(w1.alloc (.cells #[.int .i64 c,.int .i64 p] 25)).heap[w1.heap.size]?=some (.cells #[.int .i64 c,.int .i64 p] 25 (0,0)):=heap_alloc_new _ _;have HK2:=zz (HK1.out.alloc (.cells #[.int .i64 c,.int .i64 p] 25));generalize w1.alloc (.cells #[.int .i64 c,.int .i64 p] 25)=w2 at hn2 HK2 ⊢;obtain ⟨R,hR⟩:∃ q,w1.heap.size=q:=⟨_,rfl⟩;rw [hR] at hn2 ⊢;have x0:w2.cell? ⟨R,0,none⟩=some (.int .i64 c):=by rw [cell_of_row w2 R 0 _ _ _ hn2]; rfl
   have hc1:=HC1.out;have HAW:=zz (awake_any w2 (HL.out.no HK2.out));clear hR hn2;go_wp2_with fail;refine HAW.out.mono ?_;rintro e' w9 ⟨rfl,hk9⟩;have HK9:=zz (HK2.out.trans hk9 (fun _ _ e=>e));clear hk9 x0;go_wp2_with fail;go_returns;exact ⟨rfl,HK9.out⟩
end Go.Proofs.YtflbkdfbjofllaaGreatDoor
