import Derived.Below
import Derived.ChangeSlices
import Derived.ChangeSame
import Derived.RowKit
import Derived.WalkKit
import Derived.ProofKit
import Derived.OpenShut
import Derived.Test.YtjgkacggjhobmaaGreatDoorLyPkT
set_option maxRecDepth 100000
set_option maxHeartbeats 25600000
set_option linter.unusedSimpArgs false
set_option linter.unusedVariables false
namespace Go.Proofs.YtjgkacggjhobmaaGreatDoor
open Go.RowKit Go.WideShapes Go.ChangeShapes
structure IntsIn (w:World) (a:Option Addr) (n:Nat) (z:Nat→Int):Prop where
 len:n≤9223372036854775807
 at_:0 < n→∃ b off,a=some ⟨b,off,none⟩∧∀ i,i < n→w.cell? ⟨b,off+i,none⟩=some (.int .i64 (z i))
 bd:∀ i,i < n→-9223372036854775808≤z i∧z i≤9223372036854775807
theorem intsIn_nil (w:World):IntsIn w none 0 (fun _=>0):=⟨by omega,fun h=>absurd h (by omega),fun i h=>absurd h (by omega)⟩
theorem wf_bd {z:Int} (h:(Lit.int .i64 z).wf=true):-9223372036854775808≤z∧z≤9223372036854775807:=by
 have h1:IntKind.i64.min=-9223372036854775808:=rfl;have h2:IntKind.i64.max=9223372036854775807:=rfl;simp [Lit.wf] at h;omega
theorem intsIn_some {w:World} {a:Addr} {len cap:Nat} {zs:List Int} (hl:len≤cap) (hm:cap≤maxLen) (hz:zs.length=cap) (hcell:∀ i,i < zs.length→w.cell? (a.add i)=some (.int .i64 (zs.getD i 0))) (hw:∀ n∈zs,(Lit.int .i64 n).wf=true) :
    IntsIn w (some a) len (fun i=>zs.getD i 0):=by
 refine ⟨by unfold maxLen at hm; omega,fun h=>?_,fun i hi=>?_⟩
 · obtain ⟨b,off,spot⟩:=a;have hspot:spot=none:=by simpa [Addr.add] using World.cell?_spot (hcell 0 (by omega))
   subst hspot;exact ⟨b,off,rfl,fun i hi=>by rw [← add_plain]; exact hcell i (by omega)⟩
 · refine wf_bd (hw _ ?_);have hi':i < zs.length:=by omega
   rw [List.getD_eq_getElem?_getD,List.getElem?_eq_getElem hi'];exact List.getElem_mem hi'
theorem ints_again {H:Type} {enc:TypeId × Value→H} {P:Program} {W u:World} {t e:TypeId} {a:Addr} {len cap:Nat} {zs:List Int} (ht:P.underlying t=some (.slice e)) (he:P.underlying e=some (.int .i64)) (hc:P.cellsOf e=1)
    (hl:len≤cap) (hm:cap≤maxLen) (hz:zs.length=cap) (hcell:∀ i,i < zs.length→W.cell? (a.add i)=some (.int .i64 (zs.getD i 0))) (hw:∀ n∈zs,(Lit.int .i64 n).wf=true) (hb:Below W.heap.size W u)
    (sp:Nat→Bool) (hsp:∀ p∈MemPlace.row a zs.length,sp p.block=true) :
    DataW.Trod enc P u 0 sp true t (.slice (some a) len cap) (.slice (lits .i64 (zs.take len)) (lits .i64 (zs.drop len))) (MemPlace.row a zs.length):=by
 have hblk:∀ i,(a.add i).block=a.block:=fun i=>by simp [Addr.add]; (try split) <;> rfl
 refine ⟨2,shut_ints 0 ht he hc (Nat.zero_le _) hl hm ?_ (fun i hi=>?_) hw⟩
 · by_cases h0:zs.length=0
   · split <;> omega
   · have hs:sp a.block=true:=hsp (.cell a.block (a.off+0)) (MemPlace.mem_row.2 ⟨0,by omega,rfl⟩);rw [if_pos hs]; exact hz
 · rw [hb.cell (p:=a.add i) (block_lt_of_cell (hcell i hi))]; exact hcell i hi
end Go.Proofs.YtjgkacggjhobmaaGreatDoor
namespace Go.Proofs.YtjgkacggjhobmaaGreatDoor
open Go.RowKit Go.Maps Lx Sy
theorem digits_any {n:Nat} (h1:1≤n) (h2:n < 100) (w:World):Calls Tryz.prog 8 #[.int .u64 (n:Int)] w fun e w'=>e=.returned (.string (tx (nB n)))∧Keeps No w w':=by
 go_enter Tryz.func8,Tryz.ntmps8;go_wp2_with fail;go_loopg [0,3] n (fun gg u v wr=>∃ (a:Nat) (S:ByteArray),u=.int .u64 (a:Int)∧v=.string S∧a=gg∧Hid (Keeps No w wr∧(a=n∧S=⟨#[]⟩∨10≤n∧a=n / 10∧S=tx [UInt8.ofNat (48+n % 10)]∨a=0∧S=tx (nB n))))
 case atStart=>exact ⟨n,_,rfl,rfl,rfl,zz ⟨Keeps.refl _ _,.inl ⟨rfl,rfl⟩⟩⟩
 case round =>
  obtain ⟨a,S,rfl,rfl,rfl,HR⟩:=hrel;by_cases h0:a=0
  · have hS:S=tx (nB n):=by
     rcases HR.out.2 with ⟨h,_⟩ | ⟨_,h,_⟩ | ⟨_,h⟩
     · omega
     · omega
     · exact h
    have hne:S.toList.isEmpty=false:=by
     rw [hS,Lib.toList_data];unfold nB;split <;> rfl
    have HS:=zz hS;clear hS;subst h0;go_wp2_with fail;go_returns;exact ⟨congrArg (fun b=>Ending.returned (Value.string b)) HS.out,HR.out.1⟩
  · obtain ⟨q,hq⟩:∃ q,a / 10=q:=⟨_,rfl⟩;obtain ⟨r,hr⟩:∃ r,a % 10=r:=⟨_,rfl⟩;have hb:a < 100:=by rcases HR.out.2 with ⟨h,_⟩ | ⟨_,h,_⟩ | ⟨h,_⟩ <;> omega
    have hqd:Int.tdiv (a:Int) 10=(q:Int):=by rw [Int.tdiv_eq_ediv_of_nonneg (by omega)]; omega
    have hrd:Int.tmod (a:Int) 10=(r:Int):=by rw [Int.tmod_eq_emod_of_nonneg (by omega)]; omega
    have hr9:(r:Int)≤9:=by omega
    have hr0:(0:Int)≤(r:Int):=by omega
    have hq9:(q:Int)≤9:=by omega
    have ha0:(0:Int) < (a:Int):=by omega
    have ha1:(a:Int)≤99:=by omega
    obtain ⟨D,hD⟩:∃ b,tx [UInt8.ofNat (48+r)]=b:=⟨_,rfl⟩;have kc:(convert 28 9 (.slice (some ⟨wr.heap.size,0,none⟩) 1 1)).run Tryz.prog (wr.alloc (.cells #[.int .u8 (48+(r:Int))] 5))=.ok (.string D) (wr.alloc (.cells #[.int .u8 (48+(r:Int))] 5)):=by
     have e1:((48+r:Nat):Int)=48+(r:Int):=by omega
     have hrow:(wr.alloc (.cells #[.int .u8 (48+(r:Int))] 5)).heap[wr.heap.size]?=some (.cells #[.int .u8 (48+(r:Int))] 5 (0,0)):=heap_alloc_new _ _;rw [← hD];exact conv_one _ wr.heap.size (48+r) (by omega) (by rw [e1]; exact hrow)
    have hDs:D.size≤1:=by rw [← hD]; exact Nat.le_refl 1
    have hSs:S.size≤2:=by
     rcases HR.out.2 with ⟨_,h⟩ | ⟨_,_,h⟩ | ⟨_,h⟩ <;> rw [h]
     · exact Nat.zero_le _
     · exact (by decide:1≤2)
     · exact (nB_len n).2
    have HQ:=zz hq;have HRr:=zz hr;have HD:=zz hD;clear hq hr hD;go_wp2_with fail;go_roundg q
    case measure=>have:=HQ.out; omega
    case rel =>
     refine ⟨q,_,rfl,rfl,rfl,zz ⟨HR.out.1.alloc _,?_⟩⟩;rcases HR.out.2 with ⟨h,hs⟩ | ⟨h9,h,hs⟩ | ⟨h,_⟩
     · rw [hs,← HD.out,← HRr.out,← HQ.out,h];by_cases h10:n < 10
       · refine .inr (.inr ⟨by omega,?_⟩);unfold nB;rw [if_pos h10,Nat.mod_eq_of_lt h10]; rfl
       · exact .inr (.inl ⟨by omega,rfl,rfl⟩)
     · rw [hs,← HD.out,← HRr.out,← HQ.out,h];refine .inr (.inr ⟨by omega,?_⟩);unfold nB;rw [if_neg (by omega),Nat.mod_eq_of_lt (show n / 10 < 10 by omega)]; rfl
     · omega
def lowN (x n:Int):Nat:=(IntKind.u64.wrap x % n).toNat
theorem lowN_eq (x:Int) {n:Int} (hn:1≤n):IntKind.u64.wrap x % n=(lowN x n:Int)∧(lowN x n:Int) < n:=by
 obtain ⟨k,h1,h2⟩:=low_nat x n hn;unfold lowN;omega
theorem low_as {x n:Int} (hx:I64 x) (hn:1≤n∧n≤4611686018427387904) (w:World):Calls Tryz.prog 7 #[.int .i64 x,.int .i64 n] w fun e w'=>e=.returned (.int .i64 (lowN x n:Int))∧Keeps No w w':=by
 have:=low_any x n hx hn w;rwa [(lowN_eq x hn.1).1] at this
def fnum (x:Int):Nat:=if lowN (x.tdiv 10) 3=1 then 1+lowN (x.tdiv 30) 50 else 0
theorem fnum_most (x:Int):fnum x≤50:=by
 have:=(lowN_eq (x.tdiv 30) (n:=50) (by decide)).2;unfold fnum;split <;> omega
def fldI (v:Nat→Int) (i:Nat):Fld:=⟨lowN (v i) 10,[102,UInt8.ofNat (97+i)],fnum (v i)⟩
def fsI (v:Nat→Int) (n:Nat):List Fld:=(List.range n).map (fldI v)
theorem fsI_take (v:Nat→Int) {i n:Nat} (h:i≤n):(fsI v n).take i=fsI v i:=by
 unfold fsI; rw [← List.map_take,List.take_range,Nat.min_eq_left h]
theorem fsI_at (v:Nat→Int) {i n:Nat} (h:i < n):(fsI v n)[i]?=some (fldI v i):=by
 unfold fsI; rw [List.getElem?_map,List.getElem?_range h]; rfl
theorem fsI_succ (v:Nat→Int) (i:Nat):fsI v (i+1)=fsI v i++[fldI v i]:=by
 unfold fsI; rw [List.range_succ,List.map_append]; rfl
theorem fsI_len (v:Nat→Int) (n:Nat):(fsI v n).length=n:=by unfold fsI; rw [List.length_map,List.length_range]
theorem fld_k (v:Nat→Int) (i:Nat):(fldI v i).k < 10:=by have:=(lowN_eq (v i) (n:=10) (by decide)).2; show lowN (v i) 10 < 10; omega
theorem fld_ok (v:Nat→Int) {i:Nat} (h:i < 12):(fldI v i).ok=true:=by
 have hm:=fnum_most (v i);have hd:decide (fnum (v i) < 100)=true:=decide_eq_true (by omega);show (nmB [102,UInt8.ofNat (97+i)]&&(!wordL [102,UInt8.ofNat (97+i)]&&decide (fnum (v i) < 100)))=true;rw [hd];have hc:i=0∨i=1∨i=2∨i=3∨i=4∨i=5∨i=6∨i=7∨i=8∨i=9∨i=10∨i=11:=by omega
 rcases hc with rfl | rfl | rfl | rfl | rfl | rfl | rfl | rfl | rfl | rfl | rfl | rfl <;> rfl
theorem fsI_ok (v:Nat→Int) {n:Nat} (h:n≤12):(fsI v n).all Fld.ok=true:=by
 rw [List.all_eq_true];intro f hf;obtain ⟨i,hi⟩:=List.mem_iff_getElem?.1 hf;have hl:=(List.getElem?_eq_some_iff.1 hi).1;rw [fsI_len] at hl;rw [fsI_at v hl] at hi;injection hi with hi;rw [← hi]; exact fld_ok v (by omega)
theorem fsI_ks (v:Nat→Int) {n:Nat}:∀ g∈fsI v n,g.k < 10:=by
 intro f hf;obtain ⟨i,_,rfl⟩:=List.mem_map.1 hf;exact fld_k v i
def tI (v:Nat→Int) (i:Nat):ByteArray:=tx ([115,116,114,117,99,116,32,97,32,123]++((fsI v i).flatMap (fun f=>32::fB f)++[32]))
theorem tI_zero (v:Nat→Int):tI v 0=⟨#[115,116,114,117,99,116,32,97,32,123,32]⟩:=rfl
theorem tx_eq {a:ByteArray} {l:List UInt8} (h:a.data.toList=l):a=tx l:=by
 subst h; rfl
theorem tI_no (v:Nat→Int) {i:Nat} (h:fnum (v i)=0):(((tI v i++tx (wB (lowN (v i) 10)))++⟨#[32,102]⟩)++tx [UInt8.ofNat (97+i)])++⟨#[59,32]⟩=tI v (i+1):=by
 refine tx_eq ?_;unfold tI;rw [fsI_succ,List.flatMap_append];have e:fB (fldI v i)=wB (lowN (v i) 10)++32::([102,UInt8.ofNat (97+i)]++([]++[59])):=by unfold fB fldI; simp only [h,if_true]
 simp [ByteArray.data_append,e,tx]
theorem tI_yes (v:Nat→Int) {i:Nat} (h:¬ fnum (v i)=0):((((((tI v i++tx (wB (lowN (v i) 10)))++⟨#[32,102]⟩)++tx [UInt8.ofNat (97+i)])++⟨#[91]⟩)++tx (nB (fnum (v i))))++⟨#[93]⟩)++⟨#[59,32]⟩=tI v (i+1):=by
 refine tx_eq ?_;unfold tI;rw [fsI_succ,List.flatMap_append];have e:fB (fldI v i)=wB (lowN (v i) 10)++32::([102,UInt8.ofNat (97+i)]++((91::(nB (fnum (v i))++[93]))++[59])):=by unfold fB fldI; simp only [h,if_false]
 simp [ByteArray.data_append,e,tx]
theorem tI_end (v:Nat→Int) (n:Nat):(tI v n++⟨#[125,59]⟩).data.toList=stB [97] (fsI v n):=by
 unfold tI stB;simp [ByteArray.data_append,tx]
theorem tI_size (v:Nat→Int):∀ {i:Nat},i≤12→(tI v i).size≤11+60 * i:=by
 intro i
 induction i with
 | zero=>intro _; exact Nat.le_refl _
 | succ i ih =>
   intro h;have h0:=ih (by omega);have h1:=field_len (fld_ok v (i:=i) (by omega));have e:∀ j,(tI v j).size=([115,116,114,117,99,116,32,97,32,123]++((fsI v j).flatMap (fun f=>32::fB f)++[32])).length:=fun j=>rfl
   rw [e] at h0 ⊢;rw [fsI_succ,List.flatMap_append];simp only [List.length_append,List.flatMap_cons,List.flatMap_nil,List.append_nil,List.length_cons] at h0 ⊢;omega
theorem tsz_same {z:Int × Int} {k:Nat} (h:k < 10):(tsz z k).2=(tsz z k).1:=by
 unfold tsz;split
 · rfl
 · first | rfl | (rw [if_pos h])
theorem tsz_b {k:Nat} (h:k < 10):1≤(tsz (1,1) k).1∧(tsz (1,1) k).1≤8:=by
 have hc:k=0∨k=1∨k=2∨k=3∨k=4∨k=5∨k=6∨k=7∨k=8∨k=9:=by omega
 rcases hc with rfl | rfl | rfl | rfl | rfl | rfl | rfl | rfl | rfl | rfl <;> decide
theorem acc_l {z:Int × Int} (fs:List Fld):∀ (r:Ac) (i:Nat) (f:Fld),fs[i]?=some f→(fs.foldl (stepF z) r).l[r.l.length+i]?=some ⟨vrF f,(((fs.take i).foldl (stepF z) r).s+(tsz z f.k).2 - 1) / (tsz z f.k).2 * (tsz z f.k).2,fsz z f⟩:=by
 induction fs with
 | nil=>intro r i f h; simp at h
 | cons g t ih =>
   intro r i f h;have hl:(stepF z r g).l.length=r.l.length+1:=by unfold stepF; simp
   cases i with
   | zero =>
     simp at h; subst h;rw [List.foldl_cons];have hp:∀ (t:List Fld) (r:Ac),∃ m,(t.foldl (stepF z) r).l=r.l++m:=by
      intro t
      induction t with
      | nil=>intro r; exact ⟨[],by simp⟩
      | cons a t ih=>intro r; obtain ⟨m,hm⟩:=ih (stepF z r a); exact ⟨_,by rw [List.foldl_cons,hm]; unfold stepF; rw [List.append_assoc]⟩
     obtain ⟨m,hm⟩:=hp t (stepF z r g);rw [hm];unfold stepF;simp
   | succ i =>
     have:=ih (stepF z r g) i f (by simpa using h);rw [hl] at this;rw [List.foldl_cons,show r.l.length+(i+1)=r.l.length+1+i by omega,this]; rfl
theorem acc_at {z:Int × Int} {fs:List Fld} {i:Nat} {f:Fld} (h:fs[i]?=some f):(accF z fs).l[i]?=some ⟨vrF f,((accF z (fs.take i)).s+(tsz z f.k).2 - 1) / (tsz z f.k).2 * (tsz z f.k).2,fsz z f⟩:=by
 have:=acc_l (z:=z) fs ⟨0,1,[]⟩ i f h;rwa [show (⟨0,1,[]⟩:Ac).l.length+i=i from Nat.zero_add i] at this
def jO (k:Nat):Nat:=if k < 8 then k else if k=8 then 0 else 8
def sO (k:Nat):Nat:=if k < 8 then 0 else 1
theorem jO_b {k:Nat} (h:k < 10):jO k < 11∧sO k≤1:=by unfold jO sO; split <;> (try split) <;> omega
theorem dmB_ty {k:Nat} (h:k < 10):dmB k=tyS (jO k) (sO k):=by
 have hc:k=0∨k=1∨k=2∨k=3∨k=4∨k=5∨k=6∨k=7∨k=8∨k=9:=by omega
 rcases hc with rfl | rfl | rfl | rfl | rfl | rfl | rfl | rfl | rfl | rfl <;> rfl
theorem szIs_k {ks:List Kn} {k:Nat} (h:k < 10):SzIs ks (bsK (jO k)) (sO k:Nat) (tsz (1,1) k).1:=by
 by_cases h8:k < 8
 · have e1:jO k=k:=if_pos h8;have e2:sO k=0:=if_pos h8;have e3:(tsz (1,1) k).1=wdK k / 8:=by unfold tsz; rw [if_pos h8]
   rw [e1,e2,e3]; exact szIs_int h8
 · have e2:sO k=1:=if_neg h8;have e3:(tsz (1,1) k).1=8:=by unfold tsz; rw [if_neg h8,if_pos h]
   rw [e2,e3];have hj:jO k < 10:=by unfold jO; rw [if_neg h8]; split <;> omega
   first | exact szIs_ptr hj | (obtain ⟨al,hs⟩:=szIs_ptr (ks:=ks) hj; exact ⟨al,hs⟩)
structure FN (E M N1 AT SZ NUM E2 M2:Int):Prop where
 e:0≤E∧E≤1300000
 m:1≤M∧M≤8
 n:1≤N1∧N1≤8
 num:0≤NUM∧NUM≤50
 md:AT.tmod N1=0
 ge:E≤AT
 lt:AT - E < N1
 sz:N1 * max NUM 1=SZ
 szb:1≤SZ∧SZ≤400
 e2:AT+SZ=E2
 m2:max M N1=M2
theorem zok1:Zok (1,1):=by unfold Zok; decide
theorem acc_b (z:Nat→Int) {i:Nat} (hi:i≤12):0≤(accF (1,1) (fsI z i)).s∧(accF (1,1) (fsI z i)).s≤1300000∧1≤(accF (1,1) (fsI z i)).a∧(accF (1,1) (fsI z i)).a≤8∧(accF (1,1) (fsI z i)).l.length=i:=by
 have hf:∀ f∈fsI z i,f.num < 100:=by
  intro f hf;obtain ⟨j,_,rfl⟩:=List.mem_map.1 hf;have:=fnum_most (z j);show fnum (z j) < 100;omega
 obtain ⟨h1,h2,h3,h4,h5⟩:=acc_take zok1 hf i (by rw [fsI_len]; omega);rw [fsI_take z (Nat.le_refl i)] at h1 h2 h3 h4 h5;exact ⟨h1,by omega,h3,h4,h5⟩
theorem fld_nums (z:Nat→Int) {i n:Nat} (hi:i < n) (hn:n≤12):∃ AT SZ:Int,(placeK (1,1) [97] (fsI z n)).fields[i]?=some ⟨vrF (fldI z i),AT,SZ⟩ ∧
    FN (accF (1,1) (fsI z i)).s (accF (1,1) (fsI z i)).a (tsz (1,1) (lowN (z i) 10)).1 AT SZ (fnum (z i):Int) (accF (1,1) (fsI z (i+1))).s (accF (1,1) (fsI z (i+1))).a:=by
 have hk:lowN (z i) 10 < 10:=fld_k z i;have hs:=acc_step (z:=(1,1)) (fsI_at z hi);rw [fsI_take z (Nat.succ_le_of_lt hi),fsI_take z (Nat.le_of_lt hi)] at hs;have ha:=acc_at (z:=(1,1)) (fsI_at z hi);rw [fsI_take z (Nat.le_of_lt hi)] at ha;have e0:(tsz (1,1) (fldI z i).k).2=(tsz (1,1) (lowN (z i) 10)).1:=tsz_same hk;rw [e0] at ha;have hb:=tsz_b hk;have hacc:=acc_b z (i:=i) (by omega);have hm:=fnum_most (z i);have hu:=up_ok (n:=(accF (1,1) (fsI z i)).s) (a:=(tsz (1,1) (lowN (z i) 10)).1) hacc.1 hb;have hu2:((accF (1,1) (fsI z i)).s+(tsz (1,1) (lowN (z i) 10)).1 - 1) / (tsz (1,1) (lowN (z i) 10)).1 * (tsz (1,1) (lowN (z i) 10)).1≤(accF (1,1) (fsI z i)).s+(tsz (1,1) (lowN (z i) 10)).1 - 1:=Int.ediv_mul_le _ (by omega);have hsz:(tsz (1,1) (lowN (z i) 10)).1 * max (fnum (z i):Int) 1=fsz (1,1) (fldI z i):=by
  show _=if fnum (z i)=0 then (tsz (1,1) (lowN (z i) 10)).1 else (tsz (1,1) (lowN (z i) 10)).1 * (fnum (z i):Int)
  split
  · next h=>rw [h]; show _ * max (0:Int) 1=_; rw [show max (0:Int) 1=1 by decide,Int.mul_one]
  · next h=>rw [show max (fnum (z i):Int) 1=(fnum (z i):Int) by omega]
 have hszb:1≤fsz (1,1) (fldI z i)∧fsz (1,1) (fldI z i)≤400:=by
  rw [← hsz];have h1:1≤max (fnum (z i):Int) 1∧max (fnum (z i):Int) 1≤50:=by omega
  have p1:1 * 1≤(tsz (1,1) (lowN (z i) 10)).1 * max (fnum (z i):Int) 1:=Int.mul_le_mul hb.1 h1.1 (by omega) (by omega);have p2:(tsz (1,1) (lowN (z i) 10)).1 * max (fnum (z i):Int) 1≤8 * 50:=Int.mul_le_mul hb.2 h1.2 (by omega) (by omega);omega
 refine ⟨_,_,ha,⟨⟨hacc.1,hacc.2.1⟩,⟨hacc.2.2.1,hacc.2.2.2.1⟩,hb,⟨by omega,by omega⟩,?_,hu.1,by omega,hsz,hszb,?_,?_⟩⟩
 · rw [Int.tmod_eq_emod_of_nonneg (by omega)]; exact Int.mul_emod_left _ _
 · rw [hs]; show _=_ / (tsz (1,1) (fldI z i).k).2 * (tsz (1,1) (fldI z i).k).2+fsz (1,1) (fldI z i); rw [e0]
 · rw [hs]; show _=max _ (tsz (1,1) (fldI z i).k).2; rw [e0]
theorem acc_c (z:Nat→Int):∀ {i:Nat},i≤12→(accF (1,1) (fsI z i)).s≤410 * (i:Int):=by
 intro i
 induction i with
 | zero=>intro _; show (0:Int)≤_; omega
 | succ i ih =>
   intro h;have h0:=ih (by omega);obtain ⟨AT,SZ,_,hf⟩:=fld_nums z (i:=i) (n:=i+1) (by omega) h;have:=hf.e2;have:=hf.lt;have:=hf.n;have:=hf.szb;omega
theorem last_nums (z:Nat→Int) {n:Nat} (hn:n≤12):∃ SA E M:Int,(placeK (1,1) [97] (fsI z n)).size=SA∧(placeK (1,1) [97] (fsI z n)).align=M∧(accF (1,1) (fsI z n)).s=E∧(accF (1,1) (fsI z n)).a=M∧(placeK (1,1) [97] (fsI z n)).fields.length=n ∧
    (0≤E∧E≤5000)∧(1≤M∧M≤8)∧SA.tmod M=0∧E≤SA∧SA - E < M:=by
 obtain ⟨h1,h2,h3,h4,h5⟩:=acc_b z hn;have hu:=up_ok (n:=(accF (1,1) (fsI z n)).s) (a:=(accF (1,1) (fsI z n)).a) h1 ⟨h3,h4⟩;have hu2:((accF (1,1) (fsI z n)).s+(accF (1,1) (fsI z n)).a - 1) / (accF (1,1) (fsI z n)).a * (accF (1,1) (fsI z n)).a≤(accF (1,1) (fsI z n)).s+(accF (1,1) (fsI z n)).a - 1:=Int.ediv_mul_le _ (by omega);refine ⟨_,_,_,rfl,rfl,rfl,rfl,h5,⟨h1,by have:=acc_c z hn; omega⟩,⟨h3,h4⟩,?_,hu.1,?_⟩
 · show Int.tmod (_ / _ * _) _=0;rw [Int.tmod_eq_emod_of_nonneg (by omega)]; exact Int.mul_emod_left _ _
 · show _ / _ * _ - _ < (accF (1,1) (fsI z n)).a; omega
theorem tdiv_b {X:Int} (h:-9223372036854775808≤X∧X≤9223372036854775807):(-9223372036854775808≤X.tdiv 10∧X.tdiv 10≤9223372036854775807)∧-9223372036854775808≤X.tdiv 30∧X.tdiv 30≤9223372036854775807:=by
 by_cases h0:0≤X
 · rw [Int.tdiv_eq_ediv_of_nonneg h0,Int.tdiv_eq_ediv_of_nonneg h0]; omega
 · obtain ⟨Y,rfl⟩:∃ Y,X=-Y:=⟨-X,by omega⟩;rw [Int.neg_tdiv,Int.neg_tdiv,Int.tdiv_eq_ediv_of_nonneg (by omega),Int.tdiv_eq_ediv_of_nonneg (by omega)]; omega
theorem fields_walk (a:Option Addr) (n cap:Nat) (z:Nat→Int) (w:World) (hI:IntsIn w a n z) (hl:LaidP w):Calls Tryz.prog 3 #[.slice a n cap] w fun e w'=>e=.returned (.bool true)∧Keeps No w w':=by
 have HI:=zz hI;have HL:=zz hl;clear hI hl;have hnl:=HI.out.len;by_cases h12:12 < n
 · have h12i:(12:Int) < (n:Int):=by omega
   go_enter Tryz.func3,Tryz.ntmps3;go_wp2_with fail;refine (awake_any _ HL.out).mono ?_;rintro e w1 ⟨rfl,hk⟩;go_wp2_with fail;go_returns;exact ⟨rfl,hk⟩
 by_cases hn0:n=0
 · subst hn0;go_enter Tryz.func3,Tryz.ntmps3;go_wp2_with fail;refine (awake_any _ HL.out).mono ?_;rintro e w1 ⟨rfl,hk⟩;go_wp2_with fail;go_returns;exact ⟨rfl,hk⟩
 have hn12:(n:Int)≤12:=by omega
 have hn1:(1:Int)≤(n:Int):=by omega
 obtain ⟨b,off,hab,hz⟩:=HI.out.at_ (by omega);have HZ:=zz hz;have HBD:=zz HI.out.bd;subst hab;clear hnl h12 hn0 hz HI;have hb1:decide ((12:Int) < (n:Int))=false:=decide_eq_false (by omega);have hb2:((n:Int)==0)=false:=by rw [beq_eq_false_iff_ne]; omega
 go_enter Tryz.func3,Tryz.ntmps3;go_wp2_with fail;refine (types_any w).mono ?_;clear hb1 hb2;rintro e w1 ⟨ga,gb,rfl,hty,hk1⟩;have HTY:=zz hty;have HK1:=zz hk1;clear hty hk1;go_wp2_with fail;go_loopg [5,6] n (fun gg u v wr=>∃ (i:Nat) (T:ByteArray),u=.string T∧v=.int .i64 (i:Int)∧i≤n∧gg=n - i∧Hid (T=tI z i∧Keeps No w1 wr))
 case atStart=>exact ⟨0,_,rfl,rfl,by omega,by omega,zz ⟨(tI_zero z).symm,Keeps.refl _ _⟩⟩
 case round =>
  obtain ⟨i,T,rfl,rfl,hi,rfl,HR⟩:=hrel;by_cases hlt:i < n
  · have hlt1:(i:Int) < (n:Int):=by omega
    have hi0:(0:Int)≤(i:Int):=by omega
    obtain ⟨X,hX⟩:∃ X,z i=X:=⟨_,rfl⟩;obtain ⟨k,hk⟩:∃ k,lowN X 10=k:=⟨_,rfl⟩;have hk10:k < 10:=by rw [← hk]; have:=(lowN_eq X (n:=10) (by decide)).2; omega
    have hXI:I64 X:=by have:=HBD.out i hlt; unfold I64; omega
    have HC1:=zz (fun W=>low_as (x:=X) (n:=10) hXI (by decide) W);rw [hk] at HC1;have hk1:(k:Int) < 10:=by omega
    have hk0:(0:Int)≤(k:Int):=by omega
    obtain ⟨A,hA⟩:∃ s,tx (wB k)=s:=⟨_,rfl⟩;have hAs:A.size≤14:=by rw [← hA]; exact word_most k
    have hTs:T.size≤1000:=by rw [HR.out.1]; have:=tI_size z (i:=i) (by omega); omega
    have x0:∀ u:KW wr,u.W.cell? ⟨b,off+i,none⟩=some (.int .i64 X):=fun u=>u.cell (by rw [← hX]; exact HR.out.2.cell0 (HK1.out.cell0 (HZ.out i hlt)))
    have x1:∀ u:KW wr,u.W.cell? ⟨ga,k,none⟩=some (.string A):=fun u=>u.cell (by rw [← hA]; exact HR.out.2.cell0 (HTY.out.a k hk10))
    have HX:=zz hX;have HKk:=zz hk;have HA:=zz hA;clear hX hk hA hk10;have hne:Nonempty (KW wr):=⟨KW.of _⟩;go_upto_region 8 with fail
    obtain ⟨CC,hCC⟩:∃ s,tx [UInt8.ofNat (97+i)]=s:=⟨_,rfl⟩;have hCs:CC.size≤1:=by rw [← hCC]; exact Nat.le_refl 1
    have HCC:=zz hCC;have HE1:Hid (((97+i:Nat):Int)=97+(i:Int)):=zz (by omega);have hi11:(i:Int)≤11:=by omega
    clear hCC;go_cut [5] (fun u wx=>u=.string (((T++A)++⟨#[32,102]⟩)++CC)∧Hid (Keeps No wr wx))
    case first =>
     refine Mix.wp_region_mix (fun W'=>∃ u:KW wr,W'=u.W) [] (by kernel_rfl) ?_;have Hv0:Hid (Keeps No wr wr.drew):=zz ((Keeps.refl _ wr).drew);generalize wr.drew=v0 at Hv0 ⊢;refine Mix.mix_seg 0 6 12 (by kernel_rfl) (by kernel_rfl) rfl rfl ⟨⟨v0,Hv0.out⟩,rfl⟩ ?_;simp only [zp1,zp2,zp3,zp4]
     repeat (go_big_quiet_step (fail))
     refine wpQuiet_nil ?_;refine Mix.mix_seg 11 3 9 (by kernel_rfl) (by kernel_rfl) rfl rfl ⟨⟨v0,Hv0.out⟩,rfl⟩ ?_;simp only [zp1,zp2,zp3,zp4]
     repeat (go_big_quiet_step (fail))
     refine wpQuiet_nil ?_;refine Mix.mix_two 6 14 8 (by kernel_rfl) rfl rfl rfl ?_ ?_
     case' refine_1 =>
      simp only [zp1,zp2,zp3,zp4];go_wp2_with fail;refine (HC1.out v0).mono ?_;rintro e v1 ⟨rfl,hk⟩;have Hv1:Hid (Keeps No wr v1):=zz (Hv0.out.trans hk (fun _ _ e=>e));go_wp2_with fail;refine ⟨.inr ⟨⟨v1,Hv1.out⟩,rfl⟩,?_⟩;refine Mix.mix_seg 7 4 4 (by kernel_rfl) (by kernel_rfl) rfl rfl ⟨⟨v1,Hv1.out⟩,rfl⟩ ?_;simp only [zp1,zp2,zp3,zp4]
      repeat (go_big_quiet_step (fail))
      refine wpQuiet_nil ?_;refine Mix.mix_one 14 3 (by kernel_rfl) rfl rfl ?_;simp only [zp1,zp2,zp3,zp4];go_wp2_with fail;have hkA:Keeps No v1 (v1.alloc (.cells #[.int .u8 (97+(i:Int))] 5)):=(Keeps.refl _ _).alloc _;have hrA:(v1.alloc (.cells #[.int .u8 (97+(i:Int))] 5)).heap[v1.heap.size]?=some (.cells #[.int .u8 (97+(i:Int))] 5 (0,0)):=heap_alloc_new _ _;generalize v1.alloc (.cells #[.int .u8 (97+(i:Int))] 5)=v2 at hkA hrA ⊢;obtain ⟨G,hG⟩:∃ q,v1.heap.size=q:=⟨_,rfl⟩;rw [hG] at hrA ⊢;have Hv2:Hid (Keeps No wr v2):=zz (Hv1.out.trans hkA (fun _ _ e=>e));have HRv2:=zz hrA;clear hkA hrA hG;refine ⟨.inr ⟨⟨v2,Hv2.out⟩,rfl⟩,?_⟩;refine Mix.mix_one 15 2 (by kernel_rfl) rfl rfl ?_;simp only [zp1,zp2,zp3,zp4];have kc:(convert 28 9 (.slice (some ⟨G,0,none⟩) 1 1)).run Tryz.prog v2=.ok (.string CC) v2:=by rw [← HCC.out]; exact conv_one _ G (97+i) (by omega) (by rw [HE1.out]; exact HRv2.out)
      go_wp2_with fail;clear kc;refine ⟨.inr ⟨⟨v2,Hv2.out⟩,rfl⟩,?_⟩;refine Mix.mix_seg 16 2 0 (by kernel_rfl) (by kernel_rfl) rfl rfl ⟨⟨v2,Hv2.out⟩,rfl⟩ ?_;simp only [zp1,zp2,zp3,zp4]
      repeat (go_big_quiet_step (fail))
      refine wpQuiet_nil ?_;refine Mix.mix_end (by kernel_rfl) ?_;go_wp2_with fail;go_meet;exact ⟨rfl,zz Hv2.out⟩
     case' refine_2 =>
      simp only [zp1,zp2,zp3,zp4];go_wp2_with fail;have hkA:Keeps No v0 (v0.alloc (.cells #[.int .u8 (97+(i:Int))] 5)):=(Keeps.refl _ _).alloc _;have hrA:(v0.alloc (.cells #[.int .u8 (97+(i:Int))] 5)).heap[v0.heap.size]?=some (.cells #[.int .u8 (97+(i:Int))] 5 (0,0)):=heap_alloc_new _ _;generalize v0.alloc (.cells #[.int .u8 (97+(i:Int))] 5)=v1 at hkA hrA ⊢;obtain ⟨G,hG⟩:∃ q,v0.heap.size=q:=⟨_,rfl⟩;rw [hG] at hrA ⊢;have Hv1:Hid (Keeps No wr v1):=zz (Hv0.out.trans hkA (fun _ _ e=>e));have HRv1:=zz hrA;clear hkA hrA hG;refine ⟨.inr ⟨⟨v1,Hv1.out⟩,rfl⟩,?_⟩;refine Mix.mix_two 6 15 7 (by kernel_rfl) rfl rfl rfl ?_ ?_
      case' refine_1 =>
       simp only [zp1,zp2,zp3,zp4];go_wp2_with fail;refine (HC1.out v1).mono ?_;rintro e v2 ⟨rfl,hk⟩;have Hv2:Hid (Keeps No wr v2):=zz (Hv1.out.trans hk (fun _ _ e=>e));go_wp2_with fail;refine ⟨.inr ⟨⟨v2,Hv2.out⟩,rfl⟩,?_⟩;have HRv2:=zz ((hk.block _ (Array.getElem?_eq_some_iff.1 HRv1.out).1 (fun e=>e)).trans HRv1.out);refine Mix.mix_seg 7 4 3 (by kernel_rfl) (by kernel_rfl) rfl rfl ⟨⟨v2,Hv2.out⟩,rfl⟩ ?_;simp only [zp1,zp2,zp3,zp4]
       repeat (go_big_quiet_step (fail))
       refine wpQuiet_nil ?_;refine Mix.mix_one 15 2 (by kernel_rfl) rfl rfl ?_;simp only [zp1,zp2,zp3,zp4];have kc:(convert 28 9 (.slice (some ⟨G,0,none⟩) 1 1)).run Tryz.prog v2=.ok (.string CC) v2:=by rw [← HCC.out]; exact conv_one _ G (97+i) (by omega) (by rw [HE1.out]; exact HRv2.out)
       go_wp2_with fail;clear kc;refine ⟨.inr ⟨⟨v2,Hv2.out⟩,rfl⟩,?_⟩;refine Mix.mix_seg 16 2 0 (by kernel_rfl) (by kernel_rfl) rfl rfl ⟨⟨v2,Hv2.out⟩,rfl⟩ ?_;simp only [zp1,zp2,zp3,zp4]
       repeat (go_big_quiet_step (fail))
       refine wpQuiet_nil ?_;refine Mix.mix_end (by kernel_rfl) ?_;go_wp2_with fail;go_meet;exact ⟨rfl,zz Hv2.out⟩
      case' refine_2 =>
       simp only [zp1,zp2,zp3,zp4];have kc:(convert 28 9 (.slice (some ⟨G,0,none⟩) 1 1)).run Tryz.prog v1=.ok (.string CC) v1:=by rw [← HCC.out]; exact conv_one _ G (97+i) (by omega) (by rw [HE1.out]; exact HRv1.out)
       go_wp2_with fail;clear kc;refine ⟨.inr ⟨⟨v1,Hv1.out⟩,rfl⟩,?_⟩;refine Mix.mix_one 6 6 (by kernel_rfl) rfl rfl ?_;simp only [zp1,zp2,zp3,zp4];go_wp2_with fail;refine (HC1.out v1).mono ?_;rintro e v2 ⟨rfl,hk⟩;have Hv2:Hid (Keeps No wr v2):=zz (Hv1.out.trans hk (fun _ _ e=>e));go_wp2_with fail;refine ⟨.inr ⟨⟨v2,Hv2.out⟩,rfl⟩,?_⟩;refine Mix.mix_seg 7 4 2 (by kernel_rfl) (by kernel_rfl) rfl rfl ⟨⟨v2,Hv2.out⟩,rfl⟩ ?_;simp only [zp1,zp2,zp3,zp4]
       repeat (go_big_quiet_step (fail))
       refine wpQuiet_nil ?_;refine Mix.mix_seg 16 2 0 (by kernel_rfl) (by kernel_rfl) rfl rfl ⟨⟨v2,Hv2.out⟩,rfl⟩ ?_;simp only [zp1,zp2,zp3,zp4]
       repeat (go_big_quiet_step (fail))
       refine wpQuiet_nil ?_;refine Mix.mix_end (by kernel_rfl) ?_;go_wp2_with fail;go_meet;exact ⟨rfl,zz Hv2.out⟩
    case rest =>
    obtain ⟨rfl,hcc⟩:=hcut;clear x0 x1 hne HC1;generalize wc=w2 at hcc ⊢;obtain ⟨Y,hY⟩:∃ Y,X.tdiv 10=Y:=⟨_,rfl⟩;obtain ⟨Q,hQ⟩:∃ Y,X.tdiv 30=Y:=⟨_,rfl⟩;have hXb:-9223372036854775808≤X∧X≤9223372036854775807:=by rw [← HX.out]; exact HBD.out i hlt
    obtain ⟨hYb,hQb⟩:=tdiv_b hXb;rw [hY] at hYb;rw [hQ] at hQb;have hYI:I64 Y:=by unfold I64; omega
    have hQI:I64 Q:=by unfold I64; omega
    obtain ⟨t,ht⟩:∃ t,lowN Y 3=t:=⟨_,rfl⟩;obtain ⟨p,hp⟩:∃ t,lowN Q 50=t:=⟨_,rfl⟩;have hpb:(p:Int)≤49:=by rw [← hp]; have:=(lowN_eq Q (n:=50) (by decide)).2; omega
    have htb:(t:Int)≤2:=by rw [← ht]; have:=(lowN_eq Y (n:=3) (by decide)).2; omega
    have ht0:(0:Int)≤(t:Int):=by omega
    have hp0:(0:Int)≤(p:Int):=by omega
    have HC3:=zz (fun W=>low_as (x:=Y) (n:=3) hYI (by decide) W);have HC5:=zz (fun W=>low_as (x:=Q) (n:=50) hQI (by decide) W);rw [ht] at HC3;rw [hp] at HC5;have hfn:fnum (z i)=if t=1 then 1+p else 0:=by rw [HX.out,← ht,← hp,← hY,← hQ]; rfl
    have HFN:=zz hfn;have y0:w2.cell? ⟨b,off+i,none⟩=some (.int .i64 X):=by rw [← HX.out]; exact hcc.out.cell0 (HR.out.2.cell0 (HK1.out.cell0 (HZ.out i hlt)))
    have hTn:tx (wB (lowN (z i) 10))=A:=by rw [HX.out,HKk.out]; exact HA.out
    have HTN:=zz hTn;clear hTn hfn ht hp hYI hQI hXI;go_wp2_with fail;refine (HC3.out w2).mono ?_;rintro e w3 ⟨rfl,hk⟩;replace y0:=hk.cell0 y0;have HK3:Hid (Keeps No wr w3):=zz (hcc.out.trans hk (fun _ _ e=>e));clear hk;by_cases h1:t=1
    · subst h1;go_wp2_with fail;refine (HC5.out w3).mono ?_;rintro e w4 ⟨rfl,hk⟩;have HK4:Hid (Keeps No wr w4):=zz (HK3.out.trans hk (fun _ _ e=>e));clear hk y0;obtain ⟨M,hM⟩:∃ M,1+p=M:=⟨_,rfl⟩;have hM1:(1:Int)+(p:Int)=(M:Int):=by omega
      have hMb:1≤M∧M < 100:=by omega
      have HDI:=zz (fun W=>digits_any hMb.1 hMb.2 W);have hMi:(M:Int)≤99:=by omega
      have hMj:(1:Int)≤(M:Int):=by omega
      obtain ⟨NN,hNN⟩:∃ s,tx (nB M)=s:=⟨_,rfl⟩;have hNs:NN.size≤2:=by rw [← hNN]; exact (nB_len M).2
      rw [hNN] at HDI;have HM:=zz hM;have HNN:=zz hNN;clear hM hMb hNN;go_wp2_with fail;refine (HDI.out w4).mono ?_;rintro e w5 ⟨rfl,hk⟩;have HK5:Hid (Keeps No w1 w5):=zz (HR.out.2.trans (HK4.out.trans hk (fun _ _ e=>e)) (fun _ _ e=>e));have HTT:Hid (((((((T++A)++⟨#[32,102]⟩)++CC)++⟨#[91]⟩)++NN)++⟨#[93]⟩)++⟨#[59,32]⟩=tI z (i+1)):=zz (by
       have hf:fnum (z i)=M:=HFN.out.trans ((if_pos trivial).trans HM.out);have:=tI_yes z (i:=i) (by omega);rw [hf,HTN.out,← HR.out.1,HCC.out,HNN.out] at this;exact this)
      clear hk;go_wp2_with fail;go_roundg (n - (i+1))
      case rel=>exact ⟨i+1,_,rfl,by go_num,by omega,rfl,zz ⟨HTT.out,HK5.out⟩⟩
      case measure=>omega
    · have h1i:¬ (t:Int)=1:=by omega
      have HTT:Hid ((((T++A)++⟨#[32,102]⟩)++CC)++⟨#[59,32]⟩=tI z (i+1)):=zz (by
       have hf:fnum (z i)=0:=by rw [HFN.out,if_neg h1]
       have:=tI_no z (i:=i) hf;rw [HTN.out,← HR.out.1,HCC.out] at this;exact this)
      have HK5:Hid (Keeps No w1 w3):=zz (HR.out.2.trans HK3.out (fun _ _ e=>e));clear h1 y0;go_wp2_with fail;go_roundg (n - (i+1))
      case rel=>exact ⟨i+1,_,rfl,by go_num,by omega,rfl,zz ⟨HTT.out,HK5.out⟩⟩
      case measure=>omega
  · have hin:i=n:=by omega
    have hlt1:¬ (i:Int) < (n:Int):=by omega
    have hT:T=tI z n:=by rw [HR.out.1,hin]
    have hTs:T.size≤1000:=by rw [hT]; have:=tI_size z (i:=n) (by omega); omega
    have HKa:=zz HR.out.2;have hn2:n≤12:=by omega
    obtain ⟨S,hS⟩:∃ S,T++(⟨#[125,59]⟩:ByteArray)=S:=⟨_,rfl⟩;have hkn:Knows S [placeK (1,1) [97] (fsI z n)]:=by
     have hSl:S.data.toList=stB [97] (fsI z n):=by rw [← hS,hT]; exact tI_end z n
     have hne:fsI z n≠[]:=fun h=>by have:=fsI_len z n; rw [h] at this; simp at this; omega
     obtain ⟨f,fs,hfs⟩:=List.exists_cons_of_ne_nil hne;have hok:=fsI_ok z hn2;have hks:=fsI_ks z (n:=n);have hlen:=fsI_len z n;rw [hfs] at hSl hok hks hlen ⊢;exact knows1 hSl hok (by omega) hks
    obtain ⟨SA,E9,M9,q1,q2,q3,q4,q5,q6,q7,q8,q9,q10⟩:=last_nums z hn2;have hok:=place_ok (z:=(1,1)) (n:=[97]) (fsI_ok z hn2) (by rw [fsI_len]; omega);obtain ⟨P,hP⟩:∃ P,placeK (1,1) [97] (fsI z n)=P:=⟨_,rfl⟩;have hnm:P.name=tx [97]:=by rw [← hP]; rfl
    rw [hP] at hkn q1 q2 q5 hok;have HNM:=zz hnm;have HQ:=zz (And.intro q1 (And.intro q2 (And.intro q3 (And.intro q4 q5))));have HP:=zz hP;have HS:=zz hS;have HN2:=zz hn2;have HST:=zz (fun W (h:LaidP W)=>structs_any S _ hkn ⟨by show 1≤100; omega,fun kk hk=>by rw [List.mem_singleton.1 hk]; exact hok⟩ W h);have HSZ:=zz (fun (k:Nat) (hk:k < 10) W (h:LaidP W)=>laySize_any S _ hkn (jO_b hk).1 (jO_b hk).2 (szIs_k hk) ⟨by have:=tsz_b hk; omega,by have:=tsz_b hk; omega⟩ (show 0≤(0:Int)∧(0:Int)≤1000 by decide) (if_pos rfl).symm W h);have HS7:Hid (∀ W,LaidP W→Calls Tryz.prog 10 #[.string S,.string ⟨#[83,46,97]⟩,.int .i64 7] W fun e w'=>e=.returned (.int .i64 (SA * 7))∧Keeps No W w'):=zz (fun W h=>laySize_any S _ hkn (j:=8) (st:=0) (by decide) (by decide) (szIs_str (.inl rfl) (i:=0) rfl hnm) ⟨by rw [q1]; omega,by rw [q1]; omega⟩ (by decide) (by rw [if_neg (by decide),q1]) W h);have HAW:=zz (fun W (h:LaidP W)=>awake_any W h);clear hin hT hS hkn hok hnm q1 q2 q3 q4 q5 hP hi HR hlt hn2;go_wp2_with fail;rw [HS.out];refine (HST.out wr (HL.out.no (HK1.out.trans HKa.out (fun _ _ e=>e)))).mono ?_;rintro e w5 ⟨v,l,rfl,hlk,hLS,hk5⟩;obtain ⟨r1,rfl⟩:∃ r1,l=[r1]:=by
     cases l with
     | nil=>cases hlk
     | cons a t=>cases t with
       | nil=>exact ⟨a,rfl⟩
       | cons c u=>injection hlk with _ h; cases h
    obtain ⟨kk1,fa1,fc1⟩:=r1;have hr1:kk1=P:=by injection hlk
    subst hr1;obtain ⟨g,c,hv,hc1⟩:=hLS.form (by simp);have hv1:v=.slice (some ⟨g,0,none⟩) 1 c:=hv;clear hv;subst hv1;obtain ⟨gf,hgf,hf⟩:=hLS.fform (r:=(kk1,fa1,fc1)) (by simp) (by show 0 < kk1.fields.length; rw [HQ.out.2.2.2.2]; omega);have hgf2:fa1=some ⟨gf,0,none⟩:=hgf;clear hgf;subst hgf2;have HF:=zz hf;have hn1:Hid (w5.cell? ⟨g,1,none⟩=some (.int .i64 SA)∧w5.cell? ⟨g,2,none⟩=some (.int .i64 M9)∧w5.cell? ⟨g,3,none⟩=some (.slice (some ⟨gf,0,none⟩) n fc1)):=zz (by
     obtain ⟨q1,q2,_,_,q5⟩:=HQ.out;rw [← q1,← q2,← q5];exact ⟨hc1 0 _ rfl 1 _ rfl,hc1 0 _ rfl 2 _ rfl,hc1 0 _ rfl 3 _ rfl⟩)
    have HK5:Hid (Keeps No w1 w5):=zz (HKa.out.trans hk5 (fun _ _ e=>e));clear hlk hLS hk5 hc1 hf HST HKa;go_upto_region 13 with fail
    have hk6:Keeps No w5 (w5.alloc (.cells #[.int .i64 0,.int .i64 0] 34)):=(Keeps.refl _ _).alloc _;have hr6:(w5.alloc (.cells #[.int .i64 0,.int .i64 0] 34)).heap[w5.heap.size]?=some (.cells #[.int .i64 0,.int .i64 0] 34 (0,0)):=heap_alloc_new _ _;generalize w5.alloc (.cells #[.int .i64 0,.int .i64 0] 34)=w6 at hk6 hr6 ⊢;obtain ⟨V,hV⟩:∃ q,w5.heap.size=q:=⟨_,rfl⟩;rw [hV] at hr6 ⊢;have v0:w6.cell? ⟨V,0,none⟩=some (.int .i64 0):=by rw [cell_of_row w6 V 0 _ _ _ hr6]; rfl
    have g3:w6.cell? ⟨g,3,none⟩=some (.slice (some ⟨gf,0,none⟩) n fc1):=hk6.cell0 hn1.out.2.2;have HR6:=zz hr6;have HK6:Hid (Keeps No w5 w6):=zz hk6;clear hk6 hr6 hV;have hb3:((n:Int) != (n:Int))=false:=by simp
    go_upto_region 16 with fail
    clear v0 g3 hb3;go_wp2_with fail;go_loopg [9,10,11] n (fun gg u v x wr=>∃ (i:Nat) (E M:Int),u=.int .i64 E∧v=.int .i64 M∧x=.int .i64 (i:Int)∧i≤n∧gg=n - i∧Hid ((accF (1,1) (fsI z i)).s=E∧(accF (1,1) (fsI z i)).a=M∧Keeps No w6 wr))
    case atStart=>exact ⟨0,0,1,rfl,rfl,rfl,by omega,by omega,zz ⟨rfl,rfl,Keeps.refl _ _⟩⟩
    case round =>
     obtain ⟨j,E,M,rfl,rfl,rfl,hj,rfl,HR⟩:=hrel;by_cases hlt:j < n
     · have hlt1:(j:Int) < (n:Int):=by omega
       have hj0:(0:Int)≤(j:Int):=by omega
       obtain ⟨X,hX⟩:∃ X,z j=X:=⟨_,rfl⟩;obtain ⟨k,hk⟩:∃ k,lowN X 10=k:=⟨_,rfl⟩;have hk10:k < 10:=by rw [← hk]; have:=(lowN_eq X (n:=10) (by decide)).2; omega
       have hXI:I64 X:=by have:=HBD.out j hlt; unfold I64; omega
       have HC1:=zz (fun W=>low_as (x:=X) (n:=10) hXI (by decide) W);rw [hk] at HC1;obtain ⟨AT,SZ,hfd,hfn⟩:=fld_nums z hlt HN2.out;rw [HP.out] at hfd;rw [HR.out.1,HR.out.2.1,hX,hk] at hfn;have hc5:=HF.out j _ hfd;obtain ⟨D,hD⟩:∃ s,dmB k=s:=⟨_,rfl⟩;obtain ⟨NM,hNM⟩:∃ s,tx [102,UInt8.ofNat (97+j)]=s:=⟨_,rfl⟩;obtain ⟨NU,hNU⟩:∃ s:Int,(fnum X:Int)=s:=⟨_,rfl⟩;rw [hNU] at hfn;have hv1:tyM (vrF (fldI z j)).ty=D:=by show tyM (tyK (lowN (z j) 10))=D; rw [hX,hk]; exact hD
       have hv2:(vrF (fldI z j)).num=NU:=by show (fnum (z j):Int)=NU; rw [hX]; exact hNU
       have hv0:(vrF (fldI z j)).name=NM:=hNM;have hkw:Keeps No w5 wr:=HK6.out.trans HR.out.2.2 (fun _ _ e=>e);have y0:wr.cell? ⟨gf,j * 5,none⟩=some (.string NM):=hkw.cell0 (hc5 0 _ (by show some (Value.string (vrF (fldI z j)).name)=_; rw [hv0]));have y1:wr.cell? ⟨gf,j * 5+1,none⟩=some (.string D):=hkw.cell0 (hc5 1 _ (by show some (Value.string (tyM (vrF (fldI z j)).ty))=_; rw [hv1]));have y2:wr.cell? ⟨gf,j * 5+2,none⟩=some (.int .i64 NU):=hkw.cell0 (hc5 2 _ (by show some (Value.int .i64 (vrF (fldI z j)).num)=_; rw [hv2]));have y3:wr.cell? ⟨gf,j * 5+3,none⟩=some (.int .i64 AT):=hkw.cell0 (hc5 3 _ rfl);have y4:wr.cell? ⟨gf,j * 5+4,none⟩=some (.int .i64 SZ):=hkw.cell0 (hc5 4 _ rfl);have g3:wr.cell? ⟨g,3,none⟩=some (.slice (some ⟨gf,0,none⟩) n fc1):=hkw.cell0 hn1.out.2.2;obtain ⟨N1,hN1⟩:∃ s,(tsz (1,1) k).1=s:=⟨_,rfl⟩;rw [hN1] at hfn;have HS1:Hid (∀ W,LaidP W→Calls Tryz.prog 10 #[.string S,.string D,.int .i64 0] W fun e w'=>e=.returned (.int .i64 N1)∧Keeps No W w'):=zz (by
        have:=HSZ.out k hk10;rw [← dmB_ty hk10,hD,hN1] at this;exact this)
       have hk1:(k:Int) < 10:=by omega
       have hk0:(0:Int)≤(k:Int):=by omega
       have HFN:=zz hfn;have HX:=zz hX;have HKk:=zz hk;have HD:=zz hD;have HK10:=zz hk10;have HKW:=zz hkw;clear hfd hfn hc5 hv1 hv2 hv0 hNM hNU hkw hX hk hD hk10 hXI;go_upto_region 20 with fail
       clear y0 y1 y2 y3 y4 g3 hN1;have hkA:Keeps No wr (wr.alloc (.cells #[.string NM,.string D,.int .i64 NU,.int .i64 AT,.int .i64 SZ] 41)):=(Keeps.refl _ _).alloc _;have hrA:(wr.alloc (.cells #[.string NM,.string D,.int .i64 NU,.int .i64 AT,.int .i64 SZ] 41)).heap[wr.heap.size]?=some (.cells #[.string NM,.string D,.int .i64 NU,.int .i64 AT,.int .i64 SZ] 41 (0,0)):=heap_alloc_new _ _;generalize wr.alloc (.cells #[.string NM,.string D,.int .i64 NU,.int .i64 AT,.int .i64 SZ] 41)=w7 at hkA hrA ⊢;obtain ⟨G,hG⟩:∃ q,wr.heap.size=q:=⟨_,rfl⟩;rw [hG] at hrA ⊢;have hk7:Keeps No w w7:=HK1.out.trans (HK5.out.trans (HKW.out.trans hkA (fun _ _ e=>e)) (fun _ _ e=>e)) (fun _ _ e=>e);have x0:w7.cell? ⟨b,off+j,none⟩=some (.int .i64 X):=by rw [← HX.out]; exact hk7.cell0 (HZ.out j hlt)
       have HRA:=zz hrA;have HK7:=zz hk7;have HA7:=zz hkA;clear hrA hk7 hkA hG;go_wp2_with fail;refine (HC1.out w7).mono ?_;rintro e w8 ⟨rfl,hk⟩;have x1:w8.cell? ⟨gb,k,none⟩=some (.string D):=by rw [← HD.out]; exact (HK5.out.trans (HKW.out.trans (HA7.out.trans hk (fun _ _ e=>e)) (fun _ _ e=>e)) (fun _ _ e=>e)).cell0 (HTY.out.b k HK10.out)
       have HK8:Hid (Keeps No w7 w8):=zz hk;clear hk x0;go_wp2_with fail;rw [HS.out];refine (HS1.out w8 (HL.out.no (HK7.out.trans HK8.out (fun _ _ e=>e)))).mono ?_;rintro e w9 ⟨rfl,hk⟩;have HK9:Hid (Keeps No w7 w9):=zz (HK8.out.trans hk (fun _ _ e=>e));clear hk x1;go_upto_region 21 with fail
       have hr9:w9.heap[G]?=some (.cells #[.string NM,.string D,.int .i64 NU,.int .i64 AT,.int .i64 SZ] 41 (0,0)):=(HK9.out.block _ (Array.getElem?_eq_some_iff.1 HRA.out).1 (fun e=>e)).trans HRA.out;have c1:w9.cell? ⟨G,1,none⟩=some (.string D):=by rw [cell_of_row w9 G 1 _ _ _ hr9]; rfl
       have c2:w9.cell? ⟨G,2,none⟩=some (.int .i64 NU):=by rw [cell_of_row w9 G 2 _ _ _ hr9]; rfl
       have c3:w9.cell? ⟨G,3,none⟩=some (.int .i64 AT):=by rw [cell_of_row w9 G 3 _ _ _ hr9]; rfl
       have c4:w9.cell? ⟨G,4,none⟩=some (.int .i64 SZ):=by rw [cell_of_row w9 G 4 _ _ _ hr9]; rfl
       have hk79:Keeps No w w9:=HK7.out.trans HK9.out (fun _ _ e=>e);have c5:w9.cell? ⟨b,off+j,none⟩=some (.int .i64 X):=by rw [← HX.out]; exact hk79.cell0 (HZ.out j hlt)
       have c6:w9.cell? ⟨gb,k,none⟩=some (.string D):=by rw [← HD.out]; exact (HK5.out.trans (HKW.out.trans (HA7.out.trans HK9.out (fun _ _ e=>e)) (fun _ _ e=>e)) (fun _ _ e=>e)).cell0 (HTY.out.b k HK10.out)
       have u1:∀ u:KW w9,u.W.cell? ⟨G,1,none⟩=some (.string D):=fun u=>u.cell c1
       have u2:∀ u:KW w9,u.W.cell? ⟨G,2,none⟩=some (.int .i64 NU):=fun u=>u.cell c2
       have u3:∀ u:KW w9,u.W.cell? ⟨G,3,none⟩=some (.int .i64 AT):=fun u=>u.cell c3
       have u4:∀ u:KW w9,u.W.cell? ⟨G,4,none⟩=some (.int .i64 SZ):=fun u=>u.cell c4
       have u5:∀ u:KW w9,u.W.cell? ⟨b,off+j,none⟩=some (.int .i64 X):=fun u=>u.cell c5
       have u6:∀ u:KW w9,u.W.cell? ⟨gb,k,none⟩=some (.string D):=fun u=>u.cell c6
       have hne:Nonempty (KW w9):=⟨KW.of _⟩;have HK90:=zz hk79;clear c1 c2 c5 c6 hk79 hr9 HRA;have hfn:=HFN.out;obtain ⟨f1,f2⟩:=hfn.e;obtain ⟨f3,f4⟩:=hfn.m;obtain ⟨f5,f6⟩:=hfn.n;obtain ⟨f7,f8⟩:=hfn.num;have f9:=hfn.md;have f10:=hfn.ge;have f11:=hfn.lt;have f12:=hfn.sz;obtain ⟨f13,f14⟩:=hfn.szb;have f15:¬ N1=0:=by omega
       have d1:decide (N1 < 1)=false:=decide_eq_false (by omega);have d2:(D != D)=false:=by simp
       have d4:decide (AT < E)=false:=decide_eq_false (by omega);have d5:decide (N1≤AT - E)=false:=decide_eq_false (by omega);have d6:(SZ != N1 * max NU 1)=false:=by rw [f12]; simp
       clear hfn;refine wp_region_class (C:=fun W=>∃ u:KW w9,W=u.W) (by kernel_rfl) (fast_lex 1 120 (by decide) (by kernel_rfl) (by kernel_rfl)) ⟨⟨World.drew _,(Keeps.refl _ _).drew⟩,rfl⟩ ?_
       repeat (go_big_quiet_step ((go_at_call 7; with_reducible refine kw_call _ (HC1.out _))))
       refine wpQuiet_nil ?_;rintro _ ⟨T2,rfl⟩;have c3':T2.W.cell? ⟨G,3,none⟩=some (.int .i64 AT):=u3 T2;have c4':T2.W.cell? ⟨G,4,none⟩=some (.int .i64 SZ):=u4 T2;have HKR:Hid (Keeps No w6 T2.W):=zz (HR.out.2.2.trans ((HA7.out.trans HK9.out (fun _ _ e=>e)).trans T2.h (fun _ _ e=>e)) (fun _ _ e=>e));generalize T2.W=wz at c3' c4' HKR ⊢;clear u1 u2 u3 u4 u5 u6 d1 d2 d4 d5 d6 f9 f12 hne c3 c4;go_wp2_with fail;go_roundg (n - (j+1))
       case rel=>exact ⟨j+1,AT+SZ,max M N1,rfl,rfl,by go_num,by omega,rfl,zz ⟨HFN.out.e2.symm,HFN.out.m2.symm,HKR.out⟩⟩
       case measure=>omega
     · have hjn:j=n:=by omega
       have hlt1:¬ (j:Int) < (n:Int):=by omega
       have hE:E=E9:=by rw [← HR.out.1,hjn]; exact HQ.out.2.2.1
       have hM:M=M9:=by rw [← HR.out.2.1,hjn]; exact HQ.out.2.2.2.1
       subst hE;subst hM;have hkw:Keeps No w5 wr:=HK6.out.trans HR.out.2.2 (fun _ _ e=>e);have a1:=hkw.cell0 hn1.out.1;have a2:=hkw.cell0 hn1.out.2.1;have hr6:wr.heap[V]?=some (.cells #[.int .i64 0,.int .i64 0] 34 (0,0)):=(HR.out.2.2.block _ (Array.getElem?_eq_some_iff.1 HR6.out).1 (fun e=>e)).trans HR6.out;have a3:wr.cell? ⟨V,0,none⟩=some (.int .i64 0):=by rw [cell_of_row wr V 0 _ _ _ hr6]; rfl
       have a4:wr.cell? ⟨V,1,none⟩=some (.int .i64 0):=by rw [cell_of_row wr V 1 _ _ _ hr6]; rfl
       have u1:∀ u:KW wr,u.W.cell? ⟨g,1,none⟩=some (.int .i64 SA):=fun u=>u.cell a1
       have u2:∀ u:KW wr,u.W.cell? ⟨g,2,none⟩=some (.int .i64 M):=fun u=>u.cell a2
       have u3:∀ u:KW wr,u.W.cell? ⟨V,0,none⟩=some (.int .i64 0):=fun u=>u.cell a3
       have u4:∀ u:KW wr,u.W.cell? ⟨V,1,none⟩=some (.int .i64 0):=fun u=>u.cell a4
       have hne:Nonempty (KW wr):=⟨KW.of _⟩;have hkz:Keeps No w wr:=HK1.out.trans (HK5.out.trans hkw (fun _ _ e=>e)) (fun _ _ e=>e);have HKZ:=zz hkz;have c1:¬ M=0:=by omega
       have c2:decide (E≤SA)=true:=decide_eq_true (by omega);have c3:decide (SA - E < M)=true:=decide_eq_true (by omega);have c4:SA≤5008:=by omega
       have c5:0≤SA:=by omega
       obtain ⟨R7,hR7⟩:∃ R,7 * SA=R:=⟨_,rfl⟩;have hR8:SA * 7=R7:=by omega
       rw [hR8] at HS7;clear a1 a2 a3 a4 hr6 hkz hkw hR8 hjn hlt HR;have hS:=HS.out;go_upto_region 24 with fail
       refine Mix.wp_region_mix (fun W'=>∃ u:KW wr,W'=u.W) [] (by kernel_rfl) ?_;have Hv0:Hid (Keeps No wr wr.drew):=zz ((Keeps.refl _ wr).drew);generalize wr.drew=v0 at Hv0 ⊢;refine Mix.mix_seg 0 36 17 (by kernel_rfl) (by kernel_rfl) rfl rfl ⟨⟨v0,Hv0.out⟩,rfl⟩ ?_;simp only [zp1,zp2,zp3,zp4]
       repeat (go_big_quiet_step (fail))
       refine wpQuiet_nil ?_;refine Mix.mix_seg 37 5 12 (by kernel_rfl) (by kernel_rfl) rfl rfl ⟨⟨v0,Hv0.out⟩,rfl⟩ ?_;simp only [zp1,zp2,zp3,zp4]
       repeat (go_big_quiet_step (fail))
       refine wpQuiet_nil ?_;refine Mix.mix_one 36 11 (by kernel_rfl) rfl rfl ?_;simp only [zp1,zp2,zp3,zp4];go_wp2_with fail;refine (HS7.out v0 (HL.out.no (HKZ.out.trans Hv0.out (fun _ _ e=>e)))).mono ?_;rintro e v1 ⟨rfl,hk⟩;have Hv1:Hid (Keeps No wr v1):=zz (Hv0.out.trans hk (fun _ _ e=>e));clear hk;go_wp2_with fail;refine ⟨.inr ⟨⟨v1,Hv1.out⟩,rfl⟩,?_⟩;refine Mix.mix_seg 42 3 8 (by kernel_rfl) (by kernel_rfl) rfl rfl ⟨⟨v1,Hv1.out⟩,rfl⟩ ?_;simp only [zp1,zp2,zp3,zp4]
       repeat (go_big_quiet_step (fail))
       refine wpQuiet_nil ?_;refine Mix.mix_seg 46 1 7 (by kernel_rfl) (by kernel_rfl) rfl rfl ⟨⟨v1,Hv1.out⟩,rfl⟩ ?_;simp only [zp1,zp2,zp3,zp4]
       repeat (go_big_quiet_step (fail))
       refine wpQuiet_nil ?_;refine Mix.mix_one 45 6 (by kernel_rfl) rfl rfl ?_;simp only [zp1,zp2,zp3,zp4];go_wp2_with fail;refine ⟨.inr ⟨⟨v1,Hv1.out⟩,rfl⟩,?_⟩;refine Mix.mix_seg 47 3 3 (by kernel_rfl) (by kernel_rfl) rfl rfl ⟨⟨v1,Hv1.out⟩,rfl⟩ ?_;simp only [zp1,zp2,zp3,zp4]
       repeat (go_big_quiet_step (fail))
       refine wpQuiet_nil ?_;refine Mix.mix_one 50 2 (by kernel_rfl) rfl rfl ?_;simp only [zp1,zp2,zp3,zp4];go_wp2_with fail;refine (HAW.out v1 (HL.out.no (HKZ.out.trans Hv1.out (fun _ _ e=>e)))).mono ?_;rintro e v2 ⟨rfl,hk⟩;have Hv2:Hid (Keeps No wr v2):=zz (Hv1.out.trans hk (fun _ _ e=>e));clear hk;go_wp2_with fail;refine ⟨.inr ⟨⟨v2,Hv2.out⟩,rfl⟩,?_⟩;refine Mix.mix_seg 51 2 0 (by kernel_rfl) (by kernel_rfl) rfl rfl ⟨⟨v2,Hv2.out⟩,rfl⟩ ?_;simp only [zp1,zp2,zp3,zp4]
       repeat (go_big_quiet_step (fail))
       refine wpQuiet_nil ?_;refine Mix.mix_end (by kernel_rfl) ?_;go_wp2_with fail;go_returns;exact ⟨rfl,HKZ.out.trans Hv2.out (fun _ _ e=>e)⟩
end Go.Proofs.YtjgkacggjhobmaaGreatDoor
