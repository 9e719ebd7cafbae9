import Derived.Test.YtflbkdfbjofllaaGreatDoorSyPkO
import Derived.Deep.LoopGhost
import Derived.Test.YtflbkdfbjofllaaGreatDoorSyPkB
import Derived.KernelRfl
import Derived.IntWalk
import Derived.WideShapes
import Derived.Test.YtflbkdfbjofllaaGreatDoorSyPkF
import Derived.Test.YtflbkdfbjofllaaGreatDoorSyPkI
import Derived.Test.YtflbkdfbjofllaaGreatDoorSyPkL
import Derived.Test.YtflbkdfbjofllaaGreatDoorSyPkQ
set_option maxRecDepth 100000
set_option maxHeartbeats 25600000
set_option linter.unusedSimpArgs false
set_option linter.unusedVariables false
namespace Go.Proofs.YtflbkdfbjofllaaGreatDoor.L
open Go.RowKit
end Go.Proofs.YtflbkdfbjofllaaGreatDoor.L
namespace Go.Proofs.YtflbkdfbjofllaaGreatDoor.L
open Go.RowKit
end Go.Proofs.YtflbkdfbjofllaaGreatDoor.L
namespace Go.Proofs.YtflbkdfbjofllaaGreatDoor.L
open Go.RowKit
def matchB (s:ByteArray) (i:Nat) (a:ByteArray):Bool:=decide (i+a.size≤s.size)&&((s.extract i (i+a.size)).toList==a.toList)
end Go.Proofs.YtflbkdfbjofllaaGreatDoor.L
namespace Go.Proofs.YtflbkdfbjofllaaGreatDoor.L
open Go.RowKit
theorem pk_list (s:ByteArray) (k:Nat):Lx.pk s k=match s.data.toList[k]? with | some b=>(b.toNat:Int) | none=>0:=by
 by_cases h:k < s.size
 · rw [Lx.pk_lt h];have h':k < s.data.toList.length:=by simpa using h
   rw [List.getElem?_eq_getElem h'];rfl
 · rw [Lx.pk_ge h,List.getElem?_eq_none (by simpa using h)]
theorem ext_list (s:ByteArray) (i n:Nat):(s.extract i (i+n)).toList=(s.data.toList.drop i).take n:=by
 rw [ByteArray.toList_eq,ByteArray.data_extract,Array.toList_extract];simp [List.extract]
theorem matchB_list (s:ByteArray) (i:Nat) (a:ByteArray) (ha:1≤a.size):matchB s i a=((s.data.toList.drop i).take a.size==a.toList):=by
 unfold matchB;rw [ext_list];by_cases h:i+a.size≤s.size
 · rw [decide_eq_true h]; rfl
 · rw [decide_eq_false h]
   symm
   rw [Bool.false_and,beq_eq_false_iff_ne];intro e;have:=congrArg List.length e;rw [ByteArray.toList_eq] at this;simp at this;have e1:s.data.size=s.size:=rfl;have e2:a.data.size=a.size:=rfl;omega
section
variable (s:ByteArray) (i:Nat)
theorem m1 (x:UInt8) (hx:x≠0):matchB s i ⟨#[x]⟩=decide (Lx.pk s i=(x.toNat:Int)):=by
 rw [matchB_list _ _ _ (by show 1≤1; decide),ByteArray.toList_eq,Bool.eq_iff_iff,beq_iff_eq,decide_eq_true_iff];have hx':x.toNat≠0:=fun h=>hx (UInt8.toNat_inj.1 h)
 show ((s.data.toList.drop i).take 1=[x]) ↔ _;have p0:=pk_list s i;have g0:(s.data.toList.drop i)[0]?=s.data.toList[i]?:=by simp
 rw [← g0] at p0;rcases hr:s.data.toList.drop i with _ | ⟨c,r⟩
 · rw [hr] at p0; rw [p0]; simp; omega
 · rw [hr] at p0; rw [p0]; simp [← UInt8.toNat_inj]; omega
theorem m2 (x y:UInt8) (hx:x≠0) (hy:y≠0):matchB s i ⟨#[x,y]⟩=decide (Lx.pk s i=(x.toNat:Int)∧Lx.pk s (i+1)=(y.toNat:Int)):=by
 rw [matchB_list _ _ _ (by show 1≤2; decide),ByteArray.toList_eq,Bool.eq_iff_iff,beq_iff_eq,decide_eq_true_iff];have hx':x.toNat≠0:=fun h=>hx (UInt8.toNat_inj.1 h)
 have hy':y.toNat≠0:=fun h=>hy (UInt8.toNat_inj.1 h)
 show ((s.data.toList.drop i).take 2=[x,y]) ↔ _;have p0:=pk_list s i;have p1:=pk_list s (i+1);have g0:(s.data.toList.drop i)[0]?=s.data.toList[i]?:=by simp
 have g1:(s.data.toList.drop i)[1]?=s.data.toList[i+1]?:=by simp
 rw [← g0] at p0;rw [← g1] at p1;rcases hr:s.data.toList.drop i with _ | ⟨c,_ | ⟨d,r⟩⟩
 · rw [hr] at p0 p1; rw [p0,p1]; simp; omega
 · rw [hr] at p0 p1; rw [p0,p1]; simp [← UInt8.toNat_inj]; omega
 · rw [hr] at p0 p1; rw [p0,p1]; simp [← UInt8.toNat_inj]; omega
theorem m3 (x y z:UInt8) (hx:x≠0) (hy:y≠0) (hz:z≠0):matchB s i ⟨#[x,y,z]⟩=decide (Lx.pk s i=(x.toNat:Int)∧Lx.pk s (i+1)=(y.toNat:Int)∧Lx.pk s (i+2)=(z.toNat:Int)):=by
 rw [matchB_list _ _ _ (by show 1≤3; decide),ByteArray.toList_eq,Bool.eq_iff_iff,beq_iff_eq,decide_eq_true_iff];have hx':x.toNat≠0:=fun h=>hx (UInt8.toNat_inj.1 h)
 have hy':y.toNat≠0:=fun h=>hy (UInt8.toNat_inj.1 h)
 have hz':z.toNat≠0:=fun h=>hz (UInt8.toNat_inj.1 h)
 show ((s.data.toList.drop i).take 3=[x,y,z]) ↔ _;have p0:=pk_list s i;have p1:=pk_list s (i+1);have p2:=pk_list s (i+2);have g0:(s.data.toList.drop i)[0]?=s.data.toList[i]?:=by simp
 have g1:(s.data.toList.drop i)[1]?=s.data.toList[i+1]?:=by simp
 have g2:(s.data.toList.drop i)[2]?=s.data.toList[i+2]?:=by simp
 rw [← g0] at p0;rw [← g1] at p1;rw [← g2] at p2;rcases hr:s.data.toList.drop i with _ | ⟨c,_ | ⟨d,_ | ⟨e,r⟩⟩⟩
 · rw [hr] at p0 p1 p2; rw [p0,p1,p2]; simp; omega
 · rw [hr] at p0 p1 p2; rw [p0,p1,p2]; simp [← UInt8.toNat_inj]; omega
 · rw [hr] at p0 p1 p2; rw [p0,p1,p2]; simp [← UInt8.toNat_inj]; omega
 · rw [hr] at p0 p1 p2; rw [p0,p1,p2]; simp [← UInt8.toNat_inj]; omega
end
theorem ba_toList_inj {a b:ByteArray} (h:a.toList=b.toList):a=b:=by
 rw [ByteArray.toList_eq,ByteArray.toList_eq] at h;exact Go.WideShapes.bytes_inj h
end Go.Proofs.YtflbkdfbjofllaaGreatDoor.L
namespace Go.Proofs.YtflbkdfbjofllaaGreatDoor.L
open Go.RowKit
def hv (b:Int):Int→List UInt8→Int
 | a,[]=>a
 | a,d::l=>hv b (a * b+Lx.valB b (d.toNat:Int)) l
end Go.Proofs.YtflbkdfbjofllaaGreatDoor.L
namespace Go.Proofs.YtflbkdfbjofllaaGreatDoor.L
open Go.RowKit
def lb (l:List UInt8) (k:Nat):Int:=match l[k]? with | some b=>(b.toNat:Int) | none=>0
theorem pk_lb (s:ByteArray) (k:Nat):Lx.pk s k=lb s.data.toList k:=pk_list s k
theorem lb_left {a b:List UInt8} {k:Nat} (h:k < a.length):lb (a++b) k=lb a k:=by unfold lb; rw [List.getElem?_append_left h]
theorem size_list (s:ByteArray):s.size=s.data.toList.length:=by simp
theorem scan_run {p:Nat→Bool} (e f i:Nat) (hi:i≤e) (hf:e≤i+f) (hp:∀ k,i≤k→k < e→p k=true) (he:p e=false):Lx.scan p f i=e:=by
 induction f generalizing i with
 | zero=>have:i=e:=by omega
         subst this; rfl
 | succ f ih =>
   by_cases h:i=e
   · subst h; exact Lx.scan_no he
   · rw [Lx.scan_yes (hp i (Nat.le_refl _) (by omega))];exact ih (i+1) (by omega) (by omega) (fun k hk=>hp k (by omega))
structure NameAt (s:ByteArray) (t:List UInt8):Prop where
 all:s.data.toList=[32]++t++[32,59]
 pos:0 < t.length
 nam:∀ b∈t,Lx.inB (b.toNat:Int)=true
 fst:Lx.letB (lb t 0)=true
section
variable {s:ByteArray} {t:List UInt8}
theorem NameAt.size (h:NameAt s t):s.size=t.length+3:=by rw [size_list,h.all]; simp
theorem NameAt.p0 (h:NameAt s t):Lx.pk s 0=32:=by rw [pk_lb,h.all]; rfl
theorem NameAt.ext (h:NameAt s t) (B:ByteArray) (hB:B.data.toList=t):s.extract 1 (1+t.length)=B:=by
 apply ba_toList_inj;rw [ext_list,h.all,ByteArray.toList_eq,hB];simp
end
end Go.Proofs.YtflbkdfbjofllaaGreatDoor.L
namespace Go.Proofs.YtflbkdfbjofllaaGreatDoor.L
open Go.RowKit
theorem pk_drop (s:ByteArray) (p k:Nat):Lx.pk s (p+k)=lb (s.data.toList.drop p) k:=by
 rw [pk_lb]; unfold lb; rw [List.getElem?_drop]
end Go.Proofs.YtflbkdfbjofllaaGreatDoor.L
namespace Go.Proofs.YtflbkdfbjofllaaGreatDoor.L
open Go.RowKit
end Go.Proofs.YtflbkdfbjofllaaGreatDoor.L
namespace Go.Proofs.YtflbkdfbjofllaaGreatDoor.L
open Go.RowKit
structure Moved (s s':ByteArray) (i p:Nat) (t:List UInt8):Prop where
 a:∃ r,s.data.toList.drop i=t++r
 b:∃ c r,s'.data.toList.drop p=t++c::r∧Lx.blankB (c.toNat:Int)=true
section
variable {s s':ByteArray} {i p:Nat} {t:List UInt8}
theorem Moved.eq (h:Moved s s' i p t) {k:Nat} (hk:k < t.length):Lx.pk s' (p+k)=Lx.pk s (i+k):=by
 obtain ⟨r,ha⟩:=h.a;obtain ⟨c,r',hb,_⟩:=h.b;rw [pk_drop,pk_drop,ha,hb,lb_left hk,lb_left hk]
theorem Moved.ext (h:Moved s s' i p t):s'.extract p (p+t.length)=s.extract i (i+t.length):=by
 obtain ⟨r,ha⟩:=h.a;obtain ⟨c,r',hb,_⟩:=h.b;have e1:(s'.extract p (p+t.length)).toList=t:=by rw [ext_list,hb]; simp
 have e2:(s.extract i (i+t.length)).toList=t:=by rw [ext_list,ha]; simp
 rw [ByteArray.toList_eq] at e1 e2;exact ByteArray.ext (Array.toList_inj.1 (e1.trans e2.symm))
theorem Moved.drop (h:Moved s s' i p t) {k:Nat} (hk:k≤t.length):Moved s s' (i+k) (p+k) (t.drop k):=by
 obtain ⟨r,ha⟩:=h.a;obtain ⟨c,r',hb,hc⟩:=h.b;refine ⟨⟨r,?_⟩,⟨c,r',?_,hc⟩⟩
 · rw [← List.drop_drop,ha,List.drop_append_of_le_length hk]
 · rw [← List.drop_drop,hb,List.drop_append_of_le_length hk]
theorem digs_ge (b:Int):∀ (f k:Nat) (a:Int) (ok:Bool),k≤(Lx.digs s b f k a ok).1:=by
 intro f
 induction f with
 | zero=>intro k a ok; exact Nat.le_refl _
 | succ f ih =>
   intro k a ok;by_cases h0:0≤Lx.valB b (Lx.pk s k)
   · rw [Lx.digs_yes h0]; have:=ih (k+1) ((a * b+Lx.valB b (Lx.pk s k)) % 18446744073709551616) (ok&&decide (a≤(18446744073709551615 - Lx.valB b (Lx.pk s k)) / b)); omega
   · rw [Lx.digs_no h0]; exact Nat.le_refl _
theorem digs_moved (b:Int):∀ (f f' k k':Nat) (a:Int) (ok:Bool) (m:Nat) (v:Int) (o:Bool),Lx.digs s b f k a ok=(k+m,v,o)→(∀ q,q < m→Lx.pk s' (k'+q)=Lx.pk s (k+q))→Lx.valB b (Lx.pk s' (k'+m)) < 0→m≤f' →
    Lx.digs s' b f' k' a ok=(k'+m,v,o):=by
 intro f
 induction f with
 | zero =>
   intro f' k k' a ok m v o h hq hv hf;have h':(k,a,ok)=(k+m,v,o):=h;simp only [Prod.mk.injEq] at h';obtain ⟨h1,rfl,rfl⟩:=h';obtain rfl:m=0:=by omega
   rw [Lx.digs_no (by simpa using hv)]; rfl
 | succ f ih =>
   intro f' k k' a ok m v o h hq hv hf;by_cases h0:0≤Lx.valB b (Lx.pk s k)
   · rw [Lx.digs_yes h0] at h;have hm:=digs_ge (s:=s) b f (k+1) ((a * b+Lx.valB b (Lx.pk s k)) % 18446744073709551616) (ok&&decide (a≤(18446744073709551615 - Lx.valB b (Lx.pk s k)) / b));rw [h] at hm;simp only at hm;obtain ⟨m,rfl⟩:∃ m',m=m'+1:=⟨m - 1,by omega⟩;obtain ⟨f',rfl⟩:∃ g,f'=g+1:=⟨f' - 1,by omega⟩;have e0:Lx.pk s' k'=Lx.pk s k:=hq 0 (by omega);rw [Lx.digs_yes (by rw [e0]; exact h0),e0];rw [ih f' (k+1) (k'+1) _ _ m v o (by rw [h]; congr 1; omega) (fun q hq1=>by
      have:=hq (q+1) (by omega);rw [show k'+1+q=k'+(q+1) by omega,show k+1+q=k+(q+1) by omega]; exact this) (by rw [show k'+1+m=k'+(m+1) by omega]; exact hv) (by omega)]
     congr 1; omega
   · rw [Lx.digs_no h0] at h;simp only [Prod.mk.injEq] at h;obtain ⟨h1,rfl,rfl⟩:=h;obtain rfl:m=0:=by omega
     rw [Lx.digs_no (by simpa using hv)]; rfl
end
end Go.Proofs.YtflbkdfbjofllaaGreatDoor.L
namespace Go.Proofs.YtflbkdfbjofllaaGreatDoor.L
open Go.RowKit
def Start (s:ByteArray) (g:Nat):Prop:=Lx.blankB (Lx.pk s g)=false∧¬ (Lx.pk s g=47∧Lx.pk s (g+1)=47)∧¬ (Lx.pk s g=47∧Lx.pk s (g+1)=42)
theorem gap_start {s:ByteArray}:∀ (f i:Nat) {g:Nat},Lx.gap s f i=(g,true)→g < s.size→s.size≤i+f→Start s g:=by
 intro f
 induction f with
 | zero=>intro i g h hg hf; simp only [Lx.gap,Prod.mk.injEq] at h; omega
 | succ f ih =>
   intro i g h hg hf;by_cases h0:i < s.size
   · by_cases hb:Lx.blankB (Lx.pk s i)=true
     · rw [Lx.gap_blank h0 hb] at h; exact ih (i+1) h hg (by omega)
     · by_cases h1:Lx.pk s i=47∧Lx.pk s (i+1)=47
       · rw [Lx.gap_line h0 h1.1 h1.2] at h;have:=Lx.lineEnd_gt h0 h1.1;exact ih _ h hg (by omega)
       · by_cases h2:Lx.pk s i=47∧Lx.pk s (i+1)=42
         · rw [Lx.gap_block h0 h2.1 h2.2] at h;split at h
           · have:=Lx.blockEnd_ge s (i+2); exact ih _ h hg (by omega)
           · simp only [Prod.mk.injEq] at h; exact absurd h.2 (by decide)
         · have hb':Lx.blankB (Lx.pk s i)=false:=by simpa using hb
           rw [Lx.gap_stop hb' h1 h2] at h;simp only [Prod.mk.injEq,and_true] at h;subst h; exact ⟨hb',h1,h2⟩
   · rw [Lx.gap_end h0] at h; simp only [Prod.mk.injEq,and_true] at h; omega
theorem Start.gap {s:ByteArray} {g:Nat} (h:Start s g) (f:Nat):Lx.gap s f g=(g,true):=Lx.gap_stop h.1 h.2.1 h.2.2
def Chain (s:ByteArray):Nat→List Lx.Tk→Prop
 | _,[]=>True
 | i,t::L=>∃ g,i≤g∧g < s.size∧Start s g∧(Lx.tokenM s g).code=0∧t=Lx.tkOf s g (Lx.tokenM s g)∧Chain s (Lx.tokenM s g).j L
theorem toks_chain (s:ByteArray):∀ (f i:Nat) (acc:List Lx.Tk),i≤s.size→acc.length≤6000→∀ r,Lx.toksM s f i acc=r→(r.code=0∧r.l.length≤6000∧∃ L,r.l=acc++L∧Chain s i L)∨(r.code≠0∧r.l=[]):=by
 intro f
 induction f with
 | zero=>intro i acc hi ha r hr; subst hr; exact .inl ⟨rfl,ha,[],by rw [List.append_nil]; rfl,trivial⟩
 | succ f ih =>
   intro i acc hi ha r hr;obtain ⟨⟨g,b⟩,hg⟩:∃ r,Lx.gap s s.size i=r:=⟨_,rfl⟩;have hb:=Lx.gap_bd (s:=s) s.size i hi;rw [hg] at hb;simp only at hb;cases b
   · rw [Lx.toks_bad hg] at hr; subst hr; exact .inr ⟨show ¬ (3:Int)=0 by decide,rfl⟩
   · by_cases he:g=s.size
     · rw [Lx.toks_end hg he] at hr; subst hr; exact .inl ⟨rfl,ha,[],by rw [List.append_nil],trivial⟩
     · by_cases hc:(Lx.tokenM s g).code=0
       · by_cases hn:acc.length=6000
         · rw [Lx.toks_many hg he hc hn] at hr; subst hr; exact .inr ⟨show ¬ (6:Int)=0 by decide,rfl⟩
         · rw [Lx.toks_more hg he hc hn] at hr;have hbd:=Lx.tokenM_bd (s:=s) (i:=g) (by omega);rcases ih _ _ hbd.2.1 (by rw [List.length_append]; simp; omega) r hr with ⟨h1,h2,L,h3,h4⟩ | h
           · refine .inl ⟨h1,h2,Lx.tkOf s g (Lx.tokenM s g)::L,by rw [h3,List.append_assoc]; rfl,g,hb.1,by omega,gap_start _ _ hg (by omega) (by omega),hc,rfl,h4⟩
           · exact .inr h
       · rw [Lx.toks_wrong hg he hc] at hr; subst hr; exact .inr ⟨hc,rfl⟩
theorem chain_text {s:ByteArray} {g:Nat} (hg:g < s.size) (hc:(Lx.tokenM s g).code=0):(Lx.tokenM s g).j=g+(s.extract g (Lx.tokenM s g).j).data.toList.length∧∃ r,s.data.toList.drop g=(s.extract g (Lx.tokenM s g).j).data.toList++r:=by
 have hbd:=Lx.tokenM_bd hg;have h1:=hbd.1 hc;obtain ⟨n,hn⟩:∃ n,(Lx.tokenM s g).j=g+n:=⟨(Lx.tokenM s g).j - g,by omega⟩;have h2:=hbd.2.1;rw [hn] at h2 ⊢;have e:(s.extract g (g+n)).data.toList=(s.data.toList.drop g).take n:=by rw [← ByteArray.toList_eq]; exact ext_list s g n
 refine ⟨?_,(s.data.toList.drop g).drop n,by rw [e]; exact (List.take_append_drop n _).symm⟩;rw [e,List.length_take,List.length_drop,← size_list]; omega
theorem chain_len (s:ByteArray):∀ (L:List Lx.Tk) (i:Nat),Chain s i L→L.length≤s.size - i:=by
 intro L
 induction L with
 | nil=>intro i _; exact Nat.zero_le _
 | cons t L ih =>
   intro i h;obtain ⟨g,hg1,hg2,hS,hc,ht,hC'⟩:=h;have:=ih _ hC';have:=(Lx.tokenM_bd hg2).1 hc;rw [List.length_cons]; omega
def endOf:Nat→List Lx.Tk→Nat
 | e,[]=>e
 | _,t::L=>endOf (t.at_+t.text.size) L
theorem chain_each (s:ByteArray):∀ (L:List Lx.Tk) (i:Nat),Chain s i L→∀ (A:List Lx.Tk) (t:Lx.Tk) (B:List Lx.Tk),L=A++t::B→endOf i A≤t.at_∧t.at_+t.text.size≤s.size∧s.extract t.at_ (t.at_+t.text.size)=t.text∧0 < t.text.size:=by
 intro L
 induction L with
 | nil=>intro i _ A t B h; cases A <;> cases h
 | cons a L ih =>
   intro i h A t B hL;obtain ⟨g,hg1,hg2,hS,hc,ht,hC'⟩:=h;obtain ⟨hj,hr⟩:=chain_text hg2 hc;have hbd:=Lx.tokenM_bd hg2;have hz:(s.extract g (Lx.tokenM s g).j).size=(Lx.tokenM s g).j - g:=by
    have:=size_list (s.extract g (Lx.tokenM s g).j); omega
   have hp:=hbd.1 hc;cases A with
   | nil =>
     rw [List.nil_append] at hL;injection hL with h1 h2;subst h1;rw [ht];show i≤g∧g+(s.extract g (Lx.tokenM s g).j).size≤s.size∧s.extract g (g+(s.extract g (Lx.tokenM s g).j).size)=s.extract g (Lx.tokenM s g).j∧0 < (s.extract g (Lx.tokenM s g).j).size;rw [hz,show g+((Lx.tokenM s g).j - g)=(Lx.tokenM s g).j by omega];exact ⟨hg1,hbd.2.1,rfl,by omega⟩
   | cons a' A =>
     rw [List.cons_append] at hL;injection hL with h1 h2;subst h1;have:=ih _ hC' A t B h2;have he:a.at_+a.text.size=(Lx.tokenM s g).j:=by
      rw [ht];show g+(s.extract g (Lx.tokenM s g).j).size=_;omega
     show endOf (a.at_+a.text.size) A≤_∧_;rw [he]; exact this
theorem first_tokens (s:ByteArray) (hs:s.size≤600):(∃ L,Lx.tokensM s=⟨L,0,0⟩∧Chain s 0 L∧L.length≤600)∨(∃ c p,Lx.tokensM s=⟨[],c,p⟩∧c≠0):=by
 obtain ⟨r,hr⟩:∃ r,Lx.tokensM s=r:=⟨_,rfl⟩;have hr':=hr;unfold Lx.tokensM at hr';rw [if_neg (by omega)] at hr';rcases toks_chain s _ 0 [] (Nat.zero_le _) (by simp) r hr' with ⟨h1,h2,L,h3,h4⟩ | ⟨h1,h2⟩
 · left;have h5:=chain_len s L 0 h4;obtain ⟨l,c,p⟩:=r;simp only at h1 h2 h3;subst h1;have hp:p=0:=by
    have key:∀ (f i:Nat) (acc:List Lx.Tk),(Lx.toksM s f i acc).code=0→(Lx.toksM s f i acc).pos=0:=by
     intro f
     induction f with
     | zero=>intro i acc _; rfl
     | succ f ih =>
       intro i acc;rw [Lx.toksM]
       (repeat' split) <;> intro h <;> first | rfl | exact ih _ _ h | (exact absurd h (show ¬ (3:Int)=0 by decide)) | (exact absurd h (show ¬ (6:Int)=0 by decide)) | (exact absurd h (by assumption))
    have:=key (s.size+1) 0 [] (by rw [hr']);rw [hr'] at this; exact this
   subst hp;exact ⟨L,by rw [hr,h3,List.nil_append],h4,by omega⟩
 · right;obtain ⟨l,c,p⟩:=r;simp only at h1 h2;subst h2;exact ⟨c,p,hr,h1⟩
end Go.Proofs.YtflbkdfbjofllaaGreatDoor.L
namespace Go.Proofs.YtflbkdfbjofllaaGreatDoor.L
open Go.RowKit
structure Pre (s s':ByteArray):Prop where
 le:s'.size≤s.size
 eq:∀ k,k < s'.size→Lx.pk s' k=Lx.pk s k
 ext:∀ i j,j≤s'.size→s'.extract i j=s.extract i j
theorem pre_of (s:ByteArray) (n:Nat) (hn:n≤s.size):Pre s (s.extract 0 n):=by
 have hz:(s.extract 0 n).size=n:=by rw [ByteArray.size_extract]; omega
 have hl:(s.extract 0 n).data.toList=s.data.toList.take n:=by
  have:=ext_list s 0 n;rw [ByteArray.toList_eq,Nat.zero_add,List.drop_zero] at this;exact this
 refine ⟨by omega,fun k hk=>?_,fun i j hj=>?_⟩
 · rw [pk_lb,pk_lb,hl];unfold lb;rw [List.getElem?_take_of_lt (by omega)]
 · apply ByteArray.ext;apply Array.toList_inj.1;have e1:∀ x:ByteArray,(x.extract i j).data.toList=(x.data.toList.drop i).take (j - i):=fun x=>by
    rw [ByteArray.data_extract,Array.toList_extract,List.extract_eq_take_drop]
   rw [e1,e1,hl,List.drop_take,List.take_take]
   congr 1
   omega
section
variable {s s':ByteArray}
theorem Pre.or (h:Pre s s') (k:Nat):(k < s'.size∧Lx.pk s' k=Lx.pk s k)∨(s'.size≤k∧Lx.pk s' k=0):=by
 rcases Nat.lt_or_ge k s'.size with h1 | h1
 · exact .inl ⟨h1,h.eq k h1⟩
 · exact .inr ⟨h1,Lx.pk_ge (by omega)⟩
theorem in0:Lx.inB 0=false:=by decide
theorem val0 (b:Int):Lx.valB b 0 < 0:=by
 have hd:Lx.digB 0=false:=by decide
 unfold Lx.valB;rw [hd,if_neg (by decide),if_neg (by omega),if_neg (by omega)]; decide
theorem pre_name (h:Pre s s') {i e:Nat} (he:Lx.nameEnd s i=e) (hn:e≤s'.size) (hi:i≤e):Lx.nameEnd s' i=e:=by
 refine scan_run e s'.size i hi (by omega) (fun k h1 h2=>?_) ?_
 · have:=Lx.scan_all (Lx.nameP s) s.size i k h1 (by have:Lx.scan (Lx.nameP s) s.size i=e:=he
                                                    omega)
   unfold Lx.nameP at this ⊢;rw [h.eq k (by omega)]; exact this
 · have hend:=Lx.scan_end (Lx.nameP s) s.size s.size i (by omega) (fun k hk=>Lx.nameP_ge s k hk);rw [show Lx.scan (Lx.nameP s) s.size i=e from he] at hend;unfold Lx.nameP at hend ⊢;rcases h.or e with ⟨_,h1⟩ | ⟨_,h1⟩
   · rw [h1]; exact hend
   · rw [h1]; exact in0
theorem digs_stop (b:Int):∀ (f k:Nat) (a:Int) (ok:Bool),s.size≤k+f→Lx.valB b (Lx.pk s (Lx.digs s b f k a ok).1) < 0:=by
 intro f
 induction f with
 | zero=>intro k a ok h; show Lx.valB b (Lx.pk s k) < 0; rw [Lx.pk_ge (by omega)]; exact val0 b
 | succ f ih =>
   intro k a ok h;by_cases h0:0≤Lx.valB b (Lx.pk s k)
   · rw [Lx.digs_yes h0]; exact ih _ _ _ (by omega)
   · rw [Lx.digs_no h0]; show Lx.valB b (Lx.pk s k) < 0; omega
theorem pre_digs (h:Pre s s') {b:Int} {k e:Nat} {a v:Int} {ok o:Bool} (hd:Lx.digs s b s.size k a ok=(e,v,o)) (hn:e≤s'.size):Lx.digs s' b s'.size k a ok=(e,v,o):=by
 have hke:=digs_ge (s:=s) b s.size k a ok;rw [hd] at hke;simp only at hke;obtain ⟨m,rfl⟩:∃ m,e=k+m:=⟨e - k,by omega⟩;refine digs_moved b s.size s'.size k k a ok m v o hd (fun q hq=>h.eq _ (by omega)) ?_ (by omega);have hs:=digs_stop (s:=s) b s.size k a ok (by omega);rw [hd] at hs;rcases h.or (k+m) with ⟨_,h1⟩ | ⟨_,h1⟩
 · rw [h1]; exact hs
 · rw [h1]; exact val0 b
theorem pre_digM (h:Pre s s') {b:Int} {k:Nat} (hk:k < s'.size) (hn:(Lx.digM s b k).1≤s'.size):Lx.digM s' b k=Lx.digM s b k:=by
 unfold Lx.digM at hn ⊢;rw [h.eq k hk];split
 · rfl
 · next hc =>
   rw [if_neg hc] at hn;obtain ⟨⟨e,v,o⟩,hd⟩:∃ r,Lx.digs s b s.size k 0 true=r:=⟨_,rfl⟩;rw [hd] at hn ⊢;exact pre_digs h hd hn
theorem pre_suf (h:Pre s s') {k:Nat} (hn:k+Lx.sufLen s k≤s'.size):Lx.sufLen s' k=Lx.sufLen s k∧Lx.sufStr s' k=Lx.sufStr s k:=by
 by_cases h1:Lx.pk s k=117
 · by_cases h2:Lx.pk s (k+1)=108
   · have hl:Lx.sufLen s k=2:=by unfold Lx.sufLen; rw [if_pos h1,if_pos h2]
     have e1:=h.eq k (by omega);have e2:=h.eq (k+1) (by omega);unfold Lx.sufLen Lx.sufStr;rw [e1,e2]; exact ⟨rfl,rfl⟩
   · have hl:Lx.sufLen s k=1:=by unfold Lx.sufLen; rw [if_pos h1,if_neg h2]
     have e1:=h.eq k (by omega);have e2:¬ Lx.pk s' (k+1)=108:=by
      rcases h.or (k+1) with ⟨_,h3⟩ | ⟨_,h3⟩
      · rw [h3]; exact h2
      · rw [h3]; decide
     unfold Lx.sufLen Lx.sufStr;rw [e1,if_pos h1,if_pos h1,if_pos h1,if_pos h1,if_neg e2,if_neg h2,if_neg e2,if_neg h2]; exact ⟨rfl,rfl⟩
 · by_cases h2:Lx.pk s k=108
   · have hl:Lx.sufLen s k=1:=by unfold Lx.sufLen; rw [if_neg h1,if_pos h2]
     have e1:=h.eq k (by omega);unfold Lx.sufLen Lx.sufStr;rw [e1,if_neg h1,if_neg h1,if_neg h1,if_neg h1]; exact ⟨rfl,rfl⟩
   · have e1:¬ Lx.pk s' k=117∧¬ Lx.pk s' k=108:=by
      rcases h.or k with ⟨_,h3⟩ | ⟨_,h3⟩
      · rw [h3]; exact ⟨h1,h2⟩
      · rw [h3]; exact ⟨by decide,by decide⟩
     unfold Lx.sufLen Lx.sufStr;rw [if_neg e1.1,if_neg e1.2,if_neg h1,if_neg h2,if_neg e1.1,if_neg e1.2,if_neg h1,if_neg h2]; exact ⟨rfl,rfl⟩
theorem pre_tail (h:Pre s s') {b:Int} {k:Nat} {hex:Bool} (hk:k < s'.size) (hc:(Lx.tailM s b k hex).code=0) (hj:(Lx.tailM s b k hex).j≤s'.size):Lx.tailM s' b k hex=Lx.tailM s b k hex:=by
 have hC:Lx.nCode s b k=0:=by
  unfold Lx.tailM at hc;by_cases h0:Lx.nCode s b k=0
  · exact h0
  · rw [if_neg h0] at hc; exact hc
 have hE:Lx.nEnd s b k≤s'.size:=by
  unfold Lx.tailM at hj; rw [if_pos hC] at hj; exact hj
 have hd:=pre_digM h (b:=b) hk (by unfold Lx.nEnd at hE; omega);have hs:=pre_suf h (k:=(Lx.digM s b k).1) hE;have e1:Lx.nEnd s' b k=Lx.nEnd s b k:=by unfold Lx.nEnd; rw [hd,hs.1]
 have e2:Lx.nCode s' b k=Lx.nCode s b k:=by
  have hi:Lx.inB (Lx.pk s (Lx.nEnd s b k))=false:=by
   unfold Lx.nCode at hC;split at hC
   · exact absurd hC (by decide)
   · next hh=>simpa using hh
  unfold Lx.nCode;rw [e1,hd,hi];rcases h.or (Lx.nEnd s b k) with ⟨_,h3⟩ | ⟨_,h3⟩
  · rw [h3,hi]
  · rw [h3,in0]
 unfold Lx.tailM;rw [e1,e2,hd,hs.2]
theorem pre_number (h:Pre s s') {i:Nat} (hi:i < s'.size) (hc:(Lx.numberM s i).code=0) (hj:(Lx.numberM s i).j≤s'.size) (hgt:i < (Lx.numberM s i).j):Lx.numberM s' i=Lx.numberM s i:=by
 unfold Lx.numberM at hc hj hgt ⊢;rw [h.eq i hi];by_cases hx:Lx.pk s i=48∧Lx.pk s (i+1)=120
 · rw [if_pos hx] at hc hj hgt ⊢;by_cases hv:Lx.valB 16 (Lx.pk s (i+2)) < 0
   · rw [if_pos hv] at hc; exact absurd hc (show ¬ (3:Int)=0 by decide)
   · rw [if_neg hv] at hc hj hgt ⊢;have h2:i+2 < (Lx.tailM s 16 (i+2) true).j:=by
      have hC:Lx.nCode s 16 (i+2)=0:=by
       unfold Lx.tailM at hc;by_cases h0:Lx.nCode s 16 (i+2)=0
       · exact h0
       · rw [if_neg h0] at hc; exact hc
      have hlt:=Lx.valB_in (s:=s) (b:=16) (k:=i+2) (by omega);have hg:=Lx.digs_gt (s:=s) (b:=16) (k:=i+2) (n:=0) (ok:=true) hlt (by omega) ⟨by decide,by decide⟩;unfold Lx.tailM;rw [if_pos hC];show i+2 < Lx.nEnd s 16 (i+2);unfold Lx.nEnd Lx.digM;rw [if_neg (by omega)];omega
     rw [h.eq (i+1) (by omega),if_pos hx,h.eq (i+2) (by omega),if_neg hv];exact pre_tail h (by omega) hc hj
 · rw [if_neg hx] at hc hj hgt ⊢;have hx':¬ (Lx.pk s i=48∧Lx.pk s' (i+1)=120):=by
    rcases h.or (i+1) with ⟨_,h3⟩ | ⟨_,h3⟩
    · rw [h3]; exact hx
    · rw [h3]; intro hh; exact absurd hh.2 (by decide)
   rw [if_neg hx'];exact pre_tail h hi hc hj
theorem pre_ch (h:Pre s s') {i:Nat} (hc:(Lx.chM s i).1=0) (hj:i+(Lx.chM s i).2.1≤s'.size):Lx.chM s' i=Lx.chM s i:=by
 have key:∀ n,i+n≤s'.size→(∀ q,q < n→Lx.pk s' (i+q)=Lx.pk s (i+q)):=fun n hn q hq=>h.eq _ (by omega)
 by_cases h1:Lx.pk s (i+1)=92
 · by_cases h2:Lx.pk s (i+2)=110∨Lx.pk s (i+2)=48∨Lx.pk s (i+2)=92∨Lx.pk s (i+2)=39
   · by_cases h3:Lx.pk s (i+3)=39
     · have hl:(Lx.chM s i).2.1=4:=by unfold Lx.chM; rw [if_pos h1,if_pos h2,if_pos h3]
       rw [hl] at hj;unfold Lx.chM;rw [key 4 hj 1 (by omega),key 4 hj 2 (by omega),key 4 hj 3 (by omega)]
     · unfold Lx.chM at hc; rw [if_pos h1,if_pos h2,if_neg h3] at hc; exact absurd hc (show ¬ (3:Int)=0 by decide)
   · unfold Lx.chM at hc; rw [if_pos h1,if_neg h2] at hc; exact absurd hc (show ¬ (3:Int)=0 by decide)
 · by_cases h2:Lx.pk s (i+1) < 32∨126 < Lx.pk s (i+1)∨Lx.pk s (i+1)=39
   · unfold Lx.chM at hc; rw [if_neg h1,if_pos h2] at hc; exact absurd hc (show ¬ (3:Int)=0 by decide)
   · by_cases h3:Lx.pk s (i+2)=39
     · have hl:(Lx.chM s i).2.1=3:=by unfold Lx.chM; rw [if_neg h1,if_neg h2,if_pos h3]
       rw [hl] at hj;unfold Lx.chM;rw [key 3 hj 1 (by omega),key 3 hj 2 (by omega),if_neg h1,if_neg h1]
     · unfold Lx.chM at hc; rw [if_neg h1,if_neg h2,if_neg h3] at hc; exact absurd hc (show ¬ (3:Int)=0 by decide)
theorem sign_cut (c d e d' e':Int) (h1:1 < Lx.signM c d e→d'=d) (h2:2 < Lx.signM c d e→e'=e) (hd:d'=d∨d'=0) (he:e'=e∨e'=0):Lx.signM c d' e'=Lx.signM c d e:=by
 rcases hd with rfl | rfl
 · rcases he with rfl | rfl
   · rfl
   · unfold Lx.signM at h2 ⊢
     (repeat' split) <;> (repeat' split at h2) <;> omega
 · unfold Lx.signM at h1 h2 ⊢
   (repeat' split) <;> (repeat' split at h1) <;> omega
theorem pre_token (h:Pre s s') {i:Nat} (hi:i < s'.size) (hc:(Lx.tokenM s i).code=0) (hj:(Lx.tokenM s i).j≤s'.size):Lx.tokenM s' i=Lx.tokenM s i:=by
 have hbd:=Lx.tokenM_bd (s:=s) (i:=i) (by have:=h.le; omega);have hgt:=hbd.1 hc;have e0:=h.eq i hi;by_cases hL:Lx.letB (Lx.pk s i)=true
 · unfold Lx.tokenM at hj hc hgt ⊢;rw [if_pos hL] at hj hc hgt ⊢;simp only at hj hc hgt ⊢;have h1:=pre_name h rfl hj (by omega);rw [if_pos (by rw [e0]; exact hL),h1];unfold Lx.nameM;rw [h.ext i _ hj]
 · by_cases hD:Lx.digB (Lx.pk s i)=true
   · unfold Lx.tokenM at hj hc hgt ⊢;rw [if_neg hL,if_pos hD] at hj hc hgt ⊢;rw [if_neg (by rw [e0]; exact hL),if_pos (by rw [e0]; exact hD)];exact pre_number h hi hc hj hgt
   · by_cases hQ:Lx.pk s i=39
     · unfold Lx.tokenM at hj hc hgt ⊢;rw [if_neg hL,if_neg hD,if_pos hQ] at hj hc hgt ⊢;rw [if_neg (by rw [e0]; exact hL),if_neg (by rw [e0]; exact hD),if_pos (by rw [e0]; exact hQ)];have hch:=pre_ch h hc hj;unfold Lx.chK;rw [hch]
     · unfold Lx.tokenM at hj hc hgt ⊢;rw [if_neg hL,if_neg hD,if_neg hQ] at hj hc hgt ⊢;rw [if_neg (by rw [e0]; exact hL),if_neg (by rw [e0]; exact hD),if_neg (by rw [e0]; exact hQ)];by_cases hz:Lx.signM (Lx.pk s i) (Lx.pk s (i+1)) (Lx.pk s (i+2))=0
       · rw [if_pos hz] at hc; exact absurd hc (show ¬ (3:Int)=0 by decide)
       · rw [if_neg hz] at hj ⊢;simp only at hj ⊢;have hs:Lx.signM (Lx.pk s' i) (Lx.pk s' (i+1)) (Lx.pk s' (i+2))=Lx.signM (Lx.pk s i) (Lx.pk s (i+1)) (Lx.pk s (i+2)):=by
          rw [e0];exact sign_cut _ _ _ _ _ (fun hh=>h.eq _ (by omega)) (fun hh=>h.eq _ (by omega)) ((h.or (i+1)).imp (fun x=>x.2) (fun x=>x.2)) ((h.or (i+2)).imp (fun x=>x.2) (fun x=>x.2))
         rw [hs,if_neg hz]
theorem pre_gap (h:Pre s s'):∀ (f f' i:Nat) {g:Nat},Lx.gap s f i=(g,true)→g≤s'.size→s'.size≤i+f'→s.size≤i+f→Lx.gap s' f' i=(g,true):=by
 intro f
 induction f with
 | zero =>
   intro f' i g hg hn hf hs;simp only [Lx.gap,Prod.mk.injEq,and_true] at hg;subst hg;have:=h.le;exact Lx.gap_end (by omega)
 | succ f ih =>
   intro f' i g hg hn hf hs;have hle:=h.le;have hbd:=Lx.gap_bd (s:=s) (f+1) i;by_cases h0:i < s'.size
   · have hi:i < s.size:=by omega
     have hbd:=hbd (by omega);rw [hg] at hbd;simp only at hbd;have e0:=h.eq i h0;obtain ⟨f',rfl⟩:∃ q,f'=q+1:=⟨f' - 1,by omega⟩;by_cases hb:Lx.blankB (Lx.pk s i)=true
     · rw [Lx.gap_blank hi hb] at hg;rw [Lx.gap_blank h0 (by rw [e0]; exact hb)];exact ih f' (i+1) hg hn (by omega) (by omega)
     have hb':Lx.blankB (Lx.pk s i)=false:=by simpa using hb
     by_cases h1:Lx.pk s i=47∧Lx.pk s (i+1)=47
     · rw [Lx.gap_line hi h1.1 h1.2] at hg;have hgt:=Lx.lineEnd_gt hi h1.1;have hi1:i+1 < s.size:=Lx.pk_in (by rw [h1.2]; decide);have hgt2:i+1 < Lx.lineEnd s i:=by
        rcases Nat.lt_or_ge (i+1) (Lx.lineEnd s i) with hh | hh
        · exact hh
        · have e:Lx.lineEnd s i=i+1:=by omega
          have hend:=Lx.scan_end (Lx.lineP s) s.size s.size i (by omega) (fun k hk=>Lx.lineP_ge s k hk);rw [show Lx.scan (Lx.lineP s) s.size i=i+1 from e] at hend;unfold Lx.lineP at hend;rw [decide_eq_true hi1,h1.2] at hend;exact absurd hend (by decide)
       have hbe:=Lx.gap_bd (s:=s) f (Lx.lineEnd s i) (Lx.lineEnd_le (by omega));rw [hg] at hbe;simp only at hbe;have hle':Lx.lineEnd s' i=Lx.lineEnd s i:=by
        refine scan_run (Lx.lineEnd s i) s'.size i (by omega) (by omega) (fun k k1 k2=>?_) ?_
        · have:=Lx.scan_all (Lx.lineP s) s.size i k k1 k2;unfold Lx.lineP at this ⊢;rw [h.eq k (by omega),decide_eq_true (by omega)];rw [decide_eq_true (by omega)] at this;exact this
        · have hend:=Lx.scan_end (Lx.lineP s) s.size s.size i (by omega) (fun k hk=>Lx.lineP_ge s k hk);rw [show Lx.scan (Lx.lineP s) s.size i=Lx.lineEnd s i from rfl] at hend;unfold Lx.lineP at hend ⊢;rcases h.or (Lx.lineEnd s i) with ⟨k1,k2⟩ | ⟨k1,k2⟩
          · rw [k2,decide_eq_true k1];rw [decide_eq_true (by omega)] at hend;exact hend
          · rw [decide_eq_false (by omega)]; rfl
       rw [Lx.gap_line h0 (by rw [e0]; exact h1.1) (by rw [h.eq (i+1) (by omega)]; exact h1.2),hle'];exact ih f' _ hg hn (by omega) (by omega)
     by_cases h2:Lx.pk s i=47∧Lx.pk s (i+1)=42
     · rw [Lx.gap_block hi h2.1 h2.2] at hg;by_cases hbk:Lx.blockEnd s (i+2)+1 < s.size
       · rw [if_pos hbk] at hg;have hge:=Lx.blockEnd_ge s (i+2);have hbe:=Lx.gap_bd (s:=s) f (Lx.blockEnd s (i+2)+2) (by omega);rw [hg] at hbe;simp only at hbe;have hle':Lx.blockEnd s' (i+2)=Lx.blockEnd s (i+2):=by
          refine scan_run (Lx.blockEnd s (i+2)) s'.size (i+2) (by omega) (by omega) (fun k k1 k2=>?_) ?_
          · have:=Lx.scan_all (Lx.blockP s) s.size (i+2) k k1 k2;unfold Lx.blockP at this ⊢;rw [h.eq k (by omega),h.eq (k+1) (by omega),decide_eq_true (by omega)];rw [decide_eq_true (by omega)] at this;exact this
          · have hend:=Lx.scan_end (Lx.blockP s) s.size s.size (i+2) (by omega) (fun k hk=>Lx.blockP_ge s k (by omega));rw [show Lx.scan (Lx.blockP s) s.size (i+2)=Lx.blockEnd s (i+2) from rfl] at hend;unfold Lx.blockP at hend ⊢;rw [h.eq _ (by omega),h.eq (Lx.blockEnd s (i+2)+1) (by omega),decide_eq_true (by omega)];rw [decide_eq_true hbk] at hend;exact hend
         rw [Lx.gap_block h0 (by rw [e0]; exact h2.1) (by rw [h.eq (i+1) (by omega)]; exact h2.2),hle',if_pos (by omega)];exact ih f' _ hg hn (by omega) (by omega)
       · rw [if_neg hbk] at hg;simp only [Prod.mk.injEq] at hg;exact absurd hg.2 (by decide)
     rw [Lx.gap_stop hb' h1 h2] at hg;simp only [Prod.mk.injEq,and_true] at hg;subst hg;refine Lx.gap_stop (by rw [e0]; exact hb') ?_ ?_
     · rw [e0];rcases h.or (i+1) with ⟨_,h3⟩ | ⟨_,h3⟩
       · rw [h3]; exact h1
       · rw [h3]; intro hh; exact absurd hh.2 (by decide)
     · rw [e0];rcases h.or (i+1) with ⟨_,h3⟩ | ⟨_,h3⟩
       · rw [h3]; exact h2
       · rw [h3]; intro hh; exact absurd hh.2 (by decide)
   · by_cases hi:i≤s.size
     · have hbd:=hbd hi;rw [hg] at hbd;simp only at hbd;have:g=i:=by omega
       subst this;exact Lx.gap_end (by omega)
     · rw [Lx.gap_end (by omega)] at hg;simp only [Prod.mk.injEq,and_true] at hg;subst hg;exact Lx.gap_end (by omega)
theorem chain_ge (s:ByteArray):∀ (L:List Lx.Tk) (i:Nat),Chain s i L→∀ t∈L,i≤t.at_:=by
 intro L
 induction L with
 | nil=>intro i _ t ht; cases ht
 | cons a L ih =>
   intro i h t ht;obtain ⟨g,hg1,hg2,hS,hc,hta,hC'⟩:=h;rcases List.mem_cons.1 ht with rfl | ht
   · rw [hta]; exact hg1
   · have:=ih _ hC' t ht;have:=(Lx.tokenM_bd hg2).1 hc;omega
theorem cut_toks (h:Pre s s'):∀ (f f' i:Nat) (acc R:List Lx.Tk) (m:Nat) (t:Lx.Tk),Lx.toksM s f i acc=⟨R,0,0⟩→i≤s'.size→s'.size < i+f'→acc.length≤6000→acc.length≤m→R[m]?=some t→t.at_=s'.size→Lx.toksM s' f' i acc=⟨R.take m,0,0⟩:=by
 intro f
 induction f with
 | zero =>
   intro f' i acc R m t hR hi hf hl hm ht hat;have e:acc=R:=by injection hR
   subst e;rw [List.getElem?_eq_none hm] at ht; cases ht
 | succ f ih =>
   intro f' i acc R m t hR hi hf hl hm ht hat;have hle:=h.le;obtain ⟨⟨g,b⟩,hg⟩:∃ r,Lx.gap s s.size i=r:=⟨_,rfl⟩;have hb:=Lx.gap_bd (s:=s) s.size i (by omega);rw [hg] at hb;simp only at hb;obtain ⟨f',rfl⟩:∃ q,f'=q+1:=⟨f' - 1,by omega⟩;cases b with
   | false=>rw [Lx.toks_bad hg] at hR; injection hR with _ h2; exact absurd h2 (by decide)
   | true =>
     by_cases he:g=s.size
     · rw [Lx.toks_end hg he] at hR;have e:acc=R:=by injection hR
       subst e;rw [List.getElem?_eq_none hm] at ht; cases ht
     · by_cases hc:(Lx.tokenM s g).code=0
       · by_cases hn:acc.length=6000
         · rw [Lx.toks_many hg he hc hn] at hR; injection hR with _ h2; exact absurd h2 (by decide)
         · rw [Lx.toks_more hg he hc hn] at hR;have hbd:=Lx.tokenM_bd (s:=s) (i:=g) (by omega);have hjg:=hbd.1 hc;rcases toks_chain s f _ _ hbd.2.1 (by rw [List.length_append,List.length_singleton]; omega) _ hR with ⟨_,_,L,hL,hC⟩ | ⟨hbad,_⟩
           · simp only at hL;by_cases hlm:acc.length=m
             · have e:R[m]?=some (Lx.tkOf s g (Lx.tokenM s g)):=by
                rw [hL,List.append_assoc,List.getElem?_append_right (by omega),hlm,Nat.sub_self]; rfl
               rw [e] at ht;injection ht with ht;have hgn:g=s'.size:=by rw [← hat,← ht]; rfl
               have hg':=pre_gap h s.size s'.size i hg (by omega) (by omega) (by omega);rw [Lx.toks_end hg' hgn];have:R.take m=acc:=by rw [hL,List.append_assoc,← hlm,List.take_left]
               rw [this]
             · have hmL:t∈L:=by
                have e:R[m]?=L[m - (acc.length+1)]?:=by
                 rw [hL,List.getElem?_append_right (by rw [List.length_append,List.length_singleton]; omega),List.length_append,List.length_singleton]
                rw [e] at ht;exact List.mem_of_getElem? ht
               have hge:=chain_ge s L _ hC t hmL;have hg':=pre_gap h s.size s'.size i hg (by omega) (by omega) (by omega);have htk:=pre_token h (i:=g) (by omega) hc (by omega);have htk2:Lx.tkOf s' g (Lx.tokenM s g)=Lx.tkOf s g (Lx.tokenM s g):=by
                unfold Lx.tkOf;rw [h.ext g _ (by omega)]
               rw [Lx.toks_more hg' (by omega) (by rw [htk]; exact hc) hn,htk,htk2];exact ih f' _ _ R m t hR (by omega) (by omega) (by rw [List.length_append,List.length_singleton]; omega) (by rw [List.length_append,List.length_singleton]; omega) ht hat
           · exact absurd rfl hbad
       · rw [Lx.toks_wrong hg he hc] at hR; injection hR with _ h2; exact absurd h2 hc
end
end Go.Proofs.YtflbkdfbjofllaaGreatDoor.L
namespace Go.Proofs.YtflbkdfbjofllaaGreatDoor.Sy
open Go.RowKit Lx
def tw (t:Tk):Nat:=400+t.text.size
def twL:List Tk→Nat
 | []=>0
 | t::l=>tw t+twL l
section
variable (C:Cx)
def phi (σ:St):Nat:=twL (C.T.drop σ.at_)
structure Tks (C:Cx):Prop where
 ok:∀ t∈C.T,tkOk t=true
 short:∀ t∈C.T,t.text.size≤900000
 few:C.T.length≤10000
end
variable {C:Cx}
theorem phi_lt {σ:St} (h:σ.at_ < C.T.length):phi C σ=tw (peekM C σ 0)+phi C (nextM C σ):=by
 unfold phi;rw [next_at h,List.drop_eq_getElem_cons h];unfold peekM;simp only [Nat.add_zero,List.getD_eq_getElem?_getD,List.getElem?_eq_getElem h,Option.getD_some];rfl
theorem twL_drop (l:List Tk) (n m:Nat):twL (l.drop (n+m))≤twL (l.drop n):=by
 induction m with
 | zero=>exact Nat.le_refl _
 | succ m ih =>
   refine Nat.le_trans ?_ ih;rw [← Nat.add_assoc];by_cases h:n+m < l.length
   · rw [List.drop_eq_getElem_cons h]; exact Nat.le_add_left _ _
   · rw [List.drop_eq_nil_of_le (by omega)]; exact Nat.zero_le _
theorem phi_at {σ τ:St} (h:σ.at_≤τ.at_):phi C τ≤phi C σ:=by
 unfold phi;obtain ⟨m,hm⟩:∃ m,τ.at_=σ.at_+m:=⟨τ.at_ - σ.at_,by omega⟩;rw [hm]; exact twL_drop _ _ _
theorem phi_mo {σ τ:St} (h:Mo C σ τ):phi C τ≤phi C σ:=phi_at h.at_
theorem phi_gt {σ τ:St} (h:σ.at_≤τ.at_) (hp:phi C τ < phi C σ):σ.at_ < τ.at_:=by
 rcases Nat.lt_or_ge σ.at_ τ.at_ with h1 | h1
 · exact h1
 · have e:τ.at_=σ.at_:=by omega
   unfold phi at hp;rw [e] at hp;omega
theorem is_phi {σ:St} {t:ByteArray} (h:isM C σ t=true) (ht:(nt==t)=false):phi C σ=400+t.size+phi C (nextM C σ):=by
 rw [phi_lt (is_lt h ht)];have e:(peekM C σ 0).text=t:=eq_of_beq h;unfold tw;rw [e]
theorem fail_code {σ:St} {c a:Int} (hc:c≠0):(failM C σ c a).code≠0:=by
 intro e;have e':(if σ.code=0 then c else σ.code)=0:=e;split at e'
 · exact hc e'
 · next hn=>exact hn e'
theorem lost_code {σ:St}:(lostM C σ).code≠0:=fail_code (by decide)
theorem want_phi {σ:St} {t:ByteArray} (h:(wantM C σ t).code=0) (ht:(nt==t)=false):phi C σ=400+t.size+phi C (wantM C σ t):=by
 unfold wantM at h ⊢;by_cases hi:isM C σ t=true
 · rw [if_pos hi]; exact is_phi hi ht
 · rw [if_neg hi] at h; exact absurd h lost_code
theorem peek_kind {σ:St} (h:(peekM C σ 0).kind≠0):σ.at_ < C.T.length:=by
 apply Classical.byContradiction;intro hn;apply h;unfold peekM;rw [List.getD_eq_getElem?_getD,List.getElem?_eq_none (by omega)];rfl
theorem peek_ok (hT:Tks C) (σ:St):0≤(peekM C σ 0).num∧(peekM C σ 0).num≤18446744073709551615:=by
 by_cases h:σ.at_ < C.T.length
 · have h1:=hT.ok _ (List.getElem_mem h);unfold tkOk at h1;rw [decide_eq_true_eq] at h1;have e:peekM C σ 0=C.T[σ.at_]:=by unfold peekM; rw [Nat.add_zero,List.getD_eq_getElem?_getD,List.getElem?_eq_getElem h]; rfl
   rw [e]; exact h1.2.2
 · have e:peekM C σ 0=⟨0,C.en,nt,nt,0,false⟩:=by unfold peekM; rw [List.getD_eq_getElem?_getD,List.getElem?_eq_none (by omega)]; rfl
   rw [e]; exact ⟨Int.le_refl _,by show (0:Int)≤18446744073709551615; decide⟩
theorem txt_le (hT:Tks C) (σ:St):(txt C σ).size≤900000:=by
 by_cases h:σ.at_ < C.T.length
 · have h1:=hT.short _ (List.getElem_mem h);have e:peekM C σ 0=C.T[σ.at_]:=by unfold peekM; rw [Nat.add_zero,List.getD_eq_getElem?_getD,List.getElem?_eq_getElem h]; rfl
   unfold txt;rw [e]; exact h1
 · have e:peekM C σ 0=⟨0,C.en,nt,nt,0,false⟩:=by unfold peekM; rw [List.getD_eq_getElem?_getD,List.getElem?_eq_none (by omega)]; rfl
   unfold txt;rw [e]; exact Nat.zero_le _
theorem phi_txt {σ:St} (h:σ.at_ < C.T.length):phi C σ=400+(txt C σ).size+phi C (nextM C σ):=phi_lt h
theorem txt_lt {σ:St} {p:ByteArray→Bool} (h:p (txt C σ)=true) (hp:p nt=false):σ.at_ < C.T.length:=by
 apply Classical.byContradiction;intro hn;unfold txt peekM at h;rw [List.getD_eq_getElem?_getD,List.getElem?_eq_none (by omega)] at h;simp only [Option.getD_none] at h;rw [h] at hp; cases hp
theorem name_phi {σ:St} (h:(nameM C σ).2.code=0):phi C σ=400+(nameM C σ).1.size+phi C (nameM C σ).2:=by
 unfold nameM at h ⊢;by_cases hk:(peekM C σ 0).kind=1
 · rw [if_pos hk]; exact phi_txt (peek_kind (by rw [hk]; decide))
 · rw [if_neg hk] at h; exact absurd h lost_code
theorem name_le (hT:Tks C) (σ:St):(nameM C σ).1.size≤900000:=by
 unfold nameM;split
 · exact txt_le hT σ
 · exact Nat.zero_le _
def tyW (t:Ty):Nat:=t.base.size+t.stars.toNat
theorem bits_le (t:ByteArray):(bitsM t).size≤2:=by
 unfold bitsM
 (repeat' split) <;> exact of_decide_eq_true rfl
theorem cat_size (a b:ByteArray):(a++b).size=a.size+b.size:=ByteArray.size_append
theorem base_phi {σ:St} (ht:typedM C σ=true) (h:(baseM C σ).2.code=0):(baseM C σ).1.size+300+phi C (baseM C σ).2≤phi C σ:=by
 have h1:=phi_txt (typed_lt ht);have hn:=Mo.next (Mo.refl (Nat.le_of_lt (typed_lt ht)) (C:=C));unfold baseM at h ⊢;simp only at h ⊢;split
 · show 4+300+phi C (nextM C σ)≤_; omega
 · next ha =>
   rw [if_neg ha] at h;split
   · next hb =>
     rw [if_pos hb] at h;have h2:=name_phi h;show (⟨#[83,46]⟩++(nameM C (nextM C σ)).1:ByteArray).size+300+_≤_;rw [cat_size];show 2+_+300+phi C (nameM C (nextM C σ)).2≤_;omega
   · next hb =>
     rw [if_neg hb] at h;split
     · split
       · show 3+300+phi C (nextM C σ)≤_; omega
       · have h3:=bits_le (txt C (nextM C σ));have h4:=phi_mo (Mo.next (Mo.refl hn.le));show (⟨#[117]⟩++bitsM (txt C (nextM C σ)):ByteArray).size+300+_≤_;rw [cat_size];show 1+_+300+phi C (nextM C (nextM C σ))≤_;omega
     · split
       · show (⟨#[84,46]⟩++txt C σ:ByteArray).size+300+_≤_;rw [cat_size];show 2+_+300+phi C (nextM C σ)≤_;omega
       · have h3:=bits_le (txt C σ);show (⟨#[105]⟩++bitsM (txt C σ):ByteArray).size+300+_≤_;rw [cat_size];show 1+_+300+phi C (nextM C σ)≤_;omega
theorem base_le (hT:Tks C) (σ:St):(baseM C σ).1.size≤900002:=by
 have h1:=txt_le hT σ;have h2:=name_le hT (nextM C σ);have h3:=bits_le (txt C (nextM C σ));have h4:=bits_le (txt C σ);unfold baseM;simp only
 (repeat' split)
 · show 4≤_; omega
 · show (⟨#[83,46]⟩++(nameM C (nextM C σ)).1:ByteArray).size≤_;rw [cat_size]; show 2+_≤_; omega
 · show 3≤_; omega
 · show (⟨#[117]⟩++bitsM (txt C (nextM C σ)):ByteArray).size≤_;rw [cat_size]; show 1+_≤_; omega
 · show (⟨#[84,46]⟩++txt C σ:ByteArray).size≤_;rw [cat_size]; show 2+_≤_; omega
 · show (⟨#[105]⟩++bitsM (txt C σ):ByteArray).size≤_;rw [cat_size]; show 1+_≤_; omega
theorem stars_phi:∀ (f:Nat) (σ:St) (n:Int),0≤n→n≤(starsM C f σ n).1∧(starsM C f σ n).1≤n+f∧(starsM C f σ n).1.toNat+phi C (starsM C f σ n).2≤n.toNat+phi C σ
 | 0,σ,n,h=>⟨Int.le_refl _,by unfold starsM; simp only; omega,by unfold starsM; simp only; omega⟩
 | f+1,σ,n,h=>by
   unfold starsM;split
   · next hi =>
     obtain ⟨h1,h2,h3⟩:=stars_phi f (nextM C σ) (n+1) (by omega);have h4:=is_phi hi (show (nt==(⟨#[42]⟩:ByteArray))=false from rfl);exact ⟨by omega,by omega,by omega⟩
   · exact ⟨Int.le_refl _,by simp only; omega,by simp only; omega⟩
theorem typ_phi (hT:Tks C) {σ:St} (h:(typM C σ).2.code=0):(0≤(typM C σ).1.stars∧(typM C σ).1.stars≤1000000)∧tyW (typM C σ).1+300+phi C (typM C σ).2≤phi C σ:=by
 unfold typM at h ⊢;by_cases ht:typedM C σ=true
 · rw [if_pos ht] at h ⊢;have hf:=hT.few;have hb:(baseM C σ).2.code=0:=(Mo.stars C.T.length (baseM C σ).2 0 (Mo.refl (Mo.base (Mo.refl (Nat.le_of_lt (typed_lt ht)) (C:=C))).le)).code h;obtain ⟨h1,h2,h3⟩:=stars_phi (C:=C) C.T.length (baseM C σ).2 0 (Int.le_refl _);have h4:=base_phi ht hb;refine ⟨⟨h1,by show (starsM C C.T.length (baseM C σ).2 0).1≤_; omega⟩,?_⟩;unfold tyW;show (baseM C σ).1.size+(starsM C C.T.length (baseM C σ).2 0).1.toNat+300+phi C (starsM C C.T.length (baseM C σ).2 0).2≤_;have e:(0:Int).toNat=0:=rfl;rw [e] at h3;omega
 · rw [if_neg ht] at h; exact absurd h lost_code
theorem number_phi (hT:Tks C) {σ:St} (hs:σ.at_≤C.T.length):(0≤(numberM C σ).2.1∧(numberM C σ).2.1≤18446744073709551615)∧phi C (numberM C σ).2.2≤phi C σ:=by
 refine ⟨?_,phi_mo (Mo.number (Mo.refl hs))⟩;unfold numberM;simp only;split
 · split
   · exact peek_ok hT _
   · exact ⟨Int.le_refl _,by show (0:Int)≤_; decide⟩
 · exact ⟨Int.le_refl _,by show (0:Int)≤_; decide⟩
mutual
def wE:Ex→Nat
 | .mk kind op name ty num arr subs=>80+op.size+name.size+tyW ty+wEs subs
def wEs:List Ex→Nat
 | []=>0
 | e::t=>wE e+wEs t
end
theorem wEs_app (a b:List Ex):wEs (a++b)=wEs a+wEs b:=by
 induction a with
 | nil=>simp only [List.nil_append,wEs,Nat.zero_add]
 | cons e t ih=>simp only [List.cons_append,wEs,ih,Nat.add_assoc]
theorem okEs_app (a b:List Ex):okEs (a++b)=(okEs a&&okEs b):=by
 induction a with
 | nil=>simp only [List.nil_append,okEs,Bool.true_and]
 | cons e t ih=>simp only [List.cons_append,okEs,ih,Bool.and_assoc]
theorem ok_mk {kind:Int} {op name:ByteArray} {ty:Ty} {num:Int} {arr:Bool} {subs:List Ex} (hk:1≤kind∧kind≤14) (hs:0≤ty.stars∧ty.stars≤1000000) (hn:0≤num∧num≤18446744073709551615) (hb:okEs subs=true) :
    okE (.mk kind op name ty num arr subs)=true:=by
 simp only [okE,okN];rw [hb,decide_eq_true hk,decide_eq_true ⟨hs.1,hs.2,hn.1,hn.2⟩];rfl
theorem ok_0 {kind:Int} {op name:ByteArray} {subs:List Ex} (hk:1≤kind∧kind≤14) (hb:okEs subs=true):okE (.mk kind op name ty0 0 false subs)=true :=
 ok_mk hk ⟨Int.le_refl _,by show (0:Int)≤_; decide⟩ ⟨Int.le_refl _,by decide⟩ hb
theorem okEs1 {a:Ex} (h:okE a=true):okEs [a]=true:=by simp only [okEs,h]; rfl
theorem okEs2 {a b:Ex} (h:okE a=true) (g:okE b=true):okEs [a,b]=true:=by simp only [okEs,h,g]; rfl
theorem okEs3 {a b c:Ex} (h:okE a=true) (g:okE b=true) (k:okE c=true):okEs [a,b,c]=true:=by simp only [okEs,h,g,k]; rfl
theorem wE_0 (kind:Int) (op name:ByteArray) (subs:List Ex):wE (.mk kind op name ty0 0 false subs)=80+op.size+name.size+wEs subs:=by simp only [wE]; rfl
theorem wEs1 (a:Ex):wEs [a]=wE a:=by simp only [wEs]; rfl
theorem wEs2 (a b:Ex):wEs [a,b]=wE a+wE b:=by simp only [wEs]; rfl
theorem wEs3 (a b c:Ex):wEs [a,b,c]=wE a+(wE b+wE c):=by simp only [wEs]; rfl
theorem nt_size:nt.size=0:=rfl
theorem wE_ge (e:Ex):80≤wE e:=by
 cases e; simp only [wE]; omega
theorem wE_subs (e:Ex):80+wEs e.subs≤wE e:=by
 cases e; simp only [wE,Ex.subs]; omega
theorem okE_subs {e:Ex} (h:okE e=true):okEs e.subs=true:=by
 cases e;simp only [okE,Bool.and_eq_true] at h;exact h.2.2
theorem numType_size {k:Tk} {t:ByteArray} (h:numType k=some t):t.size≤3:=by
 unfold numType at h
 (repeat' split at h) <;> first | (injection h with h; subst h; exact of_decide_eq_true rfl) | cases h
theorem numberType_phi {σ:St} {k:Tk} (h:(numberTypeM C σ k).2.code=0):(numberTypeM C σ k).2=σ∧(numberTypeM C σ k).1.stars=0∧(numberTypeM C σ k).1.base.size≤3:=by
 unfold numberTypeM at h ⊢;split
 · next t ht=>exact ⟨rfl,rfl,numType_size ht⟩
 · next hn=>rw [hn] at h; exact absurd h (fail_code (by decide))
theorem prime_phi (hT:Tks C) {σ:St} (hs:σ.at_≤C.T.length) (h:(primeM C σ).2.code=0):okE (primeM C σ).1=true∧wE (primeM C σ).1+phi C (primeM C σ).2≤phi C σ:=by
 have hn:=peek_ok hT σ;unfold primeM at h ⊢;simp only at h ⊢;split
 · next hk =>
   rw [if_pos hk] at h;have h0:(numberTypeM C σ (peekM C σ 0)).2.code=0:=(Mo.next (Mo.refl (Mo.numberType (Mo.refl hs) _).le)).code h;obtain ⟨e1,e2,e3⟩:=numberType_phi h0;have hp:=phi_txt (C:=C) (peek_kind (σ:=σ) (by rw [hk]; decide));refine ⟨ok_mk ⟨by decide,by decide⟩ ⟨by rw [e2]; exact Int.le_refl _,by rw [e2]; decide⟩ hn rfl,?_⟩;simp only;rw [e1];simp only [wE,tyW,wEs];rw [e2,nt_size];show 80+0+0+((numberTypeM C σ (peekM C σ 0)).1.base.size+0)+0+_≤_;omega
 · next hk =>
   rw [if_neg hk] at h;split
   · next hk2 =>
     have hp:=phi_txt (C:=C) (peek_kind (σ:=σ) (by rw [hk2]; decide));refine ⟨ok_mk ⟨by decide,by decide⟩ ⟨by show (0:Int)≤0; decide,by show (0:Int)≤_; decide⟩ hn rfl,?_⟩;simp only [wE,tyW,wEs];show 80+0+0+(3+0)+0+phi C (nextM C σ)≤_;omega
   · next hk2 =>
     rw [if_neg hk2] at h;split
     · next hk3 =>
       have hp:=phi_txt (C:=C) (peek_kind (σ:=σ) (by rw [hk3]; decide));refine ⟨ok_0 ⟨by decide,by decide⟩ rfl,?_⟩;simp only;rw [wE_0];have e:(peekM C σ 0).text=txt C σ:=rfl;rw [e,nt_size];simp only [wEs];omega
     · next hk3 =>
       rw [if_neg hk3] at h;exact absurd ((Mo.next (Mo.refl (Nat.le_refl _)) (C:=C)).code h) lost_code
theorem size_phi (hT:Tks C) {σ:St} (hs:σ.at_≤C.T.length) (hi:isM C σ ⟨#[115,105,122,101,111,102]⟩=true) (h:(sizeM C σ).2.code=0):okE (sizeM C σ).1=true∧wE (sizeM C σ).1+phi C (sizeM C σ).2≤phi C σ:=by
 have r:=Mo.refl hs (C:=C);unfold sizeM at h ⊢;simp only at h ⊢;have m4:=((r.next.want ⟨#[40]⟩).typ).number;have h4:=((Mo.refl m4.le).want _).code h;have m3:=(r.next.want ⟨#[40]⟩).typ;have h3:=((Mo.refl m3.le).number).code h4;have n1:=typ_phi hT h3;have n2:=number_phi hT m3.le;have n3:=is_phi hi rfl;have n4:=phi_mo ((Mo.refl r.next.le).want ⟨#[40]⟩);have n5:=phi_mo ((Mo.refl m4.le).want ⟨#[41]⟩);refine ⟨ok_mk ⟨by decide,by decide⟩ n1.1 n2.1 rfl,?_⟩;simp only [wE,wEs];rw [nt_size];omega
def need:Job→Nat
 | .bin _=>2
 | .cond=>3
 | .expr=>4
 | _=>1
def okJ:Job→Bool
 | .bin l=>decide (1≤l)
 | .binL l e=>decide (1≤l)&&okE e
 | .post e=>okE e
 | .args e=>okE e
 | _=>true
def wJ:Job→Nat
 | .binL _ l=>wE l
 | .post e=>wE e
 | .args e=>wE e
 | _=>0
theorem ok_1 {kind:Int} {op name:ByteArray} {x:Ex} (hk:1≤kind∧kind≤14) (hx:okE x=true):okJ (.post (.mk kind op name ty0 0 false [x]))=true:=ok_0 (op:=op) (name:=name) hk (okEs1 hx)
theorem ok_2 {kind:Int} {op name:ByteArray} {x y:Ex} (hk:1≤kind∧kind≤14) (hx:okE x=true) (hy:okE y=true):okJ (.args (.mk kind op name ty0 0 false [x,y]))=true:=ok_0 (op:=op) (name:=name) hk (okEs2 hx hy)
theorem ok_n {kind:Int} {op name:ByteArray} {l:List Ex} (hk:1≤kind∧kind≤14) (hx:okEs l=true):okJ (.args (.mk kind op name ty0 0 false l))=true:=ok_0 (op:=op) (name:=name) hk hx
def EOk (C:Cx) (f:Nat) (j:Job) (σ:St):Prop :=
 σ.at_≤C.T.length→10 * (C.T.length - σ.at_)+need j≤f→okJ j=true→(E C f j σ).2.code=0→okE (E C f j σ).1=true∧wE (E C f j σ).1+phi C (E C f j σ).2≤phi C σ+wJ j
theorem binEx_ok {op:ByteArray} {l r:Ex} (hl:okE l=true) (hr:okE r=true):okE (binEx op l r)=true∧wE (binEx op l r)≤80+op.size+wE l+wE r:=by
 unfold binEx
 (repeat' split)
 · exact ⟨ok_0 ⟨by decide,by decide⟩ (okEs2 hl hr),by rw [wE_0,wEs2,nt_size]; omega⟩
 · exact ⟨ok_0 ⟨by decide,by decide⟩ (okEs2 hl hr),by rw [wE_0,wEs2,nt_size]; omega⟩
 · exact ⟨ok_0 ⟨by decide,by decide⟩ (okEs2 hl hr),by rw [wE_0,wEs2,nt_size]; omega⟩
theorem E_ok (hT:Tks C):∀ (f:Nat) (j:Job) (σ:St),EOk C f j σ
 | 0,j,σ=>fun _ hf=>absurd hf (by cases j <;> simp only [need] <;> omega)
 | f+1,j,σ=>fun hs hf hj hc=>by
   have r:=Mo.refl hs (C:=C);have ih:∀ (j:Job) (τ:St),EOk C f j τ:=fun j τ=>E_ok hT f j τ
   have mo:∀ {τ:St} (j:Job),τ.at_≤C.T.length→Mo C τ (E C f j τ).2:=fun j k=>E_mo f j _ k
   cases j with
   | expr =>
     unfold E at hc ⊢;simp only at hc ⊢;have m1:=mo .cond hs;by_cases ha:assigns (txt C (E C f .cond σ).2)=true
     · rw [if_pos ha] at hc ⊢;have ha1:=txt_lt ha rfl;have m2:=Mo.next (Mo.refl m1.le);have m3:=mo .expr m2.le;have c2:=m3.code hc;have c1:=m2.code c2;obtain ⟨o1,w1⟩:=ih .cond σ hs (by simp only [need] at hf ⊢; omega) rfl c1;have g1:=phi_gt (C:=C) m1.at_ (by have:=wE_ge (E C f .cond σ).1; simp only [wJ] at w1; omega);have p1:=phi_txt ha1;have g2:=next_at ha1;obtain ⟨o2,w2⟩:=ih .expr _ m2.le (by simp only [need] at hf ⊢; omega) rfl hc;refine ⟨ok_0 ⟨by decide,by decide⟩ (okEs2 o1 o2),?_⟩;rw [wE_0,wEs2,nt_size];simp only [wJ] at *;omega
     · rw [if_neg ha] at hc ⊢;obtain ⟨o1,w1⟩:=ih .cond σ hs (by simp only [need] at hf ⊢; omega) rfl hc;exact ⟨o1,w1⟩
   | cond =>
     unfold E at hc ⊢;simp only at hc ⊢;have m1:=mo (.bin 1) hs;by_cases ha:isM C (E C f (.bin 1) σ).2 ⟨#[63]⟩=true
     · rw [if_pos ha] at hc ⊢;simp only at hc ⊢;have ha1:=is_lt ha rfl;have m2:=Mo.next (Mo.refl m1.le);have m3:=mo .expr m2.le;have m4:=(Mo.refl m3.le).want ⟨#[58]⟩;have m5:=mo .cond m4.le;have c4:=m5.code hc;have c3:=m4.code c4;have c2:=m3.code c3;have c1:=m2.code c2;obtain ⟨o1,w1⟩:=ih (.bin 1) σ hs (by simp only [need] at hf ⊢; omega) rfl c1;have g1:=phi_gt (C:=C) m1.at_ (by have:=wE_ge (E C f (.bin 1) σ).1; simp only [wJ] at w1; omega);have p1:=is_phi ha rfl;have g2:=next_at ha1;obtain ⟨o2,w2⟩:=ih .expr _ m2.le (by simp only [need] at hf ⊢; omega) rfl c3;have a3:=m3.at_;have a4:=m4.at_;have p4:=phi_mo m4;obtain ⟨o3,w3⟩:=ih .cond _ m4.le (by simp only [need] at hf ⊢; omega) rfl hc;refine ⟨ok_0 ⟨by decide,by decide⟩ (okEs3 o1 o2 o3),?_⟩;rw [wE_0,wEs3,nt_size];simp only [wJ] at *;omega
     · rw [if_neg ha] at hc ⊢;obtain ⟨o1,w1⟩:=ih (.bin 1) σ hs (by simp only [need] at hf ⊢; omega) rfl hc;exact ⟨o1,w1⟩
   | bin l =>
     unfold E at hc ⊢;simp only at hc ⊢;have hl:1≤l:=of_decide_eq_true hj;have m1:=mo .unary hs;have m2:=mo (.binL l (E C f .unary σ).1) m1.le;have c1:=m2.code hc;obtain ⟨o1,w1⟩:=ih .unary σ hs (by simp only [need] at hf ⊢; omega) rfl c1;have g1:=phi_gt (C:=C) m1.at_ (by have:=wE_ge (E C f .unary σ).1; simp only [wJ] at w1; omega);obtain ⟨o2,w2⟩:=ih (.binL l (E C f .unary σ).1) _ m1.le (by simp only [need] at hf ⊢; omega) (by simp only [okJ]; rw [o1,decide_eq_true hl]; rfl) hc;refine ⟨o2,?_⟩;simp only [wJ] at *;omega
   | binL l x =>
     simp only [okJ] at hj;rw [Bool.and_eq_true,decide_eq_true_eq] at hj;obtain ⟨hl1,hx⟩:=hj;unfold E at hc ⊢;by_cases hl:levelM (txt C σ) < l
     · rw [if_pos hl] at hc ⊢;exact ⟨hx,by simp only [wJ]; omega⟩
     · rw [if_neg hl] at hc ⊢;simp only at hc ⊢;have m1:=Mo.next r;have m2:=mo (.bin (levelM (txt C σ)+1)) m1.le;have m3:=mo (.binL l (binEx (txt C σ) x (E C f (.bin (levelM (txt C σ)+1)) (nextM C σ)).1)) m2.le;have c2:=m3.code hc;have hlt:σ.at_ < C.T.length:=txt_lt (p:=fun t=>decide (levelM t≠0)) (decide_eq_true (by omega)) rfl;have g1:=next_at hlt;have p1:=phi_txt hlt;obtain ⟨o1,w1⟩:=ih (.bin (levelM (txt C σ)+1)) _ m1.le (by simp only [need] at hf ⊢; omega) (decide_eq_true (by omega)) c2;obtain ⟨b1,b2⟩:=binEx_ok (op:=txt C σ) hx o1;have a2:=m2.at_;obtain ⟨o2,w2⟩:=ih (.binL l (binEx (txt C σ) x (E C f (.bin (levelM (txt C σ)+1)) (nextM C σ)).1)) _ m2.le (by simp only [need] at hf ⊢; omega) (by simp only [okJ]; rw [b1,decide_eq_true hl1]; rfl) hc;refine ⟨o2,?_⟩;simp only [wJ] at *;omega
   | unary =>
     unfold E at hc ⊢;simp only at hc ⊢;by_cases h1:unOps (txt C σ)=true
     · rw [if_pos h1] at hc ⊢;have hlt:=txt_lt h1 rfl;have p1:=phi_txt hlt;have g1:=next_at hlt;obtain ⟨o1,w1⟩:=ih .unary _ r.next.le (by simp only [need] at hf ⊢; omega) rfl hc;refine ⟨ok_0 ⟨by decide,by decide⟩ (okEs1 o1),?_⟩;rw [wE_0,wEs1,nt_size];simp only [wJ] at *;omega
     rw [if_neg h1] at hc ⊢;by_cases h2:isM C σ ⟨#[115,105,122,101,111,102]⟩=true
     · rw [if_pos h2] at hc ⊢;obtain ⟨o1,w1⟩:=size_phi hT hs h2 hc;exact ⟨o1,by simp only [wJ]; omega⟩
     rw [if_neg h2] at hc ⊢;by_cases h3:isM C σ ⟨#[40]⟩=true
     · rw [if_pos h3] at hc ⊢;have hlt:=is_lt h3 rfl;have p1:=is_phi h3 rfl;have g1:=next_at hlt;by_cases h4:typedM C (nextM C σ)=true
       · rw [if_pos h4] at hc ⊢;simp only at hc ⊢;have m1:=(Mo.refl r.next.le (C:=C)).typ;have m2:=(Mo.refl m1.le).want ⟨#[41]⟩;have m3:=mo .unary m2.le;have c2:=m3.code hc;have c1:=m2.code c2;have t1:=typ_phi hT c1;have a1:=m1.at_;have a2:=m2.at_;have p2:=phi_mo m2;obtain ⟨o1,w1⟩:=ih .unary _ m2.le (by simp only [need] at hf ⊢; omega) rfl hc;refine ⟨ok_mk ⟨by decide,by decide⟩ t1.1 ⟨Int.le_refl _,by decide⟩ (okEs1 o1),?_⟩;rw [show ∀ (t:Ty) (x:Ex),wE (.mk 13 nt nt t 0 false [x])=80+tyW t+wE x from fun t x=>by simp only [wE,wEs,nt_size]; omega];have z1:wJ .unary=0:=rfl;rw [z1] at w1;have z2:wJ .unary=0:=rfl;show _≤_+0;omega
       · rw [if_neg h4] at hc ⊢;have m1:=mo .expr r.next.le;have m2:=(Mo.refl m1.le).want ⟨#[41]⟩;have m3:=mo (.post (E C f .expr (nextM C σ)).1) m2.le;have c2:=m3.code hc;have c1:=m2.code c2;have a1:=m1.at_;have a2:=m2.at_;have p2:=phi_mo m2;obtain ⟨o1,w1⟩:=ih .expr _ r.next.le (by simp only [need] at hf ⊢; omega) rfl c1;obtain ⟨o2,w2⟩:=ih (.post (E C f .expr (nextM C σ)).1) _ m2.le (by simp only [need] at hf ⊢; omega) o1 hc;refine ⟨o2,?_⟩;simp only [wJ] at *;omega
     rw [if_neg h3] at hc ⊢;have m1:=Mo.prime r;have m2:=mo (.post (primeM C σ).1) m1.le;have c1:=m2.code hc;obtain ⟨o1,w1⟩:=prime_phi hT hs c1;have g1:=phi_gt (C:=C) m1.at_ (by have:=wE_ge (primeM C σ).1; omega);have l1:=m1.le;obtain ⟨o2,w2⟩:=ih (.post (primeM C σ).1) _ m1.le (by simp only [need] at hf ⊢; omega) o1 hc;refine ⟨o2,?_⟩;simp only [wJ] at *;omega
   | post x =>
     have hx:okE x=true:=hj;unfold E at hc ⊢;by_cases h1:isM C σ ⟨#[91]⟩=true
     · rw [if_pos h1] at hc ⊢;simp only at hc ⊢;have hlt:=is_lt h1 rfl;have p1:=is_phi h1 rfl;have g1:=next_at hlt;have m1:=mo .expr r.next.le;have m2:=(Mo.refl m1.le).want ⟨#[93]⟩;have m3:=mo (.post (.mk 9 nt nt ty0 0 false [x,(E C f .expr (nextM C σ)).1])) m2.le;have c2:=m3.code hc;have c1:=m2.code c2;have a1:=m1.at_;have a2:=m2.at_;have p2:=phi_mo m2;obtain ⟨o1,w1⟩:=ih .expr _ r.next.le (by simp only [need] at hf ⊢; omega) rfl c1;have o3:okE (.mk 9 nt nt ty0 0 false [x,(E C f .expr (nextM C σ)).1])=true:=ok_0 ⟨by decide,by decide⟩ (okEs2 hx o1);obtain ⟨o2,w2⟩:=ih (.post (.mk 9 nt nt ty0 0 false [x,(E C f .expr (nextM C σ)).1])) _ m2.le (by simp only [need] at hf ⊢; omega) o3 hc;refine ⟨o2,?_⟩;simp only [wJ] at *;rw [wE_0,wEs2,nt_size] at w2;omega
     rw [if_neg h1] at hc ⊢;by_cases h2:isM C σ ⟨#[46]⟩=true
     · rw [if_pos h2] at hc ⊢;simp only at hc ⊢;have hlt:=is_lt h2 rfl;have p1:=is_phi h2 rfl;have g1:=next_at hlt;have m1:=(Mo.refl r.next.le (C:=C)).name;have m3:=mo (.post (.mk 10 nt (nameM C (nextM C σ)).1 ty0 0 false [x])) m1.le;have c1:=m3.code hc;have p2:=name_phi c1;have a1:=m1.at_;obtain ⟨o2,w2⟩:=ih (.post (.mk 10 nt (nameM C (nextM C σ)).1 ty0 0 false [x])) _ m1.le (by simp only [need] at hf ⊢; omega) (ok_1 ⟨by decide,by decide⟩ hx) hc;refine ⟨o2,?_⟩;simp only [wJ] at *;rw [wE_0,wEs1,nt_size] at w2;omega
     rw [if_neg h2] at hc ⊢;by_cases h3:isM C σ ⟨#[45,62]⟩=true
     · rw [if_pos h3] at hc ⊢;simp only at hc ⊢;have hlt:=is_lt h3 rfl;have p1:=is_phi h3 rfl;have g1:=next_at hlt;have m1:=(Mo.refl r.next.le (C:=C)).name;have m3:=mo (.post (.mk 11 nt (nameM C (nextM C σ)).1 ty0 0 false [x])) m1.le;have c1:=m3.code hc;have p2:=name_phi c1;have a1:=m1.at_;obtain ⟨o2,w2⟩:=ih (.post (.mk 11 nt (nameM C (nextM C σ)).1 ty0 0 false [x])) _ m1.le (by simp only [need] at hf ⊢; omega) (ok_1 ⟨by decide,by decide⟩ hx) hc;refine ⟨o2,?_⟩;simp only [wJ] at *;rw [wE_0,wEs1,nt_size] at w2;omega
     rw [if_neg h3] at hc ⊢;by_cases h4:isM C σ ⟨#[40]⟩=true
     · rw [if_pos h4] at hc ⊢;have hlt:=is_lt h4 rfl;have p1:=is_phi h4 rfl;have g1:=next_at hlt;by_cases h5:isM C (nextM C σ) ⟨#[41]⟩=true
       · rw [if_pos h5] at hc ⊢;have m1:=Mo.next (Mo.refl r.next.le (C:=C));have a1:=m1.at_;have p2:=phi_mo m1;obtain ⟨o2,w2⟩:=ih (.post (.mk 12 nt nt ty0 0 false [x])) _ m1.le (by simp only [need] at hf ⊢; omega) (ok_1 ⟨by decide,by decide⟩ hx) hc;refine ⟨o2,?_⟩;simp only [wJ] at *;rw [wE_0,wEs1,nt_size] at w2;omega
       · rw [if_neg h5] at hc ⊢;simp only at hc ⊢;have m1:=mo .expr r.next.le;have m2:=mo (.args (.mk 12 nt nt ty0 0 false [x,(E C f .expr (nextM C σ)).1])) m1.le;have m3:=(Mo.refl m2.le).want ⟨#[41]⟩;have m4:=mo (.post (E C f (.args (.mk 12 nt nt ty0 0 false [x,(E C f .expr (nextM C σ)).1])) (E C f .expr (nextM C σ)).2).1) m3.le;have c3:=m4.code hc;have c2:=m3.code c3;have c1:=m2.code c2;have a1:=m1.at_;have a2:=m2.at_;have a3:=m3.at_;have p3:=phi_mo m3;obtain ⟨o1,w1⟩:=ih .expr _ r.next.le (by simp only [need] at hf ⊢; omega) rfl c1;obtain ⟨o2,w2⟩:=ih (.args (.mk 12 nt nt ty0 0 false [x,(E C f .expr (nextM C σ)).1])) _ m1.le (by simp only [need] at hf ⊢; omega) (ok_2 ⟨by decide,by decide⟩ hx o1) c2;obtain ⟨o3,w3⟩:=ih (.post (E C f (.args (.mk 12 nt nt ty0 0 false [x,(E C f .expr (nextM C σ)).1])) (E C f .expr (nextM C σ)).2).1) _ m3.le (by simp only [need] at hf ⊢; omega) o2 hc;refine ⟨o3,?_⟩;simp only [wJ] at *;rw [wE_0,wEs2,nt_size] at w2;omega
     rw [if_neg h4] at hc ⊢;exact ⟨hx,by simp only [wJ]; omega⟩
   | args x =>
     have hx:okE x=true:=hj;unfold E at hc ⊢;by_cases h1:isM C σ ⟨#[44]⟩=true
     · rw [if_pos h1] at hc ⊢;simp only at hc ⊢;have hlt:=is_lt h1 rfl;have p1:=is_phi h1 rfl;have g1:=next_at hlt;have m1:=mo .expr r.next.le;have m2:=mo (.args (.mk 12 nt nt ty0 0 false (x.subs++[(E C f .expr (nextM C σ)).1]))) m1.le;have c1:=m2.code hc;have a1:=m1.at_;obtain ⟨o1,w1⟩:=ih .expr _ r.next.le (by simp only [need] at hf ⊢; omega) rfl c1;have o3:okEs (x.subs++[(E C f .expr (nextM C σ)).1])=true:=by rw [okEs_app,okE_subs hx,okEs1 o1]; rfl
       obtain ⟨o2,w2⟩:=ih (.args (.mk 12 nt nt ty0 0 false (x.subs++[(E C f .expr (nextM C σ)).1]))) _ m1.le (by simp only [need] at hf ⊢; omega) (ok_n ⟨by decide,by decide⟩ o3) hc;refine ⟨o2,?_⟩;have hsub:=wE_subs x;simp only [wJ] at *;rw [wE_0,wEs_app,wEs1,nt_size] at w2;omega
     · rw [if_neg h1] at hc ⊢;exact ⟨hx,by simp only [wJ]; omega⟩
theorem exprM_ok (hT:Tks C) {σ:St} (hs:σ.at_≤C.T.length) (hc:(exprM C σ).2.code=0):okE (exprM C σ).1=true∧wE (exprM C σ).1+phi C (exprM C σ).2≤phi C σ:=by
 have h:=E_ok hT (fuel C σ) .expr σ hs (by simp only [need,fuel]; omega) rfl hc;exact ⟨h.1,by have:=h.2; simp only [wJ,Nat.add_zero] at this; exact this⟩
theorem condM_ok (hT:Tks C) {σ:St} (hs:σ.at_≤C.T.length) (hc:(condM C σ).2.code=0):okE (condM C σ).1=true∧wE (condM C σ).1+phi C (condM C σ).2≤phi C σ:=by
 have h:=E_ok hT (fuel C σ) .cond σ hs (by simp only [need,fuel]; omega) rfl hc;exact ⟨h.1,by have:=h.2; simp only [wJ,Nat.add_zero] at this; exact this⟩
end Go.Proofs.YtflbkdfbjofllaaGreatDoor.Sy
namespace Go.Proofs.YtflbkdfbjofllaaGreatDoor.Sy
open Go.RowKit Lx
variable {C:Cx}
def wV (v:Vr):Nat:=v.name.size+tyW v.ty
def wO:Option Ex→Nat
 | none=>0
 | some e=>wE e
mutual
def wS:Sm→Nat
 | .mk kind v name minus num e0 e1 e2 body=>100+wV v+name.size+wO e0+wO e1+wO e2+wSs body
def wSs:List Sm→Nat
 | []=>0
 | e::t=>wS e+wSs t
end
theorem wSs_app (a b:List Sm):wSs (a++b)=wSs a+wSs b:=by
 induction a with
 | nil=>simp only [List.nil_append,wSs,Nat.zero_add]
 | cons e t ih=>simp only [List.cons_append,wSs,ih,Nat.add_assoc]
theorem okSs_app (a b:List Sm):okSs (a++b)=(okSs a&&okSs b):=by
 induction a with
 | nil=>simp only [List.nil_append,okSs,Bool.true_and]
 | cons e t ih=>simp only [List.cons_append,okSs,ih,Bool.and_assoc]
theorem wSs1 (a:Sm):wSs [a]=wS a:=by simp only [wSs]; rfl
theorem wSs2 (a b:Sm):wSs [a,b]=wS a+wS b:=by simp only [wSs]; rfl
theorem okSs1 {a:Sm} (h:okS a=true):okSs [a]=true:=by simp only [okSs,h]; rfl
theorem okSs2 {a b:Sm} (h:okS a=true) (g:okS b=true):okSs [a,b]=true:=by simp only [okSs,h,g]; rfl
theorem vr0_w:wV vr0=0:=rfl
theorem okS_mk {kind:Int} {v:Vr} {name:ByteArray} {minus:Bool} {num:Int} {e0 e1 e2:Option Ex} {body:List Sm} (hk:1≤kind∧kind≤16) (hv:0≤v.ty.stars∧v.ty.stars≤1000000) (hv2:0≤v.num∧v.num≤18446744073709551615) (hn:0≤num∧num≤18446744073709551615)
    (h0:okO e0=true) (h1:okO e1=true) (h2:okO e2=true) (hb:okSs body=true):okS (.mk kind v name minus num e0 e1 e2 body)=true:=by
 simp only [okS,okN];rw [h0,h1,h2,hb,decide_eq_true hk,decide_eq_true ⟨hv.1,hv.2,hv2.1,hv2.2⟩,decide_eq_true ⟨Int.le_refl _,(by decide:(0:Int)≤1000000),hn.1,hn.2⟩];rfl
theorem okS_0 {kind:Int} {name:ByteArray} {minus:Bool} {e0 e1 e2:Option Ex} {body:List Sm} (hk:1≤kind∧kind≤16) (h0:okO e0=true) (h1:okO e1=true) (h2:okO e2=true) (hb:okSs body=true):okS (.mk kind vr0 name minus 0 e0 e1 e2 body)=true :=
 okS_mk hk ⟨Int.le_refl _,by show (0:Int)≤_; decide⟩ ⟨Int.le_refl _,by show (0:Int)≤_; decide⟩ ⟨Int.le_refl _,by decide⟩ h0 h1 h2 hb
theorem wS_0 (kind:Int) (name:ByteArray) (minus:Bool) (num:Int) (e0 e1 e2:Option Ex) (body:List Sm):wS (.mk kind vr0 name minus num e0 e1 e2 body)=100+name.size+wO e0+wO e1+wO e2+wSs body:=by simp only [wS,vr0_w,Nat.add_zero]
theorem asked_ok (hT:Tks C) {σ:St} (hs:σ.at_≤C.T.length) (hc:(askedM C σ).2.code=0):okE (askedM C σ).1=true∧wE (askedM C σ).1+phi C (askedM C σ).2≤phi C σ:=by
 unfold askedM at hc ⊢;simp only at hc ⊢;have m1:=(Mo.refl hs (C:=C)).want ⟨#[40]⟩;have m2:=exprM_mo (Mo.refl m1.le);have m3:=(Mo.refl m2.le).want ⟨#[41]⟩;obtain ⟨o1,w1⟩:=exprM_ok hT m1.le (m3.code hc);have p1:=phi_mo m1;have p3:=phi_mo m3;exact ⟨o1,by omega⟩
theorem part_ok (hT:Tks C) {σ:St} (t:ByteArray) (hs:σ.at_≤C.T.length) (hc:(partM C σ t).2.code=0):okO (partM C σ t).1=true∧wO (partM C σ t).1+phi C (partM C σ t).2≤phi C σ:=by
 unfold partM at hc ⊢;simp only at hc ⊢;by_cases h:isM C σ t=true
 · rw [if_pos h] at hc ⊢;exact ⟨rfl,by have:=phi_mo ((Mo.refl hs (C:=C)).want t); simp only [wO]; omega⟩
 · rw [if_neg h] at hc ⊢;have m2:=exprM_mo (Mo.refl hs (C:=C));have m3:=(Mo.refl m2.le).want t;obtain ⟨o1,w1⟩:=exprM_ok hT hs (m3.code hc);have p3:=phi_mo m3;exact ⟨o1,by simp only [wO]; omega⟩
theorem let_ok (hT:Tks C) {σ:St} (hs:σ.at_≤C.T.length) (hc:(letM C σ).2.code=0):okS (letM C σ).1=true∧wS (letM C σ).1+phi C (letM C σ).2≤phi C σ:=by
 unfold letM at hc ⊢;simp only at hc ⊢;have m1:=(Mo.refl hs (C:=C)).typ;have m2:=(Mo.refl m1.le).name;have m3:=(Mo.refl m2.le).number;have n3:=number_phi hT m2.le;by_cases h:isM C (numberM C (nameM C (typM C σ).2).2).2.2 ⟨#[61]⟩=true
 · rw [if_pos h] at hc ⊢;simp only at hc ⊢;have m4:=(Mo.refl m3.le).next;have m5:=exprM_mo (Mo.refl m4.le);have m6:=(Mo.refl m5.le).want ⟨#[59]⟩;have c5:=m6.code hc;have c3:=m4.code (m5.code c5);have c2:=m3.code c3;have c1:=m2.code c2;have t1:=typ_phi hT c1;have t2:=name_phi c2;obtain ⟨o1,w1⟩:=exprM_ok hT m4.le c5;have p4:=phi_mo m4;have p6:=phi_mo m6;refine ⟨okS_mk ⟨by decide,by decide⟩ t1.1 n3.1 ⟨Int.le_refl _,by decide⟩ o1 rfl rfl rfl,?_⟩;simp only [wS,wV,wSs,wO,nt_size];omega
 · rw [if_neg h] at hc ⊢;simp only at hc ⊢;have m6:=(Mo.refl m3.le).want ⟨#[59]⟩;have c3:=m6.code hc;have c2:=m3.code c3;have c1:=m2.code c2;have t1:=typ_phi hT c1;have t2:=name_phi c2;have p6:=phi_mo m6;refine ⟨okS_mk ⟨by decide,by decide⟩ t1.1 n3.1 ⟨Int.le_refl _,by decide⟩ rfl rfl rfl rfl,?_⟩;simp only [wS,wV,wSs,wO,nt_size];omega
theorem labelled_ok (hT:Tks C) {σ:St} (hl:σ.at_ < C.T.length) (hc:(labelledM C σ).2.code=0):okS (labelledM C σ).1=true∧wS (labelledM C σ).1+phi C (labelledM C σ).2≤phi C σ:=by
 have m:=Mo.labelled (Mo.refl (Mo.next (Mo.refl (Nat.le_of_lt hl) (C:=C))).le);have p0:=phi_txt hl;have hm:Mo C (nextM C σ) (labelledM C σ).2:=by
  have r:=Mo.refl (Mo.next (Mo.refl (Nat.le_of_lt hl) (C:=C))).le;unfold labelledM;simp only;split
  · exact (((r.go _).numberType _).next).want _
  split
  · exact ((r.go _).next).want _
  · exact ((r.go _).lost.next).want _
 have p1:=phi_mo hm;unfold labelledM;simp only;refine ⟨okS_mk ⟨by decide,by decide⟩ ⟨Int.le_refl _,by show (0:Int)≤_; decide⟩ ⟨Int.le_refl _,by show (0:Int)≤_; decide⟩ (peek_ok hT _) rfl rfl rfl rfl,?_⟩;rw [wS_0];unfold labelledM at p1;simp only at p1;simp only [wSs,wO,nt_size];omega
def needS:Sj→Nat
 | .stmt=>6
 | .block=>5
 | _=>7
def okSj:Sj→Bool
 | .blockL acc=>okSs acc
 | .choiceL e acc=>okO e&&okSs acc
 | _=>true
def wSj:Sj→Nat
 | .blockL acc=>100+wSs acc
 | .choiceL e acc=>100+wO e+wSs acc
 | _=>0
def SOk (C:Cx) (f:Nat) (j:Sj) (σ:St):Prop :=
 σ.at_≤C.T.length→10 * (C.T.length - σ.at_)+needS j≤f→okSj j=true→(S C f j σ).2.code=0→okS (S C f j σ).1=true∧wS (S C f j σ).1+phi C (S C f j σ).2≤phi C σ+wSj j
theorem wS_ge (e:Sm):100≤wS e:=by cases e; simp only [wS]; omega
theorem ite_sok {P:Sm × St→Prop} {c:Prop} [Decidable c] {a b:Sm × St} (hc:(if c then a else b).2.code=0) (h1:c→a.2.code=0→P a) (h2:¬ c→b.2.code=0→P b):P (if c then a else b):=by
 by_cases h:c
 · rw [if_pos h] at hc ⊢; exact h1 h hc
 · rw [if_neg h] at hc ⊢; exact h2 h hc
theorem S_ok (hT:Tks C):∀ (f:Nat) (j:Sj) (σ:St),SOk C f j σ
 | 0,j,σ=>fun _ hf=>absurd hf (by cases j <;> simp only [needS] <;> omega)
 | f+1,j,σ=>fun hs hf hj hc=>by
   have r:=Mo.refl hs (C:=C);have ih:∀ (j:Sj) (τ:St),SOk C f j τ:=fun j τ=>S_ok hT f j τ
   have mo:∀ {τ:St} (j:Sj),τ.at_≤C.T.length→Mo C τ (S C f j τ).2:=fun j k=>S_mo f j _ k
   cases j with
   | block =>
     unfold S at hc ⊢;have m1:=r.want ⟨#[123]⟩;have m2:=mo (.blockL []) m1.le;have c1:=m2.code hc;have p1:=want_phi c1 rfl;have g1:=phi_gt (C:=C) m1.at_ (by omega);have l1:=m1.le;obtain ⟨o1,w1⟩:=ih (.blockL []) _ m1.le (by simp only [needS] at hf ⊢; omega) rfl hc;refine ⟨o1,?_⟩;simp only [wSj,wSs] at *;omega
   | blockL acc =>
     have ha:okSs acc=true:=hj;unfold S at hc ⊢;by_cases h1:isM C σ ⟨#[125]⟩=true
     · rw [if_pos h1] at hc ⊢;have p1:=phi_mo r.next;exact ⟨okS_0 ⟨by decide,by decide⟩ rfl rfl rfl ha,by rw [wS_0]; simp only [wSj,wO,nt_size]; omega⟩
     rw [if_neg h1] at hc ⊢;by_cases h2:σ.at_=C.T.length
     · rw [if_pos h2] at hc; exact absurd hc lost_code
     rw [if_neg h2] at hc ⊢;simp only at hc ⊢;have m1:=mo .stmt hs;have m2:=mo (.blockL (acc++[(S C f .stmt σ).1])) m1.le;have c1:=m2.code hc;obtain ⟨o1,w1⟩:=ih .stmt σ hs (by simp only [needS] at hf ⊢; omega) rfl c1;have g1:=phi_gt (C:=C) m1.at_ (by have:=wS_ge (S C f .stmt σ).1; simp only [wSj] at w1; omega);obtain ⟨o2,w2⟩:=ih (.blockL (acc++[(S C f .stmt σ).1])) _ m1.le (by simp only [needS] at hf ⊢; omega) (by simp only [okSj]; rw [okSs_app,ha,okSs1 o1]; rfl) hc;refine ⟨o2,?_⟩;simp only [wSj] at *;rw [wSs_app,wSs1] at w2;omega
   | choiceL e acc =>
     simp only [okSj] at hj;rw [Bool.and_eq_true] at hj;obtain ⟨he,ha⟩:=hj;unfold S at hc ⊢;by_cases h1:isM C σ ⟨#[125]⟩=true
     · rw [if_pos h1] at hc ⊢;have p1:=phi_mo r.next;exact ⟨okS_0 ⟨by decide,by decide⟩ he rfl rfl ha,by rw [wS_0]; simp only [wSj,wO,nt_size]; omega⟩
     rw [if_neg h1] at hc ⊢;by_cases h2:σ.at_=C.T.length
     · rw [if_pos h2] at hc; exact absurd hc lost_code
     rw [if_neg h2] at hc ⊢;by_cases h3:isM C σ ⟨#[99,97,115,101]⟩=true
     · rw [if_pos h3] at hc ⊢;simp only at hc ⊢;have m1:=r.labelled;have m2:=mo (.choiceL e (acc++[(labelledM C σ).1])) m1.le;have c1:=m2.code hc;obtain ⟨o1,w1⟩:=labelled_ok hT (is_lt h3 rfl) c1;have g1:=phi_gt (C:=C) m1.at_ (by have:=wS_ge (labelledM C σ).1; omega);obtain ⟨o2,w2⟩:=ih (.choiceL e (acc++[(labelledM C σ).1])) _ m1.le (by simp only [needS] at hf ⊢; omega) (by simp only [okSj]; rw [okSs_app,he,ha,okSs1 o1]; rfl) hc;refine ⟨o2,?_⟩;simp only [wSj] at *;rw [wSs_app,wSs1] at w2;omega
     rw [if_neg h3] at hc ⊢;by_cases h4:isM C σ ⟨#[100,101,102,97,117,108,116]⟩=true
     · rw [if_pos h4] at hc ⊢;have p1:=is_phi h4 rfl;have g1:=next_at (is_lt h4 rfl);have m1:=(Mo.refl r.next.le (C:=C)).want ⟨#[58]⟩;have p2:=phi_mo m1;have a1:=m1.at_;have o1:okS (.mk 10 vr0 nt false 0 none none none [])=true:=okS_0 ⟨by decide,by decide⟩ rfl rfl rfl rfl;have e1:wS (.mk 10 vr0 nt false 0 none none none [])=100:=rfl;have hlt:=is_lt h4 rfl;obtain ⟨o2,w2⟩:=ih (.choiceL e (acc++[.mk 10 vr0 nt false 0 none none none []])) _ m1.le (by simp only [needS] at hf ⊢; omega) (by simp only [okSj]; rw [okSs_app,he,ha,okSs1 o1]; rfl) hc;refine ⟨o2,?_⟩;simp only [wSj] at *;rw [wSs_app,wSs1,e1] at w2;omega
     rw [if_neg h4] at hc ⊢;simp only at hc ⊢;have m1:=mo .stmt hs;have m2:=mo (.choiceL e (acc++[(S C f .stmt σ).1])) m1.le;have c1:=m2.code hc;obtain ⟨o1,w1⟩:=ih .stmt σ hs (by simp only [needS] at hf ⊢; omega) rfl c1;have g1:=phi_gt (C:=C) m1.at_ (by have:=wS_ge (S C f .stmt σ).1; simp only [wSj] at w1; omega);obtain ⟨o2,w2⟩:=ih (.choiceL e (acc++[(S C f .stmt σ).1])) _ m1.le (by simp only [needS] at hf ⊢; omega) (by simp only [okSj]; rw [okSs_app,he,ha,okSs1 o1]; rfl) hc;refine ⟨o2,?_⟩;simp only [wSj] at *;rw [wSs_app,wSs1] at w2;omega
   | stmt =>
     unfold S at hc ⊢;simp only at hc ⊢;have W0:wSj .stmt=0:=rfl;rw [W0,Nat.add_zero];simp only [needS] at hf;refine ite_sok (P:=fun x=>okS x.1=true∧wS x.1+phi C x.2≤phi C σ) hc (fun h hc=>?_) (fun _ hc=>?_)
     · obtain ⟨o1,w1⟩:=ih .block σ hs (by simp only [needS]; omega) rfl hc;exact ⟨o1,by simp only [wSj] at w1; omega⟩
     refine ite_sok (P:=fun x=>okS x.1=true∧wS x.1+phi C x.2≤phi C σ) hc (fun h hc=>?_) (fun _ hc=>?_)
     · have p1:=is_phi h rfl;exact ⟨okS_0 ⟨by decide,by decide⟩ rfl rfl rfl rfl,by rw [wS_0]; simp only [wSs,wO,nt_size]; omega⟩
     refine ite_sok (P:=fun x=>okS x.1=true∧wS x.1+phi C x.2≤phi C σ) hc (fun h hc=>let_ok hT hs hc) (fun _ hc=>?_);refine ite_sok (P:=fun x=>okS x.1=true∧wS x.1+phi C x.2≤phi C σ) hc (fun h hc=>?_) (fun _ hc=>?_)
     · have hlt:=peek_kind (C:=C) (σ:=σ) (by rw [h.1]; decide);have p1:=phi_txt hlt;have g1:=next_at hlt;have m1:=Mo.next (Mo.refl r.next.le (C:=C));have a1:=m1.at_;have p2:=phi_mo m1;obtain ⟨o1,w1⟩:=ih .stmt _ m1.le (by simp only [needS]; omega) rfl hc;refine ⟨okS_0 ⟨by decide,by decide⟩ rfl rfl rfl (okSs1 o1),?_⟩;simp only;rw [wS_0,wSs1];simp only [wSj] at w1;simp only [wO];omega
     refine ite_sok (P:=fun x=>okS x.1=true∧wS x.1+phi C x.2≤phi C σ) hc (fun h hc=>?_) (fun _ hc=>?_)
     · have hlt:=peek_kind (C:=C) (σ:=σ) (by rw [h.1]; decide);have p1:=phi_txt hlt;have g1:=next_at hlt;have n1:=r.next.le;refine ite_sok (P:=fun x=>okS x.1=true∧wS x.1+phi C x.2≤phi C σ) hc (fun h hc=>?_) (fun _ hc=>?_)
       · -- if
         have m1:=(Mo.refl n1).asked;have m2:=mo .stmt m1.le;have a1:=m1.at_;have a2:=m2.at_;refine ite_sok (P:=fun x=>okS x.1=true∧wS x.1+phi C x.2≤phi C σ) hc (fun h hc=>?_) (fun _ hc=>?_)
         · have hlt2:=is_lt h rfl;have p3:=is_phi h rfl;have g3:=next_at hlt2;have m3:=Mo.next (Mo.refl m2.le);have m4:=mo .stmt m3.le;have c3:=m4.code hc;have c2:=m3.code c3;have c1:=m2.code c2;obtain ⟨o1,w1⟩:=asked_ok hT n1 c1;obtain ⟨o2,w2⟩:=ih .stmt _ m1.le (by simp only [needS]; omega) rfl c2;obtain ⟨o3,w3⟩:=ih .stmt _ m3.le (by simp only [needS]; omega) rfl hc;refine ⟨okS_0 ⟨by decide,by decide⟩ o1 rfl rfl (okSs2 o2 o3),?_⟩;simp only;rw [wS_0,wSs2];simp only [wSj] at *;simp only [wO,nt_size];omega
         · have c1:=m2.code hc;obtain ⟨o1,w1⟩:=asked_ok hT n1 c1;obtain ⟨o2,w2⟩:=ih .stmt _ m1.le (by simp only [needS]; omega) rfl hc;refine ⟨okS_0 ⟨by decide,by decide⟩ o1 rfl rfl (okSs1 o2),?_⟩;simp only;rw [wS_0,wSs1];simp only [wSj] at *;simp only [wO,nt_size];omega
       refine ite_sok (P:=fun x=>okS x.1=true∧wS x.1+phi C x.2≤phi C σ) hc (fun h hc=>?_) (fun _ hc=>?_)
       · have m1:=(Mo.refl n1).asked;have m2:=mo .stmt m1.le;have a1:=m1.at_;have c1:=m2.code hc;obtain ⟨o1,w1⟩:=asked_ok hT n1 c1;obtain ⟨o2,w2⟩:=ih .stmt _ m1.le (by simp only [needS]; omega) rfl hc;refine ⟨okS_0 ⟨by decide,by decide⟩ o1 rfl rfl (okSs1 o2),?_⟩;simp only;rw [wS_0,wSs1];simp only [wSj] at *;simp only [wO,nt_size];omega
       refine ite_sok (P:=fun x=>okS x.1=true∧wS x.1+phi C x.2≤phi C σ) hc (fun h hc=>?_) (fun _ hc=>?_)
       · have m1:=mo .stmt n1;have m2:=(Mo.refl m1.le).want ⟨#[119,104,105,108,101]⟩;have m3:=(Mo.refl m2.le).asked;have m4:=(Mo.refl m3.le).want ⟨#[59]⟩;have c3:=m4.code hc;have c2:=m3.code c3;have c1:=m2.code c2;obtain ⟨o2,w2⟩:=ih .stmt _ n1 (by simp only [needS]; omega) rfl c1;obtain ⟨o1,w1⟩:=asked_ok hT m2.le c3;have p2:=phi_mo m2;have p4:=phi_mo m4;refine ⟨okS_0 ⟨by decide,by decide⟩ o1 rfl rfl (okSs1 o2),?_⟩;simp only;rw [wS_0,wSs1];simp only [wSj] at *;simp only [wO,nt_size];omega
       refine ite_sok (P:=fun x=>okS x.1=true∧wS x.1+phi C x.2≤phi C σ) hc (fun h hc=>?_) (fun _ hc=>?_)
       · have m0:=(Mo.refl n1).want ⟨#[40]⟩;have m1:=(Mo.refl m0.le).part ⟨#[59]⟩;have m2:=(Mo.refl m1.le).part ⟨#[59]⟩;have m3:=(Mo.refl m2.le).part ⟨#[41]⟩;have m4:=mo .stmt m3.le;have c3:=m4.code hc;have c2:=m3.code c3;have c1:=m2.code c2;obtain ⟨o1,w1⟩:=part_ok hT _ m0.le c1;obtain ⟨o2,w2⟩:=part_ok hT _ m1.le c2;obtain ⟨o3,w3⟩:=part_ok hT _ m2.le c3;have a0:=m0.at_;have a1:=m1.at_;have a2:=m2.at_;have a3:=m3.at_;have p0:=phi_mo m0;obtain ⟨o4,w4⟩:=ih .stmt _ m3.le (by simp only [needS]; omega) rfl hc;refine ⟨okS_0 ⟨by decide,by decide⟩ o1 o2 o3 (okSs1 o4),?_⟩;simp only;rw [wS_0,wSs1];simp only [wSj] at *;simp only [nt_size] at *;omega
       refine ite_sok (P:=fun x=>okS x.1=true∧wS x.1+phi C x.2≤phi C σ) hc (fun h hc=>?_) (fun _ hc=>?_)
       · have m1:=(Mo.refl n1).asked;have m2:=(Mo.refl m1.le).want ⟨#[123]⟩;have m3:=mo (.choiceL (some (askedM C (nextM C σ)).1) []) m2.le;have c2:=m3.code hc;have c1:=m2.code c2;have a1:=m1.at_;have a2:=m2.at_;have p2:=phi_mo m2;obtain ⟨o1,w1⟩:=asked_ok hT n1 c1;obtain ⟨o2,w2⟩:=ih (.choiceL (some (askedM C (nextM C σ)).1) []) _ m2.le (by simp only [needS]; omega) (by simp only [okSj,okO,okSs,o1]; rfl) hc;refine ⟨o2,?_⟩;simp only [wSj,wSs,wO] at w2;omega
       refine ite_sok (P:=fun x=>okS x.1=true∧wS x.1+phi C x.2≤phi C σ) hc (fun h hc=>?_) (fun _ hc=>?_)
       · have p2:=phi_mo ((Mo.refl n1).want ⟨#[59]⟩);exact ⟨okS_0 ⟨by decide,by decide⟩ rfl rfl rfl rfl,by rw [wS_0]; simp only [wSs,wO,nt_size]; omega⟩
       refine ite_sok (P:=fun x=>okS x.1=true∧wS x.1+phi C x.2≤phi C σ) hc (fun h hc=>?_) (fun _ hc=>?_)
       · have p2:=phi_mo ((Mo.refl n1).want ⟨#[59]⟩);exact ⟨okS_0 ⟨by decide,by decide⟩ rfl rfl rfl rfl,by rw [wS_0]; simp only [wSs,wO,nt_size]; omega⟩
       refine ite_sok (P:=fun x=>okS x.1=true∧wS x.1+phi C x.2≤phi C σ) hc (fun h hc=>?_) (fun _ hc=>?_)
       · obtain ⟨o1,w1⟩:=part_ok hT _ n1 hc;refine ⟨okS_0 ⟨by decide,by decide⟩ o1 rfl rfl rfl,?_⟩;simp only;rw [wS_0,nt_size];have e1:wSs []=0:=by simp only [wSs]
         have e0:wO none=0:=rfl;omega
       refine ite_sok (P:=fun x=>okS x.1=true∧wS x.1+phi C x.2≤phi C σ) hc (fun h hc=>?_) (fun _ hc=>absurd hc lost_code)
       · have m1:=(Mo.refl n1).name;have m2:=(Mo.refl m1.le).want ⟨#[59]⟩;have c1:=m2.code hc;have p2:=name_phi c1;have p3:=phi_mo m2;refine ⟨okS_0 ⟨by decide,by decide⟩ rfl rfl rfl rfl,?_⟩;simp only;rw [wS_0];simp only [wSs,wO];omega
     · have m1:=exprM_mo r;have m2:=(Mo.refl m1.le).want ⟨#[59]⟩;have c1:=m2.code hc;obtain ⟨o1,w1⟩:=exprM_ok hT hs c1;have p2:=want_phi hc rfl;refine ⟨okS_0 ⟨by decide,by decide⟩ o1 rfl rfl rfl,?_⟩;simp only;rw [wS_0];simp only [wSs,wO,nt_size] at *;omega
theorem blockM_ok (hT:Tks C) {σ:St} (hs:σ.at_≤C.T.length) (hc:(blockM C σ).2.code=0):okS (blockM C σ).1=true∧wS (blockM C σ).1+phi C (blockM C σ).2≤phi C σ:=by
 have h:=S_ok hT (10 * (C.T.length - σ.at_)+8) .block σ hs (by simp only [needS]; omega) rfl hc;exact ⟨h.1,by have:=h.2; simp only [wSj,Nat.add_zero] at this; exact this⟩
end Go.Proofs.YtflbkdfbjofllaaGreatDoor.Sy
namespace Go.Proofs.YtflbkdfbjofllaaGreatDoor.Sy
open Go.RowKit Lx
variable {C:Cx}
def okT (t:Ty):Prop:=0≤t.stars∧t.stars≤1000000
def okV (v:Vr):Prop:=okT v.ty∧0≤v.num∧v.num≤18446744073709551615
def wVs:List Vr→Nat
 | []=>0
 | v::l=>60+wV v+wVs l
def wTs:List Ty→Nat
 | []=>0
 | v::l=>10+tyW v+wTs l
theorem wVs_app (a b:List Vr):wVs (a++b)=wVs a+wVs b:=by
 induction a with
 | nil=>show wVs b=0+_; omega
 | cons e t ih=>show 60+wV e+wVs (t++b)=60+wV e+wVs t+_; rw [ih]; omega
theorem wTs_app (a b:List Ty):wTs (a++b)=wTs a+wTs b:=by
 induction a with
 | nil=>show wTs b=0+_; omega
 | cons e t ih=>show 10+tyW e+wTs (t++b)=10+tyW e+wTs t+_; rw [ih]; omega
def wB:Option Sm→Nat
 | none=>0
 | some b=>wS b
def wI (i:It):Nat:=200+wV i.v+wVs i.vars+wTs i.types+wB i.body+wO i.init+wEs i.list
theorem okI_mk {i:It} (k:Int) (hke:i.kind=k) (hk:1≤k∧k≤5) (hb:i.v.ty.base.size≤1000000) (hv:okV i.v) (hvs:∀ v∈i.vars,okV v) (hts:∀ t∈i.types,okT t) (h0:okO i.init=true) (hl:okEs i.list=true) (hbo:∀ b,i.body=some b→okS b=true) (hb4:i.body=none→k≠4):okI i=true:=by
 subst hke;unfold okI okN;rw [decide_eq_true hk,decide_eq_true hb,h0,hl,decide_eq_true ⟨hv.1.1,hv.1.2,hv.2.1,hv.2.2⟩];have e1:i.vars.all (fun v=>decide (0≤v.ty.stars∧v.ty.stars≤1000000∧0≤v.num∧v.num≤18446744073709551615))=true:=by
  rw [List.all_eq_true];intro v h;have:=hvs v h;exact decide_eq_true ⟨this.1.1,this.1.2,this.2.1,this.2.2⟩
 have e2:i.types.all (fun t=>decide (0≤t.stars∧t.stars≤1000000∧(0:Int)≤0∧(0:Int)≤18446744073709551615))=true:=by
  rw [List.all_eq_true];intro t h;have:=hts t h;exact decide_eq_true ⟨this.1,this.2,Int.le_refl _,by decide⟩
 rw [e1,e2];cases hi:i.body with
 | some b=>simp only [Bool.true_and]; exact hbo b hi
 | none=>simp only [Bool.true_and]; exact decide_eq_true (hb4 hi)
theorem param_ok (hT:Tks C) {σ:St} (hs:σ.at_≤C.T.length) (hc:(paramM C σ).2.code=0):okV (paramM C σ).1∧60+wV (paramM C σ).1+phi C (paramM C σ).2≤phi C σ:=by
 unfold paramM at hc ⊢;simp only at hc ⊢;have m1:=(Mo.refl hs (C:=C)).typ;have m2:=(Mo.refl m1.le).name;have c1:=m2.code hc;have t1:=typ_phi hT c1;have t2:=name_phi hc;refine ⟨⟨t1.1,Int.le_refl _,by show (0:Int)≤_; decide⟩,?_⟩;unfold wV;simp only;omega
theorem params_mo:∀ (f:Nat) (σ:St) (acc:List Vr),σ.at_≤C.T.length→Mo C σ (paramsM C f σ acc).2
 | 0,σ,acc,hs=>by unfold paramsM; exact Mo.refl hs
 | f+1,σ,acc,hs=>by
   unfold paramsM;split
   · have m:=(Mo.refl hs (C:=C)).next.param;exact m.trans (params_mo f _ _ m.le)
   · exact Mo.refl hs
theorem params_ok (hT:Tks C):∀ (f:Nat) (σ:St) (acc:List Vr),σ.at_≤C.T.length→(∀ v∈acc,okV v)→(paramsM C f σ acc).2.code=0→(∀ v∈(paramsM C f σ acc).1,okV v)∧wVs (paramsM C f σ acc).1+phi C (paramsM C f σ acc).2≤phi C σ+wVs acc
 | 0,σ,acc,hs,ha,hc=>by unfold paramsM; exact ⟨ha,by simp only; omega⟩
 | f+1,σ,acc,hs,ha,hc=>by
   unfold paramsM at hc ⊢;by_cases h:isM C σ ⟨#[44]⟩=true
   · rw [if_pos h] at hc ⊢;simp only at hc ⊢;have m0:=(Mo.refl hs (C:=C)).next;have m1:=(Mo.refl m0.le).param;have c1:=(params_mo f _ _ m1.le).code hc;obtain ⟨o1,w1⟩:=param_ok hT m0.le c1;have p0:=phi_mo m0;obtain ⟨o2,w2⟩:=params_ok hT f _ (acc++[(paramM C (nextM C σ)).1]) m1.le (fun v hv=>by
      rcases List.mem_append.1 hv with hv | hv
      · exact ha v hv
      · rw [List.mem_singleton] at hv; rw [hv]; exact o1) hc
     refine ⟨o2,?_⟩;rw [wVs_app] at w2;have e:wVs [(paramM C (nextM C σ)).1]=60+wV (paramM C (nextM C σ)).1:=rfl;omega
   · rw [if_neg h] at hc ⊢; exact ⟨ha,by simp only; omega⟩
theorem types_mo:∀ (f:Nat) (σ:St) (acc:List Ty),σ.at_≤C.T.length→Mo C σ (typesM C f σ acc).2
 | 0,σ,acc,hs=>by unfold typesM; exact Mo.refl hs
 | f+1,σ,acc,hs=>by
   unfold typesM;split
   · have m:=(Mo.refl hs (C:=C)).next.typ;exact m.trans (types_mo f _ _ m.le)
   · exact Mo.refl hs
theorem types_ok (hT:Tks C):∀ (f:Nat) (σ:St) (acc:List Ty),σ.at_≤C.T.length→(∀ v∈acc,okT v)→(typesM C f σ acc).2.code=0→(∀ v∈(typesM C f σ acc).1,okT v)∧wTs (typesM C f σ acc).1+phi C (typesM C f σ acc).2≤phi C σ+wTs acc
 | 0,σ,acc,hs,ha,hc=>by unfold typesM; exact ⟨ha,by simp only; omega⟩
 | f+1,σ,acc,hs,ha,hc=>by
   unfold typesM at hc ⊢;by_cases h:isM C σ ⟨#[44]⟩=true
   · rw [if_pos h] at hc ⊢;simp only at hc ⊢;have m0:=(Mo.refl hs (C:=C)).next;have m1:=(Mo.refl m0.le).typ;have c1:=(types_mo f _ _ m1.le).code hc;have t1:=typ_phi hT c1;have p0:=phi_mo m0;obtain ⟨o2,w2⟩:=types_ok hT f _ (acc++[(typM C (nextM C σ)).1]) m1.le (fun v hv=>by
      rcases List.mem_append.1 hv with hv | hv
      · exact ha v hv
      · rw [List.mem_singleton] at hv; rw [hv]; exact t1.1) hc
     refine ⟨o2,?_⟩;rw [wTs_app] at w2;have e:wTs [(typM C (nextM C σ)).1]=10+tyW (typM C (nextM C σ)).1:=rfl;omega
   · rw [if_neg h] at hc ⊢; exact ⟨ha,by simp only; omega⟩
theorem conds_mo:∀ (f:Nat) (σ:St) (acc:List Ex),σ.at_≤C.T.length→Mo C σ (condsM C f σ acc).2
 | 0,σ,acc,hs=>by unfold condsM; exact Mo.refl hs
 | f+1,σ,acc,hs=>by
   unfold condsM;split
   · have m:=condM_mo (Mo.refl hs (C:=C)).next;exact m.trans (conds_mo f _ _ m.le)
   · exact Mo.refl hs
theorem conds_ok (hT:Tks C):∀ (f:Nat) (σ:St) (acc:List Ex),σ.at_≤C.T.length→okEs acc=true→(condsM C f σ acc).2.code=0→okEs (condsM C f σ acc).1=true∧wEs (condsM C f σ acc).1+phi C (condsM C f σ acc).2≤phi C σ+wEs acc
 | 0,σ,acc,hs,ha,hc=>by unfold condsM; exact ⟨ha,by simp only; omega⟩
 | f+1,σ,acc,hs,ha,hc=>by
   unfold condsM at hc ⊢;by_cases h:isM C σ ⟨#[44]⟩=true
   · rw [if_pos h] at hc ⊢;simp only at hc ⊢;have m0:=(Mo.refl hs (C:=C)).next;have m1:=condM_mo (Mo.refl m0.le);have c1:=(conds_mo f _ _ m1.le).code hc;obtain ⟨o1,w1⟩:=condM_ok hT m0.le c1;have p0:=phi_mo m0;obtain ⟨o2,w2⟩:=conds_ok hT f _ (acc++[(condM C (nextM C σ)).1]) m1.le (by rw [okEs_app,ha,okEs1 o1]; rfl) hc;refine ⟨o2,?_⟩;rw [wEs_app,wEs1] at w2;omega
   · rw [if_neg h] at hc ⊢; exact ⟨ha,by simp only; omega⟩
theorem field_ok (hT:Tks C) {σ:St} (hs:σ.at_≤C.T.length) (hc:(fieldM C σ).2.code=0):okV (fieldM C σ).1∧60+wV (fieldM C σ).1+phi C (fieldM C σ).2≤phi C σ:=by
 unfold fieldM at hc ⊢;simp only at hc ⊢;have m1:=(Mo.refl hs (C:=C)).typ;have m2:=(Mo.refl m1.le).name;have m3:=(Mo.refl m2.le).number;have m4:=(Mo.refl m3.le).want ⟨#[59]⟩;have c3:=m4.code hc;have c2:=m3.code c3;have c1:=m2.code c2;have t1:=typ_phi hT c1;have t2:=name_phi c2;have n3:=number_phi hT m2.le;have p4:=phi_mo m4;refine ⟨⟨t1.1,n3.1⟩,?_⟩;unfold wV;simp only;omega
theorem fields_mo:∀ (f:Nat) (σ:St) (acc:List Vr),σ.at_≤C.T.length→Mo C σ (fieldsM C f σ acc).2
 | 0,σ,acc,hs=>by unfold fieldsM; exact Mo.refl hs
 | f+1,σ,acc,hs=>by
   have m:=(Mo.refl hs (C:=C)).field;unfold fieldsM;simp only;split
   · exact m.next.want _
   split
   · exact m.trans (fields_mo f _ _ m.le)
   · exact m.lost
theorem fields_ok (hT:Tks C):∀ (f:Nat) (σ:St) (acc:List Vr),σ.at_≤C.T.length→(∀ v∈acc,okV v)→(fieldsM C f σ acc).2.code=0→(∀ v∈(fieldsM C f σ acc).1,okV v)∧wVs (fieldsM C f σ acc).1+phi C (fieldsM C f σ acc).2≤phi C σ+wVs acc
 | 0,σ,acc,hs,ha,hc=>by unfold fieldsM; exact ⟨ha,by simp only; omega⟩
 | f+1,σ,acc,hs,ha,hc=>by
   have m:=(Mo.refl hs (C:=C)).field;have c1:(fieldM C σ).2.code=0:=by
    have h:=hc;unfold fieldsM at h;simp only at h;split at h
    · exact ((Mo.refl m.le).next.want _).code h
    split at h
    · exact (fields_mo f _ _ m.le).code h
    · exact absurd h lost_code
   obtain ⟨o1,w1⟩:=field_ok hT hs c1;have ha':∀ v∈acc++[(fieldM C σ).1],okV v:=fun v hv=>by
    rcases List.mem_append.1 hv with hv | hv
    · exact ha v hv
    · rw [List.mem_singleton] at hv; rw [hv]; exact o1
   have e:wVs (acc++[(fieldM C σ).1])=wVs acc+(60+wV (fieldM C σ).1):=by rw [wVs_app]; rfl
   unfold fieldsM at hc ⊢;simp only at hc ⊢;by_cases h1:isM C (fieldM C σ).2 ⟨#[125]⟩=true
   · rw [if_pos h1] at hc ⊢;have p:=phi_mo ((Mo.refl m.le).next.want ⟨#[59]⟩);exact ⟨ha',by simp only; omega⟩
   rw [if_neg h1] at hc ⊢;by_cases h2:typedM C (fieldM C σ).2=true
   · rw [if_pos h2] at hc ⊢;obtain ⟨o2,w2⟩:=fields_ok hT f _ _ m.le ha' hc;exact ⟨o2,by omega⟩
   · rw [if_neg h2] at hc; exact absurd hc lost_code
structure Bare (i:It):Prop where
 vars:i.vars=[]
 types:i.types=[]
 body:i.body=none
 init:i.init=none
 list:i.list=[]
 v:okV i.v
 b:i.v.ty.base.size≤1000000
theorem Bare.w {i:It} (h:Bare i):wI i=200+wV i.v:=by
 unfold wI;rw [h.vars,h.types,h.body,h.init,h.list];rfl
theorem typ_le (hT:Tks C) (σ:St):(typM C σ).1.base.size≤1000000:=by
 unfold typM;split
 · exact Nat.le_trans (base_le hT σ) (by decide)
 · exact Nat.zero_le _
theorem struct_ok (hT:Tks C) {i:It} {σ:St} (hi:Bare i) (hs:σ.at_≤C.T.length) (hc:(structM C i σ).2.code=0):okI (structM C i σ).1=true∧wI (structM C i σ).1+phi C (structM C i σ).2≤phi C σ+wI i:=by
 unfold structM at hc ⊢;simp only at hc ⊢;have m0:=(Mo.refl hs (C:=C)).next;have m1:=(Mo.refl m0.le).name;have m2:=(Mo.refl m1.le).want ⟨#[123]⟩;have m3:=fields_mo (C.T.length+1) _ [] m2.le;have c2:=m3.code hc;have c1:=m2.code c2;have t1:=name_phi c1;obtain ⟨o1,w1⟩:=fields_ok hT (C.T.length+1) _ [] m2.le (fun v hv=>by cases hv) hc;have p0:=phi_mo m0;have p2:=phi_mo m2;refine ⟨okI_mk 1 rfl ⟨by decide,by decide⟩ hi.b hi.v o1 (fun t ht=>by simp only [hi.types] at ht; cases ht) (by simp only [hi.init]; rfl) (by simp only [hi.list]; rfl) (fun b hb=>by simp only [hi.body] at hb; cases hb) (fun _=>by decide),?_⟩;rw [hi.w];unfold wI wV;simp only [hi.types,hi.body,hi.init,hi.list];have e1:wTs []=0:=rfl;have e2:wB none=0:=rfl;have e3:wO none=0:=rfl;have e4:wEs []=0:=by unfold wEs; rfl
 have e5:wVs []=0:=rfl;rw [e1,e2,e3,e4];rw [e5] at w1;omega
theorem typedef_ok (hT:Tks C) {i:It} {σ:St} (hi:Bare i) (hs:σ.at_≤C.T.length) (hc:(typedefM C i σ).2.code=0):okI (typedefM C i σ).1=true∧wI (typedefM C i σ).1+phi C (typedefM C i σ).2≤phi C σ+200:=by
 unfold typedefM at hc ⊢;simp only at hc ⊢;have m0:=(Mo.refl hs (C:=C)).next;have m1:=(Mo.refl m0.le).typ;have m2:=(Mo.refl m1.le).name;have m3:=(Mo.refl m2.le).want ⟨#[40]⟩;have p0:=phi_mo m0;have p3:=phi_mo m3;have hle:=typ_le hT (nextM C σ);have e2:wB none=0:=rfl;have e3:wO none=0:=rfl;have e4:wEs []=0:=by unfold wEs; rfl
 have e5:wVs []=0:=rfl;have e6:wTs []=0:=rfl;by_cases h:isM C (wantM C (nameM C (typM C (nextM C σ)).2).2 ⟨#[40]⟩) ⟨#[41]⟩=true
 · rw [if_pos h] at hc ⊢;simp only at hc ⊢;have m4:=(Mo.refl m3.le).next;have m5:=(Mo.refl m4.le).want ⟨#[59]⟩;have c4:(wantM C (nextM C (wantM C (nameM C (typM C (nextM C σ)).2).2 ⟨#[40]⟩)) ⟨#[59]⟩).code=0:=hc;have c2:=m3.code (m4.code (m5.code c4));have c1:=m2.code c2;have t1:=typ_phi hT c1;have t2:=name_phi c2;have p4:=phi_mo m4;have p5:=phi_mo m5;refine ⟨okI_mk 2 rfl ⟨by decide,by decide⟩ hle ⟨t1.1,hi.v.2⟩ (fun t ht=>by simp only [hi.vars] at ht; cases ht) (fun t ht=>by cases ht) (by simp only [hi.init]; rfl) (by simp only [hi.list]; rfl) (fun b hb=>by simp only [hi.body] at hb; cases hb) (fun _=>by decide),?_⟩;unfold wI wV;simp only [hi.vars,hi.body,hi.init,hi.list];show 200+_+wVs []+wTs []+wB none+wO none+wEs []+phi C (wantM C (nextM C (wantM C (nameM C (typM C (nextM C σ)).2).2 ⟨#[40]⟩)) ⟨#[59]⟩)≤_;rw [e2,e3,e4,e5,e6];omega
 · rw [if_neg h] at hc ⊢;simp only at hc ⊢;have m4:=(Mo.refl m3.le).typ;have m5:=types_mo C.T.length _ [(typM C (wantM C (nameM C (typM C (nextM C σ)).2).2 ⟨#[40]⟩)).1] m4.le;have m6:=(Mo.refl m5.le).want ⟨#[41]⟩;have m7:=(Mo.refl m6.le).want ⟨#[59]⟩;have c6:=m7.code hc;have c5:=m6.code c6;have c4:=m5.code c5;have c2:=m3.code (m4.code c4);have c1:=m2.code c2;have t1:=typ_phi hT c1;have t2:=name_phi c2;have t4:=typ_phi hT c4;obtain ⟨o1,w1⟩:=types_ok hT C.T.length _ [(typM C (wantM C (nameM C (typM C (nextM C σ)).2).2 ⟨#[40]⟩)).1] m4.le (fun v hv=>by rw [List.mem_singleton] at hv; rw [hv]; exact t4.1) c5;have p6:=phi_mo m6;have p7:=phi_mo m7;refine ⟨okI_mk 2 rfl ⟨by decide,by decide⟩ hle ⟨t1.1,hi.v.2⟩ (fun t ht=>by simp only [hi.vars] at ht; cases ht) o1 (by simp only [hi.init]; rfl) (by simp only [hi.list]; rfl) (fun b hb=>by simp only [hi.body] at hb; cases hb) (fun _=>by decide),?_⟩;unfold wI wV;simp only [hi.vars,hi.body,hi.init,hi.list];have e7:wTs [(typM C (wantM C (nameM C (typM C (nextM C σ)).2).2 ⟨#[40]⟩)).1]=10+tyW (typM C (wantM C (nameM C (typM C (nextM C σ)).2).2 ⟨#[40]⟩)).1:=rfl;rw [e7] at w1;show 200+_+wVs []+_+wB none+wO none+wEs []+phi C (wantM C (wantM C (typesM C C.T.length (typM C (wantM C (nameM C (typM C (nextM C σ)).2).2 ⟨#[40]⟩)).2 [(typM C (wantM C (nameM C (typM C (nextM C σ)).2).2 ⟨#[40]⟩)).1]).2 ⟨#[41]⟩) ⟨#[59]⟩)≤_;rw [e2,e3,e4,e5];omega
theorem nil_w:wTs []=0∧wB none=0∧wO none=0∧wEs []=0∧wVs []=0:=⟨rfl,rfl,rfl,by unfold wEs; rfl,rfl⟩
theorem function_ok (hT:Tks C) {i:It} {σ:St} (hi:Bare i) (hs:σ.at_≤C.T.length) (hc:(functionM C i σ).2.code=0):okI (functionM C i σ).1=true∧wI (functionM C i σ).1+phi C (functionM C i σ).2≤phi C σ+wI i:=by
 obtain ⟨e1,e2,e3,e4,e5⟩:=nil_w;rw [hi.w];have m0:=(Mo.refl hs (C:=C)).next;have p0:=phi_mo m0;obtain ⟨k,hk⟩:∃ k,(if isM C (nextM C σ) ⟨#[41]⟩ then (([]:List Vr),nextM C (nextM C σ)) else ((paramsM C C.T.length (paramM C (nextM C σ)).2 [(paramM C (nextM C σ)).1]).1,wantM C (paramsM C C.T.length (paramM C (nextM C σ)).2 [(paramM C (nextM C σ)).1]).2 ⟨#[41]⟩))=k:=⟨_,rfl⟩;have hm:Mo C (nextM C σ) k.2:=by
  rw [← hk];split
  · exact (Mo.refl m0.le).next
  · have m1:=(Mo.refl m0.le).param;exact (m1.trans (params_mo _ _ _ m1.le)).want _
 have hko:k.2.code=0→(∀ v∈k.1,okV v)∧wVs k.1+phi C k.2≤phi C (nextM C σ):=by
  rw [← hk];split
  · intro _;exact ⟨(fun v hv=>by cases hv),by have:=phi_mo (Mo.refl m0.le (C:=C)).next; rw [e5]; show 0+phi C (nextM C (nextM C σ))≤_; omega⟩
  · intro hcc;have m1:=(Mo.refl m0.le).param;have m2:=params_mo C.T.length (paramM C (nextM C σ)).2 [(paramM C (nextM C σ)).1] m1.le;have m3:=(Mo.refl m2.le).want ⟨#[41]⟩;have c2:=m3.code hcc;have c1:=m2.code c2;obtain ⟨o1,w1⟩:=param_ok hT m0.le c1;obtain ⟨o2,w2⟩:=params_ok hT C.T.length (paramM C (nextM C σ)).2 [(paramM C (nextM C σ)).1] m1.le (fun v hv=>by rw [List.mem_singleton] at hv; rw [hv]; exact o1) c2;have p3:=phi_mo m3;have e6:wVs [(paramM C (nextM C σ)).1]=60+wV (paramM C (nextM C σ)).1:=rfl;exact ⟨o2,by simp only; omega⟩
 have ef:functionM C i σ=(if isM C k.2 ⟨#[59]⟩ then ({ i with kind:=3,vars:=k.1 },nextM C k.2) else if isM C k.2 ⟨#[123]⟩ then ({ i with kind:=4,vars:=k.1,body:=some (blockM C k.2).1 },(blockM C k.2).2) else ({ i with kind:=4,vars:=k.1 },lostM C k.2)):=by
  unfold functionM;simp only;rw [hk]
 rw [ef] at hc ⊢;clear ef hk;by_cases h1:isM C k.2 ⟨#[59]⟩=true
 · rw [if_pos h1] at hc ⊢;obtain ⟨o,w⟩:=hko ((Mo.refl hm.le).next.code hc);have p:=phi_mo (Mo.refl hm.le).next;refine ⟨okI_mk 3 rfl ⟨by decide,by decide⟩ hi.b hi.v o (fun t ht=>by simp only [hi.types] at ht; cases ht) (by simp only [hi.init]; rfl) (by simp only [hi.list]; rfl) (fun b hb=>by simp only [hi.body] at hb; cases hb) (fun _=>by decide),?_⟩;unfold wI;simp only [hi.types,hi.body,hi.init,hi.list];omega
 rw [if_neg h1] at hc ⊢;by_cases h2:isM C k.2 ⟨#[123]⟩=true
 · rw [if_pos h2] at hc ⊢;have m4:=Mo.block (Mo.refl hm.le);obtain ⟨o,w⟩:=hko (m4.code hc);obtain ⟨o2,w2⟩:=blockM_ok hT hm.le hc;refine ⟨okI_mk 4 rfl ⟨by decide,by decide⟩ hi.b hi.v o (fun t ht=>by simp only [hi.types] at ht; cases ht) (by simp only [hi.init]; rfl) (by simp only [hi.list]; rfl) (fun b hb=>by injection hb with hb; rw [← hb]; exact o2) (fun hb=>by cases hb),?_⟩;unfold wI;simp only [hi.types,hi.init,hi.list];have e8:wB (some (blockM C k.2).1)=wS (blockM C k.2).1:=rfl;omega
 · rw [if_neg h2] at hc; exact absurd hc lost_code
theorem declaration_ok (hT:Tks C) {i:It} {σ:St} (hi:Bare i) (hs:σ.at_≤C.T.length) (hc:(declarationM C i σ).2.code=0):okI (declarationM C i σ).1=true∧wI (declarationM C i σ).1+phi C (declarationM C i σ).2≤phi C σ+200:=by
 obtain ⟨e1,e2,e3,e4,e5⟩:=nil_w;have m1:=(Mo.refl hs (C:=C)).typ;have m2:=(Mo.refl m1.le).name;have hle:=typ_le hT σ;unfold declarationM at hc ⊢;simp only at hc ⊢;by_cases h:isM C (nameM C (typM C σ).2).2 ⟨#[40]⟩=true
 · rw [if_pos h] at hc ⊢;have hmf:Mo C (nameM C (typM C σ).2).2 (functionM C { i with v:={ i.v with ty:=(typM C σ).1,name:=(nameM C (typM C σ).2).1 } } (nameM C (typM C σ).2).2).2:=by
    have m0:=(Mo.refl m2.le (C:=C)).next;have mp:∀ k:List Vr × St,Mo C (nameM C (typM C σ).2).2 k.2→Mo C (nameM C (typM C σ).2).2 (if isM C k.2 ⟨#[59]⟩ then (({ i with kind:=3,vars:=k.1 }:It),nextM C k.2) else if isM C k.2 ⟨#[123]⟩ then ({ i with kind:=4,vars:=k.1,body:=some (blockM C k.2).1 },(blockM C k.2).2) else ({ i with kind:=4,vars:=k.1 },lostM C k.2)).2:=fun k hm=>by
     split
     · exact hm.next
     split
     · exact hm.block
     · exact hm.lost
    have m3:Mo C (nameM C (typM C σ).2).2 (if isM C (nextM C (nameM C (typM C σ).2).2) ⟨#[41]⟩ then (([]:List Vr),nextM C (nextM C (nameM C (typM C σ).2).2)) else ((paramsM C C.T.length (paramM C (nextM C (nameM C (typM C σ).2).2)).2 [(paramM C (nextM C (nameM C (typM C σ).2).2)).1]).1,wantM C (paramsM C C.T.length (paramM C (nextM C (nameM C (typM C σ).2).2)).2 [(paramM C (nextM C (nameM C (typM C σ).2).2)).1]).2 ⟨#[41]⟩)).2:=by
     split
     · exact m0.next
     · exact (m0.param.trans (params_mo _ _ _ m0.param.le)).want _
    unfold functionM;simp only;revert m3;generalize (if isM C (nextM C (nameM C (typM C σ).2).2) ⟨#[41]⟩ then (([]:List Vr),nextM C (nextM C (nameM C (typM C σ).2).2)) else ((paramsM C C.T.length (paramM C (nextM C (nameM C (typM C σ).2).2)).2 [(paramM C (nextM C (nameM C (typM C σ).2).2)).1]).1,wantM C (paramsM C C.T.length (paramM C (nextM C (nameM C (typM C σ).2).2)).2 [(paramM C (nextM C (nameM C (typM C σ).2).2)).1]).2 ⟨#[41]⟩))=k;intro m3;split
    · exact m3.next
    split
    · exact m3.block
    · exact m3.lost
   have c2:=hmf.code hc;have c1:=m2.code c2;have t1:=typ_phi hT c1;have t2:=name_phi c2;have hb:Bare { i with v:={ i.v with ty:=(typM C σ).1,name:=(nameM C (typM C σ).2).1 } }:=⟨hi.vars,hi.types,hi.body,hi.init,hi.list,⟨t1.1,hi.v.2⟩,hle⟩;obtain ⟨o,w⟩:=function_ok hT hb m2.le hc;refine ⟨o,?_⟩;rw [hb.w] at w;unfold wV at w;simp only at w;omega
 · rw [if_neg h] at hc ⊢;have m3:=(Mo.refl m2.le).number;have n3:=number_phi hT m2.le;simp only at hc ⊢;by_cases h2:isM C (numberM C (nameM C (typM C σ).2).2).2.2 ⟨#[61]⟩=true
   · rw [if_pos h2] at hc ⊢;have m4:=(Mo.refl m3.le).next;have p4:=phi_mo m4;unfold initialM at hc ⊢;by_cases h3:isM C (nextM C (numberM C (nameM C (typM C σ).2).2).2.2) ⟨#[123]⟩=true
     · rw [if_pos h3] at hc ⊢;simp only at hc ⊢;have m5:=(Mo.refl m4.le).next;have m6:=condM_mo (Mo.refl m5.le);have m7:=conds_mo C.T.length _ [(condM C (nextM C (nextM C (numberM C (nameM C (typM C σ).2).2).2.2))).1] m6.le;have m8:=(Mo.refl m7.le).want ⟨#[125]⟩;have m9:=(Mo.refl m8.le).want ⟨#[59]⟩;have c7:=m8.code (m9.code hc);have c6:=m7.code c7;have c3:=m4.code (m5.code (m6.code c6));have c2:=m3.code c3;have c1:=m2.code c2;have t1:=typ_phi hT c1;have t2:=name_phi c2;obtain ⟨o6,w6⟩:=condM_ok hT m5.le c6;obtain ⟨o7,w7⟩:=conds_ok hT C.T.length _ [(condM C (nextM C (nextM C (numberM C (nameM C (typM C σ).2).2).2.2))).1] m6.le (okEs1 o6) c7;have p5:=phi_mo m5;have p8:=phi_mo m8;have p9:=phi_mo m9;rw [wEs1] at w7;refine ⟨okI_mk 5 rfl ⟨by decide,by decide⟩ hle ⟨t1.1,n3.1⟩ (fun t ht=>by simp only [hi.vars] at ht; cases ht) (fun t ht=>by simp only [hi.types] at ht; cases ht) (by simp only [hi.init]; rfl) o7 (fun b hb=>by simp only [hi.body] at hb; cases hb) (fun _=>by decide),?_⟩;unfold wI wV;simp only [hi.vars,hi.types,hi.body,hi.init];omega
     · rw [if_neg h3] at hc ⊢;simp only at hc ⊢;have m6:=condM_mo (Mo.refl m4.le);have m9:=(Mo.refl m6.le).want ⟨#[59]⟩;have c6:=m9.code hc;have c3:=m4.code (m6.code c6);have c2:=m3.code c3;have c1:=m2.code c2;have t1:=typ_phi hT c1;have t2:=name_phi c2;obtain ⟨o6,w6⟩:=condM_ok hT m4.le c6;have p9:=phi_mo m9;refine ⟨okI_mk 5 rfl ⟨by decide,by decide⟩ hle ⟨t1.1,n3.1⟩ (fun t ht=>by simp only [hi.vars] at ht; cases ht) (fun t ht=>by simp only [hi.types] at ht; cases ht) o6 (by simp only [hi.list]; rfl) (fun b hb=>by simp only [hi.body] at hb; cases hb) (fun _=>by decide),?_⟩;unfold wI wV;simp only [hi.vars,hi.types,hi.body,hi.list];have e9:wO (some (condM C (nextM C (numberM C (nameM C (typM C σ).2).2).2.2)).1)=wE (condM C (nextM C (numberM C (nameM C (typM C σ).2).2).2.2)).1:=rfl;omega
   · rw [if_neg h2] at hc ⊢;simp only at hc ⊢;have m9:=(Mo.refl m3.le).want ⟨#[59]⟩;have c3:=m9.code hc;have c2:=m3.code c3;have c1:=m2.code c2;have t1:=typ_phi hT c1;have t2:=name_phi c2;have p9:=phi_mo m9;refine ⟨okI_mk 5 rfl ⟨by decide,by decide⟩ hle ⟨t1.1,n3.1⟩ (fun t ht=>by simp only [hi.vars] at ht; cases ht) (fun t ht=>by simp only [hi.types] at ht; cases ht) (by simp only [hi.init]; rfl) (by simp only [hi.list]; rfl) (fun b hb=>by simp only [hi.body] at hb; cases hb) (fun _=>by decide),?_⟩;unfold wI wV;simp only [hi.vars,hi.types,hi.body,hi.list,hi.init];omega
theorem it0_is (a:Int):Bare (it0 a):=⟨rfl,rfl,rfl,rfl,rfl,⟨⟨Int.le_refl _,by show (0:Int)≤_; decide⟩,Int.le_refl _,by show (0:Int)≤_; decide⟩,Nat.zero_le _⟩
theorem it0_w (a:Int):wI (it0 a)=200:=by rw [(it0_is a).w]; rfl
theorem item_ok (hT:Tks C) {σ:St} (hs:σ.at_≤C.T.length) (hc:(itemM C σ).2.code=0):okI (itemM C σ).1=true∧wI (itemM C σ).1+phi C (itemM C σ).2≤phi C σ+200:=by
 unfold itemM at hc ⊢;simp only at hc ⊢;split
 · next h =>
   rw [if_pos h] at hc;have:=struct_ok hT (it0_is _) hs hc;rw [it0_w] at this;exact this
 · next h =>
   rw [if_neg h] at hc;split
   · next h2=>rw [if_pos h2] at hc; exact typedef_ok hT (it0_is _) hs hc
   · next h2=>rw [if_neg h2] at hc; exact declaration_ok hT (it0_is _) hs hc
def wIs:List It→Nat
 | []=>0
 | i::l=>wI i+wIs l
theorem wIs_app (a b:List It):wIs (a++b)=wIs a+wIs b:=by
 induction a with
 | nil=>show wIs b=0+_; omega
 | cons e t ih=>show wI e+wIs (t++b)=wI e+wIs t+_; rw [ih]; omega
end Go.Proofs.YtflbkdfbjofllaaGreatDoor.Sy
namespace Go.Proofs.YtflbkdfbjofllaaGreatDoor.Sy
open Go.RowKit Lx
variable {C:Cx}
theorem items_ok (hT:Tks C):∀ (f:Nat) (σ:St) (acc:List It),σ.at_≤C.T.length→(∀ i∈acc,okI i=true)→(itemsM C f σ acc).2.code=0→(∀ i∈(itemsM C f σ acc).1,okI i=true)∧wIs (itemsM C f σ acc).1+phi C (itemsM C f σ acc).2≤phi C σ+wIs acc+200 * f
 | 0,σ,acc,hs,ha,hc=>by unfold itemsM; exact ⟨ha,by simp only; omega⟩
 | f+1,σ,acc,hs,ha,hc=>by
   unfold itemsM at hc ⊢;by_cases h:σ.at_ < C.T.length
   · rw [if_pos h] at hc ⊢;simp only at hc ⊢;have m:=(item_mi h).2;have mi:∀ (g:Nat) (τ:St) (ac:List It),τ.at_≤C.T.length→(itemsM C g τ ac).2.code=0→τ.code=0:=by
      intro g
      induction g with
      | zero=>intro τ ac _ hh; exact hh
      | succ g ih =>
        intro τ ac ht hh;unfold itemsM at hh;split at hh
        · next hl =>
          have mm:=(item_mi hl).2;exact mm.code (ih _ _ mm.le hh)
        · exact hh
     have c1:=mi f _ _ m.le hc;obtain ⟨o1,w1⟩:=item_ok hT hs c1;obtain ⟨o2,w2⟩:=items_ok hT f _ (acc++[(itemM C σ).1]) m.le (fun v hv=>by
      rcases List.mem_append.1 hv with hv | hv
      · exact ha v hv
      · rw [List.mem_singleton] at hv; rw [hv]; exact o1) hc
     refine ⟨o2,?_⟩;rw [wIs_app] at w2;have e:wIs [(itemM C σ).1]=wI (itemM C σ).1:=by show wI _+0=_; omega
     omega
   · rw [if_neg h] at hc ⊢; exact ⟨ha,by simp only; omega⟩
theorem dec_size:∀ (f n:Nat) (acc:List UInt8),(decL f n acc).length≤f+acc.length
 | 0,n,acc=>by unfold decL; omega
 | f+1,n,acc=>by
   unfold decL;split
   · simp only [List.length_cons]; omega
   · have:=dec_size f (n / 10) (UInt8.ofNat (48+n % 10)::acc);simp only [List.length_cons] at this;omega
theorem decM_size (n:Int):(decM n).size≤20:=by
 have:=dec_size 20 n.toNat [];unfold decM;show (decL 20 n.toNat []).toArray.size≤20;simp only [List.size_toArray];simpa using this
theorem starL_size (n:Nat):(starL n).size=n:=by
 induction n with
 | zero=>rfl
 | succ n ih=>unfold starL; rw [cat_size,ih]; rfl
theorem tyM_size (t:Ty):(tyM t).size=tyW t:=by unfold tyM tyW; rw [cat_size,starL_size]
theorem part_ub (s:ByteArray) (x:Wr):(partW s x).out.size≤x.out.size+1+s.size:=by
 show ((if x.fresh then x.out else x.out++⟨#[32]⟩)++s).size≤_;rw [cat_size];split
 · omega
 · rw [cat_size]; show x.out.size+1+_≤_; omega
def lW:List ByteArray→Nat
 | []=>0
 | s::l=>1+s.size+lW l
theorem parts_ub:∀ (l:List ByteArray) (x:Wr),(partsW l x).out.size≤x.out.size+lW l
 | [],x=>Nat.le_refl _
 | s::l,x=>by
   show (partsW l (partW s x)).out.size≤_;have h1:=parts_ub l (partW s x);have h2:=part_ub s x;show _≤_+(1+s.size+lW l);omega
theorem openP_ub (l:List ByteArray) (x:Wr):(openP l x).out.size≤x.out.size+2+lW l:=by
 have h1:=parts_ub l (openW x);have h2:=part_ub ⟨#[40]⟩ x;have e:(openW x).out=(partW ⟨#[40]⟩ x).out:=rfl;rw [e] at h1;have e2:(⟨#[40]⟩:ByteArray).size=1:=rfl;rw [e2] at h2;unfold openP;omega
theorem head_ub (kind:Int) (op name:ByteArray) (ty:Ty) (num:Int) (x:Wr):(headW (exHead kind op name ty num) x).out.size≤x.out.size+60+op.size+tyW ty+(if kind=10∨kind=11 then 0 else name.size):=by
 have hd:=decM_size num;have ht:=tyM_size ty;unfold exHead;by_cases h1:kind=1
 · rw [if_pos h1]; refine Nat.le_trans (openP_ub _ _) ?_; simp only [lW]; show _+2+(1+3+_)≤_; omega
 rw [if_neg h1];by_cases h2:kind=2
 · rw [if_pos h2]; refine Nat.le_trans (openP_ub _ _) ?_; simp only [lW]; rw [if_neg (by omega)]; show _+2+(1+4+_)≤_; omega
 rw [if_neg h2];by_cases h3:kind=3
 · rw [if_pos h3]; refine Nat.le_trans (openP_ub _ _) ?_; simp only [lW]; show _+2+(1+2+_)≤_; omega
 rw [if_neg h3];by_cases h4:kind=4
 · rw [if_pos h4]; refine Nat.le_trans (openP_ub _ _) ?_; simp only [lW]; show _+2+(1+3+_)≤_; omega
 rw [if_neg h4];by_cases h5:kind=5
 · rw [if_pos h5]; refine Nat.le_trans (openP_ub _ _) ?_; simp only [lW]; show _+2+(1+3+_)≤_; omega
 rw [if_neg h5];by_cases h6:kind=6
 · rw [if_pos h6]; refine Nat.le_trans (openP_ub _ _) ?_; simp only [lW]; show _+2+(1+2+_)≤_; omega
 rw [if_neg h6];by_cases h7:kind=7
 · rw [if_pos h7]; refine Nat.le_trans (openP_ub _ _) ?_; simp only [lW]; show _+2+(1+4+_)≤_; omega
 rw [if_neg h7];by_cases h8:kind=8
 · rw [if_pos h8]; refine Nat.le_trans (openP_ub _ _) ?_; simp only [lW]; show _+2+(1+3+_)≤_; omega
 rw [if_neg h8];by_cases h9:kind=9
 · rw [if_pos h9]; refine Nat.le_trans (openP_ub _ _) ?_; simp only [lW]; show _+2+(1+5+_)≤_; omega
 rw [if_neg h9];by_cases ha:kind=10
 · rw [if_pos ha]; refine Nat.le_trans (openP_ub _ _) ?_; simp only [lW]; show _+2+(1+3+_)≤_; omega
 rw [if_neg ha];by_cases hb:kind=11
 · rw [if_pos hb]; refine Nat.le_trans (openP_ub _ _) ?_; simp only [lW]; show _+2+(1+5+_)≤_; omega
 rw [if_neg hb];by_cases hc:kind=12
 · rw [if_pos hc]; refine Nat.le_trans (openP_ub _ _) ?_; simp only [lW]; show _+2+(1+4+_)≤_; omega
 rw [if_neg hc];by_cases he:kind=13
 · rw [if_pos he]; refine Nat.le_trans (openP_ub _ _) ?_; simp only [lW]; show _+2+(1+4+_)≤_; omega
 rw [if_neg he];by_cases hf:kind=14
 · rw [if_pos hf]; refine Nat.le_trans (openP_ub _ _) ?_; simp only [lW]; show _+2+(1+4+_)≤_; omega
 rw [if_neg hf];show x.out.size≤_;omega
mutual
theorem exW_ub:∀ (e:Ex) (x:Wr),(exW e x).out.size≤x.out.size+wE e
 | .mk kind op name ty num arr subs,x=>by
   have h1:=head_ub kind op name ty num x;have h2:=exsW_ub subs (headW (exHead kind op name ty num) x);unfold exW wE;simp only;rw [close_size];split
   · next h =>
     rw [if_pos h] at h1;have h3:=part_ub name (exsW subs (headW (exHead kind op name ty num) x));omega
   · next h =>
     rw [if_neg h] at h1;omega
theorem exsW_ub:∀ (l:List Ex) (x:Wr),(exsW l x).out.size≤x.out.size+wEs l
 | [],x=>by unfold exsW; omega
 | e::t,x=>by
   unfold exsW wEs;have h1:=exW_ub e x;have h2:=exsW_ub t (exW e x);omega
end
theorem optW_ub (e:Option Ex) (x:Wr):(optW e x).out.size≤x.out.size+wO e+2:=by
 cases e with
 | none =>
   have h:=part_ub dash x;have e:dash.size=1:=rfl;show (partW dash x).out.size≤_;omega
 | some e=>have:=exW_ub e x; show (exW e x).out.size≤_+wE e+2; omega
theorem heads_size (k:Nat):(heads.getD k nt).size≤8:=by
 by_cases h:k < 17
 · have hc:k=0∨k=1∨k=2∨k=3∨k=4∨k=5∨k=6∨k=7∨k=8∨k=9∨k=10∨k=11∨k=12∨k=13∨k=14∨k=15∨k=16:=by omega
   rcases hc with rfl | rfl | rfl | rfl | rfl | rfl | rfl | rfl | rfl | rfl | rfl | rfl | rfl | rfl | rfl | rfl | rfl <;> exact of_decide_eq_true rfl
 · rw [List.getD_eq_getElem?_getD,List.getElem?_eq_none (by show 17≤k; omega)];exact Nat.zero_le _
theorem ite_ub {n:Nat} {c:Prop} [Decidable c] {a b:Wr} (h1:c→a.out.size≤n) (h2:¬ c→b.out.size≤n):(if c then a else b).out.size≤n:=by split; exact h1 (by assumption); exact h2 (by assumption)
mutual
theorem smW_ub:∀ (s:Sm) (x:Wr),(smW s x).out.size≤x.out.size+wS s
 | .mk kind v name minus num e0 e1 e2 body,x=>by
   have h0:=openP_ub [heads.getD kind.toNat nt] x;have hh:=heads_size kind.toNat;simp only [lW] at h0;have hb:=fun y=>smsW_ub body y
   have g0:=fun y=>optW_ub e0 y
   have g1:=fun y=>optW_ub e1 y
   have g2:=fun y=>optW_ub e2 y
   have hd:=decM_size num;have hdv:=decM_size v.num;have hty:=tyM_size v.ty;have hds:dash.size=1:=rfl;unfold smW wS wV;simp only;rw [close_size];generalize openP [heads.getD kind.toNat nt] x=w0 at h0 ⊢;have hn:∀ q:Wr,q.out.size≤x.out.size+99+(v.name.size+tyW v.ty)+name.size+wO e0+wO e1+wO e2+wSs body→q.out.size+1≤x.out.size+(100+(v.name.size+tyW v.ty)+name.size+wO e0+wO e1+wO e2+wSs body):=fun q hq=>by omega
   refine hn _ ?_;clear hn;refine ite_ub (fun _=>by have a1:=hb w0; omega) (fun _=>?_);refine ite_ub (fun _=>by
    have a1:=part_ub (tyM v.ty) w0;have a2:=part_ub v.name (partW (tyM v.ty) w0);have a3:=part_ub (decM v.num) (partW v.name (partW (tyM v.ty) w0));have a4:=g0 (partW (decM v.num) (partW v.name (partW (tyM v.ty) w0)));omega) (fun _=>?_)
   refine ite_ub (fun _=>by
    have a1:=g0 w0;have a2:=hb (optW e0 w0);have a3:=part_ub dash (smsW body (optW e0 w0));exact ite_ub (fun _=>by omega) (fun _=>by omega)) (fun _=>?_)
   refine ite_ub (fun _=>by
    have a1:=g0 w0;have a2:=hb (optW e0 w0);omega) (fun _=>?_)
   refine ite_ub (fun _=>by
    have a1:=hb w0;have a2:=g0 (smsW body w0);omega) (fun _=>?_)
   refine ite_ub (fun _=>by
    have a1:=g0 w0;have a2:=g1 (optW e0 w0);have a3:=g2 (optW e1 (optW e0 w0));have a4:=hb (optW e2 (optW e1 (optW e0 w0)));omega) (fun _=>?_)
   refine ite_ub (fun _=>by
    have a1:=part_ub (dash++decM num) w0;have a2:=part_ub (decM num) w0;rw [cat_size] at a1;exact ite_ub (fun _=>by omega) (fun _=>by omega)) (fun _=>?_)
   refine ite_ub (fun _=>by have a1:=g0 w0; omega) (fun _=>?_);refine ite_ub (fun _=>by have a1:=part_ub name w0; omega) (fun _=>?_);refine ite_ub (fun _=>by
    have a1:=part_ub name w0;have a2:=hb (partW name w0);omega) (fun _=>?_)
   omega
theorem smsW_ub:∀ (l:List Sm) (x:Wr),(smsW l x).out.size≤x.out.size+wSs l
 | [],x=>by unfold smsW; omega
 | e::t,x=>by
   unfold smsW wSs;have h1:=smW_ub e x;have h2:=smsW_ub t (smW e x);omega
end
theorem vars_ub (l:List Vr) (x:Wr):(l.foldl (fun w v=>closeW (openP [tyM v.ty,v.name,decM v.num] w)) x).out.size≤x.out.size+wVs l:=by
 induction l generalizing x with
 | nil=>exact Nat.le_refl _
 | cons v t ih =>
   have h1:=ih (closeW (openP [tyM v.ty,v.name,decM v.num] x));have h2:=openP_ub [tyM v.ty,v.name,decM v.num] x;have hd:=decM_size v.num;have ht:=tyM_size v.ty;rw [close_size] at h1;simp only [lW] at h2;show _≤x.out.size+(60+(v.name.size+tyW v.ty)+wVs t);rw [List.foldl_cons];omega
theorem params_ub (l:List Vr) (x:Wr):(paramsW l x).out.size≤x.out.size+3+wVs l:=by
 have h:∀ (l:List Vr) (x:Wr),(l.foldl (fun w v=>closeW (openP [tyM v.ty,v.name] w)) x).out.size≤x.out.size+wVs l:=by
  intro l
  induction l with
  | nil=>intro x; exact Nat.le_refl _
  | cons v t ih =>
    intro x;have h1:=ih (closeW (openP [tyM v.ty,v.name] x));have h2:=openP_ub [tyM v.ty,v.name] x;have ht:=tyM_size v.ty;rw [close_size] at h1;simp only [lW] at h2;show _≤x.out.size+(60+(v.name.size+tyW v.ty)+wVs t);rw [List.foldl_cons];omega
 unfold paramsW;rw [close_size];have h1:=h l (openP [] x);have h2:=openP_ub [] x;simp only [lW] at h2;omega
theorem types_ub (l:List Ty) (x:Wr):(l.foldl (fun w t=>partW (tyM t) w) x).out.size≤x.out.size+wTs l:=by
 induction l generalizing x with
 | nil=>exact Nat.le_refl _
 | cons v t ih =>
   have h1:=ih (partW (tyM v) x);have h2:=part_ub (tyM v) x;have ht:=tyM_size v;show _≤x.out.size+(10+tyW v+wTs t);rw [List.foldl_cons];omega
theorem itW_ub (i:It) (x:Wr):(itW i x).out.size≤x.out.size+wI i:=by
 have hd:=decM_size i.v.num;have ht:=tyM_size i.v.ty;unfold itW wI wV;rw [close_size];have hn:∀ q:Wr,q.out.size≤x.out.size+199+(i.v.name.size+tyW i.v.ty)+wVs i.vars+wTs i.types+wB i.body+wO i.init+wEs i.list→q.out.size+1≤x.out.size+(200+(i.v.name.size+tyW i.v.ty)+wVs i.vars+wTs i.types+wB i.body+wO i.init+wEs i.list):=fun q hq=>by omega
 refine hn _ ?_;clear hn;refine ite_ub (fun _=>?_) (fun _=>?_)
 · have h1:=openP_ub [⟨#[115,116,114,117,99,116]⟩,i.v.name] x;have h2:=vars_ub i.vars (openP [⟨#[115,116,114,117,99,116]⟩,i.v.name] x);have e:(⟨#[115,116,114,117,99,116]⟩:ByteArray).size=6:=rfl;simp only [lW,e] at h1;omega
 refine ite_ub (fun _=>?_) (fun _=>?_)
 · have h1:=openP_ub [⟨#[116,121,112,101,100,101,102]⟩,tyM i.v.ty,i.v.name] x;have h2:=openP_ub [] (openP [⟨#[116,121,112,101,100,101,102]⟩,tyM i.v.ty,i.v.name] x);have h3:=types_ub i.types (openP [] (openP [⟨#[116,121,112,101,100,101,102]⟩,tyM i.v.ty,i.v.name] x));have e:(⟨#[116,121,112,101,100,101,102]⟩:ByteArray).size=7:=rfl;simp only [lW,e] at h1 h2;rw [close_size];omega
 refine ite_ub (fun _=>?_) (fun _=>?_)
 · have h1:=openP_ub [⟨#[112,114,111,116,111]⟩,tyM i.v.ty,i.v.name] x;have h2:=params_ub i.vars (openP [⟨#[112,114,111,116,111]⟩,tyM i.v.ty,i.v.name] x);have e:(⟨#[112,114,111,116,111]⟩:ByteArray).size=5:=rfl;simp only [lW,e] at h1;omega
 refine ite_ub (fun _=>?_) (fun _=>?_)
 · cases hb:i.body with
   | none=>simp only; omega
   | some b =>
     have h1:=openP_ub [⟨#[102,117,110,99]⟩,tyM i.v.ty,i.v.name] x;have h2:=params_ub i.vars (openP [⟨#[102,117,110,99]⟩,tyM i.v.ty,i.v.name] x);have h3:=smW_ub b (paramsW i.vars (openP [⟨#[102,117,110,99]⟩,tyM i.v.ty,i.v.name] x));have e:(⟨#[102,117,110,99]⟩:ByteArray).size=4:=rfl;simp only [lW,e] at h1;show (smW b (paramsW i.vars (openP [⟨#[102,117,110,99]⟩,tyM i.v.ty,i.v.name] x))).out.size≤_;unfold wB;simp only;omega
 refine ite_ub (fun _=>?_) (fun _=>by omega);have h1:=openP_ub [⟨#[118,97,114]⟩,tyM i.v.ty,i.v.name,decM i.v.num] x;have e:(⟨#[118,97,114]⟩:ByteArray).size=3:=rfl;simp only [lW,e] at h1;simp only;cases hl:i.listed with
 | true =>
   have h2:=openP_ub [⟨#[108,105,115,116]⟩] (openP [⟨#[118,97,114]⟩,tyM i.v.ty,i.v.name,decM i.v.num] x);have h3:=exsW_ub i.list (openP [⟨#[108,105,115,116]⟩] (openP [⟨#[118,97,114]⟩,tyM i.v.ty,i.v.name,decM i.v.num] x));have e:(⟨#[108,105,115,116]⟩:ByteArray).size=4:=rfl;simp only [lW,e] at h2;show (closeW (exsW i.list (openP [⟨#[108,105,115,116]⟩] (openP [⟨#[118,97,114]⟩,tyM i.v.ty,i.v.name,decM i.v.num] x)))).out.size≤_;rw [close_size];omega
 | false =>
   have h2:=optW_ub i.init (openP [⟨#[118,97,114]⟩,tyM i.v.ty,i.v.name,decM i.v.num] x);show (optW i.init (openP [⟨#[118,97,114]⟩,tyM i.v.ty,i.v.name,decM i.v.num] x)).out.size≤_;omega
theorem dumpL_ub (l:List It):(dumpL l).size≤wIs l+l.length:=by
 have h:∀ (l:List It) (x:Wr),(l.foldl (fun w i=>(let w1:=itW i w; { w1 with out:=w1.out++⟨#[10]⟩,fresh:=true })) x).out.size≤x.out.size+wIs l+l.length:=by
  intro l
  induction l with
  | nil=>intro x; exact Nat.le_refl _
  | cons i t ih =>
    intro x;have h1:=ih (let w1:=itW i x; { w1 with out:=w1.out++⟨#[10]⟩,fresh:=true });have h2:=itW_ub i x;have e:(let w1:=itW i x; ({ w1 with out:=w1.out++⟨#[10]⟩,fresh:=true }:Wr)).out.size=(itW i x).out.size+1:=by
     show ((itW i x).out++⟨#[10]⟩).size=_;rw [cat_size]; rfl
    rw [e] at h1;rw [List.foldl_cons,List.length_cons];show _≤_+(wI i+wIs t)+_;omega
 have:=h l ⟨nt,0,0,true⟩;have e:nt.size=0:=rfl;rw [e,Nat.zero_add] at this;exact this
theorem mem_ub {l:List It} {i:It} (h:i∈l):wI i≤wIs l:=by
 induction l with
 | nil=>cases h
 | cons a t ih =>
   show wI i≤wI a+wIs t;rcases List.mem_cons.1 h with rfl | h
   · omega
   · have:=ih h; omega
end Go.Proofs.YtflbkdfbjofllaaGreatDoor.Sy
namespace Go.Proofs.YtflbkdfbjofllaaGreatDoor.Sy
open Go.RowKit Lx
theorem ext_le (s:ByteArray) (i j:Nat):(s.extract i j).size≤s.size:=by rw [ByteArray.size_extract]; omega
def TkIn (s:ByteArray) (t:Tk):Prop:=tkOk t=true∧t.text.size≤s.size
theorem toks_in (s:ByteArray) (hs:s.size≤1000000):∀ (f i:Nat) (acc:List Tk),i≤s.size→(∀ t∈acc,TkIn s t)→acc.length≤6000→(∀ t∈(toksM s f i acc).l,TkIn s t)∧(toksM s f i acc).l.length≤6000
 | 0,i,acc,hi,ha,hl=>⟨ha,hl⟩
 | f+1,i,acc,hi,ha,hl=>by
   have hn:∀ (l:List Tk),l=[]→(∀ t∈l,TkIn s t)∧l.length≤6000:=fun l e=>by rw [e]; exact ⟨(fun t h=>by cases h),Nat.zero_le _⟩
   have hg:=gap_bd (s:=s) s.size i hi;unfold toksM;split
   · exact hn _ rfl
   split
   · exact ⟨ha,hl⟩
   split
   · exact hn _ rfl
   split
   · exact hn _ rfl
   · next h1 h2 h3 h4 =>
     have hb:=tokenM_bd (s:=s) (i:=(gap s s.size i).1) (by omega);refine toks_in s hs f _ _ hb.2.1 (fun t ht=>?_) (by rw [List.length_append,List.length_singleton]; omega);rcases List.mem_append.1 ht with ht | ht
     · exact ha t ht
     · rw [List.mem_singleton] at ht;subst ht;have hx:=ext_le s (gap s s.size i).1 (tokenM s (gap s s.size i).1).j;refine ⟨?_,hx⟩;unfold tkOk tkOf;exact decide_eq_true ⟨by simp only; omega,by have:=hb.2.2.2.2.2; simp only; omega,hb.2.2.1.1,hb.2.2.1.2⟩
theorem tokens_in (s:ByteArray) (hs:s.size≤1000000):(∀ t∈(tokensM s).l,TkIn s t)∧(tokensM s).l.length≤6000∧((tokensM s).code=0→s.size≤20000):=by
 unfold tokensM;split
 · exact ⟨(fun t h=>by cases h),Nat.zero_le _,fun h=>absurd h (by show ¬ (6:Int)=0; decide)⟩
 · have h:=toks_in s hs (s.size+1) 0 [] (Nat.zero_le _) (fun t h=>by cases h) (Nat.zero_le _);exact ⟨h.1,h.2,fun _=>by omega⟩
theorem twL_le {n:Nat}:∀ {l:List Tk},(∀ t∈l,t.text.size≤n)→twL l≤(400+n) * l.length
 | [],_=>Nat.zero_le _
 | t::l,h=>by
   have h1:=h t (List.mem_cons_self ..);have h2:=twL_le (n:=n) (l:=l) (fun t ht=>h t (List.mem_cons_of_mem _ ht));show tw t+twL l≤_;rw [List.length_cons,Nat.mul_succ];unfold tw;omega
theorem itemsM_len' (C:Cx) (g:Nat) (σ:St) (acc:List It):(itemsM C g σ acc).1.length≤acc.length+g:=by
 induction g generalizing σ acc with
 | zero=>exact Nat.le_refl _
 | succ g ih =>
   unfold itemsM;split
   · have e:=ih (itemM C σ).2 (acc++[(itemM C σ).1]);rw [List.length_append,List.length_singleton] at e;simp only;omega
   · simp only; omega
theorem parseOk_any (s:ByteArray) (hs:s.size≤1000000):parseOk s=true:=by
 obtain ⟨h1,h2,h3⟩:=tokens_in s hs;unfold parseOk;rw [decide_eq_true ⟨hs,h2⟩,show (tokensM s).l.all tkOk=true from List.all_eq_true.2 (fun t ht=>(h1 t ht).1)];simp only [Bool.true_and];split
 · rfl
 next hc =>
 split
 · rfl
 next hd =>
 have hc0:(tokensM s).code=0:=by simpa using hc
 have hd0:(itemsOf s).2.code=0:=by simpa using hd
 have hz:=h3 hc0;have hT:Tks ⟨(tokensM s).l,s.size⟩:=⟨fun t ht=>(h1 t ht).1,fun t ht=>Nat.le_trans (h1 t ht).2 (by omega),by show (tokensM s).l.length≤10000; omega⟩;have hi:=items_ok hT ((tokensM s).l.length+1) ⟨0,[],0,0⟩ [] (Nat.zero_le _) (fun t h=>by cases h) hd0;have hp:phi ⟨(tokensM s).l,s.size⟩ ⟨0,[],0,0⟩≤20400 * 6000:=by
  show twL ((tokensM s).l.drop 0)≤_;rw [List.drop_zero];refine Nat.le_trans (twL_le (n:=20000) (fun t ht=>Nat.le_trans (h1 t ht).2 hz)) ?_;exact Nat.mul_le_mul_left _ h2
 have hw:wIs (itemsOf s).1≤20400 * 6000+200 * 6001:=by
  have:=hi.2;have e:wIs []=0:=rfl;rw [e] at this;unfold itemsOf;omega
 have hlen:(itemsOf s).1.length≤6001:=by
  have h:=itemsM_len' ⟨(tokensM s).l,s.size⟩ ((tokensM s).l.length+1) ⟨0,[],0,0⟩ [];unfold itemsOf;rw [List.length_nil] at h;omega
 rw [Bool.and_eq_true,Bool.and_eq_true];refine ⟨List.all_eq_true.2 hi.1,List.all_eq_true.2 (fun i hm=>?_),?_⟩
 · have e1:=itW_ub i ⟨nt,0,0,true⟩;have e2:=mem_ub hm;have e3:nt.size=0:=rfl;simp only [e3] at e1;exact decide_eq_true (by unfold BIG; omega)
 · have e1:=dumpL_ub (itemsOf s).1;exact decide_eq_true (by unfold BIG; omega)
end Go.Proofs.YtflbkdfbjofllaaGreatDoor.Sy
namespace Go.Proofs.YtflbkdfbjofllaaGreatDoor.Sy
open Go.RowKit Lx
variable {C:Cx} {m en:Nat}
def cutC (C:Cx) (m en:Nat):Cx:=⟨C.T.take m,en⟩
theorem cut_len (hm:m≤C.T.length):(cutC C m en).T.length=m:=by unfold cutC; simp; omega
theorem cut_peek {σ:St} {k:Nat} (h:σ.at_+k < m):k+σ.at_ < C.T.length→peekM (cutC C m en) σ k=peekM C σ k:=by
 intro hl;unfold peekM cutC;simp only [List.getD_eq_getElem?_getD];rw [List.getElem?_take_of_lt h,List.getElem?_eq_getElem (by omega)];rfl
section
variable (hm:m≤C.T.length)
include hm
theorem cut_peek0 {σ:St} (h:σ.at_ < m):peekM (cutC C m en) σ 0=peekM C σ 0:=cut_peek (by omega) (by omega)
theorem cut_txt {σ:St} (h:σ.at_ < m):txt (cutC C m en) σ=txt C σ:=by unfold txt; rw [cut_peek0 hm h]
theorem cut_is {σ:St} (h:σ.at_ < m) (t:ByteArray):isM (cutC C m en) σ t=isM C σ t:=by unfold isM; rw [cut_txt hm h]
theorem cut_typed {σ:St} (h:σ.at_ < m):typedM (cutC C m en) σ=typedM C σ:=by unfold typedM; rw [cut_txt hm h,cut_peek0 hm h]
theorem cut_next {σ:St} (h:σ.at_ < m):nextM (cutC C m en) σ=nextM C σ:=by
 unfold nextM;rw [cut_len hm,if_pos h,if_pos (by omega)]
omit hm in
theorem lost_end {σ:St}:(lostM C σ).at_=C.T.length:=rfl
omit hm in
theorem next_ge (σ:St):σ.at_≤(nextM C σ).at_:=by unfold nextM; split; exact Nat.le_succ _; exact Nat.le_refl _
theorem cut_want {σ:St} {t:ByteArray} (hs:σ.at_≤C.T.length) (h:(wantM C σ t).at_ < m):wantM (cutC C m en) σ t=wantM C σ t:=by
 have h0:σ.at_ < m:=Nat.lt_of_le_of_lt (Mo.want (Mo.refl hs) t).at_ h;unfold wantM at h ⊢;rw [cut_is hm h0];by_cases hi:isM C σ t=true
 · rw [if_pos hi,if_pos hi,cut_next hm h0]
 · rw [if_neg hi,lost_end] at h; omega
theorem cut_last {σ:St} {t:ByteArray} (ht:(nt==t)=false) (h:(wantM C σ t).at_≤m) (hc:(wantM C σ t).code=0):σ.at_ < m∧wantM (cutC C m en) σ t=wantM C σ t:=by
 unfold wantM at h hc ⊢;by_cases hi:isM C σ t=true
 · rw [if_pos hi] at h hc ⊢;have h1:=next_at (is_lt hi ht);have h0:σ.at_ < m:=by omega
   exact ⟨h0,by rw [cut_is hm h0,if_pos hi,cut_next hm h0]⟩
 · rw [if_neg hi] at hc; exact absurd hc lost_code
theorem cut_name {σ:St} (hs:σ.at_≤C.T.length) (h:(nameM C σ).2.at_ < m):nameM (cutC C m en) σ=nameM C σ:=by
 have h0:σ.at_ < m:=Nat.lt_of_le_of_lt (Mo.name (Mo.refl hs)).at_ h;unfold nameM at h ⊢;rw [cut_peek0 hm h0,cut_txt hm h0,cut_next hm h0];by_cases hk:(peekM C σ 0).kind=1
 · rw [if_pos hk,if_pos hk]
 · rw [if_neg hk] at h; exact absurd h (by rw [show (nt,lostM C σ).2.at_=C.T.length from rfl]; omega)
theorem cut_base {σ:St} (hs:σ.at_≤C.T.length) (h0:σ.at_ < m) (h:(baseM C σ).2.at_ < m):baseM (cutC C m en) σ=baseM C σ:=by
 have hn:=(Mo.refl hs (C:=C)).next;have hn1:(nextM C σ).at_≤(baseM C σ).2.at_:=by
  have r:=Mo.refl hn.le (C:=C);unfold baseM;simp only
  (repeat' split) <;> first | exact Nat.le_refl _ | exact r.name.at_ | exact r.next.at_
 have h1:(nextM C σ).at_ < m:=Nat.lt_of_le_of_lt hn1 h;unfold baseM at h ⊢;simp only at h ⊢;rw [cut_txt hm h0,cut_next hm h0,cut_txt hm h1,cut_next hm h1];by_cases a1:(txt C σ==(⟨#[118,111,105,100]⟩:ByteArray))=true
 · rw [if_pos a1,if_pos a1]
 rw [if_neg a1] at h ⊢;rw [if_neg a1];by_cases a2:(txt C σ==(⟨#[115,116,114,117,99,116]⟩:ByteArray))=true
 · rw [if_pos a2] at h ⊢;rw [if_pos a2,cut_name hm hn.le h]
 rw [if_neg a2,if_neg a2]
theorem cut_stars:∀ (f f':Nat) (σ:St) (n:Int),σ.at_≤C.T.length→C.T.length≤σ.at_+f→m≤σ.at_+f'→(starsM C f σ n).2.at_ < m→starsM (cutC C m en) f' σ n=starsM C f σ n
 | 0,f',σ,n,hs,hf,hf',h=>by
   have h':σ.at_ < m:=h;omega
 | f+1,f',σ,n,hs,hf,hf',h=>by
   have h0:σ.at_ < m:=Nat.lt_of_le_of_lt (Mo.stars (f+1) σ n (Mo.refl hs)).at_ h;obtain ⟨f',rfl⟩:∃ q,f'=q+1:=⟨f' - 1,by omega⟩;unfold starsM at h ⊢;rw [cut_is hm h0,cut_next hm h0];by_cases hi:isM C σ ⟨#[42]⟩=true
   · rw [if_pos hi] at h ⊢;rw [if_pos hi];have g1:=next_at (is_lt hi rfl);exact cut_stars f f' _ _ (Mo.next (Mo.refl hs)).le (by omega) (by omega) h
   · rw [if_neg hi,if_neg hi]
theorem cut_typ {σ:St} (hs:σ.at_≤C.T.length) (h:(typM C σ).2.at_ < m):typM (cutC C m en) σ=typM C σ:=by
 have h0:σ.at_ < m:=Nat.lt_of_le_of_lt (Mo.typ (Mo.refl hs)).at_ h;unfold typM at h ⊢;rw [cut_typed hm h0];by_cases ht:typedM C σ=true
 · rw [if_pos ht] at h ⊢;rw [if_pos ht];have mb:=Mo.base (Mo.refl hs (C:=C));have ms:=Mo.stars C.T.length (baseM C σ).2 0 (Mo.refl mb.le);have h1:(baseM C σ).2.at_ < m:=Nat.lt_of_le_of_lt ms.at_ h;rw [cut_base hm hs h0 h1,cut_len hm,cut_stars hm C.T.length m (baseM C σ).2 0 mb.le (by omega) (by omega) h]
 · rw [if_neg ht] at h; exact absurd h (by rw [show (ty0,lostM C σ).2.at_=C.T.length from rfl]; omega)
theorem cut_number {σ:St} (hs:σ.at_≤C.T.length) (h:(numberM C σ).2.2.at_ < m):numberM (cutC C m en) σ=numberM C σ:=by
 have h0:σ.at_ < m:=Nat.lt_of_le_of_lt (Mo.number (Mo.refl hs)).at_ h;unfold numberM at h ⊢;simp only at h ⊢;rw [cut_is hm h0,cut_next hm h0];by_cases hi:isM C σ ⟨#[91]⟩=true
 · rw [if_pos hi] at h ⊢;rw [if_pos hi];have r:=Mo.next (Mo.refl hs (C:=C));by_cases hk:(peekM C (nextM C σ) 0).kind=3∧((peekM C (nextM C σ) 0).suf==nt)=true
   · rw [if_pos hk] at h ⊢;have r2:=r.next;have h1:(nextM C (nextM C σ)).at_ < m:=Nat.lt_of_le_of_lt (Mo.want (Mo.refl r2.le) _).at_ h;have h2:(nextM C σ).at_ < m:=Nat.lt_of_le_of_lt (next_ge _) h1;rw [cut_peek0 hm h2,if_pos hk,cut_next hm h2,cut_want hm r2.le h]
   · rw [if_neg hk] at h; exact absurd h (by rw [show (false,(0:Int),lostM C (nextM C σ)).2.2.at_=C.T.length from rfl]; omega)
 · rw [if_neg hi,if_neg hi]
theorem cut_numberType {σ:St} {k:Tk} (hs:σ.at_≤C.T.length) (h:(numberTypeM C σ k).2.at_ < m):numberTypeM (cutC C m en) σ k=numberTypeM C σ k:=by
 unfold numberTypeM at h ⊢;cases hn:numType k with
 | none=>rw [hn] at h; exact absurd h (by rw [show (ty0,failM C σ 6 (k.at_:Int)).2.at_=C.T.length from rfl]; omega)
 | some t=>rfl
theorem cut_prime {σ:St} (hs:σ.at_≤C.T.length) (h:(primeM C σ).2.at_ < m):primeM (cutC C m en) σ=primeM C σ:=by
 have h0:σ.at_ < m:=Nat.lt_of_le_of_lt (Mo.prime (Mo.refl hs)).at_ h;unfold primeM at h ⊢;simp only at h ⊢;rw [cut_peek0 hm h0,cut_next hm h0];by_cases a1:(peekM C σ 0).kind=3
 · rw [if_pos a1] at h ⊢;rw [if_pos a1];have mn:=Mo.numberType (Mo.refl hs (C:=C)) (peekM C σ 0);have h1:(numberTypeM C σ (peekM C σ 0)).2.at_ < m:=Nat.lt_of_le_of_lt (next_ge _) h;rw [cut_numberType hm hs h1,cut_next hm h1]
 rw [if_neg a1] at h ⊢;rw [if_neg a1];by_cases a2:(peekM C σ 0).kind=4
 · rw [if_pos a2,if_pos a2]
 rw [if_neg a2] at h ⊢;rw [if_neg a2];by_cases a3:(peekM C σ 0).kind=1
 · rw [if_pos a3,if_pos a3]
 rw [if_neg a3] at h;have:=next_ge (C:=C) (lostM C σ);rw [lost_end] at this;exact absurd h (by show ¬ (nextM C (lostM C σ)).at_ < m; omega)
theorem cut_size {σ:St} (hs:σ.at_≤C.T.length) (h0:σ.at_ < m) (h:(sizeM C σ).2.at_ < m):sizeM (cutC C m en) σ=sizeM C σ:=by
 unfold sizeM at h ⊢;simp only at h ⊢;have r:=Mo.next (Mo.refl hs (C:=C));have m2:=(Mo.refl r.le).want ⟨#[40]⟩;have m3:=(Mo.refl m2.le).typ;have m4:=(Mo.refl m3.le).number;have m5:=(Mo.refl m4.le).want ⟨#[41]⟩;have h4:=Nat.lt_of_le_of_lt m5.at_ h;have h3:=Nat.lt_of_le_of_lt m4.at_ h4;have h2:=Nat.lt_of_le_of_lt m3.at_ h3;rw [cut_next hm h0,cut_want hm r.le h2,cut_typ hm m2.le h3,cut_number hm m3.le h4,cut_want hm m4.le h]
def CutE (C:Cx) (m en:Nat) (f f':Nat) (j:Job) (σ:St):Prop :=
 σ.at_≤C.T.length→10 * (C.T.length - σ.at_)+need j≤f→10 * (m - σ.at_)+need j≤f'→(E C f j σ).2.at_ < m→E (cutC C m en) f' j σ=E C f j σ
theorem cut_E:∀ (f f':Nat) (j:Job) (σ:St),CutE C m en f f' j σ
 | 0,f',j,σ=>fun _ hf=>absurd hf (by cases j <;> simp only [need] <;> omega)
 | f+1,0,j,σ=>fun _ _ hf=>absurd hf (by cases j <;> simp only [need] <;> omega)
 | f+1,f'+1,j,σ=>fun hs hf hf' h=>by
   have r:=Mo.refl hs (C:=C);have ih:∀ (j:Job) (τ:St),CutE C m en f f' j τ:=fun j τ=>cut_E f f' j τ
   have mo:∀ {τ:St} (j:Job),τ.at_≤C.T.length→Mo C τ (E C f j τ).2:=fun j k=>E_mo f j _ k
   have h0:σ.at_ < m:=Nat.lt_of_le_of_lt (E_mo (f+1) j σ hs).at_ h;have hl:σ.at_ < C.T.length:=by omega
   cases j with
   | expr =>
     unfold E at h ⊢;simp only at h ⊢;have m1:=mo .cond hs;simp only [need] at hf hf';obtain ⟨g,rfl⟩:∃ g,f=g+3:=⟨f - 3,by omega⟩;have g1:=cond_go g σ hl;by_cases ha:assigns (txt C (E C (g+3) .cond σ).2)=true
     · rw [if_pos ha] at h;have m2:=Mo.next (Mo.refl m1.le);have m3:=mo .expr m2.le;have h2:=Nat.lt_of_le_of_lt m3.at_ h;have h1:=Nat.lt_of_le_of_lt (next_ge _) h2;have g2:=next_at (C:=C) (σ:=(E C (g+3) .cond σ).2) (by omega);rw [ih .cond σ hs (by simp only [need]; omega) (by simp only [need]; omega) h1,cut_txt hm h1,if_pos ha,if_pos ha,cut_next hm h1,ih .expr _ m2.le (by simp only [need]; omega) (by simp only [need]; omega) h]
     · rw [if_neg ha] at h;rw [ih .cond σ hs (by simp only [need]; omega) (by simp only [need]; omega) h,cut_txt hm h,if_neg ha,if_neg ha]
   | cond =>
     unfold E at h ⊢;simp only at h ⊢;have m1:=mo (.bin 1) hs;simp only [need] at hf hf';obtain ⟨g,rfl⟩:∃ g,f=g+2:=⟨f - 2,by omega⟩;have g1:=bin_go g 1 σ hl;by_cases ha:isM C (E C (g+2) (.bin 1) σ).2 ⟨#[63]⟩=true
     · rw [if_pos ha] at h;simp only at h;have m2:=Mo.next (Mo.refl m1.le);have m3:=mo .expr m2.le;have m4:=(Mo.refl m3.le).want ⟨#[58]⟩;have m5:=mo .cond m4.le;have h4:=Nat.lt_of_le_of_lt m5.at_ h;have h3:=Nat.lt_of_le_of_lt m4.at_ h4;have h2:=Nat.lt_of_le_of_lt m3.at_ h3;have h1:=Nat.lt_of_le_of_lt (next_ge _) h2;have g2:=next_at (C:=C) (σ:=(E C (g+2) (.bin 1) σ).2) (by omega);have a3:=m3.at_;have a4:=m4.at_;rw [ih (.bin 1) σ hs (by simp only [need]; omega) (by simp only [need]; omega) h1,cut_is hm h1,if_pos ha,if_pos ha,cut_next hm h1,ih .expr _ m2.le (by simp only [need]; omega) (by simp only [need]; omega) h3,cut_want hm m3.le h4,ih .cond _ m4.le (by simp only [need]; omega) (by simp only [need]; omega) h]
     · rw [if_neg ha] at h;rw [ih (.bin 1) σ hs (by simp only [need]; omega) (by simp only [need]; omega) h,cut_is hm h,if_neg ha,if_neg ha]
   | bin l =>
     unfold E at h ⊢;simp only at h ⊢;simp only [need] at hf hf';obtain ⟨g,rfl⟩:∃ g,f=g+1:=⟨f - 1,by omega⟩;have g1:=unary_go g σ hl;have m1:=mo .unary hs;have m2:=mo (.binL l (E C (g+1) .unary σ).1) m1.le;have h1:=Nat.lt_of_le_of_lt m2.at_ h;rw [ih .unary σ hs (by simp only [need]; omega) (by simp only [need]; omega) h1,ih (.binL l (E C (g+1) .unary σ).1) _ m1.le (by simp only [need]; omega) (by simp only [need]; omega) h]
   | binL l x =>
     unfold E at h ⊢;simp only [need] at hf hf';rw [cut_txt hm h0];by_cases hlv:levelM (txt C σ) < l
     · rw [if_pos hlv,if_pos hlv]
     · rw [if_neg hlv] at h;rw [if_neg hlv,if_neg hlv];simp only at h ⊢;have g1:=next_at hl;have m2:=mo (.bin (levelM (txt C σ)+1)) r.next.le;have m3:=mo (.binL l (binEx (txt C σ) x (E C f (.bin (levelM (txt C σ)+1)) (nextM C σ)).1)) m2.le;have h2:=Nat.lt_of_le_of_lt m3.at_ h;have a2:=m2.at_;rw [cut_next hm h0,ih (.bin (levelM (txt C σ)+1)) _ r.next.le (by simp only [need]; omega) (by simp only [need]; omega) h2,ih _ _ m2.le (by simp only [need]; omega) (by simp only [need]; omega) h]
   | unary =>
     unfold E at h ⊢;simp only at h ⊢;simp only [need] at hf hf';have g1:=next_at hl;rw [cut_txt hm h0,cut_is hm h0,cut_is hm h0,cut_next hm h0];by_cases a1:unOps (txt C σ)=true
     · rw [if_pos a1] at h;rw [if_pos a1,if_pos a1,ih .unary _ r.next.le (by simp only [need]; omega) (by simp only [need]; omega) h]
     rw [if_neg a1] at h ⊢;rw [if_neg a1];by_cases a2:isM C σ ⟨#[115,105,122,101,111,102]⟩=true
     · rw [if_pos a2] at h;rw [if_pos a2,if_pos a2,cut_size hm hs h0 h]
     rw [if_neg a2] at h ⊢;rw [if_neg a2];by_cases a3:isM C σ ⟨#[40]⟩=true
     · rw [if_pos a3] at h ⊢;rw [if_pos a3];by_cases a4:typedM C (nextM C σ)=true
       · rw [if_pos a4] at h;simp only at h;have m1:=(Mo.refl r.next.le (C:=C)).typ;have m2:=(Mo.refl m1.le).want ⟨#[41]⟩;have m3:=mo .unary m2.le;have h2:=Nat.lt_of_le_of_lt m3.at_ h;have h1:=Nat.lt_of_le_of_lt m2.at_ h2;have hn:=Nat.lt_of_le_of_lt m1.at_ h1;have b1:=m1.at_;have b2:=m2.at_;rw [cut_typed hm hn,if_pos a4,if_pos a4,cut_typ hm r.next.le h1,cut_want hm m1.le h2,ih .unary _ m2.le (by simp only [need]; omega) (by simp only [need]; omega) h]
       · rw [if_neg a4] at h;have m1:=mo .expr r.next.le;have m2:=(Mo.refl m1.le).want ⟨#[41]⟩;have m3:=mo (.post (E C f .expr (nextM C σ)).1) m2.le;have h2:=Nat.lt_of_le_of_lt m3.at_ h;have h1:=Nat.lt_of_le_of_lt m2.at_ h2;have hn:=Nat.lt_of_le_of_lt m1.at_ h1;have b1:=m1.at_;have b2:=m2.at_;rw [cut_typed hm hn,if_neg a4,if_neg a4,ih .expr _ r.next.le (by simp only [need]; omega) (by simp only [need]; omega) h1,cut_want hm m1.le h2,ih _ _ m2.le (by simp only [need]; omega) (by simp only [need]; omega) h]
     rw [if_neg a3] at h ⊢;rw [if_neg a3];have m1:=Mo.prime r;have m2:=mo (.post (primeM C σ).1) m1.le;have h1:=Nat.lt_of_le_of_lt m2.at_ h;have hp:σ.at_ < (primeM C σ).2.at_:=by
      have hlt:∀ τ:St,σ.at_ < τ.at_→σ.at_ < (nextM C τ).at_:=fun τ k2=>Nat.lt_of_lt_of_le k2 (next_ge τ)
      unfold primeM;simp only
      (repeat' split)
      · unfold numberTypeM;split
        · exact next_go hl
        · exact hlt _ hl
      · exact next_go hl
      · exact next_go hl
      · exact hlt _ hl
     have l1:=m1.le;rw [cut_prime hm hs h1,ih _ _ m1.le (by simp only [need]; omega) (by simp only [need]; omega) h]
   | post x =>
     unfold E at h ⊢;simp only [need] at hf hf';have g1:=next_at hl;rw [cut_is hm h0,cut_is hm h0,cut_is hm h0,cut_is hm h0,cut_next hm h0];by_cases a1:isM C σ ⟨#[91]⟩=true
     · rw [if_pos a1] at h;rw [if_pos a1,if_pos a1];simp only at h ⊢;have m1:=mo .expr r.next.le;have m2:=(Mo.refl m1.le).want ⟨#[93]⟩;have m3:=mo (.post (.mk 9 nt nt ty0 0 false [x,(E C f .expr (nextM C σ)).1])) m2.le;have h2:=Nat.lt_of_le_of_lt m3.at_ h;have h1:=Nat.lt_of_le_of_lt m2.at_ h2;have b1:=m1.at_;have b2:=m2.at_;rw [ih .expr _ r.next.le (by simp only [need]; omega) (by simp only [need]; omega) h1,cut_want hm m1.le h2,ih _ _ m2.le (by simp only [need]; omega) (by simp only [need]; omega) h]
     rw [if_neg a1] at h ⊢;rw [if_neg a1];by_cases a2:isM C σ ⟨#[46]⟩=true
     · rw [if_pos a2] at h;rw [if_pos a2,if_pos a2];simp only at h ⊢;have m1:=(Mo.refl r.next.le (C:=C)).name;have m3:=mo (.post (.mk 10 nt (nameM C (nextM C σ)).1 ty0 0 false [x])) m1.le;have h1:=Nat.lt_of_le_of_lt m3.at_ h;have b1:=m1.at_;rw [cut_name hm r.next.le h1,ih _ _ m1.le (by simp only [need]; omega) (by simp only [need]; omega) h]
     rw [if_neg a2] at h ⊢;rw [if_neg a2];by_cases a3:isM C σ ⟨#[45,62]⟩=true
     · rw [if_pos a3] at h;rw [if_pos a3,if_pos a3];simp only at h ⊢;have m1:=(Mo.refl r.next.le (C:=C)).name;have m3:=mo (.post (.mk 11 nt (nameM C (nextM C σ)).1 ty0 0 false [x])) m1.le;have h1:=Nat.lt_of_le_of_lt m3.at_ h;have b1:=m1.at_;rw [cut_name hm r.next.le h1,ih _ _ m1.le (by simp only [need]; omega) (by simp only [need]; omega) h]
     rw [if_neg a3] at h ⊢;rw [if_neg a3];by_cases a4:isM C σ ⟨#[40]⟩=true
     · rw [if_pos a4] at h ⊢;rw [if_pos a4];by_cases a5:isM C (nextM C σ) ⟨#[41]⟩=true
       · rw [if_pos a5] at h;have m1:=Mo.next (Mo.refl r.next.le (C:=C));have m3:=mo (.post (.mk 12 nt nt ty0 0 false [x])) m1.le;have h2:=Nat.lt_of_le_of_lt m3.at_ h;have h1:=Nat.lt_of_le_of_lt (next_ge _) h2;have b1:=m1.at_;rw [cut_is hm h1,if_pos a5,if_pos a5,cut_next hm h1,ih _ _ m1.le (by simp only [need]; omega) (by simp only [need]; omega) h]
       · rw [if_neg a5] at h;simp only at h;have m1:=mo .expr r.next.le;have m2:=mo (.args (.mk 12 nt nt ty0 0 false [x,(E C f .expr (nextM C σ)).1])) m1.le;have m3:=(Mo.refl m2.le).want ⟨#[41]⟩;have m4:=mo (.post (E C f (.args (.mk 12 nt nt ty0 0 false [x,(E C f .expr (nextM C σ)).1])) (E C f .expr (nextM C σ)).2).1) m3.le;have h3:=Nat.lt_of_le_of_lt m4.at_ h;have h2:=Nat.lt_of_le_of_lt m3.at_ h3;have h1:=Nat.lt_of_le_of_lt m2.at_ h2;have hn:=Nat.lt_of_le_of_lt m1.at_ h1;have b1:=m1.at_;have b2:=m2.at_;have b3:=m3.at_;rw [cut_is hm hn,if_neg a5,if_neg a5];simp only;rw [ih .expr _ r.next.le (by simp only [need]; omega) (by simp only [need]; omega) h1,ih (.args _) _ m1.le (by simp only [need]; omega) (by simp only [need]; omega) h2,cut_want hm m2.le h3,ih (.post _) _ m3.le (by simp only [need]; omega) (by simp only [need]; omega) h]
     rw [if_neg a4,if_neg a4]
   | args x =>
     unfold E at h ⊢;simp only [need] at hf hf';have g1:=next_at hl;rw [cut_is hm h0,cut_next hm h0];by_cases a1:isM C σ ⟨#[44]⟩=true
     · rw [if_pos a1] at h;rw [if_pos a1,if_pos a1];simp only at h ⊢;have m1:=mo .expr r.next.le;have m2:=mo (.args (.mk 12 nt nt ty0 0 false (x.subs++[(E C f .expr (nextM C σ)).1]))) m1.le;have h1:=Nat.lt_of_le_of_lt m2.at_ h;have b1:=m1.at_;rw [ih .expr _ r.next.le (by simp only [need]; omega) (by simp only [need]; omega) h1,ih _ _ m1.le (by simp only [need]; omega) (by simp only [need]; omega) h]
     rw [if_neg a1,if_neg a1]
theorem cut_expr {σ:St} (hs:σ.at_≤C.T.length) (h:(exprM C σ).2.at_ < m):exprM (cutC C m en) σ=exprM C σ:=by
 unfold exprM at h ⊢;exact cut_E hm _ _ .expr σ hs (by simp only [need,fuel]; omega) (by simp only [need,fuel,cut_len hm]; omega) h
theorem cut_cond {σ:St} (hs:σ.at_≤C.T.length) (h:(condM C σ).2.at_ < m):condM (cutC C m en) σ=condM C σ:=by
 unfold condM at h ⊢;exact cut_E hm _ _ .cond σ hs (by simp only [need,fuel]; omega) (by simp only [need,fuel,cut_len hm]; omega) h
end
end Go.Proofs.YtflbkdfbjofllaaGreatDoor.Sy
namespace Go.Proofs.YtflbkdfbjofllaaGreatDoor.Sy
open Go.RowKit Lx
variable {C:Cx} {m en:Nat}
section
variable (hm:m≤C.T.length)
include hm
theorem cut_gone {σ:St} (h:σ.at_=m) {t:ByteArray} (ht:(nt==t)=false):isM (cutC C m en) σ t=false:=by
 unfold isM txt peekM cutC;simp only [List.getD_eq_getElem?_getD];rw [List.getElem?_eq_none (by simp; omega)];exact ht
theorem cut_go {σ:St} (h:σ.at_ < m) (t:ByteArray):goM (cutC C m en) σ t=goM C σ t:=by unfold goM; rw [cut_is hm h,cut_next hm h]
theorem cut_asked {σ:St} (hs:σ.at_≤C.T.length) (h:(askedM C σ).2.at_≤m) (hc:(askedM C σ).2.code=0):askedM (cutC C m en) σ=askedM C σ:=by
 unfold askedM at h hc ⊢;simp only at h hc ⊢;have m1:=(Mo.refl hs (C:=C)).want ⟨#[40]⟩;have m2:=exprM_mo (Mo.refl m1.le);obtain ⟨h2,e2⟩:=cut_last (en:=en) hm rfl h hc;have h1:=Nat.lt_of_le_of_lt m2.at_ h2;rw [cut_want hm hs h1,cut_expr hm m1.le h2,e2]
theorem cut_part {σ:St} {t:ByteArray} (ht:(nt==t)=false) (hs:σ.at_≤C.T.length) (h:(partM C σ t).2.at_≤m) (hc:(partM C σ t).2.code=0):partM (cutC C m en) σ t=partM C σ t:=by
 unfold partM at h hc ⊢;simp only at h hc ⊢;by_cases hi:isM C σ t=true
 · rw [if_pos hi] at h hc ⊢;obtain ⟨h2,e2⟩:=cut_last (en:=en) hm ht h hc;rw [cut_is hm h2,if_pos hi,e2]
 · rw [if_neg hi] at h hc ⊢;have m2:=exprM_mo (Mo.refl hs (C:=C));obtain ⟨h2,e2⟩:=cut_last (en:=en) hm ht h hc;have h1:=Nat.lt_of_le_of_lt m2.at_ h2;rw [cut_is hm h1,if_neg hi,cut_expr hm hs h2];simp only;rw [e2]
theorem cut_let {σ:St} (hs:σ.at_≤C.T.length) (h:(letM C σ).2.at_≤m) (hc:(letM C σ).2.code=0):letM (cutC C m en) σ=letM C σ:=by
 unfold letM at h hc ⊢;simp only at h hc ⊢;have m1:=(Mo.refl hs (C:=C)).typ;have m2:=(Mo.refl m1.le).name;have m3:=(Mo.refl m2.le).number;by_cases hi:isM C (numberM C (nameM C (typM C σ).2).2).2.2 ⟨#[61]⟩=true
 · rw [if_pos hi] at h hc ⊢;simp only at h hc ⊢;have m4:=(Mo.refl m3.le).next;have m5:=exprM_mo (Mo.refl m4.le);obtain ⟨h5,e5⟩:=cut_last (en:=en) hm rfl h hc;have h4:=Nat.lt_of_le_of_lt m5.at_ h5;have h3:=Nat.lt_of_le_of_lt m4.at_ h4;have h2:=Nat.lt_of_le_of_lt m3.at_ h3;have h1:=Nat.lt_of_le_of_lt m2.at_ h2;rw [cut_typ hm hs h1,cut_name hm m1.le h2,cut_number hm m2.le h3,cut_is hm h3,if_pos hi,cut_next hm h3,cut_expr hm m4.le h5];simp only;rw [e5]
 · rw [if_neg hi] at h hc ⊢;simp only at h hc ⊢;obtain ⟨h3,e3⟩:=cut_last (en:=en) hm rfl h hc;have h2:=Nat.lt_of_le_of_lt m3.at_ h3;have h1:=Nat.lt_of_le_of_lt m2.at_ h2;rw [cut_typ hm hs h1,cut_name hm m1.le h2,cut_number hm m2.le h3,cut_is hm h3,if_neg hi];simp only;rw [e3]
theorem cut_labelled {σ:St} (hs:σ.at_≤C.T.length) (h:(labelledM C σ).2.at_≤m) (hc:(labelledM C σ).2.code=0):labelledM (cutC C m en) σ=labelledM C σ:=by
 unfold labelledM at h hc ⊢;simp only at h hc ⊢;obtain ⟨h4,e4⟩:=cut_last (en:=en) hm rfl h hc;have h3:=Nat.lt_of_le_of_lt (next_ge _) h4;have m1:=Mo.next (Mo.refl hs (C:=C));have m2:=(Mo.refl m1.le (C:=C)).go ⟨#[45]⟩;have h2:(goM C (nextM C σ) ⟨#[45]⟩).at_ < m:=by
  refine Nat.lt_of_le_of_lt ?_ h3;split
  · exact (Mo.numberType (Mo.refl m2.le) _).at_
  split
  · exact Nat.le_refl _
  · exact m2.le
 have h1:=Nat.lt_of_le_of_lt m2.at_ h2;have h0:=Nat.lt_of_le_of_lt (next_ge _) h1;rw [cut_next hm h0,cut_is hm h1,cut_go hm h1,cut_peek0 hm h2];have e3:(if (peekM C (goM C (nextM C σ) ⟨#[45]⟩) 0).kind=3 then (numberTypeM (cutC C m en) (goM C (nextM C σ) ⟨#[45]⟩) (peekM C (goM C (nextM C σ) ⟨#[45]⟩) 0)).2 else if (peekM C (goM C (nextM C σ) ⟨#[45]⟩) 0).kind=4 then goM C (nextM C σ) ⟨#[45]⟩ else lostM (cutC C m en) (goM C (nextM C σ) ⟨#[45]⟩))=(if (peekM C (goM C (nextM C σ) ⟨#[45]⟩) 0).kind=3 then (numberTypeM C (goM C (nextM C σ) ⟨#[45]⟩) (peekM C (goM C (nextM C σ) ⟨#[45]⟩) 0)).2 else if (peekM C (goM C (nextM C σ) ⟨#[45]⟩) 0).kind=4 then goM C (nextM C σ) ⟨#[45]⟩ else lostM C (goM C (nextM C σ) ⟨#[45]⟩)):=by
  by_cases a1:(peekM C (goM C (nextM C σ) ⟨#[45]⟩) 0).kind=3
  · rw [if_pos a1] at h3;rw [if_pos a1,if_pos a1,cut_numberType hm m2.le h3]
  rw [if_neg a1] at h3 ⊢;rw [if_neg a1];by_cases a2:(peekM C (goM C (nextM C σ) ⟨#[45]⟩) 0).kind=4
  · rw [if_pos a2,if_pos a2]
  · rw [if_neg a2,lost_end] at h3; omega
 rw [e3,cut_next hm h3,e4]
end
theorem blockL_go (hT:Tks C):∀ (f:Nat) (σ:St) (acc:List Sm),σ.at_≤C.T.length→10 * (C.T.length - σ.at_)+7≤f→(S C f (.blockL acc) σ).2.code=0→σ.at_ < (S C f (.blockL acc) σ).2.at_
 | 0,σ,acc,hs,hf,hc=>absurd hf (by omega)
 | f+1,σ,acc,hs,hf,hc=>by
   unfold S at hc ⊢;by_cases h1:isM C σ ⟨#[125]⟩=true
   · rw [if_pos h1]; exact next_go (is_lt h1 rfl)
   rw [if_neg h1] at hc ⊢;by_cases h2:σ.at_=C.T.length
   · rw [if_pos h2] at hc; exact absurd hc lost_code
   rw [if_neg h2] at hc ⊢;simp only at hc ⊢;have m1:=S_mo f .stmt σ hs;have m2:=S_mo f (.blockL (acc++[(S C f .stmt σ).1])) _ m1.le;have c1:=m2.code hc;have k1:=(S_ok hT f .stmt σ hs (by simp only [needS]; omega) rfl c1).2;have g1:=phi_gt (C:=C) m1.at_ (by have:=wS_ge (S C f .stmt σ).1; simp only [wSj] at k1; omega);exact Nat.lt_of_lt_of_le g1 m2.at_
theorem choiceL_go (hT:Tks C):∀ (f:Nat) (σ:St) (e:Option Ex) (acc:List Sm),σ.at_≤C.T.length→10 * (C.T.length - σ.at_)+7≤f→(S C f (.choiceL e acc) σ).2.code=0→σ.at_ < (S C f (.choiceL e acc) σ).2.at_
 | 0,σ,e,acc,hs,hf,hc=>absurd hf (by omega)
 | f+1,σ,e,acc,hs,hf,hc=>by
   have r:=Mo.refl hs (C:=C);unfold S at hc ⊢;by_cases h1:isM C σ ⟨#[125]⟩=true
   · rw [if_pos h1]; exact next_go (is_lt h1 rfl)
   rw [if_neg h1] at hc ⊢;by_cases h2:σ.at_=C.T.length
   · rw [if_pos h2] at hc; exact absurd hc lost_code
   rw [if_neg h2] at hc ⊢;by_cases h3:isM C σ ⟨#[99,97,115,101]⟩=true
   · rw [if_pos h3] at hc ⊢;simp only at hc ⊢;have m1:=r.labelled;have m2:=S_mo f (.choiceL e (acc++[(labelledM C σ).1])) _ m1.le;have k1:=(labelled_ok hT (is_lt h3 rfl) (m2.code hc)).2;have g1:=phi_gt (C:=C) m1.at_ (by have:=wS_ge (labelledM C σ).1; omega);exact Nat.lt_of_lt_of_le g1 m2.at_
   rw [if_neg h3] at hc ⊢;by_cases h4:isM C σ ⟨#[100,101,102,97,117,108,116]⟩=true
   · rw [if_pos h4] at hc ⊢;have m1:=(Mo.refl r.next.le (C:=C)).want ⟨#[58]⟩;have m2:=S_mo f (.choiceL e (acc++[.mk 10 vr0 nt false 0 none none none []])) _ m1.le;exact Nat.lt_of_lt_of_le (next_go (is_lt h4 rfl)) (Nat.le_trans m1.at_ m2.at_)
   rw [if_neg h4] at hc ⊢;simp only at hc ⊢;have m1:=S_mo f .stmt σ hs;have m2:=S_mo f (.choiceL e (acc++[(S C f .stmt σ).1])) _ m1.le;have c1:=m2.code hc;have k1:=(S_ok hT f .stmt σ hs (by simp only [needS]; omega) rfl c1).2;have g1:=phi_gt (C:=C) m1.at_ (by have:=wS_ge (S C f .stmt σ).1; simp only [wSj] at k1; omega);exact Nat.lt_of_lt_of_le g1 m2.at_
def CutS (C:Cx) (m en:Nat) (f f':Nat) (j:Sj) (σ:St):Prop :=
 σ.at_≤C.T.length→10 * (C.T.length - σ.at_)+needS j≤f→10 * (m - σ.at_)+needS j≤f'→(S C f j σ).2.at_≤m→(S C f j σ).2.code=0→S (cutC C m en) f' j σ=S C f j σ
theorem ite_cut {c c':Prop} [Decidable c] [Decidable c'] {a b a' b':Sm × St} (hcc:c' ↔ c) (h:(if c then a else b).2.at_≤m) (hc:(if c then a else b).2.code=0) (h1:c→a.2.at_≤m→a.2.code=0→a'=a) (h2:¬ c→b.2.at_≤m→b.2.code=0→b'=b):(if c' then a' else b')=(if c then a else b):=by
 by_cases hx:c
 · rw [if_pos hx] at h hc;rw [if_pos hx,if_pos (hcc.2 hx)]; exact h1 hx h hc
 · rw [if_neg hx] at h hc;rw [if_neg hx,if_neg (fun e=>hx (hcc.1 e))]; exact h2 hx h hc
theorem cut_S (hT:Tks C) (hm:m≤C.T.length):∀ (f f':Nat) (j:Sj) (σ:St),CutS C m en f f' j σ
 | 0,f',j,σ=>fun _ hf=>absurd hf (by cases j <;> simp only [needS] <;> omega)
 | f+1,0,j,σ=>fun hs hf hf' _ _=>absurd hf' (by cases j <;> simp only [needS] <;> omega)
 | f+1,f'+1,j,σ=>fun hs hf hf' h hc=>by
   have r:=Mo.refl hs (C:=C);have ih:∀ (j:Sj) (τ:St),CutS C m en f f' j τ:=fun j τ=>cut_S hT hm f f' j τ
   have mo:∀ {τ:St} (j:Sj),τ.at_≤C.T.length→Mo C τ (S C f j τ).2:=fun j k=>S_mo f j _ k
   cases j with
   | block =>
     unfold S at h hc ⊢;simp only [needS] at hf hf';have m1:=r.want ⟨#[123]⟩;have m2:=mo (.blockL []) m1.le;have c1:=m2.code hc;have a2:=m2.at_;obtain ⟨h1,e1⟩:=cut_last (en:=en) hm (t:=⟨#[123]⟩) rfl (Nat.le_trans a2 h) c1;have g1:(wantM C σ ⟨#[123]⟩).at_=σ.at_+1:=by
      unfold wantM at c1 ⊢;by_cases hi:isM C σ ⟨#[123]⟩=true
      · rw [if_pos hi]; exact next_at (is_lt hi rfl)
      · rw [if_neg hi] at c1; exact absurd c1 lost_code
     rw [e1];exact ih (.blockL []) _ m1.le (by simp only [needS]; omega) (by simp only [needS]; omega) h hc
   | blockL acc =>
     have hg:=blockL_go hT (f+1) σ acc hs (by simp only [needS] at hf; omega) hc;have h0:σ.at_ < m:=Nat.lt_of_lt_of_le hg h;unfold S at h hc ⊢;simp only [needS] at hf hf';rw [cut_is hm h0,cut_next hm h0,cut_len hm];refine ite_cut Iff.rfl h hc (fun _ _ _=>rfl) (fun _ h hc=>?_);refine ite_cut (c':=σ.at_=m) (c:=σ.at_=C.T.length) ⟨fun e=>by omega,fun e=>by omega⟩ h hc (fun _ _ hc=>absurd hc lost_code) (fun _ h hc=>?_);simp only at h hc ⊢;have m1:=mo .stmt hs;have m2:=mo (.blockL (acc++[(S C f .stmt σ).1])) m1.le;have c1:=m2.code hc;have a2:=m2.at_;have k1:=(S_ok hT f .stmt σ hs (by simp only [needS]; omega) rfl c1).2;have g1:=phi_gt (C:=C) m1.at_ (by have:=wS_ge (S C f .stmt σ).1; simp only [wSj] at k1; omega);rw [ih .stmt σ hs (by simp only [needS]; omega) (by simp only [needS]; omega) (Nat.le_trans a2 h) c1];exact ih (.blockL (acc++[(S C f .stmt σ).1])) _ m1.le (by simp only [needS]; omega) (by simp only [needS]; omega) h hc
   | choiceL e acc =>
     have hg:=choiceL_go hT (f+1) σ e acc hs (by simp only [needS] at hf; omega) hc;have h0:σ.at_ < m:=Nat.lt_of_lt_of_le hg h;unfold S at h hc ⊢;simp only [needS] at hf hf';rw [cut_is hm h0,cut_is hm h0,cut_is hm h0,cut_next hm h0,cut_len hm];refine ite_cut Iff.rfl h hc (fun _ _ _=>rfl) (fun _ h hc=>?_);refine ite_cut (c':=σ.at_=m) (c:=σ.at_=C.T.length) ⟨fun e=>by omega,fun e=>by omega⟩ h hc (fun _ _ hc=>absurd hc lost_code) (fun _ h hc=>?_);refine ite_cut Iff.rfl h hc (fun h3 h hc=>?_) (fun _ h hc=>?_)
     · simp only at h hc ⊢;have m1:=r.labelled;have m2:=mo (.choiceL e (acc++[(labelledM C σ).1])) m1.le;have c1:=m2.code hc;have a2:=m2.at_;have k1:=(labelled_ok hT (is_lt h3 rfl) c1).2;have g1:=phi_gt (C:=C) m1.at_ (by have:=wS_ge (labelledM C σ).1; omega);rw [cut_labelled hm hs (Nat.le_trans a2 h) c1];exact ih _ _ m1.le (by simp only [needS]; omega) (by simp only [needS]; omega) h hc
     refine ite_cut Iff.rfl h hc (fun h4 h hc=>?_) (fun _ h hc=>?_)
     · have m1:=(Mo.refl r.next.le (C:=C)).want ⟨#[58]⟩;have m2:=mo (.choiceL e (acc++[.mk 10 vr0 nt false 0 none none none []])) m1.le;have c1:=m2.code hc;have a1:=m1.at_;have a2:=m2.at_;have g1:=next_at (is_lt h4 rfl);obtain ⟨h1,e1⟩:=cut_last (en:=en) hm (t:=⟨#[58]⟩) rfl (Nat.le_trans a2 h) c1;rw [e1];exact ih _ _ m1.le (by simp only [needS]; omega) (by simp only [needS]; omega) h hc
     simp only at h hc ⊢;have m1:=mo .stmt hs;have m2:=mo (.choiceL e (acc++[(S C f .stmt σ).1])) m1.le;have c1:=m2.code hc;have a2:=m2.at_;have k1:=(S_ok hT f .stmt σ hs (by simp only [needS]; omega) rfl c1).2;have g1:=phi_gt (C:=C) m1.at_ (by have:=wS_ge (S C f .stmt σ).1; simp only [wSj] at k1; omega);rw [ih .stmt σ hs (by simp only [needS]; omega) (by simp only [needS]; omega) (Nat.le_trans a2 h) c1];exact ih _ _ m1.le (by simp only [needS]; omega) (by simp only [needS]; omega) h hc
   | stmt =>
     have m00:=S_mo (f+1) .stmt σ hs;have k00:=(S_ok hT (f+1) .stmt σ hs hf rfl hc).2;have g00:=phi_gt (C:=C) m00.at_ (by have:=wS_ge (S C (f+1) .stmt σ).1; simp only [wSj] at k00; omega);have h0:σ.at_ < m:=Nat.lt_of_lt_of_le g00 h;have hl:σ.at_ < C.T.length:=by omega
     have g1:=next_at hl;have n1:=r.next.le;clear m00 k00 g00;unfold S at h hc ⊢;simp only at h hc ⊢;simp only [needS] at hf hf';have hI:∀ t,isM (cutC C m en) σ t=isM C σ t:=fun t=>cut_is hm h0 t
     rw [cut_typed hm h0,cut_peek0 hm h0,cut_txt hm h0];simp only [hI,cut_next hm h0];refine ite_cut Iff.rfl h hc (fun _ h hc=>ih .block σ hs (by simp only [needS]; omega) (by simp only [needS]; omega) h hc) (fun _ h hc=>?_);refine ite_cut Iff.rfl h hc (fun _ _ _=>rfl) (fun _ h hc=>?_);refine ite_cut Iff.rfl h hc (fun _ h hc=>cut_let hm hs h hc) (fun _ h hc=>?_);refine ite_cut ?_ h hc (fun hk h hc=>?_) (fun _ h hc=>?_)
     · -- the label
       rcases Nat.lt_or_ge (σ.at_+1) m with h1 | h1
       · rw [cut_peek (C:=C) (m:=m) (en:=en) (σ:=σ) (k:=1) h1 (by omega)]
       · have e1:peekM (cutC C m en) σ 1=⟨0,en,nt,nt,0,false⟩:=by
          unfold peekM cutC;simp only [List.getD_eq_getElem?_getD];rw [List.getElem?_eq_none (by simp; omega)]; rfl
         rw [e1];refine ⟨fun hx=>absurd hx.2 (show ¬ (nt==(⟨#[58]⟩:ByteArray))=true by decide),fun hx=>?_⟩;exfalso;rw [if_pos hx] at h;have m1:=Mo.next (Mo.refl n1 (C:=C));have m2:=mo .stmt m1.le;have a2:=m2.at_;have hp1:σ.at_+1 < C.T.length:=by
          apply Classical.byContradiction;intro hn;have e2:peekM C σ 1=⟨0,C.en,nt,nt,0,false⟩:=by
           unfold peekM;rw [List.getD_eq_getElem?_getD,List.getElem?_eq_none (by omega)]; rfl
          rw [e2] at hx;exact absurd hx.2 (by show ¬ (nt==(⟨#[58]⟩:ByteArray))=true; decide)
         have g2:=next_at (C:=C) (σ:=nextM C σ) (by omega);simp only at h;omega
     · simp only at h hc ⊢;have m1:=Mo.next (Mo.refl n1 (C:=C));have m2:=mo .stmt m1.le;have a2:=m2.at_;have a1:=m1.at_;have h1:(nextM C σ).at_ < m:=by
        have c1:=hc;have k1:=(S_ok hT f .stmt _ m1.le (by simp only [needS]; omega) rfl c1).2;have g3:=phi_gt (C:=C) m2.at_ (by have:=wS_ge (S C f .stmt (nextM C (nextM C σ))).1; simp only [wSj] at k1; omega);omega
       rw [cut_next hm h1,ih .stmt _ m1.le (by simp only [needS]; omega) (by simp only [needS]; omega) h hc]
     refine ite_cut Iff.rfl h hc (fun hk h hc=>?_) (fun _ h hc=>?_)
     · refine ite_cut Iff.rfl h hc (fun _ h hc=>?_) (fun _ h hc=>?_)
       · -- if
         have m1:=(Mo.refl n1).asked;have m2:=mo .stmt m1.le;have a1:=m1.at_;have a2:=m2.at_;by_cases he:isM C (S C f .stmt (askedM C (nextM C σ)).2).2 ⟨#[101,108,115,101]⟩=true
         · rw [if_pos he] at h hc ⊢;simp only at h hc ⊢;have m3:=Mo.next (Mo.refl m2.le);have m4:=mo .stmt m3.le;have g3:=next_at (is_lt he rfl);have c3:=m4.code hc;have c2:=m3.code c3;have c1:=m2.code c2;have a4:=m4.at_;have h2:(S C f .stmt (askedM C (nextM C σ)).2).2.at_ < m:=by omega
           rw [cut_asked hm n1 (by omega) c1,ih .stmt _ m1.le (by simp only [needS]; omega) (by simp only [needS]; omega) (by omega) c2,cut_is hm h2,if_pos he,cut_next hm h2,ih .stmt _ m3.le (by simp only [needS]; omega) (by simp only [needS]; omega) h hc]
         · rw [if_neg he] at h hc ⊢;simp only at h hc ⊢;have c1:=m2.code hc;rw [cut_asked hm n1 (by omega) c1,ih .stmt _ m1.le (by simp only [needS]; omega) (by simp only [needS]; omega) h hc];rcases Nat.lt_or_ge (S C f .stmt (askedM C (nextM C σ)).2).2.at_ m with h2 | h2
           · rw [cut_is hm h2,if_neg he]
           · rw [cut_gone hm (by omega) rfl,if_neg (by decide)]
       refine ite_cut Iff.rfl h hc (fun _ h hc=>?_) (fun _ h hc=>?_)
       · simp only at h hc ⊢;have m1:=(Mo.refl n1).asked;have m2:=mo .stmt m1.le;have a1:=m1.at_;have a2:=m2.at_;rw [cut_asked hm n1 (by omega) (m2.code hc),ih .stmt _ m1.le (by simp only [needS]; omega) (by simp only [needS]; omega) h hc]
       refine ite_cut Iff.rfl h hc (fun _ h hc=>?_) (fun _ h hc=>?_)
       · simp only at h hc ⊢;have m1:=mo .stmt n1;have m2:=(Mo.refl m1.le).want ⟨#[119,104,105,108,101]⟩;have m3:=(Mo.refl m2.le).asked;have m4:=(Mo.refl m3.le).want ⟨#[59]⟩;have c3:=m4.code hc;have c2:=m3.code c3;have c1:=m2.code c2;have a2:=m2.at_;have a3:=m3.at_;have a4:=m4.at_;obtain ⟨h3,e3⟩:=cut_last (en:=en) hm rfl h hc;have h2:=Nat.lt_of_le_of_lt a3 h3;rw [ih .stmt _ n1 (by simp only [needS]; omega) (by simp only [needS]; omega) (by omega) c1,cut_want hm m1.le h2,cut_asked hm m2.le (by omega) c3,e3]
       refine ite_cut Iff.rfl h hc (fun _ h hc=>?_) (fun _ h hc=>?_)
       · simp only at h hc ⊢;have m0:=(Mo.refl n1).want ⟨#[40]⟩;have m1:=(Mo.refl m0.le).part ⟨#[59]⟩;have m2:=(Mo.refl m1.le).part ⟨#[59]⟩;have m3:=(Mo.refl m2.le).part ⟨#[41]⟩;have m4:=mo .stmt m3.le;have c3:=m4.code hc;have c2:=m3.code c3;have c1:=m2.code c2;have c0:=m1.code c1;have a0:=m0.at_;have a1:=m1.at_;have a2:=m2.at_;have a3:=m3.at_;have a4:=m4.at_;obtain ⟨_,e0⟩:=cut_last (C:=C) (σ:=nextM C σ) (t:=⟨#[40]⟩) (en:=en) hm rfl (by omega) c0;rw [e0,cut_part hm rfl m0.le (by omega) c1,cut_part hm rfl m1.le (by omega) c2,cut_part hm rfl m2.le (by omega) c3,ih .stmt _ m3.le (by simp only [needS]; omega) (by simp only [needS]; omega) h hc]
       refine ite_cut Iff.rfl h hc (fun _ h hc=>?_) (fun _ h hc=>?_)
       · have m1:=(Mo.refl n1).asked;have m2:=(Mo.refl m1.le).want ⟨#[123]⟩;have m3:=mo (.choiceL (some (askedM C (nextM C σ)).1) []) m2.le;have c2:=m3.code hc;have c1:=m2.code c2;have a1:=m1.at_;have a2:=m2.at_;have a3:=m3.at_;obtain ⟨_,e2⟩:=cut_last (C:=C) (σ:=(askedM C (nextM C σ)).2) (t:=⟨#[123]⟩) (en:=en) hm rfl (by omega) c2;rw [cut_asked hm n1 (by omega) c1,e2];exact ih _ _ m2.le (by simp only [needS]; omega) (by simp only [needS]; omega) h hc
       refine ite_cut Iff.rfl h hc (fun _ h hc=>?_) (fun _ h hc=>?_)
       · simp only at h hc ⊢;rw [(cut_last (en:=en) hm rfl h hc).2]
       refine ite_cut Iff.rfl h hc (fun _ h hc=>?_) (fun _ h hc=>?_)
       · simp only at h hc ⊢;rw [(cut_last (en:=en) hm rfl h hc).2]
       refine ite_cut Iff.rfl h hc (fun _ h hc=>?_) (fun _ h hc=>?_)
       · simp only at h hc ⊢;rw [cut_part hm rfl n1 h hc]
       refine ite_cut Iff.rfl h hc (fun _ h hc=>?_) (fun _ h hc=>absurd hc lost_code);simp only at h hc ⊢;have m1:=(Mo.refl n1).name;obtain ⟨h1,e1⟩:=cut_last (en:=en) hm rfl h hc;rw [cut_name hm n1 h1,e1]
     · simp only at h hc ⊢;obtain ⟨h1,e1⟩:=cut_last (en:=en) hm rfl h hc;rw [cut_expr hm hs h1,e1]
theorem cut_block (hT:Tks C) (hm:m≤C.T.length) {σ:St} (hs:σ.at_≤C.T.length) (h:(blockM C σ).2.at_≤m) (hc:(blockM C σ).2.code=0):blockM (cutC C m en) σ=blockM C σ:=by
 unfold blockM at h hc ⊢;exact cut_S hT hm _ _ .block σ hs (by simp only [needS]; omega) (by simp only [needS,cut_len hm]; omega) h hc
end Go.Proofs.YtflbkdfbjofllaaGreatDoor.Sy
namespace Go.Proofs.YtflbkdfbjofllaaGreatDoor.Sy
open Go.RowKit Lx
variable {C:Cx} {m en:Nat}
section
variable (hm:m≤C.T.length)
include hm
theorem cut_param {σ:St} (hs:σ.at_≤C.T.length) (h:(paramM C σ).2.at_ < m):paramM (cutC C m en) σ=paramM C σ:=by
 unfold paramM at h ⊢;simp only at h ⊢;have m1:=(Mo.refl hs (C:=C)).typ;have m2:=(Mo.refl m1.le).name;have h1:=Nat.lt_of_le_of_lt m2.at_ h;rw [cut_typ hm hs h1,cut_name hm m1.le h]
theorem cut_params:∀ (f f':Nat) (σ:St) (acc:List Vr),σ.at_≤C.T.length→C.T.length≤σ.at_+f→m≤σ.at_+f'→(paramsM C f σ acc).2.at_ < m→paramsM (cutC C m en) f' σ acc=paramsM C f σ acc
 | 0,f',σ,acc,hs,hf,hf',h=>by
   have h':σ.at_ < m:=h;omega
 | f+1,f',σ,acc,hs,hf,hf',h=>by
   have h0:σ.at_ < m:=Nat.lt_of_le_of_lt (params_mo (f+1) σ acc hs).at_ h;obtain ⟨f',rfl⟩:∃ q,f'=q+1:=⟨f' - 1,by omega⟩;unfold paramsM at h ⊢;rw [cut_is hm h0,cut_next hm h0];by_cases hi:isM C σ ⟨#[44]⟩=true
   · rw [if_pos hi] at h ⊢;rw [if_pos hi];simp only at h ⊢;have g1:=next_at (is_lt hi rfl);have r:=Mo.next (Mo.refl hs (C:=C));have m1:=(Mo.refl r.le (C:=C)).param;have m2:=params_mo f (paramM C (nextM C σ)).2 (acc++[(paramM C (nextM C σ)).1]) m1.le;have h1:=Nat.lt_of_le_of_lt m2.at_ h;have a1:=m1.at_;rw [cut_param hm r.le h1,cut_params f f' _ _ m1.le (by omega) (by omega) h]
   · rw [if_neg hi,if_neg hi]
theorem cut_tyl:∀ (f f':Nat) (σ:St) (acc:List Ty),σ.at_≤C.T.length→C.T.length≤σ.at_+f→m≤σ.at_+f'→(typesM C f σ acc).2.at_ < m→typesM (cutC C m en) f' σ acc=typesM C f σ acc
 | 0,f',σ,acc,hs,hf,hf',h=>by
   have h':σ.at_ < m:=h;omega
 | f+1,f',σ,acc,hs,hf,hf',h=>by
   have h0:σ.at_ < m:=Nat.lt_of_le_of_lt (types_mo (f+1) σ acc hs).at_ h;obtain ⟨f',rfl⟩:∃ q,f'=q+1:=⟨f' - 1,by omega⟩;unfold typesM at h ⊢;rw [cut_is hm h0,cut_next hm h0];by_cases hi:isM C σ ⟨#[44]⟩=true
   · rw [if_pos hi] at h ⊢;rw [if_pos hi];simp only at h ⊢;have g1:=next_at (is_lt hi rfl);have r:=Mo.next (Mo.refl hs (C:=C));have m1:=(Mo.refl r.le (C:=C)).typ;have m2:=types_mo f (typM C (nextM C σ)).2 (acc++[(typM C (nextM C σ)).1]) m1.le;have h1:=Nat.lt_of_le_of_lt m2.at_ h;have a1:=m1.at_;rw [cut_typ hm r.le h1,cut_tyl f f' _ _ m1.le (by omega) (by omega) h]
   · rw [if_neg hi,if_neg hi]
theorem cut_conds:∀ (f f':Nat) (σ:St) (acc:List Ex),σ.at_≤C.T.length→C.T.length≤σ.at_+f→m≤σ.at_+f'→(condsM C f σ acc).2.at_ < m→condsM (cutC C m en) f' σ acc=condsM C f σ acc
 | 0,f',σ,acc,hs,hf,hf',h=>by
   have h':σ.at_ < m:=h;omega
 | f+1,f',σ,acc,hs,hf,hf',h=>by
   have h0:σ.at_ < m:=Nat.lt_of_le_of_lt (conds_mo (f+1) σ acc hs).at_ h;obtain ⟨f',rfl⟩:∃ q,f'=q+1:=⟨f' - 1,by omega⟩;unfold condsM at h ⊢;rw [cut_is hm h0,cut_next hm h0];by_cases hi:isM C σ ⟨#[44]⟩=true
   · rw [if_pos hi] at h ⊢;rw [if_pos hi];simp only at h ⊢;have g1:=next_at (is_lt hi rfl);have r:=Mo.next (Mo.refl hs (C:=C));have m1:=condM_mo (Mo.refl r.le (C:=C));have m2:=conds_mo f (condM C (nextM C σ)).2 (acc++[(condM C (nextM C σ)).1]) m1.le;have h1:=Nat.lt_of_le_of_lt m2.at_ h;have a1:=m1.at_;rw [cut_cond hm r.le h1,cut_conds f f' _ _ m1.le (by omega) (by omega) h]
   · rw [if_neg hi,if_neg hi]
theorem cut_field {σ:St} (hs:σ.at_≤C.T.length) (h:(fieldM C σ).2.at_≤m) (hc:(fieldM C σ).2.code=0):fieldM (cutC C m en) σ=fieldM C σ:=by
 unfold fieldM at h hc ⊢;simp only at h hc ⊢;have m1:=(Mo.refl hs (C:=C)).typ;have m2:=(Mo.refl m1.le).name;have m3:=(Mo.refl m2.le).number;obtain ⟨h3,e3⟩:=cut_last (en:=en) hm rfl h hc;have h2:=Nat.lt_of_le_of_lt m3.at_ h3;have h1:=Nat.lt_of_le_of_lt m2.at_ h2;rw [cut_typ hm hs h1,cut_name hm m1.le h2,cut_number hm m2.le h3,e3]
omit hm in
theorem fieldM_go (hT:Tks C) {σ:St} (hs:σ.at_≤C.T.length) (hc:(fieldM C σ).2.code=0):σ.at_ < (fieldM C σ).2.at_:=by
 have m1:=(Mo.refl hs (C:=C)).field;exact phi_gt (C:=C) m1.at_ (by have:=(field_ok hT hs hc).2; omega)
omit hm in
theorem fields_go (hT:Tks C):∀ (f:Nat) (σ:St) (acc:List Vr),σ.at_≤C.T.length→C.T.length+1≤σ.at_+f→(fieldsM C f σ acc).2.code=0→σ.at_ < (fieldsM C f σ acc).2.at_
 | 0,σ,acc,hs,hf,hc=>by omega
 | f+1,σ,acc,hs,hf,hc=>by
   have m1:=(Mo.refl hs (C:=C)).field;have mm:=fields_mo (f+1) σ acc hs;unfold fieldsM at hc mm ⊢;simp only at hc mm ⊢;by_cases h1:isM C (fieldM C σ).2 ⟨#[125]⟩=true
   · rw [if_pos h1] at hc ⊢;have g:=next_go (is_lt h1 rfl);have m2:=(Mo.refl m1.le).next.want ⟨#[59]⟩;have m3:=(Mo.refl (Mo.refl m1.le).next.le).want ⟨#[59]⟩;have a1:=m1.at_;have a3:=m3.at_;simp only;omega
   rw [if_neg h1] at hc ⊢;by_cases h2:typedM C (fieldM C σ).2=true
   · rw [if_pos h2] at hc ⊢;have g:=typed_lt h2;have mf:=fields_mo f (fieldM C σ).2 (acc++[(fieldM C σ).1]) m1.le;have c1:=mf.code hc;exact Nat.lt_of_lt_of_le (fieldM_go hT hs c1) mf.at_
   · rw [if_neg h2] at hc; exact absurd hc lost_code
theorem cut_fields (hT:Tks C):∀ (f f':Nat) (σ:St) (acc:List Vr),σ.at_≤C.T.length→C.T.length+1≤σ.at_+f→m+1≤σ.at_+f'→(fieldsM C f σ acc).2.at_≤m→(fieldsM C f σ acc).2.code=0→fieldsM (cutC C m en) f' σ acc=fieldsM C f σ acc
 | 0,f',σ,acc,hs,hf,hf',h,hc=>by omega
 | f+1,f',σ,acc,hs,hf,hf',h,hc=>by
   have hg:=fields_go hT (f+1) σ acc hs hf hc;obtain ⟨f',rfl⟩:∃ q,f'=q+1:=⟨f' - 1,by omega⟩;have m1:=(Mo.refl hs (C:=C)).field;unfold fieldsM at h hc ⊢;simp only at h hc ⊢;by_cases h1:isM C (fieldM C σ).2 ⟨#[125]⟩=true
   · rw [if_pos h1] at h hc ⊢;have r2:=(Mo.refl m1.le).next;obtain ⟨h2,e2⟩:=cut_last (en:=en) hm rfl h hc;have hx:=Nat.lt_of_le_of_lt (next_ge _) h2;have c1:=(r2.want ⟨#[59]⟩).code hc;rw [cut_field hm hs (by omega) c1,cut_is hm hx,if_pos h1,cut_next hm hx,e2]
   rw [if_neg h1] at h hc ⊢;by_cases h2:typedM C (fieldM C σ).2=true
   · rw [if_pos h2] at h hc ⊢;have mf:=fields_mo f (fieldM C σ).2 (acc++[(fieldM C σ).1]) m1.le;have c1:=mf.code hc;have g1:=fieldM_go hT hs c1;have g2:=fields_go hT f (fieldM C σ).2 (acc++[(fieldM C σ).1]) m1.le (by omega) hc;have hx:(fieldM C σ).2.at_ < m:=Nat.lt_of_lt_of_le g2 h;rw [cut_field hm hs (by omega) c1,cut_is hm hx,if_neg h1,cut_typed hm hx,if_pos h2];exact cut_fields hT f f' _ _ m1.le (by omega) (by omega) h hc
   · rw [if_neg h2] at hc; exact absurd hc lost_code
theorem cut_struct (hT:Tks C) {i:It} {σ:St} (h0:σ.at_ < m) (h:(structM C i σ).2.at_≤m) (hc:(structM C i σ).2.code=0):structM (cutC C m en) i σ=structM C i σ:=by
 have hs:σ.at_≤C.T.length:=by omega
 unfold structM at h hc ⊢;simp only at h hc ⊢;have m0:=(Mo.refl hs (C:=C)).next;have m1:=(Mo.refl m0.le).name;have m2:=(Mo.refl m1.le).want ⟨#[123]⟩;have m3:=fields_mo (C.T.length+1) (wantM C (nameM C (nextM C σ)).2 ⟨#[123]⟩) [] m2.le;have c2:=m3.code hc;have a3:=m3.at_;obtain ⟨h1,e2⟩:=cut_last (C:=C) (σ:=(nameM C (nextM C σ)).2) (t:=⟨#[123]⟩) (en:=en) hm rfl (by omega) c2;rw [cut_next hm h0,cut_name hm m0.le h1,e2,cut_len hm,cut_fields hm hT (C.T.length+1) (m+1) _ [] m2.le (by omega) (by omega) h hc]
theorem cut_typedef {i:It} {σ:St} (h0:σ.at_ < m) (h:(typedefM C i σ).2.at_≤m) (hc:(typedefM C i σ).2.code=0):typedefM (cutC C m en) i σ=typedefM C i σ:=by
 have hs:σ.at_≤C.T.length:=by omega
 unfold typedefM at h hc ⊢;simp only at h hc ⊢;have m0:=(Mo.refl hs (C:=C)).next;have m1:=(Mo.refl m0.le).typ;have m2:=(Mo.refl m1.le).name;have m3:=(Mo.refl m2.le).want ⟨#[40]⟩;by_cases hi:isM C (wantM C (nameM C (typM C (nextM C σ)).2).2 ⟨#[40]⟩) ⟨#[41]⟩=true
 · rw [if_pos hi] at h hc ⊢;simp only at h hc ⊢;obtain ⟨h4,e4⟩:=cut_last (C:=C) (en:=en) hm (t:=⟨#[59]⟩) rfl h hc;have h3:=Nat.lt_of_le_of_lt (next_ge _) h4;have h2:=Nat.lt_of_le_of_lt m3.at_ h3;have h1:=Nat.lt_of_le_of_lt m2.at_ h2;rw [cut_next hm h0,cut_typ hm m0.le h1,cut_name hm m1.le h2,cut_want hm m2.le h3,cut_is hm h3,if_pos hi,cut_next hm h3];simp only;rw [e4]
 · rw [if_neg hi] at h hc ⊢;simp only at h hc ⊢;have m4:=(Mo.refl m3.le).typ;have m5:=types_mo C.T.length _ [(typM C (wantM C (nameM C (typM C (nextM C σ)).2).2 ⟨#[40]⟩)).1] m4.le;have m6:=(Mo.refl m5.le).want ⟨#[41]⟩;obtain ⟨h6,e6⟩:=cut_last (C:=C) (en:=en) hm (t:=⟨#[59]⟩) rfl h hc;have h5:=Nat.lt_of_le_of_lt m6.at_ h6;have h4:=Nat.lt_of_le_of_lt m5.at_ h5;have h3:=Nat.lt_of_le_of_lt m4.at_ h4;have h2:=Nat.lt_of_le_of_lt m3.at_ h3;have h1:=Nat.lt_of_le_of_lt m2.at_ h2;rw [cut_next hm h0,cut_typ hm m0.le h1,cut_name hm m1.le h2,cut_want hm m2.le h3,cut_is hm h3,if_neg hi,cut_typ hm m3.le h4,cut_len hm,cut_tyl hm C.T.length m _ _ m4.le (by omega) (by omega) h5,cut_want hm m5.le h6];simp only;rw [e6]
theorem cut_function (hT:Tks C) {i:It} {σ:St} (hs:σ.at_≤C.T.length) (hp:isM C σ ⟨#[40]⟩=true) (h:(functionM C i σ).2.at_≤m) (hc:(functionM C i σ).2.code=0):functionM (cutC C m en) i σ=functionM C i σ:=by
 have m0:=(Mo.refl hs (C:=C)).next;have g0:=next_at (is_lt hp rfl);obtain ⟨k,hk⟩:∃ k,(if isM C (nextM C σ) ⟨#[41]⟩ then (([]:List Vr),nextM C (nextM C σ)) else ((paramsM C C.T.length (paramM C (nextM C σ)).2 [(paramM C (nextM C σ)).1]).1,wantM C (paramsM C C.T.length (paramM C (nextM C σ)).2 [(paramM C (nextM C σ)).1]).2 ⟨#[41]⟩))=k:=⟨_,rfl⟩;have ek:(if isM C (nextM C σ) ⟨#[41]⟩ then (([]:List Vr),nextM C (nextM C σ)) else ((paramsM C C.T.length (paramM C (nextM C σ)).2 [(paramM C (nextM C σ)).1]).1,wantM C (paramsM C C.T.length (paramM C (nextM C σ)).2 [(paramM C (nextM C σ)).1]).2 ⟨#[41]⟩))=k:=hk;have ef:functionM C i σ=(if isM C k.2 ⟨#[59]⟩ then ({ i with kind:=3,vars:=k.1 },nextM C k.2) else if isM C k.2 ⟨#[123]⟩ then ({ i with kind:=4,vars:=k.1,body:=some (blockM C k.2).1 },(blockM C k.2).2) else ({ i with kind:=4,vars:=k.1 },lostM C k.2)):=by
  unfold functionM;simp only;rw [hk]
 have hm1:Mo C (nextM C σ) k.2:=by
  rw [← hk];split
  · exact (Mo.refl m0.le).next
  · have m1:=(Mo.refl m0.le).param;exact (m1.trans (params_mo _ _ _ m1.le)).want _
 rw [ef] at h hc;have hlt:k.2.at_ < m:=by
  by_cases h1:isM C k.2 ⟨#[59]⟩=true
  · rw [if_pos h1] at h;have:=next_at (is_lt h1 rfl);simp only at h;omega
  rw [if_neg h1] at h hc;by_cases h2:isM C k.2 ⟨#[123]⟩=true
  · rw [if_pos h2] at h hc;have g:=next_at (is_lt h2 rfl);simp only at h hc;have mb:Mo C (nextM C k.2) (blockM C k.2).2:=by
     have e:(blockM C k.2)=S C (10 * (C.T.length - k.2.at_)+7) (.blockL []) (wantM C k.2 ⟨#[123]⟩):=by
      conv=>lhs; unfold blockM; unfold S
     rw [e,show wantM C k.2 ⟨#[123]⟩=nextM C k.2 by unfold wantM; rw [if_pos h2]];exact S_mo _ _ _ (Mo.refl hm1.le).next.le
    have:=mb.at_;omega
  · rw [if_neg h2] at hc; exact absurd hc lost_code
 have hn:(nextM C σ).at_ < m:=Nat.lt_of_le_of_lt hm1.at_ hlt;have h0:σ.at_ < m:=by omega
 have ek':(if isM (cutC C m en) (nextM C σ) ⟨#[41]⟩ then (([]:List Vr),nextM (cutC C m en) (nextM C σ)) else ((paramsM (cutC C m en) m (paramM (cutC C m en) (nextM C σ)).2 [(paramM (cutC C m en) (nextM C σ)).1]).1,wantM (cutC C m en) (paramsM (cutC C m en) m (paramM (cutC C m en) (nextM C σ)).2 [(paramM (cutC C m en) (nextM C σ)).1]).2 ⟨#[41]⟩))=k:=by
  rw [← hk];rw [cut_is hm hn];by_cases h1:isM C (nextM C σ) ⟨#[41]⟩=true
  · rw [if_pos h1,if_pos h1,cut_next hm hn]
  · rw [if_neg h1] at ek;rw [if_neg h1,if_neg h1];have hw:(wantM C (paramsM C C.T.length (paramM C (nextM C σ)).2 [(paramM C (nextM C σ)).1]).2 ⟨#[41]⟩).at_ < m:=by
     have e2:=congrArg (fun x=>x.2.at_) ek;simp only at e2;omega
    have m1:=(Mo.refl m0.le).param;have m2:=params_mo C.T.length (paramM C (nextM C σ)).2 [(paramM C (nextM C σ)).1] m1.le;have m3:=(Mo.refl m2.le).want ⟨#[41]⟩;have h3:=Nat.lt_of_le_of_lt m3.at_ hw;have h2:=Nat.lt_of_le_of_lt m2.at_ h3;rw [cut_param hm m0.le h2,cut_params hm C.T.length m _ _ m1.le (by omega) (by omega) h3,cut_want hm m2.le hw]
 rw [ef];unfold functionM;simp only;rw [cut_next hm h0,cut_len hm,ek',cut_is hm hlt,cut_is hm hlt,cut_next hm hlt];by_cases h1:isM C k.2 ⟨#[59]⟩=true
 · rw [if_pos h1,if_pos h1]
 rw [if_neg h1] at h hc ⊢;rw [if_neg h1];by_cases h2:isM C k.2 ⟨#[123]⟩=true
 · rw [if_pos h2] at h hc ⊢;rw [if_pos h2,cut_block hT hm hm1.le h hc]
 · rw [if_neg h2] at hc; exact absurd hc lost_code
theorem cut_declaration (hT:Tks C) {i:It} {σ:St} (hs:σ.at_≤C.T.length) (h:(declarationM C i σ).2.at_≤m) (hc:(declarationM C i σ).2.code=0):declarationM (cutC C m en) i σ=declarationM C i σ:=by
 have m1:=(Mo.refl hs (C:=C)).typ;have m2:=(Mo.refl m1.le).name;unfold declarationM at h hc ⊢;simp only at h hc ⊢;by_cases hi:isM C (nameM C (typM C σ).2).2 ⟨#[40]⟩=true
 · rw [if_pos hi] at h hc ⊢;have g:=next_at (is_lt hi rfl);have hmf:Mo C (nextM C (nameM C (typM C σ).2).2) (functionM C { i with v:={ i.v with ty:=(typM C σ).1,name:=(nameM C (typM C σ).2).1 } } (nameM C (typM C σ).2).2).2:=by
    have m0:=Mo.refl (Mo.next (Mo.refl m2.le (C:=C))).le;have m3:Mo C (nextM C (nameM C (typM C σ).2).2) (if isM C (nextM C (nameM C (typM C σ).2).2) ⟨#[41]⟩ then (([]:List Vr),nextM C (nextM C (nameM C (typM C σ).2).2)) else ((paramsM C C.T.length (paramM C (nextM C (nameM C (typM C σ).2).2)).2 [(paramM C (nextM C (nameM C (typM C σ).2).2)).1]).1,wantM C (paramsM C C.T.length (paramM C (nextM C (nameM C (typM C σ).2).2)).2 [(paramM C (nextM C (nameM C (typM C σ).2).2)).1]).2 ⟨#[41]⟩)).2:=by
     split
     · exact m0.next
     · exact (m0.param.trans (params_mo _ _ _ m0.param.le)).want _
    unfold functionM;simp only;revert m3;generalize (if isM C (nextM C (nameM C (typM C σ).2).2) ⟨#[41]⟩ then (([]:List Vr),nextM C (nextM C (nameM C (typM C σ).2).2)) else ((paramsM C C.T.length (paramM C (nextM C (nameM C (typM C σ).2).2)).2 [(paramM C (nextM C (nameM C (typM C σ).2).2)).1]).1,wantM C (paramsM C C.T.length (paramM C (nextM C (nameM C (typM C σ).2).2)).2 [(paramM C (nextM C (nameM C (typM C σ).2).2)).1]).2 ⟨#[41]⟩))=k;intro m3;split
    · exact m3.next
    split
    · exact m3.block
    · exact m3.lost
   have a:(nextM C (nameM C (typM C σ).2).2).at_≤m:=Nat.le_trans hmf.at_ h;have h2:(nameM C (typM C σ).2).2.at_ < m:=by omega
   have h1:=Nat.lt_of_le_of_lt m2.at_ h2;rw [cut_typ hm hs h1,cut_name hm m1.le h2,cut_is hm h2,if_pos hi];exact cut_function hm hT m2.le hi h hc
 · rw [if_neg hi] at h hc ⊢;simp only at h hc ⊢;have m3:=(Mo.refl m2.le).number;by_cases he:isM C (numberM C (nameM C (typM C σ).2).2).2.2 ⟨#[61]⟩=true
   · rw [if_pos he] at h hc ⊢;have m4:=(Mo.refl m3.le).next;obtain ⟨h5,e5⟩:=cut_last (C:=C) (en:=en) hm (t:=⟨#[59]⟩) rfl h hc;have mi:Mo C (nextM C (numberM C (nameM C (typM C σ).2).2).2.2) (initialM C { i with kind:=5,v:=⟨(nameM C (typM C σ).2).1,(typM C σ).1,(numberM C (nameM C (typM C σ).2).2).1,(numberM C (nameM C (typM C σ).2).2).2.1⟩ } (nextM C (numberM C (nameM C (typM C σ).2).2).2.2)).2:=by
      unfold initialM;split
      · have r:=Mo.next (Mo.refl m4.le (C:=C));exact (r.trans ((condM_mo (Mo.refl r.le)).trans (conds_mo _ _ _ (condM_mo (Mo.refl r.le)).le))).want _
      · exact condM_mo (Mo.refl m4.le)
     have h4:=Nat.lt_of_le_of_lt mi.at_ h5;have h3:=Nat.lt_of_le_of_lt (next_ge _) h4;have h2:=Nat.lt_of_le_of_lt m3.at_ h3;have h1:=Nat.lt_of_le_of_lt m2.at_ h2;have ei:initialM (cutC C m en) { i with kind:=5,v:=⟨(nameM C (typM C σ).2).1,(typM C σ).1,(numberM C (nameM C (typM C σ).2).2).1,(numberM C (nameM C (typM C σ).2).2).2.1⟩ } (nextM C (numberM C (nameM C (typM C σ).2).2).2.2)=initialM C { i with kind:=5,v:=⟨(nameM C (typM C σ).2).1,(typM C σ).1,(numberM C (nameM C (typM C σ).2).2).1,(numberM C (nameM C (typM C σ).2).2).2.1⟩ } (nextM C (numberM C (nameM C (typM C σ).2).2).2.2):=by
      unfold initialM at h5 ⊢;rw [cut_is hm h4];by_cases hb:isM C (nextM C (numberM C (nameM C (typM C σ).2).2).2.2) ⟨#[123]⟩=true
      · rw [if_pos hb] at h5 ⊢;rw [if_pos hb];simp only at h5 ⊢;have g5:=next_at (is_lt hb rfl);have r:=Mo.next (Mo.refl m4.le (C:=C));have q1:=condM_mo (Mo.refl r.le (C:=C));have q2:=conds_mo C.T.length _ [(condM C (nextM C (nextM C (numberM C (nameM C (typM C σ).2).2).2.2))).1] q1.le;have q3:=(Mo.refl q2.le).want ⟨#[125]⟩;have k2:=Nat.lt_of_le_of_lt q3.at_ h5;have k1:=Nat.lt_of_le_of_lt q2.at_ k2;have b1:=q1.at_;rw [cut_next hm h4,cut_cond hm r.le k1,cut_len hm,cut_conds hm C.T.length m _ _ q1.le (by omega) (by omega) k2,cut_want hm q2.le h5]
      · rw [if_neg hb] at h5;rw [if_neg hb,if_neg hb];simp only at h5 ⊢;rw [cut_cond hm m4.le h5]
     rw [cut_typ hm hs h1,cut_name hm m1.le h2,cut_is hm h2,if_neg hi,cut_number hm m2.le h3,cut_is hm h3,if_pos he,cut_next hm h3,ei,e5]
   · rw [if_neg he] at h hc ⊢;obtain ⟨h3,e3⟩:=cut_last (C:=C) (en:=en) hm (t:=⟨#[59]⟩) rfl h hc;simp only at h3 e3;have h2:=Nat.lt_of_le_of_lt m3.at_ h3;have h1:=Nat.lt_of_le_of_lt m2.at_ h2;rw [cut_typ hm hs h1,cut_name hm m1.le h2,cut_is hm h2,if_neg hi,cut_number hm m2.le h3,cut_is hm h3,if_neg he];simp only;rw [e3]
end
end Go.Proofs.YtflbkdfbjofllaaGreatDoor.Sy
namespace Go.Proofs.YtflbkdfbjofllaaGreatDoor.Sy
open Go.RowKit Lx
variable {C:Cx} {m en:Nat}
theorem name_at {σ:St} (h:(nameM C σ).2.code=0):(nameM C σ).2.at_=σ.at_+1:=by
 unfold nameM at h ⊢;by_cases hk:(peekM C σ 0).kind=1
 · rw [if_pos hk]; exact next_at (peek_kind (by rw [hk]; decide))
 · rw [if_neg hk] at h; exact absurd h lost_code
theorem want_at {σ:St} {t:ByteArray} (ht:(nt==t)=false) (h:(wantM C σ t).code=0):(wantM C σ t).at_=σ.at_+1:=by
 unfold wantM at h ⊢;by_cases hi:isM C σ t=true
 · rw [if_pos hi]; exact next_at (is_lt hi ht)
 · rw [if_neg hi] at h; exact absurd h lost_code
theorem struct_at (i:It) (σ:St):(structM C i σ).1.at_=i.at_:=rfl
theorem typedef_at (i:It) (σ:St):(typedefM C i σ).1.at_=i.at_:=rfl
theorem function_at (i:It) (σ:St):(functionM C i σ).1.at_=i.at_:=by
 unfold functionM;simp only
 (repeat' split) <;> rfl
theorem initial_at (i:It) (σ:St):(initialM C i σ).1.at_=i.at_:=by
 unfold initialM;split <;> rfl
theorem declaration_at (i:It) (σ:St):(declarationM C i σ).1.at_=i.at_:=by
 unfold declarationM;simp only;split
 · rw [function_at]
 · split
   · simp only; rw [initial_at]
   · rfl
theorem item_at (σ:St):(itemM C σ).1.at_=((peekM C σ 0).at_:Int):=by
 unfold itemM;simp only;split
 · rw [struct_at]; rfl
 split
 · rw [typedef_at]; rfl
 · rw [declaration_at]; rfl
theorem struct_three {σ:St} (hl:σ.at_ < C.T.length) (hs:isM C σ ⟨#[115,116,114,117,99,116]⟩=true) (hc:(itemM C σ).2.code=0):σ.at_+3≤(itemM C σ).2.at_:=by
 have g0:=next_at hl;have m0:=(Mo.refl (Nat.le_of_lt hl) (C:=C)).next;have ht:txt C σ=⟨#[115,116,114,117,99,116]⟩:=eq_of_beq hs;have h2:isM C σ ⟨#[116,121,112,101,100,101,102]⟩=false:=by unfold isM; rw [ht]; decide
 unfold itemM at hc ⊢;simp only at hc ⊢;by_cases hx:(isM C σ ⟨#[115,116,114,117,99,116]⟩&&((peekM C σ 1).kind==1&&(peekM C σ 2).text==⟨#[123]⟩))=true
 · rw [if_pos hx] at hc ⊢;unfold structM at hc ⊢;simp only at hc ⊢;have m1:=(Mo.refl m0.le).name;have m2:=(Mo.refl m1.le).want ⟨#[123]⟩;have m3:=fields_mo (C.T.length+1) (wantM C (nameM C (nextM C σ)).2 ⟨#[123]⟩) [] m2.le;have c2:=m3.code hc;have c1:=m2.code c2;have a1:=name_at c1;have a2:=want_at (C:=C) rfl c2;have a3:=m3.at_;omega
 rw [if_neg hx] at hc ⊢;rw [if_neg (by rw [h2]; decide)] at hc ⊢;have hmi:Mo C (nameM C (typM C σ).2).2 (declarationM C (it0 ((peekM C σ 0).at_:Int)) σ).2:=by
  have r:=Mo.refl ((Mo.refl (Nat.le_of_lt hl) (C:=C)).typ.name).le;unfold declarationM;simp only;split
  · exact r.func _
  split
  · exact (r.number.next.initial _).want _
  · exact r.number.want _
 have c2:(nameM C (typM C σ).2).2.code=0:=hmi.code hc;have m1:=(Mo.refl (Nat.le_of_lt hl) (C:=C)).typ;have m2:=(Mo.refl m1.le).name;have c1:=m2.code c2;have a2:=name_at c2;have a3:=hmi.at_;have hty:typedM C σ=true:=by unfold typedM; rw [ht]; rfl
 have e1:(baseM C σ).2=(nameM C (nextM C σ)).2:=by
  unfold baseM;simp only;rw [ht,if_neg (by decide),if_pos (by decide)]
 have et:(typM C σ).2=(starsM C C.T.length (baseM C σ).2 0).2:=by unfold typM; rw [if_pos hty]
 have mn:=(Mo.refl m0.le (C:=C)).name;have ms:=Mo.stars C.T.length (baseM C σ).2 0 (Mo.refl (by rw [e1]; exact mn.le) (C:=C));rw [et] at c1 a2 a3;have c0:=ms.code c1;rw [e1] at c0;have a1:=name_at c0;have a4:=ms.at_;have a5:(baseM C σ).2.at_=(nameM C (nextM C σ)).2.at_:=by rw [e1]
 omega
theorem cut_item (hT:Tks C) (hm:m≤C.T.length) {σ:St} (hl:σ.at_ < C.T.length) (h:(itemM C σ).2.at_≤m) (hc:(itemM C σ).2.code=0):itemM (cutC C m en) σ=itemM C σ:=by
 have hgo:=(item_mi hl).1;have h0:σ.at_ < m:=Nat.lt_of_lt_of_le hgo h;have hs:=Nat.le_of_lt hl;have hcond:(isM (cutC C m en) σ ⟨#[115,116,114,117,99,116]⟩&&((peekM (cutC C m en) σ 1).kind==1&&(peekM (cutC C m en) σ 2).text==⟨#[123]⟩))=(isM C σ ⟨#[115,116,114,117,99,116]⟩&&((peekM C σ 1).kind==1&&(peekM C σ 2).text==⟨#[123]⟩)):=by
  rw [cut_is hm h0];by_cases hx:isM C σ ⟨#[115,116,114,117,99,116]⟩=true
  · have h3:=struct_three hl hx hc;rw [cut_peek (C:=C) (m:=m) (en:=en) (σ:=σ) (k:=1) (by omega) (by omega),cut_peek (C:=C) (m:=m) (en:=en) (σ:=σ) (k:=2) (by omega) (by omega)]
  · rw [show isM C σ ⟨#[115,116,114,117,99,116]⟩=false by simpa using hx]; rfl
 unfold itemM at h hc ⊢;simp only at h hc ⊢;rw [hcond,cut_peek0 hm h0,cut_is hm h0];by_cases h1:(isM C σ ⟨#[115,116,114,117,99,116]⟩&&((peekM C σ 1).kind==1&&(peekM C σ 2).text==⟨#[123]⟩))=true
 · rw [if_pos h1] at h hc ⊢;rw [if_pos h1];exact cut_struct hm hT h0 h hc
 rw [if_neg h1] at h hc ⊢;rw [if_neg h1];by_cases h2:isM C σ ⟨#[116,121,112,101,100,101,102]⟩=true
 · rw [if_pos h2] at h hc ⊢;rw [if_pos h2];exact cut_typedef hm h0 h hc
 · rw [if_neg h2] at h hc ⊢;rw [if_neg h2];exact cut_declaration hm hT hs h hc
theorem items_code:∀ (g:Nat) (τ:St) (ac:List It),τ.at_≤C.T.length→(itemsM C g τ ac).2.code=0→τ.code=0
 | 0,τ,ac,ht,hh=>hh
 | g+1,τ,ac,ht,hh=>by
   unfold itemsM at hh;split at hh
   · next hl =>
     have mm:=(item_mi hl).2;exact mm.code (items_code g _ _ mm.le hh)
   · exact hh
theorem items_ext:∀ (f:Nat) (σ:St) (acc:List It),∃ L,(itemsM C f σ acc).1=acc++L
 | 0,σ,acc=>⟨[],by unfold itemsM; rw [List.append_nil]⟩
 | f+1,σ,acc=>by
   unfold itemsM;split
   · obtain ⟨L,hL⟩:=items_ext f (itemM C σ).2 (acc++[(itemM C σ).1]);exact ⟨(itemM C σ).1::L,by simp only; rw [hL,List.append_assoc]; rfl⟩
   · exact ⟨[],by rw [List.append_nil]⟩
theorem items_cut (hT:Tks C):∀ (f:Nat) (σ:St) (acc:List It) (k:Nat) (it:It),σ.at_≤C.T.length→C.T.length < σ.at_+f→(itemsM C f σ acc).2.code=0→acc.length≤k→(itemsM C f σ acc).1[k]?=some it →
    ∃ m,σ.at_≤m∧m < C.T.length∧(∃ t,C.T[m]?=some t∧it.at_=(t.at_:Int))∧∀ en f',m < σ.at_+f'→(itemsM (cutC C m en) f' σ acc).1=(itemsM C f σ acc).1.take k∧(itemsM (cutC C m en) f' σ acc).2.code=0
 | 0,σ,acc,k,it,hs,hf,hc,hk,hi=>by omega
 | f+1,σ,acc,k,it,hs,hf,hc,hk,hi=>by
   have c0:=items_code (f+1) σ acc hs hc;by_cases hl:σ.at_ < C.T.length
   · obtain ⟨hgo,mi⟩:=item_mi hl;have e:itemsM C (f+1) σ acc=itemsM C f (itemM C σ).2 (acc++[(itemM C σ).1]):=by
      conv=>lhs; unfold itemsM
      rw [if_pos hl]
     rw [e] at hc hi ⊢;have c1:=items_code f _ _ mi.le hc;by_cases hak:acc.length=k
     · obtain ⟨L,hL⟩:=items_ext (C:=C) f (itemM C σ).2 (acc++[(itemM C σ).1]);have e1:it=(itemM C σ).1:=by
        rw [hL,List.append_assoc,List.getElem?_append_right (by omega),hak,Nat.sub_self] at hi;injection hi with hi;exact hi.symm
       refine ⟨σ.at_,Nat.le_refl _,hl,⟨C.T[σ.at_],List.getElem?_eq_getElem hl,?_⟩,fun en f' hf'=>?_⟩
       · rw [e1,item_at];unfold peekM;rw [Nat.add_zero,List.getD_eq_getElem?_getD,List.getElem?_eq_getElem hl];rfl
       · have e2:itemsM (cutC C σ.at_ en) f' σ acc=(acc,σ):=by
          cases f' with
          | zero=>rfl
          | succ g =>
            unfold itemsM;rw [cut_len (by omega),if_neg (by omega)]
         rw [e2,hL,List.append_assoc,← hak,List.take_left];exact ⟨rfl,c0⟩
     · obtain ⟨m,h1,h2,h3,h4⟩:=items_cut hT f (itemM C σ).2 (acc++[(itemM C σ).1]) k it mi.le (by omega) hc (by rw [List.length_append,List.length_singleton]; omega) hi;refine ⟨m,by omega,h2,h3,fun en f' hf'=>?_⟩;obtain ⟨g,rfl⟩:∃ g,f'=g+1:=⟨f' - 1,by omega⟩;have e2:itemsM (cutC C m en) (g+1) σ acc=itemsM (cutC C m en) g (itemM C σ).2 (acc++[(itemM C σ).1]):=by
        conv=>lhs; unfold itemsM
        rw [cut_len (by omega),if_pos (by omega),cut_item hT (by omega) hl h1 c1]
       rw [e2];exact h4 en g (by omega)
   · have e:itemsM C (f+1) σ acc=(acc,σ):=by
      unfold itemsM;rw [if_neg hl]
     rw [e] at hi;rw [List.getElem?_eq_none hk] at hi;cases hi
end Go.Proofs.YtflbkdfbjofllaaGreatDoor.Sy
namespace Go.Proofs.YtflbkdfbjofllaaGreatDoor.Sy
open Go.RowKit Lx
variable {C:Cx}
def nl (s:ByteArray):Prop:=∀ b∈s.data.toList,b≠10
theorem nl_app {a b:ByteArray} (ha:nl a) (hb:nl b):nl (a++b):=by
 intro x hx;rw [ByteArray.data_append,Array.toList_append] at hx;rcases List.mem_append.1 hx with h | h
 · exact ha x h
 · exact hb x h
theorem nl_nt:nl nt:=fun b h=>by cases h
theorem nl_lit {s:ByteArray} (h:s.data.toList.all (fun b=>!(b==10))=true):nl s:=by
 intro b hb;have:=List.all_eq_true.1 h b hb;simpa using this
mutual
def nlE:Ex→Prop
 | .mk kind op name ty num arr subs=>nl op∧nl name∧nl ty.base∧nlEs subs
def nlEs:List Ex→Prop
 | []=>True
 | e::t=>nlE e∧nlEs t
end
theorem nlEs_app {a b:List Ex} (ha:nlEs a) (hb:nlEs b):nlEs (a++b):=by
 induction a with
 | nil=>exact hb
 | cons e t ih=>simp only [List.cons_append,nlEs] at ha ⊢; exact ⟨ha.1,ih ha.2⟩
theorem nlEs1 {a:Ex} (h:nlE a):nlEs [a]:=by simp only [nlEs]; exact ⟨h,trivial⟩
theorem nlEs2 {a b:Ex} (h:nlE a) (g:nlE b):nlEs [a,b]:=by simp only [nlEs]; exact ⟨h,g,trivial⟩
theorem nlEs3 {a b c:Ex} (h:nlE a) (g:nlE b) (k:nlE c):nlEs [a,b,c]:=by simp only [nlEs]; exact ⟨h,g,k,trivial⟩
theorem nlE_mk {kind:Int} {op name:ByteArray} {ty:Ty} {num:Int} {arr:Bool} {subs:List Ex} (h1:nl op) (h2:nl name) (h3:nl ty.base) (h4:nlEs subs):nlE (.mk kind op name ty num arr subs):=by simp only [nlE]; exact ⟨h1,h2,h3,h4⟩
theorem nlE_subs {e:Ex} (h:nlE e):nlEs e.subs:=by cases e; simp only [nlE] at h; exact h.2.2.2
theorem nlE_ex0:nlE ex0:=nlE_mk nl_nt nl_nt nl_nt (by simp only [nlEs])
section
variable (hN:∀ t∈C.T,nl t.text)
include hN
theorem nl_peek (σ:St):nl (peekM C σ 0).text:=by
 unfold peekM;rw [List.getD_eq_getElem?_getD];cases h:C.T[σ.at_+0]? with
 | none=>exact nl_nt
 | some t=>exact hN t (List.mem_of_getElem? h)
theorem nl_txt (σ:St):nl (txt C σ):=nl_peek hN σ
theorem nl_name (σ:St):nl (nameM C σ).1:=by unfold nameM; split; exact nl_txt hN σ; exact nl_nt
omit hN in
theorem nl_bits (t:ByteArray):nl (bitsM t):=by
 unfold bitsM
 (repeat' split) <;> exact nl_lit (by decide)
theorem nl_base (σ:St):nl (baseM C σ).1:=by
 unfold baseM;simp only
 (repeat' split)
 · exact nl_lit (s:=⟨#[118,111,105,100]⟩) (by decide)
 · exact nl_app (nl_lit (by decide)) (nl_name hN _)
 · exact nl_lit (s:=⟨#[117,51,50]⟩) (by decide)
 · exact nl_app (nl_lit (by decide)) (nl_bits _)
 · exact nl_app (nl_lit (by decide)) (nl_txt hN _)
 · exact nl_app (nl_lit (by decide)) (nl_bits _)
theorem nl_typ (σ:St):nl (typM C σ).1.base:=by unfold typM; split; exact nl_base hN σ; exact nl_nt
omit hN in
theorem nl_numberType (σ:St) (k:Tk):nl (numberTypeM C σ k).1.base:=by
 unfold numberTypeM;cases h:numType k with
 | none=>exact nl_nt
 | some t =>
   show nl t;unfold numType at h
   (repeat' split at h) <;> first | (injection h with h; subst h; exact nl_lit (by decide)) | cases h
theorem nl_prime (σ:St):nlE (primeM C σ).1:=by
 have e0:nlEs []:=by simp only [nlEs]
 unfold primeM;simp only
 (repeat' split)
 · exact nlE_mk nl_nt nl_nt (nl_numberType _ _) e0
 · exact nlE_mk nl_nt nl_nt (nl_lit (by decide)) e0
 · exact nlE_mk nl_nt (nl_peek hN σ) nl_nt e0
 · exact nlE_ex0
theorem nl_size (σ:St):nlE (sizeM C σ).1:=by
 unfold sizeM;exact nlE_mk nl_nt nl_nt (nl_typ hN _) (by simp only [nlEs])
omit hN in
theorem nl_bin {op:ByteArray} {l r:Ex} (ho:nl op) (hl:nlE l) (hr:nlE r):nlE (binEx op l r):=by
 unfold binEx
 (repeat' split)
 · exact nlE_mk nl_nt nl_nt nl_nt (nlEs2 hl hr)
 · exact nlE_mk nl_nt nl_nt nl_nt (nlEs2 hl hr)
 · exact nlE_mk ho nl_nt nl_nt (nlEs2 hl hr)
omit hN in
def nlJ:Job→Prop
 | .binL _ e=>nlE e
 | .post e=>nlE e
 | .args e=>nlE e
 | _=>True
omit hN in
theorem nlP {k:Int} {o n:ByteArray} {l:List Ex} (h1:nl o) (h2:nl n) (h3:nlEs l):nlJ (.post (.mk k o n ty0 0 false l)):=nlE_mk (kind:=k) (num:=0) (arr:=false) h1 h2 nl_nt h3
omit hN in
theorem nlA {k:Int} {o n:ByteArray} {l:List Ex} (h1:nl o) (h2:nl n) (h3:nlEs l):nlJ (.args (.mk k o n ty0 0 false l)):=nlE_mk (kind:=k) (num:=0) (arr:=false) h1 h2 nl_nt h3
theorem nl_E:∀ (f:Nat) (j:Job) (σ:St),nlJ j→nlE (E C f j σ).1
 | 0,j,σ,hj=>by unfold E; exact nlE_ex0
 | f+1,j,σ,hj=>by
   have ih:=nl_E f;cases j with
   | expr =>
     unfold E; simp only;split
     · exact nlE_mk (nl_txt hN _) nl_nt nl_nt (nlEs2 (ih .cond _ trivial) (ih .expr _ trivial))
     · exact ih .cond _ trivial
   | cond =>
     unfold E; simp only;split
     · exact nlE_mk nl_nt nl_nt nl_nt (nlEs3 (ih (.bin 1) _ trivial) (ih .expr _ trivial) (ih .cond _ trivial))
     · exact ih (.bin 1) _ trivial
   | bin l=>unfold E; exact ih (.binL l _) _ (ih .unary _ trivial)
   | binL l x =>
     unfold E;split
     · exact hj
     · exact ih (.binL l _) _ (nl_bin (nl_txt hN _) hj (ih (.bin _) _ trivial))
   | unary =>
     unfold E; simp only;split
     · exact nlE_mk (nl_txt hN _) nl_nt nl_nt (nlEs1 (ih .unary _ trivial))
     split
     · exact nl_size hN _
     split
     · split
       · exact nlE_mk nl_nt nl_nt (nl_typ hN _) (nlEs1 (ih .unary _ trivial))
       · exact ih (.post _) _ (ih .expr _ trivial)
     · exact ih (.post _) _ (nl_prime hN _)
   | post x =>
     unfold E;split
     · exact ih (.post (.mk 9 nt nt ty0 0 false [x,(E C f .expr (nextM C σ)).1])) _ (nlP nl_nt nl_nt (nlEs2 hj (ih .expr _ trivial)))
     split
     · exact ih (.post (.mk 10 nt (nameM C (nextM C σ)).1 ty0 0 false [x])) _ (nlP nl_nt (nl_name hN _) (nlEs1 hj))
     split
     · exact ih (.post (.mk 11 nt (nameM C (nextM C σ)).1 ty0 0 false [x])) _ (nlP nl_nt (nl_name hN _) (nlEs1 hj))
     split
     · split
       · exact ih (.post (.mk 12 nt nt ty0 0 false [x])) _ (nlP nl_nt nl_nt (nlEs1 hj))
       · exact ih (.post _) _ (ih (.args (.mk 12 nt nt ty0 0 false [x,(E C f .expr (nextM C σ)).1])) _ (nlA nl_nt nl_nt (nlEs2 hj (ih .expr _ trivial))))
     · exact hj
   | args x =>
     unfold E;split
     · exact ih (.args (.mk 12 nt nt ty0 0 false (x.subs++[(E C f .expr (nextM C σ)).1]))) _ (nlA nl_nt nl_nt (nlEs_app (nlE_subs hj) (nlEs1 (ih .expr _ trivial))))
     · exact hj
theorem nl_expr (σ:St):nlE (exprM C σ).1:=nl_E hN _ .expr σ trivial
theorem nl_cond (σ:St):nlE (condM C σ).1:=nl_E hN _ .cond σ trivial
end
def nlV (v:Vr):Prop:=nl v.name∧nl v.ty.base
def nlO:Option Ex→Prop
 | none=>True
 | some e=>nlE e
mutual
def nlS:Sm→Prop
 | .mk kind v name minus num e0 e1 e2 body=>nlV v∧nl name∧nlO e0∧nlO e1∧nlO e2∧nlSs body
def nlSs:List Sm→Prop
 | []=>True
 | e::t=>nlS e∧nlSs t
end
theorem nlSs_app {a b:List Sm} (ha:nlSs a) (hb:nlSs b):nlSs (a++b):=by
 induction a with
 | nil=>exact hb
 | cons e t ih=>simp only [List.cons_append,nlSs] at ha ⊢; exact ⟨ha.1,ih ha.2⟩
theorem nlSs0:nlSs []:=by simp only [nlSs]
theorem nlSs1 {a:Sm} (h:nlS a):nlSs [a]:=by simp only [nlSs]; exact ⟨h,trivial⟩
theorem nlSs2 {a b:Sm} (h:nlS a) (g:nlS b):nlSs [a,b]:=by simp only [nlSs]; exact ⟨h,g,trivial⟩
theorem nlV0:nlV vr0:=⟨nl_nt,nl_nt⟩
theorem nlS_mk {kind:Int} {v:Vr} {name:ByteArray} {minus:Bool} {num:Int} {e0 e1 e2:Option Ex} {body:List Sm} (h1:nlV v) (h2:nl name) (h3:nlO e0) (h4:nlO e1) (h5:nlO e2) (h6:nlSs body):nlS (.mk kind v name minus num e0 e1 e2 body):=by simp only [nlS]; exact ⟨h1,h2,h3,h4,h5,h6⟩
theorem nlS0:nlS sm0:=nlS_mk nlV0 nl_nt trivial trivial trivial nlSs0
section
variable (hN:∀ t∈C.T,nl t.text)
include hN
theorem nl_asked (σ:St):nlE (askedM C σ).1:=by unfold askedM; exact nl_expr hN _
theorem nl_part (σ:St) (t:ByteArray):nlO (partM C σ t).1:=by
 unfold partM;simp only;split
 · trivial
 · exact nl_expr hN _
theorem nl_let (σ:St):nlS (letM C σ).1:=by
 unfold letM;simp only;split
 · exact nlS_mk ⟨nl_name hN _,nl_typ hN _⟩ nl_nt (nl_expr hN _) trivial trivial nlSs0
 · exact nlS_mk ⟨nl_name hN _,nl_typ hN _⟩ nl_nt trivial trivial trivial nlSs0
omit hN in
theorem nl_labelled (σ:St):nlS (labelledM C σ).1:=by unfold labelledM; exact nlS_mk nlV0 nl_nt trivial trivial trivial nlSs0
omit hN in
def nlSj:Sj→Prop
 | .blockL acc=>nlSs acc
 | .choiceL e acc=>nlO e∧nlSs acc
 | _=>True
omit hN in
theorem ite_nl {c:Prop} [Decidable c] {a b:Sm × St} (h1:nlS a.1) (h2:nlS b.1):nlS (if c then a else b).1:=by split; exact h1; exact h2
theorem nl_S:∀ (f:Nat) (j:Sj) (σ:St),nlSj j→nlS (S C f j σ).1
 | 0,j,σ,hj=>by unfold S; exact nlS0
 | f+1,j,σ,hj=>by
   have ih:=nl_S f;cases j with
   | block=>unfold S; exact ih (.blockL []) _ nlSs0
   | blockL acc =>
     unfold S;refine ite_nl (nlS_mk nlV0 nl_nt trivial trivial trivial hj) (ite_nl (nlS_mk nlV0 nl_nt trivial trivial trivial hj) ?_);exact ih (.blockL _) _ (nlSs_app hj (nlSs1 (ih .stmt _ trivial)))
   | choiceL e acc =>
     unfold S;refine ite_nl (nlS_mk nlV0 nl_nt hj.1 trivial trivial hj.2) (ite_nl (nlS_mk nlV0 nl_nt hj.1 trivial trivial hj.2) ?_);refine ite_nl (ih (.choiceL _ _) _ ⟨hj.1,nlSs_app hj.2 (nlSs1 (nl_labelled _))⟩) ?_;refine ite_nl (ih (.choiceL _ _) _ ⟨hj.1,nlSs_app hj.2 (nlSs1 (nlS_mk nlV0 nl_nt trivial trivial trivial nlSs0))⟩) ?_;exact ih (.choiceL _ _) _ ⟨hj.1,nlSs_app hj.2 (nlSs1 (ih .stmt _ trivial))⟩
   | stmt =>
     unfold S; simp only;refine ite_nl (ih .block _ trivial) ?_;refine ite_nl (nlS_mk nlV0 nl_nt trivial trivial trivial nlSs0) ?_;refine ite_nl (nl_let hN _) ?_;refine ite_nl (nlS_mk nlV0 (nl_txt hN _) trivial trivial trivial (nlSs1 (ih .stmt _ trivial))) ?_;refine ite_nl ?_ (nlS_mk nlV0 nl_nt (nl_expr hN _) trivial trivial nlSs0);refine ite_nl (ite_nl (nlS_mk nlV0 nl_nt (nl_asked hN _) trivial trivial (nlSs2 (ih .stmt _ trivial) (ih .stmt _ trivial))) (nlS_mk nlV0 nl_nt (nl_asked hN _) trivial trivial (nlSs1 (ih .stmt _ trivial)))) ?_;refine ite_nl (nlS_mk nlV0 nl_nt (nl_asked hN _) trivial trivial (nlSs1 (ih .stmt _ trivial))) ?_;refine ite_nl (nlS_mk nlV0 nl_nt (nl_asked hN _) trivial trivial (nlSs1 (ih .stmt _ trivial))) ?_;refine ite_nl (nlS_mk nlV0 nl_nt (nl_part hN _ _) (nl_part hN _ _) (nl_part hN _ _) (nlSs1 (ih .stmt _ trivial))) ?_;refine ite_nl (ih (.choiceL _ _) _ ⟨nl_asked hN _,nlSs0⟩) ?_;refine ite_nl (nlS_mk nlV0 nl_nt trivial trivial trivial nlSs0) ?_;refine ite_nl (nlS_mk nlV0 nl_nt trivial trivial trivial nlSs0) ?_;refine ite_nl (nlS_mk nlV0 nl_nt (nl_part hN _ _) trivial trivial nlSs0) ?_;exact ite_nl (nlS_mk nlV0 (nl_name hN _) trivial trivial trivial nlSs0) nlS0
theorem nl_block (σ:St):nlS (blockM C σ).1:=nl_S hN _ .block σ trivial
theorem nl_param (σ:St):nlV (paramM C σ).1:=⟨nl_name hN _,nl_typ hN _⟩
theorem nl_params:∀ (f:Nat) (σ:St) (acc:List Vr),(∀ v∈acc,nlV v)→∀ v∈(paramsM C f σ acc).1,nlV v
 | 0,σ,acc,h=>h
 | f+1,σ,acc,h=>by
   unfold paramsM;split
   · refine nl_params f _ _ (fun v hv=>?_);rcases List.mem_append.1 hv with hv | hv
     · exact h v hv
     · rw [List.mem_singleton] at hv; rw [hv]; exact nl_param hN _
   · exact h
theorem nl_tyl:∀ (f:Nat) (σ:St) (acc:List Ty),(∀ v∈acc,nl v.base)→∀ v∈(typesM C f σ acc).1,nl v.base
 | 0,σ,acc,h=>h
 | f+1,σ,acc,h=>by
   unfold typesM;split
   · refine nl_tyl f _ _ (fun v hv=>?_);rcases List.mem_append.1 hv with hv | hv
     · exact h v hv
     · rw [List.mem_singleton] at hv; rw [hv]; exact nl_typ hN _
   · exact h
theorem nl_conds:∀ (f:Nat) (σ:St) (acc:List Ex),nlEs acc→nlEs (condsM C f σ acc).1
 | 0,σ,acc,h=>h
 | f+1,σ,acc,h=>by
   unfold condsM;split
   · exact nl_conds f _ _ (nlEs_app h (nlEs1 (nl_cond hN _)))
   · exact h
theorem nl_fields:∀ (f:Nat) (σ:St) (acc:List Vr),(∀ v∈acc,nlV v)→∀ v∈(fieldsM C f σ acc).1,nlV v
 | 0,σ,acc,h=>h
 | f+1,σ,acc,h=>by
   have h':∀ v∈acc++[(fieldM C σ).1],nlV v:=fun v hv=>by
    rcases List.mem_append.1 hv with hv | hv
    · exact h v hv
    · rw [List.mem_singleton] at hv; rw [hv]; exact ⟨nl_name hN _,nl_typ hN _⟩
   unfold fieldsM;simp only;split
   · exact h'
   split
   · exact nl_fields f _ _ h'
   · exact h'
end
structure nlI (i:It):Prop where
 v:nlV i.v
 vars:∀ v∈i.vars,nlV v
 types:∀ t∈i.types,nl t.base
 body:∀ b,i.body=some b→nlS b
 init:nlO i.init
 list:nlEs i.list
section
variable (hN:∀ t∈C.T,nl t.text)
include hN
theorem nl_item (σ:St):nlI (itemM C σ).1:=by
 have b0:∀ (b:Sm),(none:Option Sm)=some b→nlS b:=fun b h=>by cases h
 have l0:∀ v∈([]:List Vr),nlV v:=fun v h=>by cases h
 have t0:∀ t∈([]:List Ty),nl t.base:=fun t h=>by cases h
 have e0:nlEs []:=by simp only [nlEs]
 unfold itemM;simp only;split
 · unfold structM;exact ⟨⟨nl_name hN _,nl_nt⟩,nl_fields hN _ _ _ l0,t0,b0,trivial,e0⟩
 split
 · unfold typedefM;simp only;split
   · exact ⟨⟨nl_name hN _,nl_typ hN _⟩,l0,t0,b0,trivial,e0⟩
   · exact ⟨⟨nl_name hN _,nl_typ hN _⟩,l0,nl_tyl hN _ _ _ (fun v hv=>by rw [List.mem_singleton] at hv; rw [hv]; exact nl_typ hN _),b0,trivial,e0⟩
 · unfold declarationM;simp only;split
   · unfold functionM;simp only;have hk:∀ v∈(if isM C (nextM C (nameM C (typM C σ).2).2) ⟨#[41]⟩ then (([]:List Vr),nextM C (nextM C (nameM C (typM C σ).2).2)) else ((paramsM C C.T.length (paramM C (nextM C (nameM C (typM C σ).2).2)).2 [(paramM C (nextM C (nameM C (typM C σ).2).2)).1]).1,wantM C (paramsM C C.T.length (paramM C (nextM C (nameM C (typM C σ).2).2)).2 [(paramM C (nextM C (nameM C (typM C σ).2).2)).1]).2 ⟨#[41]⟩)).1,nlV v:=by
      split
      · exact l0
      · exact nl_params hN _ _ _ (fun v hv=>by rw [List.mem_singleton] at hv; rw [hv]; exact nl_param hN _)
     revert hk;generalize (if isM C (nextM C (nameM C (typM C σ).2).2) ⟨#[41]⟩ then (([]:List Vr),nextM C (nextM C (nameM C (typM C σ).2).2)) else ((paramsM C C.T.length (paramM C (nextM C (nameM C (typM C σ).2).2)).2 [(paramM C (nextM C (nameM C (typM C σ).2).2)).1]).1,wantM C (paramsM C C.T.length (paramM C (nextM C (nameM C (typM C σ).2).2)).2 [(paramM C (nextM C (nameM C (typM C σ).2).2)).1]).2 ⟨#[41]⟩))=k;intro hk;split
     · exact ⟨⟨nl_name hN _,nl_typ hN _⟩,hk,t0,b0,trivial,e0⟩
     split
     · exact ⟨⟨nl_name hN _,nl_typ hN _⟩,hk,t0,fun b h=>by injection h with h; rw [← h]; exact nl_block hN _,trivial,e0⟩
     · exact ⟨⟨nl_name hN _,nl_typ hN _⟩,hk,t0,b0,trivial,e0⟩
   · split
     · unfold initialM;split
       · exact ⟨⟨nl_name hN _,nl_typ hN _⟩,l0,t0,b0,trivial,nl_conds hN _ _ _ (nlEs1 (nl_cond hN _))⟩
       · exact ⟨⟨nl_name hN _,nl_typ hN _⟩,l0,t0,b0,nl_cond hN _,e0⟩
     · exact ⟨⟨nl_name hN _,nl_typ hN _⟩,l0,t0,b0,trivial,e0⟩
theorem nl_items:∀ (f:Nat) (σ:St) (acc:List It),(∀ i∈acc,nlI i)→∀ i∈(itemsM C f σ acc).1,nlI i
 | 0,σ,acc,h=>h
 | f+1,σ,acc,h=>by
   unfold itemsM;split
   · refine nl_items f _ _ (fun v hv=>?_);rcases List.mem_append.1 hv with hv | hv
     · exact h v hv
     · rw [List.mem_singleton] at hv; rw [hv]; exact nl_item hN _
   · exact h
end
structure Gw (w w':Wr):Prop where
 out:∃ r:List UInt8,w'.out.data.toList=w.out.data.toList++r∧∀ b∈r,b≠10
 most:w.most≤w'.most
theorem Gw.refl (w:Wr):Gw w w:=⟨⟨[],by rw [List.append_nil],fun b h=>by cases h⟩,Int.le_refl _⟩
theorem Gw.trans {a b c:Wr} (h:Gw a b) (g:Gw b c):Gw a c:=by
 obtain ⟨r,h1,h2⟩:=h.out;obtain ⟨q,g1,g2⟩:=g.out;refine ⟨⟨r++q,by rw [g1,h1,List.append_assoc],fun x hx=>?_⟩,Int.le_trans h.most g.most⟩;rcases List.mem_append.1 hx with hx | hx
 · exact h2 x hx
 · exact g2 x hx
theorem part_g {s:ByteArray} (hs:nl s) (w:Wr):Gw w (partW s w):=by
 refine ⟨?_,Int.le_refl _⟩;unfold partW;simp only;cases w.fresh with
 | true=>exact ⟨s.data.toList,by rw [if_pos rfl,ByteArray.data_append,Array.toList_append],hs⟩
 | false =>
   refine ⟨[32]++s.data.toList,?_,fun x hx=>?_⟩
   · rw [if_neg (by decide),ByteArray.data_append,Array.toList_append,ByteArray.data_append,Array.toList_append,List.append_assoc]
   · rcases List.mem_append.1 hx with hx | hx
     · rw [List.mem_singleton] at hx; rw [hx]; decide
     · exact hs x hx
theorem open_g (w:Wr):Gw w (openW w):=by
 have h:=part_g (s:=⟨#[40]⟩) (nl_lit (by decide)) w;obtain ⟨r,h1,h2⟩:=h.out;exact ⟨⟨r,h1,h2⟩,Int.le_trans h.most (Int.le_max_left _ _)⟩
theorem close_g (w:Wr):Gw w (closeW w):=by
 refine ⟨⟨[41],?_,fun x hx=>?_⟩,Int.le_refl _⟩
 · unfold closeW;simp only;rw [ByteArray.data_append,Array.toList_append]
 · rw [List.mem_singleton] at hx; rw [hx]; decide
theorem parts_g:∀ {l:List ByteArray} (w:Wr),(∀ s∈l,nl s)→Gw w (partsW l w)
 | [],w,h=>Gw.refl w
 | s::l,w,h=>(part_g (h s (List.mem_cons_self ..)) w).trans (parts_g (l:=l) _ (fun s hs=>h s (List.mem_cons_of_mem _ hs)))
theorem openP_g {l:List ByteArray} (w:Wr) (h:∀ s∈l,nl s):Gw w (openP l w):=(open_g w).trans (parts_g _ h)
theorem nl_dec (n:Int):nl (decM n):=by
 have h:∀ (f n:Nat) (acc:List UInt8),(∀ b∈acc,b≠10)→∀ b∈decL f n acc,b≠10:=by
  intro f
  induction f with
  | zero=>intro n acc h; unfold decL; exact h
  | succ f ih =>
    intro n acc h;have key:∀ d,d < 10→(UInt8.ofNat (48+d))≠10:=fun d hd e=>by
     have e2:=congrArg UInt8.toNat e;rw [UInt8.toNat_ofNat'] at e2;have e3:(10:UInt8).toNat=10:=rfl;omega
    unfold decL;split
    · intro b hb;rcases List.mem_cons.1 hb with rfl | hb
      · exact key _ (by assumption)
      · exact h b hb
    · refine ih _ _ (fun b hb=>?_);rcases List.mem_cons.1 hb with rfl | hb
      · exact key _ (Nat.mod_lt _ (by decide))
      · exact h b hb
 unfold decM nl;exact h 20 n.toNat [] (fun b h=>by cases h)
theorem nl_star:∀ n,nl (starL n)
 | 0=>nl_nt
 | n+1=>nl_app (nl_star n) (nl_lit (by decide))
theorem nl_ty {t:Ty} (h:nl t.base):nl (tyM t):=nl_app h (nl_star _)
theorem two_nl {a b:ByteArray} (ha:nl a) (hb:nl b):∀ s∈[a,b],nl s:=fun s hs=>by
 simp only [List.mem_cons,List.mem_nil_iff,or_false] at hs;rcases hs with rfl | rfl
 · exact ha
 · exact hb
theorem three_nl {a b c:ByteArray} (ha:nl a) (hb:nl b) (hc:nl c):∀ s∈[a,b,c],nl s:=fun s hs=>by
 simp only [List.mem_cons,List.mem_nil_iff,or_false] at hs;rcases hs with rfl | rfl | rfl
 · exact ha
 · exact hb
 · exact hc
theorem four_nl {a b c d:ByteArray} (ha:nl a) (hb:nl b) (hc:nl c) (hd:nl d):∀ s∈[a,b,c,d],nl s:=fun s hs=>by
 simp only [List.mem_cons,List.mem_nil_iff,or_false] at hs;rcases hs with rfl | rfl | rfl | rfl
 · exact ha
 · exact hb
 · exact hc
 · exact hd
theorem one_nl {a:ByteArray} (ha:nl a):∀ s∈[a],nl s:=fun s hs=>by rw [List.mem_singleton] at hs; rw [hs]; exact ha
theorem head_g {kind:Int} {op name:ByteArray} {ty:Ty} {num:Int} (ho:nl op) (hn:nl name) (ht:nl ty.base) (w:Wr):Gw w (headW (exHead kind op name ty num) w):=by
 have hk:∀ (c:Prop) [Decidable c] (a b:Option (List ByteArray)),(∀ l,a=some l→∀ s∈l,nl s)→(∀ l,b=some l→∀ s∈l,nl s)→∀ l,(if c then a else b)=some l→∀ s∈l,nl s:=by
  intro c _ a b ha hb l hl;by_cases hc:c
  · rw [if_pos hc] at hl; exact ha l hl
  · rw [if_neg hc] at hl; exact hb l hl
 have hs:∀ {x:List ByteArray},(∀ s∈x,nl s)→∀ l,some x=some l→∀ s∈l,nl s:=by
  intro x hx l hl;injection hl with hl;rw [← hl]; exact hx
 have e:∀ l,exHead kind op name ty num=some l→∀ s∈l,nl s:=by
  unfold exHead;refine hk _ _ _ (hs (three_nl (nl_lit (by decide)) (nl_ty ht) (nl_dec _))) ?_;refine hk _ _ _ (hs (two_nl (nl_lit (by decide)) hn)) ?_;refine hk _ _ _ (hs (two_nl (nl_lit (by decide)) ho)) ?_;refine hk _ _ _ (hs (two_nl (nl_lit (by decide)) ho)) ?_;refine hk _ _ _ (hs (one_nl (nl_lit (by decide)))) ?_;refine hk _ _ _ (hs (one_nl (nl_lit (by decide)))) ?_;refine hk _ _ _ (hs (one_nl (nl_lit (by decide)))) ?_;refine hk _ _ _ (hs (two_nl (nl_lit (by decide)) ho)) ?_;refine hk _ _ _ (hs (one_nl (nl_lit (by decide)))) ?_;refine hk _ _ _ (hs (one_nl (nl_lit (by decide)))) ?_;refine hk _ _ _ (hs (one_nl (nl_lit (by decide)))) ?_;refine hk _ _ _ (hs (one_nl (nl_lit (by decide)))) ?_;refine hk _ _ _ (hs (two_nl (nl_lit (by decide)) (nl_ty ht))) ?_;refine hk _ _ _ (hs (three_nl (nl_lit (by decide)) (nl_ty ht) (nl_dec _))) ?_;intro l hl; cases hl
 cases h:exHead kind op name ty num with
 | none=>exact Gw.refl w
 | some l=>exact openP_g w (e l h)
mutual
theorem ex_g:∀ (e:Ex) (w:Wr),nlE e→Gw w (exW e w)
 | .mk kind op name ty num arr subs,w,h=>by
   simp only [nlE] at h;unfold exW;simp only;have h1:=(head_g (kind:=kind) (num:=num) h.1 h.2.1 h.2.2.1 w).trans (exs_g subs _ h.2.2.2);refine Gw.trans ?_ (close_g _);split
   · exact h1.trans (part_g h.2.1 _)
   · exact h1
theorem exs_g:∀ (l:List Ex) (w:Wr),nlEs l→Gw w (exsW l w)
 | [],w,h=>by unfold exsW; exact Gw.refl w
 | e::t,w,h=>by
   simp only [nlEs] at h;unfold exsW;exact (ex_g e w h.1).trans (exs_g t _ h.2)
end
theorem nl_dash:nl dash:=nl_lit (by decide)
theorem opt_g {e:Option Ex} (h:nlO e) (w:Wr):Gw w (optW e w):=by
 cases e with
 | none=>exact part_g nl_dash w
 | some e=>exact ex_g e w h
theorem nl_heads (k:Nat):nl (heads.getD k nt):=by
 by_cases h:k < 17
 · have hc:k=0∨k=1∨k=2∨k=3∨k=4∨k=5∨k=6∨k=7∨k=8∨k=9∨k=10∨k=11∨k=12∨k=13∨k=14∨k=15∨k=16:=by omega
   rcases hc with rfl | rfl | rfl | rfl | rfl | rfl | rfl | rfl | rfl | rfl | rfl | rfl | rfl | rfl | rfl | rfl | rfl <;> exact nl_lit (by decide)
 · rw [List.getD_eq_getElem?_getD,List.getElem?_eq_none (by show 17≤k; omega)];exact nl_nt
theorem ite_g {w:Wr} {c:Prop} [Decidable c] {a b:Wr} (h1:Gw w a) (h2:Gw w b):Gw w (if c then a else b):=by split; exact h1; exact h2
mutual
theorem sm_g:∀ (s:Sm) (w:Wr),nlS s→Gw w (smW s w)
 | .mk kind v name minus num e0 e1 e2 body,w,h=>by
   simp only [nlS] at h;obtain ⟨hv,hn,h0,h1,h2,hb⟩:=h;have ho:=openP_g (l:=[heads.getD kind.toNat nt]) w (one_nl (nl_heads _));have gb:=fun y=>sms_g body y hb
   unfold smW;simp only;refine Gw.trans ?_ (close_g _);refine ho.trans ?_;refine ite_g (gb _) (ite_g (((part_g (nl_ty hv.2) _).trans (part_g hv.1 _)).trans ((part_g (nl_dec _) _).trans (opt_g h0 _))) ?_);refine ite_g (ite_g (((opt_g h0 _).trans (gb _)).trans (part_g nl_dash _)) ((opt_g h0 _).trans (gb _))) ?_;refine ite_g ((opt_g h0 _).trans (gb _)) ?_;refine ite_g ((gb _).trans (opt_g h0 _)) ?_;refine ite_g (((opt_g h0 _).trans (opt_g h1 _)).trans ((opt_g h2 _).trans (gb _))) ?_;refine ite_g (ite_g (part_g (nl_app nl_dash (nl_dec _)) _) (part_g (nl_dec _) _)) ?_;refine ite_g (opt_g h0 _) ?_;refine ite_g (part_g hn _) ?_;exact ite_g ((part_g hn _).trans (gb _)) (Gw.refl _)
theorem sms_g:∀ (l:List Sm) (w:Wr),nlSs l→Gw w (smsW l w)
 | [],w,h=>by unfold smsW; exact Gw.refl w
 | e::t,w,h=>by
   simp only [nlSs] at h;unfold smsW;exact (sm_g e w h.1).trans (sms_g t _ h.2)
end
theorem fold_g {α:Type} {f:Wr→α→Wr}:∀ (l:List α) (w:Wr),(∀ a∈l,∀ w,Gw w (f w a))→Gw w (l.foldl f w)
 | [],w,h=>Gw.refl w
 | a::l,w,h=>(h a (List.mem_cons_self ..) w).trans (fold_g l _ (fun a ha=>h a (List.mem_cons_of_mem _ ha)))
theorem params_g {l:List Vr} (h:∀ v∈l,nlV v) (w:Wr):Gw w (paramsW l w):=by
 unfold paramsW;refine ((openP_g (l:=[]) w (fun s hs=>by cases hs)).trans (fold_g l _ (fun v hv w=>?_))).trans (close_g _);exact (openP_g w (two_nl (nl_ty (h v hv).2) (h v hv).1)).trans (close_g _)
theorem it_g {i:It} (h:nlI i) (w:Wr):Gw w (itW i w):=by
 unfold itW;refine Gw.trans ?_ (close_g _);refine ite_g ?_ (ite_g ?_ (ite_g ?_ (ite_g ?_ (ite_g ?_ (Gw.refl _)))))
 · refine (openP_g w (two_nl (nl_lit (by decide)) h.v.1)).trans (fold_g i.vars _ (fun v hv w=>?_));exact (openP_g w (three_nl (nl_ty (h.vars v hv).2) (h.vars v hv).1 (nl_dec _))).trans (close_g _)
 · refine (((openP_g w (three_nl (nl_lit (by decide)) (nl_ty h.v.2) h.v.1)).trans (openP_g (l:=[]) _ (fun s hs=>by cases hs))).trans (fold_g i.types _ (fun t ht w=>part_g (nl_ty (h.types t ht)) w))).trans (close_g _)
 · exact (openP_g w (three_nl (nl_lit (by decide)) (nl_ty h.v.2) h.v.1)).trans (params_g h.vars _)
 · cases hb:i.body with
   | none=>exact Gw.refl _
   | some b=>exact ((openP_g w (three_nl (nl_lit (by decide)) (nl_ty h.v.2) h.v.1)).trans (params_g h.vars _)).trans (sm_g b _ (h.body b hb))
 · have h1:=openP_g w (four_nl (a:=⟨#[118,97,114]⟩) (nl_lit (by decide)) (nl_ty h.v.2) h.v.1 (nl_dec i.v.num));refine h1.trans ?_;simp only;cases i.listed with
   | true=>exact ((openP_g _ (one_nl (nl_lit (by decide)))).trans (exs_g i.list _ h.list)).trans (close_g _)
   | false=>exact opt_g h.init _
end Go.Proofs.YtflbkdfbjofllaaGreatDoor.Sy
namespace Go.Proofs.YtflbkdfbjofllaaGreatDoor.L
open Go.RowKit
variable {s:ByteArray}
theorem val10 (b:Int):Lx.valB b 10 < 0:=by
 have hd:Lx.digB 10=false:=by decide
 unfold Lx.valB;rw [hd,if_neg (by decide),if_neg (by omega),if_neg (by omega)]; decide
theorem digs_all (b:Int):∀ (f k:Nat) (a:Int) (ok:Bool) (q:Nat),k≤q→q < (Lx.digs s b f k a ok).1→Lx.pk s q≠10:=by
 intro f
 induction f with
 | zero=>intro k a ok q h1 h2; have h3:q < k:=h2; omega
 | succ f ih =>
   intro k a ok q h1 h2;by_cases h0:0≤Lx.valB b (Lx.pk s k)
   · rw [Lx.digs_yes h0] at h2;by_cases hq:q=k
     · subst hq;intro e;rw [e] at h0;have:=val10 b;omega
     · exact ih _ _ _ q (by omega) h2
   · rw [Lx.digs_no h0] at h2;have h3:q < k:=h2;omega
theorem suf_nl {k q:Nat} (h1:k≤q) (h2:q < k+Lx.sufLen s k):Lx.pk s q≠10:=by
 unfold Lx.sufLen at h2;by_cases a1:Lx.pk s k=117
 · rw [if_pos a1] at h2;by_cases a2:Lx.pk s (k+1)=108
   · rw [if_pos a2] at h2;have hc:q=k∨q=k+1:=by omega
     rcases hc with rfl | rfl
     · rw [a1]; decide
     · rw [a2]; decide
   · rw [if_neg a2] at h2;obtain rfl:q=k:=by omega
     rw [a1]; decide
 · rw [if_neg a1] at h2;by_cases a2:Lx.pk s k=108
   · rw [if_pos a2] at h2;obtain rfl:q=k:=by omega
     rw [a2]; decide
   · rw [if_neg a2] at h2; omega
theorem tail_nl {b:Int} {k q:Nat} {hex:Bool} (hc:(Lx.tailM s b k hex).code=0) (h1:k≤q) (h2:q < (Lx.tailM s b k hex).j):Lx.pk s q≠10:=by
 have hC:Lx.nCode s b k=0:=by
  unfold Lx.tailM at hc;by_cases h0:Lx.nCode s b k=0
  · exact h0
  · rw [if_neg h0] at hc; exact hc
 unfold Lx.tailM at h2;rw [if_pos hC] at h2;have h3:q < Lx.nEnd s b k:=h2;unfold Lx.nEnd at h3;by_cases hq:q < (Lx.digM s b k).1
 · unfold Lx.digM at hq;by_cases hx:b=10∧Lx.pk s k=48
   · rw [if_pos hx] at hq;have h4:q < k+1:=hq;obtain rfl:q=k:=by omega
     rw [hx.2]; decide
   · rw [if_neg hx] at hq;exact digs_all b s.size k 0 true q h1 hq
 · exact suf_nl (by omega) h3
theorem number_nl {i q:Nat} (hc:(Lx.numberM s i).code=0) (h1:i≤q) (h2:q < (Lx.numberM s i).j):Lx.pk s q≠10:=by
 unfold Lx.numberM at hc h2;by_cases hx:Lx.pk s i=48∧Lx.pk s (i+1)=120
 · rw [if_pos hx] at hc h2;by_cases hv:Lx.valB 16 (Lx.pk s (i+2)) < 0
   · rw [if_pos hv] at hc; exact absurd hc (show ¬ (3:Int)=0 by decide)
   · rw [if_neg hv] at hc h2;by_cases hq:q < i+2
     · have hc:q=i∨q=i+1:=by omega
       rcases hc with rfl | rfl
       · rw [hx.1]; decide
       · rw [hx.2]; decide
     · exact tail_nl hc (by omega) h2
 · rw [if_neg hx] at hc h2;exact tail_nl hc h1 h2
theorem token_nl {i q:Nat} (hc:(Lx.tokenM s i).code=0) (h1:i≤q) (h2:q < (Lx.tokenM s i).j):Lx.pk s q≠10:=by
 by_cases hL:Lx.letB (Lx.pk s i)=true
 · unfold Lx.tokenM at h2;rw [if_pos hL] at h2;have:=Lx.scan_all (Lx.nameP s) s.size i q h1 h2;unfold Lx.nameP at this;intro e;rw [e] at this;exact absurd this (by decide)
 by_cases hD:Lx.digB (Lx.pk s i)=true
 · unfold Lx.tokenM at hc h2;rw [if_neg hL,if_pos hD] at hc h2;exact number_nl hc h1 h2
 by_cases hQ:Lx.pk s i=39
 · unfold Lx.tokenM at hc h2;rw [if_neg hL,if_neg hD,if_pos hQ] at hc h2;have hc':(Lx.chM s i).1=0:=hc;have h2':q < i+(Lx.chM s i).2.1:=h2;clear hc h2;by_cases a1:Lx.pk s (i+1)=92
   · by_cases a2:Lx.pk s (i+2)=110∨Lx.pk s (i+2)=48∨Lx.pk s (i+2)=92∨Lx.pk s (i+2)=39
     · by_cases a3:Lx.pk s (i+3)=39
       · have hl:(Lx.chM s i).2.1=4:=by unfold Lx.chM; rw [if_pos a1,if_pos a2,if_pos a3]
         rw [hl] at h2';have hq:q=i∨q=i+1∨q=i+2∨q=i+3:=by omega
         rcases hq with rfl | rfl | rfl | rfl
         · rw [hQ]; decide
         · rw [a1]; decide
         · omega
         · rw [a3]; decide
       · unfold Lx.chM at hc'; rw [if_pos a1,if_pos a2,if_neg a3] at hc'; exact absurd hc' (show ¬ (3:Int)=0 by decide)
     · unfold Lx.chM at hc'; rw [if_pos a1,if_neg a2] at hc'; exact absurd hc' (show ¬ (3:Int)=0 by decide)
   · by_cases a2:Lx.pk s (i+1) < 32∨126 < Lx.pk s (i+1)∨Lx.pk s (i+1)=39
     · unfold Lx.chM at hc'; rw [if_neg a1,if_pos a2] at hc'; exact absurd hc' (show ¬ (3:Int)=0 by decide)
     · by_cases a3:Lx.pk s (i+2)=39
       · have hl:(Lx.chM s i).2.1=3:=by unfold Lx.chM; rw [if_neg a1,if_neg a2,if_pos a3]
         rw [hl] at h2';have hq:q=i∨q=i+1∨q=i+2:=by omega
         rcases hq with rfl | rfl | rfl
         · rw [hQ]; decide
         · omega
         · rw [a3]; decide
       · unfold Lx.chM at hc'; rw [if_neg a1,if_neg a2,if_neg a3] at hc'; exact absurd hc' (show ¬ (3:Int)=0 by decide)
 · unfold Lx.tokenM at hc h2;rw [if_neg hL,if_neg hD,if_neg hQ] at hc h2;by_cases hz:Lx.signM (Lx.pk s i) (Lx.pk s (i+1)) (Lx.pk s (i+2))=0
   · rw [if_pos hz] at hc; exact absurd hc (show ¬ (3:Int)=0 by decide)
   · rw [if_neg hz] at h2;have h3:q < i+Lx.signM (Lx.pk s i) (Lx.pk s (i+1)) (Lx.pk s (i+2)):=h2;clear hc h2;have hle:=Lx.signM_le (Lx.pk s i) (Lx.pk s (i+1)) (Lx.pk s (i+2));have hq:q=i∨q=i+1∨q=i+2:=by omega
     rcases hq with rfl | rfl | rfl
     · intro e; rw [e] at hz; apply hz; unfold Lx.signM; (repeat' split) <;> omega
     · intro e; rw [e] at h3; revert h3; unfold Lx.signM; (repeat' split) <;> omega
     · intro e; rw [e] at h3; revert h3; unfold Lx.signM; (repeat' split) <;> omega
theorem text_nl {i:Nat} (hi:i < s.size) (hc:(Lx.tokenM s i).code=0):Sy.nl (s.extract i (Lx.tokenM s i).j):=by
 have hbd:=Lx.tokenM_bd hi;have hgt:=hbd.1 hc;intro b hb;have e:(s.extract i (Lx.tokenM s i).j).data.toList=(s.data.toList.drop i).take ((Lx.tokenM s i).j - i):=by
  have:=ext_list s i ((Lx.tokenM s i).j - i);rw [ByteArray.toList_eq,show i+((Lx.tokenM s i).j - i)=(Lx.tokenM s i).j by omega] at this;exact this
 rw [e] at hb;obtain ⟨q,hq,hqb⟩:=List.mem_iff_getElem.1 hb;rw [List.length_take,List.length_drop] at hq;have h1:=token_nl hc (q:=i+q) (by omega) (by omega);rw [pk_lb] at h1;unfold lb at h1;have e2:s.data.toList[i+q]?=some b:=by
  rw [List.getElem_take,List.getElem_drop] at hqb;rw [← hqb];exact List.getElem?_eq_getElem (by rw [← size_list]; have:=hbd.2.1; omega)
 rw [e2] at h1;simp only at h1;intro e3;rw [e3] at h1;exact h1 rfl
theorem toks_nl:∀ (f i:Nat) (acc:List Lx.Tk),i≤s.size→(∀ t∈acc,Sy.nl t.text)→∀ t∈(Lx.toksM s f i acc).l,Sy.nl t.text
 | 0,i,acc,hi,ha=>ha
 | f+1,i,acc,hi,ha=>by
   have hn:∀ t∈([]:List Lx.Tk),Sy.nl t.text:=fun t h=>by cases h
   have hg:=Lx.gap_bd (s:=s) s.size i hi;unfold Lx.toksM;split
   · exact hn
   split
   · exact ha
   split
   · exact hn
   split
   · exact hn
   · next h1 h2 h3 h4 =>
     have hlt:(Lx.gap s s.size i).1 < s.size:=by omega
     have hb:=Lx.tokenM_bd (s:=s) hlt;refine toks_nl f _ _ hb.2.1 (fun t ht=>?_);rcases List.mem_append.1 ht with ht | ht
     · exact ha t ht
     · rw [List.mem_singleton] at ht;subst ht;exact text_nl hlt (by simpa using h3)
end Go.Proofs.YtflbkdfbjofllaaGreatDoor.L
namespace Go.Proofs.YtflbkdfbjofllaaGreatDoor.Sy
open Go.RowKit Lx
def ends (s:ByteArray):Nat:=(s.data.toList.filter (fun b=>b==10)).length
theorem fold_most (l:List It) (hl:∀ i∈l,nlI i):∀ w:Wr,w.most≤(l.foldl (fun w i=>{ itW i w with out:=nt,fresh:=true }) w).most:=by
 induction l with
 | nil=>intro w; exact Int.le_refl _
 | cons i t ih =>
   intro w;rw [List.foldl_cons];exact Int.le_trans (it_g (hl i (List.mem_cons_self ..)) w).most (ih (fun i hi=>hl i (List.mem_cons_of_mem _ hi)) { itW i w with out:=nt,fresh:=true })
theorem depth_take {l:List It} (hl:∀ i∈l,nlI i) (k:Nat):depthM (l.take k)≤depthM l:=by
 unfold depthM
 conv=>rhs; rw [← List.take_append_drop k l,List.foldl_append]
 exact fold_most (l.drop k) (fun i hi=>hl i (List.mem_of_mem_drop hi)) _
def dmp (w:Wr) (i:It):Wr:=let w1:=itW i w; { w1 with out:=w1.out++⟨#[10]⟩,fresh:=true }
theorem dmp_g {i:It} (h:nlI i) (w:Wr):∃ r,(dmp w i).out.data.toList=w.out.data.toList++r∧(r.filter (fun b=>b==10)).length=1:=by
 obtain ⟨r,h1,h2⟩:=(it_g h w).out;refine ⟨r++[10],?_,?_⟩
 · show ((itW i w).out++⟨#[10]⟩:ByteArray).data.toList=_;rw [ByteArray.data_append,Array.toList_append,h1,List.append_assoc]
 · rw [List.filter_append,List.filter_eq_nil_iff.2 (fun b hb=>by simpa using h2 b hb)]; rfl
theorem dmps_g:∀ (l:List It) (w:Wr),(∀ i∈l,nlI i)→∃ r,(l.foldl dmp w).out.data.toList=w.out.data.toList++r∧(r.filter (fun b=>b==10)).length=l.length
 | [],w,h=>⟨[],by rw [List.append_nil]; rfl,rfl⟩
 | i::l,w,h=>by
   obtain ⟨r,h1,h2⟩:=dmp_g (h i (List.mem_cons_self ..)) w;obtain ⟨q,g1,g2⟩:=dmps_g l (dmp w i) (fun i hi=>h i (List.mem_cons_of_mem _ hi));refine ⟨r++q,by rw [List.foldl_cons,g1,h1,List.append_assoc],?_⟩;rw [List.filter_append,List.length_append,h2,g2,List.length_cons]; omega
theorem dumpL_dmp (l:List It):dumpL l=(l.foldl dmp ⟨nt,0,0,true⟩).out:=rfl
theorem dumpL_take {l:List It} (hl:∀ i∈l,nlI i) {k:Nat} (hk:k≤l.length):ends (dumpL (l.take k))=k∧∃ r,(dumpL l).data.toList=(dumpL (l.take k)).data.toList++r:=by
 obtain ⟨r,h1,h2⟩:=dmps_g (l.take k) ⟨nt,0,0,true⟩ (fun i hi=>hl i (List.mem_of_mem_take hi));constructor
 · unfold ends;rw [dumpL_dmp,h1,List.filter_append,List.length_append,h2,List.length_take,Nat.min_eq_left hk];show 0+k=k;omega
 · obtain ⟨q,g1,_⟩:=dmps_g (l.drop k) ((l.take k).foldl dmp ⟨nt,0,0,true⟩) (fun i hi=>hl i (List.mem_of_mem_drop hi));rw [← List.foldl_append,List.take_append_drop] at g1;exact ⟨q,by rw [dumpL_dmp,dumpL_dmp,g1]⟩
theorem cut_dump (s:ByteArray) (hs:s.size≤600) (hd:(dumpM s).2.1=0) (k:Nat) (z:Int) (hz:(itemsAt s).1[k]?=some z) :
    ∃ n:Nat,z=(n:Int)∧n≤s.size∧(dumpM (s.extract 0 n)).2.1=0∧ends (dumpM (s.extract 0 n)).1=k∧∃ r,(dumpM s).1.data.toList=(dumpM (s.extract 0 n)).1.data.toList++r:=by
 have hpc:(parseM s).code=0:=by
  unfold dumpM at hd;simp only at hd;by_cases h:(parseM s).code≠0
  · rw [if_pos h] at hd; exact hd
  · simpa using h
 have hdm:(dumpM s).1=dumpL (parseM s).items:=by
  unfold dumpM;simp only;rw [if_neg (by simpa using hpc)]
 have hia:(itemsAt s).1=(parseM s).items.map It.at_:=by
  unfold itemsAt;simp only;rw [if_neg (by simpa using hpc)]
 rcases L.first_tokens s hs with ⟨l,hl,hC,hln⟩ | ⟨c,p,hl,hc⟩
 · have htc:(tokensM s).code=0:=by rw [hl]
   have htl:(tokensM s).l=l:=by rw [hl]
   obtain ⟨C,hCx⟩:∃ C:Cx,C=⟨l,s.size⟩:=⟨_,rfl⟩;obtain ⟨r,hr⟩:∃ r,itemsM C (l.length+1) ⟨0,[],0,0⟩ []=r:=⟨_,rfl⟩;have hp:parseM s=if r.2.code≠0 then ⟨[],r.2.code,r.2.wat⟩ else if depthM r.1 > 40 then ⟨[],5,0⟩ else ⟨r.1,0,0⟩:=by
    unfold parseM;simp only;rw [if_neg (by rw [htc]; simp),htl,← hCx,hr]
   have hrc:r.2.code=0:=by
    rw [hp] at hpc;by_cases h:r.2.code≠0
    · rw [if_pos h] at hpc; exact hpc
    · simpa using h
   have hdp:¬ depthM r.1 > 40:=by
    rw [hp,if_neg (by rw [hrc]; simp)] at hpc;intro h;rw [if_pos h] at hpc;exact absurd hpc (show ¬ (5:Int)=0 by decide)
   have hpi:(parseM s).items=r.1:=by rw [hp,if_neg (by rw [hrc]; simp),if_neg hdp]
   obtain ⟨hin,hfew,_⟩:=tokens_in s (by omega);rw [htl] at hin hfew;have hT:Tks C:=by rw [hCx]; exact ⟨fun t ht=>(hin t ht).1,fun t ht=>Nat.le_trans (hin t ht).2 (by omega),by show l.length≤10000; omega⟩
   have hN:∀ t∈C.T,nl t.text:=by
    rw [hCx];intro t ht;have h:=L.toks_nl (s:=s) (s.size+1) 0 [] (Nat.zero_le _) (fun t h=>by cases h);have e:toksM s (s.size+1) 0 []=tokensM s:=by unfold tokensM; rw [if_neg (by omega)]
    rw [e,htl] at h;exact h t ht
   have hnl:∀ i∈r.1,nlI i:=by
    rw [← hr];exact nl_items hN _ _ _ (fun i h=>by cases h)
   rw [hia,hpi,List.getElem?_map] at hz;cases hit:r.1[k]? with
   | none=>rw [hit] at hz; cases hz
   | some it =>
     rw [hit] at hz;injection hz with hz;have hlen:C.T.length=l.length:=by rw [hCx]
     obtain ⟨m,_,hm,⟨t,ht,hta⟩,hcut⟩:=items_cut hT (l.length+1) ⟨0,[],0,0⟩ [] k it (Nat.zero_le _) (by show C.T.length < 0+(l.length+1); omega) (by rw [hr]; exact hrc) (Nat.zero_le _) (by rw [hr]; exact hit);have hlT:C.T=l:=by rw [hCx]
     rw [hlT] at ht hm;have hkl:k < r.1.length:=(List.getElem?_eq_some_iff.1 hit).1;have hmem:=List.mem_of_getElem? ht;have hat:t.at_+t.text.size≤s.size:=by
      obtain ⟨hk2,he⟩:=List.getElem?_eq_some_iff.1 ht;exact (L.chain_each s l 0 hC (l.take m) t (l.drop (m+1)) (by rw [← he,← List.drop_eq_getElem_cons hk2,List.take_append_drop])).2.1
     have hP:=L.pre_of s t.at_ (by omega);have hz':(s.extract 0 t.at_).size=t.at_:=by rw [ByteArray.size_extract]; omega
     refine ⟨t.at_,by rw [← hz]; exact hta,by omega,?_⟩;obtain ⟨s',hs'⟩:∃ q,s.extract 0 t.at_=q:=⟨_,rfl⟩;rw [hs'] at hP hz' ⊢;have htk:tokensM s'=⟨l.take m,0,0⟩:=by
      have e:toksM s (s.size+1) 0 []=⟨l,0,0⟩:=by
       have e2:=hl;unfold tokensM at e2;rw [if_neg (by omega)] at e2;exact e2
      unfold tokensM;rw [if_neg (by omega)];exact L.cut_toks hP (s.size+1) (s'.size+1) 0 [] l m t e (Nat.zero_le _) (by omega) (by simp) (Nat.zero_le _) ht hz'.symm
     have hlm:(l.take m).length=m:=by rw [List.length_take]; omega
     obtain ⟨c1,c2⟩:=hcut s'.size (m+1) (by show m < 0+(m+1); omega);have hCut:cutC C m s'.size=⟨l.take m,s'.size⟩:=by unfold cutC; rw [hlT]
     rw [hCut,hr] at c1;rw [hCut] at c2;have hp':parseM s'=⟨r.1.take k,0,0⟩:=by
      unfold parseM;simp only;rw [htk];simp only;rw [if_neg (by simp),hlm,if_neg (by rw [c2]; simp),c1,if_neg (by have:=depth_take hnl k; omega)]
     have hd':dumpM s'=(dumpL (r.1.take k),0,0):=by
      unfold dumpM;simp only;rw [hp',if_neg (by simp)]
     obtain ⟨k1,k2⟩:=dumpL_take hnl (Nat.le_of_lt hkl);rw [hd'];refine ⟨rfl,k1,?_⟩;rw [hdm,hpi];exact k2
 · exfalso;have hp:parseM s=⟨[],c,p⟩:=by
    unfold parseM;simp only;rw [hl,if_pos hc]
   rw [hp] at hpc;exact hc hpc
end Go.Proofs.YtflbkdfbjofllaaGreatDoor.Sy
namespace Go.Proofs.YtflbkdfbjofllaaGreatDoor
open Go.RowKit Lx
def endsTo (s:ByteArray) (i:Nat):Nat:=((s.data.toList.take i).filter (fun b=>b==10)).length
theorem endsTo_next {s:ByteArray} {i:Nat} (h:i < s.size):endsTo s (i+1)=endsTo s i+(if s[i]=10 then 1 else 0):=by
 have hl:i < s.data.toList.length:=by simpa using h
 unfold endsTo;rw [List.take_succ_eq_append_getElem hl,List.filter_append,List.length_append]
 congr 1
 have e:s.data.toList[i]=s[i]:=by rw [Array.getElem_toList]; rfl
 rw [e];by_cases h10:s[i]=10
 · rw [h10]; rfl
 · rw [if_neg h10,List.filter_cons_of_neg (by simpa using h10)]; rfl
theorem endsTo_le (s:ByteArray) (i:Nat):endsTo s i≤i:=by
 unfold endsTo;exact Nat.le_trans (List.length_filter_le _ _) (by rw [List.length_take]; omega)
theorem endsTo_all (s:ByteArray):endsTo s s.size=Sy.ends s:=by
 unfold endsTo Sy.ends;rw [List.take_of_length_le (by simp)]
theorem begins_ext {a b:ByteArray} {r:List UInt8} (h:a.data.toList=b.data.toList++r):b.size≤a.size∧a.extract 0 b.size=b:=by
 have hl:=congrArg List.length h;rw [List.length_append] at hl;have e1:a.data.toList.length=a.size:=by simp
 have e2:b.data.toList.length=b.size:=by simp
 refine ⟨by omega,?_⟩;apply ByteArray.ext;apply Array.toList_inj.1;rw [ByteArray.data_extract,Array.toList_extract,List.extract_eq_take_drop,List.drop_zero,h,Nat.sub_zero,← e2,List.take_left]
theorem dump_small {s t:ByteArray} {c p:Int} (h:Sy.dumpM s=(t,c,p)) (hs:s.size≤1000000):t.size≤1000000000000:=by
 have e:=congrArg Prod.fst h;simp only at e;unfold Sy.dumpM at e;simp only at e;by_cases hc:(Sy.parseM s).code≠0
 · rw [if_pos hc] at e; rw [← e]; exact Nat.zero_le _
 · rw [if_neg hc] at e;rw [← e];exact (Sy.parse_items (Sy.parseOk_any s hs) (by simpa using hc)).2
theorem cut_walk (s:ByteArray) (x:Int) (hm:s.size≤maxLen) (hx:I64 x) (w:World) (hl:LaidP w):Calls Tryz.prog 5 #[.string s,.int .i64 x] w fun e w'=>e=.returned (.bool true)∧Keeps No w w':=by
 have HL:=zz hl;clear hl;by_cases h600:600 < s.size
 · have h600':(600:Int) < (s.size:Int):=by omega
   clear hx;go_enter Tryz.func5,Tryz.ntmps5;go_wp2_with fail;refine (awake_any w HL.out).mono ?_;rintro e w1 ⟨rfl,hb⟩;have HB:=zz hb;clear hb;go_wp2_with fail;go_returns;exact ⟨rb rfl rfl,HB.out⟩
 have h600':¬ (600:Int) < (s.size:Int):=by omega
 have hs:s.size≤600:=by omega
 have hok:=Sy.parseOk_any s (by omega);have hcut:=Sy.cut_dump s hs;have hnone:(Sy.dumpM s).2.1≠0→(Sy.itemsAt s).1=[]:=by
  intro h;have e:(Sy.dumpM s).2.1=(Sy.parseM s).code:=by
   unfold Sy.dumpM;simp only;by_cases h2:(Sy.parseM s).code≠0
   · rw [if_pos h2]
   · rw [if_neg h2]; simp only; simpa using Eq.symm (by simpa using h2)
  rw [e] at h;unfold Sy.itemsAt;simp only;rw [if_pos h]
 obtain ⟨⟨t,c,p⟩,hd⟩:∃ q,Sy.dumpM s=q:=⟨_,rfl⟩;obtain ⟨⟨l,c2,p2⟩,hi⟩:∃ q,Sy.itemsAt s=q:=⟨_,rfl⟩;rw [hd,hi] at hcut hnone;simp only at hcut hnone;have HD:=zz (fun W hW=>dump_to s t c p hd hok W hW);have HI:=zz (fun W hW=>items_to s l c2 p2 l.length hi rfl hok (fun z hz=>by
  by_cases hc:c=0
  · obtain ⟨k,hk,hkz⟩:=List.mem_iff_getElem.1 hz;obtain ⟨n,h1,h2,_⟩:=hcut hc k z (by rw [List.getElem?_eq_getElem hk,hkz]);rw [h1]; unfold I64; omega
  · rw [hnone hc] at hz; cases hz) W hW)
 obtain ⟨n,hn⟩:∃ n,l.length=n:=⟨_,rfl⟩;have HN:=zz hn;have HCU:=zz hcut;rw [hn] at HI;have hnb:n≤10000:=by
  have h1:=Sy.items_few hok;have e:l.length≤(Sy.parseM s).items.length:=by
   have e2:=congrArg Prod.fst hi;simp only at e2;rw [← e2];unfold Sy.itemsAt;simp only;split
   · exact Nat.zero_le _
   · simp only [List.length_map]; exact Nat.le_refl _
  omega
 clear hd hi hcut hnone hn hok h600;go_enter Tryz.func5,Tryz.ntmps5;go_wp2_with fail;refine (HD.out w HL.out).mono ?_;rintro e w1 ⟨rfl,hk1⟩;go_upto_region 4 with fail
 have hn2:(w1.alloc (.cells #[.int .i64 c,.int .i64 p] 25)).heap[w1.heap.size]?=some (.cells #[.int .i64 c,.int .i64 p] 25 (0,0)):=heap_alloc_new _ _;have hk2:Keeps No w (w1.alloc (.cells #[.int .i64 c,.int .i64 p] 25)):=hk1.alloc _;generalize w1.alloc (.cells #[.int .i64 c,.int .i64 p] 25)=w2 at hn2 hk2 ⊢;obtain ⟨R,hR⟩:∃ q,w1.heap.size=q:=⟨_,rfl⟩;rw [hR] at hn2 ⊢;have HR2:=zz hn2;have HK2:=zz hk2;clear hR hn2 hk2 hk1;go_wp2_with fail;refine (HI.out w2 (HL.out.no HK2.out)).mono ?_;rintro e w3 ⟨ra,rc,rfl,hk3,hsl⟩;go_upto_region 5 with fail
 have hk4:Keeps No w3 (w3.alloc (.cells #[.int .i64 c2,.int .i64 p2] 25)):=(Keeps.refl _ _).alloc _;have HSL:=zz (hsl.no hk4);have HR4:=zz (wrong_kept hk4 (wrong_kept hk3 HR2.out));have HK4:=zz ((HK2.out.trans hk3 (fun _ _ e=>e)).trans hk4 (fun _ _ e=>e));generalize w3.alloc (.cells #[.int .i64 c2,.int .i64 p2] 25)=w4 at HSL HR4 HK4 ⊢;generalize w3.heap.size=R2;clear hk3 hsl hk4;have x0:w4.cell? ⟨R,0,none⟩=some (.int .i64 c):=by rw [cell_of_row w4 R 0 _ _ _ HR4.out]; rfl
 have HAW:=zz (awake_any w4 (HL.out.no HK4.out));by_cases hc:c=0
 · subst hc;have q0:((0:Int) != 0)=false:=rfl;by_cases hn0:n=0
   · subst hn0;go_wp2_with fail;refine HAW.out.mono ?_;rintro e' w9 ⟨rfl,hk9⟩;have HK9:=zz (HK4.out.trans hk9 (fun _ _ e=>e));clear hk9 x0;go_wp2_with fail;go_returns;exact ⟨rfl,HK9.out⟩
   have hn1:((n:Int)==0)=false:=by simp; omega
   obtain ⟨k,hk,hke⟩:=low_nat x (n:Int) hx (by omega);have HLX:=zz (fun W=>low_any x (n:Int) hx (by omega) W);rw [hke] at HLX;obtain ⟨b,off,z,hz,hra,hcell⟩:=HSL.out.get (i:=k) (by simp only; omega);simp only at hz hra;subst hra;obtain ⟨nn,rfl,hnn,hd1,hd2,rr,hd3⟩:=HCU.out rfl k z hz;have hnn1:¬ (s.size:Int) < (nn:Int):=by omega
   obtain ⟨⟨t2,c3,p3⟩,hdd⟩:∃ q,Sy.dumpM (s.extract 0 nn)=q:=⟨_,rfl⟩;rw [hdd] at hd1 hd2 hd3;simp only at hd1 hd2 hd3;subst hd1;have HD2:=zz (fun W hW=>dump_to (s.extract 0 nn) t2 0 p3 hdd (Sy.parseOk_any _ (by rw [ByteArray.size_extract]; omega)) W hW);obtain ⟨hb1,hb2⟩:=begins_ext hd3;have HB2:=zz hb2;have HTB:Hid (t2.size≤1000000000000):=zz (dump_small hdd (by rw [ByteArray.size_extract]; omega));have HE:=zz hd2;have hk0:(0:Int)≤(k:Int):=by omega
   have hkn:k < n:=by omega
   clear hke hx hz hdd hd2 hd3 hb2 hk;have nn0:(0:Int)≤(nn:Int):=by omega
   have nnl:¬ (nn:Int) < 0:=by omega
   go_wp2_with fail;refine (HLX.out w4).mono ?_;rintro e w5 ⟨rfl,rfl⟩;go_wp2_with fail;refine (HD2.out w4 (HL.out.no HK4.out)).mono ?_;rintro e w5 ⟨rfl,hk5⟩;go_upto_region 11 with fail
   have hn6:(w5.alloc (.cells #[.int .i64 0,.int .i64 p3] 25)).heap[w5.heap.size]?=some (.cells #[.int .i64 0,.int .i64 p3] 25 (0,0)):=heap_alloc_new _ _;have HK6:=zz ((HK4.out.trans hk5 (fun _ _ e=>e)).alloc (.cells #[.int .i64 0,.int .i64 p3] 25));generalize w5.alloc (.cells #[.int .i64 0,.int .i64 p3] 25)=w6 at hn6 HK6 ⊢;obtain ⟨R3,hR3⟩:∃ q,w5.heap.size=q:=⟨_,rfl⟩;rw [hR3] at hn6 ⊢;have HR6:=zz hn6;clear hR3 hn6 hk5 x0 hcell;have ht2:=HTB.out;go_wp2_with fail;go_loopg [13,14] t2.size (fun g a u wr=>∃ i:Nat,u=.int .i64 (i:Int)∧a=.int .i64 (endsTo t2 i:Int)∧i≤t2.size∧g=t2.size - i∧w6=wr)
   case atStart=>exact ⟨0,rfl,rfl,Nat.zero_le _,rfl,rfl⟩
   case round =>
    obtain ⟨i,rfl,rfl,hi,rfl,rfl⟩:=hrel;have hle:=endsTo_le t2 i;by_cases hlt:i < t2.size
    · have hlt1:(i:Int) < (t2.size:Int):=by omega
      have i0:(0:Int)≤(i:Int):=by omega
      have HNX:=zz (endsTo_next hlt);by_cases h10:(((t2[i]'hlt).toNat:Int)==10)=true
      · have h1:t2[i]'hlt=10:=UInt8.toNat_inj.1 (by
         have h2:((t2[i]'hlt).toNat:Int)=10:=by simpa using h10
         have h3:(10:UInt8).toNat=10:=rfl;omega)
        have h4:endsTo t2 (i+1)=endsTo t2 i+1:=by rw [HNX.out,if_pos h1]
        have HE4:=zz h4;clear h1 h4;go_wp2_with fail;go_roundg (t2.size - (i+1))
        case rel=>exact ⟨i+1,by go_num,by rw [HE4.out]; go_num,by omega,rfl,rfl⟩
        case measure=>omega
      · have h10':(((t2[i]'hlt).toNat:Int)==10)=false:=by simpa using h10
        have h1:¬ t2[i]'hlt=10:=fun e=>by
         rw [e] at h10;exact h10 rfl
        have h4:endsTo t2 (i+1)=endsTo t2 i:=by rw [HNX.out,if_neg h1]; rfl
        have HE4:=zz h4;clear h1 h4 h10;go_wp2_with fail;go_roundg (t2.size - (i+1))
        case rel=>exact ⟨i+1,by go_num,by rw [HE4.out],by omega,rfl,rfl⟩
        case measure=>omega
    · obtain rfl:i=t2.size:=by omega
      have hlt1:¬ (t2.size:Int) < (t2.size:Int):=by omega
      have hke:endsTo t2 t2.size=k:=by rw [endsTo_all]; exact HE.out
      rw [hke];have HAW6:=zz (awake_any w6 (HL.out.no HK6.out));have y0:w6.cell? ⟨R3,0,none⟩=some (.int .i64 0):=by rw [cell_of_row w6 R3 0 _ _ _ HR6.out]; rfl
      have hb1':(t2.size:Int)≤(t.size:Int):=by omega
      have hx:((t.extract 0 t2.size).toList==t2.toList)=true:=by rw [HB2.out]; exact beq_iff_eq.2 rfl
      have hkn':(k:Int) < (n:Int):=by omega
      clear hke hle;go_wp2_with fail;refine HAW6.out.mono ?_;rintro e' w9 ⟨rfl,hk9⟩;have HK9:=zz (HK6.out.trans hk9 (fun _ _ e=>e));clear hk9 y0;go_wp2_with fail;go_returns;exact ⟨rfl,HK9.out⟩
 · have q1:(c != 0)=true:=bne_iff_ne.2 hc;clear hc;go_wp2_with fail;refine HAW.out.mono ?_;rintro e' w9 ⟨rfl,hk9⟩;have HK9:=zz (HK4.out.trans hk9 (fun _ _ e=>e));clear hk9 x0;go_wp2_with fail;go_returns;exact ⟨rfl,HK9.out⟩
end Go.Proofs.YtflbkdfbjofllaaGreatDoor
