import Derived.Test.YtflbkdfbjofllaaGreatDoorSyPkB
import Derived.Test.YtflbkdfbjofllaaGreatDoorSyPkO
import Derived.Test.YtflbkdfbjofllaaGreatDoorSyPkF
import Derived.Test.YtflbkdfbjofllaaGreatDoorSyPkI
import Derived.Test.YtflbkdfbjofllaaGreatDoorSyPkL
import Derived.Test.YtflbkdfbjofllaaGreatDoorSyPkQ
set_option maxRecDepth 100000
set_option maxHeartbeats 25600000
set_option linter.unusedSimpArgs false
set_option linter.unusedVariables false
namespace Go.Proofs.YtflbkdfbjofllaaGreatDoor.Lx
open Go.RowKit
def hd:List UInt8→Int
 | []=>0
 | b :: _=>(b.toNat:Int)
def At_ (s:ByteArray) (i:Nat) (l:List UInt8):Prop:=s.data.toList.drop i=l
theorem at_hd {s:ByteArray} {i:Nat} {l:List UInt8} (h:At_ s i l):pk s i=hd l:=by
 unfold At_ at h
 by_cases hi:i < s.size
 · have hl:i < s.data.toList.length:=by simpa using hi
   rw [List.drop_eq_getElem_cons hl] at h
   rw [← h,pk_lt hi]
   show _=((s.data.toList[i]).toNat:Int)
   congr 2
 · rw [pk_ge hi]
   rw [List.drop_eq_nil_of_le (by simp; omega)] at h
   rw [← h]; rfl
theorem at_tl {s:ByteArray} {i:Nat} {l:List UInt8} (h:At_ s i l):At_ s (i+1) l.tail:=by
 unfold At_ at h ⊢
 rw [← h,List.tail_drop]
theorem at_cons {s:ByteArray} {i:Nat} {b:UInt8} {t:List UInt8} (h:At_ s i (b :: t)):i < s.size:=by
 unfold At_ at h
 rcases Nat.lt_or_ge i s.size with h1 | h1
 · exact h1
 · rw [List.drop_eq_nil_of_le (by simp; omega)] at h; cases h
theorem at_nil {s:ByteArray} {i:Nat} (h:At_ s i []):s.size≤i:=by
 unfold At_ at h
 have:=List.drop_eq_nil_iff.1 h
 simpa using this
theorem at_len {s:ByteArray} {i:Nat} {l:List UInt8} (h:At_ s i l):l.length=s.size - i:=by
 unfold At_ at h
 rw [← h,List.length_drop]; simp
def sc (p:List UInt8→Bool):List UInt8→Nat→List UInt8 × Nat
 | [],i=>([],i)
 | b :: t,i=>if p (b :: t)=true then sc p t (i+1) else (b :: t,i)
theorem sc_eq {s:ByteArray} {P:Nat→Bool} {p:List UInt8→Bool} (h:∀ (k:Nat) (b:UInt8) (t:List UInt8),At_ s k (b :: t)→P k=p (b :: t)) (hn:∀ k,s.size≤k→P k=false) :
    ∀ (l:List UInt8) (f i:Nat),At_ s i l→l.length≤f→scan P f i=(sc p l i).2∧At_ s (sc p l i).2 (sc p l i).1
 | [],f,i,ha,hf=>by
   have:=at_nil ha
   exact ⟨scan_no (hn i this),ha⟩
 | b :: t,0,i,ha,hf=>absurd hf (by simp)
 | b :: t,f+1,i,ha,hf=>by
   unfold sc
   by_cases hp:p (b :: t)=true
   · rw [if_pos hp,scan_yes (by rw [h i b t ha]; exact hp)]
     exact sc_eq h hn t f (i+1) (at_tl ha) (by simpa using hf)
   · rw [if_neg hp]
     exact ⟨scan_no (by rw [h i b t ha]; simpa using hp),ha⟩
def lineL (l:List UInt8):Bool:=!(hd l == 10) && !(hd l == 13)
def blockL (l:List UInt8):Bool:=!l.tail.isEmpty && !(hd l == 42 && hd l.tail == 47)
def nameL (l:List UInt8):Bool:=inB (hd l)
theorem line_eq {s:ByteArray} {i:Nat} {l:List UInt8} (ha:At_ s i l):lineEnd s i=(sc lineL l i).2∧At_ s (sc lineL l i).2 (sc lineL l i).1 :=
 sc_eq (fun k b t hk=>by
  unfold lineP lineL
  rw [decide_eq_true (at_cons hk),at_hd hk]; simp) (fun k hk=>lineP_ge s k hk) l s.size i ha (by rw [at_len ha]; omega)
theorem block_eq {s:ByteArray} {i:Nat} {l:List UInt8} (ha:At_ s i l):blockEnd s i=(sc blockL l i).2∧At_ s (sc blockL l i).2 (sc blockL l i).1 :=
 sc_eq (fun k b t hk=>by
  unfold blockP blockL
  have ht:=at_tl hk
  rw [at_hd hk,at_hd ht]
  have e:decide (k+1 < s.size)=!(b :: t).tail.isEmpty:=by
   have hl:=at_len ht
   show _=!t.isEmpty
   cases t with
   | nil=>simp at hl; simp; omega
   | cons c u=>simp at hl; simp; omega
  rw [e]) (fun k hk=>blockP_ge s k (by omega)) l s.size i ha (by rw [at_len ha]; omega)
theorem name_eq {s:ByteArray} {i:Nat} {l:List UInt8} (ha:At_ s i l):nameEnd s i=(sc nameL l i).2∧At_ s (sc nameL l i).2 (sc nameL l i).1 :=
 sc_eq (fun k b t hk=>by unfold nameP nameL; rw [at_hd hk]) (fun k hk=>nameP_ge s k hk) l s.size i ha (by rw [at_len ha]; omega)
def gapL:Nat→List UInt8→Nat→List UInt8 × Nat × Bool
 | 0,l,i=>(l,i,true)
 | f+1,[],i=>([],i,true)
 | f+1,b :: t,i =>
   if blankB (b.toNat:Int)=true then gapL f t (i+1)
   else if (b.toNat:Int)=47∧hd t=47 then gapL f (sc lineL (b :: t) i).1 (sc lineL (b :: t) i).2
   else if (b.toNat:Int)=47∧hd t=42 then
    (match (sc blockL t.tail (i+2)).1 with
    | _ :: _ :: u=>gapL f u ((sc blockL t.tail (i+2)).2+2)
    | _=>(b :: t,i,false))
   else (b :: t,i,true)
theorem gap_eq {s:ByteArray}:∀ (f:Nat) (l:List UInt8) (i:Nat),At_ s i l→gap s f i=((gapL f l i).2.1,(gapL f l i).2.2)∧At_ s (gapL f l i).2.1 (gapL f l i).1
 | 0,l,i,ha=>⟨rfl,ha⟩
 | f+1,[],i,ha=>⟨gap_end (by have:=at_nil ha; omega),ha⟩
 | f+1,b :: t,i,ha=>by
   have hi:=at_cons ha
   have h0:pk s i=(b.toNat:Int):=at_hd ha
   have h1:=at_hd (at_tl ha)
   unfold gap gapL
   rw [if_pos hi,h0,h1]
   show (if blankB (b.toNat:Int)=true then _ else if (b.toNat:Int)=47∧hd t=47 then _ else if (b.toNat:Int)=47∧hd t=42 then _ else _)=_∧_
   by_cases hb:blankB (b.toNat:Int)=true
   · simp only [if_pos hb]; exact gap_eq f t (i+1) (at_tl ha)
   simp only [if_neg hb]
   by_cases hl:(b.toNat:Int)=47∧hd t=47
   · simp only [if_pos hl]
     obtain ⟨e1,e2⟩:=line_eq ha
     rw [e1]
     exact gap_eq f _ _ e2
   simp only [if_neg hl]
   by_cases hk:(b.toNat:Int)=47∧hd t=42
   · simp only [if_pos hk]
     obtain ⟨e1,e2⟩:=block_eq (at_tl (at_tl ha))
     have e1':blockEnd s (i+2)=(sc blockL t.tail (i+2)).2:=e1
     rw [e1']
     have hlen:=at_len e2
     change At_ s (sc blockL t.tail (i+2)).2 (sc blockL t.tail (i+2)).1 at e2
     change (sc blockL t.tail (i+2)).1.length=s.size - (sc blockL t.tail (i+2)).2 at hlen
     generalize sc blockL t.tail (i+2)=r at e2 hlen ⊢
     obtain ⟨u,j⟩:=r
     match u,e2,hlen with
     | [],e2,hlen=>rw [if_neg (by simp at hlen; omega)]; exact ⟨rfl,ha⟩
     | [x],e2,hlen=>rw [if_neg (by simp at hlen; omega)]; exact ⟨rfl,ha⟩
     | x :: y :: u,e2,hlen =>
       rw [if_pos (by simp at hlen; omega)]
       exact gap_eq f u (j+2) (at_tl (at_tl e2))
   · simp only [if_neg hk]; exact ⟨trivial,ha⟩
def digsL (b:Int):List UInt8→Nat→Int→Bool→List UInt8 × Nat × Int × Bool
 | [],k,n,ok=>([],k,n,ok)
 | c :: t,k,n,ok=>if 0≤valB b (c.toNat:Int) then digsL b t (k+1) ((n * b+valB b (c.toNat:Int)) % 18446744073709551616) (ok && decide (n≤(18446744073709551615 - valB b (c.toNat:Int)) / b)) else (c :: t,k,n,ok)
theorem digs_eq {s:ByteArray} {b:Int}:∀ (l:List UInt8) (f k:Nat) (n:Int) (ok:Bool),At_ s k l→l.length≤f→digs s b f k n ok=(digsL b l k n ok).2∧At_ s (digsL b l k n ok).2.1 (digsL b l k n ok).1
 | [],f,k,n,ok,ha,hf=>by
   have hv:¬ 0≤valB b (pk s k):=fun h=>by have:=valB_in h; have:=at_nil ha; omega
   exact ⟨digs_no hv,ha⟩
 | c :: t,0,k,n,ok,ha,hf=>absurd hf (by simp)
 | c :: t,f+1,k,n,ok,ha,hf=>by
   have h0:pk s k=(c.toNat:Int):=at_hd ha
   unfold digsL
   by_cases hv:0≤valB b (c.toNat:Int)
   · simp only [if_pos hv]
     rw [digs_yes (by rw [h0]; exact hv),h0]
     exact digs_eq t f (k+1) _ _ (at_tl ha) (by simpa using hf)
   · simp only [if_neg hv]
     exact ⟨digs_no (by rw [h0]; exact hv),ha⟩
def digML (b:Int) (l:List UInt8) (k:Nat):List UInt8 × Nat × Int × Bool:=if b=10∧hd l=48 then (l.tail,k+1,0,true) else digsL b l k 0 true
theorem digM_eq {s:ByteArray} {b:Int} {l:List UInt8} {k:Nat} (ha:At_ s k l):digM s b k=(digML b l k).2∧At_ s (digML b l k).2.1 (digML b l k).1:=by
 unfold digM digML
 rw [at_hd ha]
 split
 · exact ⟨rfl,at_tl ha⟩
 · exact digs_eq l s.size k 0 true ha (by rw [at_len ha]; omega)
def sufLenL (l:List UInt8):Nat:=if hd l=117 then (if hd l.tail=108 then 2 else 1) else if hd l=108 then 1 else 0
def sufStrL (l:List UInt8):ByteArray:=if hd l=117 then (if hd l.tail=108 then ⟨#[117,108]⟩ else ⟨#[117]⟩) else if hd l=108 then ⟨#[108]⟩ else ⟨#[]⟩
theorem at_drop {s:ByteArray} {i:Nat} {l:List UInt8} (h:At_ s i l) (n:Nat):At_ s (i+n) (l.drop n):=by
 unfold At_ at h ⊢
 rw [← h,List.drop_drop]
def nEndL (r:List UInt8 × Nat × Int × Bool):Nat:=r.2.1+sufLenL r.1
def nCodeL (r:List UInt8 × Nat × Int × Bool):Int:=if inB (hd (r.1.drop (sufLenL r.1)))=true then 3 else if r.2.2.2=true then 0 else 6
def tailL (r:List UInt8 × Nat × Int × Bool) (hex:Bool):NumR:=if nCodeL r=0 then ⟨0,nEndL r,3,sufStrL r.1,r.2.2.1,hex⟩ else bad (nCodeL r) (nEndL r)
theorem tail_eq {s:ByteArray} {b:Int} {l:List UInt8} {k:Nat} (ha:At_ s k l) (hex:Bool):tailM s b k hex=tailL (digML b l k) hex:=by
 obtain ⟨h1,h2⟩:=digM_eq (b:=b) ha
 obtain ⟨⟨u,j,n,ok⟩,hr⟩:∃ r,digML b l k=r:=⟨_,rfl⟩
 rw [hr] at h1 h2 ⊢
 have e0:sufLen s j=sufLenL u:=by unfold sufLen sufLenL; rw [at_hd h2,at_hd (at_tl h2)]
 have e1:sufStr s j=sufStrL u:=by unfold sufStr sufStrL; rw [at_hd h2,at_hd (at_tl h2)]
 have e2:nEnd s b k=nEndL (u,j,n,ok):=by unfold nEnd nEndL; rw [h1]; simp only; rw [e0]
 have e3:nCode s b k=nCodeL (u,j,n,ok):=by
  unfold nCode nCodeL
  rw [e2]
  unfold nEndL
  rw [at_hd (at_drop h2 _),h1]
 unfold tailM tailL
 rw [e2,e3,h1]
 simp only
 rw [e1]
def numL (l:List UInt8) (i:Nat):NumR :=
 if hd l=48∧hd l.tail=120 then (if valB 16 (hd l.tail.tail) < 0 then bad 3 (i+2) else tailL (digML 16 l.tail.tail (i+2)) true) else tailL (digML 10 l i) false
theorem num_eq {s:ByteArray} {l:List UInt8} {i:Nat} (ha:At_ s i l):numberM s i=numL l i:=by
 unfold numberM numL
 rw [at_hd ha,at_hd (at_tl ha),at_hd (at_tl (at_tl ha)),tail_eq ha,tail_eq (at_tl (at_tl ha))]
def chL (l:List UInt8):Int × Nat × Int :=
 if hd l.tail=92 then
  if hd l.tail.tail=110∨hd l.tail.tail=48∨hd l.tail.tail=92∨hd l.tail.tail=39 then
   if hd l.tail.tail.tail=39 then (0,4,if hd l.tail.tail=110 then 10 else if hd l.tail.tail=48 then 0 else hd l.tail.tail) else (3,0,0)
  else (3,0,0)
 else if hd l.tail < 32∨126 < hd l.tail∨hd l.tail=39 then (3,0,0)
 else if hd l.tail.tail=39 then (0,3,hd l.tail) else (3,0,0)
theorem ch_eq {s:ByteArray} {l:List UInt8} {i:Nat} (ha:At_ s i l):chM s i=chL l:=by
 unfold chM chL
 rw [at_hd (at_tl ha),at_hd (at_tl (at_tl ha)),at_hd (at_tl (at_tl (at_tl ha)))]
def wordL (l:List UInt8):Bool :=
 (l == [118,111,105,100]) || (l == [99,104,97,114]) || (l == [115,104,111,114,116]) || (l == [105,110,116]) || (l == [108,111,110,103]) || (l == [117,110,115,105,103,110,101,100]) || (l == [115,116,114,117,99,116]) || (l == [116,121,112,101,100,101,102])
  || (l == [105,102]) || (l == [101,108,115,101]) || (l == [119,104,105,108,101]) || (l == [100,111]) || (l == [102,111,114]) || (l == [115,119,105,116,99,104]) || (l == [99,97,115,101]) || (l == [100,101,102,97,117,108,116])
  || (l == [98,114,101,97,107]) || (l == [99,111,110,116,105,110,117,101]) || (l == [114,101,116,117,114,110]) || (l == [103,111,116,111]) || (l == [115,105,122,101,111,102])
theorem word_eq (t:ByteArray):wordB t=wordL t.data.toList:=by unfold wordB wordL; rw [ByteArray.toList_eq]
def cut (l:List UInt8) (n:Nat):ByteArray:=⟨⟨l.take n⟩⟩
theorem cut_eq {s:ByteArray} {i:Nat} {l:List UInt8} (ha:At_ s i l) (j:Nat):s.extract i j=cut l (j - i):=by
 unfold At_ at ha
 apply ByteArray.ext
 apply Array.toList_inj.1
 rw [ByteArray.data_extract,Array.toList_extract]
 show List.extract s.data.toList i j=l.take (j - i)
 rw [← ha,List.extract_eq_take_drop]
def tokenL (l:List UInt8) (i:Nat):NumR :=
 if letB (hd l)=true then
  (let e:=(sc nameL l i).2
   if 30 < e - i then ⟨6,e,0,⟨#[]⟩,0,false⟩ else if wordL (l.take (e - i))=true then ⟨0,e,2,⟨#[]⟩,0,false⟩ else ⟨0,e,1,⟨#[]⟩,0,false⟩)
 else if digB (hd l)=true then numL l i
 else if hd l=39 then (let c:=chL l; ⟨c.1,i+c.2.1,if c.1=0 then 4 else 0,⟨#[]⟩,c.2.2,false⟩)
 else (let n:=signM (hd l) (hd l.tail) (hd l.tail.tail); if n=0 then bad 3 i else ⟨0,i+n,5,⟨#[]⟩,0,false⟩)
theorem token_eq {s:ByteArray} {l:List UInt8} {i:Nat} (ha:At_ s i l):tokenM s i=tokenL l i:=by
 unfold tokenM tokenL
 rw [at_hd ha,at_hd (at_tl ha),at_hd (at_tl (at_tl ha)),num_eq ha]
 split
 · obtain ⟨e1,_⟩:=name_eq ha
   rw [e1]
   unfold nameM
   rw [word_eq,cut_eq ha,show (cut l ((sc nameL l i).2 - i)).data.toList=l.take ((sc nameL l i).2 - i) from rfl]
   show NumR.mk _ _ _ _ _ _=(if 30 < (sc nameL l i).2 - i then _ else if wordL (l.take ((sc nameL l i).2 - i))=true then _ else _)
   split
   · rfl
   split <;> rfl
 split
 · rfl
 split
 · rw [show chK s i=if (chL l).1=0 then 4 else 0 by unfold chK; rw [ch_eq ha],ch_eq ha]
 · rfl
def toksL:Nat→List UInt8→Nat→Nat→List Tk→TkR
 | 0,_,_,_,acc=>⟨acc,0,0⟩
 | f+1,l,i,m,acc =>
   match gapL (l.length+i) l i with
   | (u,g,false)=>⟨[],3,(g:Int)⟩
   | ([],g,true)=>⟨acc,0,0⟩
   | (b :: u,g,true) =>
     match tokenL (b :: u) g with
     | ⟨code,j,kind,suf,num,hex⟩=>if code ≠ 0 then ⟨[],code,(g:Int)⟩ else if m=6000 then ⟨[],6,(g:Int)⟩ else toksL f ((b :: u).drop (j - g)) j (m+1) (acc++[⟨kind,g,cut (b :: u) (j - g),suf,num,hex⟩])
theorem toks_eq {s:ByteArray}:∀ (f:Nat) (l:List UInt8) (i m:Nat) (acc:List Tk),At_ s i l→i≤s.size→acc.length=m→toksM s f i acc=toksL f l i m acc
 | 0,l,i,m,acc,ha,hi,hm=>rfl
 | f+1,l,i,m,acc,ha,hi,hm=>by
   have hlen:=at_len ha
   have hsz:l.length+i=s.size:=by omega
   obtain ⟨e1,e2⟩:=gap_eq s.size l i ha
   have hb:=gap_bd (s:=s) s.size i hi
   unfold toksM toksL
   rw [hsz,e1]
   rw [e1] at hb
   generalize gapL s.size l i=r at e2 hb ⊢
   obtain ⟨u,g,ok⟩:=r
   cases ok with
   | false=>rfl
   | true =>
     simp only at e2 hb ⊢
     rw [if_neg (by decide)]
     cases u with
     | nil =>
       have:=at_nil e2
       rw [if_pos (by omega)]
     | cons b u =>
       have hg:=at_cons e2
       rw [if_neg (by omega),token_eq e2]
       have hbd:=tokenM_bd hg
       rw [token_eq e2] at hbd
       obtain ⟨⟨code,j,kind,suf,num,hex⟩,hq⟩:∃ q,tokenL (b :: u) g=q:=⟨_,rfl⟩
       rw [hq] at hbd
       simp only [hq]
       simp only at hbd
       rw [hm]
       split
       · rfl
       next hc =>
       split
       · rfl
       have hj:=hbd.1 (by simpa using hc)
       have ht:tkOf s g ⟨code,j,kind,suf,num,hex⟩=⟨kind,g,cut (b :: u) (j - g),suf,num,hex⟩:=by
        unfold tkOf
        simp only
        rw [cut_eq e2]
       rw [ht]
       refine toks_eq f _ _ _ _ ?_ hbd.2.1 (by rw [List.length_append,List.length_singleton,hm])
       have h3:=at_drop e2 (j - g)
       rw [show g+(j - g)=j by omega] at h3
       exact h3
def tokensL (s:ByteArray):TkR:=if 20000 < s.size then ⟨[],6,0⟩ else toksL (s.size+1) s.data.toList 0 0 []
theorem tokens_eq (s:ByteArray):tokensM s=tokensL s:=by
 unfold tokensM tokensL
 split
 · rfl
 · exact toks_eq (s.size+1) s.data.toList 0 0 [] (by unfold At_; rw [List.drop_zero]) (Nat.zero_le _) rfl
end Go.Proofs.YtflbkdfbjofllaaGreatDoor.Lx
namespace Go.Proofs.YtflbkdfbjofllaaGreatDoor.Sy
open Go.RowKit Lx
def parseQ (s:ByteArray):PR :=
 match tokensL s with
 | ⟨l,code,pos⟩ =>
   if code ≠ 0 then ⟨[],code,pos⟩
   else
    match itemsM ⟨l,s.size⟩ (l.length+1) ⟨0,[],0,0⟩ [] with
    | (is,⟨_,_,c,p⟩)=>if c ≠ 0 then ⟨[],c,p⟩ else if depthM is > 40 then ⟨[],5,0⟩ else ⟨is,0,0⟩
theorem parseQ_eq (s:ByteArray):parseM s=parseQ s:=by
 unfold parseM parseQ
 rw [tokens_eq]
def dumpQ (s:ByteArray):ByteArray × Int × Int :=
 match parseQ s with
 | ⟨is,c,p⟩=>if c ≠ 0 then (nt,c,p) else (dumpL is,0,0)
theorem dumpQ_eq (s:ByteArray):dumpM s=dumpQ s:=by
 unfold dumpM dumpQ
 rw [parseQ_eq]
end Go.Proofs.YtflbkdfbjofllaaGreatDoor.Sy
namespace Go.Proofs.YtflbkdfbjofllaaGreatDoor.Sy
open Go.RowKit Lx
structure Wq where
 out:List ByteArray
 depth:Int
 most:Int
 fresh:Bool
def flat:List ByteArray→ByteArray
 | []=>nt
 | p :: l=>flat l++p
def toW (q:Wq):Wr:=⟨flat q.out,q.depth,q.most,q.fresh⟩
def partQ (s:ByteArray) (q:Wq):Wq:={ q with out:=s :: (if q.fresh then q.out else ⟨#[32]⟩ :: q.out),fresh:=false }
def openQ (w:Wq):Wq:=let w1:=partQ ⟨#[40]⟩ w; { w1 with fresh:=true,depth:=w1.depth+1,most:=max w1.most (w1.depth+1) }
def partsQ (l:List ByteArray) (w:Wq):Wq:=l.foldl (fun w s=>partQ s w) w
def openPQ (l:List ByteArray) (w:Wq):Wq:=partsQ l (openQ w)
def closeQ (w:Wq):Wq:={ w with out:=⟨#[41]⟩ :: w.out,fresh:=false,depth:=w.depth - 1 }
def headQ (h:Option (List ByteArray)) (w:Wq):Wq:=match h with
 | some l=>openPQ l w
 | none=>w
mutual
def exQ:Ex→Wq→Wq
 | .mk kind op name ty num arr subs,w =>
   let w1:=exsQ subs (headQ (exHead kind op name ty num) w)
   closeQ (if kind=10∨kind=11 then partQ name w1 else w1)
def exsQ:List Ex→Wq→Wq
 | [],w=>w
 | e :: t,w=>exsQ t (exQ e w)
end
def optQ (e:Option Ex) (w:Wq):Wq:=match e with
 | some e=>exQ e w
 | none=>partQ dash w
mutual
def smQ:Sm→Wq→Wq
 | .mk kind v name minus num e0 e1 e2 body,w =>
   let w0:=openPQ [heads.getD kind.toNat nt] w
   closeQ (
    if kind=1 then smsQ body w0
    else if kind=3 then optQ e0 (partQ (decM v.num) (partQ v.name (partQ (tyM v.ty) w0)))
    else if kind=4 then (let w1:=smsQ body (optQ e0 w0); if body.length=1 then partQ dash w1 else w1)
    else if kind=5∨kind=8 then smsQ body (optQ e0 w0)
    else if kind=6 then optQ e0 (smsQ body w0)
    else if kind=7 then smsQ body (optQ e2 (optQ e1 (optQ e0 w0)))
    else if kind=9 then (if minus=true∧num ≠ 0 then partQ (dash++decM num) w0 else partQ (decM num) w0)
    else if kind=13∨kind=16 then optQ e0 w0
    else if kind=14 then partQ name w0
    else if kind=15 then smsQ body (partQ name w0)
    else w0)
def smsQ:List Sm→Wq→Wq
 | [],w=>w
 | s :: t,w=>smsQ t (smQ s w)
end
def paramsQ (l:List Vr) (w:Wq):Wq:=closeQ (l.foldl (fun w v=>closeQ (openPQ [tyM v.ty,v.name] w)) (openPQ [] w))
def itQ (i:It) (w:Wq):Wq :=
 closeQ (
  if i.kind=1 then i.vars.foldl (fun w v=>closeQ (openPQ [tyM v.ty,v.name,decM v.num] w)) (openPQ [⟨#[115,116,114,117,99,116]⟩,i.v.name] w)
  else if i.kind=2 then closeQ (i.types.foldl (fun w t=>partQ (tyM t) w) (openPQ [] (openPQ [⟨#[116,121,112,101,100,101,102]⟩,tyM i.v.ty,i.v.name] w)))
  else if i.kind=3 then paramsQ i.vars (openPQ [⟨#[112,114,111,116,111]⟩,tyM i.v.ty,i.v.name] w)
  else if i.kind=4 then (match i.body with | some b=>smQ b (paramsQ i.vars (openPQ [⟨#[102,117,110,99]⟩,tyM i.v.ty,i.v.name] w)) | none=>w)
  else if i.kind=5 then
   (let w1:=openPQ [⟨#[118,97,114]⟩,tyM i.v.ty,i.v.name,decM i.v.num] w
    if i.listed then closeQ (exsQ i.list (openPQ [⟨#[108,105,115,116]⟩] w1)) else optQ i.init w1)
  else w)
theorem part_q (s:ByteArray) (q:Wq):toW (partQ s q)=partW s (toW q):=by
 unfold partQ partW toW
 cases q.fresh <;> rfl
theorem open_q (q:Wq):toW (openQ q)=openW (toW q):=by
 unfold openQ openW
 rw [← part_q]
 rfl
theorem parts_q:∀ (l:List ByteArray) (q:Wq),toW (partsQ l q)=partsW l (toW q)
 | [],q=>rfl
 | s :: l,q=>by
   show toW (partsQ l (partQ s q))=partsW l (partW s (toW q))
   rw [parts_q l,part_q]
theorem openP_q (l:List ByteArray) (q:Wq):toW (openPQ l q)=openP l (toW q):=by unfold openPQ openP; rw [parts_q,open_q]
theorem close_q (q:Wq):toW (closeQ q)=closeW (toW q):=rfl
theorem head_q (h:Option (List ByteArray)) (q:Wq):toW (headQ h q)=headW h (toW q):=by
 cases h with
 | none=>rfl
 | some l=>exact openP_q l q
theorem ite_q {c:Prop} [Decidable c] {a b:Wq}:toW (if c then a else b)=if c then toW a else toW b:=by split <;> rfl
mutual
theorem ex_q:∀ (e:Ex) (q:Wq),toW (exQ e q)=exW e (toW q)
 | .mk kind op name ty num arr subs,q=>by
   unfold exQ exW
   simp only [close_q,ite_q,part_q,exs_q subs,head_q]
theorem exs_q:∀ (l:List Ex) (q:Wq),toW (exsQ l q)=exsW l (toW q)
 | [],q=>by unfold exsQ exsW; rfl
 | e :: t,q=>by unfold exsQ exsW; rw [exs_q t,ex_q e]
end
theorem opt_q (e:Option Ex) (q:Wq):toW (optQ e q)=optW e (toW q):=by
 cases e with
 | none=>exact part_q _ _
 | some e=>exact ex_q e q
mutual
theorem sm_q:∀ (s:Sm) (q:Wq),toW (smQ s q)=smW s (toW q)
 | .mk kind v name minus num e0 e1 e2 body,q=>by
   unfold smQ smW
   simp only [close_q,ite_q,part_q,sms_q body,openP_q,opt_q]
theorem sms_q:∀ (l:List Sm) (q:Wq),toW (smsQ l q)=smsW l (toW q)
 | [],q=>by unfold smsQ smsW; rfl
 | e :: t,q=>by unfold smsQ smsW; rw [sms_q t,sm_q e]
end
theorem fold_q {α:Type} {f:Wq→α→Wq} {g:Wr→α→Wr} (h:∀ q a,toW (f q a)=g (toW q) a):∀ (l:List α) (q:Wq),toW (l.foldl f q)=l.foldl g (toW q)
 | [],q=>rfl
 | a :: l,q=>by rw [List.foldl_cons,List.foldl_cons,fold_q h l,h]
theorem params_q (l:List Vr) (q:Wq):toW (paramsQ l q)=paramsW l (toW q):=by
 unfold paramsQ paramsW
 rw [close_q,fold_q (g:=fun w v=>closeW (openP [tyM v.ty,v.name] w)) (fun q v=>by rw [close_q,openP_q]),openP_q]
theorem it_q (i:It) (q:Wq):toW (itQ i q)=itW i (toW q):=by
 unfold itQ itW
 rw [close_q]
 congr 1
 simp only [ite_q]
 rw [fold_q (g:=fun w v=>closeW (openP [tyM v.ty,v.name,decM v.num] w)) (fun q v=>by rw [close_q,openP_q]),close_q,fold_q (g:=fun w t=>partW (tyM t) w) (fun q v=>by rw [part_q])]
 simp only [openP_q,params_q,close_q,exs_q,opt_q]
 cases i.body with
 | none=>rfl
 | some b=>simp only [sm_q,params_q,openP_q]
def dumpP (l:List It):List ByteArray:=(l.foldl (fun w i=>(let w1:=itQ i w; { w1 with out:=⟨#[10]⟩ :: w1.out,fresh:=true })) (⟨[],0,0,true⟩:Wq)).out
theorem dumpP_eq (l:List It):dumpL l=flat (dumpP l):=by
 have h:=fold_q (f:=fun (w:Wq) (i:It)=>(let w1:=itQ i w; ({ w1 with out:=⟨#[10]⟩ :: w1.out,fresh:=true }:Wq))) (g:=fun (w:Wr) (i:It)=>(let w1:=itW i w; ({ w1 with out:=w1.out++⟨#[10]⟩,fresh:=true }:Wr))) (fun q i=>by
  simp only
  rw [← it_q]
  rfl) l ⟨[],0,0,true⟩
 unfold dumpL dumpP
 exact (congrArg Wr.out h).symm
def bytesQ:List ByteArray→List UInt8→List UInt8
 | [],acc=>acc
 | p :: l,acc=>bytesQ l (p.data.toList++acc)
theorem bytes_q:∀ (l:List ByteArray) (acc:List UInt8),bytesQ l acc=(flat l).data.toList++acc
 | [],acc=>by unfold bytesQ flat; rfl
 | p :: l,acc=>by
   unfold bytesQ flat
   rw [bytes_q l,ByteArray.data_append,Array.toList_append,List.append_assoc]
def sameB:List UInt8→List UInt8→Bool
 | [],[]=>true
 | a :: l,b :: m=>Nat.beq a.toNat b.toNat && sameB l m
 | _,_=>false
theorem sameB_eq:∀ {l m:List UInt8},sameB l m=true→l=m
 | [],[],_=>rfl
 | a :: l,b :: m,h=>by
   unfold sameB at h
   rw [Bool.and_eq_true] at h
   have h1:=Nat.eq_of_beq_eq_true h.1
   rw [UInt8.toNat_inj.1 h1,sameB_eq h.2]
 | [],_ :: _,h=>by cases h
 | _ :: _,[],h=>by cases h
def isDump (s:ByteArray) (ps:List ByteArray):Bool :=
 match parseQ s with
 | ⟨is,c,p⟩=>decide (c=0) && sameB (bytesQ (dumpP is) []) (bytesQ ps [])
theorem isDump_eq {s:ByteArray} {ps:List ByteArray} (h:isDump s ps=true):dumpM s=(flat ps,0,0):=by
 rw [dumpQ_eq]
 unfold isDump at h
 unfold dumpQ
 obtain ⟨⟨is,c,p⟩,hr⟩:∃ r,parseQ s=r:=⟨_,rfl⟩
 rw [hr] at h ⊢
 simp only [Bool.and_eq_true,decide_eq_true_eq] at h ⊢
 obtain ⟨rfl,h⟩:=h
 rw [if_neg (by decide),dumpP_eq]
 have e:=sameB_eq h
 rw [bytes_q,bytes_q,List.append_nil,List.append_nil] at e
 have e2:flat (dumpP is)=flat ps:=ByteArray.ext (Array.toList_inj.1 e)
 rw [e2]
end Go.Proofs.YtflbkdfbjofllaaGreatDoor.Sy
namespace Go.Proofs.YtflbkdfbjofllaaGreatDoor.Sy
open Go.RowKit Lx
def tw (t:Tk):Nat:=400+t.text.size
def twL:List Tk→Nat
 | []=>0
 | t :: l=>tw t+twL l
section
variable (C:Cx)
def phi (σ:St):Nat:=twL (C.T.drop σ.at_)
structure Tks (C:Cx):Prop where
 ok:∀ t∈C.T,tkOk t=true
 short:∀ t∈C.T,t.text.size≤900000
 few:C.T.length≤10000
end
variable {C:Cx}
theorem phi_lt {σ:St} (h:σ.at_ < C.T.length):phi C σ=tw (peekM C σ 0)+phi C (nextM C σ):=by
 unfold phi
 rw [next_at h,List.drop_eq_getElem_cons h]
 unfold peekM
 simp only [Nat.add_zero,List.getD_eq_getElem?_getD,List.getElem?_eq_getElem h,Option.getD_some]
 rfl
theorem twL_drop (l:List Tk) (n m:Nat):twL (l.drop (n+m))≤twL (l.drop n):=by
 induction m with
 | zero=>exact Nat.le_refl _
 | succ m ih =>
   refine Nat.le_trans ?_ ih
   rw [← Nat.add_assoc]
   by_cases h:n+m < l.length
   · rw [List.drop_eq_getElem_cons h]; exact Nat.le_add_left _ _
   · rw [List.drop_eq_nil_of_le (by omega)]; exact Nat.zero_le _
theorem phi_at {σ τ:St} (h:σ.at_≤τ.at_):phi C τ≤phi C σ:=by
 unfold phi
 obtain ⟨m,hm⟩:∃ m,τ.at_=σ.at_+m:=⟨τ.at_ - σ.at_,by omega⟩
 rw [hm]; exact twL_drop _ _ _
theorem phi_mo {σ τ:St} (h:Mo C σ τ):phi C τ≤phi C σ:=phi_at h.at_
theorem phi_gt {σ τ:St} (h:σ.at_≤τ.at_) (hp:phi C τ < phi C σ):σ.at_ < τ.at_:=by
 rcases Nat.lt_or_ge σ.at_ τ.at_ with h1 | h1
 · exact h1
 · have e:τ.at_=σ.at_:=by omega
   unfold phi at hp
   rw [e] at hp
   omega
theorem is_phi {σ:St} {t:ByteArray} (h:isM C σ t=true) (ht:(nt == t)=false):phi C σ=400+t.size+phi C (nextM C σ):=by
 rw [phi_lt (is_lt h ht)]
 have e:(peekM C σ 0).text=t:=eq_of_beq h
 unfold tw
 rw [e]
theorem fail_code {σ:St} {c a:Int} (hc:c ≠ 0):(failM C σ c a).code ≠ 0:=by
 intro e
 have e':(if σ.code=0 then c else σ.code)=0:=e
 split at e'
 · exact hc e'
 · next hn=>exact hn e'
theorem lost_code {σ:St}:(lostM C σ).code ≠ 0:=fail_code (by decide)
theorem want_phi {σ:St} {t:ByteArray} (h:(wantM C σ t).code=0) (ht:(nt == t)=false):phi C σ=400+t.size+phi C (wantM C σ t):=by
 unfold wantM at h ⊢
 by_cases hi:isM C σ t=true
 · rw [if_pos hi]; exact is_phi hi ht
 · rw [if_neg hi] at h; exact absurd h lost_code
theorem peek_kind {σ:St} (h:(peekM C σ 0).kind ≠ 0):σ.at_ < C.T.length:=by
 apply Classical.byContradiction
 intro hn
 apply h
 unfold peekM
 rw [List.getD_eq_getElem?_getD,List.getElem?_eq_none (by omega)]
 rfl
theorem peek_ok (hT:Tks C) (σ:St):0≤(peekM C σ 0).num∧(peekM C σ 0).num≤18446744073709551615:=by
 by_cases h:σ.at_ < C.T.length
 · have h1:=hT.ok _ (List.getElem_mem h)
   unfold tkOk at h1
   rw [decide_eq_true_eq] at h1
   have e:peekM C σ 0=C.T[σ.at_]:=by unfold peekM; rw [Nat.add_zero,List.getD_eq_getElem?_getD,List.getElem?_eq_getElem h]; rfl
   rw [e]; exact h1.2.2
 · have e:peekM C σ 0=⟨0,C.en,nt,nt,0,false⟩:=by unfold peekM; rw [List.getD_eq_getElem?_getD,List.getElem?_eq_none (by omega)]; rfl
   rw [e]; exact ⟨Int.le_refl _,by show (0:Int)≤18446744073709551615; decide⟩
theorem txt_le (hT:Tks C) (σ:St):(txt C σ).size≤900000:=by
 by_cases h:σ.at_ < C.T.length
 · have h1:=hT.short _ (List.getElem_mem h)
   have e:peekM C σ 0=C.T[σ.at_]:=by unfold peekM; rw [Nat.add_zero,List.getD_eq_getElem?_getD,List.getElem?_eq_getElem h]; rfl
   unfold txt
   rw [e]; exact h1
 · have e:peekM C σ 0=⟨0,C.en,nt,nt,0,false⟩:=by unfold peekM; rw [List.getD_eq_getElem?_getD,List.getElem?_eq_none (by omega)]; rfl
   unfold txt
   rw [e]; exact Nat.zero_le _
theorem phi_txt {σ:St} (h:σ.at_ < C.T.length):phi C σ=400+(txt C σ).size+phi C (nextM C σ):=phi_lt h
theorem txt_lt {σ:St} {p:ByteArray→Bool} (h:p (txt C σ)=true) (hp:p nt=false):σ.at_ < C.T.length:=by
 apply Classical.byContradiction
 intro hn
 unfold txt peekM at h
 rw [List.getD_eq_getElem?_getD,List.getElem?_eq_none (by omega)] at h
 simp only [Option.getD_none] at h
 rw [h] at hp; cases hp
theorem name_phi {σ:St} (h:(nameM C σ).2.code=0):phi C σ=400+(nameM C σ).1.size+phi C (nameM C σ).2:=by
 unfold nameM at h ⊢
 by_cases hk:(peekM C σ 0).kind=1
 · rw [if_pos hk]; exact phi_txt (peek_kind (by rw [hk]; decide))
 · rw [if_neg hk] at h; exact absurd h lost_code
theorem name_le (hT:Tks C) (σ:St):(nameM C σ).1.size≤900000:=by
 unfold nameM
 split
 · exact txt_le hT σ
 · exact Nat.zero_le _
def tyW (t:Ty):Nat:=t.base.size+t.stars.toNat
theorem bits_le (t:ByteArray):(bitsM t).size≤2:=by
 unfold bitsM
 (repeat' split) <;> exact of_decide_eq_true rfl
theorem cat_size (a b:ByteArray):(a++b).size=a.size+b.size:=ByteArray.size_append
theorem base_phi {σ:St} (ht:typedM C σ=true) (h:(baseM C σ).2.code=0):(baseM C σ).1.size+300+phi C (baseM C σ).2≤phi C σ:=by
 have h1:=phi_txt (typed_lt ht)
 have hn:=Mo.next (Mo.refl (Nat.le_of_lt (typed_lt ht)) (C:=C))
 unfold baseM at h ⊢
 simp only at h ⊢
 split
 · show 4+300+phi C (nextM C σ)≤_; omega
 · next ha =>
   rw [if_neg ha] at h
   split
   · next hb =>
     rw [if_pos hb] at h
     have h2:=name_phi h
     show (⟨#[83,46]⟩++(nameM C (nextM C σ)).1:ByteArray).size+300+_≤_
     rw [cat_size]
     show 2+_+300+phi C (nameM C (nextM C σ)).2≤_
     omega
   · next hb =>
     rw [if_neg hb] at h
     split
     · split
       · show 3+300+phi C (nextM C σ)≤_; omega
       · have h3:=bits_le (txt C (nextM C σ))
         have h4:=phi_mo (Mo.next (Mo.refl hn.le))
         show (⟨#[117]⟩++bitsM (txt C (nextM C σ)):ByteArray).size+300+_≤_
         rw [cat_size]
         show 1+_+300+phi C (nextM C (nextM C σ))≤_
         omega
     · split
       · show (⟨#[84,46]⟩++txt C σ:ByteArray).size+300+_≤_
         rw [cat_size]
         show 2+_+300+phi C (nextM C σ)≤_
         omega
       · have h3:=bits_le (txt C σ)
         show (⟨#[105]⟩++bitsM (txt C σ):ByteArray).size+300+_≤_
         rw [cat_size]
         show 1+_+300+phi C (nextM C σ)≤_
         omega
theorem base_le (hT:Tks C) (σ:St):(baseM C σ).1.size≤900002:=by
 have h1:=txt_le hT σ
 have h2:=name_le hT (nextM C σ)
 have h3:=bits_le (txt C (nextM C σ))
 have h4:=bits_le (txt C σ)
 unfold baseM
 simp only
 (repeat' split)
 · show 4≤_; omega
 · show (⟨#[83,46]⟩++(nameM C (nextM C σ)).1:ByteArray).size≤_
   rw [cat_size]; show 2+_≤_; omega
 · show 3≤_; omega
 · show (⟨#[117]⟩++bitsM (txt C (nextM C σ)):ByteArray).size≤_
   rw [cat_size]; show 1+_≤_; omega
 · show (⟨#[84,46]⟩++txt C σ:ByteArray).size≤_
   rw [cat_size]; show 2+_≤_; omega
 · show (⟨#[105]⟩++bitsM (txt C σ):ByteArray).size≤_
   rw [cat_size]; show 1+_≤_; omega
theorem stars_phi:∀ (f:Nat) (σ:St) (n:Int),0≤n→n≤(starsM C f σ n).1∧(starsM C f σ n).1≤n+f∧(starsM C f σ n).1.toNat+phi C (starsM C f σ n).2≤n.toNat+phi C σ
 | 0,σ,n,h=>⟨Int.le_refl _,by unfold starsM; simp only; omega,by unfold starsM; simp only; omega⟩
 | f+1,σ,n,h=>by
   unfold starsM
   split
   · next hi =>
     obtain ⟨h1,h2,h3⟩:=stars_phi f (nextM C σ) (n+1) (by omega)
     have h4:=is_phi hi (show (nt == (⟨#[42]⟩:ByteArray))=false from rfl)
     exact ⟨by omega,by omega,by omega⟩
   · exact ⟨Int.le_refl _,by simp only; omega,by simp only; omega⟩
theorem typ_phi (hT:Tks C) {σ:St} (h:(typM C σ).2.code=0):(0≤(typM C σ).1.stars∧(typM C σ).1.stars≤1000000)∧tyW (typM C σ).1+300+phi C (typM C σ).2≤phi C σ:=by
 unfold typM at h ⊢
 by_cases ht:typedM C σ=true
 · rw [if_pos ht] at h ⊢
   have hf:=hT.few
   have hb:(baseM C σ).2.code=0:=(Mo.stars C.T.length (baseM C σ).2 0 (Mo.refl (Mo.base (Mo.refl (Nat.le_of_lt (typed_lt ht)) (C:=C))).le)).code h
   obtain ⟨h1,h2,h3⟩:=stars_phi (C:=C) C.T.length (baseM C σ).2 0 (Int.le_refl _)
   have h4:=base_phi ht hb
   refine ⟨⟨h1,by show (starsM C C.T.length (baseM C σ).2 0).1≤_; omega⟩,?_⟩
   unfold tyW
   show (baseM C σ).1.size+(starsM C C.T.length (baseM C σ).2 0).1.toNat+300+phi C (starsM C C.T.length (baseM C σ).2 0).2≤_
   have e:(0:Int).toNat=0:=rfl
   rw [e] at h3
   omega
 · rw [if_neg ht] at h; exact absurd h lost_code
theorem number_phi (hT:Tks C) {σ:St} (hs:σ.at_≤C.T.length):(0≤(numberM C σ).2.1∧(numberM C σ).2.1≤18446744073709551615)∧phi C (numberM C σ).2.2≤phi C σ:=by
 refine ⟨?_,phi_mo (Mo.number (Mo.refl hs))⟩
 unfold numberM
 simp only
 split
 · split
   · exact peek_ok hT _
   · exact ⟨Int.le_refl _,by show (0:Int)≤_; decide⟩
 · exact ⟨Int.le_refl _,by show (0:Int)≤_; decide⟩
mutual
def wE:Ex→Nat
 | .mk kind op name ty num arr subs=>80+op.size+name.size+tyW ty+wEs subs
def wEs:List Ex→Nat
 | []=>0
 | e :: t=>wE e+wEs t
end
theorem wEs_app (a b:List Ex):wEs (a++b)=wEs a+wEs b:=by
 induction a with
 | nil=>simp only [List.nil_append,wEs,Nat.zero_add]
 | cons e t ih=>simp only [List.cons_append,wEs,ih,Nat.add_assoc]
theorem okEs_app (a b:List Ex):okEs (a++b)=(okEs a && okEs b):=by
 induction a with
 | nil=>simp only [List.nil_append,okEs,Bool.true_and]
 | cons e t ih=>simp only [List.cons_append,okEs,ih,Bool.and_assoc]
theorem ok_mk {kind:Int} {op name:ByteArray} {ty:Ty} {num:Int} {arr:Bool} {subs:List Ex} (hk:1≤kind∧kind≤14) (hs:0≤ty.stars∧ty.stars≤1000000) (hn:0≤num∧num≤18446744073709551615) (hb:okEs subs=true) :
    okE (.mk kind op name ty num arr subs)=true:=by
 simp only [okE,okN]
 rw [hb,decide_eq_true hk,decide_eq_true ⟨hs.1,hs.2,hn.1,hn.2⟩]
 rfl
theorem ok_0 {kind:Int} {op name:ByteArray} {subs:List Ex} (hk:1≤kind∧kind≤14) (hb:okEs subs=true):okE (.mk kind op name ty0 0 false subs)=true :=
 ok_mk hk ⟨Int.le_refl _,by show (0:Int)≤_; decide⟩ ⟨Int.le_refl _,by decide⟩ hb
theorem okEs1 {a:Ex} (h:okE a=true):okEs [a]=true:=by simp only [okEs,h]; rfl
theorem okEs2 {a b:Ex} (h:okE a=true) (g:okE b=true):okEs [a,b]=true:=by simp only [okEs,h,g]; rfl
theorem okEs3 {a b c:Ex} (h:okE a=true) (g:okE b=true) (k:okE c=true):okEs [a,b,c]=true:=by simp only [okEs,h,g,k]; rfl
theorem wE_0 (kind:Int) (op name:ByteArray) (subs:List Ex):wE (.mk kind op name ty0 0 false subs)=80+op.size+name.size+wEs subs:=by simp only [wE]; rfl
theorem wEs1 (a:Ex):wEs [a]=wE a:=by simp only [wEs]; rfl
theorem wEs2 (a b:Ex):wEs [a,b]=wE a+wE b:=by simp only [wEs]; rfl
theorem wEs3 (a b c:Ex):wEs [a,b,c]=wE a+(wE b+wE c):=by simp only [wEs]; rfl
theorem nt_size:nt.size=0:=rfl
theorem wE_ge (e:Ex):80≤wE e:=by
 cases e; simp only [wE]; omega
theorem wE_subs (e:Ex):80+wEs e.subs≤wE e:=by
 cases e; simp only [wE,Ex.subs]; omega
theorem okE_subs {e:Ex} (h:okE e=true):okEs e.subs=true:=by
 cases e
 simp only [okE,Bool.and_eq_true] at h
 exact h.2.2
theorem numType_size {k:Tk} {t:ByteArray} (h:numType k=some t):t.size≤3:=by
 unfold numType at h
 (repeat' split at h) <;> first | (injection h with h; subst h; exact of_decide_eq_true rfl) | cases h
theorem numberType_phi {σ:St} {k:Tk} (h:(numberTypeM C σ k).2.code=0):(numberTypeM C σ k).2=σ∧(numberTypeM C σ k).1.stars=0∧(numberTypeM C σ k).1.base.size≤3:=by
 unfold numberTypeM at h ⊢
 split
 · next t ht=>exact ⟨rfl,rfl,numType_size ht⟩
 · next hn=>rw [hn] at h; exact absurd h (fail_code (by decide))
theorem prime_phi (hT:Tks C) {σ:St} (hs:σ.at_≤C.T.length) (h:(primeM C σ).2.code=0):okE (primeM C σ).1=true∧wE (primeM C σ).1+phi C (primeM C σ).2≤phi C σ:=by
 have hn:=peek_ok hT σ
 unfold primeM at h ⊢
 simp only at h ⊢
 split
 · next hk =>
   rw [if_pos hk] at h
   have h0:(numberTypeM C σ (peekM C σ 0)).2.code=0:=(Mo.next (Mo.refl (Mo.numberType (Mo.refl hs) _).le)).code h
   obtain ⟨e1,e2,e3⟩:=numberType_phi h0
   have hp:=phi_txt (C:=C) (peek_kind (σ:=σ) (by rw [hk]; decide))
   refine ⟨ok_mk ⟨by decide,by decide⟩ ⟨by rw [e2]; exact Int.le_refl _,by rw [e2]; decide⟩ hn rfl,?_⟩
   simp only
   rw [e1]
   simp only [wE,tyW,wEs]
   rw [e2,nt_size]
   show 80+0+0+((numberTypeM C σ (peekM C σ 0)).1.base.size+0)+0+_≤_
   omega
 · next hk =>
   rw [if_neg hk] at h
   split
   · next hk2 =>
     have hp:=phi_txt (C:=C) (peek_kind (σ:=σ) (by rw [hk2]; decide))
     refine ⟨ok_mk ⟨by decide,by decide⟩ ⟨by show (0:Int)≤0; decide,by show (0:Int)≤_; decide⟩ hn rfl,?_⟩
     simp only [wE,tyW,wEs]
     show 80+0+0+(3+0)+0+phi C (nextM C σ)≤_
     omega
   · next hk2 =>
     rw [if_neg hk2] at h
     split
     · next hk3 =>
       have hp:=phi_txt (C:=C) (peek_kind (σ:=σ) (by rw [hk3]; decide))
       refine ⟨ok_0 ⟨by decide,by decide⟩ rfl,?_⟩
       simp only
       rw [wE_0]
       have e:(peekM C σ 0).text=txt C σ:=rfl
       rw [e,nt_size]
       simp only [wEs]
       omega
     · next hk3 =>
       rw [if_neg hk3] at h
       exact absurd ((Mo.next (Mo.refl (Nat.le_refl _)) (C:=C)).code h) lost_code
theorem size_phi (hT:Tks C) {σ:St} (hs:σ.at_≤C.T.length) (hi:isM C σ ⟨#[115,105,122,101,111,102]⟩=true) (h:(sizeM C σ).2.code=0):okE (sizeM C σ).1=true∧wE (sizeM C σ).1+phi C (sizeM C σ).2≤phi C σ:=by
 have r:=Mo.refl hs (C:=C)
 unfold sizeM at h ⊢
 simp only at h ⊢
 have m4:=((r.next.want ⟨#[40]⟩).typ).number
 have h4:=((Mo.refl m4.le).want _).code h
 have m3:=(r.next.want ⟨#[40]⟩).typ
 have h3:=((Mo.refl m3.le).number).code h4
 have n1:=typ_phi hT h3
 have n2:=number_phi hT m3.le
 have n3:=is_phi hi rfl
 have n4:=phi_mo ((Mo.refl r.next.le).want ⟨#[40]⟩)
 have n5:=phi_mo ((Mo.refl m4.le).want ⟨#[41]⟩)
 refine ⟨ok_mk ⟨by decide,by decide⟩ n1.1 n2.1 rfl,?_⟩
 simp only [wE,wEs]
 rw [nt_size]
 omega
def need:Job→Nat
 | .bin _=>2
 | .cond=>3
 | .expr=>4
 | _=>1
def okJ:Job→Bool
 | .bin l=>decide (1≤l)
 | .binL l e=>decide (1≤l) && okE e
 | .post e=>okE e
 | .args e=>okE e
 | _=>true
def wJ:Job→Nat
 | .binL _ l=>wE l
 | .post e=>wE e
 | .args e=>wE e
 | _=>0
theorem ok_1 {kind:Int} {op name:ByteArray} {x:Ex} (hk:1≤kind∧kind≤14) (hx:okE x=true):okJ (.post (.mk kind op name ty0 0 false [x]))=true:=ok_0 (op:=op) (name:=name) hk (okEs1 hx)
theorem ok_2 {kind:Int} {op name:ByteArray} {x y:Ex} (hk:1≤kind∧kind≤14) (hx:okE x=true) (hy:okE y=true):okJ (.args (.mk kind op name ty0 0 false [x,y]))=true:=ok_0 (op:=op) (name:=name) hk (okEs2 hx hy)
theorem ok_n {kind:Int} {op name:ByteArray} {l:List Ex} (hk:1≤kind∧kind≤14) (hx:okEs l=true):okJ (.args (.mk kind op name ty0 0 false l))=true:=ok_0 (op:=op) (name:=name) hk hx
def EOk (C:Cx) (f:Nat) (j:Job) (σ:St):Prop :=
 σ.at_≤C.T.length→10 * (C.T.length - σ.at_)+need j≤f→okJ j=true→(E C f j σ).2.code=0→okE (E C f j σ).1=true∧wE (E C f j σ).1+phi C (E C f j σ).2≤phi C σ+wJ j
theorem binEx_ok {op:ByteArray} {l r:Ex} (hl:okE l=true) (hr:okE r=true):okE (binEx op l r)=true∧wE (binEx op l r)≤80+op.size+wE l+wE r:=by
 unfold binEx
 (repeat' split)
 · exact ⟨ok_0 ⟨by decide,by decide⟩ (okEs2 hl hr),by rw [wE_0,wEs2,nt_size]; omega⟩
 · exact ⟨ok_0 ⟨by decide,by decide⟩ (okEs2 hl hr),by rw [wE_0,wEs2,nt_size]; omega⟩
 · exact ⟨ok_0 ⟨by decide,by decide⟩ (okEs2 hl hr),by rw [wE_0,wEs2,nt_size]; omega⟩
theorem level_pos {t:ByteArray} {n:Int} (hn:1≤n) (h:¬ levelM t < n):levelM t ≠ 0:=by omega
theorem E_ok (hT:Tks C):∀ (f:Nat) (j:Job) (σ:St),EOk C f j σ
 | 0,j,σ=>fun _ hf=>absurd hf (by cases j <;> simp only [need] <;> omega)
 | f+1,j,σ=>fun hs hf hj hc=>by
   have r:=Mo.refl hs (C:=C)
   have ih:∀ (j:Job) (τ:St),EOk C f j τ:=fun j τ=>E_ok hT f j τ
   have mo:∀ {τ:St} (j:Job),τ.at_≤C.T.length→Mo C τ (E C f j τ).2:=fun j k=>E_mo f j _ k
   cases j with
   | expr =>
     unfold E at hc ⊢
     simp only at hc ⊢
     have m1:=mo .cond hs
     by_cases ha:assigns (txt C (E C f .cond σ).2)=true
     · rw [if_pos ha] at hc ⊢
       have ha1:=txt_lt ha rfl
       have m2:=Mo.next (Mo.refl m1.le)
       have m3:=mo .expr m2.le
       have c2:=m3.code hc
       have c1:=m2.code c2
       obtain ⟨o1,w1⟩:=ih .cond σ hs (by simp only [need] at hf ⊢; omega) rfl c1
       have g1:=phi_gt (C:=C) m1.at_ (by have:=wE_ge (E C f .cond σ).1; simp only [wJ] at w1; omega)
       have p1:=phi_txt ha1
       have g2:=next_at ha1
       obtain ⟨o2,w2⟩:=ih .expr _ m2.le (by simp only [need] at hf ⊢; omega) rfl hc
       refine ⟨ok_0 ⟨by decide,by decide⟩ (okEs2 o1 o2),?_⟩
       rw [wE_0,wEs2,nt_size]
       simp only [wJ] at *
       omega
     · rw [if_neg ha] at hc ⊢
       obtain ⟨o1,w1⟩:=ih .cond σ hs (by simp only [need] at hf ⊢; omega) rfl hc
       exact ⟨o1,w1⟩
   | cond =>
     unfold E at hc ⊢
     simp only at hc ⊢
     have m1:=mo (.bin 1) hs
     by_cases ha:isM C (E C f (.bin 1) σ).2 ⟨#[63]⟩=true
     · rw [if_pos ha] at hc ⊢
       simp only at hc ⊢
       have ha1:=is_lt ha rfl
       have m2:=Mo.next (Mo.refl m1.le)
       have m3:=mo .expr m2.le
       have m4:=(Mo.refl m3.le).want ⟨#[58]⟩
       have m5:=mo .cond m4.le
       have c4:=m5.code hc
       have c3:=m4.code c4
       have c2:=m3.code c3
       have c1:=m2.code c2
       obtain ⟨o1,w1⟩:=ih (.bin 1) σ hs (by simp only [need] at hf ⊢; omega) rfl c1
       have g1:=phi_gt (C:=C) m1.at_ (by have:=wE_ge (E C f (.bin 1) σ).1; simp only [wJ] at w1; omega)
       have p1:=is_phi ha rfl
       have g2:=next_at ha1
       obtain ⟨o2,w2⟩:=ih .expr _ m2.le (by simp only [need] at hf ⊢; omega) rfl c3
       have a3:=m3.at_
       have a4:=m4.at_
       have p4:=phi_mo m4
       obtain ⟨o3,w3⟩:=ih .cond _ m4.le (by simp only [need] at hf ⊢; omega) rfl hc
       refine ⟨ok_0 ⟨by decide,by decide⟩ (okEs3 o1 o2 o3),?_⟩
       rw [wE_0,wEs3,nt_size]
       simp only [wJ] at *
       omega
     · rw [if_neg ha] at hc ⊢
       obtain ⟨o1,w1⟩:=ih (.bin 1) σ hs (by simp only [need] at hf ⊢; omega) rfl hc
       exact ⟨o1,w1⟩
   | bin l =>
     unfold E at hc ⊢
     simp only at hc ⊢
     have hl:1≤l:=of_decide_eq_true hj
     have m1:=mo .unary hs
     have m2:=mo (.binL l (E C f .unary σ).1) m1.le
     have c1:=m2.code hc
     obtain ⟨o1,w1⟩:=ih .unary σ hs (by simp only [need] at hf ⊢; omega) rfl c1
     have g1:=phi_gt (C:=C) m1.at_ (by have:=wE_ge (E C f .unary σ).1; simp only [wJ] at w1; omega)
     obtain ⟨o2,w2⟩:=ih (.binL l (E C f .unary σ).1) _ m1.le (by simp only [need] at hf ⊢; omega) (by simp only [okJ]; rw [o1,decide_eq_true hl]; rfl) hc
     refine ⟨o2,?_⟩
     simp only [wJ] at *
     omega
   | binL l x =>
     simp only [okJ] at hj
     rw [Bool.and_eq_true,decide_eq_true_eq] at hj
     obtain ⟨hl1,hx⟩:=hj
     unfold E at hc ⊢
     by_cases hl:levelM (txt C σ) < l
     · rw [if_pos hl] at hc ⊢
       exact ⟨hx,by simp only [wJ]; omega⟩
     · rw [if_neg hl] at hc ⊢
       simp only at hc ⊢
       have m1:=Mo.next r
       have m2:=mo (.bin (levelM (txt C σ)+1)) m1.le
       have m3:=mo (.binL l (binEx (txt C σ) x (E C f (.bin (levelM (txt C σ)+1)) (nextM C σ)).1)) m2.le
       have c2:=m3.code hc
       have hlt:σ.at_ < C.T.length:=txt_lt (p:=fun t=>decide (levelM t ≠ 0)) (decide_eq_true (by omega)) rfl
       have g1:=next_at hlt
       have p1:=phi_txt hlt
       obtain ⟨o1,w1⟩:=ih (.bin (levelM (txt C σ)+1)) _ m1.le (by simp only [need] at hf ⊢; omega) (decide_eq_true (by omega)) c2
       obtain ⟨b1,b2⟩:=binEx_ok (op:=txt C σ) hx o1
       have a2:=m2.at_
       obtain ⟨o2,w2⟩:=ih (.binL l (binEx (txt C σ) x (E C f (.bin (levelM (txt C σ)+1)) (nextM C σ)).1)) _ m2.le (by simp only [need] at hf ⊢; omega) (by simp only [okJ]; rw [b1,decide_eq_true hl1]; rfl) hc
       refine ⟨o2,?_⟩
       simp only [wJ] at *
       omega
   | unary =>
     unfold E at hc ⊢
     simp only at hc ⊢
     by_cases h1:unOps (txt C σ)=true
     · rw [if_pos h1] at hc ⊢
       have hlt:=txt_lt h1 rfl
       have p1:=phi_txt hlt
       have g1:=next_at hlt
       obtain ⟨o1,w1⟩:=ih .unary _ r.next.le (by simp only [need] at hf ⊢; omega) rfl hc
       refine ⟨ok_0 ⟨by decide,by decide⟩ (okEs1 o1),?_⟩
       rw [wE_0,wEs1,nt_size]
       simp only [wJ] at *
       omega
     rw [if_neg h1] at hc ⊢
     by_cases h2:isM C σ ⟨#[115,105,122,101,111,102]⟩=true
     · rw [if_pos h2] at hc ⊢
       obtain ⟨o1,w1⟩:=size_phi hT hs h2 hc
       exact ⟨o1,by simp only [wJ]; omega⟩
     rw [if_neg h2] at hc ⊢
     by_cases h3:isM C σ ⟨#[40]⟩=true
     · rw [if_pos h3] at hc ⊢
       have hlt:=is_lt h3 rfl
       have p1:=is_phi h3 rfl
       have g1:=next_at hlt
       by_cases h4:typedM C (nextM C σ)=true
       · rw [if_pos h4] at hc ⊢
         simp only at hc ⊢
         have m1:=(Mo.refl r.next.le (C:=C)).typ
         have m2:=(Mo.refl m1.le).want ⟨#[41]⟩
         have m3:=mo .unary m2.le
         have c2:=m3.code hc
         have c1:=m2.code c2
         have t1:=typ_phi hT c1
         have a1:=m1.at_
         have a2:=m2.at_
         have p2:=phi_mo m2
         obtain ⟨o1,w1⟩:=ih .unary _ m2.le (by simp only [need] at hf ⊢; omega) rfl hc
         refine ⟨ok_mk ⟨by decide,by decide⟩ t1.1 ⟨Int.le_refl _,by decide⟩ (okEs1 o1),?_⟩
         rw [show ∀ (t:Ty) (x:Ex),wE (.mk 13 nt nt t 0 false [x])=80+tyW t+wE x from fun t x=>by simp only [wE,wEs,nt_size]; omega]
         have z1:wJ .unary=0:=rfl
         rw [z1] at w1
         have z2:wJ .unary=0:=rfl
         show _≤_+0
         omega
       · rw [if_neg h4] at hc ⊢
         have m1:=mo .expr r.next.le
         have m2:=(Mo.refl m1.le).want ⟨#[41]⟩
         have m3:=mo (.post (E C f .expr (nextM C σ)).1) m2.le
         have c2:=m3.code hc
         have c1:=m2.code c2
         have a1:=m1.at_
         have a2:=m2.at_
         have p2:=phi_mo m2
         obtain ⟨o1,w1⟩:=ih .expr _ r.next.le (by simp only [need] at hf ⊢; omega) rfl c1
         obtain ⟨o2,w2⟩:=ih (.post (E C f .expr (nextM C σ)).1) _ m2.le (by simp only [need] at hf ⊢; omega) o1 hc
         refine ⟨o2,?_⟩
         simp only [wJ] at *
         omega
     rw [if_neg h3] at hc ⊢
     have m1:=Mo.prime r
     have m2:=mo (.post (primeM C σ).1) m1.le
     have c1:=m2.code hc
     obtain ⟨o1,w1⟩:=prime_phi hT hs c1
     have g1:=phi_gt (C:=C) m1.at_ (by have:=wE_ge (primeM C σ).1; omega)
     have l1:=m1.le
     obtain ⟨o2,w2⟩:=ih (.post (primeM C σ).1) _ m1.le (by simp only [need] at hf ⊢; omega) o1 hc
     refine ⟨o2,?_⟩
     simp only [wJ] at *
     omega
   | post x =>
     have hx:okE x=true:=hj
     unfold E at hc ⊢
     by_cases h1:isM C σ ⟨#[91]⟩=true
     · rw [if_pos h1] at hc ⊢
       simp only at hc ⊢
       have hlt:=is_lt h1 rfl
       have p1:=is_phi h1 rfl
       have g1:=next_at hlt
       have m1:=mo .expr r.next.le
       have m2:=(Mo.refl m1.le).want ⟨#[93]⟩
       have m3:=mo (.post (.mk 9 nt nt ty0 0 false [x,(E C f .expr (nextM C σ)).1])) m2.le
       have c2:=m3.code hc
       have c1:=m2.code c2
       have a1:=m1.at_
       have a2:=m2.at_
       have p2:=phi_mo m2
       obtain ⟨o1,w1⟩:=ih .expr _ r.next.le (by simp only [need] at hf ⊢; omega) rfl c1
       have o3:okE (.mk 9 nt nt ty0 0 false [x,(E C f .expr (nextM C σ)).1])=true:=ok_0 ⟨by decide,by decide⟩ (okEs2 hx o1)
       obtain ⟨o2,w2⟩:=ih (.post (.mk 9 nt nt ty0 0 false [x,(E C f .expr (nextM C σ)).1])) _ m2.le (by simp only [need] at hf ⊢; omega) o3 hc
       refine ⟨o2,?_⟩
       simp only [wJ] at *
       rw [wE_0,wEs2,nt_size] at w2
       omega
     rw [if_neg h1] at hc ⊢
     by_cases h2:isM C σ ⟨#[46]⟩=true
     · rw [if_pos h2] at hc ⊢
       simp only at hc ⊢
       have hlt:=is_lt h2 rfl
       have p1:=is_phi h2 rfl
       have g1:=next_at hlt
       have m1:=(Mo.refl r.next.le (C:=C)).name
       have m3:=mo (.post (.mk 10 nt (nameM C (nextM C σ)).1 ty0 0 false [x])) m1.le
       have c1:=m3.code hc
       have p2:=name_phi c1
       have a1:=m1.at_
       obtain ⟨o2,w2⟩:=ih (.post (.mk 10 nt (nameM C (nextM C σ)).1 ty0 0 false [x])) _ m1.le (by simp only [need] at hf ⊢; omega) (ok_1 ⟨by decide,by decide⟩ hx) hc
       refine ⟨o2,?_⟩
       simp only [wJ] at *
       rw [wE_0,wEs1,nt_size] at w2
       omega
     rw [if_neg h2] at hc ⊢
     by_cases h3:isM C σ ⟨#[45,62]⟩=true
     · rw [if_pos h3] at hc ⊢
       simp only at hc ⊢
       have hlt:=is_lt h3 rfl
       have p1:=is_phi h3 rfl
       have g1:=next_at hlt
       have m1:=(Mo.refl r.next.le (C:=C)).name
       have m3:=mo (.post (.mk 11 nt (nameM C (nextM C σ)).1 ty0 0 false [x])) m1.le
       have c1:=m3.code hc
       have p2:=name_phi c1
       have a1:=m1.at_
       obtain ⟨o2,w2⟩:=ih (.post (.mk 11 nt (nameM C (nextM C σ)).1 ty0 0 false [x])) _ m1.le (by simp only [need] at hf ⊢; omega) (ok_1 ⟨by decide,by decide⟩ hx) hc
       refine ⟨o2,?_⟩
       simp only [wJ] at *
       rw [wE_0,wEs1,nt_size] at w2
       omega
     rw [if_neg h3] at hc ⊢
     by_cases h4:isM C σ ⟨#[40]⟩=true
     · rw [if_pos h4] at hc ⊢
       have hlt:=is_lt h4 rfl
       have p1:=is_phi h4 rfl
       have g1:=next_at hlt
       by_cases h5:isM C (nextM C σ) ⟨#[41]⟩=true
       · rw [if_pos h5] at hc ⊢
         have m1:=Mo.next (Mo.refl r.next.le (C:=C))
         have a1:=m1.at_
         have p2:=phi_mo m1
         obtain ⟨o2,w2⟩:=ih (.post (.mk 12 nt nt ty0 0 false [x])) _ m1.le (by simp only [need] at hf ⊢; omega) (ok_1 ⟨by decide,by decide⟩ hx) hc
         refine ⟨o2,?_⟩
         simp only [wJ] at *
         rw [wE_0,wEs1,nt_size] at w2
         omega
       · rw [if_neg h5] at hc ⊢
         simp only at hc ⊢
         have m1:=mo .expr r.next.le
         have m2:=mo (.args (.mk 12 nt nt ty0 0 false [x,(E C f .expr (nextM C σ)).1])) m1.le
         have m3:=(Mo.refl m2.le).want ⟨#[41]⟩
         have m4:=mo (.post (E C f (.args (.mk 12 nt nt ty0 0 false [x,(E C f .expr (nextM C σ)).1])) (E C f .expr (nextM C σ)).2).1) m3.le
         have c3:=m4.code hc
         have c2:=m3.code c3
         have c1:=m2.code c2
         have a1:=m1.at_
         have a2:=m2.at_
         have a3:=m3.at_
         have p3:=phi_mo m3
         obtain ⟨o1,w1⟩:=ih .expr _ r.next.le (by simp only [need] at hf ⊢; omega) rfl c1
         obtain ⟨o2,w2⟩:=ih (.args (.mk 12 nt nt ty0 0 false [x,(E C f .expr (nextM C σ)).1])) _ m1.le (by simp only [need] at hf ⊢; omega) (ok_2 ⟨by decide,by decide⟩ hx o1) c2
         obtain ⟨o3,w3⟩:=ih (.post (E C f (.args (.mk 12 nt nt ty0 0 false [x,(E C f .expr (nextM C σ)).1])) (E C f .expr (nextM C σ)).2).1) _ m3.le (by simp only [need] at hf ⊢; omega) o2 hc
         refine ⟨o3,?_⟩
         simp only [wJ] at *
         rw [wE_0,wEs2,nt_size] at w2
         omega
     rw [if_neg h4] at hc ⊢
     exact ⟨hx,by simp only [wJ]; omega⟩
   | args x =>
     have hx:okE x=true:=hj
     unfold E at hc ⊢
     by_cases h1:isM C σ ⟨#[44]⟩=true
     · rw [if_pos h1] at hc ⊢
       simp only at hc ⊢
       have hlt:=is_lt h1 rfl
       have p1:=is_phi h1 rfl
       have g1:=next_at hlt
       have m1:=mo .expr r.next.le
       have m2:=mo (.args (.mk 12 nt nt ty0 0 false (x.subs++[(E C f .expr (nextM C σ)).1]))) m1.le
       have c1:=m2.code hc
       have a1:=m1.at_
       obtain ⟨o1,w1⟩:=ih .expr _ r.next.le (by simp only [need] at hf ⊢; omega) rfl c1
       have o3:okEs (x.subs++[(E C f .expr (nextM C σ)).1])=true:=by rw [okEs_app,okE_subs hx,okEs1 o1]; rfl
       obtain ⟨o2,w2⟩:=ih (.args (.mk 12 nt nt ty0 0 false (x.subs++[(E C f .expr (nextM C σ)).1]))) _ m1.le (by simp only [need] at hf ⊢; omega) (ok_n ⟨by decide,by decide⟩ o3) hc
       refine ⟨o2,?_⟩
       have hsub:=wE_subs x
       simp only [wJ] at *
       rw [wE_0,wEs_app,wEs1,nt_size] at w2
       omega
     · rw [if_neg h1] at hc ⊢
       exact ⟨hx,by simp only [wJ]; omega⟩
theorem exprM_ok (hT:Tks C) {σ:St} (hs:σ.at_≤C.T.length) (hc:(exprM C σ).2.code=0):okE (exprM C σ).1=true∧wE (exprM C σ).1+phi C (exprM C σ).2≤phi C σ:=by
 have h:=E_ok hT (fuel C σ) .expr σ hs (by simp only [need,fuel]; omega) rfl hc
 exact ⟨h.1,by have:=h.2; simp only [wJ,Nat.add_zero] at this; exact this⟩
theorem condM_ok (hT:Tks C) {σ:St} (hs:σ.at_≤C.T.length) (hc:(condM C σ).2.code=0):okE (condM C σ).1=true∧wE (condM C σ).1+phi C (condM C σ).2≤phi C σ:=by
 have h:=E_ok hT (fuel C σ) .cond σ hs (by simp only [need,fuel]; omega) rfl hc
 exact ⟨h.1,by have:=h.2; simp only [wJ,Nat.add_zero] at this; exact this⟩
end Go.Proofs.YtflbkdfbjofllaaGreatDoor.Sy
namespace Go.Proofs.YtflbkdfbjofllaaGreatDoor.Sy
open Go.RowKit Lx
variable {C:Cx}
def wV (v:Vr):Nat:=v.name.size+tyW v.ty
def wO:Option Ex→Nat
 | none=>0
 | some e=>wE e
mutual
def wS:Sm→Nat
 | .mk kind v name minus num e0 e1 e2 body=>100+wV v+name.size+wO e0+wO e1+wO e2+wSs body
def wSs:List Sm→Nat
 | []=>0
 | e :: t=>wS e+wSs t
end
theorem wSs_app (a b:List Sm):wSs (a++b)=wSs a+wSs b:=by
 induction a with
 | nil=>simp only [List.nil_append,wSs,Nat.zero_add]
 | cons e t ih=>simp only [List.cons_append,wSs,ih,Nat.add_assoc]
theorem okSs_app (a b:List Sm):okSs (a++b)=(okSs a && okSs b):=by
 induction a with
 | nil=>simp only [List.nil_append,okSs,Bool.true_and]
 | cons e t ih=>simp only [List.cons_append,okSs,ih,Bool.and_assoc]
theorem wSs1 (a:Sm):wSs [a]=wS a:=by simp only [wSs]; rfl
theorem wSs2 (a b:Sm):wSs [a,b]=wS a+wS b:=by simp only [wSs]; rfl
theorem okSs1 {a:Sm} (h:okS a=true):okSs [a]=true:=by simp only [okSs,h]; rfl
theorem okSs2 {a b:Sm} (h:okS a=true) (g:okS b=true):okSs [a,b]=true:=by simp only [okSs,h,g]; rfl
theorem vr0_w:wV vr0=0:=rfl
theorem okS_mk {kind:Int} {v:Vr} {name:ByteArray} {minus:Bool} {num:Int} {e0 e1 e2:Option Ex} {body:List Sm} (hk:1≤kind∧kind≤16) (hv:0≤v.ty.stars∧v.ty.stars≤1000000) (hv2:0≤v.num∧v.num≤18446744073709551615) (hn:0≤num∧num≤18446744073709551615)
    (h0:okO e0=true) (h1:okO e1=true) (h2:okO e2=true) (hb:okSs body=true):okS (.mk kind v name minus num e0 e1 e2 body)=true:=by
 simp only [okS,okN]
 rw [h0,h1,h2,hb,decide_eq_true hk,decide_eq_true ⟨hv.1,hv.2,hv2.1,hv2.2⟩,decide_eq_true ⟨Int.le_refl _,(by decide:(0:Int)≤1000000),hn.1,hn.2⟩]
 rfl
theorem okS_0 {kind:Int} {name:ByteArray} {minus:Bool} {e0 e1 e2:Option Ex} {body:List Sm} (hk:1≤kind∧kind≤16) (h0:okO e0=true) (h1:okO e1=true) (h2:okO e2=true) (hb:okSs body=true):okS (.mk kind vr0 name minus 0 e0 e1 e2 body)=true :=
 okS_mk hk ⟨Int.le_refl _,by show (0:Int)≤_; decide⟩ ⟨Int.le_refl _,by show (0:Int)≤_; decide⟩ ⟨Int.le_refl _,by decide⟩ h0 h1 h2 hb
theorem wS_0 (kind:Int) (name:ByteArray) (minus:Bool) (num:Int) (e0 e1 e2:Option Ex) (body:List Sm):wS (.mk kind vr0 name minus num e0 e1 e2 body)=100+name.size+wO e0+wO e1+wO e2+wSs body:=by simp only [wS,vr0_w,Nat.add_zero]
theorem asked_ok (hT:Tks C) {σ:St} (hs:σ.at_≤C.T.length) (hc:(askedM C σ).2.code=0):okE (askedM C σ).1=true∧wE (askedM C σ).1+phi C (askedM C σ).2≤phi C σ:=by
 unfold askedM at hc ⊢
 simp only at hc ⊢
 have m1:=(Mo.refl hs (C:=C)).want ⟨#[40]⟩
 have m2:=exprM_mo (Mo.refl m1.le)
 have m3:=(Mo.refl m2.le).want ⟨#[41]⟩
 obtain ⟨o1,w1⟩:=exprM_ok hT m1.le (m3.code hc)
 have p1:=phi_mo m1
 have p3:=phi_mo m3
 exact ⟨o1,by omega⟩
theorem part_ok (hT:Tks C) {σ:St} (t:ByteArray) (hs:σ.at_≤C.T.length) (hc:(partM C σ t).2.code=0):okO (partM C σ t).1=true∧wO (partM C σ t).1+phi C (partM C σ t).2≤phi C σ:=by
 unfold partM at hc ⊢
 simp only at hc ⊢
 by_cases h:isM C σ t=true
 · rw [if_pos h] at hc ⊢
   exact ⟨rfl,by have:=phi_mo ((Mo.refl hs (C:=C)).want t); simp only [wO]; omega⟩
 · rw [if_neg h] at hc ⊢
   have m2:=exprM_mo (Mo.refl hs (C:=C))
   have m3:=(Mo.refl m2.le).want t
   obtain ⟨o1,w1⟩:=exprM_ok hT hs (m3.code hc)
   have p3:=phi_mo m3
   exact ⟨o1,by simp only [wO]; omega⟩
theorem let_ok (hT:Tks C) {σ:St} (hs:σ.at_≤C.T.length) (hc:(letM C σ).2.code=0):okS (letM C σ).1=true∧wS (letM C σ).1+phi C (letM C σ).2≤phi C σ:=by
 unfold letM at hc ⊢
 simp only at hc ⊢
 have m1:=(Mo.refl hs (C:=C)).typ
 have m2:=(Mo.refl m1.le).name
 have m3:=(Mo.refl m2.le).number
 have n3:=number_phi hT m2.le
 by_cases h:isM C (numberM C (nameM C (typM C σ).2).2).2.2 ⟨#[61]⟩=true
 · rw [if_pos h] at hc ⊢
   simp only at hc ⊢
   have m4:=(Mo.refl m3.le).next
   have m5:=exprM_mo (Mo.refl m4.le)
   have m6:=(Mo.refl m5.le).want ⟨#[59]⟩
   have c5:=m6.code hc
   have c3:=m4.code (m5.code c5)
   have c2:=m3.code c3
   have c1:=m2.code c2
   have t1:=typ_phi hT c1
   have t2:=name_phi c2
   obtain ⟨o1,w1⟩:=exprM_ok hT m4.le c5
   have p4:=phi_mo m4
   have p6:=phi_mo m6
   refine ⟨okS_mk ⟨by decide,by decide⟩ t1.1 n3.1 ⟨Int.le_refl _,by decide⟩ o1 rfl rfl rfl,?_⟩
   simp only [wS,wV,wSs,wO,nt_size]
   omega
 · rw [if_neg h] at hc ⊢
   simp only at hc ⊢
   have m6:=(Mo.refl m3.le).want ⟨#[59]⟩
   have c3:=m6.code hc
   have c2:=m3.code c3
   have c1:=m2.code c2
   have t1:=typ_phi hT c1
   have t2:=name_phi c2
   have p6:=phi_mo m6
   refine ⟨okS_mk ⟨by decide,by decide⟩ t1.1 n3.1 ⟨Int.le_refl _,by decide⟩ rfl rfl rfl rfl,?_⟩
   simp only [wS,wV,wSs,wO,nt_size]
   omega
theorem labelled_ok (hT:Tks C) {σ:St} (hl:σ.at_ < C.T.length) (hc:(labelledM C σ).2.code=0):okS (labelledM C σ).1=true∧wS (labelledM C σ).1+phi C (labelledM C σ).2≤phi C σ:=by
 have m:=Mo.labelled (Mo.refl (Mo.next (Mo.refl (Nat.le_of_lt hl) (C:=C))).le)
 have p0:=phi_txt hl
 have hm:Mo C (nextM C σ) (labelledM C σ).2:=by
  have r:=Mo.refl (Mo.next (Mo.refl (Nat.le_of_lt hl) (C:=C))).le
  unfold labelledM
  simp only
  split
  · exact (((r.go _).numberType _).next).want _
  split
  · exact ((r.go _).next).want _
  · exact ((r.go _).lost.next).want _
 have p1:=phi_mo hm
 unfold labelledM
 simp only
 refine ⟨okS_mk ⟨by decide,by decide⟩ ⟨Int.le_refl _,by show (0:Int)≤_; decide⟩ ⟨Int.le_refl _,by show (0:Int)≤_; decide⟩ (peek_ok hT _) rfl rfl rfl rfl,?_⟩
 rw [wS_0]
 unfold labelledM at p1
 simp only at p1
 simp only [wSs,wO,nt_size]
 omega
def needS:Sj→Nat
 | .stmt=>6
 | .block=>5
 | _=>7
def okSj:Sj→Bool
 | .blockL acc=>okSs acc
 | .choiceL e acc=>okO e && okSs acc
 | _=>true
def wSj:Sj→Nat
 | .blockL acc=>100+wSs acc
 | .choiceL e acc=>100+wO e+wSs acc
 | _=>0
def SOk (C:Cx) (f:Nat) (j:Sj) (σ:St):Prop :=
 σ.at_≤C.T.length→10 * (C.T.length - σ.at_)+needS j≤f→okSj j=true→(S C f j σ).2.code=0→okS (S C f j σ).1=true∧wS (S C f j σ).1+phi C (S C f j σ).2≤phi C σ+wSj j
theorem wS_ge (e:Sm):100≤wS e:=by cases e; simp only [wS]; omega
theorem ite_sok {P:Sm × St→Prop} {c:Prop} [Decidable c] {a b:Sm × St} (hc:(if c then a else b).2.code=0) (h1:c→a.2.code=0→P a) (h2:¬ c→b.2.code=0→P b):P (if c then a else b):=by
 by_cases h:c
 · rw [if_pos h] at hc ⊢; exact h1 h hc
 · rw [if_neg h] at hc ⊢; exact h2 h hc
theorem S_ok (hT:Tks C):∀ (f:Nat) (j:Sj) (σ:St),SOk C f j σ
 | 0,j,σ=>fun _ hf=>absurd hf (by cases j <;> simp only [needS] <;> omega)
 | f+1,j,σ=>fun hs hf hj hc=>by
   have r:=Mo.refl hs (C:=C)
   have ih:∀ (j:Sj) (τ:St),SOk C f j τ:=fun j τ=>S_ok hT f j τ
   have mo:∀ {τ:St} (j:Sj),τ.at_≤C.T.length→Mo C τ (S C f j τ).2:=fun j k=>S_mo f j _ k
   cases j with
   | block =>
     unfold S at hc ⊢
     have m1:=r.want ⟨#[123]⟩
     have m2:=mo (.blockL []) m1.le
     have c1:=m2.code hc
     have p1:=want_phi c1 rfl
     have g1:=phi_gt (C:=C) m1.at_ (by omega)
     have l1:=m1.le
     obtain ⟨o1,w1⟩:=ih (.blockL []) _ m1.le (by simp only [needS] at hf ⊢; omega) rfl hc
     refine ⟨o1,?_⟩
     simp only [wSj,wSs] at *
     omega
   | blockL acc =>
     have ha:okSs acc=true:=hj
     unfold S at hc ⊢
     by_cases h1:isM C σ ⟨#[125]⟩=true
     · rw [if_pos h1] at hc ⊢
       have p1:=phi_mo r.next
       exact ⟨okS_0 ⟨by decide,by decide⟩ rfl rfl rfl ha,by rw [wS_0]; simp only [wSj,wO,nt_size]; omega⟩
     rw [if_neg h1] at hc ⊢
     by_cases h2:σ.at_=C.T.length
     · rw [if_pos h2] at hc; exact absurd hc lost_code
     rw [if_neg h2] at hc ⊢
     simp only at hc ⊢
     have m1:=mo .stmt hs
     have m2:=mo (.blockL (acc++[(S C f .stmt σ).1])) m1.le
     have c1:=m2.code hc
     obtain ⟨o1,w1⟩:=ih .stmt σ hs (by simp only [needS] at hf ⊢; omega) rfl c1
     have g1:=phi_gt (C:=C) m1.at_ (by have:=wS_ge (S C f .stmt σ).1; simp only [wSj] at w1; omega)
     obtain ⟨o2,w2⟩:=ih (.blockL (acc++[(S C f .stmt σ).1])) _ m1.le (by simp only [needS] at hf ⊢; omega) (by simp only [okSj]; rw [okSs_app,ha,okSs1 o1]; rfl) hc
     refine ⟨o2,?_⟩
     simp only [wSj] at *
     rw [wSs_app,wSs1] at w2
     omega
   | choiceL e acc =>
     simp only [okSj] at hj
     rw [Bool.and_eq_true] at hj
     obtain ⟨he,ha⟩:=hj
     unfold S at hc ⊢
     by_cases h1:isM C σ ⟨#[125]⟩=true
     · rw [if_pos h1] at hc ⊢
       have p1:=phi_mo r.next
       exact ⟨okS_0 ⟨by decide,by decide⟩ he rfl rfl ha,by rw [wS_0]; simp only [wSj,wO,nt_size]; omega⟩
     rw [if_neg h1] at hc ⊢
     by_cases h2:σ.at_=C.T.length
     · rw [if_pos h2] at hc; exact absurd hc lost_code
     rw [if_neg h2] at hc ⊢
     by_cases h3:isM C σ ⟨#[99,97,115,101]⟩=true
     · rw [if_pos h3] at hc ⊢
       simp only at hc ⊢
       have m1:=r.labelled
       have m2:=mo (.choiceL e (acc++[(labelledM C σ).1])) m1.le
       have c1:=m2.code hc
       obtain ⟨o1,w1⟩:=labelled_ok hT (is_lt h3 rfl) c1
       have g1:=phi_gt (C:=C) m1.at_ (by have:=wS_ge (labelledM C σ).1; omega)
       obtain ⟨o2,w2⟩:=ih (.choiceL e (acc++[(labelledM C σ).1])) _ m1.le (by simp only [needS] at hf ⊢; omega) (by simp only [okSj]; rw [okSs_app,he,ha,okSs1 o1]; rfl) hc
       refine ⟨o2,?_⟩
       simp only [wSj] at *
       rw [wSs_app,wSs1] at w2
       omega
     rw [if_neg h3] at hc ⊢
     by_cases h4:isM C σ ⟨#[100,101,102,97,117,108,116]⟩=true
     · rw [if_pos h4] at hc ⊢
       have p1:=is_phi h4 rfl
       have g1:=next_at (is_lt h4 rfl)
       have m1:=(Mo.refl r.next.le (C:=C)).want ⟨#[58]⟩
       have p2:=phi_mo m1
       have a1:=m1.at_
       have o1:okS (.mk 10 vr0 nt false 0 none none none [])=true:=okS_0 ⟨by decide,by decide⟩ rfl rfl rfl rfl
       have e1:wS (.mk 10 vr0 nt false 0 none none none [])=100:=rfl
       have hlt:=is_lt h4 rfl
       obtain ⟨o2,w2⟩:=ih (.choiceL e (acc++[.mk 10 vr0 nt false 0 none none none []])) _ m1.le (by simp only [needS] at hf ⊢; omega) (by simp only [okSj]; rw [okSs_app,he,ha,okSs1 o1]; rfl) hc
       refine ⟨o2,?_⟩
       simp only [wSj] at *
       rw [wSs_app,wSs1,e1] at w2
       omega
     rw [if_neg h4] at hc ⊢
     simp only at hc ⊢
     have m1:=mo .stmt hs
     have m2:=mo (.choiceL e (acc++[(S C f .stmt σ).1])) m1.le
     have c1:=m2.code hc
     obtain ⟨o1,w1⟩:=ih .stmt σ hs (by simp only [needS] at hf ⊢; omega) rfl c1
     have g1:=phi_gt (C:=C) m1.at_ (by have:=wS_ge (S C f .stmt σ).1; simp only [wSj] at w1; omega)
     obtain ⟨o2,w2⟩:=ih (.choiceL e (acc++[(S C f .stmt σ).1])) _ m1.le (by simp only [needS] at hf ⊢; omega) (by simp only [okSj]; rw [okSs_app,he,ha,okSs1 o1]; rfl) hc
     refine ⟨o2,?_⟩
     simp only [wSj] at *
     rw [wSs_app,wSs1] at w2
     omega
   | stmt =>
     unfold S at hc ⊢
     simp only at hc ⊢
     have W0:wSj .stmt=0:=rfl
     rw [W0,Nat.add_zero]
     simp only [needS] at hf
     refine ite_sok (P:=fun x=>okS x.1=true∧wS x.1+phi C x.2≤phi C σ) hc (fun h hc=>?_) (fun _ hc=>?_)
     · obtain ⟨o1,w1⟩:=ih .block σ hs (by simp only [needS]; omega) rfl hc
       exact ⟨o1,by simp only [wSj] at w1; omega⟩
     refine ite_sok (P:=fun x=>okS x.1=true∧wS x.1+phi C x.2≤phi C σ) hc (fun h hc=>?_) (fun _ hc=>?_)
     · have p1:=is_phi h rfl
       exact ⟨okS_0 ⟨by decide,by decide⟩ rfl rfl rfl rfl,by rw [wS_0]; simp only [wSs,wO,nt_size]; omega⟩
     refine ite_sok (P:=fun x=>okS x.1=true∧wS x.1+phi C x.2≤phi C σ) hc (fun h hc=>let_ok hT hs hc) (fun _ hc=>?_)
     refine ite_sok (P:=fun x=>okS x.1=true∧wS x.1+phi C x.2≤phi C σ) hc (fun h hc=>?_) (fun _ hc=>?_)
     · have hlt:=peek_kind (C:=C) (σ:=σ) (by rw [h.1]; decide)
       have p1:=phi_txt hlt
       have g1:=next_at hlt
       have m1:=Mo.next (Mo.refl r.next.le (C:=C))
       have a1:=m1.at_
       have p2:=phi_mo m1
       obtain ⟨o1,w1⟩:=ih .stmt _ m1.le (by simp only [needS]; omega) rfl hc
       refine ⟨okS_0 ⟨by decide,by decide⟩ rfl rfl rfl (okSs1 o1),?_⟩
       simp only
       rw [wS_0,wSs1]
       simp only [wSj] at w1
       simp only [wO]
       omega
     refine ite_sok (P:=fun x=>okS x.1=true∧wS x.1+phi C x.2≤phi C σ) hc (fun h hc=>?_) (fun _ hc=>?_)
     · have hlt:=peek_kind (C:=C) (σ:=σ) (by rw [h.1]; decide)
       have p1:=phi_txt hlt
       have g1:=next_at hlt
       have n1:=r.next.le
       refine ite_sok (P:=fun x=>okS x.1=true∧wS x.1+phi C x.2≤phi C σ) hc (fun h hc=>?_) (fun _ hc=>?_)
       · -- if
         have m1:=(Mo.refl n1).asked
         have m2:=mo .stmt m1.le
         have a1:=m1.at_
         have a2:=m2.at_
         refine ite_sok (P:=fun x=>okS x.1=true∧wS x.1+phi C x.2≤phi C σ) hc (fun h hc=>?_) (fun _ hc=>?_)
         · have hlt2:=is_lt h rfl
           have p3:=is_phi h rfl
           have g3:=next_at hlt2
           have m3:=Mo.next (Mo.refl m2.le)
           have m4:=mo .stmt m3.le
           have c3:=m4.code hc
           have c2:=m3.code c3
           have c1:=m2.code c2
           obtain ⟨o1,w1⟩:=asked_ok hT n1 c1
           obtain ⟨o2,w2⟩:=ih .stmt _ m1.le (by simp only [needS]; omega) rfl c2
           obtain ⟨o3,w3⟩:=ih .stmt _ m3.le (by simp only [needS]; omega) rfl hc
           refine ⟨okS_0 ⟨by decide,by decide⟩ o1 rfl rfl (okSs2 o2 o3),?_⟩
           simp only
           rw [wS_0,wSs2]
           simp only [wSj] at *
           simp only [wO,nt_size]
           omega
         · have c1:=m2.code hc
           obtain ⟨o1,w1⟩:=asked_ok hT n1 c1
           obtain ⟨o2,w2⟩:=ih .stmt _ m1.le (by simp only [needS]; omega) rfl hc
           refine ⟨okS_0 ⟨by decide,by decide⟩ o1 rfl rfl (okSs1 o2),?_⟩
           simp only
           rw [wS_0,wSs1]
           simp only [wSj] at *
           simp only [wO,nt_size]
           omega
       refine ite_sok (P:=fun x=>okS x.1=true∧wS x.1+phi C x.2≤phi C σ) hc (fun h hc=>?_) (fun _ hc=>?_)
       · have m1:=(Mo.refl n1).asked
         have m2:=mo .stmt m1.le
         have a1:=m1.at_
         have c1:=m2.code hc
         obtain ⟨o1,w1⟩:=asked_ok hT n1 c1
         obtain ⟨o2,w2⟩:=ih .stmt _ m1.le (by simp only [needS]; omega) rfl hc
         refine ⟨okS_0 ⟨by decide,by decide⟩ o1 rfl rfl (okSs1 o2),?_⟩
         simp only
         rw [wS_0,wSs1]
         simp only [wSj] at *
         simp only [wO,nt_size]
         omega
       refine ite_sok (P:=fun x=>okS x.1=true∧wS x.1+phi C x.2≤phi C σ) hc (fun h hc=>?_) (fun _ hc=>?_)
       · have m1:=mo .stmt n1
         have m2:=(Mo.refl m1.le).want ⟨#[119,104,105,108,101]⟩
         have m3:=(Mo.refl m2.le).asked
         have m4:=(Mo.refl m3.le).want ⟨#[59]⟩
         have c3:=m4.code hc
         have c2:=m3.code c3
         have c1:=m2.code c2
         obtain ⟨o2,w2⟩:=ih .stmt _ n1 (by simp only [needS]; omega) rfl c1
         obtain ⟨o1,w1⟩:=asked_ok hT m2.le c3
         have p2:=phi_mo m2
         have p4:=phi_mo m4
         refine ⟨okS_0 ⟨by decide,by decide⟩ o1 rfl rfl (okSs1 o2),?_⟩
         simp only
         rw [wS_0,wSs1]
         simp only [wSj] at *
         simp only [wO,nt_size]
         omega
       refine ite_sok (P:=fun x=>okS x.1=true∧wS x.1+phi C x.2≤phi C σ) hc (fun h hc=>?_) (fun _ hc=>?_)
       · have m0:=(Mo.refl n1).want ⟨#[40]⟩
         have m1:=(Mo.refl m0.le).part ⟨#[59]⟩
         have m2:=(Mo.refl m1.le).part ⟨#[59]⟩
         have m3:=(Mo.refl m2.le).part ⟨#[41]⟩
         have m4:=mo .stmt m3.le
         have c3:=m4.code hc
         have c2:=m3.code c3
         have c1:=m2.code c2
         obtain ⟨o1,w1⟩:=part_ok hT _ m0.le c1
         obtain ⟨o2,w2⟩:=part_ok hT _ m1.le c2
         obtain ⟨o3,w3⟩:=part_ok hT _ m2.le c3
         have a0:=m0.at_
         have a1:=m1.at_
         have a2:=m2.at_
         have a3:=m3.at_
         have p0:=phi_mo m0
         obtain ⟨o4,w4⟩:=ih .stmt _ m3.le (by simp only [needS]; omega) rfl hc
         refine ⟨okS_0 ⟨by decide,by decide⟩ o1 o2 o3 (okSs1 o4),?_⟩
         simp only
         rw [wS_0,wSs1]
         simp only [wSj] at *
         simp only [nt_size] at *
         omega
       refine ite_sok (P:=fun x=>okS x.1=true∧wS x.1+phi C x.2≤phi C σ) hc (fun h hc=>?_) (fun _ hc=>?_)
       · have m1:=(Mo.refl n1).asked
         have m2:=(Mo.refl m1.le).want ⟨#[123]⟩
         have m3:=mo (.choiceL (some (askedM C (nextM C σ)).1) []) m2.le
         have c2:=m3.code hc
         have c1:=m2.code c2
         have a1:=m1.at_
         have a2:=m2.at_
         have p2:=phi_mo m2
         obtain ⟨o1,w1⟩:=asked_ok hT n1 c1
         obtain ⟨o2,w2⟩:=ih (.choiceL (some (askedM C (nextM C σ)).1) []) _ m2.le (by simp only [needS]; omega) (by simp only [okSj,okO,okSs,o1]; rfl) hc
         refine ⟨o2,?_⟩
         simp only [wSj,wSs,wO] at w2
         omega
       refine ite_sok (P:=fun x=>okS x.1=true∧wS x.1+phi C x.2≤phi C σ) hc (fun h hc=>?_) (fun _ hc=>?_)
       · have p2:=phi_mo ((Mo.refl n1).want ⟨#[59]⟩)
         exact ⟨okS_0 ⟨by decide,by decide⟩ rfl rfl rfl rfl,by rw [wS_0]; simp only [wSs,wO,nt_size]; omega⟩
       refine ite_sok (P:=fun x=>okS x.1=true∧wS x.1+phi C x.2≤phi C σ) hc (fun h hc=>?_) (fun _ hc=>?_)
       · have p2:=phi_mo ((Mo.refl n1).want ⟨#[59]⟩)
         exact ⟨okS_0 ⟨by decide,by decide⟩ rfl rfl rfl rfl,by rw [wS_0]; simp only [wSs,wO,nt_size]; omega⟩
       refine ite_sok (P:=fun x=>okS x.1=true∧wS x.1+phi C x.2≤phi C σ) hc (fun h hc=>?_) (fun _ hc=>?_)
       · obtain ⟨o1,w1⟩:=part_ok hT _ n1 hc
         refine ⟨okS_0 ⟨by decide,by decide⟩ o1 rfl rfl rfl,?_⟩
         simp only
         rw [wS_0,nt_size]
         have e1:wSs []=0:=by simp only [wSs]
         have e0:wO none=0:=rfl
         omega
       refine ite_sok (P:=fun x=>okS x.1=true∧wS x.1+phi C x.2≤phi C σ) hc (fun h hc=>?_) (fun _ hc=>absurd hc lost_code)
       · have m1:=(Mo.refl n1).name
         have m2:=(Mo.refl m1.le).want ⟨#[59]⟩
         have c1:=m2.code hc
         have p2:=name_phi c1
         have p3:=phi_mo m2
         refine ⟨okS_0 ⟨by decide,by decide⟩ rfl rfl rfl rfl,?_⟩
         simp only
         rw [wS_0]
         simp only [wSs,wO]
         omega
     · have m1:=exprM_mo r
       have m2:=(Mo.refl m1.le).want ⟨#[59]⟩
       have c1:=m2.code hc
       obtain ⟨o1,w1⟩:=exprM_ok hT hs c1
       have p2:=want_phi hc rfl
       refine ⟨okS_0 ⟨by decide,by decide⟩ o1 rfl rfl rfl,?_⟩
       simp only
       rw [wS_0]
       simp only [wSs,wO,nt_size] at *
       omega
theorem blockM_ok (hT:Tks C) {σ:St} (hs:σ.at_≤C.T.length) (hc:(blockM C σ).2.code=0):okS (blockM C σ).1=true∧wS (blockM C σ).1+phi C (blockM C σ).2≤phi C σ:=by
 have h:=S_ok hT (10 * (C.T.length - σ.at_)+8) .block σ hs (by simp only [needS]; omega) rfl hc
 exact ⟨h.1,by have:=h.2; simp only [wSj,Nat.add_zero] at this; exact this⟩
end Go.Proofs.YtflbkdfbjofllaaGreatDoor.Sy
namespace Go.Proofs.YtflbkdfbjofllaaGreatDoor.Sy
open Go.RowKit Lx
variable {C:Cx}
def okT (t:Ty):Prop:=0≤t.stars∧t.stars≤1000000
def okV (v:Vr):Prop:=okT v.ty∧0≤v.num∧v.num≤18446744073709551615
def wVs:List Vr→Nat
 | []=>0
 | v :: l=>60+wV v+wVs l
def wTs:List Ty→Nat
 | []=>0
 | v :: l=>10+tyW v+wTs l
theorem wVs_app (a b:List Vr):wVs (a++b)=wVs a+wVs b:=by
 induction a with
 | nil=>show wVs b=0+_; omega
 | cons e t ih=>show 60+wV e+wVs (t++b)=60+wV e+wVs t+_; rw [ih]; omega
theorem wTs_app (a b:List Ty):wTs (a++b)=wTs a+wTs b:=by
 induction a with
 | nil=>show wTs b=0+_; omega
 | cons e t ih=>show 10+tyW e+wTs (t++b)=10+tyW e+wTs t+_; rw [ih]; omega
def wB:Option Sm→Nat
 | none=>0
 | some b=>wS b
def wI (i:It):Nat:=200+wV i.v+wVs i.vars+wTs i.types+wB i.body+wO i.init+wEs i.list
theorem okI_mk {i:It} (k:Int) (hke:i.kind=k) (hk:1≤k∧k≤5) (hb:i.v.ty.base.size≤1000000) (hv:okV i.v) (hvs:∀ v∈i.vars,okV v) (hts:∀ t∈i.types,okT t) (h0:okO i.init=true) (hl:okEs i.list=true) (hbo:∀ b,i.body=some b→okS b=true) (hb4:i.body=none→k ≠ 4):okI i=true:=by
 subst hke
 unfold okI okN
 rw [decide_eq_true hk,decide_eq_true hb,h0,hl,decide_eq_true ⟨hv.1.1,hv.1.2,hv.2.1,hv.2.2⟩]
 have e1:i.vars.all (fun v=>decide (0≤v.ty.stars∧v.ty.stars≤1000000∧0≤v.num∧v.num≤18446744073709551615))=true:=by
  rw [List.all_eq_true]
  intro v h
  have:=hvs v h
  exact decide_eq_true ⟨this.1.1,this.1.2,this.2.1,this.2.2⟩
 have e2:i.types.all (fun t=>decide (0≤t.stars∧t.stars≤1000000∧(0:Int)≤0∧(0:Int)≤18446744073709551615))=true:=by
  rw [List.all_eq_true]
  intro t h
  have:=hts t h
  exact decide_eq_true ⟨this.1,this.2,Int.le_refl _,by decide⟩
 rw [e1,e2]
 cases hi:i.body with
 | some b=>simp only [Bool.true_and]; exact hbo b hi
 | none=>simp only [Bool.true_and]; exact decide_eq_true (hb4 hi)
theorem param_ok (hT:Tks C) {σ:St} (hs:σ.at_≤C.T.length) (hc:(paramM C σ).2.code=0):okV (paramM C σ).1∧60+wV (paramM C σ).1+phi C (paramM C σ).2≤phi C σ:=by
 unfold paramM at hc ⊢
 simp only at hc ⊢
 have m1:=(Mo.refl hs (C:=C)).typ
 have m2:=(Mo.refl m1.le).name
 have c1:=m2.code hc
 have t1:=typ_phi hT c1
 have t2:=name_phi hc
 refine ⟨⟨t1.1,Int.le_refl _,by show (0:Int)≤_; decide⟩,?_⟩
 unfold wV
 simp only
 omega
theorem params_mo:∀ (f:Nat) (σ:St) (acc:List Vr),σ.at_≤C.T.length→Mo C σ (paramsM C f σ acc).2
 | 0,σ,acc,hs=>by unfold paramsM; exact Mo.refl hs
 | f+1,σ,acc,hs=>by
   unfold paramsM
   split
   · have m:=(Mo.refl hs (C:=C)).next.param
     exact m.trans (params_mo f _ _ m.le)
   · exact Mo.refl hs
theorem params_ok (hT:Tks C):∀ (f:Nat) (σ:St) (acc:List Vr),σ.at_≤C.T.length→(∀ v∈acc,okV v)→(paramsM C f σ acc).2.code=0→(∀ v∈(paramsM C f σ acc).1,okV v)∧wVs (paramsM C f σ acc).1+phi C (paramsM C f σ acc).2≤phi C σ+wVs acc
 | 0,σ,acc,hs,ha,hc=>by unfold paramsM; exact ⟨ha,by simp only; omega⟩
 | f+1,σ,acc,hs,ha,hc=>by
   unfold paramsM at hc ⊢
   by_cases h:isM C σ ⟨#[44]⟩=true
   · rw [if_pos h] at hc ⊢
     simp only at hc ⊢
     have m0:=(Mo.refl hs (C:=C)).next
     have m1:=(Mo.refl m0.le).param
     have c1:=(params_mo f _ _ m1.le).code hc
     obtain ⟨o1,w1⟩:=param_ok hT m0.le c1
     have p0:=phi_mo m0
     obtain ⟨o2,w2⟩:=params_ok hT f _ (acc++[(paramM C (nextM C σ)).1]) m1.le (fun v hv=>by
      rcases List.mem_append.1 hv with hv | hv
      · exact ha v hv
      · rw [List.mem_singleton] at hv; rw [hv]; exact o1) hc
     refine ⟨o2,?_⟩
     rw [wVs_app] at w2
     have e:wVs [(paramM C (nextM C σ)).1]=60+wV (paramM C (nextM C σ)).1:=rfl
     omega
   · rw [if_neg h] at hc ⊢; exact ⟨ha,by simp only; omega⟩
theorem types_mo:∀ (f:Nat) (σ:St) (acc:List Ty),σ.at_≤C.T.length→Mo C σ (typesM C f σ acc).2
 | 0,σ,acc,hs=>by unfold typesM; exact Mo.refl hs
 | f+1,σ,acc,hs=>by
   unfold typesM
   split
   · have m:=(Mo.refl hs (C:=C)).next.typ
     exact m.trans (types_mo f _ _ m.le)
   · exact Mo.refl hs
theorem types_ok (hT:Tks C):∀ (f:Nat) (σ:St) (acc:List Ty),σ.at_≤C.T.length→(∀ v∈acc,okT v)→(typesM C f σ acc).2.code=0→(∀ v∈(typesM C f σ acc).1,okT v)∧wTs (typesM C f σ acc).1+phi C (typesM C f σ acc).2≤phi C σ+wTs acc
 | 0,σ,acc,hs,ha,hc=>by unfold typesM; exact ⟨ha,by simp only; omega⟩
 | f+1,σ,acc,hs,ha,hc=>by
   unfold typesM at hc ⊢
   by_cases h:isM C σ ⟨#[44]⟩=true
   · rw [if_pos h] at hc ⊢
     simp only at hc ⊢
     have m0:=(Mo.refl hs (C:=C)).next
     have m1:=(Mo.refl m0.le).typ
     have c1:=(types_mo f _ _ m1.le).code hc
     have t1:=typ_phi hT c1
     have p0:=phi_mo m0
     obtain ⟨o2,w2⟩:=types_ok hT f _ (acc++[(typM C (nextM C σ)).1]) m1.le (fun v hv=>by
      rcases List.mem_append.1 hv with hv | hv
      · exact ha v hv
      · rw [List.mem_singleton] at hv; rw [hv]; exact t1.1) hc
     refine ⟨o2,?_⟩
     rw [wTs_app] at w2
     have e:wTs [(typM C (nextM C σ)).1]=10+tyW (typM C (nextM C σ)).1:=rfl
     omega
   · rw [if_neg h] at hc ⊢; exact ⟨ha,by simp only; omega⟩
theorem conds_mo:∀ (f:Nat) (σ:St) (acc:List Ex),σ.at_≤C.T.length→Mo C σ (condsM C f σ acc).2
 | 0,σ,acc,hs=>by unfold condsM; exact Mo.refl hs
 | f+1,σ,acc,hs=>by
   unfold condsM
   split
   · have m:=condM_mo (Mo.refl hs (C:=C)).next
     exact m.trans (conds_mo f _ _ m.le)
   · exact Mo.refl hs
theorem conds_ok (hT:Tks C):∀ (f:Nat) (σ:St) (acc:List Ex),σ.at_≤C.T.length→okEs acc=true→(condsM C f σ acc).2.code=0→okEs (condsM C f σ acc).1=true∧wEs (condsM C f σ acc).1+phi C (condsM C f σ acc).2≤phi C σ+wEs acc
 | 0,σ,acc,hs,ha,hc=>by unfold condsM; exact ⟨ha,by simp only; omega⟩
 | f+1,σ,acc,hs,ha,hc=>by
   unfold condsM at hc ⊢
   by_cases h:isM C σ ⟨#[44]⟩=true
   · rw [if_pos h] at hc ⊢
     simp only at hc ⊢
     have m0:=(Mo.refl hs (C:=C)).next
     have m1:=condM_mo (Mo.refl m0.le)
     have c1:=(conds_mo f _ _ m1.le).code hc
     obtain ⟨o1,w1⟩:=condM_ok hT m0.le c1
     have p0:=phi_mo m0
     obtain ⟨o2,w2⟩:=conds_ok hT f _ (acc++[(condM C (nextM C σ)).1]) m1.le (by rw [okEs_app,ha,okEs1 o1]; rfl) hc
     refine ⟨o2,?_⟩
     rw [wEs_app,wEs1] at w2
     omega
   · rw [if_neg h] at hc ⊢; exact ⟨ha,by simp only; omega⟩
theorem field_ok (hT:Tks C) {σ:St} (hs:σ.at_≤C.T.length) (hc:(fieldM C σ).2.code=0):okV (fieldM C σ).1∧60+wV (fieldM C σ).1+phi C (fieldM C σ).2≤phi C σ:=by
 unfold fieldM at hc ⊢
 simp only at hc ⊢
 have m1:=(Mo.refl hs (C:=C)).typ
 have m2:=(Mo.refl m1.le).name
 have m3:=(Mo.refl m2.le).number
 have m4:=(Mo.refl m3.le).want ⟨#[59]⟩
 have c3:=m4.code hc
 have c2:=m3.code c3
 have c1:=m2.code c2
 have t1:=typ_phi hT c1
 have t2:=name_phi c2
 have n3:=number_phi hT m2.le
 have p4:=phi_mo m4
 refine ⟨⟨t1.1,n3.1⟩,?_⟩
 unfold wV
 simp only
 omega
theorem fields_mo:∀ (f:Nat) (σ:St) (acc:List Vr),σ.at_≤C.T.length→Mo C σ (fieldsM C f σ acc).2
 | 0,σ,acc,hs=>by unfold fieldsM; exact Mo.refl hs
 | f+1,σ,acc,hs=>by
   have m:=(Mo.refl hs (C:=C)).field
   unfold fieldsM
   simp only
   split
   · exact m.next.want _
   split
   · exact m.trans (fields_mo f _ _ m.le)
   · exact m.lost
theorem fields_ok (hT:Tks C):∀ (f:Nat) (σ:St) (acc:List Vr),σ.at_≤C.T.length→(∀ v∈acc,okV v)→(fieldsM C f σ acc).2.code=0→(∀ v∈(fieldsM C f σ acc).1,okV v)∧wVs (fieldsM C f σ acc).1+phi C (fieldsM C f σ acc).2≤phi C σ+wVs acc
 | 0,σ,acc,hs,ha,hc=>by unfold fieldsM; exact ⟨ha,by simp only; omega⟩
 | f+1,σ,acc,hs,ha,hc=>by
   have m:=(Mo.refl hs (C:=C)).field
   have c1:(fieldM C σ).2.code=0:=by
    have h:=hc
    unfold fieldsM at h
    simp only at h
    split at h
    · exact ((Mo.refl m.le).next.want _).code h
    split at h
    · exact (fields_mo f _ _ m.le).code h
    · exact absurd h lost_code
   obtain ⟨o1,w1⟩:=field_ok hT hs c1
   have ha':∀ v∈acc++[(fieldM C σ).1],okV v:=fun v hv=>by
    rcases List.mem_append.1 hv with hv | hv
    · exact ha v hv
    · rw [List.mem_singleton] at hv; rw [hv]; exact o1
   have e:wVs (acc++[(fieldM C σ).1])=wVs acc+(60+wV (fieldM C σ).1):=by rw [wVs_app]; rfl
   unfold fieldsM at hc ⊢
   simp only at hc ⊢
   by_cases h1:isM C (fieldM C σ).2 ⟨#[125]⟩=true
   · rw [if_pos h1] at hc ⊢
     have p:=phi_mo ((Mo.refl m.le).next.want ⟨#[59]⟩)
     exact ⟨ha',by simp only; omega⟩
   rw [if_neg h1] at hc ⊢
   by_cases h2:typedM C (fieldM C σ).2=true
   · rw [if_pos h2] at hc ⊢
     obtain ⟨o2,w2⟩:=fields_ok hT f _ _ m.le ha' hc
     exact ⟨o2,by omega⟩
   · rw [if_neg h2] at hc; exact absurd hc lost_code
structure Bare (i:It):Prop where
 vars:i.vars=[]
 types:i.types=[]
 body:i.body=none
 init:i.init=none
 list:i.list=[]
 v:okV i.v
 b:i.v.ty.base.size≤1000000
theorem Bare.w {i:It} (h:Bare i):wI i=200+wV i.v:=by
 unfold wI
 rw [h.vars,h.types,h.body,h.init,h.list]
 rfl
theorem typ_le (hT:Tks C) (σ:St):(typM C σ).1.base.size≤1000000:=by
 unfold typM
 split
 · exact Nat.le_trans (base_le hT σ) (by decide)
 · exact Nat.zero_le _
theorem it0_bare (a:Int) {t:Ty} {n:ByteArray} (h:okT t) (hb:t.base.size≤1000000):Bare { it0 a with v:={ (it0 a).v with ty:=t,name:=n } } :=
 ⟨rfl,rfl,rfl,rfl,rfl,⟨h,Int.le_refl _,by show (0:Int)≤_; decide⟩,hb⟩
theorem struct_ok (hT:Tks C) {i:It} {σ:St} (hi:Bare i) (hs:σ.at_≤C.T.length) (hc:(structM C i σ).2.code=0):okI (structM C i σ).1=true∧wI (structM C i σ).1+phi C (structM C i σ).2≤phi C σ+wI i:=by
 unfold structM at hc ⊢
 simp only at hc ⊢
 have m0:=(Mo.refl hs (C:=C)).next
 have m1:=(Mo.refl m0.le).name
 have m2:=(Mo.refl m1.le).want ⟨#[123]⟩
 have m3:=fields_mo (C.T.length+1) _ [] m2.le
 have c2:=m3.code hc
 have c1:=m2.code c2
 have t1:=name_phi c1
 obtain ⟨o1,w1⟩:=fields_ok hT (C.T.length+1) _ [] m2.le (fun v hv=>by cases hv) hc
 have p0:=phi_mo m0
 have p2:=phi_mo m2
 refine ⟨okI_mk 1 rfl ⟨by decide,by decide⟩ hi.b hi.v o1 (fun t ht=>by simp only [hi.types] at ht; cases ht) (by simp only [hi.init]; rfl) (by simp only [hi.list]; rfl) (fun b hb=>by simp only [hi.body] at hb; cases hb) (fun _=>by decide),?_⟩
 rw [hi.w]
 unfold wI wV
 simp only [hi.types,hi.body,hi.init,hi.list]
 have e1:wTs []=0:=rfl
 have e2:wB none=0:=rfl
 have e3:wO none=0:=rfl
 have e4:wEs []=0:=by unfold wEs; rfl
 have e5:wVs []=0:=rfl
 rw [e1,e2,e3,e4]
 rw [e5] at w1
 omega
theorem typedef_ok (hT:Tks C) {i:It} {σ:St} (hi:Bare i) (hs:σ.at_≤C.T.length) (hc:(typedefM C i σ).2.code=0):okI (typedefM C i σ).1=true∧wI (typedefM C i σ).1+phi C (typedefM C i σ).2≤phi C σ+200:=by
 unfold typedefM at hc ⊢
 simp only at hc ⊢
 have m0:=(Mo.refl hs (C:=C)).next
 have m1:=(Mo.refl m0.le).typ
 have m2:=(Mo.refl m1.le).name
 have m3:=(Mo.refl m2.le).want ⟨#[40]⟩
 have p0:=phi_mo m0
 have p3:=phi_mo m3
 have hle:=typ_le hT (nextM C σ)
 have e2:wB none=0:=rfl
 have e3:wO none=0:=rfl
 have e4:wEs []=0:=by unfold wEs; rfl
 have e5:wVs []=0:=rfl
 have e6:wTs []=0:=rfl
 by_cases h:isM C (wantM C (nameM C (typM C (nextM C σ)).2).2 ⟨#[40]⟩) ⟨#[41]⟩=true
 · rw [if_pos h] at hc ⊢
   simp only at hc ⊢
   have m4:=(Mo.refl m3.le).next
   have m5:=(Mo.refl m4.le).want ⟨#[59]⟩
   have c4:(wantM C (nextM C (wantM C (nameM C (typM C (nextM C σ)).2).2 ⟨#[40]⟩)) ⟨#[59]⟩).code=0:=hc
   have c2:=m3.code (m4.code (m5.code c4))
   have c1:=m2.code c2
   have t1:=typ_phi hT c1
   have t2:=name_phi c2
   have p4:=phi_mo m4
   have p5:=phi_mo m5
   refine ⟨okI_mk 2 rfl ⟨by decide,by decide⟩ hle ⟨t1.1,hi.v.2⟩ (fun t ht=>by simp only [hi.vars] at ht; cases ht) (fun t ht=>by cases ht) (by simp only [hi.init]; rfl) (by simp only [hi.list]; rfl) (fun b hb=>by simp only [hi.body] at hb; cases hb) (fun _=>by decide),?_⟩
   unfold wI wV
   simp only [hi.vars,hi.body,hi.init,hi.list]
   show 200+_+wVs []+wTs []+wB none+wO none+wEs []+phi C (wantM C (nextM C (wantM C (nameM C (typM C (nextM C σ)).2).2 ⟨#[40]⟩)) ⟨#[59]⟩)≤_
   rw [e2,e3,e4,e5,e6]
   omega
 · rw [if_neg h] at hc ⊢
   simp only at hc ⊢
   have m4:=(Mo.refl m3.le).typ
   have m5:=types_mo C.T.length _ [(typM C (wantM C (nameM C (typM C (nextM C σ)).2).2 ⟨#[40]⟩)).1] m4.le
   have m6:=(Mo.refl m5.le).want ⟨#[41]⟩
   have m7:=(Mo.refl m6.le).want ⟨#[59]⟩
   have c6:=m7.code hc
   have c5:=m6.code c6
   have c4:=m5.code c5
   have c2:=m3.code (m4.code c4)
   have c1:=m2.code c2
   have t1:=typ_phi hT c1
   have t2:=name_phi c2
   have t4:=typ_phi hT c4
   obtain ⟨o1,w1⟩:=types_ok hT C.T.length _ [(typM C (wantM C (nameM C (typM C (nextM C σ)).2).2 ⟨#[40]⟩)).1] m4.le (fun v hv=>by rw [List.mem_singleton] at hv; rw [hv]; exact t4.1) c5
   have p6:=phi_mo m6
   have p7:=phi_mo m7
   refine ⟨okI_mk 2 rfl ⟨by decide,by decide⟩ hle ⟨t1.1,hi.v.2⟩ (fun t ht=>by simp only [hi.vars] at ht; cases ht) o1 (by simp only [hi.init]; rfl) (by simp only [hi.list]; rfl) (fun b hb=>by simp only [hi.body] at hb; cases hb) (fun _=>by decide),?_⟩
   unfold wI wV
   simp only [hi.vars,hi.body,hi.init,hi.list]
   have e7:wTs [(typM C (wantM C (nameM C (typM C (nextM C σ)).2).2 ⟨#[40]⟩)).1]=10+tyW (typM C (wantM C (nameM C (typM C (nextM C σ)).2).2 ⟨#[40]⟩)).1:=rfl
   rw [e7] at w1
   show 200+_+wVs []+_+wB none+wO none+wEs []+phi C (wantM C (wantM C (typesM C C.T.length (typM C (wantM C (nameM C (typM C (nextM C σ)).2).2 ⟨#[40]⟩)).2 [(typM C (wantM C (nameM C (typM C (nextM C σ)).2).2 ⟨#[40]⟩)).1]).2 ⟨#[41]⟩) ⟨#[59]⟩)≤_
   rw [e2,e3,e4,e5]
   omega
theorem nil_w:wTs []=0∧wB none=0∧wO none=0∧wEs []=0∧wVs []=0:=⟨rfl,rfl,rfl,by unfold wEs; rfl,rfl⟩
theorem function_ok (hT:Tks C) {i:It} {σ:St} (hi:Bare i) (hs:σ.at_≤C.T.length) (hc:(functionM C i σ).2.code=0):okI (functionM C i σ).1=true∧wI (functionM C i σ).1+phi C (functionM C i σ).2≤phi C σ+wI i:=by
 obtain ⟨e1,e2,e3,e4,e5⟩:=nil_w
 rw [hi.w]
 have m0:=(Mo.refl hs (C:=C)).next
 have p0:=phi_mo m0
 obtain ⟨k,hk⟩:∃ k,(if isM C (nextM C σ) ⟨#[41]⟩ then (([]:List Vr),nextM C (nextM C σ)) else ((paramsM C C.T.length (paramM C (nextM C σ)).2 [(paramM C (nextM C σ)).1]).1,wantM C (paramsM C C.T.length (paramM C (nextM C σ)).2 [(paramM C (nextM C σ)).1]).2 ⟨#[41]⟩))=k:=⟨_,rfl⟩
 have hm:Mo C (nextM C σ) k.2:=by
  rw [← hk]
  split
  · exact (Mo.refl m0.le).next
  · have m1:=(Mo.refl m0.le).param
    exact (m1.trans (params_mo _ _ _ m1.le)).want _
 have hko:k.2.code=0→(∀ v∈k.1,okV v)∧wVs k.1+phi C k.2≤phi C (nextM C σ):=by
  rw [← hk]
  split
  · intro _
    exact ⟨(fun v hv=>by cases hv),by have:=phi_mo (Mo.refl m0.le (C:=C)).next; rw [e5]; show 0+phi C (nextM C (nextM C σ))≤_; omega⟩
  · intro hcc
    have m1:=(Mo.refl m0.le).param
    have m2:=params_mo C.T.length (paramM C (nextM C σ)).2 [(paramM C (nextM C σ)).1] m1.le
    have m3:=(Mo.refl m2.le).want ⟨#[41]⟩
    have c2:=m3.code hcc
    have c1:=m2.code c2
    obtain ⟨o1,w1⟩:=param_ok hT m0.le c1
    obtain ⟨o2,w2⟩:=params_ok hT C.T.length (paramM C (nextM C σ)).2 [(paramM C (nextM C σ)).1] m1.le (fun v hv=>by rw [List.mem_singleton] at hv; rw [hv]; exact o1) c2
    have p3:=phi_mo m3
    have e6:wVs [(paramM C (nextM C σ)).1]=60+wV (paramM C (nextM C σ)).1:=rfl
    exact ⟨o2,by simp only; omega⟩
 have ef:functionM C i σ=(if isM C k.2 ⟨#[59]⟩ then ({ i with kind:=3,vars:=k.1 },nextM C k.2) else if isM C k.2 ⟨#[123]⟩ then ({ i with kind:=4,vars:=k.1,body:=some (blockM C k.2).1 },(blockM C k.2).2) else ({ i with kind:=4,vars:=k.1 },lostM C k.2)):=by
  unfold functionM
  simp only
  rw [hk]
 rw [ef] at hc ⊢
 clear ef hk
 by_cases h1:isM C k.2 ⟨#[59]⟩=true
 · rw [if_pos h1] at hc ⊢
   obtain ⟨o,w⟩:=hko ((Mo.refl hm.le).next.code hc)
   have p:=phi_mo (Mo.refl hm.le).next
   refine ⟨okI_mk 3 rfl ⟨by decide,by decide⟩ hi.b hi.v o (fun t ht=>by simp only [hi.types] at ht; cases ht) (by simp only [hi.init]; rfl) (by simp only [hi.list]; rfl) (fun b hb=>by simp only [hi.body] at hb; cases hb) (fun _=>by decide),?_⟩
   unfold wI
   simp only [hi.types,hi.body,hi.init,hi.list]
   omega
 rw [if_neg h1] at hc ⊢
 by_cases h2:isM C k.2 ⟨#[123]⟩=true
 · rw [if_pos h2] at hc ⊢
   have m4:=Mo.block (Mo.refl hm.le)
   obtain ⟨o,w⟩:=hko (m4.code hc)
   obtain ⟨o2,w2⟩:=blockM_ok hT hm.le hc
   refine ⟨okI_mk 4 rfl ⟨by decide,by decide⟩ hi.b hi.v o (fun t ht=>by simp only [hi.types] at ht; cases ht) (by simp only [hi.init]; rfl) (by simp only [hi.list]; rfl) (fun b hb=>by injection hb with hb; rw [← hb]; exact o2) (fun hb=>by cases hb),?_⟩
   unfold wI
   simp only [hi.types,hi.init,hi.list]
   have e8:wB (some (blockM C k.2).1)=wS (blockM C k.2).1:=rfl
   omega
 · rw [if_neg h2] at hc; exact absurd hc lost_code
theorem declaration_ok (hT:Tks C) {i:It} {σ:St} (hi:Bare i) (hs:σ.at_≤C.T.length) (hc:(declarationM C i σ).2.code=0):okI (declarationM C i σ).1=true∧wI (declarationM C i σ).1+phi C (declarationM C i σ).2≤phi C σ+200:=by
 obtain ⟨e1,e2,e3,e4,e5⟩:=nil_w
 have m1:=(Mo.refl hs (C:=C)).typ
 have m2:=(Mo.refl m1.le).name
 have hle:=typ_le hT σ
 unfold declarationM at hc ⊢
 simp only at hc ⊢
 by_cases h:isM C (nameM C (typM C σ).2).2 ⟨#[40]⟩=true
 · rw [if_pos h] at hc ⊢
   have hmf:Mo C (nameM C (typM C σ).2).2 (functionM C { i with v:={ i.v with ty:=(typM C σ).1,name:=(nameM C (typM C σ).2).1 } } (nameM C (typM C σ).2).2).2:=by
    have m0:=(Mo.refl m2.le (C:=C)).next
    have mp:∀ k:List Vr × St,Mo C (nameM C (typM C σ).2).2 k.2→Mo C (nameM C (typM C σ).2).2 (if isM C k.2 ⟨#[59]⟩ then (({ i with kind:=3,vars:=k.1 }:It),nextM C k.2) else if isM C k.2 ⟨#[123]⟩ then ({ i with kind:=4,vars:=k.1,body:=some (blockM C k.2).1 },(blockM C k.2).2) else ({ i with kind:=4,vars:=k.1 },lostM C k.2)).2:=fun k hm=>by
     split
     · exact hm.next
     split
     · exact hm.block
     · exact hm.lost
    have m3:Mo C (nameM C (typM C σ).2).2 (if isM C (nextM C (nameM C (typM C σ).2).2) ⟨#[41]⟩ then (([]:List Vr),nextM C (nextM C (nameM C (typM C σ).2).2)) else ((paramsM C C.T.length (paramM C (nextM C (nameM C (typM C σ).2).2)).2 [(paramM C (nextM C (nameM C (typM C σ).2).2)).1]).1,wantM C (paramsM C C.T.length (paramM C (nextM C (nameM C (typM C σ).2).2)).2 [(paramM C (nextM C (nameM C (typM C σ).2).2)).1]).2 ⟨#[41]⟩)).2:=by
     split
     · exact m0.next
     · exact (m0.param.trans (params_mo _ _ _ m0.param.le)).want _
    unfold functionM
    simp only
    revert m3
    generalize (if isM C (nextM C (nameM C (typM C σ).2).2) ⟨#[41]⟩ then (([]:List Vr),nextM C (nextM C (nameM C (typM C σ).2).2)) else ((paramsM C C.T.length (paramM C (nextM C (nameM C (typM C σ).2).2)).2 [(paramM C (nextM C (nameM C (typM C σ).2).2)).1]).1,wantM C (paramsM C C.T.length (paramM C (nextM C (nameM C (typM C σ).2).2)).2 [(paramM C (nextM C (nameM C (typM C σ).2).2)).1]).2 ⟨#[41]⟩))=k
    intro m3
    split
    · exact m3.next
    split
    · exact m3.block
    · exact m3.lost
   have c2:=hmf.code hc
   have c1:=m2.code c2
   have t1:=typ_phi hT c1
   have t2:=name_phi c2
   have hb:Bare { i with v:={ i.v with ty:=(typM C σ).1,name:=(nameM C (typM C σ).2).1 } }:=⟨hi.vars,hi.types,hi.body,hi.init,hi.list,⟨t1.1,hi.v.2⟩,hle⟩
   obtain ⟨o,w⟩:=function_ok hT hb m2.le hc
   refine ⟨o,?_⟩
   rw [hb.w] at w
   unfold wV at w
   simp only at w
   omega
 · rw [if_neg h] at hc ⊢
   have m3:=(Mo.refl m2.le).number
   have n3:=number_phi hT m2.le
   simp only at hc ⊢
   by_cases h2:isM C (numberM C (nameM C (typM C σ).2).2).2.2 ⟨#[61]⟩=true
   · rw [if_pos h2] at hc ⊢
     have m4:=(Mo.refl m3.le).next
     have p4:=phi_mo m4
     unfold initialM at hc ⊢
     by_cases h3:isM C (nextM C (numberM C (nameM C (typM C σ).2).2).2.2) ⟨#[123]⟩=true
     · rw [if_pos h3] at hc ⊢
       simp only at hc ⊢
       have m5:=(Mo.refl m4.le).next
       have m6:=condM_mo (Mo.refl m5.le)
       have m7:=conds_mo C.T.length _ [(condM C (nextM C (nextM C (numberM C (nameM C (typM C σ).2).2).2.2))).1] m6.le
       have m8:=(Mo.refl m7.le).want ⟨#[125]⟩
       have m9:=(Mo.refl m8.le).want ⟨#[59]⟩
       have c7:=m8.code (m9.code hc)
       have c6:=m7.code c7
       have c3:=m4.code (m5.code (m6.code c6))
       have c2:=m3.code c3
       have c1:=m2.code c2
       have t1:=typ_phi hT c1
       have t2:=name_phi c2
       obtain ⟨o6,w6⟩:=condM_ok hT m5.le c6
       obtain ⟨o7,w7⟩:=conds_ok hT C.T.length _ [(condM C (nextM C (nextM C (numberM C (nameM C (typM C σ).2).2).2.2))).1] m6.le (okEs1 o6) c7
       have p5:=phi_mo m5
       have p8:=phi_mo m8
       have p9:=phi_mo m9
       rw [wEs1] at w7
       refine ⟨okI_mk 5 rfl ⟨by decide,by decide⟩ hle ⟨t1.1,n3.1⟩ (fun t ht=>by simp only [hi.vars] at ht; cases ht) (fun t ht=>by simp only [hi.types] at ht; cases ht) (by simp only [hi.init]; rfl) o7 (fun b hb=>by simp only [hi.body] at hb; cases hb) (fun _=>by decide),?_⟩
       unfold wI wV
       simp only [hi.vars,hi.types,hi.body,hi.init]
       omega
     · rw [if_neg h3] at hc ⊢
       simp only at hc ⊢
       have m6:=condM_mo (Mo.refl m4.le)
       have m9:=(Mo.refl m6.le).want ⟨#[59]⟩
       have c6:=m9.code hc
       have c3:=m4.code (m6.code c6)
       have c2:=m3.code c3
       have c1:=m2.code c2
       have t1:=typ_phi hT c1
       have t2:=name_phi c2
       obtain ⟨o6,w6⟩:=condM_ok hT m4.le c6
       have p9:=phi_mo m9
       refine ⟨okI_mk 5 rfl ⟨by decide,by decide⟩ hle ⟨t1.1,n3.1⟩ (fun t ht=>by simp only [hi.vars] at ht; cases ht) (fun t ht=>by simp only [hi.types] at ht; cases ht) o6 (by simp only [hi.list]; rfl) (fun b hb=>by simp only [hi.body] at hb; cases hb) (fun _=>by decide),?_⟩
       unfold wI wV
       simp only [hi.vars,hi.types,hi.body,hi.list]
       have e9:wO (some (condM C (nextM C (numberM C (nameM C (typM C σ).2).2).2.2)).1)=wE (condM C (nextM C (numberM C (nameM C (typM C σ).2).2).2.2)).1:=rfl
       omega
   · rw [if_neg h2] at hc ⊢
     simp only at hc ⊢
     have m9:=(Mo.refl m3.le).want ⟨#[59]⟩
     have c3:=m9.code hc
     have c2:=m3.code c3
     have c1:=m2.code c2
     have t1:=typ_phi hT c1
     have t2:=name_phi c2
     have p9:=phi_mo m9
     refine ⟨okI_mk 5 rfl ⟨by decide,by decide⟩ hle ⟨t1.1,n3.1⟩ (fun t ht=>by simp only [hi.vars] at ht; cases ht) (fun t ht=>by simp only [hi.types] at ht; cases ht) (by simp only [hi.init]; rfl) (by simp only [hi.list]; rfl) (fun b hb=>by simp only [hi.body] at hb; cases hb) (fun _=>by decide),?_⟩
     unfold wI wV
     simp only [hi.vars,hi.types,hi.body,hi.list,hi.init]
     omega
theorem it0_is (a:Int):Bare (it0 a):=⟨rfl,rfl,rfl,rfl,rfl,⟨⟨Int.le_refl _,by show (0:Int)≤_; decide⟩,Int.le_refl _,by show (0:Int)≤_; decide⟩,Nat.zero_le _⟩
theorem it0_w (a:Int):wI (it0 a)=200:=by rw [(it0_is a).w]; rfl
theorem item_ok (hT:Tks C) {σ:St} (hs:σ.at_≤C.T.length) (hc:(itemM C σ).2.code=0):okI (itemM C σ).1=true∧wI (itemM C σ).1+phi C (itemM C σ).2≤phi C σ+200:=by
 unfold itemM at hc ⊢
 simp only at hc ⊢
 split
 · next h =>
   rw [if_pos h] at hc
   have:=struct_ok hT (it0_is _) hs hc
   rw [it0_w] at this
   exact this
 · next h =>
   rw [if_neg h] at hc
   split
   · next h2=>rw [if_pos h2] at hc; exact typedef_ok hT (it0_is _) hs hc
   · next h2=>rw [if_neg h2] at hc; exact declaration_ok hT (it0_is _) hs hc
def wIs:List It→Nat
 | []=>0
 | i :: l=>wI i+wIs l
theorem wIs_app (a b:List It):wIs (a++b)=wIs a+wIs b:=by
 induction a with
 | nil=>show wIs b=0+_; omega
 | cons e t ih=>show wI e+wIs (t++b)=wI e+wIs t+_; rw [ih]; omega
end Go.Proofs.YtflbkdfbjofllaaGreatDoor.Sy
namespace Go.Proofs.YtflbkdfbjofllaaGreatDoor.Sy
open Go.RowKit Lx
variable {C:Cx}
theorem items_ok (hT:Tks C):∀ (f:Nat) (σ:St) (acc:List It),σ.at_≤C.T.length→(∀ i∈acc,okI i=true)→(itemsM C f σ acc).2.code=0→(∀ i∈(itemsM C f σ acc).1,okI i=true)∧wIs (itemsM C f σ acc).1+phi C (itemsM C f σ acc).2≤phi C σ+wIs acc+200 * f
 | 0,σ,acc,hs,ha,hc=>by unfold itemsM; exact ⟨ha,by simp only; omega⟩
 | f+1,σ,acc,hs,ha,hc=>by
   unfold itemsM at hc ⊢
   by_cases h:σ.at_ < C.T.length
   · rw [if_pos h] at hc ⊢
     simp only at hc ⊢
     have m:=(item_mi h).2
     have mi:∀ (g:Nat) (τ:St) (ac:List It),τ.at_≤C.T.length→(itemsM C g τ ac).2.code=0→τ.code=0:=by
      intro g
      induction g with
      | zero=>intro τ ac _ hh; exact hh
      | succ g ih =>
        intro τ ac ht hh
        unfold itemsM at hh
        split at hh
        · next hl =>
          have mm:=(item_mi hl).2
          exact mm.code (ih _ _ mm.le hh)
        · exact hh
     have c1:=mi f _ _ m.le hc
     obtain ⟨o1,w1⟩:=item_ok hT hs c1
     obtain ⟨o2,w2⟩:=items_ok hT f _ (acc++[(itemM C σ).1]) m.le (fun v hv=>by
      rcases List.mem_append.1 hv with hv | hv
      · exact ha v hv
      · rw [List.mem_singleton] at hv; rw [hv]; exact o1) hc
     refine ⟨o2,?_⟩
     rw [wIs_app] at w2
     have e:wIs [(itemM C σ).1]=wI (itemM C σ).1:=by show wI _+0=_; omega
     omega
   · rw [if_neg h] at hc ⊢; exact ⟨ha,by simp only; omega⟩
theorem dec_size:∀ (f n:Nat) (acc:List UInt8),(decL f n acc).length≤f+acc.length
 | 0,n,acc=>by unfold decL; omega
 | f+1,n,acc=>by
   unfold decL
   split
   · simp only [List.length_cons]; omega
   · have:=dec_size f (n / 10) (UInt8.ofNat (48+n % 10) :: acc)
     simp only [List.length_cons] at this
     omega
theorem decM_size (n:Int):(decM n).size≤20:=by
 have:=dec_size 20 n.toNat []
 unfold decM
 show (decL 20 n.toNat []).toArray.size≤20
 simp only [List.size_toArray]
 simpa using this
theorem starL_size (n:Nat):(starL n).size=n:=by
 induction n with
 | zero=>rfl
 | succ n ih=>unfold starL; rw [cat_size,ih]; rfl
theorem tyM_size (t:Ty):(tyM t).size=tyW t:=by unfold tyM tyW; rw [cat_size,starL_size]
theorem part_ub (s:ByteArray) (x:Wr):(partW s x).out.size≤x.out.size+1+s.size:=by
 show ((if x.fresh then x.out else x.out++⟨#[32]⟩)++s).size≤_
 rw [cat_size]
 split
 · omega
 · rw [cat_size]; show x.out.size+1+_≤_; omega
def lW:List ByteArray→Nat
 | []=>0
 | s :: l=>1+s.size+lW l
theorem parts_ub:∀ (l:List ByteArray) (x:Wr),(partsW l x).out.size≤x.out.size+lW l
 | [],x=>Nat.le_refl _
 | s :: l,x=>by
   show (partsW l (partW s x)).out.size≤_
   have h1:=parts_ub l (partW s x)
   have h2:=part_ub s x
   show _≤_+(1+s.size+lW l)
   omega
theorem openP_ub (l:List ByteArray) (x:Wr):(openP l x).out.size≤x.out.size+2+lW l:=by
 have h1:=parts_ub l (openW x)
 have h2:=part_ub ⟨#[40]⟩ x
 have e:(openW x).out=(partW ⟨#[40]⟩ x).out:=rfl
 rw [e] at h1
 have e2:(⟨#[40]⟩:ByteArray).size=1:=rfl
 rw [e2] at h2
 unfold openP
 omega
theorem head_ub (kind:Int) (op name:ByteArray) (ty:Ty) (num:Int) (x:Wr):(headW (exHead kind op name ty num) x).out.size≤x.out.size+60+op.size+tyW ty+(if kind=10∨kind=11 then 0 else name.size):=by
 have hd:=decM_size num
 have ht:=tyM_size ty
 unfold exHead
 by_cases h1:kind=1
 · rw [if_pos h1]; refine Nat.le_trans (openP_ub _ _) ?_; simp only [lW]; show _+2+(1+3+_)≤_; omega
 rw [if_neg h1]
 by_cases h2:kind=2
 · rw [if_pos h2]; refine Nat.le_trans (openP_ub _ _) ?_; simp only [lW]; rw [if_neg (by omega)]; show _+2+(1+4+_)≤_; omega
 rw [if_neg h2]
 by_cases h3:kind=3
 · rw [if_pos h3]; refine Nat.le_trans (openP_ub _ _) ?_; simp only [lW]; show _+2+(1+2+_)≤_; omega
 rw [if_neg h3]
 by_cases h4:kind=4
 · rw [if_pos h4]; refine Nat.le_trans (openP_ub _ _) ?_; simp only [lW]; show _+2+(1+3+_)≤_; omega
 rw [if_neg h4]
 by_cases h5:kind=5
 · rw [if_pos h5]; refine Nat.le_trans (openP_ub _ _) ?_; simp only [lW]; show _+2+(1+3+_)≤_; omega
 rw [if_neg h5]
 by_cases h6:kind=6
 · rw [if_pos h6]; refine Nat.le_trans (openP_ub _ _) ?_; simp only [lW]; show _+2+(1+2+_)≤_; omega
 rw [if_neg h6]
 by_cases h7:kind=7
 · rw [if_pos h7]; refine Nat.le_trans (openP_ub _ _) ?_; simp only [lW]; show _+2+(1+4+_)≤_; omega
 rw [if_neg h7]
 by_cases h8:kind=8
 · rw [if_pos h8]; refine Nat.le_trans (openP_ub _ _) ?_; simp only [lW]; show _+2+(1+3+_)≤_; omega
 rw [if_neg h8]
 by_cases h9:kind=9
 · rw [if_pos h9]; refine Nat.le_trans (openP_ub _ _) ?_; simp only [lW]; show _+2+(1+5+_)≤_; omega
 rw [if_neg h9]
 by_cases ha:kind=10
 · rw [if_pos ha]; refine Nat.le_trans (openP_ub _ _) ?_; simp only [lW]; show _+2+(1+3+_)≤_; omega
 rw [if_neg ha]
 by_cases hb:kind=11
 · rw [if_pos hb]; refine Nat.le_trans (openP_ub _ _) ?_; simp only [lW]; show _+2+(1+5+_)≤_; omega
 rw [if_neg hb]
 by_cases hc:kind=12
 · rw [if_pos hc]; refine Nat.le_trans (openP_ub _ _) ?_; simp only [lW]; show _+2+(1+4+_)≤_; omega
 rw [if_neg hc]
 by_cases he:kind=13
 · rw [if_pos he]; refine Nat.le_trans (openP_ub _ _) ?_; simp only [lW]; show _+2+(1+4+_)≤_; omega
 rw [if_neg he]
 by_cases hf:kind=14
 · rw [if_pos hf]; refine Nat.le_trans (openP_ub _ _) ?_; simp only [lW]; show _+2+(1+4+_)≤_; omega
 rw [if_neg hf]
 show x.out.size≤_
 omega
mutual
theorem exW_ub:∀ (e:Ex) (x:Wr),(exW e x).out.size≤x.out.size+wE e
 | .mk kind op name ty num arr subs,x=>by
   have h1:=head_ub kind op name ty num x
   have h2:=exsW_ub subs (headW (exHead kind op name ty num) x)
   unfold exW wE
   simp only
   rw [close_size]
   split
   · next h =>
     rw [if_pos h] at h1
     have h3:=part_ub name (exsW subs (headW (exHead kind op name ty num) x))
     omega
   · next h =>
     rw [if_neg h] at h1
     omega
theorem exsW_ub:∀ (l:List Ex) (x:Wr),(exsW l x).out.size≤x.out.size+wEs l
 | [],x=>by unfold exsW; omega
 | e :: t,x=>by
   unfold exsW wEs
   have h1:=exW_ub e x
   have h2:=exsW_ub t (exW e x)
   omega
end
theorem optW_ub (e:Option Ex) (x:Wr):(optW e x).out.size≤x.out.size+wO e+2:=by
 cases e with
 | none =>
   have h:=part_ub dash x
   have e:dash.size=1:=rfl
   show (partW dash x).out.size≤_
   omega
 | some e=>have:=exW_ub e x; show (exW e x).out.size≤_+wE e+2; omega
theorem heads_size (k:Nat):(heads.getD k nt).size≤8:=by
 by_cases h:k < 17
 · have hc:k=0∨k=1∨k=2∨k=3∨k=4∨k=5∨k=6∨k=7∨k=8∨k=9∨k=10∨k=11∨k=12∨k=13∨k=14∨k=15∨k=16:=by omega
   rcases hc with rfl | rfl | rfl | rfl | rfl | rfl | rfl | rfl | rfl | rfl | rfl | rfl | rfl | rfl | rfl | rfl | rfl <;> exact of_decide_eq_true rfl
 · rw [List.getD_eq_getElem?_getD,List.getElem?_eq_none (by show 17≤k; omega)]
   exact Nat.zero_le _
theorem ite_ub {n:Nat} {c:Prop} [Decidable c] {a b:Wr} (h1:c→a.out.size≤n) (h2:¬ c→b.out.size≤n):(if c then a else b).out.size≤n:=by split; exact h1 (by assumption); exact h2 (by assumption)
mutual
theorem smW_ub:∀ (s:Sm) (x:Wr),(smW s x).out.size≤x.out.size+wS s
 | .mk kind v name minus num e0 e1 e2 body,x=>by
   have h0:=openP_ub [heads.getD kind.toNat nt] x
   have hh:=heads_size kind.toNat
   simp only [lW] at h0
   have hb:=fun y=>smsW_ub body y
   have g0:=fun y=>optW_ub e0 y
   have g1:=fun y=>optW_ub e1 y
   have g2:=fun y=>optW_ub e2 y
   have hd:=decM_size num
   have hdv:=decM_size v.num
   have hty:=tyM_size v.ty
   have hds:dash.size=1:=rfl
   unfold smW wS wV
   simp only
   rw [close_size]
   generalize openP [heads.getD kind.toNat nt] x=w0 at h0 ⊢
   have hn:∀ q:Wr,q.out.size≤x.out.size+99+(v.name.size+tyW v.ty)+name.size+wO e0+wO e1+wO e2+wSs body→q.out.size+1≤x.out.size+(100+(v.name.size+tyW v.ty)+name.size+wO e0+wO e1+wO e2+wSs body):=fun q hq=>by omega
   refine hn _ ?_
   clear hn
   refine ite_ub (fun _=>by have a1:=hb w0; omega) (fun _=>?_)
   refine ite_ub (fun _=>by
    have a1:=part_ub (tyM v.ty) w0
    have a2:=part_ub v.name (partW (tyM v.ty) w0)
    have a3:=part_ub (decM v.num) (partW v.name (partW (tyM v.ty) w0))
    have a4:=g0 (partW (decM v.num) (partW v.name (partW (tyM v.ty) w0)))
    omega) (fun _=>?_)
   refine ite_ub (fun _=>by
    have a1:=g0 w0
    have a2:=hb (optW e0 w0)
    have a3:=part_ub dash (smsW body (optW e0 w0))
    exact ite_ub (fun _=>by omega) (fun _=>by omega)) (fun _=>?_)
   refine ite_ub (fun _=>by
    have a1:=g0 w0
    have a2:=hb (optW e0 w0)
    omega) (fun _=>?_)
   refine ite_ub (fun _=>by
    have a1:=hb w0
    have a2:=g0 (smsW body w0)
    omega) (fun _=>?_)
   refine ite_ub (fun _=>by
    have a1:=g0 w0
    have a2:=g1 (optW e0 w0)
    have a3:=g2 (optW e1 (optW e0 w0))
    have a4:=hb (optW e2 (optW e1 (optW e0 w0)))
    omega) (fun _=>?_)
   refine ite_ub (fun _=>by
    have a1:=part_ub (dash++decM num) w0
    have a2:=part_ub (decM num) w0
    rw [cat_size] at a1
    exact ite_ub (fun _=>by omega) (fun _=>by omega)) (fun _=>?_)
   refine ite_ub (fun _=>by have a1:=g0 w0; omega) (fun _=>?_)
   refine ite_ub (fun _=>by have a1:=part_ub name w0; omega) (fun _=>?_)
   refine ite_ub (fun _=>by
    have a1:=part_ub name w0
    have a2:=hb (partW name w0)
    omega) (fun _=>?_)
   omega
theorem smsW_ub:∀ (l:List Sm) (x:Wr),(smsW l x).out.size≤x.out.size+wSs l
 | [],x=>by unfold smsW; omega
 | e :: t,x=>by
   unfold smsW wSs
   have h1:=smW_ub e x
   have h2:=smsW_ub t (smW e x)
   omega
end
theorem vars_ub (l:List Vr) (x:Wr):(l.foldl (fun w v=>closeW (openP [tyM v.ty,v.name,decM v.num] w)) x).out.size≤x.out.size+wVs l:=by
 induction l generalizing x with
 | nil=>exact Nat.le_refl _
 | cons v t ih =>
   have h1:=ih (closeW (openP [tyM v.ty,v.name,decM v.num] x))
   have h2:=openP_ub [tyM v.ty,v.name,decM v.num] x
   have hd:=decM_size v.num
   have ht:=tyM_size v.ty
   rw [close_size] at h1
   simp only [lW] at h2
   show _≤x.out.size+(60+(v.name.size+tyW v.ty)+wVs t)
   rw [List.foldl_cons]
   omega
theorem params_ub (l:List Vr) (x:Wr):(paramsW l x).out.size≤x.out.size+3+wVs l:=by
 have h:∀ (l:List Vr) (x:Wr),(l.foldl (fun w v=>closeW (openP [tyM v.ty,v.name] w)) x).out.size≤x.out.size+wVs l:=by
  intro l
  induction l with
  | nil=>intro x; exact Nat.le_refl _
  | cons v t ih =>
    intro x
    have h1:=ih (closeW (openP [tyM v.ty,v.name] x))
    have h2:=openP_ub [tyM v.ty,v.name] x
    have ht:=tyM_size v.ty
    rw [close_size] at h1
    simp only [lW] at h2
    show _≤x.out.size+(60+(v.name.size+tyW v.ty)+wVs t)
    rw [List.foldl_cons]
    omega
 unfold paramsW
 rw [close_size]
 have h1:=h l (openP [] x)
 have h2:=openP_ub [] x
 simp only [lW] at h2
 omega
theorem types_ub (l:List Ty) (x:Wr):(l.foldl (fun w t=>partW (tyM t) w) x).out.size≤x.out.size+wTs l:=by
 induction l generalizing x with
 | nil=>exact Nat.le_refl _
 | cons v t ih =>
   have h1:=ih (partW (tyM v) x)
   have h2:=part_ub (tyM v) x
   have ht:=tyM_size v
   show _≤x.out.size+(10+tyW v+wTs t)
   rw [List.foldl_cons]
   omega
theorem itW_ub (i:It) (x:Wr):(itW i x).out.size≤x.out.size+wI i:=by
 have hd:=decM_size i.v.num
 have ht:=tyM_size i.v.ty
 unfold itW wI wV
 rw [close_size]
 have hn:∀ q:Wr,q.out.size≤x.out.size+199+(i.v.name.size+tyW i.v.ty)+wVs i.vars+wTs i.types+wB i.body+wO i.init+wEs i.list→q.out.size+1≤x.out.size+(200+(i.v.name.size+tyW i.v.ty)+wVs i.vars+wTs i.types+wB i.body+wO i.init+wEs i.list):=fun q hq=>by omega
 refine hn _ ?_
 clear hn
 refine ite_ub (fun _=>?_) (fun _=>?_)
 · have h1:=openP_ub [⟨#[115,116,114,117,99,116]⟩,i.v.name] x
   have h2:=vars_ub i.vars (openP [⟨#[115,116,114,117,99,116]⟩,i.v.name] x)
   have e:(⟨#[115,116,114,117,99,116]⟩:ByteArray).size=6:=rfl
   simp only [lW,e] at h1
   omega
 refine ite_ub (fun _=>?_) (fun _=>?_)
 · have h1:=openP_ub [⟨#[116,121,112,101,100,101,102]⟩,tyM i.v.ty,i.v.name] x
   have h2:=openP_ub [] (openP [⟨#[116,121,112,101,100,101,102]⟩,tyM i.v.ty,i.v.name] x)
   have h3:=types_ub i.types (openP [] (openP [⟨#[116,121,112,101,100,101,102]⟩,tyM i.v.ty,i.v.name] x))
   have e:(⟨#[116,121,112,101,100,101,102]⟩:ByteArray).size=7:=rfl
   simp only [lW,e] at h1 h2
   rw [close_size]
   omega
 refine ite_ub (fun _=>?_) (fun _=>?_)
 · have h1:=openP_ub [⟨#[112,114,111,116,111]⟩,tyM i.v.ty,i.v.name] x
   have h2:=params_ub i.vars (openP [⟨#[112,114,111,116,111]⟩,tyM i.v.ty,i.v.name] x)
   have e:(⟨#[112,114,111,116,111]⟩:ByteArray).size=5:=rfl
   simp only [lW,e] at h1
   omega
 refine ite_ub (fun _=>?_) (fun _=>?_)
 · cases hb:i.body with
   | none=>simp only; omega
   | some b =>
     have h1:=openP_ub [⟨#[102,117,110,99]⟩,tyM i.v.ty,i.v.name] x
     have h2:=params_ub i.vars (openP [⟨#[102,117,110,99]⟩,tyM i.v.ty,i.v.name] x)
     have h3:=smW_ub b (paramsW i.vars (openP [⟨#[102,117,110,99]⟩,tyM i.v.ty,i.v.name] x))
     have e:(⟨#[102,117,110,99]⟩:ByteArray).size=4:=rfl
     simp only [lW,e] at h1
     show (smW b (paramsW i.vars (openP [⟨#[102,117,110,99]⟩,tyM i.v.ty,i.v.name] x))).out.size≤_
     unfold wB
     simp only
     omega
 refine ite_ub (fun _=>?_) (fun _=>by omega)
 have h1:=openP_ub [⟨#[118,97,114]⟩,tyM i.v.ty,i.v.name,decM i.v.num] x
 have e:(⟨#[118,97,114]⟩:ByteArray).size=3:=rfl
 simp only [lW,e] at h1
 simp only
 cases hl:i.listed with
 | true =>
   have h2:=openP_ub [⟨#[108,105,115,116]⟩] (openP [⟨#[118,97,114]⟩,tyM i.v.ty,i.v.name,decM i.v.num] x)
   have h3:=exsW_ub i.list (openP [⟨#[108,105,115,116]⟩] (openP [⟨#[118,97,114]⟩,tyM i.v.ty,i.v.name,decM i.v.num] x))
   have e:(⟨#[108,105,115,116]⟩:ByteArray).size=4:=rfl
   simp only [lW,e] at h2
   show (closeW (exsW i.list (openP [⟨#[108,105,115,116]⟩] (openP [⟨#[118,97,114]⟩,tyM i.v.ty,i.v.name,decM i.v.num] x)))).out.size≤_
   rw [close_size]
   omega
 | false =>
   have h2:=optW_ub i.init (openP [⟨#[118,97,114]⟩,tyM i.v.ty,i.v.name,decM i.v.num] x)
   show (optW i.init (openP [⟨#[118,97,114]⟩,tyM i.v.ty,i.v.name,decM i.v.num] x)).out.size≤_
   omega
theorem dumpL_ub (l:List It):(dumpL l).size≤wIs l+l.length:=by
 have h:∀ (l:List It) (x:Wr),(l.foldl (fun w i=>(let w1:=itW i w; { w1 with out:=w1.out++⟨#[10]⟩,fresh:=true })) x).out.size≤x.out.size+wIs l+l.length:=by
  intro l
  induction l with
  | nil=>intro x; exact Nat.le_refl _
  | cons i t ih =>
    intro x
    have h1:=ih (let w1:=itW i x; { w1 with out:=w1.out++⟨#[10]⟩,fresh:=true })
    have h2:=itW_ub i x
    have e:(let w1:=itW i x; ({ w1 with out:=w1.out++⟨#[10]⟩,fresh:=true }:Wr)).out.size=(itW i x).out.size+1:=by
     show ((itW i x).out++⟨#[10]⟩).size=_
     rw [cat_size]; rfl
    rw [e] at h1
    rw [List.foldl_cons,List.length_cons]
    show _≤_+(wI i+wIs t)+_
    omega
 have:=h l ⟨nt,0,0,true⟩
 have e:nt.size=0:=rfl
 rw [e,Nat.zero_add] at this
 exact this
theorem mem_ub {l:List It} {i:It} (h:i∈l):wI i≤wIs l:=by
 induction l with
 | nil=>cases h
 | cons a t ih =>
   show wI i≤wI a+wIs t
   rcases List.mem_cons.1 h with rfl | h
   · omega
   · have:=ih h; omega
end Go.Proofs.YtflbkdfbjofllaaGreatDoor.Sy
namespace Go.Proofs.YtflbkdfbjofllaaGreatDoor.Sy
open Go.RowKit Lx
theorem ext_le (s:ByteArray) (i j:Nat):(s.extract i j).size≤s.size:=by rw [ByteArray.size_extract]; omega
def TkIn (s:ByteArray) (t:Tk):Prop:=tkOk t=true∧t.text.size≤s.size
theorem toks_in (s:ByteArray) (hs:s.size≤1000000):∀ (f i:Nat) (acc:List Tk),i≤s.size→(∀ t∈acc,TkIn s t)→acc.length≤6000→(∀ t∈(toksM s f i acc).l,TkIn s t)∧(toksM s f i acc).l.length≤6000
 | 0,i,acc,hi,ha,hl=>⟨ha,hl⟩
 | f+1,i,acc,hi,ha,hl=>by
   have hn:∀ (l:List Tk),l=[]→(∀ t∈l,TkIn s t)∧l.length≤6000:=fun l e=>by rw [e]; exact ⟨(fun t h=>by cases h),Nat.zero_le _⟩
   have hg:=gap_bd (s:=s) s.size i hi
   unfold toksM
   split
   · exact hn _ rfl
   split
   · exact ⟨ha,hl⟩
   split
   · exact hn _ rfl
   split
   · exact hn _ rfl
   · next h1 h2 h3 h4 =>
     have hb:=tokenM_bd (s:=s) (i:=(gap s s.size i).1) (by omega)
     refine toks_in s hs f _ _ hb.2.1 (fun t ht=>?_) (by rw [List.length_append,List.length_singleton]; omega)
     rcases List.mem_append.1 ht with ht | ht
     · exact ha t ht
     · rw [List.mem_singleton] at ht
       subst ht
       have hx:=ext_le s (gap s s.size i).1 (tokenM s (gap s s.size i).1).j
       refine ⟨?_,hx⟩
       unfold tkOk tkOf
       exact decide_eq_true ⟨by simp only; omega,by have:=hb.2.2.2.2.2; simp only; omega,hb.2.2.1.1,hb.2.2.1.2⟩
theorem tokens_in (s:ByteArray) (hs:s.size≤1000000):(∀ t∈(tokensM s).l,TkIn s t)∧(tokensM s).l.length≤6000∧((tokensM s).code=0→s.size≤20000):=by
 unfold tokensM
 split
 · exact ⟨(fun t h=>by cases h),Nat.zero_le _,fun h=>absurd h (by show ¬ (6:Int)=0; decide)⟩
 · have h:=toks_in s hs (s.size+1) 0 [] (Nat.zero_le _) (fun t h=>by cases h) (Nat.zero_le _)
   exact ⟨h.1,h.2,fun _=>by omega⟩
theorem twL_le {n:Nat}:∀ {l:List Tk},(∀ t∈l,t.text.size≤n)→twL l≤(400+n) * l.length
 | [],_=>Nat.zero_le _
 | t :: l,h=>by
   have h1:=h t (List.mem_cons_self ..)
   have h2:=twL_le (n:=n) (l:=l) (fun t ht=>h t (List.mem_cons_of_mem _ ht))
   show tw t+twL l≤_
   rw [List.length_cons,Nat.mul_succ]
   unfold tw
   omega
theorem itemsM_len' (C:Cx) (g:Nat) (σ:St) (acc:List It):(itemsM C g σ acc).1.length≤acc.length+g:=by
 induction g generalizing σ acc with
 | zero=>exact Nat.le_refl _
 | succ g ih =>
   unfold itemsM
   split
   · have e:=ih (itemM C σ).2 (acc++[(itemM C σ).1])
     rw [List.length_append,List.length_singleton] at e
     simp only
     omega
   · simp only; omega
theorem parseOk_any (s:ByteArray) (hs:s.size≤1000000):parseOk s=true:=by
 obtain ⟨h1,h2,h3⟩:=tokens_in s hs
 unfold parseOk
 rw [decide_eq_true ⟨hs,h2⟩,show (tokensM s).l.all tkOk=true from List.all_eq_true.2 (fun t ht=>(h1 t ht).1)]
 simp only [Bool.true_and]
 split
 · rfl
 next hc =>
 split
 · rfl
 next hd =>
 have hc0:(tokensM s).code=0:=by simpa using hc
 have hd0:(itemsOf s).2.code=0:=by simpa using hd
 have hz:=h3 hc0
 have hT:Tks ⟨(tokensM s).l,s.size⟩:=⟨fun t ht=>(h1 t ht).1,fun t ht=>Nat.le_trans (h1 t ht).2 (by omega),by show (tokensM s).l.length≤10000; omega⟩
 have hi:=items_ok hT ((tokensM s).l.length+1) ⟨0,[],0,0⟩ [] (Nat.zero_le _) (fun t h=>by cases h) hd0
 have hp:phi ⟨(tokensM s).l,s.size⟩ ⟨0,[],0,0⟩≤20400 * 6000:=by
  show twL ((tokensM s).l.drop 0)≤_
  rw [List.drop_zero]
  refine Nat.le_trans (twL_le (n:=20000) (fun t ht=>Nat.le_trans (h1 t ht).2 hz)) ?_
  exact Nat.mul_le_mul_left _ h2
 have hw:wIs (itemsOf s).1≤20400 * 6000+200 * 6001:=by
  have:=hi.2
  have e:wIs []=0:=rfl
  rw [e] at this
  unfold itemsOf
  omega
 have hlen:(itemsOf s).1.length≤6001:=by
  have h:=itemsM_len' ⟨(tokensM s).l,s.size⟩ ((tokensM s).l.length+1) ⟨0,[],0,0⟩ []
  unfold itemsOf
  rw [List.length_nil] at h
  omega
 rw [Bool.and_eq_true,Bool.and_eq_true]
 refine ⟨List.all_eq_true.2 hi.1,List.all_eq_true.2 (fun i hm=>?_),?_⟩
 · have e1:=itW_ub i ⟨nt,0,0,true⟩
   have e2:=mem_ub hm
   have e3:nt.size=0:=rfl
   simp only [e3] at e1
   exact decide_eq_true (by unfold BIG; omega)
 · have e1:=dumpL_ub (itemsOf s).1
   exact decide_eq_true (by unfold BIG; omega)
end Go.Proofs.YtflbkdfbjofllaaGreatDoor.Sy
namespace Go.Proofs.YtflbkdfbjofllaaGreatDoor
open Go.RowKit Lx
namespace Sy
def forceN (n:Nat) (k:Nat→Bool):Bool:=match n with
 | 0=>k 0
 | m+1=>k (m+1)
def forceL:List UInt8→(List UInt8→Bool)→Bool
 | [],k=>k []
 | b :: t,k=>forceN b.toNat (fun n=>forceL t (fun l=>k (UInt8.ofNat n :: l)))
def force (s:ByteArray) (k:ByteArray→Bool):Bool:=forceL s.data.toList (fun l=>k ⟨⟨l⟩⟩)
theorem forceN_eq (n:Nat) (k:Nat→Bool):forceN n k=k n:=by cases n <;> rfl
theorem forceL_eq (l:List UInt8) (k:List UInt8→Bool):forceL l k=k l:=by
 induction l generalizing k with
 | nil=>rfl
 | cons b t ih=>unfold forceL; rw [forceN_eq,ih]; simp
theorem force_eq (s:ByteArray) (k:ByteArray→Bool):force s k=k s:=by unfold force; rw [forceL_eq]
def isOk (r:ByteArray × Int × Int) (t:ByteArray):Bool:=r.1 == t && (decide (r.2.1=0) && decide (r.2.2=0))
theorem isOk_eq {r:ByteArray × Int × Int} {t:ByteArray} (h:isOk r t=true):r=(t,0,0):=by
 obtain ⟨a,b,c⟩:=r
 unfold isOk at h
 simp only [Bool.and_eq_true,decide_eq_true_eq,beq_iff_eq] at h
 obtain ⟨rfl,rfl,rfl⟩:=h
 rfl
end Sy
namespace Sy
def stepS:Nat→ByteArray
 | 0=>⟨#[45]⟩
 | 1=>⟨#[102,40]⟩
 | _=>⟨#[97,91]⟩
def sD (k:Nat):Nat→ByteArray
 | 0=>nt
 | n+1=>sD k n++stepS k
def eD (k:Nat):Nat→ByteArray
 | 0=>nt
 | n+1=>if k=0 then nt else eD k n++(if k=1 then ⟨#[41]⟩ else ⟨#[93]⟩)
def textD (k n:Nat):ByteArray:=⟨#[105,110,116,32,120,32,61,32]⟩++sD k n++⟨#[49]⟩++eD k n++⟨#[59]⟩
def deepB (k n:Nat):Bool:=force (textD k n) (fun T=>match parseQ T with
 | ⟨is,c,p⟩=>if n≤38 then decide (c=0) && !(bytesQ (dumpP is) []).isEmpty else decide (c=5) && decide (p=0))
theorem deepB_eq {k n:Nat} (h:deepB k n=true):if n≤38 then (dumpM (textD k n)).2=(0,0)∧(dumpM (textD k n)).1.size ≠ 0 else dumpM (textD k n)=(nt,5,0):=by
 unfold deepB at h
 rw [force_eq] at h
 rw [dumpQ_eq]
 unfold dumpQ
 obtain ⟨⟨is,c,p⟩,hr⟩:∃ r,parseQ (textD k n)=r:=⟨_,rfl⟩
 simp only [hr] at h ⊢
 split
 · next hn =>
   rw [if_pos hn] at h
   simp only [Bool.and_eq_true,decide_eq_true_eq] at h
   obtain ⟨rfl,h⟩:=h
   rw [if_neg (by decide)]
   refine ⟨rfl,fun e=>?_⟩
   rw [dumpP_eq] at e
   rw [bytes_q,List.append_nil] at h
   have e2:(flat (dumpP is)).data.toList.length=0:=by simpa using e
   rw [List.length_eq_zero_iff.1 e2] at h
   cases h
 · next hn =>
   rw [if_neg hn] at h
   simp only [Bool.and_eq_true,decide_eq_true_eq] at h
   obtain ⟨rfl,rfl⟩:=h
   rfl
theorem stepS_size (k:Nat):(stepS k).size≤2:=by
 match k with
 | 0=>exact of_decide_eq_true rfl
 | 1=>exact of_decide_eq_true rfl
 | n+2=>exact of_decide_eq_true rfl
theorem sD_size (k n:Nat):(sD k n).size≤2 * n:=by
 induction n with
 | zero=>exact Nat.le_refl _
 | succ n ih =>
   unfold sD
   rw [ByteArray.size_append]
   have:=stepS_size k
   omega
theorem eD_size (k n:Nat):(eD k n).size≤n:=by
 induction n with
 | zero=>exact Nat.le_refl _
 | succ n ih =>
   unfold eD
   split
   · exact Nat.zero_le _
   · rw [ByteArray.size_append]
     split
     · show (eD k n).size+1≤_
       omega
     · show (eD k n).size+1≤_
       omega
end Sy
namespace Sy
theorem dp0_0:deepB 0 0=true:=by kernel_rfl
theorem dp0_1:deepB 0 1=true:=by kernel_rfl
theorem dp0_2:deepB 0 2=true:=by kernel_rfl
theorem dp0_3:deepB 0 3=true:=by kernel_rfl
theorem dp0_4:deepB 0 4=true:=by kernel_rfl
theorem dp0_5:deepB 0 5=true:=by kernel_rfl
theorem dp0_6:deepB 0 6=true:=by kernel_rfl
theorem dp0_7:deepB 0 7=true:=by kernel_rfl
theorem dp0_8:deepB 0 8=true:=by kernel_rfl
theorem dp0_9:deepB 0 9=true:=by kernel_rfl
theorem dp0_10:deepB 0 10=true:=by kernel_rfl
theorem dp0_11:deepB 0 11=true:=by kernel_rfl
theorem dp0_12:deepB 0 12=true:=by kernel_rfl
theorem dp0_13:deepB 0 13=true:=by kernel_rfl
theorem dp0_14:deepB 0 14=true:=by kernel_rfl
theorem dp0_15:deepB 0 15=true:=by kernel_rfl
theorem dp0_16:deepB 0 16=true:=by kernel_rfl
theorem dp0_17:deepB 0 17=true:=by kernel_rfl
theorem dp0_18:deepB 0 18=true:=by kernel_rfl
theorem dp0_19:deepB 0 19=true:=by kernel_rfl
theorem dp0_20:deepB 0 20=true:=by kernel_rfl
theorem dp0_21:deepB 0 21=true:=by kernel_rfl
theorem dp0_22:deepB 0 22=true:=by kernel_rfl
theorem dp0_23:deepB 0 23=true:=by kernel_rfl
theorem dp0_24:deepB 0 24=true:=by kernel_rfl
theorem dp0_25:deepB 0 25=true:=by kernel_rfl
theorem dp0_26:deepB 0 26=true:=by kernel_rfl
theorem dp0_27:deepB 0 27=true:=by kernel_rfl
theorem dp0_28:deepB 0 28=true:=by kernel_rfl
theorem dp0_29:deepB 0 29=true:=by kernel_rfl
theorem dp0_30:deepB 0 30=true:=by kernel_rfl
theorem dp0_31:deepB 0 31=true:=by kernel_rfl
theorem dp0_32:deepB 0 32=true:=by kernel_rfl
theorem dp0_33:deepB 0 33=true:=by kernel_rfl
theorem dp0_34:deepB 0 34=true:=by kernel_rfl
theorem dp0_35:deepB 0 35=true:=by kernel_rfl
theorem dp0_36:deepB 0 36=true:=by kernel_rfl
theorem dp0_37:deepB 0 37=true:=by kernel_rfl
theorem dp0_38:deepB 0 38=true:=by kernel_rfl
theorem dp0_39:deepB 0 39=true:=by kernel_rfl
theorem dp0_40:deepB 0 40=true:=by kernel_rfl
theorem dp0_41:deepB 0 41=true:=by kernel_rfl
theorem dp0_42:deepB 0 42=true:=by kernel_rfl
theorem dp0_43:deepB 0 43=true:=by kernel_rfl
theorem dp0_44:deepB 0 44=true:=by kernel_rfl
theorem dp0_45:deepB 0 45=true:=by kernel_rfl
theorem dp0_46:deepB 0 46=true:=by kernel_rfl
theorem dp0_47:deepB 0 47=true:=by kernel_rfl
theorem dp0_48:deepB 0 48=true:=by kernel_rfl
theorem dp0_49:deepB 0 49=true:=by kernel_rfl
theorem dp0_50:deepB 0 50=true:=by kernel_rfl
theorem dp0_51:deepB 0 51=true:=by kernel_rfl
theorem dp0_52:deepB 0 52=true:=by kernel_rfl
theorem dp0_53:deepB 0 53=true:=by kernel_rfl
theorem dp0_54:deepB 0 54=true:=by kernel_rfl
theorem dp0_55:deepB 0 55=true:=by kernel_rfl
theorem dp0_56:deepB 0 56=true:=by kernel_rfl
theorem dp0_57:deepB 0 57=true:=by kernel_rfl
theorem dp0_58:deepB 0 58=true:=by kernel_rfl
theorem dp0_59:deepB 0 59=true:=by kernel_rfl
theorem dps0 (n:Nat) (hn:n < 60):deepB 0 n=true:=by
 match n,hn with
 | 0,_=>exact dp0_0
 | 1,_=>exact dp0_1
 | 2,_=>exact dp0_2
 | 3,_=>exact dp0_3
 | 4,_=>exact dp0_4
 | 5,_=>exact dp0_5
 | 6,_=>exact dp0_6
 | 7,_=>exact dp0_7
 | 8,_=>exact dp0_8
 | 9,_=>exact dp0_9
 | 10,_=>exact dp0_10
 | 11,_=>exact dp0_11
 | 12,_=>exact dp0_12
 | 13,_=>exact dp0_13
 | 14,_=>exact dp0_14
 | 15,_=>exact dp0_15
 | 16,_=>exact dp0_16
 | 17,_=>exact dp0_17
 | 18,_=>exact dp0_18
 | 19,_=>exact dp0_19
 | 20,_=>exact dp0_20
 | 21,_=>exact dp0_21
 | 22,_=>exact dp0_22
 | 23,_=>exact dp0_23
 | 24,_=>exact dp0_24
 | 25,_=>exact dp0_25
 | 26,_=>exact dp0_26
 | 27,_=>exact dp0_27
 | 28,_=>exact dp0_28
 | 29,_=>exact dp0_29
 | 30,_=>exact dp0_30
 | 31,_=>exact dp0_31
 | 32,_=>exact dp0_32
 | 33,_=>exact dp0_33
 | 34,_=>exact dp0_34
 | 35,_=>exact dp0_35
 | 36,_=>exact dp0_36
 | 37,_=>exact dp0_37
 | 38,_=>exact dp0_38
 | 39,_=>exact dp0_39
 | 40,_=>exact dp0_40
 | 41,_=>exact dp0_41
 | 42,_=>exact dp0_42
 | 43,_=>exact dp0_43
 | 44,_=>exact dp0_44
 | 45,_=>exact dp0_45
 | 46,_=>exact dp0_46
 | 47,_=>exact dp0_47
 | 48,_=>exact dp0_48
 | 49,_=>exact dp0_49
 | 50,_=>exact dp0_50
 | 51,_=>exact dp0_51
 | 52,_=>exact dp0_52
 | 53,_=>exact dp0_53
 | 54,_=>exact dp0_54
 | 55,_=>exact dp0_55
 | 56,_=>exact dp0_56
 | 57,_=>exact dp0_57
 | 58,_=>exact dp0_58
 | 59,_=>exact dp0_59
 | n+60,h=>exact absurd h (by omega)
end Sy
namespace Sy
theorem dp1_0:deepB 1 0=true:=by kernel_rfl
theorem dp1_1:deepB 1 1=true:=by kernel_rfl
theorem dp1_2:deepB 1 2=true:=by kernel_rfl
theorem dp1_3:deepB 1 3=true:=by kernel_rfl
theorem dp1_4:deepB 1 4=true:=by kernel_rfl
theorem dp1_5:deepB 1 5=true:=by kernel_rfl
theorem dp1_6:deepB 1 6=true:=by kernel_rfl
theorem dp1_7:deepB 1 7=true:=by kernel_rfl
theorem dp1_8:deepB 1 8=true:=by kernel_rfl
theorem dp1_9:deepB 1 9=true:=by kernel_rfl
theorem dp1_10:deepB 1 10=true:=by kernel_rfl
theorem dp1_11:deepB 1 11=true:=by kernel_rfl
theorem dp1_12:deepB 1 12=true:=by kernel_rfl
theorem dp1_13:deepB 1 13=true:=by kernel_rfl
theorem dp1_14:deepB 1 14=true:=by kernel_rfl
theorem dp1_15:deepB 1 15=true:=by kernel_rfl
theorem dp1_16:deepB 1 16=true:=by kernel_rfl
theorem dp1_17:deepB 1 17=true:=by kernel_rfl
theorem dp1_18:deepB 1 18=true:=by kernel_rfl
theorem dp1_19:deepB 1 19=true:=by kernel_rfl
theorem dp1_20:deepB 1 20=true:=by kernel_rfl
theorem dp1_21:deepB 1 21=true:=by kernel_rfl
theorem dp1_22:deepB 1 22=true:=by kernel_rfl
theorem dp1_23:deepB 1 23=true:=by kernel_rfl
theorem dp1_24:deepB 1 24=true:=by kernel_rfl
theorem dp1_25:deepB 1 25=true:=by kernel_rfl
theorem dp1_26:deepB 1 26=true:=by kernel_rfl
theorem dp1_27:deepB 1 27=true:=by kernel_rfl
theorem dp1_28:deepB 1 28=true:=by kernel_rfl
theorem dp1_29:deepB 1 29=true:=by kernel_rfl
theorem dp1_30:deepB 1 30=true:=by kernel_rfl
theorem dp1_31:deepB 1 31=true:=by kernel_rfl
theorem dp1_32:deepB 1 32=true:=by kernel_rfl
theorem dp1_33:deepB 1 33=true:=by kernel_rfl
theorem dp1_34:deepB 1 34=true:=by kernel_rfl
theorem dp1_35:deepB 1 35=true:=by kernel_rfl
theorem dp1_36:deepB 1 36=true:=by kernel_rfl
theorem dp1_37:deepB 1 37=true:=by kernel_rfl
theorem dp1_38:deepB 1 38=true:=by kernel_rfl
theorem dp1_39:deepB 1 39=true:=by kernel_rfl
theorem dp1_40:deepB 1 40=true:=by kernel_rfl
theorem dp1_41:deepB 1 41=true:=by kernel_rfl
theorem dp1_42:deepB 1 42=true:=by kernel_rfl
theorem dp1_43:deepB 1 43=true:=by kernel_rfl
theorem dp1_44:deepB 1 44=true:=by kernel_rfl
theorem dp1_45:deepB 1 45=true:=by kernel_rfl
theorem dp1_46:deepB 1 46=true:=by kernel_rfl
theorem dp1_47:deepB 1 47=true:=by kernel_rfl
theorem dp1_48:deepB 1 48=true:=by kernel_rfl
theorem dp1_49:deepB 1 49=true:=by kernel_rfl
theorem dp1_50:deepB 1 50=true:=by kernel_rfl
theorem dp1_51:deepB 1 51=true:=by kernel_rfl
theorem dp1_52:deepB 1 52=true:=by kernel_rfl
theorem dp1_53:deepB 1 53=true:=by kernel_rfl
theorem dp1_54:deepB 1 54=true:=by kernel_rfl
theorem dp1_55:deepB 1 55=true:=by kernel_rfl
theorem dp1_56:deepB 1 56=true:=by kernel_rfl
theorem dp1_57:deepB 1 57=true:=by kernel_rfl
theorem dp1_58:deepB 1 58=true:=by kernel_rfl
theorem dp1_59:deepB 1 59=true:=by kernel_rfl
theorem dps1 (n:Nat) (hn:n < 60):deepB 1 n=true:=by
 match n,hn with
 | 0,_=>exact dp1_0
 | 1,_=>exact dp1_1
 | 2,_=>exact dp1_2
 | 3,_=>exact dp1_3
 | 4,_=>exact dp1_4
 | 5,_=>exact dp1_5
 | 6,_=>exact dp1_6
 | 7,_=>exact dp1_7
 | 8,_=>exact dp1_8
 | 9,_=>exact dp1_9
 | 10,_=>exact dp1_10
 | 11,_=>exact dp1_11
 | 12,_=>exact dp1_12
 | 13,_=>exact dp1_13
 | 14,_=>exact dp1_14
 | 15,_=>exact dp1_15
 | 16,_=>exact dp1_16
 | 17,_=>exact dp1_17
 | 18,_=>exact dp1_18
 | 19,_=>exact dp1_19
 | 20,_=>exact dp1_20
 | 21,_=>exact dp1_21
 | 22,_=>exact dp1_22
 | 23,_=>exact dp1_23
 | 24,_=>exact dp1_24
 | 25,_=>exact dp1_25
 | 26,_=>exact dp1_26
 | 27,_=>exact dp1_27
 | 28,_=>exact dp1_28
 | 29,_=>exact dp1_29
 | 30,_=>exact dp1_30
 | 31,_=>exact dp1_31
 | 32,_=>exact dp1_32
 | 33,_=>exact dp1_33
 | 34,_=>exact dp1_34
 | 35,_=>exact dp1_35
 | 36,_=>exact dp1_36
 | 37,_=>exact dp1_37
 | 38,_=>exact dp1_38
 | 39,_=>exact dp1_39
 | 40,_=>exact dp1_40
 | 41,_=>exact dp1_41
 | 42,_=>exact dp1_42
 | 43,_=>exact dp1_43
 | 44,_=>exact dp1_44
 | 45,_=>exact dp1_45
 | 46,_=>exact dp1_46
 | 47,_=>exact dp1_47
 | 48,_=>exact dp1_48
 | 49,_=>exact dp1_49
 | 50,_=>exact dp1_50
 | 51,_=>exact dp1_51
 | 52,_=>exact dp1_52
 | 53,_=>exact dp1_53
 | 54,_=>exact dp1_54
 | 55,_=>exact dp1_55
 | 56,_=>exact dp1_56
 | 57,_=>exact dp1_57
 | 58,_=>exact dp1_58
 | 59,_=>exact dp1_59
 | n+60,h=>exact absurd h (by omega)
end Sy
namespace Sy
theorem dp2_0:deepB 2 0=true:=by kernel_rfl
theorem dp2_1:deepB 2 1=true:=by kernel_rfl
theorem dp2_2:deepB 2 2=true:=by kernel_rfl
theorem dp2_3:deepB 2 3=true:=by kernel_rfl
theorem dp2_4:deepB 2 4=true:=by kernel_rfl
theorem dp2_5:deepB 2 5=true:=by kernel_rfl
theorem dp2_6:deepB 2 6=true:=by kernel_rfl
theorem dp2_7:deepB 2 7=true:=by kernel_rfl
theorem dp2_8:deepB 2 8=true:=by kernel_rfl
theorem dp2_9:deepB 2 9=true:=by kernel_rfl
theorem dp2_10:deepB 2 10=true:=by kernel_rfl
theorem dp2_11:deepB 2 11=true:=by kernel_rfl
theorem dp2_12:deepB 2 12=true:=by kernel_rfl
theorem dp2_13:deepB 2 13=true:=by kernel_rfl
theorem dp2_14:deepB 2 14=true:=by kernel_rfl
theorem dp2_15:deepB 2 15=true:=by kernel_rfl
theorem dp2_16:deepB 2 16=true:=by kernel_rfl
theorem dp2_17:deepB 2 17=true:=by kernel_rfl
theorem dp2_18:deepB 2 18=true:=by kernel_rfl
theorem dp2_19:deepB 2 19=true:=by kernel_rfl
theorem dp2_20:deepB 2 20=true:=by kernel_rfl
theorem dp2_21:deepB 2 21=true:=by kernel_rfl
theorem dp2_22:deepB 2 22=true:=by kernel_rfl
theorem dp2_23:deepB 2 23=true:=by kernel_rfl
theorem dp2_24:deepB 2 24=true:=by kernel_rfl
theorem dp2_25:deepB 2 25=true:=by kernel_rfl
theorem dp2_26:deepB 2 26=true:=by kernel_rfl
theorem dp2_27:deepB 2 27=true:=by kernel_rfl
theorem dp2_28:deepB 2 28=true:=by kernel_rfl
theorem dp2_29:deepB 2 29=true:=by kernel_rfl
theorem dp2_30:deepB 2 30=true:=by kernel_rfl
theorem dp2_31:deepB 2 31=true:=by kernel_rfl
theorem dp2_32:deepB 2 32=true:=by kernel_rfl
theorem dp2_33:deepB 2 33=true:=by kernel_rfl
theorem dp2_34:deepB 2 34=true:=by kernel_rfl
theorem dp2_35:deepB 2 35=true:=by kernel_rfl
theorem dp2_36:deepB 2 36=true:=by kernel_rfl
theorem dp2_37:deepB 2 37=true:=by kernel_rfl
theorem dp2_38:deepB 2 38=true:=by kernel_rfl
theorem dp2_39:deepB 2 39=true:=by kernel_rfl
theorem dp2_40:deepB 2 40=true:=by kernel_rfl
theorem dp2_41:deepB 2 41=true:=by kernel_rfl
theorem dp2_42:deepB 2 42=true:=by kernel_rfl
theorem dp2_43:deepB 2 43=true:=by kernel_rfl
theorem dp2_44:deepB 2 44=true:=by kernel_rfl
theorem dp2_45:deepB 2 45=true:=by kernel_rfl
theorem dp2_46:deepB 2 46=true:=by kernel_rfl
theorem dp2_47:deepB 2 47=true:=by kernel_rfl
theorem dp2_48:deepB 2 48=true:=by kernel_rfl
theorem dp2_49:deepB 2 49=true:=by kernel_rfl
theorem dp2_50:deepB 2 50=true:=by kernel_rfl
theorem dp2_51:deepB 2 51=true:=by kernel_rfl
theorem dp2_52:deepB 2 52=true:=by kernel_rfl
theorem dp2_53:deepB 2 53=true:=by kernel_rfl
theorem dp2_54:deepB 2 54=true:=by kernel_rfl
theorem dp2_55:deepB 2 55=true:=by kernel_rfl
theorem dp2_56:deepB 2 56=true:=by kernel_rfl
theorem dp2_57:deepB 2 57=true:=by kernel_rfl
theorem dp2_58:deepB 2 58=true:=by kernel_rfl
theorem dp2_59:deepB 2 59=true:=by kernel_rfl
theorem dps2 (n:Nat) (hn:n < 60):deepB 2 n=true:=by
 match n,hn with
 | 0,_=>exact dp2_0
 | 1,_=>exact dp2_1
 | 2,_=>exact dp2_2
 | 3,_=>exact dp2_3
 | 4,_=>exact dp2_4
 | 5,_=>exact dp2_5
 | 6,_=>exact dp2_6
 | 7,_=>exact dp2_7
 | 8,_=>exact dp2_8
 | 9,_=>exact dp2_9
 | 10,_=>exact dp2_10
 | 11,_=>exact dp2_11
 | 12,_=>exact dp2_12
 | 13,_=>exact dp2_13
 | 14,_=>exact dp2_14
 | 15,_=>exact dp2_15
 | 16,_=>exact dp2_16
 | 17,_=>exact dp2_17
 | 18,_=>exact dp2_18
 | 19,_=>exact dp2_19
 | 20,_=>exact dp2_20
 | 21,_=>exact dp2_21
 | 22,_=>exact dp2_22
 | 23,_=>exact dp2_23
 | 24,_=>exact dp2_24
 | 25,_=>exact dp2_25
 | 26,_=>exact dp2_26
 | 27,_=>exact dp2_27
 | 28,_=>exact dp2_28
 | 29,_=>exact dp2_29
 | 30,_=>exact dp2_30
 | 31,_=>exact dp2_31
 | 32,_=>exact dp2_32
 | 33,_=>exact dp2_33
 | 34,_=>exact dp2_34
 | 35,_=>exact dp2_35
 | 36,_=>exact dp2_36
 | 37,_=>exact dp2_37
 | 38,_=>exact dp2_38
 | 39,_=>exact dp2_39
 | 40,_=>exact dp2_40
 | 41,_=>exact dp2_41
 | 42,_=>exact dp2_42
 | 43,_=>exact dp2_43
 | 44,_=>exact dp2_44
 | 45,_=>exact dp2_45
 | 46,_=>exact dp2_46
 | 47,_=>exact dp2_47
 | 48,_=>exact dp2_48
 | 49,_=>exact dp2_49
 | 50,_=>exact dp2_50
 | 51,_=>exact dp2_51
 | 52,_=>exact dp2_52
 | 53,_=>exact dp2_53
 | 54,_=>exact dp2_54
 | 55,_=>exact dp2_55
 | 56,_=>exact dp2_56
 | 57,_=>exact dp2_57
 | 58,_=>exact dp2_58
 | 59,_=>exact dp2_59
 | n+60,h=>exact absurd h (by omega)
end Sy
namespace Sy
theorem deep_at {k n:Nat} (hk:k < 3) (hn:n < 60):parseOk (textD k n)=true∧(if n≤38 then (dumpM (textD k n)).2=(0,0)∧(dumpM (textD k n)).1.size ≠ 0 else dumpM (textD k n)=(nt,5,0)):=by
 have h:deepB k n=true:=by
  match k,hk with
  | 0,_=>exact dps0 n hn
  | 1,_=>exact dps1 n hn
  | 2,_=>exact dps2 n hn
  | m+3,h=>exact absurd h (by omega)
 refine ⟨parseOk_any _ ?_,deepB_eq h⟩
 unfold textD
 have h1:=sD_size k n
 have h2:=eD_size k n
 rw [ByteArray.size_append,ByteArray.size_append,ByteArray.size_append,ByteArray.size_append]
 show 8+_+1+_+1≤_
 omega
end Sy
theorem deep_walk (x y:Int) (hx:I64 x) (hy:I64 y) (w:World) (hl:LaidP w):Calls Tryz.prog 8 #[.int .i64 x,.int .i64 y] w fun e w'=>e=.returned (.bool true)∧Keeps No w w':=by
 have HL:=zz hl
 obtain ⟨n,hn,hne⟩:=low_nat x 60 hx (by decide)
 have HLX:=zz (fun W=>low_any x 60 hx (by decide) W)
 rw [hne] at HLX
 obtain ⟨k,hk,hke⟩:=low_nat y 3 hy (by decide)
 have HLY:=zz (fun W=>low_any y 3 hy (by decide) W)
 rw [hke] at HLY
 have HAT:=zz (Sy.deep_at (k:=k) (n:=n) (by omega) (by omega))
 have hn60:n < 60:=by omega
 have HK3:Hid (k=0∨k=1∨k=2):=zz (by omega)
 clear hl hx hy hne hke hk hn
 go_enter Tryz.func8,Tryz.ntmps8
 go_wp2_with fail
 refine (HLX.out w).mono ?_
 rintro e' w1 ⟨rfl,rfl⟩
 go_wp2_with fail
 go_loopg [5,6,7] n (fun g s v u wr=>∃ i:Nat,u=.int .i64 (i:Int)∧s=.string (Sy.sD k i)∧v=.string (Sy.eD k i)∧i≤n∧g=n - i∧w=wr)
 case atStart=>exact ⟨0,rfl,rfl,rfl,Nat.zero_le _,rfl,rfl⟩
 case round =>
  obtain ⟨i,rfl,rfl,rfl,hi,rfl,rfl⟩:=hrel
  have hs:=Sy.sD_size k i
  have hv:=Sy.eD_size k i
  by_cases hlt:i < n
  · have hlt1:(i:Int) < (n:Int):=by omega
    rcases HK3.out with rfl | rfl | rfl
    · go_wp2_with fail
      refine (HLY.out w).mono ?_
      rintro e' w1 ⟨rfl,rfl⟩
      go_wp2_with fail
      go_roundg (n - (i+1))
      case rel=>exact ⟨i+1,by go_num,rfl,rfl,by omega,rfl,rfl⟩
      case measure=>omega
    · go_wp2_with fail
      refine (HLY.out w).mono ?_
      rintro e' w1 ⟨rfl,rfl⟩
      go_wp2_with fail
      go_roundg (n - (i+1))
      case rel=>exact ⟨i+1,by go_num,rfl,rfl,by omega,rfl,rfl⟩
      case measure=>omega
    · go_wp2_with fail
      refine (HLY.out w).mono ?_
      rintro e' w1 ⟨rfl,rfl⟩
      go_wp2_with fail
      go_roundg (n - (i+1))
      case rel=>exact ⟨i+1,by go_num,rfl,rfl,by omega,rfl,rfl⟩
      case measure=>omega
  · obtain rfl:i=n:=by omega
    have hlt1:¬ (i:Int) < (i:Int):=by omega
    by_cases hf:i≤38
    · obtain ⟨hok,hcd⟩:=HAT.out
      rw [if_pos hf] at hcd
      obtain ⟨hc2,hc1⟩:=hcd
      obtain ⟨t,ht⟩:∃ t,(Sy.dumpM (Sy.textD k i)).1=t:=⟨_,rfl⟩
      rw [ht] at hc1
      have hdm:Sy.dumpM (Sy.textD k i)=(t,0,0):=by rw [← ht,← hc2]
      have HCD:=zz (fun W hW=>dump_to _ _ _ _ hdm hok W hW)
      unfold Sy.textD at HCD
      have ht0:(0:Int) < (t.size:Int):=by omega
      have hf1:(2:Int)+(i:Int)≤40:=by omega
      clear hok hc2 ht hdm hc1
      go_wp2_with fail
      refine (HCD.out w HL.out).mono ?_
      rintro e' w3 ⟨rfl,hk3⟩
      go_upto_region 13 with fail
      have hn4:(w3.alloc (.cells #[.int .i64 0,.int .i64 0] 25)).heap[w3.heap.size]?=some (.cells #[.int .i64 0,.int .i64 0] 25 (0,0)):=heap_alloc_new _ _
      have hk4:Keeps No w (w3.alloc (.cells #[.int .i64 0,.int .i64 0] 25)):=hk3.alloc _
      generalize w3.alloc (.cells #[.int .i64 0,.int .i64 0] 25)=w4 at hn4 hk4 ⊢
      obtain ⟨R,hR⟩:∃ q,w3.heap.size=q:=⟨_,rfl⟩
      rw [hR] at hn4 ⊢
      have c0:w4.cell? ⟨R,0,none⟩=some (.int .i64 0):=by rw [cell_of_row w4 R 0 _ _ _ hn4]; rfl
      have HK4:=zz hk4
      have HAW:=zz (awake_any w4 (HL.out.no HK4.out))
      clear hR hn4 hk4 hk3
      go_wp2_with fail
      refine HAW.out.mono ?_
      rintro e' w9 ⟨rfl,hk9⟩
      have HK9:=zz (HK4.out.trans hk9 (fun _ _ e=>e))
      clear hk9 c0
      go_wp2_with fail
      go_returns
      exact ⟨rfl,HK9.out⟩
    · obtain ⟨hok,hdm⟩:=HAT.out
      rw [if_neg hf] at hdm
      have HCD:=zz (fun W hW=>dump_to _ ⟨#[]⟩ _ _ hdm hok W hW)
      unfold Sy.textD at HCD
      have hf1:¬ (2:Int)+(i:Int)≤40:=by omega
      clear hok hdm
      go_wp2_with fail
      refine (HCD.out w HL.out).mono ?_
      rintro e' w3 ⟨rfl,hk3⟩
      go_upto_region 13 with fail
      have hn4:(w3.alloc (.cells #[.int .i64 5,.int .i64 0] 25)).heap[w3.heap.size]?=some (.cells #[.int .i64 5,.int .i64 0] 25 (0,0)):=heap_alloc_new _ _
      have hk4:Keeps No w (w3.alloc (.cells #[.int .i64 5,.int .i64 0] 25)):=hk3.alloc _
      generalize w3.alloc (.cells #[.int .i64 5,.int .i64 0] 25)=w4 at hn4 hk4 ⊢
      obtain ⟨R,hR⟩:∃ q,w3.heap.size=q:=⟨_,rfl⟩
      rw [hR] at hn4 ⊢
      have c0:w4.cell? ⟨R,0,none⟩=some (.int .i64 5):=by rw [cell_of_row w4 R 0 _ _ _ hn4]; rfl
      have c1:w4.cell? ⟨R,1,none⟩=some (.int .i64 0):=by rw [cell_of_row w4 R 1 _ _ _ hn4]; rfl
      have HK4:=zz hk4
      have HAW:=zz (awake_any w4 (HL.out.no HK4.out))
      clear hR hn4 hk4 hk3
      go_wp2_with fail
      refine HAW.out.mono ?_
      rintro e' w9 ⟨rfl,hk9⟩
      have HK9:=zz (HK4.out.trans hk9 (fun _ _ e=>e))
      clear hk9 c0 c1
      go_wp2_with fail
      go_returns
      exact ⟨rfl,HK9.out⟩
end Go.Proofs.YtflbkdfbjofllaaGreatDoor
